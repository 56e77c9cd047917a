import Derived.Test.YtmocdokikcbjeaaWorks
namespace Go.Proofs.Ytmocdokikcbjeaa
open Go.RowKit Go.Shelf Go.Maps Go.Sort
attribute [local go_sem] Oper.semAt_some

/- CALLS, AS A LAW READS THEM. -/

structure Ac where
  what : Int
  page : Int
  many : Int
  en : En
def Ac.cells (x : Ac) : List Value := [.int .i64 x.what, .int .i64 x.page, .int .i64 x.many, .int .i64 x.en.1, .int .i64 x.en.2.1, .int .i64 x.en.2.2]
structure Ac.fits (x : Ac) : Prop where
  what : I64 x.what
  page : I64 x.page
  many : I64 x.many
  en : En64 x.en
/-- calls in memory -/
structure Acs (w : World) (l : List Ac) (A : Option Addr) : Prop where
  sees : Sees w w.heap.size A (l.flatMap Ac.cells)
  fits : ∀ x ∈ l, x.fits
theorem Acs.below {w w' : World} {l : List Ac} {A : Option Addr} (h : Acs w l A) (hb : Below w.heap.size w w') : Acs w' l A := ⟨(h.sees.below hb).more hb.size, h.fits⟩
theorem acs_get : ∀ (l : List Ac) (k j : Nat) (hk : k < l.length), j < 6 → (l.flatMap Ac.cells)[k * 6 + j]? = l[k].cells[j]?
  | [], k, _, h, _ => by simp at h
  | x :: r, 0, j, _, hj => by
    rw [List.flatMap_cons, Nat.zero_mul, Nat.zero_add, List.getElem?_append_left (by show j < 6; exact hj)]
    rfl
  | x :: r, k + 1, j, h, hj => by
    have := acs_get r k j (by simpa using h) hj
    rw [List.flatMap_cons, List.getElem?_append_right (by show 6 ≤ _; omega), show (k + 1) * 6 + j - x.cells.length = k * 6 + j by show (k + 1) * 6 + j - 6 = _; omega]
    exact this
/-- a call's six cells -/
structure AcAt (w : World) (ad : Addr) (k : Nat) (x : Ac) : Prop where
  c0 : w.cell? (ad.add (k * 6)) = some (.int .i64 x.what)
  c1 : w.cell? ⟨(ad.add (k * 6)).block, (ad.add (k * 6)).off + 1, none⟩ = some (.int .i64 x.page)
  c2 : w.cell? ⟨(ad.add (k * 6)).block, (ad.add (k * 6)).off + 2, none⟩ = some (.int .i64 x.many)
  c3 : w.cell? ⟨(ad.add (k * 6)).block, (ad.add (k * 6)).off + 3, none⟩ = some (.int .i64 x.en.1)
  c4 : w.cell? ⟨(ad.add (k * 6)).block, (ad.add (k * 6)).off + 4, none⟩ = some (.int .i64 x.en.2.1)
  c5 : w.cell? ⟨(ad.add (k * 6)).block, (ad.add (k * 6)).off + 5, none⟩ = some (.int .i64 x.en.2.2)
theorem Acs.at_ {w : World} {l : List Ac} {A : Option Addr} (h : Acs w l A) (k : Nat) (hk : k < l.length) : ∃ ad, A = some ad ∧ AcAt w ad k l[k] := by
  have hne : l.flatMap Ac.cells ≠ [] := fun e => by
    have := acs_get l k 0 hk (by omega)
    rw [e] at this
    simp [Ac.cells] at this
  obtain ⟨ad, hA, _, hc⟩ := h.sees hne
  refine ⟨ad, hA, hc _ _ (acs_get l k 0 hk (by omega)), ?_, ?_, ?_, ?_, ?_⟩
  · rw [← add_off ad (k * 6) 1 (by decide)]
    exact hc _ _ (acs_get l k 1 hk (by omega))
  · rw [← add_off ad (k * 6) 2 (by decide)]
    exact hc _ _ (acs_get l k 2 hk (by omega))
  · rw [← add_off ad (k * 6) 3 (by decide)]
    exact hc _ _ (acs_get l k 3 hk (by omega))
  · rw [← add_off ad (k * 6) 4 (by decide)]
    exact hc _ _ (acs_get l k 4 hk (by omega))
  · rw [← add_off ad (k * 6) 5 (by decide)]
    exact hc _ _ (acs_get l k 5 hk (by omega))
end Go.Proofs.Ytmocdokikcbjeaa
