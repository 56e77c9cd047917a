import Derived.Test.YtijgkjliienjhaaCM
import Derived.Test.YtijgkjliienjhaaCG
namespace Go.Proofs.Ytijgkjliienjhaa
open Go.RowKit Go.Shelf
attribute [local go_sem] Oper.semAt_some

/- CALLS THAT CAME IN; WHAT THEY DO, PLAINLY. -/
structure Ac where
  what : Int
  at_ : Int
  src : Nat
  dst : Nat
def Ac.cells (x : Ac) : List Value := [.int .i64 x.what, .int .i64 x.at_, .int .u64 (x.src : Int), .int .u64 (x.dst : Int)]
def Ac.fits (x : Ac) : Prop := (-9223372036854775808 ≤ x.at_ ∧ x.at_ ≤ 9223372036854775807) ∧ x.src < 18446744073709551616 ∧ x.dst < 18446744073709551616
structure Acs (w : World) (l : List Ac) (A : Option Addr) : Prop where
  sees : Sees w w.heap.size A (l.flatMap Ac.cells)
  fits : ∀ x ∈ l, x.fits
theorem Acs.below {w w' : World} {l : List Ac} {A : Option Addr} (h : Acs w l A) (hb : Below w.heap.size w w') : Acs w' l A := ⟨(h.sees.below hb).more hb.size, h.fits⟩
theorem acs_get : ∀ (l : List Ac) (k j : Nat) (hk : k < l.length), j < 4 → (l.flatMap Ac.cells)[k * 4 + j]? = l[k].cells[j]?
  | [], k, _, h, _ => by simp at h
  | x :: r, 0, j, _, hj => by
    rw [List.flatMap_cons, Nat.zero_mul, Nat.zero_add, List.getElem?_append_left (by show j < 4; exact hj)]
    rfl
  | x :: r, k + 1, j, h, hj => by
    have := acs_get r k j (by simpa using h) hj
    rw [List.flatMap_cons, List.getElem?_append_right (by show 4 ≤ _; omega), show (k + 1) * 4 + j - x.cells.length = k * 4 + j by show (k + 1) * 4 + j - 4 = _; omega]
    exact this
/-- a call's four cells -/
structure AtAc (w : World) (ad : Addr) (x : Ac) : Prop where
  c0 : w.cell? ad = some (.int .i64 x.what)
  c1 : w.cell? ⟨ad.block, ad.off + 1, none⟩ = some (.int .i64 x.at_)
  c2 : w.cell? ⟨ad.block, ad.off + 2, none⟩ = some (.int .u64 (x.src : Int))
  c3 : w.cell? ⟨ad.block, ad.off + 3, none⟩ = some (.int .u64 (x.dst : Int))
theorem Acs.at_ {w : World} {l : List Ac} {A : Option Addr} (h : Acs w l A) (k : Nat) (hk : k < l.length) :
    ∃ ad, A = some ad ∧ AtAc w (ad.add (k * 4)) l[k] ∧ ∀ V, Below w.heap.size w V → AtAc V (ad.add (k * 4)) l[k] := by
  have hne : l.flatMap Ac.cells ≠ [] := fun e => by
    have := acs_get l k 0 hk (by omega)
    rw [e] at this
    simp [Ac.cells] at this
  obtain ⟨ad, hA, hlt, hc⟩ := h.sees hne
  have g : ∀ j, j < 4 → w.cell? (ad.add (k * 4 + j)) = l[k].cells[j]? := fun j hj => by
    have h1 := acs_get l k j hk hj
    rw [← h1]
    cases hx : (l.flatMap Ac.cells)[k * 4 + j]? with
    | some u => exact hc _ _ hx
    | none =>
      rw [h1] at hx
      have : j < l[k].cells.length := hj
      rw [List.getElem?_eq_getElem this] at hx
      cases hx
  have h0 : AtAc w (ad.add (k * 4)) l[k] := by
    refine ⟨g 0 (by omega), ?_, ?_, ?_⟩
    · rw [← add_off ad (k * 4) 1 (by decide)]
      exact g 1 (by omega)
    · rw [← add_off ad (k * 4) 2 (by decide)]
      exact g 2 (by omega)
    · rw [← add_off ad (k * 4) 3 (by decide)]
      exact g 3 (by omega)
  have hbk : (ad.add (k * 4)).block = ad.block := add_block _ _
  refine ⟨ad, hA, h0, fun V hb => ⟨?_, ?_, ?_, ?_⟩⟩
  · exact (hb.cell (by rw [hbk]; exact hlt)).trans h0.c0
  · exact (hb.cell (by show (ad.add (k * 4)).block < _; rw [hbk]; exact hlt)).trans h0.c1
  · exact (hb.cell (by show (ad.add (k * 4)).block < _; rw [hbk]; exact hlt)).trans h0.c2
  · exact (hb.cell (by show (ad.add (k * 4)).block < _; rw [hbk]; exact hlt)).trans h0.c3

/-- is there such a cell? -/
def inL (l : Cs) (z : Int) : Bool := decide (0 ≤ z ∧ z < (l.length : Int))
def errL (l : Cs) (z : Int) : Int := if inL l z then 0 else 4
def storeL (l : Cs) (z : Int) (n : Nat) : Cs := if inL l z then put l z.toNat n else l
def swapQ (l : Cs) (z : Int) (x : Nat) : Bool := inL l z && decide ((l.getD z.toNat (0, 0)).1 = x)
def swapL (l : Cs) (z : Int) (x n : Nat) : Cs := if swapQ l z x then put l z.toNat n else l
theorem inL_nat {l : Cs} {z : Int} (h : inL l z = true) : ∃ k : Nat, z = (k : Int) ∧ k < l.length := by
  have := of_decide_eq_true h
  exact ⟨z.toNat, by omega, by omega⟩
theorem inL_no {l : Cs} {z : Int} (h : inL l z = false) : z < 0 ∨ (l.length : Int) ≤ z := by
  have := of_decide_eq_false h
  omega
theorem inL_of {l : Cs} {k : Nat} (h : k < l.length) : inL l (k : Int) = true := decide_eq_true (by omega)
theorem storeL_len (l : Cs) (z : Int) (n : Nat) : (storeL l z n).length = l.length := by unfold storeL; split <;> simp [put_len]
theorem swapL_len (l : Cs) (z : Int) (x n : Nat) : (swapL l z x n).length = l.length := by unfold swapL; split <;> simp [put_len]
/-- a cell's count rises, and its word stays where the count stays -/
structure Up (l l' : Cs) (k : Nat) : Prop where
  le : (l.getD k (0, 0)).2 ≤ (l'.getD k (0, 0)).2
  eq : (l'.getD k (0, 0)).2 = (l.getD k (0, 0)).2 → (l'.getD k (0, 0)).1 = (l.getD k (0, 0)).1
theorem Up.refl (l : Cs) (k : Nat) : Up l l k := ⟨Nat.le_refl _, fun _ => rfl⟩
theorem put_up {l : Cs} {k j n : Nat} (hj : j < l.length) : Up l (put l j n) k := by
  rw [put_at hj]
  by_cases h : j = k
  · subst h
    refine ⟨?_, fun e => ?_⟩
    · simp [hj]
    · simp [hj] at e
  · have e : (l.set j (n, l[j].2 + 1)).getD k (0, 0) = l.getD k (0, 0) := by simp [List.getD_eq_getElem?_getD, List.getElem?_set_ne h]
    exact ⟨by rw [e]; exact Nat.le_refl _, fun _ => by rw [e]⟩
theorem store_up (l : Cs) (z : Int) (n k : Nat) : Up l (storeL l z n) k := by
  unfold storeL
  split
  · rename_i h
    obtain ⟨j, rfl, hj⟩ := inL_nat h
    exact put_up hj
  · exact Up.refl l k
theorem swap_up (l : Cs) (z : Int) (x n k : Nat) : Up l (swapL l z x n) k := by
  unfold swapL
  split
  · rename_i h
    obtain ⟨j, rfl, hj⟩ := inL_nat (Bool.and_eq_true_iff.1 h).1
    exact put_up hj
  · exact Up.refl l k
section
variable {w W W' : World} {b g c m k n x : Nat} {l : Cs} {z : Int}
theorem Run.drew (h : Run w b g c m l W) : Run w b g c m l W.drew := ⟨h.rep.drew, h.ok, ⟨h.below.os, h.below.tape, h.below.output, h.below.size, h.below.block⟩, h.hb, h.hg⟩
theorem Run.store (h : Run w b g c m l W) (z : Int) (hm : m < 1000000) (hn : n < 18446744073709551616) : Calls Try.prog 13 #[bx b, .int .i64 z, .int .u64 (n : Int)] W fun e w' => e = .returned (.int .i64 (errL l z)) ∧ Run w b g c (m + 1) (storeL l z n) w' := by
  cases hq : inL l z
  · have := (h.storeO (n := n) (inL_no hq)).mono fun _ _ ⟨e, h1⟩ => And.intro e (h1.up (m' := m + 1) (by omega))
    simpa [errL, storeL, hq] using this
  · obtain ⟨k, rfl, hk⟩ := inL_nat hq
    have := h.storeI (n := n) hk hm hn
    simpa [errL, storeL, hq] using this
theorem Run.swap (h : Run w b g c m l W) (z : Int) (x : Nat) (hm : m < 1000000) (hn : n < 18446744073709551616) : Calls Try.prog 10 #[bx b, .int .i64 z, .int .u64 (x : Int), .int .u64 (n : Int)] W fun e w' => e = .returned (.tuple #[.bool (swapQ l z x), .int .i64 (errL l z)]) ∧ Run w b g c (m + 1) (swapL l z x n) w' := by
  cases hq : inL l z
  · have hs : swapQ l z x = false := by simp [swapQ, hq]
    have := (h.swapO (x := x) (n := n) (inL_no hq)).mono fun _ _ ⟨e, h1⟩ => And.intro e (h1.up (m' := m + 1) (by omega))
    simpa [errL, swapL, hs, hq] using this
  · obtain ⟨k, rfl, hk⟩ := inL_nat hq
    have e : l.getD k (0, 0) = l[k] := by simp [hk]
    by_cases hx : l[k].1 = x
    · have hs : swapQ l (k : Int) x = true := by simp [swapQ, hq, hx, hk]
      have := h.swapY hk hx hm hn
      simpa [errL, swapL, hs, hq] using this
    · have hs : swapQ l (k : Int) x = false := by simp [swapQ, hx, hk]
      have := (h.swapN (n := n) hk hx).mono fun _ _ ⟨e, h1⟩ => And.intro e (h1.up (m' := m + 1) (by omega))
      simpa [errL, swapL, hs, hq] using this
theorem Run.load (h : Run w b g c m l W) (hk : k < l.length) : Calls Try.prog 9 #[bx b, .int .i64 (k : Int)] W fun e w' => e = .returned (.tuple #[.int .u64 ((l.getD k (0, 0)).1 : Int), .int .i64 0]) ∧ W = w' := by
  have e : l.getD k (0, 0) = l[k] := by simp [hk]
  rw [e]
  exact load_in b g c k l W h.rep hk
theorem Run.count (h : Run w b g c m l W) (hk : k < l.length) : Calls Try.prog 11 #[bx b, .int .i64 (k : Int)] W fun e w' => e = .returned (.tuple #[.int .i64 ((l.getD k (0, 0)).2 : Int), .int .i64 0]) ∧ W = w' := by
  have e : l.getD k (0, 0) = l[k] := by simp [hk]
  rw [e]
  exact count_in b g c k l W h.rep hk
end
end Go.Proofs.Ytijgkjliienjhaa
