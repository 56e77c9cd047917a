import Derived.Test.YtelhieinkdmpfaaDoorSN
namespace Go.Proofs.YtelhieinkdmpfaaDoor.Sh
open Go.RowKit Go.Shelf
attribute [local go_sem] Oper.semAt_some

/- NO SHEET; STATEPLAYS' STATE; CALLS THAT CAME IN. -/
abbrev NonT := World → Value → (Nat → Prop) → Prop
/-- what the laws ask of no sheet, and of a zero one -/
structure ApiN (Has : HasT) (Non : NonT) : Prop where
  keep : ∀ {w w' u G}, Non w u G → (∀ k, G k → w'.heap[k]? = w.heap[k]?) → Non w' u G
  lt : ∀ {w u G}, Non w u G → ∀ k, G k → k < w.heap.size
  move : ∀ {w u G}, Non w u G → Calls Tryd.prog 15 #[u, .int .i64 0, .int .i64 1] w fun e w' => e = .returned (.tuple #[.int .i64 0, .int .i64 1]) ∧ Below w.heap.size w w'
  get : ∀ {w u G}, Non w u G → Calls Tryd.prog 16 #[u, .int .i64 0] w fun e w' => e = .returned (.tuple #[.int .i64 0, .bool false]) ∧ Below w.heap.size w w'
  len : ∀ {w u G}, Non w u G → Calls Tryd.prog 18 #[u] w fun e w' => e = .returned (.int .i64 0) ∧ Below w.heap.size w w'
  count : ∀ {w u G}, Non w u G → Calls Tryd.prog 19 #[u, .int .i64 0] w fun e w' => e = .returned (.int .i64 0) ∧ Below w.heap.size w w'
  all : ∀ {w u G}, Non w u G → Calls Tryd.prog 20 #[u, .int .i64 0, .int .i64 9] w fun e w' => ∃ A c, e = .returned (.slice A 0 c) ∧ Below w.heap.size w w'
  text : ∀ {w u G}, Non w u G → Calls Tryd.prog 21 #[u] w fun e w' => e = .returned (.string ⟨#[]⟩) ∧ Below w.heap.size w w'
  copy : ∀ {w u G}, Non w u G → Calls Tryd.prog 22 #[u] w fun e w' => e = .returned (.pointer none) ∧ Below w.heap.size w w'
  same : ∀ {w u G}, Non w u G → Calls Tryd.prog 23 #[u, .pointer none] w fun e w' => e = .returned (.bool true) ∧ Below w.heap.size w w'
  same1 : ∀ {w u G v l F}, Non w u G → Has w v l F → Calls Tryd.prog 23 #[v, u] w fun e w' => e = .returned (.bool false) ∧ Below w.heap.size w w'
  same2 : ∀ {w u G v l F}, Non w u G → Has w v l F → Calls Tryd.prog 23 #[u, v] w fun e w' => e = .returned (.bool false) ∧ Below w.heap.size w w'
theorem ApiN.below {Has : HasT} {Non : NonT} (HN : ApiN Has Non) {w w' : World} {u : Value} {G : Nat → Prop} (h : Non w u G) (hb : Below w.heap.size w w') : Non w' u G := HN.keep h fun k hk => hb.block _ (HN.lt h k hk)
/-- calls that came in -/
structure Acs (w : World) (l : List Ac) (A : Option Addr) : Prop where
  sees : Sees w w.heap.size A (l.flatMap Ac.cells)
  fits : ∀ x ∈ l, x.fits
theorem add_off (a : Addr) (m j : Nat) (hj : j ≠ 0) : a.add (m + j) = ⟨(a.add m).block, (a.add m).off + j, none⟩ := by
  unfold Addr.add
  rw [if_neg (by omega)]
  split
  · rename_i h; subst h; simp
  · simp; omega
theorem acs_get : ∀ (l : List Ac) (k j : Nat) (hk : k < l.length), j < 3 → (l.flatMap Ac.cells)[k * 3 + j]? = l[k].cells[j]?
  | [], k, _, h, _ => by simp at h
  | x :: r, 0, j, _, hj => by
    rw [List.flatMap_cons, Nat.zero_mul, Nat.zero_add, List.getElem?_append_left (by show j < 3; exact hj)]
    rfl
  | x :: r, k + 1, j, h, hj => by
    have := acs_get r k j (by simpa using h) hj
    rw [List.flatMap_cons, List.getElem?_append_right (by show 3 ≤ _; omega), show (k + 1) * 3 + j - x.cells.length = k * 3 + j by show (k + 1) * 3 + j - 3 = _; omega]
    exact this
structure AtAc (w : World) (ad : Addr) (x : Ac) : Prop where
  c0 : w.cell? ad = some (.bool x.copy)
  c1 : w.cell? ⟨ad.block, ad.off + 1, none⟩ = some (.int .i64 x.at_)
  c2 : w.cell? ⟨ad.block, ad.off + 2, none⟩ = some (.int .i64 x.to)
theorem Acs.at_ {w : World} {l : List Ac} {A : Option Addr} (h : Acs w l A) (k : Nat) (hk : k < l.length) :
    ∃ ad, A = some ad ∧ AtAc w (ad.add (k * 3)) l[k] ∧ ∀ V, Below w.heap.size w V → AtAc V (ad.add (k * 3)) l[k] := by
  have hne : l.flatMap Ac.cells ≠ [] := fun e => by
    have := acs_get l k 0 hk (by omega)
    rw [e] at this
    simp [Ac.cells] at this
  obtain ⟨ad, hA, hlt, hc⟩ := h.sees hne
  have g : ∀ j, j < 3 → w.cell? (ad.add (k * 3 + j)) = l[k].cells[j]? := fun j hj => by
    have h1 := acs_get l k j hk hj
    rw [← h1]
    cases hx : (l.flatMap Ac.cells)[k * 3 + j]? with
    | some u => exact hc _ _ hx
    | none =>
      rw [h1] at hx
      have : j < l[k].cells.length := hj
      rw [List.getElem?_eq_getElem this] at hx
      cases hx
  have h0 : AtAc w (ad.add (k * 3)) l[k] := by
    refine ⟨g 0 (by omega), ?_, ?_⟩
    · rw [← add_off ad (k * 3) 1 (by decide)]
      exact g 1 (by omega)
    · rw [← add_off ad (k * 3) 2 (by decide)]
      exact g 2 (by omega)
  have hbk : (ad.add (k * 3)).block = ad.block := add_block _ _
  refine ⟨ad, hA, h0, fun V hb => ⟨?_, ?_, ?_⟩⟩
  · exact (hb.cell (by rw [hbk]; exact hlt)).trans h0.c0
  · exact (hb.cell (by show (ad.add (k * 3)).block < _; rw [hbk]; exact hlt)).trans h0.c1
  · exact (hb.cell (by show (ad.add (k * 3)).block < _; rw [hbk]; exact hlt)).trans h0.c2
/-- a law's own sheet, the document's list of the same, and none -/
structure PSt (Has : HasT) (Non : NonT) (w : World) (u : Value) (G : Nat → Prop) (v vv : Value) (l : Ls) (V : World) : Prop where
  ex : ∃ F, Has V v l F ∧ (∀ k, F k → w.heap.size ≤ k) ∧ Ap vv l F ∧ ∀ k, F k → ¬ G k
  wi : Wi V vv l
  non : Non V u G
  below : Below w.heap.size w V
section
variable {Has : HasT} {Non : NonT} (H : Api Has) (HN : ApiN Has Non) {w V V' : World} {u v vv : Value} {G : Nat → Prop} {l : Ls}
include H HN
theorem PSt.more (h : PSt Has Non w u G v vv l V) (hb : Below V.heap.size V V') : PSt Has Non w u G v vv l V' := by
  obtain ⟨⟨F, h1, h2, h3, h4⟩, h5, h6, h7⟩ := h
  exact ⟨⟨F, H.below h1 hb, h2, h3, h4⟩, h5.below hb, HN.below h6 hb, below0 h7 hb⟩
theorem PSt.act (hTb : Tb w) (h : PSt Has Non w u G v vv l V) (x : Ac) (hx : x.fits) : Calls Tryd.prog 24 #[v, vv, .agg x.cells.toArray] V fun e V' => ∃ v' vv', e = .returned (.tuple #[v', vv', .bool true]) ∧ PSt Has Non w u G v' vv' (actL l x) V' := by
  obtain ⟨⟨F, h1, h2, h3, h4⟩, h5, h6, h7⟩ := h
  refine (act_any H v vv l F x V (hTb.below h7) h1 h5 h3 hx).mono ?_
  rintro e V' ⟨v', vv', F', rfl, a1, a2, a3, a4, a5, _⟩
  have hs := h7.size
  refine ⟨v', vv', rfl, ⟨F', a1, fun k hk => (a5 k hk).elim (h2 k) (fun h => by omega), a3, fun k hk hg => (a5 k hk).elim (fun hf => h4 k hf hg) (fun h => by have := HN.lt h6 k hg; omega)⟩, a2, HN.keep h6 (fun k hk => a4.block k (HN.lt h6 k hk) (fun hf => h4 k hf hk)), h7.trans (a4.below h2 hs)⟩
theorem PSt.is (h : PSt Has Non w u G v vv l V) : Calls Tryd.prog 25 #[v, vv] V fun e V' => e = .returned (.bool true) ∧ PSt Has Non w u G v vv l V' := by
  obtain ⟨F, h1, _⟩ := h.ex
  exact (is_any H v vv l F V h1 h.wi).mono fun _ _ ⟨e, hb⟩ => ⟨e, PSt.more H HN h hb⟩
theorem PSt.same1 (h : PSt Has Non w u G v vv l V) : Calls Tryd.prog 23 #[v, u] V fun e V' => e = .returned (.bool false) ∧ PSt Has Non w u G v vv l V' := by
  obtain ⟨F, h1, _⟩ := h.ex
  exact (HN.same1 h.non h1).mono fun _ _ ⟨e, hb⟩ => ⟨e, PSt.more H HN h hb⟩
theorem PSt.same2 (h : PSt Has Non w u G v vv l V) : Calls Tryd.prog 23 #[u, v] V fun e V' => e = .returned (.bool false) ∧ PSt Has Non w u G v vv l V' := by
  obtain ⟨F, h1, _⟩ := h.ex
  exact (HN.same2 h.non h1).mono fun _ _ ⟨e, hb⟩ => ⟨e, PSt.more H HN h hb⟩
end
end Go.Proofs.YtelhieinkdmpfaaDoor.Sh
