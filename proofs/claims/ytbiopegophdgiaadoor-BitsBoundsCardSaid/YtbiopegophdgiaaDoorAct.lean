import Derived.Test.YtbiopegophdgiaaDoorInts
namespace Go.Proofs.YtbiopegophdgiaaDoor
open Go.RowKit Go.Shelf
attribute [local go_sem] Oper.semAt_some

/- A CALL BY BOTH. -/

theorem Bl.keep {w w' : World} {v : Value} {l : List Bool} {g : Nat} {ws : List Nat} (h : Bl w v l) (hk : Keep (· = g) w w') (hr : Row w g 73 (wds ws)) : Bl w' v l := by
  obtain ⟨A, c, h1, h2⟩ := h
  refine ⟨A, c, h1, fun hne => ?_⟩
  obtain ⟨ad, e, hlt, hc⟩ := h2 hne
  have h0 : 0 < (bls l).length := List.length_pos_iff.2 hne
  have hb : ad.block ≠ g := by
    intro hb
    have h3 := hc 0 _ (List.getElem?_eq_getElem h0)
    rw [bls_get (by rw [bls_len] at h0; exact h0)] at h3
    unfold World.cell? at h3
    rw [add_block, hb, show w.heap[g]? = _ from hr] at h3
    simp only at h3
    split at h3
    · cases h3
    · simp only [List.getElem?_toArray, wds, List.getElem?_map, Option.map_eq_some_iff] at h3
      obtain ⟨x, _, hx⟩ := h3
      cases hx
  exact ⟨ad, e, Nat.lt_of_lt_of_le hlt hk.size, fun j u hu => (hk.cell (by rw [add_block]; exact hlt) (by rw [add_block]; exact hb)).trans (hc j u hu)⟩

/-- a call: a copy, or a place marked or not -/
abbrev actV (cp : Bool) (at_ : Int) (is : Bool) : Value := .agg #[.bool cp, .int .i64 at_, .bool is]
def actL (l : List Bool) (cp : Bool) (at_ : Int) (is : Bool) : List Bool := if cp then l else if at_ < 0 then l else l.set at_.toNat is
theorem actL_len (l : List Bool) (cp : Bool) (at_ : Int) (is : Bool) : (actL l cp at_ is).length = l.length := by unfold actL; split; rfl; split; rfl; simp
theorem actL_out {l : List Bool} {at_ : Int} (is : Bool) (h : at_ < 0 ∨ (l.length : Int) ≤ at_) : actL l false at_ is = l := by
  unfold actL
  rw [if_neg (by decide)]
  split
  · rfl
  · exact List.set_eq_of_length_le (by omega)

def ActP (w : World) (b g : Nat) (l' : List Bool) (e : Ending) (w' : World) : Prop :=
  ∃ b' g' v', e = .returned (.tuple #[.pointer (some ⟨b', 0, none⟩), v', .bool true]) ∧ ((b' = b ∧ g' = g) ∨ (w.heap.size ≤ b' ∧ w.heap.size ≤ g')) ∧ Rep w' b' g' l' ∧ Bl w' v' l' ∧ Keep (· = g) w w'

set_option maxHeartbeats 1000000 in
theorem act_copy (b g : Nat) (l : List Bool) (v : Value) (at_ : Int) (is : Bool) (w : World) (h : Rep w b g l) (hv : Bl w v l) :
    Calls Tryd.prog 22 #[.pointer (some ⟨b, 0, none⟩), v, actV true at_ is] w (ActP w b g l) := by
  have hb0 := below1 w (.cells #[.bool true, .int .i64 at_, .bool is] 50)
  have hc := Lib.hid (copy_rep b g l _ (h.below hb0))
  have HV := Lib.hid (hv.below hb0)
  clear h hv
  go_enter Tryd.func22, Tryd.ntmps22
  go_wp2_with fail
  refine (hc.out).mono ?_
  rintro e w1 ⟨b', g', rfl, hb', hg', hr', hb1⟩
  have hfin := Lib.hid (show ActP w b g l (.returned (.tuple #[.pointer (some ⟨b', 0, none⟩), v, .bool true])) w1 from by
    simp at hb' hg'
    exact ⟨b', g', v, rfl, .inr ⟨by omega, by omega⟩, hr', HV.out.below hb1, Keep.of_below (below0 hb0 hb1)⟩)
  clear hb' hg' hr' hb1
  go_wp2
  exact bodyPost_ret (v := .tuple #[.pointer (some ⟨b', 0, none⟩), v, .bool true]) (by simp [results, Tryd.results22, go_sem]) rfl hfin.out

set_option maxHeartbeats 1000000 in
theorem act_out (b g : Nat) (l : List Bool) (v : Value) (at_ : Int) (is : Bool) (w : World) (h : Rep w b g l) (hv : Bl w v l) (ha : at_ < 0 ∨ (l.length : Int) ≤ at_) :
    Calls Tryd.prog 22 #[.pointer (some ⟨b, 0, none⟩), v, actV false at_ is] w (ActP w b g l) := by
  have hb0 := below1 w (.cells #[.bool false, .int .i64 at_, .bool is] 50)
  have hs := Lib.hid (set_out b g l at_ is _ (h.below hb0) ha)
  have HV := Lib.hid hv
  have hmost := h.most
  obtain ⟨A, c, rfl, hr⟩ := hv
  have key : ∀ w2 : World, Below (w.alloc (.cells #[.bool false, .int .i64 at_, .bool is] 50)).heap.size (w.alloc (.cells #[.bool false, .int .i64 at_, .bool is] 50)) w2 →
      w2.cell? ⟨w.heap.size, 1, none⟩ = some (.int .i64 at_) ∧ w2.cell? ⟨w.heap.size, 0, none⟩ = some (.bool false) ∧ w2.cell? ⟨w.heap.size, 2, none⟩ = some (.bool is) := fun w2 hb =>
    ⟨(hb.cell (p := ⟨w.heap.size, 1, none⟩) (by simp)).trans (cell_alloc_new _ _ _ _), (hb.cell (p := ⟨w.heap.size, 0, none⟩) (by simp)).trans (cell_alloc_new _ _ _ _), (hb.cell (p := ⟨w.heap.size, 2, none⟩) (by simp)).trans (cell_alloc_new _ _ _ _)⟩
  have HA := Lib.hid ha
  have HH := Lib.hid h
  obtain ⟨n, hn⟩ : ∃ n, n = l.length := ⟨_, rfl⟩
  have hn2 : n ≤ 4096 := by omega
  have ha2 : at_ < 0 ∨ (n : Int) ≤ at_ := by rw [hn]; exact ha
  rw [← hn]
  have HN := Lib.hid hn
  clear h ha hr hmost hn
  have fin : ∀ w3 : World, Below w.heap.size w w3 → ActP w b g l (.returned (.tuple #[.pointer (some ⟨b, 0, none⟩), .slice A n c, .bool true])) w3 := fun w3 hb3 =>
    ⟨b, g, _, rfl, .inl ⟨rfl, rfl⟩, HH.out.below hb3, by have := HV.out.below hb3; rw [← HN.out] at this; exact this, Keep.of_below hb3⟩
  have FIN := Lib.hid fin
  have KEY := Lib.hid key
  clear fin key
  rcases ha2 with ha2 | ha2
  · go_enter Tryd.func22, Tryd.ntmps22
    go_wp2_with fail
    refine (hs.out).mono ?_
    rintro e w1 ⟨rfl, hb1⟩
    have hB1 := below0 hb0 hb1
    obtain ⟨hc1, hc0, hc2⟩ := KEY.out _ hb1
    go_wp2_with fail
    refine (num_any _ _).mono ?_
    rintro e w2 ⟨rfl, rfl⟩
    have hh := Lib.hid (has_out b g l at_ w1 (HH.out.below hB1) HA.out)
    go_wp2_with fail
    refine (hh.out).mono ?_
    rintro e w2 ⟨rfl, hb2⟩
    have hB2 := below0 hB1 hb2
    go_wp2
    exact bodyPost_ret (v := .tuple #[.pointer (some ⟨b, 0, none⟩), .slice A n c, .bool true]) (by simp [results, Tryd.results22, go_sem]) rfl (FIN.out _ hB2)
  · by_cases h0 : at_ < 0
    · exact absurd ha2 (by omega)
    have e0 : decide (at_ < 0) = false := decide_eq_false h0
    have e1 : decide ((n : Int) ≤ at_) = true := decide_eq_true ha2
    go_enter Tryd.func22, Tryd.ntmps22
    go_wp2_with fail
    refine (hs.out).mono ?_
    rintro e w1 ⟨rfl, hb1⟩
    have hB1 := below0 hb0 hb1
    obtain ⟨hc1, hc0, hc2⟩ := KEY.out _ hb1
    go_wp2_with fail
    refine (num_any _ _).mono ?_
    rintro e w2 ⟨rfl, rfl⟩
    have hh := Lib.hid (has_out b g l at_ w1 (HH.out.below hB1) HA.out)
    go_wp2_with fail
    refine (hh.out).mono ?_
    rintro e w2 ⟨rfl, hb2⟩
    have hB2 := below0 hB1 hb2
    go_wp2
    exact bodyPost_ret (v := .tuple #[.pointer (some ⟨b, 0, none⟩), .slice A n c, .bool true]) (by simp [results, Tryd.results22, go_sem]) rfl (FIN.out _ hB2)
end Go.Proofs.YtbiopegophdgiaaDoor
