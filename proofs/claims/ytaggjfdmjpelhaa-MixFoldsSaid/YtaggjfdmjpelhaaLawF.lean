import Derived.Test.YtaggjfdmjpelhaaLawS
namespace Go.Proofs.Ytaggjfdmjpelhaa
open Go.RowKit Go.Shelf
attribute [local go_sem] Oper.semAt_some

/- MIXFOLDS. -/

theorem mixFolds_great (n c : Nat) (A : Option Addr) (w : World) (hg : 100 < n) :
    Calls Try.prog 5 #[.slice A n c] w fun e w' => e = .returned (.bool true) ∧ Below w.heap.size w w' := by
  have hg2 : decide (100 < (n : Int)) = true := decide_eq_true (by omega)
  clear hg
  go_enter Try.func5, Try.ntmps5
  go_wp2_with fail
  refine (works_any _).mono ?_
  rintro e w3 ⟨rfl, hb3⟩
  go_wp2_with fail
  go_ret
  exact ⟨rfl, hb3⟩

set_option maxHeartbeats 2000000 in
theorem mixFolds_small (l : List Nat) (c : Nat) (A : Option Addr) (w : World) (hm : l.length ≤ 100) (hl : Fit l) (hr : Sees w w.heap.size A (wds l)) :
    Calls Try.prog 5 #[.slice A l.length c] w fun e w' => e = .returned (.bool true) ∧ Below w.heap.size w w' := by
  obtain ⟨i0, hi, hz0, hz1, hz2⟩ := info_parts word_info
  have hf1 := Lib.hid (fun A c W hr => fold_any l A c W hl (by omega) hr)
  have hf2 := Lib.hid (fun A c W hr => rfold_any l A c W hl (by omega) hr)
  obtain ⟨s, hs⟩ : ∃ s, s = foldN l := ⟨_, rfl⟩
  rw [← hs] at hf1 hf2
  clear hs hl
  obtain ⟨n, hn⟩ : ∃ n, n = l.length := ⟨_, rfl⟩
  rw [← hn] at hm hf1 hf2 ⊢
  have hll : (wds l).length = n * 1 := by rw [wds_len]; omega
  have hown0 : ∀ o, o = Obj.cells #[] 23 → (w.alloc o).ownsRow w.heap.size 23 1 (.slice (some ⟨w.heap.size, 0, none⟩) 0 0) 0 [] := fun o ho => by
    subst ho
    exact World.ownsRow_lit w #[] 0 (Nat.le_refl _) (Nat.zero_le _) rfl
  have hr0 := hr.alloc (Nat.le_refl _) (.cells #[] 23)
  have hb0 : Below w.heap.size w (w.alloc (.cells #[] 23)) := (Below.refl _ _).alloc (Nat.le_refl _) _
  have HN := Lib.hid hn
  have e0 : decide (100 < (n : Int)) = false := decide_eq_false (by omega)
  clear hn
  go_enter Try.func5, Try.ntmps5
  go_wp2_with (first
    | (at_builtin; refine wpList_append_sees rfl (.tmp 10) (.tmp 11) 36 rfl w.heap.size 23 i0 _ 1 8 Try.underlying36 hi hz0 hz1 hz2 rfl (by decide) _ _ _ rfl (hown0 _ rfl) w.heap.size A n c (wds l) rfl hll hr0 wds_one (by unfold maxLen; omega) (by omega) (by simp) ?_; intro v1 w1 hown1 hg1 hv1)
    | (at_builtin; refine wpList_append_sees rfl (.tmp 12) (.tmp 13) 36 rfl w.heap.size 23 i0 _ 1 8 Try.underlying36 hi hz0 hz1 hz2 rfl (by decide) _ _ _ rfl (hown1.alloc _) (w1.heap.size + 1) (some ⟨w1.heap.size, 0, none⟩) 1 1 [.int .u64 77] rfl rfl (fun _ => ⟨_, rfl, by simp, cell_one_new _ _ _⟩) (by simp [Value.oneCell']) (by unfold maxLen; omega) (by omega) (by have := hg1.size; simp at this; simp; omega) ?_; intro v2 w2 hown2 hg2 hv2; obtain ⟨g, cap, rfl, hcap, hlt⟩ := hown2.form (by omega); have hcp := (own_cap hown2).1))
  have hs1 := hg1.size
  have hs2 := hg2.size
  have hb1 := hb0.grown hg1 (by simp) (fun k hk => ((hown0 _ rfl).lt k hk).1)
  have hb2 := (hb1.alloc hb1.size _).grown hg2 (by have := hb1.size; simp; omega) (fun k hk => (hown1.lt k hk).1)
  have ho2 : w2.ownsRow w.heap.size 23 1 (.slice (some ⟨g, 0, none⟩) (n + 1) cap) (n + 1) (wds l ++ [.int .u64 77]) := by simpa [Nat.zero_add] using hown2
  have hcp2 : n + 1 ≤ cap := by omega
  have hse2 : Sees w2 w2.heap.size (some ⟨g, 0, none⟩) (wds l) := by
    have := (Sees.of_own ho2).take (wds l).length
    simpa using this
  have hr2 := hr.below hb2
  clear hown0 hr0 hb0 hown1 hg1 hv1 hg2 hown2 hv2 hcap hlt hcp hs1 hs2 hb1 hi hz0 hz1 hz2 hll hr
  refine (hf1.out _ _ w2 hse2).mono ?_
  rintro e w4 ⟨rfl, hb3⟩
  have ho4 := own_below ho2 hb3 (Nat.le_refl _)
  have hr4 := hr2.below (hb3.mono hb2.size)
  have hB4 := hb2.trans (hb3.mono hb2.size)
  clear ho2 hse2 hr2 hb2 hb3
  have hse4 : Sees w4 w4.heap.size (some ⟨g, 0, none⟩) (wds l) := by
    have := (Sees.of_own ho4).take (wds l).length
    simpa using this
  have hc4 : w4.cell? ⟨g, n, none⟩ = some (.int .u64 77) := by
    rw [ho4.cellAt n (by omega), List.getElem?_append_right (by rw [wds_len]; have := HN.out; omega), wds_len, HN.out]
    simp
  have hg4 : g < w4.heap.size := lt_of_cell hc4
  clear ho4
  go_wp2_with fail
  go_loopw [5] (fun i wr => ∃ k : Nat, k ≤ n ∧ i = .int .i64 k ∧ Below w4.heap.size w4 wr) (fun i _ => n - (intOf i).toNat)
  case atStart => exact ⟨0, Nat.zero_le _, rfl, Below.refl _ _⟩
  case round =>
    obtain ⟨k, hk, rfl, hb⟩ := hrel
    have hck := (hb.cell (p := ⟨g, n, none⟩) hg4).trans hc4
    by_cases hlt : k < n
    · have hkl : k < l.length := by rw [← HN.out]; exact hlt
      obtain ⟨ad, rfl, hadb, hcell⟩ := (hr4.below (hb.mono hB4.size)).at_ (k := k) (by rw [wds_len]; exact hkl)
      obtain ⟨ad2, e2, hadb2, hcell2⟩ := (hse4.below hb).at_ (k := k) (by rw [wds_len]; exact hkl)
      injection e2 with e2
      subst e2
      rw [add_plain, Nat.zero_add] at hcell2
      rw [wds_at hkl] at hcell hcell2
      obtain ⟨x, hx⟩ : ∃ x, x = l[k] := ⟨_, rfl⟩
      rw [← hx] at hcell hcell2
      clear hx hck
      go_wp2_with fail
      go_quiet (fail)
      go_wp2_with fail
      go_roundw
      case rel => exact ⟨k + 1, by omega, by go_num, below_drewN hb _⟩
      case measure => simp [intOf]; omega
    · obtain rfl : k = n := by omega
      have hBr := hB4.trans (hb.mono hB4.size)
      have hq := Lib.hid (hf2.out A c wr ((hr4.below (hb.mono hB4.size)).more hBr.size))
      clear hf1 hf2 hse4 hr4
      go_wp2_with fail
      refine (hq.out).mono ?_
      rintro e w5 ⟨rfl, hb5⟩
      have hck5 := (hb5.cell (p := ⟨g, k, none⟩) (by have := hb.size; simp; omega)).trans hck
      have hB5 := hBr.trans (hb5.mono hBr.size)
      clear hck hb5 hBr hb hc4
      go_wp2_with fail
      refine (works_any _).mono ?_
      rintro e w6 ⟨rfl, hb6⟩
      go_wp2_with fail
      go_ret
      exact ⟨rfl, hB5.trans (hb6.mono hB5.size)⟩

theorem mixFolds_any (l : List Nat) (n c : Nat) (A : Option Addr) (w : World) (hn : l.length = n) (hl : Fit l) (hr : Sees w w.heap.size A (wds l)) :
    Calls Try.prog 5 #[.slice A n c] w fun e w' => e = .returned (.bool true) ∧ Below w.heap.size w w' := by
  subst hn
  by_cases h : 100 < l.length
  · exact mixFolds_great _ c A w h
  · exact mixFolds_small l c A w (by omega) hl hr
end Go.Proofs.Ytaggjfdmjpelhaa
