import Derived.Test.YtmifkbjdamhoiaaDoorWorks
namespace Go.Proofs.YtmifkbjdamhoiaaDoor
open Go.RowKit

theorem word_info : (Tryd.prog.info? 24).map (fun i => (i.zero, i.size, i.bytes)) = some (some (.int .u64 0), 1, 8) := by kernel_rfl
theorem nums_one {l : List Nat} : ∀ u ∈ nums l, u.oneCell' = true := by
  intro u hu
  simp only [nums, List.mem_map] at hu
  obtain ⟨b, _, rfl⟩ := hu
  rfl

set_option maxRecDepth 100000 in
set_option maxHeartbeats 1000000 in
theorem roundSums_great (n c : Nat) (A : Option Addr) (w : World) (ht : Tab w) (hm : n ≤ 140737488351232) (hg : 20 < n) :
    Calls Tryd.prog 3 #[.slice A n c] w fun e w' => e = .returned (.bool true) ∧ Below w.heap.size w w' := by
  have hg2 : decide (20 < (n : Int)) = true := by simp; omega
  clear hg hm
  go_enter Tryd.func3, Tryd.ntmps3
  go_wp2_with fail
  refine (works_any _ ht).mono ?_
  rintro e w3 ⟨rfl, hb3⟩
  go_wp2_with fail
  go_ret
  exact ⟨rfl, hb3⟩

set_option maxRecDepth 100000 in
set_option maxHeartbeats 2000000 in
theorem roundSums_small (l : List Nat) (n c : Nat) (A : Option Addr) (w : World) (ht : Tab w) (hn : l.length = n) (hm : n ≤ 20) (hl : Fits l) (hr : Sees w w.heap.size A (nums l)) :
    Calls Tryd.prog 3 #[.slice A n c] w fun e w' => e = .returned (.bool true) ∧ Below w.heap.size w w' := by
  obtain ⟨i0, hi, hz0, hz1, hz2⟩ := info_parts word_info
  have hll : (nums l).length = n * 1 := by rw [nums_length]; omega
  have hown0 : ∀ o, o = Obj.cells #[] 24 → (w.alloc o).ownsRow w.heap.size 24 1 (.slice (some ⟨w.heap.size, 0, none⟩) 0 0) 0 [] := fun o ho => by
    subst ho
    exact World.ownsRow_lit w #[] 0 (Nat.le_refl _) (Nat.zero_le _) rfl
  have hr0 := hr.alloc (Nat.le_refl _) (.cells #[] 24)
  have hb0 : Below w.heap.size w (w.alloc (.cells #[] 24)) := (Below.refl _ _).alloc (Nat.le_refl _) _
  have HL := Lib.hid hl
  have HN := Lib.hid hn
  clear hl hn
  go_enter Tryd.func3, Tryd.ntmps3
  go_wp2_with (first
    | (at_builtin; refine wpList_append_sees rfl (.tmp 17) (.tmp 18) 22 rfl w.heap.size 24 i0 _ 1 8 Tryd.underlying22 hi hz0 hz1 hz2 rfl (by decide) _ _ _ rfl (hown0 _ rfl) w.heap.size A n c (nums l) rfl hll hr0 nums_one (by unfold maxLen; omega) (by omega) (by simp) ?_; intro v1 w1 hown1 hg1 hv1)
    | (at_builtin; refine wpList_append_sees rfl (.tmp 19) (.tmp 20) 22 rfl w.heap.size 24 i0 _ 1 8 Tryd.underlying22 hi hz0 hz1 hz2 rfl (by decide) _ _ _ rfl (hown1.alloc _) (w1.heap.size + 1) (some ⟨w1.heap.size, 0, none⟩) 1 1 [.int .u64 77] rfl rfl (fun _ => ⟨_, rfl, by simp, cell_one_new _ _ _⟩) (by simp [Value.oneCell']) (by unfold maxLen; omega) (by omega) (by have := hg1.size; simp at this; simp; omega) ?_; intro v2 w2 hown2 hg2 hv2; obtain ⟨g, cap, rfl, hcap, hlt⟩ := hown2.form (by omega); have hcp := (own_cap hown2).1))
  have hs1 := hg1.size
  have hs2 := hg2.size
  have hb1 := hb0.grown hg1 (by simp) (fun k hk => ((hown0 _ rfl).lt k hk).1)
  have hb2 := (hb1.alloc hb1.size _).grown hg2 (by have := hb1.size; simp; omega) (fun k hk => (hown1.lt k hk).1)
  have ho2 : w2.ownsRow w.heap.size 24 1 (.slice (some ⟨g, 0, none⟩) (n + 1) cap) (n + 1) (nums l ++ [.int .u64 77]) := by simpa [Nat.zero_add] using hown2
  have hcp2 : n + 1 ≤ cap := by omega
  have hse2 : Sees w2 w2.heap.size (some ⟨g, 0, none⟩) (nums l) := by
    have := (Sees.of_own ho2).take (nums l).length
    simpa using this
  have hr2 := hr.below hb2
  have ht2 := ht.below hb2
  clear hown0 hr0 hb0 hown1 hg1 hv1 hg2 hown2 hv2 hcap hlt hcp hs1 hs2 hb1 hi hz0 hz1 hz2 hll hr ht
  refine (add_any l n cap _ w2 HN.out (by omega) HL.out hse2).mono ?_
  rintro e w3 ⟨rfl, hb3⟩
  have ho3 := own_below ho2 hb3 (Nat.le_refl _)
  have hse3 := (hse2.below hb3).more hb3.size
  have hr3 := hr2.below (hb3.mono hb2.size)
  have ht3 := ht2.below hb3
  have hB3 := hb2.trans (hb3.mono hb2.size)
  clear ho2 hse2 hr2 ht2 hb2 hb3
  go_wp2_with fail
  refine (mul_any l n cap _ w3 HN.out (by omega) HL.out hse3).mono ?_
  rintro e w4 ⟨rfl, hb4⟩
  have ho4 := own_below ho3 hb4 (Nat.le_refl _)
  have hr4 := hr3.below (hb4.mono hB3.size)
  have ht4 := ht3.below hb4
  have hB4 := hB3.trans (hb4.mono hB3.size)
  clear ho3 hse3 hr3 ht3 hB3 hb4
  go_wp2_with fail
  refine (refadd_any l n c A _ w4 HN.out (by omega) HL.out hr4).mono ?_
  rintro e w' ⟨rfl, rfl⟩
  go_wp2_with fail
  refine (refmul_any l n c A _ w4 HN.out (by omega) hr4).mono ?_
  rintro e w' ⟨rfl, rfl⟩
  obtain ⟨a1, h1⟩ : ∃ x, x = tellN (sumL l) := ⟨_, rfl⟩
  obtain ⟨a2, h2⟩ : ∃ x, x = tellE (sumL l) := ⟨_, rfl⟩
  obtain ⟨a3, h3⟩ : ∃ x, x = tellN (prodL l) := ⟨_, rfl⟩
  obtain ⟨a4, h4⟩ : ∃ x, x = tellE (prodL l) := ⟨_, rfl⟩
  rw [← h1, ← h2, ← h3, ← h4]
  clear h1 h2 h3 h4 HL
  have hse4 : Sees w4 w4.heap.size (some ⟨g, 0, none⟩) (nums l) := by
    have := (Sees.of_own ho4).take (nums l).length
    simpa using this
  have hc4 : w4.cell? ⟨g, n, none⟩ = some (.int .u64 77) := by
    rw [ho4.cellAt n (by omega), List.getElem?_append_right (by rw [nums_length]; have := HN.out; omega), nums_length, HN.out]
    simp
  have hg4 : g < w4.heap.size := lt_of_cell hc4
  clear ho4
  go_wp2_with fail
  go_loopw [12] (fun i wr => ∃ k : Nat, k ≤ n ∧ i = .int .i64 k ∧ Below w4.heap.size w4 wr) (fun i _ => n - (intOf i).toNat)
  case atStart => exact ⟨0, Nat.zero_le _, rfl, Below.refl _ _⟩
  case round =>
    obtain ⟨k, hk, rfl, hb⟩ := hrel
    have hck := (hb.cell (p := ⟨g, n, none⟩) hg4).trans hc4
    by_cases hlt : k < n
    · have hkl : k < l.length := by rw [HN.out]; exact hlt
      obtain ⟨ad, rfl, hadb, hcell⟩ := (hr4.below (hb.mono hB4.size)).num hkl
      obtain ⟨ad2, e2, hadb2, hcell2⟩ := (hse4.below hb).num hkl
      injection e2 with e2
      subst e2
      rw [add_plain, Nat.zero_add] at hcell2
      obtain ⟨x, hx⟩ : ∃ x, x = l[k] := ⟨_, rfl⟩
      rw [← hx] at hcell hcell2
      clear hx hck
      go_wp2_with fail
      go_quiet (fail)
      go_wp2_with fail
      go_roundw
      case rel => exact ⟨k + 1, by omega, by go_num, below_drewN hb _⟩
      case measure => simp [intOf]; omega
    · obtain rfl : k = n := by omega
      have htr := ht4.below hb
      have hBr := hB4.trans (hb.mono hB4.size)
      go_wp2_with ((with_reducible refine (num_any _ _).mono ?_); rintro e w' ⟨rfl, rfl⟩)
      refine (works_any _ htr).mono ?_
      rintro e w5 ⟨rfl, hb5⟩
      go_wp2_with fail
      go_ret
      exact ⟨rfl, hBr.trans (hb5.mono hBr.size)⟩

theorem roundSums_any (l : List Nat) (n c : Nat) (A : Option Addr) (w : World) (ht : Tab w) (hn : l.length = n) (hm : n ≤ 140737488351232) (hl : Fits l) (hr : Sees w w.heap.size A (nums l)) :
    Calls Tryd.prog 3 #[.slice A n c] w fun e w' => e = .returned (.bool true) ∧ Below w.heap.size w w' := by
  by_cases h : 20 < n
  · exact roundSums_great n c A w ht hm h
  · exact roundSums_small l n c A w ht hn (by omega) hl hr
end Go.Proofs.YtmifkbjdamhoiaaDoor
