import Derived.Test.YtcbaocnhaabgaaaDoorLaw1
namespace Go.Proofs.YtcbaocnhaabgaaaDoor
open Go.RowKit

theorem leVal_top {l : List UInt8} (hk : wid l.length = true) : (leVal l : Int) ≤ topOf l.length := by
  rw [topOf_pow hk]
  have := leVal_lt256 l
  omega

section
variable (l : List UInt8) (n c : Nat) (A : Option Addr) (w : World)

set_option maxHeartbeats 1000000 in
theorem wordGets_arg (ht : Tab w) (hn : l.length = n) (hm : n ≤ 140737488351232) (hk : wid n = false) (hr : Sees w w.heap.size A (byt l)) :
    Calls Tryd.prog 4 #[.slice A n c] w fun e w' => e = .returned (.bool true) ∧ Below w.heap.size w w' := by
  have hk0 := Lib.hid hk
  clear hk
  go_enter Tryd.func4, Tryd.ntmps4
  go_wp2_with fail
  refine (lent_any l n c _ A w hn hm hr (Nat.le_refl _)).mono ?_
  rintro e w1 ⟨g, cap, rfl, hown1, hb1⟩
  have ht1 := ht.below hb1
  go_wp2_with fail
  refine (get_arg n cap _ _ ht1 hk0.out).mono ?_
  rintro e w2 ⟨rfl, hb2⟩
  have ht2 := ht1.below hb2
  have hB2 := hb1.trans (hb2.mono hb1.size)
  have hown2 := own_below hown1 hb2 (Nat.le_refl _)
  have hr2 := hr.below hB2
  clear hb1 hb2 hown1 ht1
  go_wp2_with fail
  refine (refget_arg n c A _ hk0.out).mono ?_
  rintro e w' ⟨rfl, rfl⟩
  go_wp2_with fail
  refine (num_any _ _).mono ?_
  rintro e w' ⟨rfl, rfl⟩
  go_wp2_with fail
  refine (kept_any l n c _ g cap _ A _ hn hm hr2 hown2).mono ?_
  rintro e w' ⟨rfl, rfl⟩
  go_wp2_with fail
  refine (works_any _ ht2).mono ?_
  rintro e w3 ⟨rfl, hb3⟩
  go_wp2_with fail
  go_ret
  exact ⟨rfl, hB2.trans (hb3.mono hB2.size)⟩

set_option maxHeartbeats 1000000 in
theorem wordGets_ok (ht : Tab w) (hn : l.length = n) (hm : n ≤ 140737488351232) (hk : wid n = true) (hr : Sees w w.heap.size A (byt l)) :
    Calls Tryd.prog 4 #[.slice A n c] w fun e w' => e = .returned (.bool true) ∧ Below w.heap.size w w' := by
  have hk0 := Lib.hid hk
  clear hk
  go_enter Tryd.func4, Tryd.ntmps4
  go_wp2_with fail
  refine (lent_any l n c _ A w hn hm hr (Nat.le_refl _)).mono ?_
  rintro e w1 ⟨g, cap, rfl, hown1, hb1⟩
  have ht1 := ht.below hb1
  have hs1 : Sees w1 w1.heap.size (some ⟨g, 0, none⟩) (byt l) := by simpa using (Sees.of_own hown1).take (byt l).length
  go_wp2_with fail
  refine (get_ok l n cap _ _ _ ht1 hn hk0.out hs1 (Nat.le_refl _)).mono ?_
  rintro e w2 ⟨rfl, hb2⟩
  have ht2 := ht1.below hb2
  have hB2 := hb1.trans (hb2.mono hb1.size)
  have hown2 := own_below hown1 hb2 (Nat.le_refl _)
  have hr2 := hr.below hB2
  clear hb1 hb2 hown1 ht1 hs1
  go_wp2_with fail
  refine (refget_ok l n c _ A _ hn hk0.out hr2).mono ?_
  rintro e w' ⟨rfl, rfl⟩
  go_wp2_with fail
  refine (num_any _ _).mono ?_
  rintro e w' ⟨rfl, rfl⟩
  go_wp2_with fail
  refine (kept_any l n c _ g cap _ A _ hn hm hr2 hown2).mono ?_
  rintro e w' ⟨rfl, rfl⟩
  clear hown2
  go_wp2_with fail
  refine (put_ok (leVal l) n _ ht2 hk0.out (by have := hk0.out; rw [← hn] at this ⊢; exact leVal_top this)).mono ?_
  rintro e w3 ⟨g3, cap3, rfl, hown3, hb3⟩
  have ht3 := ht2.below hb3
  have hB3 := hB2.trans (hb3.mono hB2.size)
  have hr3 := hr.below hB3
  have hle : le n (leVal l) = l := by rw [← hn]; exact le_leVal l
  rw [hle] at hown3
  have hc1 := run_conv_sees (P := Tryd.prog) w3 Tryd.underlying23 Tryd.underlying5 Tryd.underlying9 (c := cap3) hn (Sees.of_own hown3)
  have hc2 := run_conv_sees (P := Tryd.prog) w3 Tryd.underlying23 Tryd.underlying5 Tryd.underlying9 (c := c) hn hr3
  clear hown3 hle hb3 hB2 hr2 hr hr3 hn
  go_wp2_with fail
  refine (num_any _ _).mono ?_
  rintro e w' ⟨rfl, rfl⟩
  clear hc1 hc2
  go_wp2_with fail
  refine (works_any _ ht3).mono ?_
  rintro e w4 ⟨rfl, hb4⟩
  go_wp2_with fail
  go_ret
  exact ⟨rfl, hB3.trans (hb4.mono hB3.size)⟩

theorem wordGets_any (ht : Tab w) (hn : l.length = n) (hm : n ≤ 140737488351232) (hr : Sees w w.heap.size A (byt l)) :
    Calls Tryd.prog 4 #[.slice A n c] w fun e w' => e = .returned (.bool true) ∧ Below w.heap.size w w' := by
  by_cases hk : wid n = true
  · exact wordGets_ok l n c A w ht hn hm hk hr
  · exact wordGets_arg l n c A w ht hn hm (by simpa using hk) hr

set_option maxHeartbeats 1000000 in
theorem wordZeros_any (ht : Tab w) (hn : l.length = n) (hm : n ≤ 140737488351232) (hr : Sees w w.heap.size A (byt l)) :
    Calls Tryd.prog 5 #[.slice A n c] w fun e w' => e = .returned (.bool true) ∧ Below w.heap.size w w' := by
  by_cases hbig : 10000 < n
  · go_enter Tryd.func5, Tryd.ntmps5
    go_wp2_with fail
    refine (works_any _ ht).mono ?_
    rintro e w3 ⟨rfl, hb3⟩
    go_wp2_with fail
    go_ret
    exact ⟨rfl, hb3⟩
  · go_enter Tryd.func5, Tryd.ntmps5
    go_wp2_with fail
    refine (lent_any l n c _ A w hn hm hr (Nat.le_refl _)).mono ?_
    rintro e w1 ⟨g, cap, rfl, hown1, hb1⟩
    have ht1 := ht.below hb1
    have hs1 : Sees w1 w1.heap.size (some ⟨g, 0, none⟩) (byt l) := by simpa using (Sees.of_own hown1).take (byt l).length
    have hr1 := hr.below hb1
    go_wp2_with fail
    refine (first_any l n cap _ _ _ hn (by omega) hs1).mono ?_
    rintro e w' ⟨rfl, rfl⟩
    go_wp2_with fail
    refine (reffirst_any l n c _ _ _ hn (by omega) hr1).mono ?_
    rintro e w' ⟨rfl, rfl⟩
    go_wp2_with fail
    refine (zero_any l n cap _ _ _ hn (by omega) hs1).mono ?_
    rintro e w' ⟨rfl, rfl⟩
    go_wp2_with fail
    refine (reffirst_any l n c _ _ _ hn (by omega) hr1).mono ?_
    rintro e w' ⟨rfl, rfl⟩
    go_wp2_with fail
    refine (kept_any l n c _ g cap _ A _ hn hm hr1 hown1).mono ?_
    rintro e w' ⟨rfl, rfl⟩
    go_wp2_with fail
    refine (works_any _ ht1).mono ?_
    rintro e w3 ⟨rfl, hb3⟩
    go_wp2_with fail
    go_ret
    exact ⟨rfl, hb1.trans (hb3.mono hb1.size)⟩

variable (m : List UInt8) (n' c' : Nat) (A' : Option Addr)

set_option maxHeartbeats 2000000 in
theorem wordDiffers_any (ht : Tab w) (hn : l.length = n) (hm : n ≤ 140737488351232) (hr : Sees w w.heap.size A (byt l)) (hn' : m.length = n') (hm' : n' ≤ 140737488351232) (hr' : Sees w w.heap.size A' (byt m)) :
    Calls Tryd.prog 6 #[.slice A n c, .slice A' n' c'] w fun e w' => e = .returned (.bool true) ∧ Below w.heap.size w w' := by
  by_cases hbig : 10000 < n ∨ 10000 < n'
  · rcases (show 10000 < n ∨ (n ≤ 10000 ∧ 10000 < n') by omega) with h | ⟨h, h'⟩
    all_goals
      go_enter Tryd.func6, Tryd.ntmps6
      go_wp2_with fail
      refine (works_any _ ht).mono ?_
      rintro e w3 ⟨rfl, hb3⟩
      go_wp2_with fail
      go_ret
      exact ⟨rfl, hb3⟩
  · have h1 : n ≤ 10000 := by omega
    have h2 : n' ≤ 10000 := by omega
    clear hbig
    go_enter Tryd.func6, Tryd.ntmps6
    go_wp2_with fail
    refine (lent_any l n c _ A w hn hm hr (Nat.le_refl _)).mono ?_
    rintro e w1 ⟨g, cap, rfl, hown1, hb1⟩
    go_wp2_with fail
    refine (lent_any m n' c' _ A' w1 hn' hm' (hr'.below hb1) hb1.size).mono ?_
    rintro e w2 ⟨g', cap', rfl, hown2', hb2⟩
    have hB2 := hb1.trans (hb2.mono hb1.size)
    have hown2 := own_below hown1 hb2 (Nat.le_refl _)
    clear hown1
    go_wp2_with fail
    refine (refdiffer_any l m n c n' c' _ _ _ _ hn hn' hm hm' (hr.below hB2) (hr'.below hB2)).mono ?_
    rintro e w3 ⟨rfl, hb3⟩
    have hB3 := hB2.trans (hb3.mono hB2.size)
    have hown3 := own_below hown2 hb3 (Nat.le_refl _)
    have hown3' := own_below hown2' hb3 (Nat.le_refl _)
    clear hb3 hown2 hown2' hB2 hb2
    have hs3 : Sees w3 w3.heap.size (some ⟨g, 0, none⟩) (byt l) := by simpa using (Sees.of_own hown3).take (byt l).length
    have hs3' : Sees w3 w3.heap.size (some ⟨g', 0, none⟩) (byt m) := by simpa using (Sees.of_own hown3').take (byt m).length
    go_wp2_with fail
    refine (differ_any l m n cap n' cap' _ _ _ _ hn hn' hm hm' hs3 hs3').mono ?_
    rintro e w4 ⟨rfl, hb4⟩
    have hB4 := hB3.trans (hb4.mono hB3.size)
    have hown4 := own_below hown3 hb4 (Nat.le_refl _)
    have hown4' := own_below hown3' hb4 (Nat.le_refl _)
    clear hb4 hown3 hown3' hB3 hs3 hs3'
    have hs4 : Sees w4 w4.heap.size (some ⟨g, 0, none⟩) (byt l) := by simpa using (Sees.of_own hown4).take (byt l).length
    have hs4' : Sees w4 w4.heap.size (some ⟨g', 0, none⟩) (byt m) := by simpa using (Sees.of_own hown4').take (byt m).length
    go_wp2_with fail
    refine (differ_any m l n' cap' n cap _ _ _ _ hn' hn hm' hm hs4' hs4).mono ?_
    rintro e w5 ⟨rfl, hb5⟩
    rw [df_comm m l 0]
    have hB5 := hB4.trans (hb5.mono hB4.size)
    have hown5 := own_below hown4 hb5 (Nat.le_refl _)
    have hown5' := own_below hown4' hb5 (Nat.le_refl _)
    clear hb5 hown4 hown4' hB4 hs4 hs4'
    have hs5 : Sees w5 w5.heap.size (some ⟨g, 0, none⟩) (byt l) := by simpa using (Sees.of_own hown5).take (byt l).length
    go_wp2_with fail
    refine (differ_any l l n cap n cap _ _ _ _ hn hn hm hm hs5 hs5).mono ?_
    rintro e w6 ⟨rfl, hb6⟩
    rw [df_self l 0]
    have hB6 := hB5.trans (hb6.mono hB5.size)
    have hown6 := own_below hown5 hb6 (Nat.le_refl _)
    have hown6' := own_below hown5' hb6 (Nat.le_refl _)
    have ht6 := ht.below hB6
    clear hb6 hown5 hown5' hB5 hs5
    go_wp2_with fail
    refine (kept_any l n c _ g cap _ A _ hn hm (hr.below hB6) hown6).mono ?_
    rintro e w' ⟨rfl, rfl⟩
    go_wp2_with fail
    refine (kept_any m n' c' _ g' cap' _ A' _ hn' hm' (hr'.below hB6) hown6').mono ?_
    rintro e w' ⟨rfl, rfl⟩
    go_wp2_with fail
    refine (works_any _ ht6).mono ?_
    rintro e w7 ⟨rfl, hb7⟩
    go_wp2_with fail
    go_ret
    exact ⟨rfl, hB6.trans (hb7.mono hB6.size)⟩
end
end Go.Proofs.YtcbaocnhaabgaaaDoor
