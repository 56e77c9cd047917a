import Derived.Test.YtbgpdahoochkiaaDoorPut
import Derived.Test.YtbgpdahoochkiaaDoorFirst
import Derived.Test.YtbgpdahoochkiaaDoorDiffer2
import Derived.Test.YtbgpdahoochkiaaDoorKept
namespace Go.Proofs.YtbgpdahoochkiaaDoor
open Go.RowKit

set_option maxRecDepth 100000 in
set_option maxHeartbeats 600000 in
theorem works_any (w : World) (ht : Tab w) : Calls Tryd.prog 12 #[] w fun e w' => e = .returned (.bool true) ∧ Below w.heap.size w w' := by
  go_enter Tryd.func12, Tryd.ntmps12
  go_wp2_with fail
  refine (put_ok 258 2 _ ht (by decide) (by decide)).mono ?_
  rintro e w1 ⟨g, cap, rfl, hown, hb1⟩
  have ht1 := ht.below hb1
  go_wp2_with fail
  refine (put_range 256 1 _ ht1 (by decide) (by decide)).mono ?_
  rintro e w2 ⟨rfl, hb2⟩
  have ht2 := ht1.below hb2
  have hown2 := own_below hown hb2 (Nat.le_refl _)
  have hB2 := hb1.trans (hb2.mono hb1.size)
  clear hb1 hb2 hown ht1
  go_wp2_with fail
  refine (put_arg 1 3 _ ht2 (by decide)).mono ?_
  rintro e w3 ⟨rfl, hb3⟩
  have ht3 := ht2.below hb3
  have hown3 := own_below hown2 hb3 (Nat.le_refl _)
  have hB3 := hB2.trans (hb3.mono hB2.size)
  clear hB2 hb3 hown2 ht2
  go_wp2_with fail
  have hs4 := sees_lit w3 [2, 1] 5
  refine (get_ok [2, 1] 2 _ _ _ _ (ht3.alloc _) rfl (by decide) hs4 (by simp)).mono ?_
  rintro e w4 ⟨rfl, hb4⟩
  rw [show leVal [2, 1] = 258 from rfl]
  have ht4 := (ht3.alloc _).below hb4
  have hown4 := own_below (hown3.alloc _) hb4 (Nat.le_refl _)
  have hB4 := (hB3.alloc hB3.size _).trans (hb4.mono (by simp; have := hB3.size; omega))
  clear hB3 hb4 hown3 ht3 hs4
  have hcv := run_conv_sees (P := Tryd.prog) w4 Tryd.underlying23 Tryd.underlying5 Tryd.underlying9 (c := cap) (n := 2) (l := [2, 1]) rfl (Sees.of_own hown4)
  clear hown4
  have hstr := str_toList [2, 1]
  go_wp2_with fail
  refine (num_any _ _).mono ?_
  rintro e w' ⟨rfl, rfl⟩
  go_wp2_with fail
  refine (num_any _ _).mono ?_
  rintro e w' ⟨rfl, rfl⟩
  go_wp2_with fail
  refine (num_any _ _).mono ?_
  rintro e w' ⟨rfl, rfl⟩
  go_wp2_with fail
  refine (num_any _ _).mono ?_
  rintro e w' ⟨rfl, rfl⟩
  go_wp2_with fail
  refine (zero_any [0, 0] 2 2 (some ⟨w4.heap.size, 0, none⟩) (w4.heap.size + 1) (w4.alloc (.cells #[.int .u8 0, .int .u8 0] 5)) rfl (by decide) (sees_at _ [0, 0] 5 (by simp))).mono ?_
  rintro e w' ⟨rfl, rfl⟩
  rw [show decide (nz [0, 0] 0 < 0) = true from rfl]
  go_wp2_with fail
  refine (first_any [0, 5] 2 2 (some ⟨w4.heap.size + 1, 0, none⟩) (w4.heap.size + 2) ((w4.alloc (.cells #[.int .u8 0, .int .u8 0] 5)).alloc (.cells #[.int .u8 0, .int .u8 5] 5)) rfl (by decide) (sees_at _ [0, 5] 5 (by simp))).mono ?_
  rintro e w' ⟨rfl, rfl⟩
  rw [show nz [0, 5] 0 = 1 from rfl]
  have hB5 := (hB4.alloc hB4.size (.cells #[.int .u8 0, .int .u8 0] 5)).alloc (by have := hB4.size; simp; omega) (.cells #[.int .u8 0, .int .u8 5] 5)
  obtain ⟨w5, hw5⟩ : ∃ w5, w5 = (w4.alloc (.cells #[.int .u8 0, .int .u8 0] 5)).alloc (.cells #[.int .u8 0, .int .u8 5] 5) := ⟨_, rfl⟩
  rw [← hw5] at hB5 ⊢
  clear hw5 hB4 hcv ht4
  go_wp2_with fail
  refine (differ_any [1, 2] [1, 3] 2 2 2 2 (some ⟨w5.heap.size, 0, none⟩) (some ⟨w5.heap.size + 1, 0, none⟩) (w5.heap.size + 2) ((w5.alloc (.cells #[.int .u8 1, .int .u8 2] 5)).alloc (.cells #[.int .u8 1, .int .u8 3] 5)) rfl rfl (by decide) (by decide) (((sees_at w5 [1, 2] 5 rfl).alloc (by simp) _).more (by omega)) (sees_at _ [1, 3] 5 (by simp))).mono ?_
  rintro e w6 ⟨rfl, hb6⟩
  rw [show df [1, 2] [1, 3] 0 = 1 from rfl]
  have hB6 := ((hB5.alloc hB5.size _).alloc (by have := hB5.size; simp; omega) _).trans (hb6.mono (by have := hB5.size; simp; omega))
  clear hb6 hB5
  go_wp2_with fail
  refine (differ_any [1] [1, 0] 1 1 2 2 (some ⟨w6.heap.size, 0, none⟩) (some ⟨w6.heap.size + 1, 0, none⟩) (w6.heap.size + 2) ((w6.alloc (.cells #[.int .u8 1] 5)).alloc (.cells #[.int .u8 1, .int .u8 0] 5)) rfl rfl (by decide) (by decide) (((sees_at w6 [1] 5 rfl).alloc (by simp) _).more (by omega)) (sees_at _ [1, 0] 5 (by simp))).mono ?_
  rintro e w7 ⟨rfl, hb7⟩
  rw [show df [1] [1, 0] 0 = 1 from rfl]
  have hB7 := ((hB6.alloc hB6.size _).alloc (by have := hB6.size; simp; omega) _).trans (hb7.mono (by have := hB6.size; simp; omega))
  clear hb7 hB6
  go_wp2_with fail
  go_ret
  exact ⟨rfl, hB7⟩
end Go.Proofs.YtbgpdahoochkiaaDoor
