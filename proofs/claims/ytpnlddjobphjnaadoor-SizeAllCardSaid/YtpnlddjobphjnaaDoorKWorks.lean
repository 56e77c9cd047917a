import Derived.Test.YtpnlddjobphjnaaDoorNRef
namespace Go.Proofs.YtpnlddjobphjnaaDoor
open Go.RowKit

theorem of_lit (s m : Nat) (si mi : Int) (w : World) (b : Bool) (c p h e0 : Int) (h1 : (s : Int) = si) (h2 : (m : Int) = mi) (ht : Tab w) (hs : s < 18446744073709551616) (hm : m < 18446744073709551616) (hb : ofB s m = b) (hc : ofC s m = c) (hp : ofP s m = p) (hh : ofH s m = h) (he : ofE s m = e0) :
    Calls Tryd.prog 19 #[.int .u64 si, .int .u64 mi] w fun e w' => e = .returned (.tuple #[nv b c p h, .int .i64 e0]) ∧ Below w.heap.size w w' := by
  subst h1 h2 hb hc hp hh he
  exact of_any s m w ht hs hm
theorem total_lit (a b : Nat) (ai bi : Int) (w : World) (x e0 : Int) (h1 : (a : Int) = ai) (h2 : (b : Int) = bi) (ha : a < 18446744073709551616) (hb : b < 18446744073709551616) (hx : (bdN (a * b) : Int) = x) (he : bdE (a * b) = e0) :
    Calls Tryd.prog 21 #[.int .u64 ai, .int .u64 bi] w fun e w' => e = .returned (.tuple #[.int .u64 x, .int .i64 e0]) ∧ Below w.heap.size w w' := by
  subst h1 h2 hx he
  exact total_any a b w ha hb
theorem class_lit (n x : Int) (c : Bool) (w : World) (ht : Tab w) (hx : clsN n = x) (hc : clsB n = c) :
    Calls Tryd.prog 17 #[.int .i64 n] w fun e w' => e = .returned (.tuple #[.int .i64 x, .bool c]) ∧ Below w.heap.size w w' := by
  subst hx hc
  exact class_any n w ht
theorem below0 {w w1 w2 : World} (h : Below w.heap.size w w1) (h2 : Below w1.heap.size w1 w2) : Below w.heap.size w w2 := h.trans (h2.mono h.size)

set_option maxRecDepth 100000 in
set_option maxHeartbeats 2000000 in
theorem works_any (w : World) (ht : Tab w) : Calls Tryd.prog 14 #[] w fun e w' => e = .returned (.bool true) ∧ Below w.heap.size w w' := by
  go_enter Tryd.func14, Tryd.ntmps14
  go_wp2_with fail
  refine (show Calls Tryd.prog 9 #[.int .i64 3] w fun e w' => e = .returned (.tuple #[.int .i64 64, .int .i64 0]) ∧ Below w.heap.size w w' from payload_yes 3 w ht (by omega)).mono ?_
  rintro e w1 ⟨rfl, hB1⟩
  go_wp2_with fail
  refine (show Calls Tryd.prog 10 #[.int .i64 0] w1 fun e w' => e = .returned (.tuple #[.int .i64 48, .int .i64 0]) ∧ Below w1.heap.size w1 w' from slot_yes 0 w1 (ht.below hB1) (by omega)).mono ?_
  rintro e w2 ⟨rfl, hb2⟩
  have hB2 := below0 hB1 hb2
  clear hB1 hb2
  go_wp2_with fail
  refine (show Calls Tryd.prog 11 #[.int .i64 0] w2 fun e w' => e = .returned (.tuple #[.int .i64 85, .int .i64 0]) ∧ Below w2.heap.size w2 w' from count_yes 0 w2 (ht.below hB2) (by omega)).mono ?_
  rintro e w3 ⟨rfl, hb3⟩
  have hB3 := below0 hB2 hb3
  clear hB2 hb3
  go_wp2_with fail
  refine (show Calls Tryd.prog 11 #[.int .i64 7] w3 fun e w' => e = .returned (.tuple #[.int .i64 14, .int .i64 0]) ∧ Below w3.heap.size w3 w' from count_yes 7 w3 (ht.below hB3) (by omega)).mono ?_
  rintro e w4 ⟨rfl, hb4⟩
  have hB4 := below0 hB3 hb4
  clear hB3 hb4
  go_wp2_with fail
  refine (slot_no 8 w4 rfl).mono ?_
  rintro e w5 ⟨rfl, hb5⟩
  have hB5 := below0 hB4 hb5
  clear hB4 hb5
  go_wp2_with fail
  refine (class_lit 17 1 true w5 (ht.below hB5) (by kernel_rfl) (by kernel_rfl)).mono ?_
  rintro e w6 ⟨rfl, hb6⟩
  have hB6 := below0 hB5 hb6
  clear hB5 hb6
  go_wp2_with fail
  refine (class_lit 257 0 false w6 (ht.below hB6) (by kernel_rfl) (by kernel_rfl)).mono ?_
  rintro e w7 ⟨rfl, hb7⟩
  have hB7 := below0 hB6 hb7
  clear hB6 hb7
  go_wp2_with fail
  refine (of_lit 17 16 _ _ w7 true 1 0 32 0 rfl rfl (ht.below hB7) (by omega) (by omega) (by kernel_rfl) (by kernel_rfl) (by kernel_rfl) (by kernel_rfl) (by kernel_rfl)).mono ?_
  rintro e w8 ⟨rfl, hb8⟩
  have hB8 := (below0 hB7 hb8).alloc (below0 hB7 hb8).size (.cells #[.bool true, .int .i64 1, .int .i64 0, .int .i64 32] 33)
  have hn8 := Nd.new w8 (.bool true) (.int .i64 1) (.int .i64 0) (.int .i64 32)
  clear hB7 hb8
  go_wp2_with fail
  refine (of_lit 300 1 _ _ _ false 0 2 512 0 rfl rfl (ht.below hB8) (by omega) (by omega) (by kernel_rfl) (by kernel_rfl) (by kernel_rfl) (by kernel_rfl) (by kernel_rfl)).mono ?_
  rintro e w9 ⟨rfl, hb9⟩
  replace hn8 := hn8.below hb9
  have hB9 := (below0 hB8 hb9).alloc (below0 hB8 hb9).size (.cells #[.bool false, .int .i64 0, .int .i64 2, .int .i64 512] 33)
  replace hn8 := hn8.below (below1 w9 (.cells #[.bool false, .int .i64 0, .int .i64 2, .int .i64 512] 33))
  have hn9 := Nd.new w9 (.bool false) (.int .i64 0) (.int .i64 2) (.int .i64 512)
  clear hB8 hb9
  go_wp2_with fail
  refine (of_lit 10 64 _ _ _ false 0 1 256 0 rfl rfl (ht.below hB9) (by omega) (by omega) (by kernel_rfl) (by kernel_rfl) (by kernel_rfl) (by kernel_rfl) (by kernel_rfl)).mono ?_
  rintro e w10 ⟨rfl, hb10⟩
  replace hn8 := hn8.below hb10
  replace hn9 := hn9.below hb10
  have hB10 := (below0 hB9 hb10).alloc (below0 hB9 hb10).size (.cells #[.bool false, .int .i64 0, .int .i64 1, .int .i64 256] 33)
  replace hn8 := hn8.below (below1 w10 (.cells #[.bool false, .int .i64 0, .int .i64 1, .int .i64 256] 33))
  replace hn9 := hn9.below (below1 w10 (.cells #[.bool false, .int .i64 0, .int .i64 1, .int .i64 256] 33))
  have hn10 := Nd.new w10 (.bool false) (.int .i64 0) (.int .i64 1) (.int .i64 256)
  clear hB9 hb10
  go_wp2_with fail
  refine (of_lit 0 1 _ _ _ true 0 0 16 0 rfl rfl (ht.below hB10) (by omega) (by omega) (by kernel_rfl) (by kernel_rfl) (by kernel_rfl) (by kernel_rfl) (by kernel_rfl)).mono ?_
  rintro e w11 ⟨rfl, hb11⟩
  replace hn8 := hn8.below hb11
  replace hn9 := hn9.below hb11
  replace hn10 := hn10.below hb11
  have hB11 := (below0 hB10 hb11).alloc (below0 hB10 hb11).size (.cells #[.bool true, .int .i64 0, .int .i64 0, .int .i64 16] 33)
  replace hn8 := hn8.below (below1 w11 (.cells #[.bool true, .int .i64 0, .int .i64 0, .int .i64 16] 33))
  replace hn9 := hn9.below (below1 w11 (.cells #[.bool true, .int .i64 0, .int .i64 0, .int .i64 16] 33))
  replace hn10 := hn10.below (below1 w11 (.cells #[.bool true, .int .i64 0, .int .i64 0, .int .i64 16] 33))
  have hn11 := Nd.new w11 (.bool true) (.int .i64 0) (.int .i64 0) (.int .i64 16)
  clear hB10 hb11
  go_wp2_with fail
  refine (of_lit 1 3 _ _ _ false 0 0 0 2 rfl rfl (ht.below hB11) (by omega) (by omega) (by kernel_rfl) (by kernel_rfl) (by kernel_rfl) (by kernel_rfl) (by kernel_rfl)).mono ?_
  rintro e w12 ⟨rfl, hb12⟩
  replace hn8 := hn8.below hb12
  replace hn9 := hn9.below hb12
  replace hn10 := hn10.below hb12
  replace hn11 := hn11.below hb12
  have hB12 := (below0 hB11 hb12).alloc (below0 hB11 hb12).size (.cells #[.bool false, .int .i64 0, .int .i64 0, .int .i64 0] 33)
  replace hn8 := hn8.below (below1 w12 (.cells #[.bool false, .int .i64 0, .int .i64 0, .int .i64 0] 33))
  replace hn9 := hn9.below (below1 w12 (.cells #[.bool false, .int .i64 0, .int .i64 0, .int .i64 0] 33))
  replace hn10 := hn10.below (below1 w12 (.cells #[.bool false, .int .i64 0, .int .i64 0, .int .i64 0] 33))
  replace hn11 := hn11.below (below1 w12 (.cells #[.bool false, .int .i64 0, .int .i64 0, .int .i64 0] 33))
  clear hB11 hb12
  go_wp2_with fail
  refine (of_lit 262145 1 _ _ _ false 0 0 0 2 rfl rfl (ht.below hB12) (by omega) (by omega) (by kernel_rfl) (by kernel_rfl) (by kernel_rfl) (by kernel_rfl) (by kernel_rfl)).mono ?_
  rintro e w13 ⟨rfl, hb13⟩
  replace hn8 := hn8.below hb13
  replace hn9 := hn9.below hb13
  replace hn10 := hn10.below hb13
  replace hn11 := hn11.below hb13
  have hB13 := (below0 hB12 hb13).alloc (below0 hB12 hb13).size (.cells #[.bool false, .int .i64 0, .int .i64 0, .int .i64 0] 33)
  replace hn8 := hn8.below (below1 w13 (.cells #[.bool false, .int .i64 0, .int .i64 0, .int .i64 0] 33))
  replace hn9 := hn9.below (below1 w13 (.cells #[.bool false, .int .i64 0, .int .i64 0, .int .i64 0] 33))
  replace hn10 := hn10.below (below1 w13 (.cells #[.bool false, .int .i64 0, .int .i64 0, .int .i64 0] 33))
  replace hn11 := hn11.below (below1 w13 (.cells #[.bool false, .int .i64 0, .int .i64 0, .int .i64 0] 33))
  clear hB12 hb13
  go_wp2_with fail
  refine (total_lit 3 100 _ _ _ 300 0 rfl rfl (by omega) (by omega) (by kernel_rfl) (by kernel_rfl)).mono ?_
  rintro e w14 ⟨rfl, hb14⟩
  replace hn8 := hn8.below hb14
  replace hn9 := hn9.below hb14
  replace hn10 := hn10.below hb14
  replace hn11 := hn11.below hb14
  have hB14 := below0 hB13 hb14
  clear hB13 hb14
  go_wp2_with fail
  refine (total_lit 9223372036854775808 2 _ _ _ 0 2 rfl rfl (by omega) (by omega) (by kernel_rfl) (by kernel_rfl)).mono ?_
  rintro e w15 ⟨rfl, hb15⟩
  replace hn8 := hn8.below hb15
  replace hn9 := hn9.below hb15
  replace hn10 := hn10.below hb15
  replace hn11 := hn11.below hb15
  have hB15 := below0 hB14 hb15
  clear hB14 hb15
  obtain ⟨_, a0, a1, a2, a3, _, _, _, _⟩ := hn8.facts
  obtain ⟨_, b0, b1, b2, b3, _, _, _, _⟩ := hn9.facts
  obtain ⟨_, c0, c1, c2, c3, _, _, _, _⟩ := hn10.facts
  obtain ⟨_, d0, d1, d2, d3, _, _, _, _⟩ := hn11.facts
  clear hn8 hn9 hn10 hn11
  go_wp2_with ((with_reducible refine (num_any _ _).mono ?_); rintro e w' ⟨rfl, rfl⟩)
  go_ret
  exact ⟨rfl, hB15⟩
end Go.Proofs.YtpnlddjobphjnaaDoor
