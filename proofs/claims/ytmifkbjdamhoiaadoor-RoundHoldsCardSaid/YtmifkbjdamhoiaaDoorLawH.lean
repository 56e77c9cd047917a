import Derived.Test.YtmifkbjdamhoiaaDoorWorks
namespace Go.Proofs.YtmifkbjdamhoiaaDoor
open Go.RowKit

theorem fits2 {a b : Nat} (ha : a < 18446744073709551616) (hb : b < 18446744073709551616) : Fits [a, b] := fun k h => by
  match k, h with
  | 0, _ => exact ha
  | 1, _ => exact hb
theorem fits3 {a b c : Nat} (ha : a < 18446744073709551616) (hb : b < 18446744073709551616) (hc : c < 18446744073709551616) : Fits [a, b, c] := fun k h => by
  match k, h with
  | 0, _ => exact ha
  | 1, _ => exact hb
  | 2, _ => exact hc
theorem sum_turn (a b c : Nat) : sumL [c, a, b] = sumL [a, b, c] := by simp only [sumL]; omega
theorem prod_turn (a b c : Nat) : prodL [b, c, a] = prodL [a, b, c] := by simp only [prodL, Nat.mul_one]; rw [← Nat.mul_assoc, Nat.mul_comm (b * c) a]

/-- the first half of the law: four calls -/
structure Four (a b c : Nat) (x e p g : Int) : Prop where
  s1 : ∀ (w : World) (t : TypeId) (g0 : Nat), w.heap.size = g0 → Calls Tryd.prog 9 #[.slice (some ⟨g0, 0, none⟩) 3 3] (w.alloc (.cells #[.int .u64 (a : Int), .int .u64 (b : Int), .int .u64 (c : Int)] t)) fun r w' => r = .returned (.tuple #[.int .u64 x, .int .i64 e]) ∧ Below w.heap.size w w'
  s2 : ∀ (w : World) (t : TypeId) (g0 : Nat), w.heap.size = g0 → Calls Tryd.prog 9 #[.slice (some ⟨g0, 0, none⟩) 3 3] (w.alloc (.cells #[.int .u64 (c : Int), .int .u64 (a : Int), .int .u64 (b : Int)] t)) fun r w' => r = .returned (.tuple #[.int .u64 x, .int .i64 e]) ∧ Below w.heap.size w w'
  m1 : ∀ (w : World) (t : TypeId) (g0 : Nat), w.heap.size = g0 → Calls Tryd.prog 10 #[.slice (some ⟨g0, 0, none⟩) 3 3] (w.alloc (.cells #[.int .u64 (a : Int), .int .u64 (b : Int), .int .u64 (c : Int)] t)) fun r w' => r = .returned (.tuple #[.int .u64 p, .int .i64 g]) ∧ Below w.heap.size w w'
  m2 : ∀ (w : World) (t : TypeId) (g0 : Nat), w.heap.size = g0 → Calls Tryd.prog 10 #[.slice (some ⟨g0, 0, none⟩) 3 3] (w.alloc (.cells #[.int .u64 (b : Int), .int .u64 (c : Int), .int .u64 (a : Int)] t)) fun r w' => r = .returned (.tuple #[.int .u64 p, .int .i64 g]) ∧ Below w.heap.size w w'
theorem four_any {a b c : Nat} (ha : a < 18446744073709551616) (hb : b < 18446744073709551616) (hc : c < 18446744073709551616) : ∃ x e p g, Four a b c x e p g :=
  ⟨(tellN (sumL [a, b, c]) : Nat), tellE (sumL [a, b, c]), (tellN (prodL [a, b, c]) : Nat), tellE (prodL [a, b, c]),
    fun w t g0 hg => add_lit [a, b, c] _ t 3 _ _ _ w hg rfl rfl (by omega) (fits3 ha hb hc) rfl rfl,
    fun w t g0 hg => add_lit [c, a, b] _ t 3 _ _ _ w hg rfl rfl (by omega) (fits3 hc ha hb) (by rw [sum_turn]) (by rw [sum_turn]),
    fun w t g0 hg => mul_lit [a, b, c] _ t 3 _ _ _ w hg rfl rfl (by omega) (fits3 ha hb hc) rfl rfl,
    fun w t g0 hg => mul_lit [b, c, a] _ t 3 _ _ _ w hg rfl rfl (by omega) (fits3 hb hc ha) (by rw [prod_turn]) (by rw [prod_turn])⟩

set_option maxRecDepth 100000 in
set_option maxHeartbeats 2000000 in
theorem holds_zero (a b c : Nat) (w : World) (ht : Tab w) {x e p g : Int} (F : Hid (Four a b c x e p g)) :
    Calls Tryd.prog 7 #[.agg #[.int .u64 (a : Int), .int .u64 (b : Int), .int .u64 (c : Int)], .int .u64 0] w fun e w' => e = .returned (.bool true) ∧ Below w.heap.size w w' := by
  go_enter Tryd.func7, Tryd.ntmps7
  have hB0 := below1 w (.cells #[.int .u64 (a : Int), .int .u64 (b : Int), .int .u64 (c : Int)] 43)
  go_wp2_with fail
  go_quiet (fail)
  go_wp2_with fail
  have hB0' := below_drewN hB0 nq
  refine (F.out.s1 _ _ _ (by simp)).mono ?_
  rintro r w1 ⟨rfl, hb1⟩
  have hB1 := hB0'.trans (hb1.mono hB0'.size)
  clear hb1 hB0 hB0'
  go_wp2_with fail
  refine (F.out.s2 _ _ _ rfl).mono ?_
  rintro r w2 ⟨rfl, hb2⟩
  have hB2 := hB1.trans (hb2.mono hB1.size)
  clear hB1 hb2
  go_wp2_with fail
  refine (F.out.m1 _ _ _ rfl).mono ?_
  rintro r w3 ⟨rfl, hb3⟩
  have hB3 := hB2.trans (hb3.mono hB2.size)
  clear hB2 hb3
  go_wp2_with fail
  refine (F.out.m2 _ _ _ rfl).mono ?_
  rintro r w4 ⟨rfl, hb4⟩
  have hB4 := hB3.trans (hb4.mono hB3.size)
  clear hB3 hb4
  go_wp2_with fail
  refine (up_arg a _).mono ?_
  rintro r w5 ⟨rfl, hb5⟩
  have hB5 := hB4.trans (hb5.mono hB4.size)
  clear hB4 hb5
  go_wp2_with fail
  refine (down_arg a _).mono ?_
  rintro r w6 ⟨rfl, hb6⟩
  have hB6 := hB5.trans (hb6.mono hB5.size)
  clear hB5 hb6
  go_wp2_with fail
  refine (many_arg a _).mono ?_
  rintro r w7 ⟨rfl, hb7⟩
  have hB7 := hB6.trans (hb7.mono hB6.size)
  clear hB6 hb7
  go_wp2_with ((with_reducible refine (num_any _ _).mono ?_); rintro e w' ⟨rfl, rfl⟩)
  refine (works_any _ (ht.below hB7)).mono ?_
  rintro r w9 ⟨rfl, hb9⟩
  go_wp2_with fail
  go_ret
  exact ⟨rfl, hB7.trans (hb9.mono hB7.size)⟩

set_option maxRecDepth 100000 in
set_option maxHeartbeats 2000000 in
theorem holds_over (a b c s d m : Nat) (w : World) (ht : Tab w) {x e p g : Int} (F : Hid (Four a b c x e p g))
    (hU : Hid (∀ w : World, Calls Tryd.prog 14 #[.int .u64 (a : Int), .int .u64 (s : Int)] w fun e w' => e = .returned (.tuple #[.int .u64 0, .int .i64 120]) ∧ Below w.heap.size w w'))
    (hD : Hid (∀ w : World, Calls Tryd.prog 15 #[.int .u64 (a : Int), .int .u64 (s : Int)] w fun e w' => e = .returned (.tuple #[.int .u64 (d : Int), .int .i64 0]) ∧ Below w.heap.size w w'))
    (hM : Hid (∀ w : World, Calls Tryd.prog 16 #[.int .u64 (a : Int), .int .u64 (s : Int)] w fun e w' => e = .returned (.tuple #[.int .u64 (m : Int), .int .i64 0]) ∧ Below w.heap.size w w'))
    (f1 : ((s : Int) == 0) = false) (f1' : ¬ (s : Int) = 0) (f2 : decide (a < d) = false) (r : Nat) (f3 : IntKind.u64.wrap ((a : Int) - (d : Int)) = (r : Int)) (f4 : decide (s ≤ r) = false) (f5 : (((d : Int) % (s : Int)) != 0) = false) (f6 : ((d : Int) != (a : Int)) = true) :
    Calls Tryd.prog 7 #[.agg #[.int .u64 (a : Int), .int .u64 (b : Int), .int .u64 (c : Int)], .int .u64 (s : Int)] w fun e w' => e = .returned (.bool true) ∧ Below w.heap.size w w' := by
  go_enter Tryd.func7, Tryd.ntmps7
  have hB0 := below1 w (.cells #[.int .u64 (a : Int), .int .u64 (b : Int), .int .u64 (c : Int)] 43)
  go_wp2_with fail
  go_quiet (fail)
  go_wp2_with fail
  have hB0' := below_drewN hB0 nq
  refine (F.out.s1 _ _ _ (by simp)).mono ?_
  rintro r w1 ⟨rfl, hb1⟩
  have hB1 := hB0'.trans (hb1.mono hB0'.size)
  clear hb1 hB0 hB0'
  go_wp2_with fail
  refine (F.out.s2 _ _ _ rfl).mono ?_
  rintro r w2 ⟨rfl, hb2⟩
  have hB2 := hB1.trans (hb2.mono hB1.size)
  clear hB1 hb2
  go_wp2_with fail
  refine (F.out.m1 _ _ _ rfl).mono ?_
  rintro r w3 ⟨rfl, hb3⟩
  have hB3 := hB2.trans (hb3.mono hB2.size)
  clear hB2 hb3
  go_wp2_with fail
  refine (F.out.m2 _ _ _ rfl).mono ?_
  rintro r w4 ⟨rfl, hb4⟩
  have hB4 := hB3.trans (hb4.mono hB3.size)
  clear hB3 hb4
  go_wp2_with fail
  refine (hU.out _).mono ?_
  rintro r w5 ⟨rfl, hb5⟩
  have hB5 := hB4.trans (hb5.mono hB4.size)
  clear hB4 hb5
  go_wp2_with fail
  refine (hD.out _).mono ?_
  rintro r w6 ⟨rfl, hb6⟩
  have hB6 := hB5.trans (hb6.mono hB5.size)
  clear hB5 hb6
  go_wp2_with fail
  refine (hM.out _).mono ?_
  rintro r w7 ⟨rfl, hb7⟩
  have hB7 := hB6.trans (hb7.mono hB6.size)
  clear hB6 hb7
  go_wp2_with ((with_reducible refine (num_any _ _).mono ?_); rintro e w' ⟨rfl, rfl⟩)
  refine (works_any _ (ht.below hB7)).mono ?_
  rintro r w9 ⟨rfl, hb9⟩
  go_wp2_with fail
  go_ret
  exact ⟨rfl, hB7.trans (hb9.mono hB7.size)⟩

set_option maxRecDepth 100000 in
set_option maxHeartbeats 2000000 in
theorem holds_ok (a b c s d m u : Nat) (w : World) (ht : Tab w) {x e p g : Int} (F : Hid (Four a b c x e p g))
    (hU : Hid (∀ w : World, Calls Tryd.prog 14 #[.int .u64 (a : Int), .int .u64 (s : Int)] w fun e w' => e = .returned (.tuple #[.int .u64 (u : Int), .int .i64 0]) ∧ Below w.heap.size w w'))
    (hD : Hid (∀ w : World, Calls Tryd.prog 15 #[.int .u64 (a : Int), .int .u64 (s : Int)] w fun e w' => e = .returned (.tuple #[.int .u64 (d : Int), .int .i64 0]) ∧ Below w.heap.size w w'))
    (hM : Hid (∀ w : World, Calls Tryd.prog 16 #[.int .u64 (a : Int), .int .u64 (s : Int)] w fun e w' => e = .returned (.tuple #[.int .u64 (m : Int), .int .i64 0]) ∧ Below w.heap.size w w'))
    (hX : Hid (∀ (w : World) (t : TypeId) (g0 : Nat), w.heap.size = g0 → Calls Tryd.prog 10 #[.slice (some ⟨g0, 0, none⟩) 2 2] (w.alloc (.cells #[.int .u64 (m : Int), .int .u64 (s : Int)] t)) fun r w' => r = .returned (.tuple #[.int .u64 (u : Int), .int .i64 0]) ∧ Below w.heap.size w w'))
    (f1 : ((s : Int) == 0) = false) (f1' : ¬ (s : Int) = 0) (f2 : decide (a < d) = false) (r : Nat) (f3 : IntKind.u64.wrap ((a : Int) - (d : Int)) = (r : Int)) (f4 : decide (s ≤ r) = false) (f5 : (((d : Int) % (s : Int)) != 0) = false)
    (f6 : decide (a ≤ u) = true) (q : Nat) (f7 : IntKind.u64.wrap ((u : Int) - (a : Int)) = (q : Int)) (f8 : decide (q < s) = true) (z : Bool) (f9 : ((u : Int) == (d : Int)) = z) (_f9' : (u == d) = z) (f10 : ((d : Int) == (a : Int)) = z) (_f10' : (d == a) = z) :
    Calls Tryd.prog 7 #[.agg #[.int .u64 (a : Int), .int .u64 (b : Int), .int .u64 (c : Int)], .int .u64 (s : Int)] w fun e w' => e = .returned (.bool true) ∧ Below w.heap.size w w' := by
  go_enter Tryd.func7, Tryd.ntmps7
  have hB0 := below1 w (.cells #[.int .u64 (a : Int), .int .u64 (b : Int), .int .u64 (c : Int)] 43)
  go_wp2_with fail
  go_quiet (fail)
  go_wp2_with fail
  have hB0' := below_drewN hB0 nq
  refine (F.out.s1 _ _ _ (by simp)).mono ?_
  rintro r w1 ⟨rfl, hb1⟩
  have hB1 := hB0'.trans (hb1.mono hB0'.size)
  clear hb1 hB0 hB0'
  go_wp2_with fail
  refine (F.out.s2 _ _ _ rfl).mono ?_
  rintro r w2 ⟨rfl, hb2⟩
  have hB2 := hB1.trans (hb2.mono hB1.size)
  clear hB1 hb2
  go_wp2_with fail
  refine (F.out.m1 _ _ _ rfl).mono ?_
  rintro r w3 ⟨rfl, hb3⟩
  have hB3 := hB2.trans (hb3.mono hB2.size)
  clear hB2 hb3
  go_wp2_with fail
  refine (F.out.m2 _ _ _ rfl).mono ?_
  rintro r w4 ⟨rfl, hb4⟩
  have hB4 := hB3.trans (hb4.mono hB3.size)
  clear hB3 hb4
  go_wp2_with fail
  refine (hU.out _).mono ?_
  rintro r w5 ⟨rfl, hb5⟩
  have hB5 := hB4.trans (hb5.mono hB4.size)
  clear hB4 hb5
  go_wp2_with fail
  refine (hD.out _).mono ?_
  rintro r w6 ⟨rfl, hb6⟩
  have hB6 := hB5.trans (hb6.mono hB5.size)
  clear hB5 hb6
  go_wp2_with fail
  refine (hM.out _).mono ?_
  rintro r w7 ⟨rfl, hb7⟩
  have hB7 := hB6.trans (hb7.mono hB6.size)
  clear hB6 hb7
  go_wp2_with (first | ((with_reducible refine (num_any _ _).mono ?_); rintro e w' ⟨rfl, rfl⟩) | (with_reducible refine (hX.out _ _ _ rfl).mono ?_; rintro e w8 ⟨rfl, hb8⟩))
  have hB8 := hB7.trans (hb8.mono hB7.size)
  refine (works_any _ (ht.below hB8)).mono ?_
  rintro r w9 ⟨rfl, hb9⟩
  go_wp2_with fail
  go_ret
  exact ⟨rfl, hB8.trans (hb9.mono hB8.size)⟩

theorem roundHolds_any (a b c s : Nat) (w : World) (ht : Tab w) (ha : a < 18446744073709551616) (hb : b < 18446744073709551616) (hc : c < 18446744073709551616) (hs2 : s < 18446744073709551616) :
    Calls Tryd.prog 7 #[.agg #[.int .u64 (a : Int), .int .u64 (b : Int), .int .u64 (c : Int)], .int .u64 (s : Int)] w fun e w' => e = .returned (.bool true) ∧ Below w.heap.size w w' := by
  obtain ⟨x, e, p, g, F⟩ := four_any ha hb hc
  have F := Lib.hid F
  rcases Nat.eq_zero_or_pos s with rfl | hs
  · exact holds_zero a b c w ht F
  have hml := Nat.mod_lt a hs
  have hmle := Nat.mod_le a s
  have hdm := Nat.div_add_mod a s
  have f1 : ((s : Int) == 0) = false := beq_eq_false_iff_ne.2 (by omega)
  have f2 : decide (a < a - a % s) = false := by simp
  have f3 : IntKind.u64.wrap ((a : Int) - ((a - a % s : Nat) : Int)) = ((a % s : Nat) : Int) := by
    rw [show (a : Int) - ((a - a % s : Nat) : Int) = ((a % s : Nat) : Int) by omega]
    exact wrapN _ (by omega)
  have f4 : decide (s ≤ a % s) = false := by simp; omega
  have hds : (a - a % s) % s = 0 := by
    rw [show a - a % s = s * (a / s) by omega]
    exact Nat.mul_mod_right _ _
  have f5 : ((((a - a % s : Nat) : Int) % (s : Int)) != 0) = false := by rw [← Int.natCast_emod, hds]; rfl
  have hD := Lib.hid (fun w => down_ok a s w hs ha)
  have hM := Lib.hid (fun w => many_ok a s w hs ha)
  have hU := Lib.hid (fun w => up_ok a s w hs hs2 ha)
  by_cases h0 : a % s = 0
  · have hu : upN s a = a := by rw [upN, if_pos h0]
    have he : upE s a = 0 := by rw [upE, if_pos h0]
    have hm : manyN s a = a / s := by rw [manyN, if_pos h0]
    rw [hu, he] at hU
    rw [hm] at hM
    rw [h0, Nat.sub_zero] at hD f2 f3 f5
    rw [h0] at f4 hdm
    have hX : prodL [a / s, s] = a := by simp only [prodL, Nat.mul_one]; rw [Nat.mul_comm]; omega
    exact holds_ok a b c s a (a / s) a w ht F hU hD hM (Lib.hid fun w t g0 hg => mul_lit [a / s, s] _ t 2 _ _ _ w hg rfl rfl (by omega) (fits2 (by have := Nat.div_le_self a s; omega) hs2) (by rw [hX, tellN, if_pos (show a < big from ha)]) (by rw [hX, tellE, if_pos (show a < big from ha)]))
      f1 (by omega) f2 0 f3 f4 f5 (by simp) 0 (by rw [Int.sub_self]; rfl) (by simp; omega) true (by simp) (by simp) (by simp) (by simp)
  · have hda : ¬ a - a % s = a := by omega
    by_cases h1 : a - a % s + s < 18446744073709551616
    · have hu : upN s a = a - a % s + s := by rw [upN, if_neg h0, if_pos h1]
      have he : upE s a = 0 := by rw [upE, if_neg h0, if_pos h1]
      have hm : manyN s a = a / s + 1 := by rw [manyN, if_neg h0]
      rw [hu, he] at hU
      rw [hm] at hM
      have hX : prodL [a / s + 1, s] = a - a % s + s := by
        simp only [prodL, Nat.mul_one]
        rw [Nat.add_mul, Nat.one_mul, Nat.mul_comm]
        omega
      have hl := many_lt hs ha h0
      exact holds_ok a b c s (a - a % s) (a / s + 1) (a - a % s + s) w ht F hU hD hM (Lib.hid fun w t g0 hg => mul_lit [a / s + 1, s] _ t 2 _ _ _ w hg rfl rfl (by omega) (fits2 (by omega) hs2) (by rw [hX, tellN, if_pos (show a - a % s + s < big from h1)]) (by rw [hX, tellE, if_pos (show a - a % s + s < big from h1)]))
        f1 (by omega) f2 (a % s) f3 f4 f5 (by simp; omega) (s - a % s) (by rw [show ((a - a % s + s : Nat) : Int) - (a : Int) = ((s - a % s : Nat) : Int) by omega]; exact wrapN _ (by omega)) (by simp; omega) false
        (beq_eq_false_iff_ne.2 (by omega)) (beq_eq_false_iff_ne.2 (by omega)) (beq_eq_false_iff_ne.2 (by omega)) (beq_eq_false_iff_ne.2 (by omega))
    · have hu : upN s a = 0 := by rw [upN, if_neg h0, if_neg h1]
      have he : upE s a = 120 := by rw [upE, if_neg h0, if_neg h1]
      rw [hu, he] at hU
      exact holds_over a b c s (a - a % s) (manyN s a) w ht F hU hD hM f1 (by omega) f2 (a % s) f3 f4 f5 (bne_iff_ne.2 (by omega))
end Go.Proofs.YtmifkbjdamhoiaaDoor
