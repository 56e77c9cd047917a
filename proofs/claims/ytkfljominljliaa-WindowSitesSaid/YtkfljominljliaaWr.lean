import Derived.Test.YtkfljominljliaaWg
namespace Go.Proofs.Ytkfljominljliaa
open Go.RowKit
attribute [local go_sem] Oper.semAt_some

theorem address_nop (n m : Int) (w : World) (h : isB n 65536 = false) : Calls Try.prog 21 #[.int .i64 n, .int .i64 m] w fun e w' => e = .returned (.tuple #[.int .u32 0, .int .i64 4]) ∧ Below w.heap.size w w' := by
  have hb := Lib.hid (fun w => below_any n 65536 w)
  rw [h] at hb
  clear h
  go_enter Try.func21, Try.ntmps21
  go_wp2_with fail
  refine wp_scope_jump 1 fun R hR hG => ?_
  go_wp2_with fail
  refine (hb.out _).mono ?_
  rintro e w1 ⟨rfl, rfl⟩
  go_wp2_with fail
  refine wp_goto (hG.out _ _ _ _ _ rfl ?_)
  go_wp2
  refine hR.out _ _ _ _ (by simp) ?_
  go_ret2
  exact ⟨rfl, Below.refl _ _⟩
theorem address_noq (n m : Int) (w : World) (h : isB n 65536 = true) (h2 : isB m 256 = false) : Calls Try.prog 21 #[.int .i64 n, .int .i64 m] w fun e w' => e = .returned (.tuple #[.int .u32 0, .int .i64 4]) ∧ Below w.heap.size w w' := by
  have hb := Lib.hid (fun w => below_any n 65536 w)
  rw [h] at hb
  have hb2 := Lib.hid (fun w => below_any m 256 w)
  rw [h2] at hb2
  clear h h2
  go_enter Try.func21, Try.ntmps21
  go_wp2_with fail
  refine wp_scope_jump 1 fun R hR hG => ?_
  go_wp2_with fail
  refine (hb.out _).mono ?_
  rintro e w1 ⟨rfl, rfl⟩
  go_wp2_with fail
  refine (hb2.out _).mono ?_
  rintro e w1 ⟨rfl, rfl⟩
  go_wp2_with fail
  refine wp_goto (hG.out _ _ _ _ _ rfl ?_)
  go_wp2
  refine hR.out _ _ _ _ (by simp) ?_
  go_ret2
  exact ⟨rfl, Below.refl _ _⟩
set_option maxHeartbeats 1000000 in
theorem address_yes (p q : Nat) (w : World) (h : p < 65536) (h2 : q < 256) : Calls Try.prog 21 #[.int .i64 (p : Int), .int .i64 (q : Int)] w fun e w' => e = .returned (.tuple #[.int .u32 ((256 * p + q : Nat) : Int), .int .i64 0]) ∧ Below w.heap.size w w' := by
  have hb := Lib.hid (fun w => below_any (p : Int) 65536 w)
  rw [show isB (p : Int) 65536 = true from isB_yes (n := 65536) h] at hb
  have hb2 := Lib.hid (fun w => below_any (q : Int) 256 w)
  rw [show isB (q : Int) 256 = true from isB_yes (n := 256) h2] at hb2
  have hs := Lib.hid (fun g w hr => sum_any ((256 * p : Nat) : Int) (q : Int) ((256 * p + q : Nat) : Int) g w hr (by omega) ((wrapI _ (by omega) (by omega)).trans (by omega)))
  have e0 : IntKind.i64.wrap ((p : Int) * 256) = ((256 * p : Nat) : Int) := (wrapI _ (by omega) (by omega)).trans (by omega)
  have e1 : IntKind.u32.wrap ((256 * p + q : Nat) : Int) = ((256 * p + q : Nat) : Int) := by rw [IntKind.wrap_u32]; omega
  obtain ⟨x, hx⟩ : ∃ x, x = 256 * p + q := ⟨_, rfl⟩
  obtain ⟨y, hy⟩ : ∃ y, y = 256 * p := ⟨_, rfl⟩
  rw [← hy] at e0
  rw [← hx] at e1 ⊢
  rw [← hx, ← hy] at hs
  clear h h2 hx hy
  go_enter Try.func21, Try.ntmps21
  go_wp2_with fail
  refine wp_scope_jump 1 fun R hR hG => ?_
  go_wp2_with fail
  refine (hb.out _).mono ?_
  rintro e w1 ⟨rfl, rfl⟩
  go_wp2_with fail
  refine (hb2.out _).mono ?_
  rintro e w1 ⟨rfl, rfl⟩
  go_wp2_with fail
  refine (hs.out _ _ (Row.new_at _ 3 [.int .i64 (y : Int), .int .i64 (q : Int)] (by simp))).mono ?_
  rintro e w2 ⟨rfl, rfl⟩
  go_wp2
  refine hR.out _ _ _ _ (by simp) ?_
  go_ret2
  exact ⟨rfl, below1 _ _⟩
theorem split_no (n : Nat) (w : World) (h : 16777216 ≤ n) : Calls Try.prog 22 #[.int .u32 (n : Int)] w fun e w' => e = .returned (.tuple #[.int .i64 0, .int .i64 0, .int .i64 4]) ∧ Below w.heap.size w w' := by
  have e0 : decide ((16777216 : Int) ≤ (n : Int)) = true := decide_eq_true (by omega)
  clear h
  go_enter Try.func22, Try.ntmps22
  go_wp2_with fail
  refine wp_scope_jump 1 fun R hR hG => ?_
  go_wp2_with fail
  refine wp_goto (hG.out _ _ _ _ _ rfl ?_)
  go_wp2
  refine hR.out _ _ _ _ (by simp) ?_
  go_ret3
  exact ⟨rfl, Below.refl _ _⟩
theorem split_yes (n : Nat) (w : World) (h : n < 16777216) : Calls Try.prog 22 #[.int .u32 (n : Int)] w fun e w' => e = .returned (.tuple #[.int .i64 ((n / 256 : Nat) : Int), .int .i64 ((n % 256 : Nat) : Int), .int .i64 0]) ∧ Below w.heap.size w w' := by
  have e0 : decide ((16777216 : Int) ≤ (n : Int)) = false := decide_eq_false (by omega)
  have e1 : (n : Int) / 256 = ((n / 256 : Nat) : Int) := by omega
  have e2 : (n : Int) % 256 = ((n % 256 : Nat) : Int) := by omega
  obtain ⟨x, hx⟩ : ∃ x, x = n / 256 := ⟨_, rfl⟩
  obtain ⟨y, hy⟩ : ∃ y, y = n % 256 := ⟨_, rfl⟩
  rw [← hx] at e1 ⊢
  rw [← hy] at e2 ⊢
  have e3 : IntKind.i64.wrap (x : Int) = (x : Int) := wrapI _ (by omega) (by omega)
  have e4 : IntKind.i64.wrap (y : Int) = (y : Int) := wrapI _ (by omega) (by omega)
  have e5 : IntKind.u32.wrap (x : Int) = (x : Int) := by rw [IntKind.wrap_u32]; omega
  have e6 : IntKind.u32.wrap (y : Int) = (y : Int) := by rw [IntKind.wrap_u32]; omega
  clear h hx hy
  go_enter Try.func22, Try.ntmps22
  go_wp2_with fail
  refine wp_scope_jump 1 fun R hR hG => ?_
  go_wp2_with fail
  refine hR.out _ _ _ _ (by simp) ?_
  go_ret3
  exact ⟨rfl, Below.refl _ _⟩
end Go.Proofs.Ytkfljominljliaa
