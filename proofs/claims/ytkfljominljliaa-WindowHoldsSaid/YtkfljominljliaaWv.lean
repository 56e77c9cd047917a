import Derived.Test.YtkfljominljliaaWu
namespace Go.Proofs.Ytkfljominljliaa
open Go.RowKit Go.Shelf
attribute [local go_sem] Oper.semAt_some

set_option maxRecDepth 100000 in
set_option maxHeartbeats 2000000 in
theorem sites_no (n : Int) (w : World) (h : isB n 65536 = false) : Calls Try.prog 4 #[.int .i64 n] w fun e w' => e = .returned (.bool true) ∧ Below w.heap.size w w' := by
  have h1 := Lib.hid (fun w => of_no n w h)
  have h2 := Lib.hid (fun w => rof_no n w h)
  have hnum := Lib.hid num_any
  have hwk := Lib.hid works_any
  clear h
  go_enter Try.func4, Try.ntmps4
  go_wp2_with fail
  refine (h1.out _).mono ?_
  rintro e w1 ⟨rfl, b1⟩
  go_wp2_with fail
  obtain ⟨w2, hw2⟩ : ∃ w2, w2 = w1.alloc (.cells #[.int .i64 0, .int .i64 0, .int .i64 0, .int .i64 0] 36) := ⟨_, rfl⟩
  have R2 : Row w2 w1.heap.size 36 [.int .i64 0, .int .i64 0, .int .i64 0, .int .i64 0] := by rw [hw2]; exact Row.new _ _ _
  have B2 : Below w.heap.size w w2 := by rw [hw2]; exact b1.alloc b1.size _
  rw [← hw2]
  clear hw2 b1 h1
  refine (h2.out _).mono ?_
  rintro e w3 ⟨rfl, b3⟩
  have R3 := R2.below b3
  have B3 := below0 B2 b3
  have c0 : w3.cell? ⟨w1.heap.size, 0, none⟩ = _ := R3.cell 0
  have c1 : w3.cell? ⟨w1.heap.size, 1, none⟩ = _ := R3.cell 1
  have c2 : w3.cell? ⟨w1.heap.size, 2, none⟩ = _ := R3.cell 2
  have c3 : w3.cell? ⟨w1.heap.size, 3, none⟩ = _ := R3.cell 3
  obtain ⟨w4, hw4⟩ : ∃ w4, w4 = w3.alloc (.cells #[.int .i64 0, .int .i64 0, .int .i64 0, .int .i64 0] 36) := ⟨_, rfl⟩
  have R4 := R3.below (show Below w3.heap.size w3 w4 by rw [hw4]; exact below1 _ _)
  have B4 : Below w.heap.size w w4 := by rw [hw4]; exact B3.alloc B3.size _
  have c0 : w4.cell? ⟨w1.heap.size, 0, none⟩ = _ := R4.cell 0
  have c1 : w4.cell? ⟨w1.heap.size, 1, none⟩ = _ := R4.cell 1
  have c2 : w4.cell? ⟨w1.heap.size, 2, none⟩ = _ := R4.cell 2
  have c3 : w4.cell? ⟨w1.heap.size, 3, none⟩ = _ := R4.cell 3
  rw [hw4] at c0 c1 c2 c3
  clear R2 R3 R4 B2 b3 h2 B3
  go_wp2_with (first
    | (go_at_call 13; refine (hnum.out _ _).mono ?_; rintro e wn ⟨rfl, rfl⟩))
  rw [← hw4]
  refine (hwk.out _).mono ?_
  rintro e w5 ⟨rfl, b5⟩
  go_wp2
  go_ret
  exact ⟨rfl, below0 B4 b5⟩
set_option maxRecDepth 100000 in
set_option maxHeartbeats 2000000 in
theorem sites_yes (n : Nat) (w : World) (h : n < 65536) : Calls Try.prog 4 #[.int .i64 (n : Int)] w fun e w' => e = .returned (.bool true) ∧ Below w.heap.size w w' := by
  have h1 := Lib.hid (fun w => of_yes n w h)
  have h2 := Lib.hid (fun w => rof_yes n w h)
  have hnum := Lib.hid num_any
  have hwk := Lib.hid works_any
  obtain ⟨x, hx⟩ : ∃ x, x = (plc n).1 := ⟨_, rfl⟩
  obtain ⟨y, hy⟩ : ∃ y, y = (plc n).2.1 := ⟨_, rfl⟩
  obtain ⟨z, hz⟩ : ∃ z, z = (plc n).2.2.1 := ⟨_, rfl⟩
  obtain ⟨t, ht⟩ : ∃ t, t = (plc n).2.2.2 := ⟨_, rfl⟩
  rw [← hx, ← hy, ← hz, ← ht] at h1 h2
  clear hx hy hz ht h
  go_enter Try.func4, Try.ntmps4
  go_wp2_with fail
  refine (h1.out _).mono ?_
  rintro e w1 ⟨rfl, b1⟩
  go_wp2_with fail
  obtain ⟨w2, hw2⟩ : ∃ w2, w2 = w1.alloc (.cells #[.int .i64 (x : Int), .int .i64 (y : Int), .int .i64 (z : Int), .int .i64 (t : Int)] 36) := ⟨_, rfl⟩
  have R2 : Row w2 w1.heap.size 36 [.int .i64 (x : Int), .int .i64 (y : Int), .int .i64 (z : Int), .int .i64 (t : Int)] := by rw [hw2]; exact Row.new _ _ _
  have B2 : Below w.heap.size w w2 := by rw [hw2]; exact b1.alloc b1.size _
  rw [← hw2]
  clear hw2 b1 h1
  refine (h2.out _).mono ?_
  rintro e w3 ⟨rfl, b3⟩
  have R3 := R2.below b3
  have B3 := below0 B2 b3
  have c0 : w3.cell? ⟨w1.heap.size, 0, none⟩ = _ := R3.cell 0
  have c1 : w3.cell? ⟨w1.heap.size, 1, none⟩ = _ := R3.cell 1
  have c2 : w3.cell? ⟨w1.heap.size, 2, none⟩ = _ := R3.cell 2
  have c3 : w3.cell? ⟨w1.heap.size, 3, none⟩ = _ := R3.cell 3
  obtain ⟨w4, hw4⟩ : ∃ w4, w4 = w3.alloc (.cells #[.int .i64 (x : Int), .int .i64 (y : Int), .int .i64 (z : Int), .int .i64 (t : Int)] 36) := ⟨_, rfl⟩
  have R4 := R3.below (show Below w3.heap.size w3 w4 by rw [hw4]; exact below1 _ _)
  have B4 : Below w.heap.size w w4 := by rw [hw4]; exact B3.alloc B3.size _
  have c0 : w4.cell? ⟨w1.heap.size, 0, none⟩ = _ := R4.cell 0
  have c1 : w4.cell? ⟨w1.heap.size, 1, none⟩ = _ := R4.cell 1
  have c2 : w4.cell? ⟨w1.heap.size, 2, none⟩ = _ := R4.cell 2
  have c3 : w4.cell? ⟨w1.heap.size, 3, none⟩ = _ := R4.cell 3
  rw [hw4] at c0 c1 c2 c3
  clear R2 R3 R4 B2 b3 h2 B3
  go_wp2_with (first
    | (go_at_call 13; refine (hnum.out _ _).mono ?_; rintro e wn ⟨rfl, rfl⟩))
  rw [← hw4]
  refine (hwk.out _).mono ?_
  rintro e w5 ⟨rfl, b5⟩
  go_wp2
  go_ret
  exact ⟨rfl, below0 B4 b5⟩
theorem windowSites_any (n : Int) (w : World) : Calls Try.prog 4 #[.int .i64 n] w fun e w' => e = .returned (.bool true) ∧ Below w.heap.size w w' := by
  rcases h : isB n 65536 with _ | _
  · exact sites_no n w h
  · obtain ⟨k, rfl, hk⟩ := isB_nat (b := 65536) h
    exact sites_yes k w hk

set_option maxRecDepth 100000 in
set_option maxHeartbeats 2000000 in
theorem bytes_a (n m : Int) (h : n < 0) (a : Nat) (w : World) (ha : a < 4294967296) : Calls Try.prog 5 #[.int .i64 n, .int .i64 m, .int .u32 (a : Int)] w fun e w' => e = .returned (.bool true) ∧ Below w.heap.size w w' := by
  have hnum := Lib.hid num_any
  have hwk := Lib.hid works_any
  have hA := Lib.hid (fun w => address_nop n m w (by unfold isB; rw [decide_eq_false (show ¬ 0 ≤ n by omega), Bool.false_and]))
  have x0 : decide (n < 0) = true := decide_eq_true h
  clear h
  by_cases h9 : 16777216 ≤ a
  · have hS := Lib.hid (fun w => split_no a w h9)
    have d9 : decide ((16777216 : Int) ≤ (a : Int)) = true := decide_eq_true (by omega)
    clear h9 ha
    go_enter Try.func5, Try.ntmps5
    go_wp2_with fail
    refine (hA.out _).mono ?_
    rintro e w1 ⟨rfl, B1⟩
    clear hA
    go_wp2_with (first
      | (go_at_call 13; refine (hnum.out _ _).mono ?_; rintro e wn ⟨rfl, rfl⟩))
    refine (hS.out _).mono ?_
    rintro e w3 ⟨rfl, b3⟩
    have B3 := below0 B1 b3
    clear B1 b3 hS
    go_wp2_with (first
      | (go_at_call 13; refine (hnum.out _ _).mono ?_; rintro e wn ⟨rfl, rfl⟩))
    refine (hwk.out _).mono ?_
    rintro e w5 ⟨rfl, b5⟩
    go_wp2
    go_ret
    exact ⟨rfl, below0 B3 b5⟩
  · have hS := Lib.hid (fun w => split_yes a w (by omega))
    have d9 : decide ((16777216 : Int) ≤ (a : Int)) = false := decide_eq_false (by omega)
    have e7 : (a : Int) / 256 = ((a / 256 : Nat) : Int) := by omega
    have e8 : (a : Int) % 256 = ((a % 256 : Nat) : Int) := by omega
    have e9 : IntKind.i64.wrap (a : Int) = (a : Int) := wrapI _ (by omega) (by omega)
    have e10 : IntKind.i64.wrap ((a / 256 : Nat) : Int) = ((a / 256 : Nat) : Int) := wrapI _ (by omega) (by omega)
    obtain ⟨u, hu⟩ : ∃ u, u = a / 256 := ⟨_, rfl⟩
    obtain ⟨v, hv⟩ : ∃ v, v = a % 256 := ⟨_, rfl⟩
    rw [← hu, ← hv] at hS
    rw [← hu] at e7 e10
    rw [← hv] at e8
    have e0a : (0 : Int) ≤ (a : Int) := by omega
    clear h9 ha hu hv
    go_enter Try.func5, Try.ntmps5
    go_wp2_with fail
    refine (hA.out _).mono ?_
    rintro e w1 ⟨rfl, B1⟩
    clear hA
    go_wp2_with (first
      | (go_at_call 13; refine (hnum.out _ _).mono ?_; rintro e wn ⟨rfl, rfl⟩))
    refine (hS.out _).mono ?_
    rintro e w3 ⟨rfl, b3⟩
    have B3 := below0 B1 b3
    clear B1 b3 hS
    go_wp2_with (first
      | (go_at_call 13; refine (hnum.out _ _).mono ?_; rintro e wn ⟨rfl, rfl⟩))
    refine (hwk.out _).mono ?_
    rintro e w5 ⟨rfl, b5⟩
    go_wp2
    go_ret
    exact ⟨rfl, below0 B3 b5⟩
set_option maxRecDepth 100000 in
set_option maxHeartbeats 2000000 in
theorem bytes_b (n m : Int) (h : 65535 < n) (a : Nat) (w : World) (ha : a < 4294967296) : Calls Try.prog 5 #[.int .i64 n, .int .i64 m, .int .u32 (a : Int)] w fun e w' => e = .returned (.bool true) ∧ Below w.heap.size w w' := by
  have hnum := Lib.hid num_any
  have hwk := Lib.hid works_any
  have hA := Lib.hid (fun w => address_nop n m w (by unfold isB; rw [decide_eq_false (show ¬ n < 65536 by omega), Bool.and_false]))
  have x0 : decide (n < 0) = false := decide_eq_false (by omega)
  have x1 : decide (65535 < n) = true := decide_eq_true (by omega)
  clear h
  by_cases h9 : 16777216 ≤ a
  · have hS := Lib.hid (fun w => split_no a w h9)
    have d9 : decide ((16777216 : Int) ≤ (a : Int)) = true := decide_eq_true (by omega)
    clear h9 ha
    go_enter Try.func5, Try.ntmps5
    go_wp2_with fail
    refine (hA.out _).mono ?_
    rintro e w1 ⟨rfl, B1⟩
    clear hA
    go_wp2_with (first
      | (go_at_call 13; refine (hnum.out _ _).mono ?_; rintro e wn ⟨rfl, rfl⟩))
    refine (hS.out _).mono ?_
    rintro e w3 ⟨rfl, b3⟩
    have B3 := below0 B1 b3
    clear B1 b3 hS
    go_wp2_with (first
      | (go_at_call 13; refine (hnum.out _ _).mono ?_; rintro e wn ⟨rfl, rfl⟩))
    refine (hwk.out _).mono ?_
    rintro e w5 ⟨rfl, b5⟩
    go_wp2
    go_ret
    exact ⟨rfl, below0 B3 b5⟩
  · have hS := Lib.hid (fun w => split_yes a w (by omega))
    have d9 : decide ((16777216 : Int) ≤ (a : Int)) = false := decide_eq_false (by omega)
    have e7 : (a : Int) / 256 = ((a / 256 : Nat) : Int) := by omega
    have e8 : (a : Int) % 256 = ((a % 256 : Nat) : Int) := by omega
    have e9 : IntKind.i64.wrap (a : Int) = (a : Int) := wrapI _ (by omega) (by omega)
    have e10 : IntKind.i64.wrap ((a / 256 : Nat) : Int) = ((a / 256 : Nat) : Int) := wrapI _ (by omega) (by omega)
    obtain ⟨u, hu⟩ : ∃ u, u = a / 256 := ⟨_, rfl⟩
    obtain ⟨v, hv⟩ : ∃ v, v = a % 256 := ⟨_, rfl⟩
    rw [← hu, ← hv] at hS
    rw [← hu] at e7 e10
    rw [← hv] at e8
    have e0a : (0 : Int) ≤ (a : Int) := by omega
    clear h9 ha hu hv
    go_enter Try.func5, Try.ntmps5
    go_wp2_with fail
    refine (hA.out _).mono ?_
    rintro e w1 ⟨rfl, B1⟩
    clear hA
    go_wp2_with (first
      | (go_at_call 13; refine (hnum.out _ _).mono ?_; rintro e wn ⟨rfl, rfl⟩))
    refine (hS.out _).mono ?_
    rintro e w3 ⟨rfl, b3⟩
    have B3 := below0 B1 b3
    clear B1 b3 hS
    go_wp2_with (first
      | (go_at_call 13; refine (hnum.out _ _).mono ?_; rintro e wn ⟨rfl, rfl⟩))
    refine (hwk.out _).mono ?_
    rintro e w5 ⟨rfl, b5⟩
    go_wp2
    go_ret
    exact ⟨rfl, below0 B3 b5⟩
set_option maxRecDepth 100000 in
set_option maxHeartbeats 2000000 in
theorem bytes_c (n m : Int) (h0 : 0 ≤ n ∧ n < 65536) (h : m < 0) (a : Nat) (w : World) (ha : a < 4294967296) : Calls Try.prog 5 #[.int .i64 n, .int .i64 m, .int .u32 (a : Int)] w fun e w' => e = .returned (.bool true) ∧ Below w.heap.size w w' := by
  have hnum := Lib.hid num_any
  have hwk := Lib.hid works_any
  have hA := Lib.hid (fun w => address_noq n m w (by unfold isB; rw [decide_eq_true h0.1, decide_eq_true h0.2]; rfl) (by unfold isB; rw [decide_eq_false (show ¬ 0 ≤ m by omega), Bool.false_and]))
  have x0 : decide (n < 0) = false := decide_eq_false (by omega)
  have x1 : decide (65535 < n) = false := decide_eq_false (by omega)
  have x2 : decide (m < 0) = true := decide_eq_true (by omega)
  clear h h0
  by_cases h9 : 16777216 ≤ a
  · have hS := Lib.hid (fun w => split_no a w h9)
    have d9 : decide ((16777216 : Int) ≤ (a : Int)) = true := decide_eq_true (by omega)
    clear h9 ha
    go_enter Try.func5, Try.ntmps5
    go_wp2_with fail
    refine (hA.out _).mono ?_
    rintro e w1 ⟨rfl, B1⟩
    clear hA
    go_wp2_with (first
      | (go_at_call 13; refine (hnum.out _ _).mono ?_; rintro e wn ⟨rfl, rfl⟩))
    refine (hS.out _).mono ?_
    rintro e w3 ⟨rfl, b3⟩
    have B3 := below0 B1 b3
    clear B1 b3 hS
    go_wp2_with (first
      | (go_at_call 13; refine (hnum.out _ _).mono ?_; rintro e wn ⟨rfl, rfl⟩))
    refine (hwk.out _).mono ?_
    rintro e w5 ⟨rfl, b5⟩
    go_wp2
    go_ret
    exact ⟨rfl, below0 B3 b5⟩
  · have hS := Lib.hid (fun w => split_yes a w (by omega))
    have d9 : decide ((16777216 : Int) ≤ (a : Int)) = false := decide_eq_false (by omega)
    have e7 : (a : Int) / 256 = ((a / 256 : Nat) : Int) := by omega
    have e8 : (a : Int) % 256 = ((a % 256 : Nat) : Int) := by omega
    have e9 : IntKind.i64.wrap (a : Int) = (a : Int) := wrapI _ (by omega) (by omega)
    have e10 : IntKind.i64.wrap ((a / 256 : Nat) : Int) = ((a / 256 : Nat) : Int) := wrapI _ (by omega) (by omega)
    obtain ⟨u, hu⟩ : ∃ u, u = a / 256 := ⟨_, rfl⟩
    obtain ⟨v, hv⟩ : ∃ v, v = a % 256 := ⟨_, rfl⟩
    rw [← hu, ← hv] at hS
    rw [← hu] at e7 e10
    rw [← hv] at e8
    have e0a : (0 : Int) ≤ (a : Int) := by omega
    clear h9 ha hu hv
    go_enter Try.func5, Try.ntmps5
    go_wp2_with fail
    refine (hA.out _).mono ?_
    rintro e w1 ⟨rfl, B1⟩
    clear hA
    go_wp2_with (first
      | (go_at_call 13; refine (hnum.out _ _).mono ?_; rintro e wn ⟨rfl, rfl⟩))
    refine (hS.out _).mono ?_
    rintro e w3 ⟨rfl, b3⟩
    have B3 := below0 B1 b3
    clear B1 b3 hS
    go_wp2_with (first
      | (go_at_call 13; refine (hnum.out _ _).mono ?_; rintro e wn ⟨rfl, rfl⟩))
    refine (hwk.out _).mono ?_
    rintro e w5 ⟨rfl, b5⟩
    go_wp2
    go_ret
    exact ⟨rfl, below0 B3 b5⟩
set_option maxRecDepth 100000 in
set_option maxHeartbeats 2000000 in
theorem bytes_d (n m : Int) (h0 : 0 ≤ n ∧ n < 65536) (h : 255 < m) (a : Nat) (w : World) (ha : a < 4294967296) : Calls Try.prog 5 #[.int .i64 n, .int .i64 m, .int .u32 (a : Int)] w fun e w' => e = .returned (.bool true) ∧ Below w.heap.size w w' := by
  have hnum := Lib.hid num_any
  have hwk := Lib.hid works_any
  have hA := Lib.hid (fun w => address_noq n m w (by unfold isB; rw [decide_eq_true h0.1, decide_eq_true h0.2]; rfl) (by unfold isB; rw [decide_eq_false (show ¬ m < 256 by omega), Bool.and_false]))
  have x0 : decide (n < 0) = false := decide_eq_false (by omega)
  have x1 : decide (65535 < n) = false := decide_eq_false (by omega)
  have x2 : decide (m < 0) = false := decide_eq_false (by omega)
  have x3 : decide (255 < m) = true := decide_eq_true (by omega)
  clear h h0
  by_cases h9 : 16777216 ≤ a
  · have hS := Lib.hid (fun w => split_no a w h9)
    have d9 : decide ((16777216 : Int) ≤ (a : Int)) = true := decide_eq_true (by omega)
    clear h9 ha
    go_enter Try.func5, Try.ntmps5
    go_wp2_with fail
    refine (hA.out _).mono ?_
    rintro e w1 ⟨rfl, B1⟩
    clear hA
    go_wp2_with (first
      | (go_at_call 13; refine (hnum.out _ _).mono ?_; rintro e wn ⟨rfl, rfl⟩))
    refine (hS.out _).mono ?_
    rintro e w3 ⟨rfl, b3⟩
    have B3 := below0 B1 b3
    clear B1 b3 hS
    go_wp2_with (first
      | (go_at_call 13; refine (hnum.out _ _).mono ?_; rintro e wn ⟨rfl, rfl⟩))
    refine (hwk.out _).mono ?_
    rintro e w5 ⟨rfl, b5⟩
    go_wp2
    go_ret
    exact ⟨rfl, below0 B3 b5⟩
  · have hS := Lib.hid (fun w => split_yes a w (by omega))
    have d9 : decide ((16777216 : Int) ≤ (a : Int)) = false := decide_eq_false (by omega)
    have e7 : (a : Int) / 256 = ((a / 256 : Nat) : Int) := by omega
    have e8 : (a : Int) % 256 = ((a % 256 : Nat) : Int) := by omega
    have e9 : IntKind.i64.wrap (a : Int) = (a : Int) := wrapI _ (by omega) (by omega)
    have e10 : IntKind.i64.wrap ((a / 256 : Nat) : Int) = ((a / 256 : Nat) : Int) := wrapI _ (by omega) (by omega)
    obtain ⟨u, hu⟩ : ∃ u, u = a / 256 := ⟨_, rfl⟩
    obtain ⟨v, hv⟩ : ∃ v, v = a % 256 := ⟨_, rfl⟩
    rw [← hu, ← hv] at hS
    rw [← hu] at e7 e10
    rw [← hv] at e8
    have e0a : (0 : Int) ≤ (a : Int) := by omega
    clear h9 ha hu hv
    go_enter Try.func5, Try.ntmps5
    go_wp2_with fail
    refine (hA.out _).mono ?_
    rintro e w1 ⟨rfl, B1⟩
    clear hA
    go_wp2_with (first
      | (go_at_call 13; refine (hnum.out _ _).mono ?_; rintro e wn ⟨rfl, rfl⟩))
    refine (hS.out _).mono ?_
    rintro e w3 ⟨rfl, b3⟩
    have B3 := below0 B1 b3
    clear B1 b3 hS
    go_wp2_with (first
      | (go_at_call 13; refine (hnum.out _ _).mono ?_; rintro e wn ⟨rfl, rfl⟩))
    refine (hwk.out _).mono ?_
    rintro e w5 ⟨rfl, b5⟩
    go_wp2
    go_ret
    exact ⟨rfl, below0 B3 b5⟩
set_option maxRecDepth 100000 in
set_option maxHeartbeats 2000000 in
theorem bytes_e (p q : Nat) (h0 : p < 65536) (h : q < 256) (a : Nat) (w : World) (ha : a < 4294967296) : Calls Try.prog 5 #[.int .i64 (p : Int), .int .i64 (q : Int), .int .u32 (a : Int)] w fun e w' => e = .returned (.bool true) ∧ Below w.heap.size w w' := by
  have hnum := Lib.hid num_any
  have hwk := Lib.hid works_any
  have hA := Lib.hid (fun w => address_yes p q w h0 h)
  have hT := Lib.hid (fun w => split_yes (256 * p + q) w (by omega))
  rw [show (256 * p + q) / 256 = p by omega, show (256 * p + q) % 256 = q by omega] at hT
  have x0 : decide ((p : Int) < 0) = false := decide_eq_false (by omega)
  have x1 : decide (65535 < (p : Int)) = false := decide_eq_false (by omega)
  have x2 : decide ((q : Int) < 0) = false := decide_eq_false (by omega)
  have x3 : decide (255 < (q : Int)) = false := decide_eq_false (by omega)
  have y0 : IntKind.u64.wrap (p : Int) = (p : Int) := by rw [IntKind.wrap_u64]; omega
  have y1 : IntKind.u64.wrap (q : Int) = (q : Int) := by rw [IntKind.wrap_u64]; omega
  have y2 : IntKind.u64.wrap (256 * (p : Int)) = ((256 * p : Nat) : Int) := by rw [IntKind.wrap_u64]; omega
  have y3 : IntKind.u64.wrap (((256 * p : Nat) : Int) + (q : Int)) = ((256 * p + q : Nat) : Int) := by rw [IntKind.wrap_u64]; omega
  have y4 : IntKind.u64.wrap ((256 * p + q : Nat) : Int) = ((256 * p + q : Nat) : Int) := by rw [IntKind.wrap_u64]; omega
  obtain ⟨x, hx⟩ : ∃ x, x = 256 * p + q := ⟨_, rfl⟩
  rw [← hx] at hA hT y3 y4
  obtain ⟨y, hy⟩ : ∃ y, y = 256 * p := ⟨_, rfl⟩
  rw [← hy] at y2 y3
  clear h h0 hx hy
  by_cases h9 : 16777216 ≤ a
  · have hS := Lib.hid (fun w => split_no a w h9)
    have d9 : decide ((16777216 : Int) ≤ (a : Int)) = true := decide_eq_true (by omega)
    clear h9 ha
    go_enter Try.func5, Try.ntmps5
    go_wp2_with fail
    refine (hA.out _).mono ?_
    rintro e w1 ⟨rfl, b1⟩
    clear hA
    go_wp2_with fail
    refine (hT.out _).mono ?_
    rintro e w2 ⟨rfl, b2⟩
    have B1 := below0 b1 b2
    clear hT b1 b2
    go_wp2_with (first
      | (go_at_call 13; refine (hnum.out _ _).mono ?_; rintro e wn ⟨rfl, rfl⟩))
    refine (hS.out _).mono ?_
    rintro e w3 ⟨rfl, b3⟩
    have B3 := below0 B1 b3
    clear B1 b3 hS
    go_wp2_with (first
      | (go_at_call 13; refine (hnum.out _ _).mono ?_; rintro e wn ⟨rfl, rfl⟩))
    refine (hwk.out _).mono ?_
    rintro e w5 ⟨rfl, b5⟩
    go_wp2
    go_ret
    exact ⟨rfl, below0 B3 b5⟩
  · have hS := Lib.hid (fun w => split_yes a w (by omega))
    have d9 : decide ((16777216 : Int) ≤ (a : Int)) = false := decide_eq_false (by omega)
    have e7 : (a : Int) / 256 = ((a / 256 : Nat) : Int) := by omega
    have e8 : (a : Int) % 256 = ((a % 256 : Nat) : Int) := by omega
    have e9 : IntKind.i64.wrap (a : Int) = (a : Int) := wrapI _ (by omega) (by omega)
    have e10 : IntKind.i64.wrap ((a / 256 : Nat) : Int) = ((a / 256 : Nat) : Int) := wrapI _ (by omega) (by omega)
    obtain ⟨u, hu⟩ : ∃ u, u = a / 256 := ⟨_, rfl⟩
    obtain ⟨v, hv⟩ : ∃ v, v = a % 256 := ⟨_, rfl⟩
    rw [← hu, ← hv] at hS
    rw [← hu] at e7 e10
    rw [← hv] at e8
    have e0a : (0 : Int) ≤ (a : Int) := by omega
    clear h9 ha hu hv
    go_enter Try.func5, Try.ntmps5
    go_wp2_with fail
    refine (hA.out _).mono ?_
    rintro e w1 ⟨rfl, b1⟩
    clear hA
    go_wp2_with fail
    refine (hT.out _).mono ?_
    rintro e w2 ⟨rfl, b2⟩
    have B1 := below0 b1 b2
    clear hT b1 b2
    go_wp2_with (first
      | (go_at_call 13; refine (hnum.out _ _).mono ?_; rintro e wn ⟨rfl, rfl⟩))
    refine (hS.out _).mono ?_
    rintro e w3 ⟨rfl, b3⟩
    have B3 := below0 B1 b3
    clear B1 b3 hS
    go_wp2_with (first
      | (go_at_call 13; refine (hnum.out _ _).mono ?_; rintro e wn ⟨rfl, rfl⟩))
    refine (hwk.out _).mono ?_
    rintro e w5 ⟨rfl, b5⟩
    go_wp2
    go_ret
    exact ⟨rfl, below0 B3 b5⟩
theorem windowBytes_any (n m : Int) (a : Nat) (w : World) (ha : a < 4294967296) : Calls Try.prog 5 #[.int .i64 n, .int .i64 m, .int .u32 (a : Int)] w fun e w' => e = .returned (.bool true) ∧ Below w.heap.size w w' := by
  by_cases h1 : n < 0
  · exact bytes_a n m h1 a w ha
  · by_cases h2 : 65535 < n
    · exact bytes_b n m h2 a w ha
    · by_cases h3 : m < 0
      · exact bytes_c n m ⟨by omega, by omega⟩ h3 a w ha
      · by_cases h4 : 255 < m
        · exact bytes_d n m ⟨by omega, by omega⟩ h4 a w ha
        · obtain ⟨p, rfl⟩ : ∃ p : Nat, n = (p : Int) := ⟨n.toNat, by omega⟩
          obtain ⟨q, rfl⟩ : ∃ q : Nat, m = (q : Int) := ⟨m.toNat, by omega⟩
          exact bytes_e p q (by omega) (by omega) a w ha
end Go.Proofs.Ytkfljominljliaa
