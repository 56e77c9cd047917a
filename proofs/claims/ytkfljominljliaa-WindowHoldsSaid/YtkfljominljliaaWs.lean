import Derived.Test.YtkfljominljliaaWq
import Derived.Test.YtkfljominljliaaWr
namespace Go.Proofs.Ytkfljominljliaa
open Go.RowKit Go.Shelf
attribute [local go_sem] Oper.semAt_some

theorem num_any (n : Int) (w : World) : Calls Try.prog 13 #[.int .i64 n] w fun e w' => e = .returned (.int .i64 n) ∧ w = w' := by
  go_enter Try.func13, Try.ntmps13
  go_wp2
  go_ret
  exact ⟨rfl, rfl⟩
theorem rslot_any (n : Int) (w : World) : Calls Try.prog 12 #[.int .i64 n] w fun e w' => e = .returned (.bool (isB n 4)) ∧ w = w' := by
  by_cases h0 : 0 ≤ n
  · have e0 : decide (0 ≤ n) = true := decide_eq_true h0
    obtain ⟨c, hc⟩ : ∃ c, decide (n < 4) = c := ⟨_, rfl⟩
    rw [isB, e0, hc]
    go_enter Try.func12, Try.ntmps12
    go_wp2
    go_ret
    exact ⟨rfl, rfl⟩
  · have e0 : decide (0 ≤ n) = false := decide_eq_false h0
    rw [isB, e0]
    go_enter Try.func12, Try.ntmps12
    go_wp2
    go_ret
    exact ⟨rfl, rfl⟩
theorem rclass_any (n : Int) (w : World) : Calls Try.prog 17 #[.int .i64 n] w fun e w' => e = .returned (.bool (isB n 8)) ∧ w = w' := by
  by_cases h0 : 0 ≤ n
  · have e0 : decide (0 ≤ n) = true := decide_eq_true h0
    obtain ⟨c, hc⟩ : ∃ c, decide (n < 8) = c := ⟨_, rfl⟩
    rw [isB, e0, hc]
    go_enter Try.func17, Try.ntmps17
    go_wp2
    go_ret
    exact ⟨rfl, rfl⟩
  · have e0 : decide (0 ≤ n) = false := decide_eq_false h0
    rw [isB, e0]
    go_enter Try.func17, Try.ntmps17
    go_wp2
    go_ret
    exact ⟨rfl, rfl⟩
theorem rbase_any (k : Nat) (w : World) (hk : k < 64) : Calls Try.prog 15 #[.int .i64 (k : Int)] w fun e w' => e = .returned (.int .i64 ((4096 * k + 4096 : Nat) : Int)) ∧ w = w' := by
  have e0 : IntKind.i64.wrap ((k : Int) + 1) = ((k + 1 : Nat) : Int) := (wrapI _ (by omega) (by omega)).trans (by omega)
  have e1 : IntKind.i64.wrap (4096 * ((k + 1 : Nat) : Int)) = ((4096 * k + 4096 : Nat) : Int) := (wrapI _ (by omega) (by omega)).trans (by omega)
  obtain ⟨x, hx⟩ : ∃ x, x = k + 1 := ⟨_, rfl⟩
  obtain ⟨y, hy⟩ : ∃ y, y = 4096 * k + 4096 := ⟨_, rfl⟩
  rw [← hx] at e0 e1
  rw [← hy] at e1 ⊢
  clear hx hy hk
  go_enter Try.func15, Try.ntmps15
  go_wp2
  go_ret
  exact ⟨rfl, rfl⟩
theorem rbook_any (k : Nat) (w : World) (hk : k < 64) : Calls Try.prog 16 #[.int .i64 (k : Int)] w fun e w' => e = .returned (.int .i64 ((64 * k + 1 : Nat) : Int)) ∧ w = w' := by
  have e0 : IntKind.i64.wrap (64 * (k : Int)) = ((64 * k : Nat) : Int) := (wrapI _ (by omega) (by omega)).trans (by omega)
  have e1 : IntKind.i64.wrap (((64 * k : Nat) : Int) + 1) = ((64 * k + 1 : Nat) : Int) := (wrapI _ (by omega) (by omega)).trans (by omega)
  obtain ⟨x, hx⟩ : ∃ x, x = 64 * k := ⟨_, rfl⟩
  obtain ⟨y, hy⟩ : ∃ y, y = 64 * k + 1 := ⟨_, rfl⟩
  rw [← hy] at e1 ⊢
  rw [← hx] at e0 e1
  clear hx hy hk
  go_enter Try.func16, Try.ntmps16
  go_wp2
  go_ret
  exact ⟨rfl, rfl⟩
theorem rregion_any (k c : Nat) (w : World) (hk : k < 64) (hc : c < 64) : Calls Try.prog 18 #[.int .i64 (k : Int), .int .i64 (c : Int)] w fun e w' => e = .returned (.int .i64 ((4096 * k + 4097 + 17 * c : Nat) : Int)) ∧ w = w' := by
  have hb := Lib.hid (fun w => rbase_any k w hk)
  have e0 : IntKind.i64.wrap (((4096 * k + 4096 : Nat) : Int) + 1) = ((4096 * k + 4097 : Nat) : Int) := (wrapI _ (by omega) (by omega)).trans (by omega)
  have e1 : IntKind.i64.wrap (17 * (c : Int)) = ((17 * c : Nat) : Int) := (wrapI _ (by omega) (by omega)).trans (by omega)
  have e2 : IntKind.i64.wrap (((4096 * k + 4097 : Nat) : Int) + ((17 * c : Nat) : Int)) = ((4096 * k + 4097 + 17 * c : Nat) : Int) := (wrapI _ (by omega) (by omega)).trans (by omega)
  obtain ⟨x, hx⟩ : ∃ x, x = 4096 * k + 4096 := ⟨_, rfl⟩
  obtain ⟨z, hz⟩ : ∃ z, z = 4096 * k + 4097 + 17 * c := ⟨_, rfl⟩
  rw [← hz] at e2 ⊢
  obtain ⟨y, hy⟩ : ∃ y, y = 4096 * k + 4097 := ⟨_, rfl⟩
  obtain ⟨t, ht⟩ : ∃ t, t = 17 * c := ⟨_, rfl⟩
  rw [← hx] at e0 hb
  rw [← hy] at e0 e2
  rw [← ht] at e1 e2
  clear hx hy hz ht hk hc
  go_enter Try.func18, Try.ntmps18
  go_wp2_with fail
  refine (hb.out _).mono ?_
  rintro e w1 ⟨rfl, rfl⟩
  go_wp2
  go_ret
  exact ⟨rfl, rfl⟩

theorem plcA : plc 4097 = (2, 0, 0, 0) := by decide +kernel
theorem plcB : plc 4113 = (4, 0, 0, 17) := by decide +kernel
theorem plcC : plc 4352 = (3, 0, 0, 256) := by decide +kernel
set_option maxRecDepth 100000 in
set_option maxHeartbeats 4000000 in
theorem works_any (w : World) : Calls Try.prog 14 #[] w fun e w' => e = .returned (.bool true) ∧ Below w.heap.size w w' := by
  have h1 := Lib.hid (fun w => (show Calls Try.prog 8 #[.int .i64 0] w fun e w' => e = .returned (.tuple #[.int .i64 4096, .int .i64 0]) ∧ Below w.heap.size w w' from base_yes 0 w (by omega)))
  have h2 := Lib.hid (fun w => (show Calls Try.prog 9 #[.int .i64 3, .int .i64 7] w fun e w' => e = .returned (.tuple #[.int .i64 16504, .int .i64 0]) ∧ Below w.heap.size w w' from region_yes 3 7 w (by omega) (by omega)))
  have h3 := Lib.hid (fun w => (show Calls Try.prog 10 #[.int .i64 1] w fun e w' => e = .returned (.tuple #[.int .i64 8448, .int .i64 12288, .int .i64 0]) ∧ Below w.heap.size w w' from great_yes 1 w (by omega)))
  have h4 := Lib.hid (fun w => (show Calls Try.prog 11 #[.int .i64 2] w fun e w' => e = .returned (.tuple #[.int .i64 129, .int .i64 0]) ∧ Below w.heap.size w w' from book_yes 2 w (by omega)))
  have h5 := Lib.hid (fun w => base_no 4 w rfl)
  have h6 := Lib.hid (fun w => of_yes 4097 w (by omega))
  have h7 := Lib.hid (fun w => of_yes 4113 w (by omega))
  have h8 := Lib.hid (fun w => of_yes 4352 w (by omega))
  rw [plcA] at h6
  rw [plcB] at h7
  rw [plcC] at h8
  have h9 := Lib.hid (fun w => of_no 65536 w rfl)
  have hA := Lib.hid (fun w => (show Calls Try.prog 21 #[.int .i64 2, .int .i64 5] w fun e w' => e = .returned (.tuple #[.int .u32 517, .int .i64 0]) ∧ Below w.heap.size w w' from address_yes 2 5 w (by omega) (by omega)))
  have hB := Lib.hid (fun w => (show Calls Try.prog 22 #[.int .u32 517] w fun e w' => e = .returned (.tuple #[.int .i64 2, .int .i64 5, .int .i64 0]) ∧ Below w.heap.size w w' from split_yes 517 w (by omega)))
  have hC := Lib.hid (fun w => address_noq 1 256 w rfl rfl)
  go_enter Try.func14, Try.ntmps14
  go_wp2_with fail
  refine (h1.out _).mono ?_
  rintro e w1 ⟨rfl, b1⟩
  go_wp2_with fail
  refine (h2.out _).mono ?_
  rintro e w2 ⟨rfl, b2⟩
  have B2 := below0 b1 b2
  clear b1 b2 h1 h2
  go_wp2_with fail
  refine (h3.out _).mono ?_
  rintro e w3 ⟨rfl, b3⟩
  have B3 := below0 B2 b3
  clear B2 b3 h3
  go_wp2_with fail
  refine (h4.out _).mono ?_
  rintro e w4 ⟨rfl, b4⟩
  have B4 := below0 B3 b4
  clear B3 b4 h4
  go_wp2_with fail
  refine (h5.out _).mono ?_
  rintro e w5 ⟨rfl, b5⟩
  have B5 := below0 B4 b5
  clear B4 b5 h5
  go_wp2_with fail
  refine (h6.out _).mono ?_
  rintro e w6 ⟨rfl, b6⟩
  have B6 := below0 B5 b6
  clear B5 b6 h6
  go_wp2_with fail
  obtain ⟨w6a, hw6a⟩ : ∃ w6a, w6a = w6.alloc (.cells #[.int .i64 2, .int .i64 0, .int .i64 0, .int .i64 0] 36) := ⟨_, rfl⟩
  have b6 : Below w6.heap.size w6 w6a := by rw [hw6a]; exact below1 _ _
  have R6 : Row w6a w6.heap.size 36 [.int .i64 2, .int .i64 0, .int .i64 0, .int .i64 0] := by rw [hw6a]; exact Row.new _ _ _
  have B6a := below0 B6 b6
  rw [← hw6a]
  clear hw6a b6 B6
  refine (h7.out _).mono ?_
  rintro e w7 ⟨rfl, b7⟩
  have B7 := below0 B6a b7
  have R6 := R6.below b7
  clear B6a b7 h7
  go_wp2_with fail
  obtain ⟨w7a, hw7a⟩ : ∃ w7a, w7a = w7.alloc (.cells #[.int .i64 4, .int .i64 0, .int .i64 0, .int .i64 17] 36) := ⟨_, rfl⟩
  have b7 : Below w7.heap.size w7 w7a := by rw [hw7a]; exact below1 _ _
  have R7 : Row w7a w7.heap.size 36 [.int .i64 4, .int .i64 0, .int .i64 0, .int .i64 17] := by rw [hw7a]; exact Row.new _ _ _
  have R6 := R6.below b7
  have B7a := below0 B7 b7
  rw [← hw7a]
  clear hw7a b7 B7
  refine (h8.out _).mono ?_
  rintro e w8 ⟨rfl, b8⟩
  have B8 := below0 B7a b8
  have R6 := R6.below b8
  have R7 := R7.below b8
  clear B7a b8 h8
  go_wp2_with fail
  obtain ⟨w8a, hw8a⟩ : ∃ w8a, w8a = w8.alloc (.cells #[.int .i64 3, .int .i64 0, .int .i64 0, .int .i64 256] 36) := ⟨_, rfl⟩
  have b8 : Below w8.heap.size w8 w8a := by rw [hw8a]; exact below1 _ _
  have R8 : Row w8a w8.heap.size 36 [.int .i64 3, .int .i64 0, .int .i64 0, .int .i64 256] := by rw [hw8a]; exact Row.new _ _ _
  have R6 := R6.below b8
  have R7 := R7.below b8
  have B8a := below0 B8 b8
  rw [← hw8a]
  clear hw8a b8 B8
  refine (h9.out _).mono ?_
  rintro e w9 ⟨rfl, b9⟩
  have B9 := below0 B8a b9
  have R6 := R6.below b9
  have R7 := R7.below b9
  have R8 := R8.below b9
  clear B8a b9 h9
  go_wp2_with fail
  obtain ⟨w9a, hw9a⟩ : ∃ w9a, w9a = w9.alloc (.cells #[.int .i64 0, .int .i64 0, .int .i64 0, .int .i64 0] 36) := ⟨_, rfl⟩
  have b9 : Below w9.heap.size w9 w9a := by rw [hw9a]; exact below1 _ _
  have R6 := R6.below b9
  have R7 := R7.below b9
  have R8 := R8.below b9
  have B9a := below0 B9 b9
  rw [← hw9a]
  clear hw9a b9 B9
  refine (hA.out _).mono ?_
  rintro e wa ⟨rfl, ba⟩
  have Ba := below0 B9a ba
  have R6 := R6.below ba
  have R7 := R7.below ba
  have R8 := R8.below ba
  clear B9a ba hA
  go_wp2_with fail
  refine (hB.out _).mono ?_
  rintro e wb ⟨rfl, bb⟩
  have Bb := below0 Ba bb
  have R6 := R6.below bb
  have R7 := R7.below bb
  have R8 := R8.below bb
  clear Ba bb hB
  go_wp2_with fail
  refine (hC.out _).mono ?_
  rintro e wc ⟨rfl, bc⟩
  have Bc := below0 Bb bc
  have R6 := R6.below bc
  have R7 := R7.below bc
  have R8 := R8.below bc
  have c60 : wc.cell? ⟨w6.heap.size, 0, none⟩ = _ := R6.cell 0
  have c61 : wc.cell? ⟨w6.heap.size, 1, none⟩ = _ := R6.cell 1
  have c62 : wc.cell? ⟨w6.heap.size, 2, none⟩ = _ := R6.cell 2
  have c63 : wc.cell? ⟨w6.heap.size, 3, none⟩ = _ := R6.cell 3
  have c70 : wc.cell? ⟨w7.heap.size, 0, none⟩ = _ := R7.cell 0
  have c71 : wc.cell? ⟨w7.heap.size, 1, none⟩ = _ := R7.cell 1
  have c72 : wc.cell? ⟨w7.heap.size, 2, none⟩ = _ := R7.cell 2
  have c73 : wc.cell? ⟨w7.heap.size, 3, none⟩ = _ := R7.cell 3
  have c80 : wc.cell? ⟨w8.heap.size, 0, none⟩ = _ := R8.cell 0
  have c81 : wc.cell? ⟨w8.heap.size, 1, none⟩ = _ := R8.cell 1
  have c82 : wc.cell? ⟨w8.heap.size, 2, none⟩ = _ := R8.cell 2
  have c83 : wc.cell? ⟨w8.heap.size, 3, none⟩ = _ := R8.cell 3
  clear Bb bc hC R6 R7 R8
  have hnum := Lib.hid num_any
  go_wp2_with (first
    | (go_at_call 13; refine (hnum.out _ _).mono ?_; rintro e wn ⟨rfl, rfl⟩))
  go_ret
  exact ⟨rfl, Bc⟩
end Go.Proofs.Ytkfljominljliaa
