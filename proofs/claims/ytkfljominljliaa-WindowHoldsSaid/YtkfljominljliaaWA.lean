import Derived.Test.YtkfljominljliaaWv
namespace Go.Proofs.Ytkfljominljliaa
open Go.RowKit Go.Shelf
attribute [local go_sem] Oper.semAt_some

theorem plc_five (n : Nat) : plc n = (0, 0, 0, 0) ∨ (∃ s, s < 4 ∧ 64 * s + 1 ≤ n ∧ n < 64 * s + 49 ∧ plc n = (1, s, 0, n - (64 * s + 1))) ∨
    (∃ s c, s < 4 ∧ c < 8 ∧ 4096 * s + 4097 + 17 * c ≤ n ∧ n < 4096 * s + 4097 + 17 * c + 16 ∧ plc n = (2, s, c, n - (4096 * s + 4097 + 17 * c))) ∨
    (∃ s, s < 4 ∧ 4096 * s + 4352 ≤ n ∧ n < 4096 * s + 8192 ∧ plc n = (3, s, 0, n - (4096 * s + 4096))) ∨
    (∃ s, s < 4 ∧ 4096 * s + 4096 ≤ n ∧ n < 4096 * s + 4352 ∧ plc n = (4, s, 0, n - (4096 * s + 4096))) := by
  by_cases hb : isBook n
  · refine .inr (.inl ⟨(n - 1) / 64, ?_⟩)
    unfold isBook at hb
    exact ⟨by omega, by omega, by omega, plc_book (by omega) (by omega) (by omega)⟩
  · by_cases hr : isReg n
    · refine .inr (.inr (.inl ⟨n / 4096 - 1, (n % 4096 - 1) / 17, ?_⟩))
      have h2 := hr.1
      have h3 := hr.2
      unfold isWin at h2
      exact ⟨by omega, by omega, by omega, by omega, plc_reg (by omega) (by omega) (by omega) (by omega)⟩
    · by_cases hw : isWin n
      · have h2 := hw
        unfold isWin at h2
        by_cases h5 : 256 ≤ n % 4096
        · exact .inr (.inr (.inr (.inl ⟨n / 4096 - 1, by omega, by omega, by omega, plc_great (by omega) (by omega) (by omega)⟩)))
        · refine .inr (.inr (.inr (.inr ⟨n / 4096 - 1, by omega, by omega, by omega, ?_⟩)))
          unfold plc
          rw [if_neg hb, if_neg hr, if_pos hw, if_neg h5, show n % 4096 = n - (4096 * (n / 4096 - 1) + 4096) by omega]
      · refine .inl ?_
        unfold plc
        rw [if_neg hb, if_neg hr, if_neg hw]
theorem plc_inj {a b : Nat} (h : plc a = plc b) (h0 : (plc a).1 ≠ 0) : a = b := by
  rcases plc_five a with ha | ⟨s, hs, h1, h2, ha⟩ | ⟨s, c, hs, hc, h1, h2, ha⟩ | ⟨s, hs, h1, h2, ha⟩ | ⟨s, hs, h1, h2, ha⟩ <;>
  rcases plc_five b with hb | ⟨t, ht, g1, g2, hb⟩ | ⟨t, d, ht, hd, g1, g2, hb⟩ | ⟨t, ht, g1, g2, hb⟩ | ⟨t, ht, g1, g2, hb⟩ <;>
  rw [ha] at h h0 <;> rw [hb] at h <;> simp only [Prod.mk.injEq] at h h0 <;> omega
theorem plc_ahead {s c : Nat} (hs : s < 4) (hc : c < 8) : plc (4096 * s + 4096 + 17 * c) = (4, s, 0, 17 * c) := by
  rw [plc_gap (n := 4096 * s + 4096 + 17 * c) (s := s) (by omega) (by omega) hs (fun c' h' => by omega), show 4096 * s + 4096 + 17 * c - (4096 * s + 4096) = 17 * c by omega]
theorem plc_behind {s c : Nat} (hs : s < 4) (hc : c < 8) : plc (4096 * s + 4113 + 17 * c) = (4, s, 0, 17 * c + 17) := by
  rw [plc_gap (n := 4096 * s + 4113 + 17 * c) (s := s) (by omega) (by omega) hs (fun c' h' => by omega), show 4096 * s + 4113 + 17 * c - (4096 * s + 4096) = 17 * c + 17 by omega]
theorem of_at (n x y z t : Nat) (w : World) (h : n < 65536) (hp : plc n = (x, y, z, t)) : Calls Try.prog 19 #[.int .i64 (n : Int)] w fun e w' => e = .returned (.tuple #[siV (x : Int) (y : Int) (z : Int) (t : Int), .int .i64 0]) ∧ Below w.heap.size w w' := by
  have := of_yes n w h
  rwa [hp] at this

set_option maxRecDepth 100000 in
set_option maxHeartbeats 2000000 in
theorem holds_nn (a b : Int) (hx : isB a 65536 = false ∧ isB b 65536 = false) (w : World) : Calls Try.prog 7 #[.int .i64 a, .int .i64 b] w fun e w' => e = .returned (.bool true) ∧ Below w.heap.size w w' := by
  have hA := Lib.hid (fun w => of_no a w hx.1)
  have hB := Lib.hid (fun w => of_no b w hx.2)
  have hnum := Lib.hid num_any
  have hwk := Lib.hid works_any
  clear hx
  go_enter Try.func7, Try.ntmps7
  go_wp2_with fail
  refine (hA.out _).mono ?_
  rintro e w1 ⟨rfl, b1⟩
  go_wp2_with fail
  refine (hB.out _).mono ?_
  rintro e w2 ⟨rfl, b2⟩
  have B2 : Below w.heap.size w w2 := below0 (b1.alloc b1.size _) b2
  clear b1 b2 hA hB
  go_wp2_with (first
    | (go_at_call 13; refine (hnum.out _ _).mono ?_; rintro e wn ⟨rfl, rfl⟩))
  refine (hwk.out _).mono ?_
  rintro e w5 ⟨rfl, b5⟩
  go_wp2
  go_ret
  exact ⟨rfl, below0 (B2.alloc B2.size _) b5⟩
set_option maxRecDepth 100000 in
set_option maxHeartbeats 2000000 in
theorem holds_ny (a : Int) (b : Nat) (hx : isB a 65536 = false ∧ b < 65536) (w : World) : Calls Try.prog 7 #[.int .i64 a, .int .i64 (b : Int)] w fun e w' => e = .returned (.bool true) ∧ Below w.heap.size w w' := by
  have hA := Lib.hid (fun w => of_no a w hx.1)
  have hB := Lib.hid (fun w => of_yes b w hx.2)
  have hnum := Lib.hid num_any
  have hwk := Lib.hid works_any
  clear hx
  go_enter Try.func7, Try.ntmps7
  go_wp2_with fail
  refine (hA.out _).mono ?_
  rintro e w1 ⟨rfl, b1⟩
  go_wp2_with fail
  refine (hB.out _).mono ?_
  rintro e w2 ⟨rfl, b2⟩
  have B2 : Below w.heap.size w w2 := below0 (b1.alloc b1.size _) b2
  clear b1 b2 hA hB
  go_wp2_with (first
    | (go_at_call 13; refine (hnum.out _ _).mono ?_; rintro e wn ⟨rfl, rfl⟩))
  refine (hwk.out _).mono ?_
  rintro e w5 ⟨rfl, b5⟩
  go_wp2
  go_ret
  exact ⟨rfl, below0 (B2.alloc B2.size _) b5⟩
set_option maxRecDepth 100000 in
set_option maxHeartbeats 2000000 in
theorem holds_yn (a : Nat) (b : Int) (hx : a < 65536 ∧ isB b 65536 = false) (w : World) : Calls Try.prog 7 #[.int .i64 (a : Int), .int .i64 b] w fun e w' => e = .returned (.bool true) ∧ Below w.heap.size w w' := by
  have hA := Lib.hid (fun w => of_yes a w hx.1)
  have hB := Lib.hid (fun w => of_no b w hx.2)
  have hnum := Lib.hid num_any
  have hwk := Lib.hid works_any
  clear hx
  go_enter Try.func7, Try.ntmps7
  go_wp2_with fail
  refine (hA.out _).mono ?_
  rintro e w1 ⟨rfl, b1⟩
  go_wp2_with fail
  refine (hB.out _).mono ?_
  rintro e w2 ⟨rfl, b2⟩
  have B2 : Below w.heap.size w w2 := below0 (b1.alloc b1.size _) b2
  clear b1 b2 hA hB
  go_wp2_with (first
    | (go_at_call 13; refine (hnum.out _ _).mono ?_; rintro e wn ⟨rfl, rfl⟩))
  refine (hwk.out _).mono ?_
  rintro e w5 ⟨rfl, b5⟩
  go_wp2
  go_ret
  exact ⟨rfl, below0 (B2.alloc B2.size _) b5⟩
set_option maxRecDepth 100000 in
set_option maxHeartbeats 2000000 in
theorem holdsK0e (a b  : Nat) (w : World) (ha : a < 65536) (hb : b < 65536) (pa : plc a = (0, 0, 0, 0)) (pb : plc b = (0, 0, 0, 0))  : Calls Try.prog 7 #[.int .i64 (a : Int), .int .i64 (b : Int)] w fun e w' => e = .returned (.bool true) ∧ Below w.heap.size w w' := by
  have hA := Lib.hid (fun w => of_at a 0 0 0 0 w ha pa)
  have hB := Lib.hid (fun w => of_at b 0 0 0 0 w hb pb)
  have hnum := Lib.hid num_any
  have hwk := Lib.hid works_any
  clear ha pa hb pb
  go_enter Try.func7, Try.ntmps7
  go_wp2_with fail
  refine (hA.out _).mono ?_
  rintro e w1 ⟨rfl, b1⟩
  go_wp2_with fail
  obtain ⟨w2, hw2⟩ : ∃ w2, w2 = w1.alloc (.cells #[.int .i64 0, .int .i64 0, .int .i64 0, .int .i64 0] 36) := ⟨_, rfl⟩
  have R2 : Row w2 w1.heap.size 36 [.int .i64 0, .int .i64 0, .int .i64 0, .int .i64 0] := by rw [hw2]; exact Row.new _ _ _
  have B2 : Below w.heap.size w w2 := by rw [hw2]; exact b1.alloc b1.size _
  rw [← hw2]
  clear hw2 b1 hA
  refine (hB.out _).mono ?_
  rintro e w3 ⟨rfl, b3⟩
  have R3 := R2.below b3
  have B3 := below0 B2 b3
  have hlt3 := R3.lt
  obtain ⟨w4, hw4⟩ : ∃ w4, w4 = w3.alloc (.cells #[.int .i64 0, .int .i64 0, .int .i64 0, .int .i64 0] 36) := ⟨_, rfl⟩
  have R4 := R3.below (show Below w3.heap.size w3 w4 by rw [hw4]; exact below1 _ _)
  have Y4 : Row w4 w3.heap.size 36 [.int .i64 0, .int .i64 0, .int .i64 0, .int .i64 0] := by rw [hw4]; exact Row.new _ _ _
  have B4 : Below w.heap.size w w4 := by rw [hw4]; exact B3.alloc B3.size _
  clear R2 R3 B2 b3 hB B3 hlt3
  have c0 : w4.cell? ⟨w1.heap.size, 0, none⟩ = _ := R4.cell 0
  have c1 : w4.cell? ⟨w1.heap.size, 1, none⟩ = _ := R4.cell 1
  have c2 : w4.cell? ⟨w1.heap.size, 2, none⟩ = _ := R4.cell 2
  have c3 : w4.cell? ⟨w1.heap.size, 3, none⟩ = _ := R4.cell 3
  rw [hw4] at c0 c1 c2 c3
  go_wp2_with (first
    | (go_at_call 13; refine (hnum.out _ _).mono ?_; rintro e wn ⟨rfl, rfl⟩))
  rw [← hw4]
  refine (hwk.out _).mono ?_
  rintro e w5 ⟨rfl, b5⟩
  go_wp2
  go_ret
  exact ⟨rfl, below0 B4 b5⟩
set_option maxRecDepth 100000 in
set_option maxHeartbeats 2000000 in
theorem holdsK0a (a b y0 y1 y2 y3 : Nat) (w : World) (ha : a < 65536) (hb : b < 65536) (pa : plc a = (0, 0, 0, 0)) (pb : plc b = (y0, y1, y2, y3)) (hne : y0 ≠ 0) : Calls Try.prog 7 #[.int .i64 (a : Int), .int .i64 (b : Int)] w fun e w' => e = .returned (.bool true) ∧ Below w.heap.size w w' := by
  have hA := Lib.hid (fun w => of_at a 0 0 0 0 w ha pa)
  have hB := Lib.hid (fun w => of_at b y0 y1 y2 y3 w hb pb)
  have hnum := Lib.hid num_any
  have hwk := Lib.hid works_any
  have hq : ((0 : Int) == (y0 : Int)) = false := beq_eq_false_iff_ne.2 (by omega)
  have hq2 : ¬ (0 : Int) = (y0 : Int) := by omega
  clear ha pa hb pb hne
  go_enter Try.func7, Try.ntmps7
  go_wp2_with fail
  refine (hA.out _).mono ?_
  rintro e w1 ⟨rfl, b1⟩
  go_wp2_with fail
  obtain ⟨w2, hw2⟩ : ∃ w2, w2 = w1.alloc (.cells #[.int .i64 0, .int .i64 0, .int .i64 0, .int .i64 0] 36) := ⟨_, rfl⟩
  have R2 : Row w2 w1.heap.size 36 [.int .i64 0, .int .i64 0, .int .i64 0, .int .i64 0] := by rw [hw2]; exact Row.new _ _ _
  have B2 : Below w.heap.size w w2 := by rw [hw2]; exact b1.alloc b1.size _
  rw [← hw2]
  clear hw2 b1 hA
  refine (hB.out _).mono ?_
  rintro e w3 ⟨rfl, b3⟩
  have R3 := R2.below b3
  have B3 := below0 B2 b3
  have hlt3 := R3.lt
  obtain ⟨w4, hw4⟩ : ∃ w4, w4 = w3.alloc (.cells #[.int .i64 (y0 : Int), .int .i64 (y1 : Int), .int .i64 (y2 : Int), .int .i64 (y3 : Int)] 36) := ⟨_, rfl⟩
  have R4 := R3.below (show Below w3.heap.size w3 w4 by rw [hw4]; exact below1 _ _)
  have Y4 : Row w4 w3.heap.size 36 [.int .i64 (y0 : Int), .int .i64 (y1 : Int), .int .i64 (y2 : Int), .int .i64 (y3 : Int)] := by rw [hw4]; exact Row.new _ _ _
  have B4 : Below w.heap.size w w4 := by rw [hw4]; exact B3.alloc B3.size _
  clear R2 R3 B2 b3 hB B3 hlt3
  have c0 : w4.cell? ⟨w1.heap.size, 0, none⟩ = _ := R4.cell 0
  have c1 : w4.cell? ⟨w1.heap.size, 1, none⟩ = _ := R4.cell 1
  have c2 : w4.cell? ⟨w1.heap.size, 2, none⟩ = _ := R4.cell 2
  have c3 : w4.cell? ⟨w1.heap.size, 3, none⟩ = _ := R4.cell 3
  rw [hw4] at c0 c1 c2 c3
  go_wp2_with (first
    | (go_at_call 13; refine (hnum.out _ _).mono ?_; rintro e wn ⟨rfl, rfl⟩))
  rw [← hw4]
  refine (hwk.out _).mono ?_
  rintro e w5 ⟨rfl, b5⟩
  go_wp2
  go_ret
  exact ⟨rfl, below0 B4 b5⟩
end Go.Proofs.Ytkfljominljliaa
