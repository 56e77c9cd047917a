import Derived.Test.YtkfljominljliaaWA
namespace Go.Proofs.Ytkfljominljliaa
open Go.RowKit Go.Shelf
attribute [local go_sem] Oper.semAt_some

set_option maxRecDepth 100000 in
set_option maxHeartbeats 2000000 in
theorem holdsK3e (a s p : Nat) (w : World) (ha : a < 65536) (hs : s < 4) (hv : 4096 * s + 4096 + p = a) (pa : plc a = (3, s, 0, p))  : Calls Try.prog 7 #[.int .i64 (a : Int), .int .i64 (a : Int)] w fun e w' => e = .returned (.bool true) ∧ Below w.heap.size w w' := by
  have hA := Lib.hid (fun w => of_at a 3 s 0 p w ha pa)
  have hB := Lib.hid (fun w => of_at a 3 s 0 p w ha pa)
  have hnum := Lib.hid num_any
  have hwk := Lib.hid works_any
  have hF := Lib.hid (fun w => base_yes s w hs)
  obtain ⟨f, hf⟩ : ∃ f, f = 4096 * s + 4096 := ⟨_, rfl⟩
  rw [← hf] at hF
  have z0 : IntKind.i64.wrap ((f : Int) + (p : Int)) = (a : Int) := (wrapI _ (by omega) (by omega)).trans (by omega)
  have z1 : decide ((0 : Int) ≤ (p : Int)) = true := decide_eq_true (by omega)
  clear ha pa hs hv hf
  go_enter Try.func7, Try.ntmps7
  go_wp2_with fail
  refine (hA.out _).mono ?_
  rintro e w1 ⟨rfl, b1⟩
  go_wp2_with fail
  obtain ⟨w2, hw2⟩ : ∃ w2, w2 = w1.alloc (.cells #[.int .i64 3, .int .i64 (s : Int), .int .i64 0, .int .i64 (p : Int)] 36) := ⟨_, rfl⟩
  have R2 : Row w2 w1.heap.size 36 [.int .i64 3, .int .i64 (s : Int), .int .i64 0, .int .i64 (p : Int)] := by rw [hw2]; exact Row.new _ _ _
  have B2 : Below w.heap.size w w2 := by rw [hw2]; exact b1.alloc b1.size _
  rw [← hw2]
  clear hw2 b1 hA
  refine (hB.out _).mono ?_
  rintro e w3 ⟨rfl, b3⟩
  have R3 := R2.below b3
  have B3 := below0 B2 b3
  have hlt3 := R3.lt
  obtain ⟨w4, hw4⟩ : ∃ w4, w4 = w3.alloc (.cells #[.int .i64 3, .int .i64 (s : Int), .int .i64 0, .int .i64 (p : Int)] 36) := ⟨_, rfl⟩
  have R4 := R3.below (show Below w3.heap.size w3 w4 by rw [hw4]; exact below1 _ _)
  have Y4 : Row w4 w3.heap.size 36 [.int .i64 3, .int .i64 (s : Int), .int .i64 0, .int .i64 (p : Int)] := by rw [hw4]; exact Row.new _ _ _
  have B4 : Below w.heap.size w w4 := by rw [hw4]; exact B3.alloc B3.size _
  clear R2 R3 B2 b3 hB B3 hlt3
  have c0 : w4.cell? ⟨w1.heap.size, 0, none⟩ = _ := R4.cell 0
  have c1 : w4.cell? ⟨w1.heap.size, 1, none⟩ = _ := R4.cell 1
  have c2 : w4.cell? ⟨w1.heap.size, 2, none⟩ = _ := R4.cell 2
  have c3 : w4.cell? ⟨w1.heap.size, 3, none⟩ = _ := R4.cell 3
  rw [hw4] at c0 c1 c2 c3
  go_wp2_with (first
    | (go_at_call 13; refine (hnum.out _ _).mono ?_; rintro e wn ⟨rfl, rfl⟩))
  rw [← hw4]
  refine (hF.out _).mono ?_
  rintro e w5 ⟨rfl, b5⟩
  have R5 := R4.below b5
  have B5 := below0 B4 b5
  have c3 : w5.cell? ⟨w1.heap.size, 3, none⟩ = _ := R5.cell 3
  clear b5 R4 B4 hw4 R5
  go_wp2_with (first
    | (go_at_call 13; refine (hnum.out _ _).mono ?_; rintro e wn ⟨rfl, rfl⟩))
  refine (hwk.out _).mono ?_
  rintro e w6 ⟨rfl, b6⟩
  go_wp2
  go_ret
  exact ⟨rfl, below0 B5 b6⟩
set_option maxRecDepth 100000 in
set_option maxHeartbeats 2000000 in
theorem holdsK3a (a b s p y0 y1 y2 y3 : Nat) (w : World) (ha : a < 65536) (hb : b < 65536) (hs : s < 4) (hv : 4096 * s + 4096 + p = a) (pa : plc a = (3, s, 0, p)) (pb : plc b = (y0, y1, y2, y3)) (hne : y0 ≠ 3) : Calls Try.prog 7 #[.int .i64 (a : Int), .int .i64 (b : Int)] w fun e w' => e = .returned (.bool true) ∧ Below w.heap.size w w' := by
  have hA := Lib.hid (fun w => of_at a 3 s 0 p w ha pa)
  have hB := Lib.hid (fun w => of_at b y0 y1 y2 y3 w hb pb)
  have hnum := Lib.hid num_any
  have hwk := Lib.hid works_any
  have hF := Lib.hid (fun w => base_yes s w hs)
  obtain ⟨f, hf⟩ : ∃ f, f = 4096 * s + 4096 := ⟨_, rfl⟩
  rw [← hf] at hF
  have z0 : IntKind.i64.wrap ((f : Int) + (p : Int)) = (a : Int) := (wrapI _ (by omega) (by omega)).trans (by omega)
  have z1 : decide ((0 : Int) ≤ (p : Int)) = true := decide_eq_true (by omega)
  have hq : ((3 : Int) == (y0 : Int)) = false := beq_eq_false_iff_ne.2 (by omega)
  have hq2 : ¬ (3 : Int) = (y0 : Int) := by omega
  clear ha pa hb pb hs hv hf hne
  go_enter Try.func7, Try.ntmps7
  go_wp2_with fail
  refine (hA.out _).mono ?_
  rintro e w1 ⟨rfl, b1⟩
  go_wp2_with fail
  obtain ⟨w2, hw2⟩ : ∃ w2, w2 = w1.alloc (.cells #[.int .i64 3, .int .i64 (s : Int), .int .i64 0, .int .i64 (p : Int)] 36) := ⟨_, rfl⟩
  have R2 : Row w2 w1.heap.size 36 [.int .i64 3, .int .i64 (s : Int), .int .i64 0, .int .i64 (p : Int)] := by rw [hw2]; exact Row.new _ _ _
  have B2 : Below w.heap.size w w2 := by rw [hw2]; exact b1.alloc b1.size _
  rw [← hw2]
  clear hw2 b1 hA
  refine (hB.out _).mono ?_
  rintro e w3 ⟨rfl, b3⟩
  have R3 := R2.below b3
  have B3 := below0 B2 b3
  have hlt3 := R3.lt
  obtain ⟨w4, hw4⟩ : ∃ w4, w4 = w3.alloc (.cells #[.int .i64 (y0 : Int), .int .i64 (y1 : Int), .int .i64 (y2 : Int), .int .i64 (y3 : Int)] 36) := ⟨_, rfl⟩
  have R4 := R3.below (show Below w3.heap.size w3 w4 by rw [hw4]; exact below1 _ _)
  have Y4 : Row w4 w3.heap.size 36 [.int .i64 (y0 : Int), .int .i64 (y1 : Int), .int .i64 (y2 : Int), .int .i64 (y3 : Int)] := by rw [hw4]; exact Row.new _ _ _
  have B4 : Below w.heap.size w w4 := by rw [hw4]; exact B3.alloc B3.size _
  clear R2 R3 B2 b3 hB B3 hlt3
  have c0 : w4.cell? ⟨w1.heap.size, 0, none⟩ = _ := R4.cell 0
  have c1 : w4.cell? ⟨w1.heap.size, 1, none⟩ = _ := R4.cell 1
  have c2 : w4.cell? ⟨w1.heap.size, 2, none⟩ = _ := R4.cell 2
  have c3 : w4.cell? ⟨w1.heap.size, 3, none⟩ = _ := R4.cell 3
  rw [hw4] at c0 c1 c2 c3
  go_wp2_with (first
    | (go_at_call 13; refine (hnum.out _ _).mono ?_; rintro e wn ⟨rfl, rfl⟩))
  rw [← hw4]
  refine (hF.out _).mono ?_
  rintro e w5 ⟨rfl, b5⟩
  have R5 := R4.below b5
  have B5 := below0 B4 b5
  have c3 : w5.cell? ⟨w1.heap.size, 3, none⟩ = _ := R5.cell 3
  clear b5 R4 B4 hw4 R5
  go_wp2_with (first
    | (go_at_call 13; refine (hnum.out _ _).mono ?_; rintro e wn ⟨rfl, rfl⟩))
  refine (hwk.out _).mono ?_
  rintro e w6 ⟨rfl, b6⟩
  go_wp2
  go_ret
  exact ⟨rfl, below0 B5 b6⟩
set_option maxRecDepth 100000 in
set_option maxHeartbeats 2000000 in
theorem holdsK3b (a b s p y1 y2 y3 : Nat) (w : World) (ha : a < 65536) (hb : b < 65536) (hs : s < 4) (hv : 4096 * s + 4096 + p = a) (pa : plc a = (3, s, 0, p)) (pb : plc b = (3, y1, y2, y3)) (hne : y1 ≠ s) : Calls Try.prog 7 #[.int .i64 (a : Int), .int .i64 (b : Int)] w fun e w' => e = .returned (.bool true) ∧ Below w.heap.size w w' := by
  have hA := Lib.hid (fun w => of_at a 3 s 0 p w ha pa)
  have hB := Lib.hid (fun w => of_at b 3 y1 y2 y3 w hb pb)
  have hnum := Lib.hid num_any
  have hwk := Lib.hid works_any
  have hF := Lib.hid (fun w => base_yes s w hs)
  obtain ⟨f, hf⟩ : ∃ f, f = 4096 * s + 4096 := ⟨_, rfl⟩
  rw [← hf] at hF
  have z0 : IntKind.i64.wrap ((f : Int) + (p : Int)) = (a : Int) := (wrapI _ (by omega) (by omega)).trans (by omega)
  have z1 : decide ((0 : Int) ≤ (p : Int)) = true := decide_eq_true (by omega)
  have hq : ((s : Int) == (y1 : Int)) = false := beq_eq_false_iff_ne.2 (by omega)
  have hq2 : ¬ (s : Int) = (y1 : Int) := by omega
  clear ha pa hb pb hs hv hf hne
  go_enter Try.func7, Try.ntmps7
  go_wp2_with fail
  refine (hA.out _).mono ?_
  rintro e w1 ⟨rfl, b1⟩
  go_wp2_with fail
  obtain ⟨w2, hw2⟩ : ∃ w2, w2 = w1.alloc (.cells #[.int .i64 3, .int .i64 (s : Int), .int .i64 0, .int .i64 (p : Int)] 36) := ⟨_, rfl⟩
  have R2 : Row w2 w1.heap.size 36 [.int .i64 3, .int .i64 (s : Int), .int .i64 0, .int .i64 (p : Int)] := by rw [hw2]; exact Row.new _ _ _
  have B2 : Below w.heap.size w w2 := by rw [hw2]; exact b1.alloc b1.size _
  rw [← hw2]
  clear hw2 b1 hA
  refine (hB.out _).mono ?_
  rintro e w3 ⟨rfl, b3⟩
  have R3 := R2.below b3
  have B3 := below0 B2 b3
  have hlt3 := R3.lt
  obtain ⟨w4, hw4⟩ : ∃ w4, w4 = w3.alloc (.cells #[.int .i64 3, .int .i64 (y1 : Int), .int .i64 (y2 : Int), .int .i64 (y3 : Int)] 36) := ⟨_, rfl⟩
  have R4 := R3.below (show Below w3.heap.size w3 w4 by rw [hw4]; exact below1 _ _)
  have Y4 : Row w4 w3.heap.size 36 [.int .i64 3, .int .i64 (y1 : Int), .int .i64 (y2 : Int), .int .i64 (y3 : Int)] := by rw [hw4]; exact Row.new _ _ _
  have B4 : Below w.heap.size w w4 := by rw [hw4]; exact B3.alloc B3.size _
  clear R2 R3 B2 b3 hB B3 hlt3
  have c0 : w4.cell? ⟨w1.heap.size, 0, none⟩ = _ := R4.cell 0
  have c1 : w4.cell? ⟨w1.heap.size, 1, none⟩ = _ := R4.cell 1
  have c2 : w4.cell? ⟨w1.heap.size, 2, none⟩ = _ := R4.cell 2
  have c3 : w4.cell? ⟨w1.heap.size, 3, none⟩ = _ := R4.cell 3
  rw [hw4] at c0 c1 c2 c3
  go_wp2_with (first
    | (go_at_call 13; refine (hnum.out _ _).mono ?_; rintro e wn ⟨rfl, rfl⟩))
  rw [← hw4]
  refine (hF.out _).mono ?_
  rintro e w5 ⟨rfl, b5⟩
  have R5 := R4.below b5
  have B5 := below0 B4 b5
  have c3 : w5.cell? ⟨w1.heap.size, 3, none⟩ = _ := R5.cell 3
  clear b5 R4 B4 hw4 R5
  go_wp2_with (first
    | (go_at_call 13; refine (hnum.out _ _).mono ?_; rintro e wn ⟨rfl, rfl⟩))
  refine (hwk.out _).mono ?_
  rintro e w6 ⟨rfl, b6⟩
  go_wp2
  go_ret
  exact ⟨rfl, below0 B5 b6⟩
set_option maxRecDepth 100000 in
set_option maxHeartbeats 2000000 in
theorem holdsK3d (a b s p y3 : Nat) (w : World) (ha : a < 65536) (hb : b < 65536) (hs : s < 4) (hv : 4096 * s + 4096 + p = a) (pa : plc a = (3, s, 0, p)) (pb : plc b = (3, s, 0, y3)) (hne : y3 ≠ p) : Calls Try.prog 7 #[.int .i64 (a : Int), .int .i64 (b : Int)] w fun e w' => e = .returned (.bool true) ∧ Below w.heap.size w w' := by
  have hA := Lib.hid (fun w => of_at a 3 s 0 p w ha pa)
  have hB := Lib.hid (fun w => of_at b 3 s 0 y3 w hb pb)
  have hnum := Lib.hid num_any
  have hwk := Lib.hid works_any
  have hF := Lib.hid (fun w => base_yes s w hs)
  obtain ⟨f, hf⟩ : ∃ f, f = 4096 * s + 4096 := ⟨_, rfl⟩
  rw [← hf] at hF
  have z0 : IntKind.i64.wrap ((f : Int) + (p : Int)) = (a : Int) := (wrapI _ (by omega) (by omega)).trans (by omega)
  have z1 : decide ((0 : Int) ≤ (p : Int)) = true := decide_eq_true (by omega)
  have hq : ((p : Int) == (y3 : Int)) = false := beq_eq_false_iff_ne.2 (by omega)
  have hq2 : ¬ (p : Int) = (y3 : Int) := by omega
  clear ha pa hb pb hs hv hf hne
  go_enter Try.func7, Try.ntmps7
  go_wp2_with fail
  refine (hA.out _).mono ?_
  rintro e w1 ⟨rfl, b1⟩
  go_wp2_with fail
  obtain ⟨w2, hw2⟩ : ∃ w2, w2 = w1.alloc (.cells #[.int .i64 3, .int .i64 (s : Int), .int .i64 0, .int .i64 (p : Int)] 36) := ⟨_, rfl⟩
  have R2 : Row w2 w1.heap.size 36 [.int .i64 3, .int .i64 (s : Int), .int .i64 0, .int .i64 (p : Int)] := by rw [hw2]; exact Row.new _ _ _
  have B2 : Below w.heap.size w w2 := by rw [hw2]; exact b1.alloc b1.size _
  rw [← hw2]
  clear hw2 b1 hA
  refine (hB.out _).mono ?_
  rintro e w3 ⟨rfl, b3⟩
  have R3 := R2.below b3
  have B3 := below0 B2 b3
  have hlt3 := R3.lt
  obtain ⟨w4, hw4⟩ : ∃ w4, w4 = w3.alloc (.cells #[.int .i64 3, .int .i64 (s : Int), .int .i64 0, .int .i64 (y3 : Int)] 36) := ⟨_, rfl⟩
  have R4 := R3.below (show Below w3.heap.size w3 w4 by rw [hw4]; exact below1 _ _)
  have Y4 : Row w4 w3.heap.size 36 [.int .i64 3, .int .i64 (s : Int), .int .i64 0, .int .i64 (y3 : Int)] := by rw [hw4]; exact Row.new _ _ _
  have B4 : Below w.heap.size w w4 := by rw [hw4]; exact B3.alloc B3.size _
  clear R2 R3 B2 b3 hB B3 hlt3
  have c0 : w4.cell? ⟨w1.heap.size, 0, none⟩ = _ := R4.cell 0
  have c1 : w4.cell? ⟨w1.heap.size, 1, none⟩ = _ := R4.cell 1
  have c2 : w4.cell? ⟨w1.heap.size, 2, none⟩ = _ := R4.cell 2
  have c3 : w4.cell? ⟨w1.heap.size, 3, none⟩ = _ := R4.cell 3
  rw [hw4] at c0 c1 c2 c3
  go_wp2_with (first
    | (go_at_call 13; refine (hnum.out _ _).mono ?_; rintro e wn ⟨rfl, rfl⟩))
  rw [← hw4]
  refine (hF.out _).mono ?_
  rintro e w5 ⟨rfl, b5⟩
  have R5 := R4.below b5
  have B5 := below0 B4 b5
  have c3 : w5.cell? ⟨w1.heap.size, 3, none⟩ = _ := R5.cell 3
  clear b5 R4 B4 hw4 R5
  go_wp2_with (first
    | (go_at_call 13; refine (hnum.out _ _).mono ?_; rintro e wn ⟨rfl, rfl⟩))
  refine (hwk.out _).mono ?_
  rintro e w6 ⟨rfl, b6⟩
  go_wp2
  go_ret
  exact ⟨rfl, below0 B5 b6⟩
end Go.Proofs.Ytkfljominljliaa
