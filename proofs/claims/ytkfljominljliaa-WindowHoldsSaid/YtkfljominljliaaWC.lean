import Derived.Test.YtkfljominljliaaWA
namespace Go.Proofs.Ytkfljominljliaa
open Go.RowKit Go.Shelf
attribute [local go_sem] Oper.semAt_some

set_option maxRecDepth 100000 in
set_option maxHeartbeats 2000000 in
theorem holdsK2e (a s c p : Nat) (w : World) (ha : a < 65536) (hs : s < 4) (hc : c < 8) (hv : 4096 * s + 4097 + 17 * c + p = a) (pa : plc a = (2, s, c, p))  : Calls Try.prog 7 #[.int .i64 (a : Int), .int .i64 (a : Int)] w fun e w' => e = .returned (.bool true) ∧ Below w.heap.size w w' := by
  have hA := Lib.hid (fun w => of_at a 2 s c p w ha pa)
  have hB := Lib.hid (fun w => of_at a 2 s c p w ha pa)
  have hnum := Lib.hid num_any
  have hwk := Lib.hid works_any
  have hF := Lib.hid (fun w => region_yes s c w hs hc)
  have hG := Lib.hid (fun w => of_at (4096 * s + 4096 + 17 * c) 4 s 0 (17 * c) w (by omega) (plc_ahead hs hc))
  have hH := Lib.hid (fun w => of_at (4096 * s + 4113 + 17 * c) 4 s 0 (17 * c + 17) w (by omega) (plc_behind hs hc))
  obtain ⟨f, hf⟩ : ∃ f, f = 4096 * s + 4097 + 17 * c := ⟨_, rfl⟩
  obtain ⟨g, hg⟩ : ∃ g, g = 4096 * s + 4096 + 17 * c := ⟨_, rfl⟩
  obtain ⟨h, hh⟩ : ∃ h, h = 4096 * s + 4113 + 17 * c := ⟨_, rfl⟩
  rw [← hf] at hF
  rw [← hg] at hG
  rw [← hh] at hH
  have z0 : IntKind.i64.wrap ((f : Int) + (p : Int)) = (a : Int) := (wrapI _ (by omega) (by omega)).trans (by omega)
  have z1 : decide ((0 : Int) ≤ (p : Int)) = true := decide_eq_true (by omega)
  have z2 : IntKind.i64.wrap ((f : Int) - 1) = (g : Int) := (wrapI _ (by omega) (by omega)).trans (by omega)
  have z3 : IntKind.i64.wrap ((f : Int) + 16) = (h : Int) := (wrapI _ (by omega) (by omega)).trans (by omega)
  obtain ⟨t2, ht2⟩ : ∃ t2, t2 = 17 * c + 17 := ⟨_, rfl⟩
  rw [← ht2] at hH
  obtain ⟨t1, ht1⟩ : ∃ t1, t1 = 17 * c := ⟨_, rfl⟩
  rw [← ht1] at hG
  clear ha pa hs hv hf hc hg hh ht1 ht2
  go_enter Try.func7, Try.ntmps7
  go_wp2_with fail
  refine (hA.out _).mono ?_
  rintro e w1 ⟨rfl, b1⟩
  go_wp2_with fail
  obtain ⟨w2, hw2⟩ : ∃ w2, w2 = w1.alloc (.cells #[.int .i64 2, .int .i64 (s : Int), .int .i64 (c : Int), .int .i64 (p : Int)] 36) := ⟨_, rfl⟩
  have R2 : Row w2 w1.heap.size 36 [.int .i64 2, .int .i64 (s : Int), .int .i64 (c : Int), .int .i64 (p : Int)] := by rw [hw2]; exact Row.new _ _ _
  have B2 : Below w.heap.size w w2 := by rw [hw2]; exact b1.alloc b1.size _
  rw [← hw2]
  clear hw2 b1 hA
  refine (hB.out _).mono ?_
  rintro e w3 ⟨rfl, b3⟩
  have R3 := R2.below b3
  have B3 := below0 B2 b3
  have hlt3 := R3.lt
  obtain ⟨w4, hw4⟩ : ∃ w4, w4 = w3.alloc (.cells #[.int .i64 2, .int .i64 (s : Int), .int .i64 (c : Int), .int .i64 (p : Int)] 36) := ⟨_, rfl⟩
  have R4 := R3.below (show Below w3.heap.size w3 w4 by rw [hw4]; exact below1 _ _)
  have Y4 : Row w4 w3.heap.size 36 [.int .i64 2, .int .i64 (s : Int), .int .i64 (c : Int), .int .i64 (p : Int)] := by rw [hw4]; exact Row.new _ _ _
  have B4 : Below w.heap.size w w4 := by rw [hw4]; exact B3.alloc B3.size _
  clear R2 R3 B2 b3 hB B3 hlt3
  have c0 : w4.cell? ⟨w1.heap.size, 0, none⟩ = _ := R4.cell 0
  have c1 : w4.cell? ⟨w1.heap.size, 1, none⟩ = _ := R4.cell 1
  have c2 : w4.cell? ⟨w1.heap.size, 2, none⟩ = _ := R4.cell 2
  have c3 : w4.cell? ⟨w1.heap.size, 3, none⟩ = _ := R4.cell 3
  rw [hw4] at c0 c1 c2 c3
  go_wp2_with (first
    | (go_at_call 13; refine (hnum.out _ _).mono ?_; rintro e wn ⟨rfl, rfl⟩))
  rw [← hw4]
  refine (hF.out _).mono ?_
  rintro e w5 ⟨rfl, b5⟩
  have R5 := R4.below b5
  have B5 := below0 B4 b5
  clear b5 R4 B4 hw4
  go_wp2_with fail
  refine (hG.out _).mono ?_
  rintro e w6 ⟨rfl, b6⟩
  have R6 := R5.below b6
  have B6 := below0 B5 b6
  clear b6 R5 B5
  go_wp2_with fail
  obtain ⟨w7, hw7⟩ : ∃ w7, w7 = w6.alloc (.cells #[.int .i64 4, .int .i64 (s : Int), .int .i64 0, .int .i64 (t1 : Int)] 36) := ⟨_, rfl⟩
  have G7 : Row w7 w6.heap.size 36 [.int .i64 4, .int .i64 (s : Int), .int .i64 0, .int .i64 (t1 : Int)] := by rw [hw7]; exact Row.new _ _ _
  have R7 := R6.below (show Below w6.heap.size w6 w7 by rw [hw7]; exact below1 _ _)
  have B7 : Below w.heap.size w w7 := by rw [hw7]; exact B6.alloc B6.size _
  rw [← hw7]
  clear hw7 R6 B6
  refine (hH.out _).mono ?_
  rintro e w8 ⟨rfl, b8⟩
  have R8 := R7.below b8
  have G8 := G7.below b8
  have B8 := below0 B7 b8
  clear b8 R7 G7 B7
  obtain ⟨w9, hw9⟩ : ∃ w9, w9 = w8.alloc (.cells #[.int .i64 4, .int .i64 (s : Int), .int .i64 0, .int .i64 (t2 : Int)] 36) := ⟨_, rfl⟩
  have R9 := R8.below (show Below w8.heap.size w8 w9 by rw [hw9]; exact below1 _ _)
  have G9 := G8.below (show Below w8.heap.size w8 w9 by rw [hw9]; exact below1 _ _)
  have B9 : Below w.heap.size w w9 := by rw [hw9]; exact B8.alloc B8.size _
  have c3 : w9.cell? ⟨w1.heap.size, 3, none⟩ = _ := R9.cell 3
  have d0 : w9.cell? ⟨w6.heap.size, 0, none⟩ = _ := G9.cell 0
  rw [hw9] at c3 d0
  clear R8 G8 B8 R9 G9
  go_wp2_with (first
    | (go_at_call 13; refine (hnum.out _ _).mono ?_; rintro e wn ⟨rfl, rfl⟩))
  rw [← hw9]
  refine (hwk.out _).mono ?_
  rintro e wz ⟨rfl, bz⟩
  go_wp2
  go_ret
  exact ⟨rfl, below0 B9 bz⟩
set_option maxRecDepth 100000 in
set_option maxHeartbeats 2000000 in
theorem holdsK2a (a b s c p y0 y1 y2 y3 : Nat) (w : World) (ha : a < 65536) (hb : b < 65536) (hs : s < 4) (hc : c < 8) (hv : 4096 * s + 4097 + 17 * c + p = a) (pa : plc a = (2, s, c, p)) (pb : plc b = (y0, y1, y2, y3)) (hne : y0 ≠ 2) : Calls Try.prog 7 #[.int .i64 (a : Int), .int .i64 (b : Int)] w fun e w' => e = .returned (.bool true) ∧ Below w.heap.size w w' := by
  have hA := Lib.hid (fun w => of_at a 2 s c p w ha pa)
  have hB := Lib.hid (fun w => of_at b y0 y1 y2 y3 w hb pb)
  have hnum := Lib.hid num_any
  have hwk := Lib.hid works_any
  have hF := Lib.hid (fun w => region_yes s c w hs hc)
  have hG := Lib.hid (fun w => of_at (4096 * s + 4096 + 17 * c) 4 s 0 (17 * c) w (by omega) (plc_ahead hs hc))
  have hH := Lib.hid (fun w => of_at (4096 * s + 4113 + 17 * c) 4 s 0 (17 * c + 17) w (by omega) (plc_behind hs hc))
  obtain ⟨f, hf⟩ : ∃ f, f = 4096 * s + 4097 + 17 * c := ⟨_, rfl⟩
  obtain ⟨g, hg⟩ : ∃ g, g = 4096 * s + 4096 + 17 * c := ⟨_, rfl⟩
  obtain ⟨h, hh⟩ : ∃ h, h = 4096 * s + 4113 + 17 * c := ⟨_, rfl⟩
  rw [← hf] at hF
  rw [← hg] at hG
  rw [← hh] at hH
  have z0 : IntKind.i64.wrap ((f : Int) + (p : Int)) = (a : Int) := (wrapI _ (by omega) (by omega)).trans (by omega)
  have z1 : decide ((0 : Int) ≤ (p : Int)) = true := decide_eq_true (by omega)
  have z2 : IntKind.i64.wrap ((f : Int) - 1) = (g : Int) := (wrapI _ (by omega) (by omega)).trans (by omega)
  have z3 : IntKind.i64.wrap ((f : Int) + 16) = (h : Int) := (wrapI _ (by omega) (by omega)).trans (by omega)
  obtain ⟨t2, ht2⟩ : ∃ t2, t2 = 17 * c + 17 := ⟨_, rfl⟩
  rw [← ht2] at hH
  obtain ⟨t1, ht1⟩ : ∃ t1, t1 = 17 * c := ⟨_, rfl⟩
  rw [← ht1] at hG
  have hq : ((2 : Int) == (y0 : Int)) = false := beq_eq_false_iff_ne.2 (by omega)
  have hq2 : ¬ (2 : Int) = (y0 : Int) := by omega
  clear ha pa hb pb hs hv hf hc hg hh ht1 ht2 hne
  go_enter Try.func7, Try.ntmps7
  go_wp2_with fail
  refine (hA.out _).mono ?_
  rintro e w1 ⟨rfl, b1⟩
  go_wp2_with fail
  obtain ⟨w2, hw2⟩ : ∃ w2, w2 = w1.alloc (.cells #[.int .i64 2, .int .i64 (s : Int), .int .i64 (c : Int), .int .i64 (p : Int)] 36) := ⟨_, rfl⟩
  have R2 : Row w2 w1.heap.size 36 [.int .i64 2, .int .i64 (s : Int), .int .i64 (c : Int), .int .i64 (p : Int)] := by rw [hw2]; exact Row.new _ _ _
  have B2 : Below w.heap.size w w2 := by rw [hw2]; exact b1.alloc b1.size _
  rw [← hw2]
  clear hw2 b1 hA
  refine (hB.out _).mono ?_
  rintro e w3 ⟨rfl, b3⟩
  have R3 := R2.below b3
  have B3 := below0 B2 b3
  have hlt3 := R3.lt
  obtain ⟨w4, hw4⟩ : ∃ w4, w4 = w3.alloc (.cells #[.int .i64 (y0 : Int), .int .i64 (y1 : Int), .int .i64 (y2 : Int), .int .i64 (y3 : Int)] 36) := ⟨_, rfl⟩
  have R4 := R3.below (show Below w3.heap.size w3 w4 by rw [hw4]; exact below1 _ _)
  have Y4 : Row w4 w3.heap.size 36 [.int .i64 (y0 : Int), .int .i64 (y1 : Int), .int .i64 (y2 : Int), .int .i64 (y3 : Int)] := by rw [hw4]; exact Row.new _ _ _
  have B4 : Below w.heap.size w w4 := by rw [hw4]; exact B3.alloc B3.size _
  clear R2 R3 B2 b3 hB B3 hlt3
  have c0 : w4.cell? ⟨w1.heap.size, 0, none⟩ = _ := R4.cell 0
  have c1 : w4.cell? ⟨w1.heap.size, 1, none⟩ = _ := R4.cell 1
  have c2 : w4.cell? ⟨w1.heap.size, 2, none⟩ = _ := R4.cell 2
  have c3 : w4.cell? ⟨w1.heap.size, 3, none⟩ = _ := R4.cell 3
  rw [hw4] at c0 c1 c2 c3
  go_wp2_with (first
    | (go_at_call 13; refine (hnum.out _ _).mono ?_; rintro e wn ⟨rfl, rfl⟩))
  rw [← hw4]
  refine (hF.out _).mono ?_
  rintro e w5 ⟨rfl, b5⟩
  have R5 := R4.below b5
  have B5 := below0 B4 b5
  clear b5 R4 B4 hw4
  go_wp2_with fail
  refine (hG.out _).mono ?_
  rintro e w6 ⟨rfl, b6⟩
  have R6 := R5.below b6
  have B6 := below0 B5 b6
  clear b6 R5 B5
  go_wp2_with fail
  obtain ⟨w7, hw7⟩ : ∃ w7, w7 = w6.alloc (.cells #[.int .i64 4, .int .i64 (s : Int), .int .i64 0, .int .i64 (t1 : Int)] 36) := ⟨_, rfl⟩
  have G7 : Row w7 w6.heap.size 36 [.int .i64 4, .int .i64 (s : Int), .int .i64 0, .int .i64 (t1 : Int)] := by rw [hw7]; exact Row.new _ _ _
  have R7 := R6.below (show Below w6.heap.size w6 w7 by rw [hw7]; exact below1 _ _)
  have B7 : Below w.heap.size w w7 := by rw [hw7]; exact B6.alloc B6.size _
  rw [← hw7]
  clear hw7 R6 B6
  refine (hH.out _).mono ?_
  rintro e w8 ⟨rfl, b8⟩
  have R8 := R7.below b8
  have G8 := G7.below b8
  have B8 := below0 B7 b8
  clear b8 R7 G7 B7
  obtain ⟨w9, hw9⟩ : ∃ w9, w9 = w8.alloc (.cells #[.int .i64 4, .int .i64 (s : Int), .int .i64 0, .int .i64 (t2 : Int)] 36) := ⟨_, rfl⟩
  have R9 := R8.below (show Below w8.heap.size w8 w9 by rw [hw9]; exact below1 _ _)
  have G9 := G8.below (show Below w8.heap.size w8 w9 by rw [hw9]; exact below1 _ _)
  have B9 : Below w.heap.size w w9 := by rw [hw9]; exact B8.alloc B8.size _
  have c3 : w9.cell? ⟨w1.heap.size, 3, none⟩ = _ := R9.cell 3
  have d0 : w9.cell? ⟨w6.heap.size, 0, none⟩ = _ := G9.cell 0
  rw [hw9] at c3 d0
  clear R8 G8 B8 R9 G9
  go_wp2_with (first
    | (go_at_call 13; refine (hnum.out _ _).mono ?_; rintro e wn ⟨rfl, rfl⟩))
  rw [← hw9]
  refine (hwk.out _).mono ?_
  rintro e wz ⟨rfl, bz⟩
  go_wp2
  go_ret
  exact ⟨rfl, below0 B9 bz⟩
set_option maxRecDepth 100000 in
set_option maxHeartbeats 2000000 in
theorem holdsK2b (a b s c p y1 y2 y3 : Nat) (w : World) (ha : a < 65536) (hb : b < 65536) (hs : s < 4) (hc : c < 8) (hv : 4096 * s + 4097 + 17 * c + p = a) (pa : plc a = (2, s, c, p)) (pb : plc b = (2, y1, y2, y3)) (hne : y1 ≠ s) : Calls Try.prog 7 #[.int .i64 (a : Int), .int .i64 (b : Int)] w fun e w' => e = .returned (.bool true) ∧ Below w.heap.size w w' := by
  have hA := Lib.hid (fun w => of_at a 2 s c p w ha pa)
  have hB := Lib.hid (fun w => of_at b 2 y1 y2 y3 w hb pb)
  have hnum := Lib.hid num_any
  have hwk := Lib.hid works_any
  have hF := Lib.hid (fun w => region_yes s c w hs hc)
  have hG := Lib.hid (fun w => of_at (4096 * s + 4096 + 17 * c) 4 s 0 (17 * c) w (by omega) (plc_ahead hs hc))
  have hH := Lib.hid (fun w => of_at (4096 * s + 4113 + 17 * c) 4 s 0 (17 * c + 17) w (by omega) (plc_behind hs hc))
  obtain ⟨f, hf⟩ : ∃ f, f = 4096 * s + 4097 + 17 * c := ⟨_, rfl⟩
  obtain ⟨g, hg⟩ : ∃ g, g = 4096 * s + 4096 + 17 * c := ⟨_, rfl⟩
  obtain ⟨h, hh⟩ : ∃ h, h = 4096 * s + 4113 + 17 * c := ⟨_, rfl⟩
  rw [← hf] at hF
  rw [← hg] at hG
  rw [← hh] at hH
  have z0 : IntKind.i64.wrap ((f : Int) + (p : Int)) = (a : Int) := (wrapI _ (by omega) (by omega)).trans (by omega)
  have z1 : decide ((0 : Int) ≤ (p : Int)) = true := decide_eq_true (by omega)
  have z2 : IntKind.i64.wrap ((f : Int) - 1) = (g : Int) := (wrapI _ (by omega) (by omega)).trans (by omega)
  have z3 : IntKind.i64.wrap ((f : Int) + 16) = (h : Int) := (wrapI _ (by omega) (by omega)).trans (by omega)
  obtain ⟨t2, ht2⟩ : ∃ t2, t2 = 17 * c + 17 := ⟨_, rfl⟩
  rw [← ht2] at hH
  obtain ⟨t1, ht1⟩ : ∃ t1, t1 = 17 * c := ⟨_, rfl⟩
  rw [← ht1] at hG
  have hq : ((s : Int) == (y1 : Int)) = false := beq_eq_false_iff_ne.2 (by omega)
  have hq2 : ¬ (s : Int) = (y1 : Int) := by omega
  clear ha pa hb pb hs hv hf hc hg hh ht1 ht2 hne
  go_enter Try.func7, Try.ntmps7
  go_wp2_with fail
  refine (hA.out _).mono ?_
  rintro e w1 ⟨rfl, b1⟩
  go_wp2_with fail
  obtain ⟨w2, hw2⟩ : ∃ w2, w2 = w1.alloc (.cells #[.int .i64 2, .int .i64 (s : Int), .int .i64 (c : Int), .int .i64 (p : Int)] 36) := ⟨_, rfl⟩
  have R2 : Row w2 w1.heap.size 36 [.int .i64 2, .int .i64 (s : Int), .int .i64 (c : Int), .int .i64 (p : Int)] := by rw [hw2]; exact Row.new _ _ _
  have B2 : Below w.heap.size w w2 := by rw [hw2]; exact b1.alloc b1.size _
  rw [← hw2]
  clear hw2 b1 hA
  refine (hB.out _).mono ?_
  rintro e w3 ⟨rfl, b3⟩
  have R3 := R2.below b3
  have B3 := below0 B2 b3
  have hlt3 := R3.lt
  obtain ⟨w4, hw4⟩ : ∃ w4, w4 = w3.alloc (.cells #[.int .i64 2, .int .i64 (y1 : Int), .int .i64 (y2 : Int), .int .i64 (y3 : Int)] 36) := ⟨_, rfl⟩
  have R4 := R3.below (show Below w3.heap.size w3 w4 by rw [hw4]; exact below1 _ _)
  have Y4 : Row w4 w3.heap.size 36 [.int .i64 2, .int .i64 (y1 : Int), .int .i64 (y2 : Int), .int .i64 (y3 : Int)] := by rw [hw4]; exact Row.new _ _ _
  have B4 : Below w.heap.size w w4 := by rw [hw4]; exact B3.alloc B3.size _
  clear R2 R3 B2 b3 hB B3 hlt3
  have c0 : w4.cell? ⟨w1.heap.size, 0, none⟩ = _ := R4.cell 0
  have c1 : w4.cell? ⟨w1.heap.size, 1, none⟩ = _ := R4.cell 1
  have c2 : w4.cell? ⟨w1.heap.size, 2, none⟩ = _ := R4.cell 2
  have c3 : w4.cell? ⟨w1.heap.size, 3, none⟩ = _ := R4.cell 3
  rw [hw4] at c0 c1 c2 c3
  go_wp2_with (first
    | (go_at_call 13; refine (hnum.out _ _).mono ?_; rintro e wn ⟨rfl, rfl⟩))
  rw [← hw4]
  refine (hF.out _).mono ?_
  rintro e w5 ⟨rfl, b5⟩
  have R5 := R4.below b5
  have B5 := below0 B4 b5
  clear b5 R4 B4 hw4
  go_wp2_with fail
  refine (hG.out _).mono ?_
  rintro e w6 ⟨rfl, b6⟩
  have R6 := R5.below b6
  have B6 := below0 B5 b6
  clear b6 R5 B5
  go_wp2_with fail
  obtain ⟨w7, hw7⟩ : ∃ w7, w7 = w6.alloc (.cells #[.int .i64 4, .int .i64 (s : Int), .int .i64 0, .int .i64 (t1 : Int)] 36) := ⟨_, rfl⟩
  have G7 : Row w7 w6.heap.size 36 [.int .i64 4, .int .i64 (s : Int), .int .i64 0, .int .i64 (t1 : Int)] := by rw [hw7]; exact Row.new _ _ _
  have R7 := R6.below (show Below w6.heap.size w6 w7 by rw [hw7]; exact below1 _ _)
  have B7 : Below w.heap.size w w7 := by rw [hw7]; exact B6.alloc B6.size _
  rw [← hw7]
  clear hw7 R6 B6
  refine (hH.out _).mono ?_
  rintro e w8 ⟨rfl, b8⟩
  have R8 := R7.below b8
  have G8 := G7.below b8
  have B8 := below0 B7 b8
  clear b8 R7 G7 B7
  obtain ⟨w9, hw9⟩ : ∃ w9, w9 = w8.alloc (.cells #[.int .i64 4, .int .i64 (s : Int), .int .i64 0, .int .i64 (t2 : Int)] 36) := ⟨_, rfl⟩
  have R9 := R8.below (show Below w8.heap.size w8 w9 by rw [hw9]; exact below1 _ _)
  have G9 := G8.below (show Below w8.heap.size w8 w9 by rw [hw9]; exact below1 _ _)
  have B9 : Below w.heap.size w w9 := by rw [hw9]; exact B8.alloc B8.size _
  have c3 : w9.cell? ⟨w1.heap.size, 3, none⟩ = _ := R9.cell 3
  have d0 : w9.cell? ⟨w6.heap.size, 0, none⟩ = _ := G9.cell 0
  rw [hw9] at c3 d0
  clear R8 G8 B8 R9 G9
  go_wp2_with (first
    | (go_at_call 13; refine (hnum.out _ _).mono ?_; rintro e wn ⟨rfl, rfl⟩))
  rw [← hw9]
  refine (hwk.out _).mono ?_
  rintro e wz ⟨rfl, bz⟩
  go_wp2
  go_ret
  exact ⟨rfl, below0 B9 bz⟩
set_option maxRecDepth 100000 in
set_option maxHeartbeats 2000000 in
theorem holdsK2c (a b s c p y2 y3 : Nat) (w : World) (ha : a < 65536) (hb : b < 65536) (hs : s < 4) (hc : c < 8) (hv : 4096 * s + 4097 + 17 * c + p = a) (pa : plc a = (2, s, c, p)) (pb : plc b = (2, s, y2, y3)) (hne : y2 ≠ c) : Calls Try.prog 7 #[.int .i64 (a : Int), .int .i64 (b : Int)] w fun e w' => e = .returned (.bool true) ∧ Below w.heap.size w w' := by
  have hA := Lib.hid (fun w => of_at a 2 s c p w ha pa)
  have hB := Lib.hid (fun w => of_at b 2 s y2 y3 w hb pb)
  have hnum := Lib.hid num_any
  have hwk := Lib.hid works_any
  have hF := Lib.hid (fun w => region_yes s c w hs hc)
  have hG := Lib.hid (fun w => of_at (4096 * s + 4096 + 17 * c) 4 s 0 (17 * c) w (by omega) (plc_ahead hs hc))
  have hH := Lib.hid (fun w => of_at (4096 * s + 4113 + 17 * c) 4 s 0 (17 * c + 17) w (by omega) (plc_behind hs hc))
  obtain ⟨f, hf⟩ : ∃ f, f = 4096 * s + 4097 + 17 * c := ⟨_, rfl⟩
  obtain ⟨g, hg⟩ : ∃ g, g = 4096 * s + 4096 + 17 * c := ⟨_, rfl⟩
  obtain ⟨h, hh⟩ : ∃ h, h = 4096 * s + 4113 + 17 * c := ⟨_, rfl⟩
  rw [← hf] at hF
  rw [← hg] at hG
  rw [← hh] at hH
  have z0 : IntKind.i64.wrap ((f : Int) + (p : Int)) = (a : Int) := (wrapI _ (by omega) (by omega)).trans (by omega)
  have z1 : decide ((0 : Int) ≤ (p : Int)) = true := decide_eq_true (by omega)
  have z2 : IntKind.i64.wrap ((f : Int) - 1) = (g : Int) := (wrapI _ (by omega) (by omega)).trans (by omega)
  have z3 : IntKind.i64.wrap ((f : Int) + 16) = (h : Int) := (wrapI _ (by omega) (by omega)).trans (by omega)
  obtain ⟨t2, ht2⟩ : ∃ t2, t2 = 17 * c + 17 := ⟨_, rfl⟩
  rw [← ht2] at hH
  obtain ⟨t1, ht1⟩ : ∃ t1, t1 = 17 * c := ⟨_, rfl⟩
  rw [← ht1] at hG
  have hq : ((c : Int) == (y2 : Int)) = false := beq_eq_false_iff_ne.2 (by omega)
  have hq2 : ¬ (c : Int) = (y2 : Int) := by omega
  clear ha pa hb pb hs hv hf hc hg hh ht1 ht2 hne
  go_enter Try.func7, Try.ntmps7
  go_wp2_with fail
  refine (hA.out _).mono ?_
  rintro e w1 ⟨rfl, b1⟩
  go_wp2_with fail
  obtain ⟨w2, hw2⟩ : ∃ w2, w2 = w1.alloc (.cells #[.int .i64 2, .int .i64 (s : Int), .int .i64 (c : Int), .int .i64 (p : Int)] 36) := ⟨_, rfl⟩
  have R2 : Row w2 w1.heap.size 36 [.int .i64 2, .int .i64 (s : Int), .int .i64 (c : Int), .int .i64 (p : Int)] := by rw [hw2]; exact Row.new _ _ _
  have B2 : Below w.heap.size w w2 := by rw [hw2]; exact b1.alloc b1.size _
  rw [← hw2]
  clear hw2 b1 hA
  refine (hB.out _).mono ?_
  rintro e w3 ⟨rfl, b3⟩
  have R3 := R2.below b3
  have B3 := below0 B2 b3
  have hlt3 := R3.lt
  obtain ⟨w4, hw4⟩ : ∃ w4, w4 = w3.alloc (.cells #[.int .i64 2, .int .i64 (s : Int), .int .i64 (y2 : Int), .int .i64 (y3 : Int)] 36) := ⟨_, rfl⟩
  have R4 := R3.below (show Below w3.heap.size w3 w4 by rw [hw4]; exact below1 _ _)
  have Y4 : Row w4 w3.heap.size 36 [.int .i64 2, .int .i64 (s : Int), .int .i64 (y2 : Int), .int .i64 (y3 : Int)] := by rw [hw4]; exact Row.new _ _ _
  have B4 : Below w.heap.size w w4 := by rw [hw4]; exact B3.alloc B3.size _
  clear R2 R3 B2 b3 hB B3 hlt3
  have c0 : w4.cell? ⟨w1.heap.size, 0, none⟩ = _ := R4.cell 0
  have c1 : w4.cell? ⟨w1.heap.size, 1, none⟩ = _ := R4.cell 1
  have c2 : w4.cell? ⟨w1.heap.size, 2, none⟩ = _ := R4.cell 2
  have c3 : w4.cell? ⟨w1.heap.size, 3, none⟩ = _ := R4.cell 3
  rw [hw4] at c0 c1 c2 c3
  go_wp2_with (first
    | (go_at_call 13; refine (hnum.out _ _).mono ?_; rintro e wn ⟨rfl, rfl⟩))
  rw [← hw4]
  refine (hF.out _).mono ?_
  rintro e w5 ⟨rfl, b5⟩
  have R5 := R4.below b5
  have B5 := below0 B4 b5
  clear b5 R4 B4 hw4
  go_wp2_with fail
  refine (hG.out _).mono ?_
  rintro e w6 ⟨rfl, b6⟩
  have R6 := R5.below b6
  have B6 := below0 B5 b6
  clear b6 R5 B5
  go_wp2_with fail
  obtain ⟨w7, hw7⟩ : ∃ w7, w7 = w6.alloc (.cells #[.int .i64 4, .int .i64 (s : Int), .int .i64 0, .int .i64 (t1 : Int)] 36) := ⟨_, rfl⟩
  have G7 : Row w7 w6.heap.size 36 [.int .i64 4, .int .i64 (s : Int), .int .i64 0, .int .i64 (t1 : Int)] := by rw [hw7]; exact Row.new _ _ _
  have R7 := R6.below (show Below w6.heap.size w6 w7 by rw [hw7]; exact below1 _ _)
  have B7 : Below w.heap.size w w7 := by rw [hw7]; exact B6.alloc B6.size _
  rw [← hw7]
  clear hw7 R6 B6
  refine (hH.out _).mono ?_
  rintro e w8 ⟨rfl, b8⟩
  have R8 := R7.below b8
  have G8 := G7.below b8
  have B8 := below0 B7 b8
  clear b8 R7 G7 B7
  obtain ⟨w9, hw9⟩ : ∃ w9, w9 = w8.alloc (.cells #[.int .i64 4, .int .i64 (s : Int), .int .i64 0, .int .i64 (t2 : Int)] 36) := ⟨_, rfl⟩
  have R9 := R8.below (show Below w8.heap.size w8 w9 by rw [hw9]; exact below1 _ _)
  have G9 := G8.below (show Below w8.heap.size w8 w9 by rw [hw9]; exact below1 _ _)
  have B9 : Below w.heap.size w w9 := by rw [hw9]; exact B8.alloc B8.size _
  have c3 : w9.cell? ⟨w1.heap.size, 3, none⟩ = _ := R9.cell 3
  have d0 : w9.cell? ⟨w6.heap.size, 0, none⟩ = _ := G9.cell 0
  rw [hw9] at c3 d0
  clear R8 G8 B8 R9 G9
  go_wp2_with (first
    | (go_at_call 13; refine (hnum.out _ _).mono ?_; rintro e wn ⟨rfl, rfl⟩))
  rw [← hw9]
  refine (hwk.out _).mono ?_
  rintro e wz ⟨rfl, bz⟩
  go_wp2
  go_ret
  exact ⟨rfl, below0 B9 bz⟩
set_option maxRecDepth 100000 in
set_option maxHeartbeats 2000000 in
theorem holdsK2d (a b s c p y3 : Nat) (w : World) (ha : a < 65536) (hb : b < 65536) (hs : s < 4) (hc : c < 8) (hv : 4096 * s + 4097 + 17 * c + p = a) (pa : plc a = (2, s, c, p)) (pb : plc b = (2, s, c, y3)) (hne : y3 ≠ p) : Calls Try.prog 7 #[.int .i64 (a : Int), .int .i64 (b : Int)] w fun e w' => e = .returned (.bool true) ∧ Below w.heap.size w w' := by
  have hA := Lib.hid (fun w => of_at a 2 s c p w ha pa)
  have hB := Lib.hid (fun w => of_at b 2 s c y3 w hb pb)
  have hnum := Lib.hid num_any
  have hwk := Lib.hid works_any
  have hF := Lib.hid (fun w => region_yes s c w hs hc)
  have hG := Lib.hid (fun w => of_at (4096 * s + 4096 + 17 * c) 4 s 0 (17 * c) w (by omega) (plc_ahead hs hc))
  have hH := Lib.hid (fun w => of_at (4096 * s + 4113 + 17 * c) 4 s 0 (17 * c + 17) w (by omega) (plc_behind hs hc))
  obtain ⟨f, hf⟩ : ∃ f, f = 4096 * s + 4097 + 17 * c := ⟨_, rfl⟩
  obtain ⟨g, hg⟩ : ∃ g, g = 4096 * s + 4096 + 17 * c := ⟨_, rfl⟩
  obtain ⟨h, hh⟩ : ∃ h, h = 4096 * s + 4113 + 17 * c := ⟨_, rfl⟩
  rw [← hf] at hF
  rw [← hg] at hG
  rw [← hh] at hH
  have z0 : IntKind.i64.wrap ((f : Int) + (p : Int)) = (a : Int) := (wrapI _ (by omega) (by omega)).trans (by omega)
  have z1 : decide ((0 : Int) ≤ (p : Int)) = true := decide_eq_true (by omega)
  have z2 : IntKind.i64.wrap ((f : Int) - 1) = (g : Int) := (wrapI _ (by omega) (by omega)).trans (by omega)
  have z3 : IntKind.i64.wrap ((f : Int) + 16) = (h : Int) := (wrapI _ (by omega) (by omega)).trans (by omega)
  obtain ⟨t2, ht2⟩ : ∃ t2, t2 = 17 * c + 17 := ⟨_, rfl⟩
  rw [← ht2] at hH
  obtain ⟨t1, ht1⟩ : ∃ t1, t1 = 17 * c := ⟨_, rfl⟩
  rw [← ht1] at hG
  have hq : ((p : Int) == (y3 : Int)) = false := beq_eq_false_iff_ne.2 (by omega)
  have hq2 : ¬ (p : Int) = (y3 : Int) := by omega
  clear ha pa hb pb hs hv hf hc hg hh ht1 ht2 hne
  go_enter Try.func7, Try.ntmps7
  go_wp2_with fail
  refine (hA.out _).mono ?_
  rintro e w1 ⟨rfl, b1⟩
  go_wp2_with fail
  obtain ⟨w2, hw2⟩ : ∃ w2, w2 = w1.alloc (.cells #[.int .i64 2, .int .i64 (s : Int), .int .i64 (c : Int), .int .i64 (p : Int)] 36) := ⟨_, rfl⟩
  have R2 : Row w2 w1.heap.size 36 [.int .i64 2, .int .i64 (s : Int), .int .i64 (c : Int), .int .i64 (p : Int)] := by rw [hw2]; exact Row.new _ _ _
  have B2 : Below w.heap.size w w2 := by rw [hw2]; exact b1.alloc b1.size _
  rw [← hw2]
  clear hw2 b1 hA
  refine (hB.out _).mono ?_
  rintro e w3 ⟨rfl, b3⟩
  have R3 := R2.below b3
  have B3 := below0 B2 b3
  have hlt3 := R3.lt
  obtain ⟨w4, hw4⟩ : ∃ w4, w4 = w3.alloc (.cells #[.int .i64 2, .int .i64 (s : Int), .int .i64 (c : Int), .int .i64 (y3 : Int)] 36) := ⟨_, rfl⟩
  have R4 := R3.below (show Below w3.heap.size w3 w4 by rw [hw4]; exact below1 _ _)
  have Y4 : Row w4 w3.heap.size 36 [.int .i64 2, .int .i64 (s : Int), .int .i64 (c : Int), .int .i64 (y3 : Int)] := by rw [hw4]; exact Row.new _ _ _
  have B4 : Below w.heap.size w w4 := by rw [hw4]; exact B3.alloc B3.size _
  clear R2 R3 B2 b3 hB B3 hlt3
  have c0 : w4.cell? ⟨w1.heap.size, 0, none⟩ = _ := R4.cell 0
  have c1 : w4.cell? ⟨w1.heap.size, 1, none⟩ = _ := R4.cell 1
  have c2 : w4.cell? ⟨w1.heap.size, 2, none⟩ = _ := R4.cell 2
  have c3 : w4.cell? ⟨w1.heap.size, 3, none⟩ = _ := R4.cell 3
  rw [hw4] at c0 c1 c2 c3
  go_wp2_with (first
    | (go_at_call 13; refine (hnum.out _ _).mono ?_; rintro e wn ⟨rfl, rfl⟩))
  rw [← hw4]
  refine (hF.out _).mono ?_
  rintro e w5 ⟨rfl, b5⟩
  have R5 := R4.below b5
  have B5 := below0 B4 b5
  clear b5 R4 B4 hw4
  go_wp2_with fail
  refine (hG.out _).mono ?_
  rintro e w6 ⟨rfl, b6⟩
  have R6 := R5.below b6
  have B6 := below0 B5 b6
  clear b6 R5 B5
  go_wp2_with fail
  obtain ⟨w7, hw7⟩ : ∃ w7, w7 = w6.alloc (.cells #[.int .i64 4, .int .i64 (s : Int), .int .i64 0, .int .i64 (t1 : Int)] 36) := ⟨_, rfl⟩
  have G7 : Row w7 w6.heap.size 36 [.int .i64 4, .int .i64 (s : Int), .int .i64 0, .int .i64 (t1 : Int)] := by rw [hw7]; exact Row.new _ _ _
  have R7 := R6.below (show Below w6.heap.size w6 w7 by rw [hw7]; exact below1 _ _)
  have B7 : Below w.heap.size w w7 := by rw [hw7]; exact B6.alloc B6.size _
  rw [← hw7]
  clear hw7 R6 B6
  refine (hH.out _).mono ?_
  rintro e w8 ⟨rfl, b8⟩
  have R8 := R7.below b8
  have G8 := G7.below b8
  have B8 := below0 B7 b8
  clear b8 R7 G7 B7
  obtain ⟨w9, hw9⟩ : ∃ w9, w9 = w8.alloc (.cells #[.int .i64 4, .int .i64 (s : Int), .int .i64 0, .int .i64 (t2 : Int)] 36) := ⟨_, rfl⟩
  have R9 := R8.below (show Below w8.heap.size w8 w9 by rw [hw9]; exact below1 _ _)
  have G9 := G8.below (show Below w8.heap.size w8 w9 by rw [hw9]; exact below1 _ _)
  have B9 : Below w.heap.size w w9 := by rw [hw9]; exact B8.alloc B8.size _
  have c3 : w9.cell? ⟨w1.heap.size, 3, none⟩ = _ := R9.cell 3
  have d0 : w9.cell? ⟨w6.heap.size, 0, none⟩ = _ := G9.cell 0
  rw [hw9] at c3 d0
  clear R8 G8 B8 R9 G9
  go_wp2_with (first
    | (go_at_call 13; refine (hnum.out _ _).mono ?_; rintro e wn ⟨rfl, rfl⟩))
  rw [← hw9]
  refine (hwk.out _).mono ?_
  rintro e wz ⟨rfl, bz⟩
  go_wp2
  go_ret
  exact ⟨rfl, below0 B9 bz⟩
end Go.Proofs.Ytkfljominljliaa
