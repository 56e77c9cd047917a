import Derived.Test.YtkfljominljliaaWj
namespace Go.Proofs.Ytkfljominljliaa
open Go.RowKit
attribute [local go_sem] Oper.semAt_some

set_option maxHeartbeats 4000000 in
theorem lookAt_some (n k q : Nat) (w : World) (hn : n < 1000000) (hx : windO n = some (k, q)) : Calls Try.prog 39 #[.int .i64 (n : Int)] w fun e w' => e = .returned (lookV n) ∧ Below w.heap.size w w' := by
  have hk := (wind_lt hx).1
  have hb := Lib.hid (fun w => find_any 1 64 48 4 n w (by omega) hn (by omega) (by omega))
  have hw := Lib.hid (fun w => find_any 4096 4096 4096 4 n w (by omega) hn (by omega) (by omega))
  have hr := Lib.hid (fun w => find_any (4096 * k + 4097) 17 16 8 n w (by omega) hn (by omega) (by omega))
  have hbk := Lib.hid books_any
  have hwk := Lib.hid windows_any
  have hrk := Lib.hid (fun w => tregions_any k w hk)
  rw [show fnd 4096 4096 4096 4 n = some (k, q) from hx, show spotV (some (k, q)) = spV (k : Int) (q : Int) true from rfl] at hw
  rw [show fnd 1 64 48 4 n = bookO n from rfl, spotV_eq] at hb
  rw [show fnd (4096 * k + 4097) 17 16 8 n = regiO n by unfold regiO; rw [hx], spotV_eq] at hr
  rw [lookV, hx]
  rw [show sA (some (k, q)) = k from rfl, show sB (some (k, q)) = q from rfl, show (some (k, q) : Option (Nat × Nat)).isSome = true from rfl]
  obtain ⟨a, ha⟩ : ∃ a, a = sA (bookO n) := ⟨_, rfl⟩
  obtain ⟨b, hb'⟩ : ∃ b, b = sB (bookO n) := ⟨_, rfl⟩
  obtain ⟨c, hc⟩ : ∃ c, c = (bookO n).isSome := ⟨_, rfl⟩
  obtain ⟨g, hg⟩ : ∃ a, a = sA (regiO n) := ⟨_, rfl⟩
  obtain ⟨h, hh⟩ : ∃ b, b = sB (regiO n) := ⟨_, rfl⟩
  obtain ⟨i, hi⟩ : ∃ c, c = (regiO n).isSome := ⟨_, rfl⟩
  obtain ⟨f, hf⟩ : ∃ f, f = 4096 * k + 4097 := ⟨_, rfl⟩
  rw [← ha, ← hb', ← hc] at hb ⊢
  rw [← hg, ← hh, ← hi] at hr ⊢
  rw [← hf] at hr hrk
  clear ha hb' hc hx hn hg hh hi hf hk
  go_enter Try.func39, Try.ntmps39
  go_wp2_with fail
  refine (hbk.out _).mono ?_
  rintro e w1 ⟨rfl, hb1⟩
  have B1 : Below w.heap.size w w1 := (below1 _ _).trans (hb1.mono (by simp))
  have R1 : Row w1 w.heap.size 74 (lkC 0 0 false 0 0 false 0 0 false) := (Row.new w 74 (lkC 0 0 false 0 0 false 0 0 false)).below hb1
  clear hb1
  go_wp2_with fail
  refine (hb.out _).mono ?_
  rintro e w2 ⟨rfl, hb2⟩
  have B2 := B1.trans (hb2.mono B1.size)
  have R2 := R1.below hb2
  clear B1 R1 hb2
  go_wp2_with fail
  refine (hwk.out _).mono ?_
  rintro e w3 ⟨rfl, hb3⟩
  have B3 := B2.trans (hb3.mono B2.size)
  have R3 := R2.below hb3
  clear B2 R2 hb3
  go_wp2_with fail
  refine (hw.out _).mono ?_
  rintro e w4 ⟨rfl, hb4⟩
  have B4 := B3.trans (hb4.mono B3.size)
  have R4 := R3.below hb4
  clear B3 R3 hb4
  have hlt := R4.lt
  obtain ⟨w5, hw5⟩ : ∃ w5, w5 = w4.alloc (.cells #[.int .i64 (a : Int), .int .i64 (b : Int), .bool c, .int .i64 (k : Int), .int .i64 (q : Int), .bool true, .int .i64 0, .int .i64 0, .bool false] 74) := ⟨_, rfl⟩
  have B5 : Below w.heap.size w w5 := by rw [hw5]; exact B4.alloc B4.size _
  have R5 : Row w5 w.heap.size 74 (lkC 0 0 false 0 0 false 0 0 false) := by rw [hw5]; exact R4.below (below1 _ _)
  have L5 : Row w5 w4.heap.size 74 [.int .i64 (a : Int), .int .i64 (b : Int), .bool c, .int .i64 (k : Int), .int .i64 (q : Int), .bool true, .int .i64 0, .int .i64 0, .bool false] := by rw [hw5]; exact Row.new _ _ _
  have z5 : w5.heap.size = w4.heap.size + 1 := by rw [hw5]; simp
  have HLT := Lib.hid hlt
  clear hlt
  go_wp2_with fail
  refine (hrk.out _).mono ?_
  rintro e w6 ⟨rfl, hb6⟩
  rw [← hw5] at hb6
  have B6 := B5.trans (hb6.mono B5.size)
  have R6 := R5.below hb6
  have L6 := L5.below hb6
  clear B5 R5 L5 hb6 hw5 B4 R4
  go_wp2_with fail
  refine (hr.out _).mono ?_
  rintro e w7 ⟨rfl, hb7⟩
  have B7 := B6.trans (hb7.mono B6.size)
  have R7 := R6.below hb7
  have L7 := L6.below hb7
  clear B6 R6 L6 hb7
  have p0 : w7.cell? ⟨w4.heap.size, 0, none⟩ = _ := L7.cell 0
  have p1 : w7.cell? ⟨w4.heap.size, 1, none⟩ = _ := L7.cell 1
  have p2 : w7.cell? ⟨w4.heap.size, 2, none⟩ = _ := L7.cell 2
  have p3 : w7.cell? ⟨w4.heap.size, 3, none⟩ = _ := L7.cell 3
  have p4 : w7.cell? ⟨w4.heap.size, 4, none⟩ = _ := L7.cell 4
  have p5 : w7.cell? ⟨w4.heap.size, 5, none⟩ = _ := L7.cell 5
  have p6 : w7.cell? ⟨w4.heap.size, 6, none⟩ = _ := L7.cell 6
  have p7 : w7.cell? ⟨w4.heap.size, 7, none⟩ = _ := L7.cell 7
  have p8 : w7.cell? ⟨w4.heap.size, 8, none⟩ = _ := L7.cell 8
  have o0 : w7.frozen? ⟨w4.heap.size, 0, none⟩ = false := L7.frozen 0
  have o1 : w7.frozen? ⟨w4.heap.size, 1, none⟩ = false := L7.frozen 1
  have o2 : w7.frozen? ⟨w4.heap.size, 2, none⟩ = false := L7.frozen 2
  have o3 : w7.frozen? ⟨w4.heap.size, 3, none⟩ = false := L7.frozen 3
  have o4 : w7.frozen? ⟨w4.heap.size, 4, none⟩ = false := L7.frozen 4
  have o5 : w7.frozen? ⟨w4.heap.size, 5, none⟩ = false := L7.frozen 5
  have o6 : w7.frozen? ⟨w4.heap.size, 6, none⟩ = false := L7.frozen 6
  have o7 : w7.frozen? ⟨w4.heap.size, 7, none⟩ = false := L7.frozen 7
  have o8 : w7.frozen? ⟨w4.heap.size, 8, none⟩ = false := L7.frozen 8
  have c0 : w7.cell? ⟨w.heap.size, 0, none⟩ = _ := R7.cell 0
  have c1 : w7.cell? ⟨w.heap.size, 1, none⟩ = _ := R7.cell 1
  have c2 : w7.cell? ⟨w.heap.size, 2, none⟩ = _ := R7.cell 2
  have c3 : w7.cell? ⟨w.heap.size, 3, none⟩ = _ := R7.cell 3
  have c4 : w7.cell? ⟨w.heap.size, 4, none⟩ = _ := R7.cell 4
  have c5 : w7.cell? ⟨w.heap.size, 5, none⟩ = _ := R7.cell 5
  have c6 : w7.cell? ⟨w.heap.size, 6, none⟩ = _ := R7.cell 6
  have c7 : w7.cell? ⟨w.heap.size, 7, none⟩ = _ := R7.cell 7
  have c8 : w7.cell? ⟨w.heap.size, 8, none⟩ = _ := R7.cell 8
  have f0 : w7.frozen? ⟨w.heap.size, 0, none⟩ = false := R7.frozen 0
  have f1 : w7.frozen? ⟨w.heap.size, 1, none⟩ = false := R7.frozen 1
  have f2 : w7.frozen? ⟨w.heap.size, 2, none⟩ = false := R7.frozen 2
  have f3 : w7.frozen? ⟨w.heap.size, 3, none⟩ = false := R7.frozen 3
  have f4 : w7.frozen? ⟨w.heap.size, 4, none⟩ = false := R7.frozen 4
  have f5 : w7.frozen? ⟨w.heap.size, 5, none⟩ = false := R7.frozen 5
  have f6 : w7.frozen? ⟨w.heap.size, 6, none⟩ = false := R7.frozen 6
  have f7 : w7.frozen? ⟨w.heap.size, 7, none⟩ = false := R7.frozen 7
  have f8 : w7.frozen? ⟨w.heap.size, 8, none⟩ = false := R7.frozen 8
  have hw4lt := HLT.out
  have hne : ¬ w4.heap.size = w.heap.size := by omega
  have hne2 : ¬ w.heap.size = w4.heap.size := by omega
  have HR := Lib.hid R7
  have HL := Lib.hid L7
  have HB := Lib.hid B7
  have HN := Lib.hid hw4lt
  clear B7 R7 L7 hw4lt HLT z5
  go_wp2
  obtain ⟨V, hV⟩ : ∃ V, V = ((w7.setCell ⟨w4.heap.size, 6, none⟩ (.int .i64 (g : Int))).setCell ⟨w4.heap.size, 7, none⟩ (.int .i64 (h : Int))).setCell ⟨w4.heap.size, 8, none⟩ (.bool i) := ⟨_, rfl⟩
  have hRV : Row V w.heap.size 74 (lkC 0 0 false 0 0 false 0 0 false) := by rw [hV]; exact HR.out.same ((heap_set hne2).trans ((heap_set hne2).trans (heap_set hne2)))
  have hBV : Below w.heap.size w V := by rw [hV]; exact ((HB.out.setCell (p := ⟨w4.heap.size, 6, none⟩) (Nat.le_of_lt HN.out) _).setCell (p := ⟨w4.heap.size, 7, none⟩) (Nat.le_of_lt HN.out) _).setCell (p := ⟨w4.heap.size, 8, none⟩) (Nat.le_of_lt HN.out) _
  rw [← hV]
  have R6 := row_set9 (.int .i64 (a : Int)) (.int .i64 (b : Int)) (.bool c) (.int .i64 (k : Int)) (.int .i64 (q : Int)) (.bool true) (.int .i64 (g : Int)) (.int .i64 (h : Int)) (.bool i) hRV
  have B6 := below_set9 (b := w.heap.size) (.int .i64 (a : Int)) (.int .i64 (b : Int)) (.bool c) (.int .i64 (k : Int)) (.int .i64 (q : Int)) (.bool true) (.int .i64 (g : Int)) (.int .i64 (h : Int)) (.bool i) hBV (Nat.le_refl _)
  obtain ⟨W, hW⟩ : ∃ W, W = (((((((((V.setCell ⟨w.heap.size, 0, none⟩ (.int .i64 (a : Int))).setCell ⟨w.heap.size, 1, none⟩ (.int .i64 (b : Int))).setCell ⟨w.heap.size, 2, none⟩ (.bool c)).setCell ⟨w.heap.size, 3, none⟩ (.int .i64 (k : Int))).setCell ⟨w.heap.size, 4, none⟩ (.int .i64 (q : Int))).setCell ⟨w.heap.size, 5, none⟩ (.bool true)).setCell ⟨w.heap.size, 6, none⟩ (.int .i64 (g : Int))).setCell ⟨w.heap.size, 7, none⟩ (.int .i64 (h : Int))).setCell ⟨w.heap.size, 8, none⟩ (.bool i)) := ⟨_, rfl⟩
  rw [← hW] at R6 B6 ⊢
  clear HR HL HB HN hW hV hRV hBV
  have d0 : W.cell? ⟨w.heap.size, 0, none⟩ = _ := R6.cell 0
  have d1 : W.cell? ⟨w.heap.size, 1, none⟩ = _ := R6.cell 1
  have d2 : W.cell? ⟨w.heap.size, 2, none⟩ = _ := R6.cell 2
  have d3 : W.cell? ⟨w.heap.size, 3, none⟩ = _ := R6.cell 3
  have d4 : W.cell? ⟨w.heap.size, 4, none⟩ = _ := R6.cell 4
  have d5 : W.cell? ⟨w.heap.size, 5, none⟩ = _ := R6.cell 5
  have d6 : W.cell? ⟨w.heap.size, 6, none⟩ = _ := R6.cell 6
  have d7 : W.cell? ⟨w.heap.size, 7, none⟩ = _ := R6.cell 7
  have d8 : W.cell? ⟨w.heap.size, 8, none⟩ = _ := R6.cell 8
  exact bodyPost_ret (v := lkV a b c k q true g h i) (by simp [results, Try.results39, go_sem, d0, d1, d2, d3, d4, d5, d6, d7, d8]) rfl ⟨rfl, B6⟩
theorem lookAt_any (n : Nat) (w : World) (hn : n < 1000000) : Calls Try.prog 39 #[.int .i64 (n : Int)] w fun e w' => e = .returned (lookV n) ∧ Below w.heap.size w w' := by
  rcases h : windO n with _ | ⟨k, q⟩
  · exact lookAt_none n w hn h
  · exact lookAt_some n k q w hn h
end Go.Proofs.Ytkfljominljliaa
