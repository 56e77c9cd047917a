import Derived.Test.YtkfljominljliaaWh
import Derived.Test.YtkfljominljliaaWi
namespace Go.Proofs.Ytkfljominljliaa
open Go.RowKit
attribute [local go_sem] Oper.semAt_some

abbrev spV (a b : Int) (c : Bool) : Value := .agg #[.int .i64 a, .int .i64 b, .bool c]
def sA (o : Option (Nat × Nat)) : Nat := (o.getD (0, 0)).1
def sB (o : Option (Nat × Nat)) : Nat := (o.getD (0, 0)).2
theorem spotV_eq (o : Option (Nat × Nat)) : spotV o = spV (sA o : Int) (sB o : Int) o.isSome := by cases o <;> rfl
def bookO (n : Nat) : Option (Nat × Nat) := fnd 1 64 48 4 n
def windO (n : Nat) : Option (Nat × Nat) := fnd 4096 4096 4096 4 n
def regiO (n : Nat) : Option (Nat × Nat) := match windO n with | some (k, _) => fnd (4096 * k + 4097) 17 16 8 n | none => none
theorem wind_lt {n k q : Nat} (h : windO n = some (k, q)) : k < 4 ∧ n = 4096 * k + 4096 + q ∧ q < 4096 := by
  unfold windO fnd at h
  split at h
  · rename_i hc
    injection h with h
    injection h with h1 h2
    omega
  · cases h
/-- the cells of a look -/
abbrev lkC (a b : Int) (c : Bool) (d e : Int) (f : Bool) (g h : Int) (i : Bool) : List Value := [.int .i64 a, .int .i64 b, .bool c, .int .i64 d, .int .i64 e, .bool f, .int .i64 g, .int .i64 h, .bool i]
abbrev lkV (a b : Int) (c : Bool) (d e : Int) (f : Bool) (g h : Int) (i : Bool) : Value := .agg #[.int .i64 a, .int .i64 b, .bool c, .int .i64 d, .int .i64 e, .bool f, .int .i64 g, .int .i64 h, .bool i]
def lookV (n : Nat) : Value := lkV (sA (bookO n) : Int) (sB (bookO n) : Int) (bookO n).isSome (sA (windO n) : Int) (sB (windO n) : Int) (windO n).isSome (sA (regiO n) : Int) (sB (regiO n) : Int) (regiO n).isSome

theorem row_set9 {V : World} {b : Nat} {t : TypeId} {x0 x1 x2 x3 x4 x5 x6 x7 x8 : Value} (y0 y1 y2 y3 y4 y5 y6 y7 y8 : Value) (h : Row V b t [x0, x1, x2, x3, x4, x5, x6, x7, x8]) : Row (((((((((V.setCell ⟨b, 0, none⟩ y0).setCell ⟨b, 1, none⟩ y1).setCell ⟨b, 2, none⟩ y2).setCell ⟨b, 3, none⟩ y3).setCell ⟨b, 4, none⟩ y4).setCell ⟨b, 5, none⟩ y5).setCell ⟨b, 6, none⟩ y6).setCell ⟨b, 7, none⟩ y7).setCell ⟨b, 8, none⟩ y8) b t [y0, y1, y2, y3, y4, y5, y6, y7, y8] := (((((((((h.set 0 y0).set 1 y1).set 2 y2).set 3 y3).set 4 y4).set 5 y5).set 6 y6).set 7 y7).set 8 y8)
theorem below_set9 {B : Nat} {w V : World} {b : Nat} (y0 y1 y2 y3 y4 y5 y6 y7 y8 : Value) (h : Below B w V) (hb : B ≤ b) : Below B w (((((((((V.setCell ⟨b, 0, none⟩ y0).setCell ⟨b, 1, none⟩ y1).setCell ⟨b, 2, none⟩ y2).setCell ⟨b, 3, none⟩ y3).setCell ⟨b, 4, none⟩ y4).setCell ⟨b, 5, none⟩ y5).setCell ⟨b, 6, none⟩ y6).setCell ⟨b, 7, none⟩ y7).setCell ⟨b, 8, none⟩ y8) := (((((((((h.setCell (p := ⟨b, 0, none⟩) hb _).setCell (p := ⟨b, 1, none⟩) hb _).setCell (p := ⟨b, 2, none⟩) hb _).setCell (p := ⟨b, 3, none⟩) hb _).setCell (p := ⟨b, 4, none⟩) hb _).setCell (p := ⟨b, 5, none⟩) hb _).setCell (p := ⟨b, 6, none⟩) hb _).setCell (p := ⟨b, 7, none⟩) hb _).setCell (p := ⟨b, 8, none⟩) hb _)
theorem row_set4 {V : World} {b : Nat} {t : TypeId} {x0 x1 x2 x3 : Value} (y0 y1 y2 y3 : Value) (h : Row V b t [x0, x1, x2, x3]) : Row ((((V.setCell ⟨b, 0, none⟩ y0).setCell ⟨b, 1, none⟩ y1).setCell ⟨b, 2, none⟩ y2).setCell ⟨b, 3, none⟩ y3) b t [y0, y1, y2, y3] := ((((h.set 0 y0).set 1 y1).set 2 y2).set 3 y3)
theorem below_set4 {B : Nat} {w V : World} {b : Nat} (y0 y1 y2 y3 : Value) (h : Below B w V) (hb : B ≤ b) : Below B w ((((V.setCell ⟨b, 0, none⟩ y0).setCell ⟨b, 1, none⟩ y1).setCell ⟨b, 2, none⟩ y2).setCell ⟨b, 3, none⟩ y3) := ((((h.setCell (p := ⟨b, 0, none⟩) hb _).setCell (p := ⟨b, 1, none⟩) hb _).setCell (p := ⟨b, 2, none⟩) hb _).setCell (p := ⟨b, 3, none⟩) hb _)
theorem row_set3 {V : World} {b : Nat} {t : TypeId} {x0 x1 x2 : Value} (y0 y1 y2 : Value) (h : Row V b t [x0, x1, x2]) : Row (((V.setCell ⟨b, 0, none⟩ y0).setCell ⟨b, 1, none⟩ y1).setCell ⟨b, 2, none⟩ y2) b t [y0, y1, y2] := (((h.set 0 y0).set 1 y1).set 2 y2)
theorem below_set3 {B : Nat} {w V : World} {b : Nat} (y0 y1 y2 : Value) (h : Below B w V) (hb : B ≤ b) : Below B w (((V.setCell ⟨b, 0, none⟩ y0).setCell ⟨b, 1, none⟩ y1).setCell ⟨b, 2, none⟩ y2) := (((h.setCell (p := ⟨b, 0, none⟩) hb _).setCell (p := ⟨b, 1, none⟩) hb _).setCell (p := ⟨b, 2, none⟩) hb _)

set_option maxHeartbeats 2000000 in
theorem lookAt_none (n : Nat) (w : World) (hn : n < 1000000) (h : windO n = none) : Calls Try.prog 39 #[.int .i64 (n : Int)] w fun e w' => e = .returned (lookV n) ∧ Below w.heap.size w w' := by
  have hb := Lib.hid (fun w => find_any 1 64 48 4 n w (by omega) hn (by omega) (by omega))
  have hw := Lib.hid (fun w => find_any 4096 4096 4096 4 n w (by omega) hn (by omega) (by omega))
  have hbk := Lib.hid books_any
  have hwk := Lib.hid windows_any
  rw [show fnd 4096 4096 4096 4 n = none from h, show spotV none = spV 0 0 false from rfl] at hw
  rw [show fnd 1 64 48 4 n = bookO n from rfl, spotV_eq] at hb
  rw [lookV, h, show regiO n = none by unfold regiO; rw [h]]
  rw [show sA none = 0 from rfl, show sB none = 0 from rfl, show (none : Option (Nat × Nat)).isSome = false from rfl]
  obtain ⟨a, ha⟩ : ∃ a, a = sA (bookO n) := ⟨_, rfl⟩
  obtain ⟨b, hb'⟩ : ∃ b, b = sB (bookO n) := ⟨_, rfl⟩
  obtain ⟨c, hc⟩ : ∃ c, c = (bookO n).isSome := ⟨_, rfl⟩
  rw [← ha, ← hb', ← hc] at hb ⊢
  clear ha hb' hc h hn
  go_enter Try.func39, Try.ntmps39
  go_wp2_with fail
  refine (hbk.out _).mono ?_
  rintro e w1 ⟨rfl, hb1⟩
  have B1 : Below w.heap.size w w1 := (below1 _ _).trans (hb1.mono (by simp))
  have R1 : Row w1 w.heap.size 74 (lkC 0 0 false 0 0 false 0 0 false) := (Row.new w 74 (lkC 0 0 false 0 0 false 0 0 false)).below hb1
  clear hb1
  go_wp2_with fail
  refine (hb.out _).mono ?_
  rintro e w2 ⟨rfl, hb2⟩
  have B2 := B1.trans (hb2.mono B1.size)
  have R2 := R1.below hb2
  clear B1 R1 hb2
  go_wp2_with fail
  refine (hwk.out _).mono ?_
  rintro e w3 ⟨rfl, hb3⟩
  have B3 := B2.trans (hb3.mono B2.size)
  have R3 := R2.below hb3
  clear B2 R2 hb3
  go_wp2_with fail
  refine (hw.out _).mono ?_
  rintro e w4 ⟨rfl, hb4⟩
  have B4 := B3.trans (hb4.mono B3.size)
  have R4 := R3.below hb4
  clear B3 R3 hb4
  have hlt := R4.lt
  obtain ⟨w5, hw5⟩ : ∃ w5, w5 = w4.alloc (.cells #[.int .i64 (a : Int), .int .i64 (b : Int), .bool c, .int .i64 0, .int .i64 0, .bool false, .int .i64 0, .int .i64 0, .bool false] 74) := ⟨_, rfl⟩
  have B5 : Below w.heap.size w w5 := by rw [hw5]; exact B4.alloc B4.size _
  have R5 : Row w5 w.heap.size 74 (lkC 0 0 false 0 0 false 0 0 false) := by rw [hw5]; exact R4.below (below1 _ _)
  have c0 : w5.cell? ⟨w.heap.size, 0, none⟩ = _ := R5.cell 0
  have c1 : w5.cell? ⟨w.heap.size, 1, none⟩ = _ := R5.cell 1
  have c2 : w5.cell? ⟨w.heap.size, 2, none⟩ = _ := R5.cell 2
  have c3 : w5.cell? ⟨w.heap.size, 3, none⟩ = _ := R5.cell 3
  have c4 : w5.cell? ⟨w.heap.size, 4, none⟩ = _ := R5.cell 4
  have c5 : w5.cell? ⟨w.heap.size, 5, none⟩ = _ := R5.cell 5
  have c6 : w5.cell? ⟨w.heap.size, 6, none⟩ = _ := R5.cell 6
  have c7 : w5.cell? ⟨w.heap.size, 7, none⟩ = _ := R5.cell 7
  have c8 : w5.cell? ⟨w.heap.size, 8, none⟩ = _ := R5.cell 8
  have f0 : w5.frozen? ⟨w.heap.size, 0, none⟩ = false := R5.frozen 0
  have f1 : w5.frozen? ⟨w.heap.size, 1, none⟩ = false := R5.frozen 1
  have f2 : w5.frozen? ⟨w.heap.size, 2, none⟩ = false := R5.frozen 2
  have f3 : w5.frozen? ⟨w.heap.size, 3, none⟩ = false := R5.frozen 3
  have f4 : w5.frozen? ⟨w.heap.size, 4, none⟩ = false := R5.frozen 4
  have f5 : w5.frozen? ⟨w.heap.size, 5, none⟩ = false := R5.frozen 5
  have f6 : w5.frozen? ⟨w.heap.size, 6, none⟩ = false := R5.frozen 6
  have f7 : w5.frozen? ⟨w.heap.size, 7, none⟩ = false := R5.frozen 7
  have f8 : w5.frozen? ⟨w.heap.size, 8, none⟩ = false := R5.frozen 8
  rw [hw5] at c0 c1 c2 c3 c4 c5 c6 c7 c8 f0 f1 f2 f3 f4 f5 f6 f7 f8
  have HR := Lib.hid R5
  have HB := Lib.hid B5
  have HW := Lib.hid hw5
  clear B4 R4 R5 B5 hw5 hlt
  go_wp2
  rw [← HW.out]
  have R6 := row_set9 (.int .i64 (a : Int)) (.int .i64 (b : Int)) (.bool c) (.int .i64 0) (.int .i64 0) (.bool false) (.int .i64 0) (.int .i64 0) (.bool false) HR.out
  have B6 := below_set9 (b := w.heap.size) (.int .i64 (a : Int)) (.int .i64 (b : Int)) (.bool c) (.int .i64 0) (.int .i64 0) (.bool false) (.int .i64 0) (.int .i64 0) (.bool false) HB.out (Nat.le_refl _)
  obtain ⟨W, hW⟩ : ∃ W, W = (((((((((w5.setCell ⟨w.heap.size, 0, none⟩ (.int .i64 (a : Int))).setCell ⟨w.heap.size, 1, none⟩ (.int .i64 (b : Int))).setCell ⟨w.heap.size, 2, none⟩ (.bool c)).setCell ⟨w.heap.size, 3, none⟩ (.int .i64 0)).setCell ⟨w.heap.size, 4, none⟩ (.int .i64 0)).setCell ⟨w.heap.size, 5, none⟩ (.bool false)).setCell ⟨w.heap.size, 6, none⟩ (.int .i64 0)).setCell ⟨w.heap.size, 7, none⟩ (.int .i64 0)).setCell ⟨w.heap.size, 8, none⟩ (.bool false)) := ⟨_, rfl⟩
  rw [← hW] at R6 B6 ⊢
  clear c0 c1 c2 c3 c4 c5 c6 c7 c8 f0 f1 f2 f3 f4 f5 f6 f7 f8 HR HB HW hW
  have d0 : W.cell? ⟨w.heap.size, 0, none⟩ = _ := R6.cell 0
  have d1 : W.cell? ⟨w.heap.size, 1, none⟩ = _ := R6.cell 1
  have d2 : W.cell? ⟨w.heap.size, 2, none⟩ = _ := R6.cell 2
  have d3 : W.cell? ⟨w.heap.size, 3, none⟩ = _ := R6.cell 3
  have d4 : W.cell? ⟨w.heap.size, 4, none⟩ = _ := R6.cell 4
  have d5 : W.cell? ⟨w.heap.size, 5, none⟩ = _ := R6.cell 5
  have d6 : W.cell? ⟨w.heap.size, 6, none⟩ = _ := R6.cell 6
  have d7 : W.cell? ⟨w.heap.size, 7, none⟩ = _ := R6.cell 7
  have d8 : W.cell? ⟨w.heap.size, 8, none⟩ = _ := R6.cell 8
  exact bodyPost_ret (v := lkV a b c 0 0 false 0 0 false) (by simp [results, Try.results39, go_sem, d0, d1, d2, d3, d4, d5, d6, d7, d8]) rfl ⟨rfl, B6⟩
end Go.Proofs.Ytkfljominljliaa
