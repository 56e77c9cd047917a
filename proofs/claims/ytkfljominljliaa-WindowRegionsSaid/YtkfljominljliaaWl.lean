import Derived.Test.YtkfljominljliaaWk
namespace Go.Proofs.Ytkfljominljliaa
open Go.RowKit
attribute [local go_sem] Oper.semAt_some

abbrev siV (a b c d : Int) : Value := .agg #[.int .i64 a, .int .i64 b, .int .i64 c, .int .i64 d]
section
variable (a b : Int) (c : Bool) (d e : Int) (f : Bool) (g h : Int) (i : Bool) (w : World)
theorem fits1_any : Calls Try.prog 49 #[lkV a b c d e f g h i] w fun en w' => en = .returned (.bool c) ∧ Below w.heap.size w w' := by
  go_enter Try.func49, Try.ntmps49
  go_wp2
  go_ret
  exact ⟨rfl, below1 _ _⟩
theorem fits3_any : Calls Try.prog 51 #[lkV a b c d e f g h i] w fun en w' => en = .returned (.bool i) ∧ Below w.heap.size w w' := by
  go_enter Try.func51, Try.ntmps51
  go_wp2
  go_ret
  exact ⟨rfl, below1 _ _⟩
theorem fits7_any : Calls Try.prog 56 #[lkV a b c d e f g h i] w fun en w' => en = .returned (.bool f) ∧ Below w.heap.size w w' := by
  go_enter Try.func56, Try.ntmps56
  go_wp2
  go_ret
  exact ⟨rfl, below1 _ _⟩
theorem fits5_any : Calls Try.prog 53 #[lkV a b c d e f g h i] w fun en w' => en = .returned (.bool (f && decide (256 ≤ e))) ∧ Below w.heap.size w w' := by
  cases f
  · go_enter Try.func53, Try.ntmps53
    go_wp2
    go_ret
    exact ⟨rfl, below1 _ _⟩
  · obtain ⟨q, hq⟩ : ∃ q, decide (256 ≤ e) = q := ⟨_, rfl⟩
    rw [hq]
    go_enter Try.func53, Try.ntmps53
    go_wp2
    go_ret
    exact ⟨rfl, below1 _ _⟩
theorem site2_any : Calls Try.prog 50 #[lkV a b c d e f g h i] w fun en w' => en = .returned (siV 1 a 0 b) ∧ Below w.heap.size w w' := by
  go_enter Try.func50, Try.ntmps50
  go_wp2
  exact bodyPost_ret (v := siV 1 a 0 b) (by simp [results, Try.results50, go_sem]) rfl ⟨rfl, below2 _ _ _⟩
theorem site4_any : Calls Try.prog 52 #[lkV a b c d e f g h i] w fun en w' => en = .returned (siV 2 d g h) ∧ Below w.heap.size w w' := by
  go_enter Try.func52, Try.ntmps52
  go_wp2
  exact bodyPost_ret (v := siV 2 d g h) (by simp [results, Try.results52, go_sem]) rfl ⟨rfl, below2 _ _ _⟩
theorem inW_any (k : Int) : Calls Try.prog 55 #[lkV a b c d e f g h i, .int .i64 k] w fun en w' => en = .returned (siV k d 0 e) ∧ Below w.heap.size w w' := by
  go_enter Try.func55, Try.ntmps55
  go_wp2
  exact bodyPost_ret (v := siV k d 0 e) (by simp [results, Try.results55, go_sem]) rfl ⟨rfl, below2 _ _ _⟩
theorem site6_any : Calls Try.prog 54 #[lkV a b c d e f g h i] w fun en w' => en = .returned (siV 3 d 0 e) ∧ Below w.heap.size w w' := by
  have hi := Lib.hid (fun w => inW_any a b c d e f g h i w 3)
  go_enter Try.func54, Try.ntmps54
  go_wp2_with fail
  refine (hi.out _).mono ?_
  rintro en w1 ⟨rfl, hb1⟩
  have hz := hb1.size
  simp at hz
  have hR : Row w1 (w.heap.size + 1) 36 [.int .i64 0, .int .i64 0, .int .i64 0, .int .i64 0] := (Row.new_at _ _ _ (by simp)).below hb1
  have c0 : w1.cell? ⟨w.heap.size + 1, 0, none⟩ = _ := hR.cell 0
  have c1 : w1.cell? ⟨w.heap.size + 1, 1, none⟩ = _ := hR.cell 1
  have c2 : w1.cell? ⟨w.heap.size + 1, 2, none⟩ = _ := hR.cell 2
  have c3 : w1.cell? ⟨w.heap.size + 1, 3, none⟩ = _ := hR.cell 3
  have f0 := hR.frozen 0
  have f1 := hR.frozen 1
  have f2 := hR.frozen 2
  have f3 := hR.frozen 3
  have HR := Lib.hid hR
  have HB := Lib.hid (show Below w.heap.size w w1 from (below2 _ _ _).trans (hb1.mono (by simp; omega)))
  clear hR hb1 hz
  go_wp2
  have R6 := row_set4 (.int .i64 3) (.int .i64 d) (.int .i64 0) (.int .i64 e) HR.out
  have B6 := below_set4 (b := w.heap.size + 1) (.int .i64 3) (.int .i64 d) (.int .i64 0) (.int .i64 e) HB.out (by omega)
  clear c0 c1 c2 c3 f0 f1 f2 f3
  have d0 : World.cell? _ ⟨w.heap.size + 1, 0, none⟩ = _ := R6.cell 0
  have d1 : World.cell? _ ⟨w.heap.size + 1, 1, none⟩ = _ := R6.cell 1
  have d2 : World.cell? _ ⟨w.heap.size + 1, 2, none⟩ = _ := R6.cell 2
  have d3 : World.cell? _ ⟨w.heap.size + 1, 3, none⟩ = _ := R6.cell 3
  exact bodyPost_ret (v := siV 3 d 0 e) (by simp [results, Try.results54, go_sem, d0, d1, d2, d3]) rfl ⟨rfl, B6⟩
theorem site8_any : Calls Try.prog 57 #[lkV a b c d e f g h i] w fun en w' => en = .returned (siV 4 d 0 e) ∧ Below w.heap.size w w' := by
  have hi := Lib.hid (fun w => inW_any a b c d e f g h i w 4)
  go_enter Try.func57, Try.ntmps57
  go_wp2_with fail
  refine (hi.out _).mono ?_
  rintro en w1 ⟨rfl, hb1⟩
  have hz := hb1.size
  simp at hz
  have hR : Row w1 (w.heap.size + 1) 36 [.int .i64 0, .int .i64 0, .int .i64 0, .int .i64 0] := (Row.new_at _ _ _ (by simp)).below hb1
  have c0 : w1.cell? ⟨w.heap.size + 1, 0, none⟩ = _ := hR.cell 0
  have c1 : w1.cell? ⟨w.heap.size + 1, 1, none⟩ = _ := hR.cell 1
  have c2 : w1.cell? ⟨w.heap.size + 1, 2, none⟩ = _ := hR.cell 2
  have c3 : w1.cell? ⟨w.heap.size + 1, 3, none⟩ = _ := hR.cell 3
  have f0 := hR.frozen 0
  have f1 := hR.frozen 1
  have f2 := hR.frozen 2
  have f3 := hR.frozen 3
  have HR := Lib.hid hR
  have HB := Lib.hid (show Below w.heap.size w w1 from (below2 _ _ _).trans (hb1.mono (by simp; omega)))
  clear hR hb1 hz
  go_wp2
  have R6 := row_set4 (.int .i64 4) (.int .i64 d) (.int .i64 0) (.int .i64 e) HR.out
  have B6 := below_set4 (b := w.heap.size + 1) (.int .i64 4) (.int .i64 d) (.int .i64 0) (.int .i64 e) HB.out (by omega)
  clear c0 c1 c2 c3 f0 f1 f2 f3
  have d0 : World.cell? _ ⟨w.heap.size + 1, 0, none⟩ = _ := R6.cell 0
  have d1 : World.cell? _ ⟨w.heap.size + 1, 1, none⟩ = _ := R6.cell 1
  have d2 : World.cell? _ ⟨w.heap.size + 1, 2, none⟩ = _ := R6.cell 2
  have d3 : World.cell? _ ⟨w.heap.size + 1, 3, none⟩ = _ := R6.cell 3
  exact bodyPost_ret (v := siV 4 d 0 e) (by simp [results, Try.results57, go_sem, d0, d1, d2, d3]) rfl ⟨rfl, B6⟩
end
end Go.Proofs.Ytkfljominljliaa
