import Derived.Test.YtkfljominljliaaWg
namespace Go.Proofs.Ytkfljominljliaa
open Go.RowKit
attribute [local go_sem] Oper.semAt_some

theorem toldR_no (n : Int) (g : Nat) (lb : Array Value) (w : World) (hk : isB n 4 = false) : Calls Try.prog 44 #[.int .i64 n, .func (.func g) #[] lb] w fun e w' => e = .returned (.tuple #[.agg #[.int .i64 0, .int .i64 0, .int .i64 0, .int .i64 0], .int .i64 2]) ∧ Below w.heap.size w w' := by
  have hth := Lib.hid (fun w => there_any n w)
  rw [hk] at hth
  clear hk
  go_enter Try.func44, Try.ntmps44
  go_wp2_with fail
  refine wp_scope_jump 1 fun R hR hG => ?_
  go_wp2_with fail
  refine (hth.out _).mono ?_
  rintro e w1 ⟨rfl, hb1⟩
  have hz := hb1.size
  simp at hz
  have r0 : Row w1 w.heap.size 58 [.int .i64 0, .int .i64 0, .int .i64 0, .int .i64 0] := (((Row.new w 58 [.int .i64 0, .int .i64 0, .int .i64 0, .int .i64 0]).below (below1 _ _)).below (below1 _ _)).below (hb1.mono (by simp))
  have r1 : Row w1 (w.heap.size + 1) 58 [.int .i64 0, .int .i64 0, .int .i64 0, .int .i64 0] := ((Row.new_at _ 58 [.int .i64 0, .int .i64 0, .int .i64 0, .int .i64 0] (by simp)).below (below1 _ _)).below (hb1.mono (by simp))
  have c0 : w1.cell? ⟨w.heap.size, 0, none⟩ = _ := r0.cell 0
  have c1 : w1.cell? ⟨w.heap.size, 1, none⟩ = _ := r0.cell 1
  have c2 : w1.cell? ⟨w.heap.size, 2, none⟩ = _ := r0.cell 2
  have c3 : w1.cell? ⟨w.heap.size, 3, none⟩ = _ := r0.cell 3
  have c4 : w1.cell? ⟨w.heap.size + 1, 0, none⟩ = _ := r1.cell 0
  have c5 : w1.cell? ⟨w.heap.size + 1, 1, none⟩ = _ := r1.cell 1
  have c6 : w1.cell? ⟨w.heap.size + 1, 2, none⟩ = _ := r1.cell 2
  have c7 : w1.cell? ⟨w.heap.size + 1, 3, none⟩ = _ := r1.cell 3
  have f0 := r0.frozen 0
  have f1 := r0.frozen 1
  have f2 := r0.frozen 2
  have f3 := r0.frozen 3
  have HR := Lib.hid r0
  have HB := Lib.hid (show Below w.heap.size w w1 from (below3 _ _ _ _).trans (hb1.mono (by simp; omega)))
  clear r0 r1 hb1
  go_wp2_with fail
  refine wp_goto (hG.out _ _ _ _ _ rfl ?_)
  go_wp2
  refine hR.out _ _ _ _ (by simp) ?_
  have hR2 : Row ((((w1.setCell ⟨w.heap.size, 0, none⟩ (.int .i64 0)).setCell ⟨w.heap.size, 1, none⟩ (.int .i64 0)).setCell ⟨w.heap.size, 2, none⟩ (.int .i64 0)).setCell ⟨w.heap.size, 3, none⟩ (.int .i64 0)) w.heap.size 58 [.int .i64 0, .int .i64 0, .int .i64 0, .int .i64 0] := (((HR.out.set 0 (.int .i64 0)).set 1 (.int .i64 0)).set 2 (.int .i64 0)).set 3 (.int .i64 0)
  have d0 : World.cell? _ ⟨w.heap.size, 0, none⟩ = _ := hR2.cell 0
  have d1 : World.cell? _ ⟨w.heap.size, 1, none⟩ = _ := hR2.cell 1
  have d2 : World.cell? _ ⟨w.heap.size, 2, none⟩ = _ := hR2.cell 2
  have d3 : World.cell? _ ⟨w.heap.size, 3, none⟩ = _ := hR2.cell 3
  exact bodyPost_ret (v := .tuple #[.agg #[.int .i64 0, .int .i64 0, .int .i64 0, .int .i64 0], .int .i64 2]) (by simp [results, Try.results44, go_sem, d0, d1, d2, d3]) rfl ⟨rfl, (((HB.out.setCell (by simp) _).setCell (by simp) _).setCell (by simp) _).setCell (by simp) _⟩
theorem toldR_yes (k : Nat) (g : Nat) (lb : Array Value) (x : Int) (w : World) (hk : k < 4) (eg : ∀ args w, (callFunc g args).run Try.prog w = .ok (.enter g args) w)
    (hg : ∀ W, Below w.heap.size w W → Calls Try.prog g (#[tn k] ++ lb) W fun e w' => e = .returned (.agg #[.int .i64 x, .int .i64 17, .int .i64 16, .int .i64 8]) ∧ Below W.heap.size W w') :
    Calls Try.prog 44 #[.int .i64 (k : Int), .func (.func g) #[] lb] w fun e w' => e = .returned (.tuple #[.agg #[.int .i64 x, .int .i64 17, .int .i64 16, .int .i64 8], .int .i64 0]) ∧ Below w.heap.size w w' := by
  have hth := Lib.hid (fun w => there_any (k : Int) w)
  rw [show ((4 : Int)) = ((4 : Nat) : Int) from rfl, isB_yes hk] at hth
  have hg := Lib.hid hg
  clear hk
  go_enter Try.func44, Try.ntmps44
  go_wp2_with fail
  refine wp_scope_jump 1 fun R hR hG => ?_
  go_wp2_with fail
  refine (hth.out _).mono ?_
  rintro e w1 ⟨rfl, hb1⟩
  have hz := hb1.size
  simp at hz
  have hB1 : Below w.heap.size w w1 := (below3 _ _ _ _).trans (hb1.mono (by simp; omega))
  have r0 : Row w1 w.heap.size 58 [.int .i64 0, .int .i64 0, .int .i64 0, .int .i64 0] := (((Row.new w 58 [.int .i64 0, .int .i64 0, .int .i64 0, .int .i64 0]).below (below1 _ _)).below (below1 _ _)).below (hb1.mono (by simp))
  have c0 : w1.cell? ⟨w.heap.size + 1 + 1, 0, none⟩ = some (.int .i64 (k : Int)) := (hb1.cell (p := ⟨w.heap.size + 1 + 1, 0, none⟩) (by simp)).trans (cell_new_at _ _ _ _ (by simp))
  clear hb1
  go_wp2_with fail
  refine (hg.out _ hB1).mono ?_
  rintro e w2 ⟨rfl, hb2⟩
  have r2 := r0.below hb2
  have c0 : w2.cell? ⟨w.heap.size, 0, none⟩ = _ := r2.cell 0
  have c1 : w2.cell? ⟨w.heap.size, 1, none⟩ = _ := r2.cell 1
  have c2 : w2.cell? ⟨w.heap.size, 2, none⟩ = _ := r2.cell 2
  have c3 : w2.cell? ⟨w.heap.size, 3, none⟩ = _ := r2.cell 3
  have f0 := r2.frozen 0
  have f1 := r2.frozen 1
  have f2 := r2.frozen 2
  have f3 := r2.frozen 3
  have HR := Lib.hid r2
  have HB := Lib.hid (show Below w.heap.size w w2 from hB1.trans (hb2.mono hB1.size))
  clear r0 r2 hb2 hB1
  go_wp2
  refine hR.out _ _ _ _ (by simp) ?_
  have hR2 : Row ((((w2.setCell ⟨w.heap.size, 0, none⟩ (.int .i64 x)).setCell ⟨w.heap.size, 1, none⟩ (.int .i64 17)).setCell ⟨w.heap.size, 2, none⟩ (.int .i64 16)).setCell ⟨w.heap.size, 3, none⟩ (.int .i64 8)) w.heap.size 58 [.int .i64 x, .int .i64 17, .int .i64 16, .int .i64 8] := (((HR.out.set 0 (.int .i64 x)).set 1 (.int .i64 17)).set 2 (.int .i64 16)).set 3 (.int .i64 8)
  have d0 : World.cell? _ ⟨w.heap.size, 0, none⟩ = _ := hR2.cell 0
  have d1 : World.cell? _ ⟨w.heap.size, 1, none⟩ = _ := hR2.cell 1
  have d2 : World.cell? _ ⟨w.heap.size, 2, none⟩ = _ := hR2.cell 2
  have d3 : World.cell? _ ⟨w.heap.size, 3, none⟩ = _ := hR2.cell 3
  exact bodyPost_ret (v := .tuple #[.agg #[.int .i64 x, .int .i64 17, .int .i64 16, .int .i64 8], .int .i64 0]) (by simp [results, Try.results44, go_sem, d0, d1, d2, d3]) rfl ⟨rfl, (((HB.out.setCell (by simp) _).setCell (by simp) _).setCell (by simp) _).setCell (by simp) _⟩
end Go.Proofs.Ytkfljominljliaa
