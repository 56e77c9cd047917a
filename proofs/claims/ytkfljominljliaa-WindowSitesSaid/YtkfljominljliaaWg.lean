import Derived.Test.YtkfljominljliaaWf
import Derived.BigQuiet
namespace Go.Proofs.Ytkfljominljliaa
open Go.RowKit
attribute [local go_sem] Oper.semAt_some

theorem toldE_no (n : Int) (g : Nat) (lb : Array Value) (w : World) (hk : isB n 4 = false) : Calls Try.prog 30 #[.int .i64 n, .func (.func g) #[] lb] w fun e w' => e = .returned (.tuple #[.agg #[.int .i64 0, .int .i64 0], .int .i64 2]) ∧ Below w.heap.size w w' := by
  have hth := Lib.hid (fun w => there_any n w)
  rw [hk] at hth
  clear hk
  go_enter Try.func30, Try.ntmps30
  go_wp2_with fail
  refine wp_scope_jump 1 fun R hR hG => ?_
  go_wp2_with fail
  refine (hth.out _).mono ?_
  rintro e w1 ⟨rfl, hb1⟩
  have hz := hb1.size
  simp at hz
  have r0 : Row w1 w.heap.size 61 [.int .i64 0, .int .i64 0] := (((Row.new w 61 [.int .i64 0, .int .i64 0]).below (below1 _ _)).below (below1 _ _)).below (hb1.mono (by simp))
  have r1 : Row w1 (w.heap.size + 1) 61 [.int .i64 0, .int .i64 0] := ((Row.new_at _ 61 [.int .i64 0, .int .i64 0] (by simp)).below (below1 _ _)).below (hb1.mono (by simp))
  have c0 : w1.cell? ⟨w.heap.size, 0, none⟩ = _ := r0.cell 0
  have c1 : w1.cell? ⟨w.heap.size, 1, none⟩ = _ := r0.cell 1
  have c2 : w1.cell? ⟨w.heap.size + 1, 0, none⟩ = _ := r1.cell 0
  have c3 : w1.cell? ⟨w.heap.size + 1, 1, none⟩ = _ := r1.cell 1
  have f0 := r0.frozen 0
  have f1 := r0.frozen 1
  have HR := Lib.hid r0
  have HB := Lib.hid (show Below w.heap.size w w1 from (below3 _ _ _ _).trans (hb1.mono (by simp; omega)))
  clear r0 r1 hb1
  go_wp2_with fail
  refine wp_goto (hG.out _ _ _ _ _ rfl ?_)
  go_wp2
  refine hR.out _ _ _ _ (by simp) ?_
  have hR2 : Row ((w1.setCell ⟨w.heap.size, 0, none⟩ (.int .i64 0)).setCell ⟨w.heap.size, 1, none⟩ (.int .i64 0)) w.heap.size 61 [.int .i64 0, .int .i64 0] := (HR.out.set 0 (.int .i64 0)).set 1 (.int .i64 0)
  have d0 : World.cell? _ ⟨w.heap.size, 0, none⟩ = _ := hR2.cell 0
  have d1 : World.cell? _ ⟨w.heap.size, 1, none⟩ = _ := hR2.cell 1
  exact bodyPost_ret (v := .tuple #[.agg #[.int .i64 0, .int .i64 0], .int .i64 2]) (by simp [results, Try.results30, go_sem, d0, d1]) rfl ⟨rfl, (HB.out.setCell (by simp) _).setCell (by simp) _⟩
theorem toldE_yes (k : Nat) (g : Nat) (lb : Array Value) (x y : Int) (w : World) (hk : k < 4) (eg : ∀ args w, (callFunc g args).run Try.prog w = .ok (.enter g args) w)
    (hg : ∀ W, Below w.heap.size w W → Calls Try.prog g (#[tn k] ++ lb) W fun e w' => e = .returned (.agg #[.int .i64 x, .int .i64 y]) ∧ Below W.heap.size W w') :
    Calls Try.prog 30 #[.int .i64 (k : Int), .func (.func g) #[] lb] w fun e w' => e = .returned (.tuple #[.agg #[.int .i64 x, .int .i64 y], .int .i64 0]) ∧ Below w.heap.size w w' := by
  have hth := Lib.hid (fun w => there_any (k : Int) w)
  rw [show ((4 : Int)) = ((4 : Nat) : Int) from rfl, isB_yes hk] at hth
  have hg := Lib.hid hg
  clear hk
  go_enter Try.func30, Try.ntmps30
  go_wp2_with fail
  refine wp_scope_jump 1 fun R hR hG => ?_
  go_wp2_with fail
  refine (hth.out _).mono ?_
  rintro e w1 ⟨rfl, hb1⟩
  have hz := hb1.size
  simp at hz
  have hB1 : Below w.heap.size w w1 := (below3 _ _ _ _).trans (hb1.mono (by simp; omega))
  have r0 : Row w1 w.heap.size 61 [.int .i64 0, .int .i64 0] := (((Row.new w 61 [.int .i64 0, .int .i64 0]).below (below1 _ _)).below (below1 _ _)).below (hb1.mono (by simp))
  have c0 : w1.cell? ⟨w.heap.size + 1 + 1, 0, none⟩ = some (.int .i64 (k : Int)) := (hb1.cell (p := ⟨w.heap.size + 1 + 1, 0, none⟩) (by simp)).trans (cell_new_at _ _ _ _ (by simp))
  clear hb1
  go_wp2_with fail
  refine (hg.out _ hB1).mono ?_
  rintro e w2 ⟨rfl, hb2⟩
  have r2 := r0.below hb2
  have c0 : w2.cell? ⟨w.heap.size, 0, none⟩ = _ := r2.cell 0
  have c1 : w2.cell? ⟨w.heap.size, 1, none⟩ = _ := r2.cell 1
  have f0 := r2.frozen 0
  have f1 := r2.frozen 1
  have HR := Lib.hid r2
  have HB := Lib.hid (show Below w.heap.size w w2 from hB1.trans (hb2.mono hB1.size))
  clear r0 r2 hb2 hB1
  go_wp2
  refine hR.out _ _ _ _ (by simp) ?_
  have hR2 : Row ((w2.setCell ⟨w.heap.size, 0, none⟩ (.int .i64 x)).setCell ⟨w.heap.size, 1, none⟩ (.int .i64 y)) w.heap.size 61 [.int .i64 x, .int .i64 y] := (HR.out.set 0 (.int .i64 x)).set 1 (.int .i64 y)
  have d0 : World.cell? _ ⟨w.heap.size, 0, none⟩ = _ := hR2.cell 0
  have d1 : World.cell? _ ⟨w.heap.size, 1, none⟩ = _ := hR2.cell 1
  exact bodyPost_ret (v := .tuple #[.agg #[.int .i64 x, .int .i64 y], .int .i64 0]) (by simp [results, Try.results30, go_sem, d0, d1]) rfl ⟨rfl, (HB.out.setCell (by simp) _).setCell (by simp) _⟩
theorem great_no (n : Int) (w : World) (hk : isB n 4 = false) : Calls Try.prog 10 #[.int .i64 n] w fun e w' => e = .returned (.tuple #[.int .i64 0, .int .i64 0, .int .i64 2]) ∧ Below w.heap.size w w' := by
  have hg := Lib.hid (fun g => toldE_no n g #[] w hk)
  clear hk
  go_enter Try.func10, Try.ntmps10
  go_wp2_with fail
  refine (hg.out _).mono ?_
  rintro e w1 ⟨rfl, hb1⟩
  go_wp2_with fail
  go_quiet (fail)
  go_wp2
  go_ret3
  exact ⟨rfl, below_drewN (hb1.alloc hb1.size _) _⟩
theorem great_yes (k : Nat) (w : World) (hk : k < 4) : Calls Try.prog 10 #[.int .i64 (k : Int)] w fun e w' => e = .returned (.tuple #[.int .i64 ((4096 * k + 4352 : Nat) : Int), .int .i64 ((4096 * k + 8192 : Nat) : Int), .int .i64 0]) ∧ Below w.heap.size w w' := by
  have hg := Lib.hid (toldE_yes k 31 #[] ((4096 * k + 4352 : Nat) : Int) ((4096 * k + 8192 : Nat) : Int) w hk (enters_of Try.func31 (by kernel_rfl) rfl) (fun W _ => tgreat_any k W hk))
  obtain ⟨x, hx⟩ : ∃ x, x = 4096 * k + 4352 := ⟨_, rfl⟩
  obtain ⟨y, hy⟩ : ∃ y, y = 4096 * k + 8192 := ⟨_, rfl⟩
  rw [← hx, ← hy] at hg ⊢
  clear hk hx hy
  go_enter Try.func10, Try.ntmps10
  go_wp2_with fail
  refine (hg.out).mono ?_
  rintro e w1 ⟨rfl, hb1⟩
  go_wp2_with fail
  go_quiet (fail)
  go_wp2
  go_ret3
  exact ⟨rfl, below_drewN (hb1.alloc hb1.size _) _⟩
end Go.Proofs.Ytkfljominljliaa
