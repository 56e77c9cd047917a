import Derived.Test.YtkfljominljliaaWd
namespace Go.Proofs.Ytkfljominljliaa
open Go.RowKit
attribute [local go_sem] Oper.semAt_some

theorem told_no (n : Int) (g : Nat) (lb : Array Value) (w : World) (hk : isB n 4 = false) : Calls Try.prog 24 #[.int .i64 n, .func (.func g) #[] lb] w fun e w' => e = .returned (.tuple #[.int .i64 0, .int .i64 2]) ∧ Below w.heap.size w w' := by
  have hth := Lib.hid (fun w => there_any n w)
  rw [hk] at hth
  clear hk
  go_enter Try.func24, Try.ntmps24
  go_wp2_with fail
  refine wp_scope_jump 1 fun R hR hG => ?_
  go_wp2_with fail
  refine (hth.out _).mono ?_
  rintro e w1 ⟨rfl, hb1⟩
  have hz := hb1.size
  simp at hz
  go_wp2_with fail
  refine wp_goto (hG.out _ _ _ _ _ rfl ?_)
  go_wp2
  refine hR.out _ _ _ _ (by simp) ?_
  go_ret2
  exact ⟨rfl, (below1 _ _).trans (hb1.mono (by simp))⟩
theorem told_yes (k : Nat) (g : Nat) (lb : Array Value) (x : Int) (w : World) (hk : k < 4) (eg : ∀ args w, (callFunc g args).run Try.prog w = .ok (.enter g args) w)
    (hg : ∀ W, Below w.heap.size w W → Calls Try.prog g (#[tn k] ++ lb) W fun e w' => e = .returned (.int .i64 x) ∧ Below W.heap.size W w') :
    Calls Try.prog 24 #[.int .i64 (k : Int), .func (.func g) #[] lb] w fun e w' => e = .returned (.tuple #[.int .i64 x, .int .i64 0]) ∧ Below w.heap.size w w' := by
  have hth := Lib.hid (fun w => there_any (k : Int) w)
  rw [show ((4 : Int)) = ((4 : Nat) : Int) from rfl, isB_yes hk] at hth
  have hg := Lib.hid hg
  clear hk
  go_enter Try.func24, Try.ntmps24
  go_wp2_with fail
  refine wp_scope_jump 1 fun R hR hG => ?_
  go_wp2_with fail
  refine (hth.out _).mono ?_
  rintro e w1 ⟨rfl, hb1⟩
  have hB1 : Below w.heap.size w w1 := (below1 _ _).trans (hb1.mono (by simp))
  have c0 : w1.cell? ⟨w.heap.size, 0, none⟩ = some (.int .i64 (k : Int)) := (hb1.cell (p := ⟨w.heap.size, 0, none⟩) (by simp)).trans (cell_alloc_new _ _ _ _)
  go_wp2_with fail
  refine (hg.out _ hB1).mono ?_
  rintro e w2 ⟨rfl, hb2⟩
  go_wp2
  refine hR.out _ _ _ _ (by simp) ?_
  go_ret2
  exact ⟨rfl, hB1.trans (hb2.mono hB1.size)⟩
end Go.Proofs.Ytkfljominljliaa
