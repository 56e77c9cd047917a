import Derived.Test.YtmocdokikcbjeaaRun
namespace Go.Proofs.Ytmocdokikcbjeaa
open Go.RowKit Go.Shelf Go.Maps Go.Sort
attribute [local go_sem] Oper.semAt_some

/- THE CHAPTER's ROWS. -/

def q1 : Tb := mapT [] 5 (1, 1, 0)
def q2 : Tb := protT q1 5 2
structure Ten (Q1 Q2 : Tb) : Prop where
  m1 : ∀ w b W, Run w b [] W → Calls Try.prog 18 #[bx b, .int .i64 5, .agg #[.int .i64 1, .int .i64 1, .int .i64 0]] W fun e w' => e = .returned (.int .i64 0) ∧ Run w b Q1 w'
  m2 : ∀ w b W, Run w b Q1 W → Calls Try.prog 18 #[bx b, .int .i64 5, .agg #[.int .i64 1, .int .i64 0, .int .i64 0]] W fun e w' => e = .returned (.int .i64 180) ∧ Run w b Q1 w'
  m3 : ∀ w b W, Run w b Q1 W → Calls Try.prog 18 #[bx b, .int .i64 6, .agg #[.int .i64 1, .int .i64 0, .int .i64 0]] W fun e w' => e = .returned (.int .i64 181) ∧ Run w b Q1 w'
  p1 : ∀ w b W, Run w b Q1 W → Calls Try.prog 22 #[bx b, .int .i64 5, .int .i64 2] W fun e w' => e = .returned (.tuple #[.int .i64 1, .int .i64 0]) ∧ Run w b Q2 w'
  g1 : ∀ w b W, Run w b Q2 W → Calls Try.prog 27 #[bx b, .int .i64 5] W fun e w' => e = .returned (.tuple #[.agg #[.int .i64 1, .int .i64 2, .int .i64 0], .bool true]) ∧ Run w b Q2 w'
  f1 : ∀ w b W X, RunX w b Q2 X W → Calls Try.prog 26 #[bx b, .int .i64 4, .int .i64 2] W fun e w' => e = .returned (.tuple #[.bool false, .int .i64 0]) ∧ RunX w b Q2 X w' ∧ ∀ k, X k → w'.heap[k]? = W.heap[k]?
  f2 : ∀ w b W X, RunX w b Q2 X W → Calls Try.prog 26 #[bx b, .int .i64 65535, .int .i64 2] W fun e w' => e = .returned (.tuple #[.bool false, .int .i64 4]) ∧ RunX w b Q2 X w' ∧ ∀ k, X k → w'.heap[k]? = W.heap[k]?
  n1 : ∀ w b W X, RunX w b Q2 X W → Calls Try.prog 19 #[bx b, .int .i64 4, .int .i64 2] W fun e w' => e = .returned (.tuple #[.int .i64 6, .bool true]) ∧ RunX w b Q2 X w' ∧ ∀ k, X k → w'.heap[k]? = W.heap[k]?
  u1 : ∀ w b W X, RunX w b Q2 X W → Calls Try.prog 21 #[bx b, .int .i64 6] W fun e w' => e = .returned (.tuple #[.agg #[.int .i64 0, .int .i64 0, .int .i64 0], .int .i64 5]) ∧ RunX w b Q2 X w' ∧ ∀ k, X k → w'.heap[k]? = W.heap[k]?
  m4 : ∀ w b W, Run w b Q2 W → Calls Try.prog 18 #[bx b, .int .i64 1, .agg #[.int .i64 64, .int .i64 0, .int .i64 0]] W fun e w' => e = .returned (.int .i64 2) ∧ Run w b Q2 w'

theorem run_to {w : World} {b : Nat} {p p' : Tb} {e e' : Ending} {w' : World} (h : e = e' ∧ Run w b p w') (hp : p = p') {x : Ending} (he : e' = x) : e = x ∧ Run w b p' w' := ⟨h.1.trans he, hp ▸ h.2⟩
theorem runx_to {w W : World} {b : Nat} {X : Nat → Prop} {p p' : Tb} {e e' : Ending} {w' : World} (h : e = e' ∧ RunX w b p X w' ∧ ∀ k, X k → w'.heap[k]? = W.heap[k]?) (hp : p = p') {x : Ending} (he : e' = x) : e = x ∧ RunX w b p' X w' ∧ ∀ k, X k → w'.heap[k]? = W.heap[k]? := ⟨h.1.trans he, hp ▸ h.2.1, h.2.2⟩
theorem mapT_same {l : Tb} {p : Int} {x : En} (h : mapE l p x ≠ 0) : mapT l p x = l := by unfold mapT; rw [if_neg h]
theorem unmapT_same {l : Tb} {p : Int} (h : unmapE l p ≠ 0) : unmapT l p = l := by unfold unmapT; rw [if_neg h]
theorem k1 : mapE [] 5 (1, 1, 0) = 0 := by kernel_rfl
theorem k2 : mapE q1 5 (1, 0, 0) = 180 := by kernel_rfl
theorem k3 : mapE q1 6 (1, 0, 0) = 181 := by kernel_rfl
theorem k4 : protE q1 5 2 = 0 := by kernel_rfl
theorem k4m : protM q1 5 2 = 1 := by kernel_rfl
theorem k5 : getX q2 5 = (1, 2, 0) := by kernel_rfl
theorem k5s : (look q2 5).isSome = true := by kernel_rfl
theorem k6 : freeE 4 2 = 0 := by kernel_rfl
theorem k6q : freeQ q2 4 2 = false := by kernel_rfl
theorem k7 : freeE 65535 2 = 4 := by kernel_rfl
theorem k7q : freeQ q2 65535 2 = false := by kernel_rfl
theorem k8 : nextI q2 4 2 = 6 := by kernel_rfl
theorem k9 : unmapE q2 6 = 5 := by kernel_rfl
theorem k9x : unmapX q2 6 = (0, 0, 0) := by kernel_rfl
theorem k10 : mapE q2 1 (64, 0, 0) = 2 := by kernel_rfl
theorem en64 {a b c : Int} (h1 : 0 ≤ a ∧ a ≤ 1000) (h2 : 0 ≤ b ∧ b ≤ 1000) (h3 : 0 ≤ c ∧ c ≤ 1000) : En64 (a, b, c) := by
  unfold En64 I64
  refine ⟨?_, ?_, ?_⟩ <;> dsimp only <;> omega
theorem ten : Ten q1 q2 where
  m1 w b W h := (h.map 5 (1, 1, 0) (en64 (by omega) (by omega) (by omega))).mono fun _ _ h => run_to h rfl (by rw [k1]; rfl)
  m2 w b W h := (h.map 5 (1, 0, 0) (en64 (by omega) (by omega) (by omega))).mono fun _ _ h => run_to h (mapT_same (by rw [k2]; decide)) (by rw [k2]; rfl)
  m3 w b W h := (h.map 6 (1, 0, 0) (en64 (by omega) (by omega) (by omega))).mono fun _ _ h => run_to h (mapT_same (by rw [k3]; decide)) (by rw [k3]; rfl)
  p1 w b W h := (h.prot 5 2).mono fun _ _ h => run_to h rfl (by rw [k4, k4m]; rfl)
  g1 w b W h := (h.get 5 (by unfold I64; omega)).mono fun _ _ h => run_to h rfl (by rw [k5, k5s]; rfl)
  f1 w b W X h := (h.free 4 2).mono fun _ _ h => runx_to h rfl (by rw [k6, k6q]; rfl)
  f2 w b W X h := (h.free 65535 2).mono fun _ _ h => runx_to h rfl (by rw [k7, k7q]; rfl)
  n1 w b W X h := (h.nxt 4 2).mono fun _ _ h => runx_to h rfl (by rw [k8]; rfl)
  u1 w b W X h := (h.unmap 6).mono fun _ _ h => runx_to h (unmapT_same (by rw [k9]; decide)) (by rw [k9, k9x]; rfl)
  m4 w b W h := (h.map 1 (64, 0, 0) (en64 (by omega) (by omega) (by omega))).mono fun _ _ h => run_to h (mapT_same (by rw [k10]; decide)) (by rw [k10]; rfl)

set_option maxRecDepth 100000 in
set_option maxHeartbeats 4000000 in
theorem works_any (w : World) : Calls Try.prog 8 #[] w fun e w' => e = .returned (.bool true) ∧ Below w.heap.size w w' := by
  have HS : ∃ Q1 Q2, Ten Q1 Q2 := ⟨_, _, ten⟩
  obtain ⟨Q1, Q2, S⟩ := HS
  have H := Lib.hid S
  have hn := Lib.hid (fun n w => num_any n w)
  clear S
  go_enter Try.func8, Try.ntmps8
  go_wp2_with fail
  refine (Run.new _).mono ?_
  rintro e w1 ⟨b, rfl, R1⟩
  go_wp2_with fail
  refine (H.out.m1 _ _ _ R1).mono ?_
  rintro e w2 ⟨rfl, R2⟩
  clear R1
  go_wp2_with fail
  refine (H.out.m2 _ _ _ R2).mono ?_
  rintro e w3 ⟨rfl, R3⟩
  clear R2
  go_wp2_with fail
  refine (H.out.m3 _ _ _ R3).mono ?_
  rintro e w4 ⟨rfl, R4⟩
  clear R3
  go_wp2_with fail
  refine (H.out.p1 _ _ _ R4).mono ?_
  rintro e w5 ⟨rfl, R5⟩
  clear R4
  go_wp2_with fail
  refine (H.out.g1 _ _ _ R5).mono ?_
  rintro e w6 ⟨rfl, R6⟩
  clear R5
  have RX6 := (RunX.of R6).add (.cells #[.int .i64 1, .int .i64 2, .int .i64 0] 34)
  have row6 := Row.new w6 34 [.int .i64 1, .int .i64 2, .int .i64 0]
  clear R6
  go_wp2_with fail
  refine (H.out.f1 _ _ _ _ RX6).mono ?_
  rintro e w7 ⟨rfl, R7, s7⟩
  have row7 := row6.same (s7 _ (.inr rfl))
  clear RX6 row6 s7
  go_wp2_with fail
  refine (H.out.f2 _ _ _ _ R7).mono ?_
  rintro e w8 ⟨rfl, R8, s8⟩
  have row8 := row7.same (s8 _ (.inr rfl))
  clear R7 row7 s8
  go_wp2_with fail
  refine (H.out.n1 _ _ _ _ R8).mono ?_
  rintro e w9 ⟨rfl, R9, s9⟩
  have row9 := row8.same (s9 _ (.inr rfl))
  clear R8 row8 s9
  go_wp2_with fail
  refine (H.out.u1 _ _ _ _ R9).mono ?_
  rintro e w10 ⟨rfl, R10, s10⟩
  have row10 := row9.same (s10 _ (.inr rfl))
  clear R9 row9 s10
  have R11 := R10.run.alloc (.cells #[.int .i64 0, .int .i64 0, .int .i64 0] 34)
  have row11 := row10.below (below1 w10 (.cells #[.int .i64 0, .int .i64 0, .int .i64 0] 34))
  have c0 := row11.cell 0
  have c1 := row11.cell 1
  have c2 := row11.cell 2
  simp only [List.getElem?_cons_zero, List.getElem?_cons_succ] at c0 c1 c2
  clear R10 row10 row11
  go_wp2_with (first
    | (go_at_call 24; refine (hn.out _ _).mono ?_; rintro e wn ⟨rfl, rfl⟩)
    | (go_at_call 18; refine (H.out.m4 _ _ _ R11).mono ?_; rintro e w13 ⟨rfl, R13⟩))
  go_ret
  exact ⟨rfl, R13.below⟩
end Go.Proofs.Ytmocdokikcbjeaa
