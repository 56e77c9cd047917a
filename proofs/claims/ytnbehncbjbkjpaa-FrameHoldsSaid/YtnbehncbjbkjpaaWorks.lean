import Derived.Test.YtnbehncbjbkjpaaRun
namespace Go.Proofs.Ytnbehncbjbkjpaa
open Go.RowKit Go.Shelf Go.Maps Go.Sort
attribute [local go_sem] Oper.semAt_some

/- THE CHAPTER's ROWS. -/

def q1 : Pl := reserveP (newP 3) 1 2
def q2 : Pl := takeP q1 1
def q3 : Pl := takeP q2 1
def q4 : Pl := writeP q3 0 255 [9]
def q5 : Pl := giveP q4 0
def q6 : Pl := takeP q5 1
structure Seven (Q1 Q2 Q3 Q4 Q5 Q6 : Pl) : Prop where
  new : ∀ w, Calls Try.prog 6 #[.int .i64 3] w fun e w' => ∃ b, e = .returned (.tuple #[bx b, .int .i64 0]) ∧ Run w b (newP 3) w'
  r1 : ∀ w b W, Run w b (newP 3) W → Calls Try.prog 8 #[bx b, .int .i64 1, .int .i64 2] W fun e w' => e = .returned (.int .i64 0) ∧ Run w b Q1 w'
  r2 : ∀ w b W, Run w b Q1 W → Calls Try.prog 8 #[bx b, .int .i64 2, .int .i64 2] W fun e w' => e = .returned (.int .i64 170) ∧ Run w b Q1 w'
  t1 : ∀ w b W, Run w b Q1 W → Calls Try.prog 9 #[bx b, .int .i64 1] W fun e w' => e = .returned (.tuple #[.int .i64 0, .int .i64 0]) ∧ Run w b Q2 w'
  t2 : ∀ w b W, Run w b Q2 W → Calls Try.prog 9 #[bx b, .int .i64 1] W fun e w' => e = .returned (.tuple #[.int .i64 1, .int .i64 0]) ∧ Run w b Q3 w'
  t3 : ∀ w b W, Run w b Q3 W → Calls Try.prog 9 #[bx b, .int .i64 1] W fun e w' => e = .returned (.tuple #[.int .i64 0, .int .i64 171]) ∧ Run w b Q3 w'
  t4 : ∀ w b W, Run w b Q3 W → Calls Try.prog 9 #[bx b, .int .i64 2] W fun e w' => e = .returned (.tuple #[.int .i64 0, .int .i64 171]) ∧ Run w b Q3 w'
  w1 : ∀ w b W g, Run w b Q3 W → W.heap.size = g → Calls Try.prog 13 #[bx b, .int .i64 0, .int .i64 255, .slice (some ⟨g, 0, none⟩) 1 1] (W.alloc (.cells #[.int .u8 9] 5)) fun e w' => e = .returned (.int .i64 0) ∧ Run w b Q4 w'
  w2 : ∀ w b W g, Run w b Q4 W → W.heap.size = g → Calls Try.prog 13 #[bx b, .int .i64 0, .int .i64 255, .slice (some ⟨g, 0, none⟩) 2 2] (W.alloc (.cells #[.int .u8 9, .int .u8 9] 5)) fun e w' => e = .returned (.int .i64 4) ∧ Run w b Q4 w'
  g1 : ∀ w b W, Run w b Q4 W → Calls Try.prog 12 #[bx b, .int .i64 0] W fun e w' => e = .returned (.int .i64 0) ∧ Run w b Q5 w'
  t5 : ∀ w b W, Run w b Q5 W → Calls Try.prog 9 #[bx b, .int .i64 1] W fun e w' => e = .returned (.tuple #[.int .i64 0, .int .i64 0]) ∧ Run w b Q6 w'
  d1 : ∀ w b W, Run w b Q6 W → Calls Try.prog 15 #[bx b, .int .i64 0, .int .i64 255, .int .i64 1] W fun e w' => ∃ A c, e = .returned (.tuple #[.slice A 1 c, .int .i64 0]) ∧ (convert 36 9 (.slice A 1 c)).run Try.prog w' = .ok (.string ⟨#[0]⟩) w' ∧ Run w b Q6 w'
  r3 : ∀ w b W, Run w b Q6 W → Calls Try.prog 8 #[bx b, .int .i64 1, .int .i64 1] W fun e w' => e = .returned (.int .i64 172) ∧ Run w b Q6 w'

theorem run_to {w : World} {b : Nat} {p p' : Pl} {e e' : Ending} {w' : World} (h : e = e' ∧ Run w b p w') (hp : p = p') {x : Ending} (he : e' = x) : e = x ∧ Run w b p' w' := ⟨h.1.trans he, hp ▸ h.2⟩
theorem takeP_same {p : Pl} {o : Int} (h : takeE p o ≠ 0) : takeP p o = p := by unfold takeP; rw [if_neg h]
theorem reserveP_same {p : Pl} {o m : Int} (h : reserveE p o m ≠ 0) : reserveP p o m = p := by unfold reserveP; rw [if_neg h]
theorem writeP_same {p : Pl} {i a : Int} {l : List UInt8} (h : reachE p i a l.length ≠ 0) : writeP p i a l = p := by unfold writeP; rw [if_neg h]
theorem k0 : reserveE (newP 3) 1 2 = 0 := by kernel_rfl
theorem k1 : reserveE q1 2 2 = 170 := by kernel_rfl
theorem k2 : takeE q1 1 = 0 := by kernel_rfl
theorem k2i : takeI q1 1 = 0 := by kernel_rfl
theorem k3 : takeE q2 1 = 0 := by kernel_rfl
theorem k3i : takeI q2 1 = 1 := by kernel_rfl
theorem k4 : takeE q3 1 = 171 := by kernel_rfl
theorem k5 : takeE q3 2 = 171 := by kernel_rfl
theorem k6 : reachE q3 0 255 1 = 0 := by kernel_rfl
theorem k7 : reachE q4 0 255 2 = 4 := by kernel_rfl
theorem k8 : giveE q4 0 = 0 := by kernel_rfl
theorem k9 : takeE q5 1 = 0 := by kernel_rfl
theorem k9i : takeI q5 1 = 0 := by kernel_rfl
theorem k10 : reachE q6 0 255 1 = 0 := by kernel_rfl
theorem k10r : readP q6 0 255 1 = [0] := by kernel_rfl
theorem k11 : reserveE q6 1 1 = 172 := by kernel_rfl
theorem no_take {p : Pl} {o : Int} (h : takeE p o ≠ 0) : takeI p o = 0 := by unfold takeI; rw [if_neg h]
theorem seven : Seven q1 q2 q3 q4 q5 q6 where
  new w := Run.new 3 w (by omega)
  r1 w b W h := (h.reserve 1 2 (by omega)).mono fun _ _ h => run_to h rfl (by rw [k0]; rfl)
  r2 w b W h := (h.reserve 2 2 (by omega)).mono fun _ _ h => run_to h (reserveP_same (by rw [k1]; decide)) (by rw [k1]; rfl)
  t1 w b W h := (h.take 1).mono fun _ _ h => run_to h rfl (by rw [k2, k2i]; rfl)
  t2 w b W h := (h.take 1).mono fun _ _ h => run_to h rfl (by rw [k3, k3i]; rfl)
  t3 w b W h := (h.take 1).mono fun _ _ h => run_to h (takeP_same (by rw [k4]; decide)) (by rw [no_take (by rw [k4]; decide), k4]; rfl)
  t4 w b W h := (h.take 2).mono fun _ _ h => run_to h (takeP_same (by rw [k5]; decide)) (by rw [no_take (by rw [k5]; decide), k5]; rfl)
  w1 w b W g h hg := ((h.alloc _).write 0 255 (by omega) (by omega) (some ⟨g, 0, none⟩) 1 1 [9] rfl (by rw [World.size_alloc, hg]; exact sees_at W [9] 5 hg)).mono fun _ _ h => run_to h rfl (by rw [show (([9] : List UInt8).length : Int) = 1 from rfl, k6]; rfl)
  w2 w b W g h hg := ((h.alloc _).write 0 255 (by omega) (by omega) (some ⟨g, 0, none⟩) 2 2 [9, 9] rfl (by rw [World.size_alloc, hg]; exact sees_at W [9, 9] 5 hg)).mono fun _ _ h => run_to h (writeP_same (by rw [show (([9, 9] : List UInt8).length : Int) = 2 from rfl, k7]; decide)) (by rw [show (([9, 9] : List UInt8).length : Int) = 2 from rfl, k7]; rfl)
  g1 w b W h := (h.give 0 (by omega)).mono fun _ _ h => run_to h rfl (by rw [k8]; rfl)
  t5 w b W h := (h.take 1).mono fun _ _ h => run_to h rfl (by rw [k9, k9i]; rfl)
  d1 w b W h := (h.read 0 255 1 (by omega) (by omega)).mono fun _ w' h => by
    rw [k10r, k10] at h
    obtain ⟨A, c, h1, h2, h3, h4, h5⟩ := h
    exact ⟨A, c, h1, run_conv_sees w' Try.underlying36 Try.underlying5 Try.underlying9 rfl (Sees.of_own h3), h5⟩
  r3 w b W h := (h.reserve 1 1 (by omega)).mono fun _ _ h => run_to h (reserveP_same (by rw [k11]; decide)) (by rw [k11]; rfl)

set_option maxRecDepth 100000 in
set_option maxHeartbeats 4000000 in
theorem works_any (w : World) : Calls Try.prog 5 #[] w fun e w' => e = .returned (.bool true) ∧ Below w.heap.size w w' := by
  have HS : ∃ Q1 Q2 Q3 Q4 Q5 Q6, Seven Q1 Q2 Q3 Q4 Q5 Q6 := ⟨_, _, _, _, _, _, seven⟩
  obtain ⟨Q1, Q2, Q3, Q4, Q5, Q6, S⟩ := HS
  have H := Lib.hid S
  have hn := Lib.hid (fun n w => num_any n w)
  clear S
  go_enter Try.func5, Try.ntmps5
  go_wp2_with fail
  refine (H.out.new _).mono ?_
  rintro e w1 ⟨b, rfl, R1⟩
  go_wp2_with fail
  refine (H.out.r1 _ _ _ R1).mono ?_
  rintro e w2 ⟨rfl, R2⟩
  clear R1
  go_wp2_with fail
  refine (H.out.r2 _ _ _ R2).mono ?_
  rintro e w3 ⟨rfl, R3⟩
  clear R2
  go_wp2_with fail
  refine (H.out.t1 _ _ _ R3).mono ?_
  rintro e w4 ⟨rfl, R4⟩
  clear R3
  go_wp2_with fail
  refine (H.out.t2 _ _ _ R4).mono ?_
  rintro e w5 ⟨rfl, R5⟩
  clear R4
  go_wp2_with fail
  refine (H.out.t3 _ _ _ R5).mono ?_
  rintro e w6 ⟨rfl, R6⟩
  clear R5
  go_wp2_with fail
  refine (H.out.t4 _ _ _ R6).mono ?_
  rintro e w7 ⟨rfl, R7⟩
  clear R6
  go_wp2_with fail
  refine (H.out.w1 _ _ _ _ R7 rfl).mono ?_
  rintro e w8 ⟨rfl, R8⟩
  clear R7
  go_wp2_with fail
  refine (H.out.w2 _ _ _ _ R8 rfl).mono ?_
  rintro e w9 ⟨rfl, R9⟩
  clear R8
  go_wp2_with fail
  refine (H.out.g1 _ _ _ R9).mono ?_
  rintro e w10 ⟨rfl, R10⟩
  clear R9
  go_wp2_with fail
  refine (H.out.t5 _ _ _ R10).mono ?_
  rintro e w11 ⟨rfl, R11⟩
  clear R10
  go_wp2_with fail
  refine (H.out.d1 _ _ _ R11).mono ?_
  rintro e w12 ⟨A, c, rfl, hcv, R12⟩
  clear R11
  go_wp2_with (first
    | (go_at_call 7; refine (hn.out _ _).mono ?_; rintro e wn ⟨rfl, rfl⟩)
    | (go_at_call 8; refine (H.out.r3 _ _ _ R12).mono ?_; rintro e w13 ⟨rfl, R13⟩))
  go_ret
  exact ⟨rfl, R13.below⟩
end Go.Proofs.Ytnbehncbjbkjpaa
