import Derived.Test.YtnbehncbjbkjpaaWorks
namespace Go.Proofs.Ytnbehncbjbkjpaa
open Go.RowKit Go.Shelf Go.Maps Go.Sort
attribute [local go_sem] Oper.semAt_some

/- FRAMEBOUNDS: THE GREATEST NUMBER OF FRAMES, AND ONE MORE. -/

section
variable (N : Nat)
def b1 : Pl := reserveP (newP N) 63 (N : Int)
def b2 : Pl := takeP (b1 N) 63
theorem new_used : used (newP N).fr = 0 := by
  unfold used newP
  rw [List.countP_eq_zero]
  intro x hx
  rw [List.eq_of_mem_replicate hx]
  decide
theorem new_taken (o : Nat) : taken (newP N).fr o = 0 := by
  have h1 := taken_used (newP N).fr o
  rw [new_used] at h1
  omega
theorem new_left (o : Nat) : leftN (newP N) o = 0 := by
  unfold leftN newP
  rw [List.getElem?_replicate]
  split <;> rfl
theorem new_sum : (newP N).left.sum = 0 := by simp [newP]
theorem new_len : (newP N).fr.length = N := by simp [newP]
variable (h0 : 0 < N) (hN : N ≤ 16384)
include hN
theorem new_room : (newP N).room = N := by
  have := (newP_ok hN).room_eq
  rw [new_sum, new_used, new_len] at this
  omega
theorem b1_E : reserveE (newP N) 63 (N : Int) = 0 := by
  unfold reserveE resN
  rw [if_neg (by simp [ownerB]), show (63 : Int).toNat = 63 from rfl, new_taken, new_left, new_room N hN]
  rw [if_neg (by omega), if_neg (by omega)]
theorem b1_eq : b1 N = { fr := (newP N).fr, left := (newP N).left.set 63 N } := by
  unfold b1 reserveP
  rw [if_pos (b1_E N hN), show (63 : Int).toNat = 63 from rfl, new_taken]
  simp
theorem b1_ok : (b1 N).ok := reserve_ok (newP_ok hN) _ _
theorem b1_left : leftN (b1 N) 63 = N ∧ leftN (b1 N) 0 = 0 := by
  rw [b1_eq N hN]
  exact ⟨rfl, rfl⟩
theorem b1_sum : (b1 N).left.sum = N := by
  rw [b1_eq N hN]
  have := sum_set (newP N).left 63 N 0 rfl
  rw [new_sum] at this
  show ((newP N).left.set 63 N).sum = N
  omega
theorem b1_room : (b1 N).room = 0 := by
  have := (b1_ok N hN).room_eq
  rw [b1_sum N hN] at this
  rw [show (b1 N).fr = (newP N).fr by rw [b1_eq N hN], new_used, new_len] at this
  omega
theorem b1_E2 : reserveE (b1 N) 0 1 = 170 := by
  unfold reserveE resN
  rw [if_neg (by simp [ownerB]), show (0 : Int).toNat = 0 from rfl, show (b1 N).fr = (newP N).fr by rw [b1_eq N hN], new_taken, (b1_left N hN).2, b1_room N hN]
  rw [if_neg (by omega), if_pos (by omega)]
include h0
theorem b2_E : takeE (b1 N) 63 = 0 ∧ takeI (b1 N) 63 = 0 := by
  have h1 : takeE (b1 N) 63 = 0 := by
    unfold takeE
    rw [if_neg (by simp [ownerB]), show (63 : Int).toNat = 63 from rfl, (b1_left N hN).1, if_neg (by omega)]
  refine ⟨h1, ?_⟩
  unfold takeI
  rw [if_pos h1, show (b1 N).fr = (newP N).fr by rw [b1_eq N hN]]
  obtain ⟨k, rfl⟩ : ∃ k, N = k + 1 := ⟨N - 1, by omega⟩
  rfl
theorem b2_room : (b2 N).room = 0 := by
  obtain ⟨h1, h2⟩ := b2_E N h0 hN
  have hok := b1_ok N hN
  have hr := (take_ok hok 63).room_eq
  have hs := sum_set (b1 N).left 63 (leftN (b1 N) 63 - 1) _ (hok.left_get (by omega))
  obtain ⟨_, _, _, hf, _⟩ := takeE_left hok h1
  have hc := countP_set Option.isSome (b1 N).fr (takeI (b1 N) 63) (some (63, zero256)) none (free1_spec _ _ hf).1
  have hP : takeP (b1 N) 63 = { fr := (b1 N).fr.set (takeI (b1 N) 63) (some (63, zero256)), left := (b1 N).left.set 63 (leftN (b1 N) 63 - 1) } := by unfold takeP; rw [if_pos h1]; rfl
  have hrm := hok.room_eq
  rw [b1_room N hN] at hrm
  unfold b2
  rw [hP] at hr ⊢
  obtain ⟨A, hA⟩ : ∃ A, A = (b1 N).fr.set (takeI (b1 N) 63) (some (63, zero256)) := ⟨_, rfl⟩
  obtain ⟨B, hB⟩ : ∃ B, B = (b1 N).left.set 63 (leftN (b1 N) 63 - 1) := ⟨_, rfl⟩
  have hAl : A.length = (b1 N).fr.length := by rw [hA, List.length_set]
  rw [← hA] at hc hr ⊢
  rw [← hB] at hs hr ⊢
  have hr2 : ({ fr := A, left := B } : Pl).room + B.sum + A.countP Option.isSome = A.length := hr
  have hrm2 : 0 + (b1 N).left.sum + (b1 N).fr.countP Option.isSome = (b1 N).fr.length := hrm
  have hc2 : A.countP Option.isSome = (b1 N).fr.countP Option.isSome + 1 := by simpa using hc
  have := (b1_left N hN).1
  omega
end

structure Four (N : Nat) (B0 B1 B2 : Pl) : Prop where
  new : ∀ w, Calls Try.prog 6 #[.int .i64 (N : Int)] w fun e w' => ∃ b, e = .returned (.tuple #[bx b, .int .i64 0]) ∧ Run w b B0 w'
  r1 : ∀ w b W, Run w b B0 W → Calls Try.prog 8 #[bx b, .int .i64 63, .int .i64 (N : Int)] W fun e w' => e = .returned (.int .i64 0) ∧ Run w b B1 w'
  r2 : ∀ w b W, Run w b B1 W → Calls Try.prog 8 #[bx b, .int .i64 0, .int .i64 1] W fun e w' => e = .returned (.int .i64 170) ∧ Run w b B1 w'
  t1 : ∀ w b W, Run w b B1 W → Calls Try.prog 9 #[bx b, .int .i64 63] W fun e w' => e = .returned (.tuple #[.int .i64 0, .int .i64 0]) ∧ Run w b B2 w'
  m1 : ∀ w b W, Run w b B2 W → Calls Try.prog 10 #[bx b] W fun e w' => e = .returned (.int .i64 0) ∧ Run w b B2 w'
theorem four (N : Nat) (h0 : 0 < N) (hN : N ≤ 16384) : Four N (newP N) (b1 N) (b2 N) where
  new w := Run.new N w hN
  r1 w b W h := (h.reserve 63 (N : Int) (by omega)).mono fun _ _ h => run_to h rfl (by rw [b1_E N hN]; rfl)
  r2 w b W h := (h.reserve 0 1 (by omega)).mono fun _ _ h => run_to h (reserveP_same (by rw [b1_E2 N hN]; decide)) (by rw [b1_E2 N hN]; rfl)
  t1 w b W h := (h.take 63).mono fun _ _ h => run_to h rfl (by rw [(b2_E N h0 hN).1, (b2_E N h0 hN).2]; rfl)
  m1 w b W h := h.room.mono fun _ _ h => run_to h rfl (by rw [b2_room N h0 hN]; rfl)

set_option maxRecDepth 100000 in
set_option maxHeartbeats 2000000 in
theorem bounds_in (more : Int) (N : Nat) (h0 : 0 < N) (hN : N ≤ 16384) (hm : more = (N : Int) - 16384) (h1 : -1 ≤ more) (w : World) : Calls Try.prog 3 #[.int .i64 more] w fun e w' => e = .returned (.bool true) ∧ Below w.heap.size w w' := by
  have HS : ∃ B0 B1 B2, Four N B0 B1 B2 := ⟨_, _, _, four N h0 hN⟩
  obtain ⟨B0, B1, B2, S⟩ := HS
  have H := Lib.hid S
  have hn := Lib.hid (fun n w => num_any n w)
  have hwk := Lib.hid (fun w => works_any w)
  have e0 : decide (more < -1) = false := decide_eq_false (by omega)
  have e1 : decide (1 < more) = false := decide_eq_false (by omega)
  have e2 : decide (0 < more) = false := decide_eq_false (by omega)
  have ew : IntKind.i64.wrap (16384 + more) = (N : Int) := by rw [wrapI _ (by omega) (by omega)]; omega
  clear S h0 hN hm h1
  go_enter Try.func3, Try.ntmps3
  go_wp2_with fail
  refine (H.out.new _).mono ?_
  rintro e w1 ⟨b, rfl, R1⟩
  go_wp2_with fail
  refine (H.out.r1 _ _ _ R1).mono ?_
  rintro e w2 ⟨rfl, R2⟩
  clear R1
  go_wp2_with fail
  refine (H.out.r2 _ _ _ R2).mono ?_
  rintro e w3 ⟨rfl, R3⟩
  clear R2
  go_wp2_with fail
  refine (H.out.t1 _ _ _ R3).mono ?_
  rintro e w4 ⟨rfl, R4⟩
  clear R3
  go_wp2_with (first
    | (go_at_call 7; refine (hn.out _ _).mono ?_; rintro e wn ⟨rfl, rfl⟩)
    | (go_at_call 10; refine (H.out.m1 _ _ _ R4).mono ?_; rintro e w5 ⟨rfl, R5⟩)
    | (go_at_call 5; refine (hwk.out _).mono ?_; rintro e w6 ⟨rfl, hb6⟩))
  go_ret
  exact ⟨rfl, (R5.more hb6).below⟩
set_option maxRecDepth 100000 in
set_option maxHeartbeats 1000000 in
theorem bounds_more (w : World) : Calls Try.prog 3 #[.int .i64 1] w fun e w' => e = .returned (.bool true) ∧ Below w.heap.size w w' := by
  have h1 := Lib.hid (new_no 16385 w (by omega))
  have hn := Lib.hid (fun n w => num_any n w)
  have hwk := Lib.hid (fun w => works_any w)
  go_enter Try.func3, Try.ntmps3
  go_wp2_with fail
  refine (h1.out).mono ?_
  rintro e w1 ⟨rfl, hb1⟩
  go_wp2_with (first
    | (go_at_call 7; refine (hn.out _ _).mono ?_; rintro e wn ⟨rfl, rfl⟩)
    | (go_at_call 5; refine (hwk.out _).mono ?_; rintro e w6 ⟨rfl, hb6⟩))
  go_ret
  exact ⟨rfl, below0 hb1 hb6⟩
set_option maxHeartbeats 1000000 in
theorem bounds_out (more : Int) (h : more < -1 ∨ 1 < more) (w : World) : Calls Try.prog 3 #[.int .i64 more] w fun e w' => e = .returned (.bool true) ∧ Below w.heap.size w w' := by
  have hwk := Lib.hid (fun w => works_any w)
  rcases Classical.em (more < -1) with h1 | h1
  · have e0 : decide (more < -1) = true := decide_eq_true h1
    clear h h1
    go_enter Try.func3, Try.ntmps3
    go_wp2_with (go_at_call 5; refine (hwk.out _).mono ?_; rintro e w6 ⟨rfl, hb6⟩)
    go_ret
    exact ⟨rfl, hb6⟩
  · have e0 : decide (more < -1) = false := decide_eq_false h1
    have e1 : decide (1 < more) = true := decide_eq_true (h.resolve_left h1)
    clear h h1
    go_enter Try.func3, Try.ntmps3
    go_wp2_with (go_at_call 5; refine (hwk.out _).mono ?_; rintro e w6 ⟨rfl, hb6⟩)
    go_ret
    exact ⟨rfl, hb6⟩
theorem frameBounds_any (more : Int) (w : World) : Calls Try.prog 3 #[.int .i64 more] w fun e w' => e = .returned (.bool true) ∧ Below w.heap.size w w' := by
  by_cases h : more < -1 ∨ 1 < more
  · exact bounds_out more h w
  · by_cases h1 : more = 1
    · rw [h1]
      exact bounds_more w
    · exact bounds_in more (16384 + more).toNat (by omega) (by omega) (by omega) (by omega) w
end Go.Proofs.Ytnbehncbjbkjpaa
