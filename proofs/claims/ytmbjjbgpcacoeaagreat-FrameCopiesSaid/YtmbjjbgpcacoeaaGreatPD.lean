import Derived.Test.YtmbjjbgpcacoeaaGreatPC
import Derived.Test.YtmbjjbgpcacoeaaGreatStr
import Derived.Test.YtmbjjbgpcacoeaaGreatGen
import Derived.Test.YtmbjjbgpcacoeaaGreatBaseIn
namespace Go.Proofs.YtmbjjbgpcacoeaaGreat
open Go.RowKit Go.Shelf Go.Maps Go.Sort

/- A POOL OF A LAW's OWN, CALL BY CALL. -/

/-- a pool at b, made since w0 -/
def Run (w0 : World) (b : Nat) (p : Pl) (w : World) : Prop := ∃ F, Has w b p F ∧ (∀ k, F k → w0.heap.size ≤ k) ∧ Below w0.heap.size w0 w
section
variable {w0 w w' : World} {b : Nat} {p : Pl}
theorem Run.below (h : Run w0 b p w) : Below w0.heap.size w0 w := by
  obtain ⟨F, h1, h2, h3⟩ := h
  exact h3
theorem Run.ok (h : Run w0 b p w) : p.ok := by
  obtain ⟨F, h1, h2, h3⟩ := h
  exact h1.ok
theorem Run.more (h : Run w0 b p w) (hb : Below w.heap.size w w') : Run w0 b p w' := by
  obtain ⟨F, h1, h2, h3⟩ := h
  exact ⟨F, h1.below hb, h2, below0 h3 hb⟩
theorem Run.alloc (h : Run w0 b p w) (o : Obj) : Run w0 b p (w.alloc o) := h.more (below1 w o)
theorem Run.drew (h : Run w0 b p w) : Run w0 b p w.drew := h.more (below_drewN (Below.refl _ _) 1)
theorem Run.next {F : Nat → Prop} {p' : Pl} (h2 : ∀ k, F k → w0.heap.size ≤ k) (h3 : Below w0.heap.size w0 w) (h : Next w b p' F w') : Run w0 b p' w' := by
  obtain ⟨F', g1, g2, g3⟩ := h
  exact ⟨F', g1, fun k hk => (g3 k hk).elim (h2 k) fun h => Nat.le_trans h3.size h, h3.trans (g2.below h2 h3.size)⟩
theorem Run.new (n : Nat) (w : World) (hn : n ≤ 16384) : Calls Tryz.prog 8 #[.int .i64 (n : Int)] w fun e w' => ∃ b, e = .returned (.tuple #[bx b, .int .i64 0]) ∧ Run w b (newP n) w' :=
  (new_yes n w hn).mono fun _ _ ⟨b, F, e1, e2, e3, e4⟩ => ⟨b, e1, F, e2, e3, e4⟩
theorem Run.reserve (h : Run w0 b p w) (o m : Int) (hm : m ≤ 9223372036854775807) : Calls Tryz.prog 33 #[bx b, .int .i64 o, .int .i64 m] w fun e w' => e = .returned (.int .i64 (reserveE p o m : Int)) ∧ Run w0 b (reserveP p o m) w' := by
  obtain ⟨F, h1, h2, h3⟩ := h
  by_cases hE : reserveE p o m = 0
  · have hob : 0 ≤ o ∧ 0 ≤ m := by
      unfold reserveE at hE
      split at hE
      · cases hE
      next h4 =>
        have h5 := Classical.not_not.1 h4
        simp only [ownerB, Bool.and_eq_true, decide_eq_true_eq] at h5
        exact ⟨h5.1.1, h5.2⟩
    obtain ⟨x, rfl⟩ : ∃ x : Nat, o = x := ⟨o.toNat, by omega⟩
    obtain ⟨y, rfl⟩ : ∃ y : Nat, m = y := ⟨m.toNat, by omega⟩
    rw [hE]
    exact (reserve_yes h1 x y (by omega) hE).mono fun _ _ ⟨e1, e2⟩ => ⟨e1, Run.next h2 h3 e2⟩
  · exact (reserve_no h1 o m hm hE).mono fun _ _ ⟨e1, e2⟩ => ⟨e1, Run.next h2 h3 e2⟩
theorem Run.take (h : Run w0 b p w) (o : Int) : Calls Tryz.prog 34 #[bx b, .int .i64 o] w fun e w' => e = .returned (.tuple #[.int .i64 (takeI p o : Int), .int .i64 (takeE p o : Int)]) ∧ Run w0 b (takeP p o) w' := by
  obtain ⟨F, h1, h2, h3⟩ := h
  by_cases hE : takeE p o = 0
  · obtain ⟨g1, _⟩ := takeE_left h1.ok hE
    obtain ⟨x, rfl⟩ : ∃ x : Nat, o = x := ⟨o.toNat, by omega⟩
    rw [hE]
    exact (take_yes h1 x hE).mono fun _ _ ⟨e1, e2⟩ => ⟨e1, Run.next h2 h3 e2⟩
  · exact (take_no h1 o hE).mono fun _ _ ⟨e1, e2⟩ => ⟨e1, Run.next h2 h3 e2⟩
theorem Run.give (h : Run w0 b p w) (i : Int) (hi : i ≤ 9223372036854775807) : Calls Tryz.prog 36 #[bx b, .int .i64 i] w fun e w' => e = .returned (.int .i64 (giveE p i : Int)) ∧ Run w0 b (giveP p i) w' := by
  obtain ⟨F, h1, h2, h3⟩ := h
  by_cases hE : giveE p i = 0
  · obtain ⟨g1, _⟩ := giveE_some hE
    obtain ⟨x, rfl⟩ : ∃ x : Nat, i = x := ⟨i.toNat, by omega⟩
    rw [hE]
    exact (give_yes h1 x (by omega) hE).mono fun _ _ ⟨e1, e2⟩ => ⟨e1, Run.next h2 h3 e2⟩
  · exact (give_no h1 i hi hE).mono fun _ _ ⟨e1, e2⟩ => ⟨e1, Run.next h2 h3 e2⟩
theorem Run.write (h : Run w0 b p w) (i a : Int) (hi : i ≤ 9223372036854775807) (ha : -9223372036854775808 ≤ a ∧ a ≤ 9223372036854775807) (S : Option Addr) (n c : Nat) (l : List UInt8) (hl : l.length = n) (hS : Sees w w.heap.size S (byt l)) :
    Calls Tryz.prog 35 #[bx b, .int .i64 i, .int .i64 a, .slice S n c] w fun e w' => e = .returned (.int .i64 (reachE p i a l.length : Int)) ∧ Run w0 b (writeP p i a l) w' := by
  obtain ⟨F, h1, h2, h3⟩ := h
  exact (write_any h1 i a hi ha S n c l hl hS).mono fun _ _ ⟨e1, e2⟩ => ⟨e1, Run.next h2 h3 e2⟩
theorem Run.read (h : Run w0 b p w) (i a m : Int) (hi : i ≤ 9223372036854775807) (ha : -9223372036854775808 ≤ a ∧ a ≤ 9223372036854775807) :
    Calls Tryz.prog 37 #[bx b, .int .i64 i, .int .i64 a, .int .i64 m] w fun e w' => ∃ A c, e = .returned (.tuple #[.slice A (readP p i a m).length c, .int .i64 (reachE p i a m : Int)]) ∧ (readP p i a m).length ≤ c ∧ w'.ownsRow w.heap.size 5 1 (.slice A (readP p i a m).length c) (readP p i a m).length (byt (readP p i a m)) ∧ Below w.heap.size w w' ∧ Run w0 b p w' := by
  obtain ⟨F, h1, h2, h3⟩ := h
  refine (read_any h1 i a m hi ha).mono ?_
  rintro e w' ⟨A, n, c, e1, rfl, e3, e4, e5⟩
  exact ⟨A, c, e1, e3, e4, e5, Run.more ⟨F, h1, h2, h3⟩ e5⟩
theorem Run.room (h : Run w0 b p w) : Calls Tryz.prog 55 #[bx b] w fun e w' => e = .returned (.int .i64 (p.room : Int)) ∧ Run w0 b p w' := by
  obtain ⟨F, h1, h2, h3⟩ := h
  exact (Room_any h1).mono fun _ _ ⟨e1, e2⟩ => ⟨e1, Run.more ⟨F, h1, h2, h3⟩ e2⟩
theorem ownerB_iff (o : Int) : ownerB o = true ↔ 0 ≤ o ∧ o < 64 := by simp [ownerB]
theorem Run.reserved (h : Run w0 b p w) (o : Int) : Calls Tryz.prog 52 #[bx b, .int .i64 o] w fun e w' => e = .returned (.tuple #[.int .i64 (if ownerB o then (resN p o.toNat : Int) else 0), .int .i64 (if ownerB o then (taken p.fr o.toNat : Int) else 0)]) ∧ Run w0 b p w' := by
  obtain ⟨F, h1, h2, h3⟩ := h
  cases ho : ownerB o
  · exact (Reserved_no h1 o ho).mono fun _ _ ⟨e1, e2⟩ => ⟨e1, e2 ▸ ⟨F, h1, h2, h3⟩⟩
  · have := (ownerB_iff o).1 ho
    obtain ⟨x, rfl⟩ : ∃ x : Nat, o = x := ⟨o.toNat, by omega⟩
    exact (Reserved_yes h1 x (by omega)).mono fun _ _ ⟨e1, e2⟩ => ⟨e1, Run.more ⟨F, h1, h2, h3⟩ e2⟩
end
end Go.Proofs.YtmbjjbgpcacoeaaGreat

namespace Go.Proofs.YtmbjjbgpcacoeaaGreat
open Go.RowKit Go.Shelf Go.Maps Go.Sort
attribute [local go_sem] Oper.semAt_some

/- THE CHAPTER's ROWS. -/

def q1 : Pl := reserveP (newP 3) 1 2
def q2 : Pl := takeP q1 1
def q3 : Pl := takeP q2 1
def q4 : Pl := writeP q3 0 255 [9]
def q5 : Pl := giveP q4 0
def q6 : Pl := takeP q5 1
structure Seven (Q1 Q2 Q3 Q4 Q5 Q6 : Pl) : Prop where
  new : ∀ w, Calls Tryz.prog 8 #[.int .i64 3] w fun e w' => ∃ b, e = .returned (.tuple #[bx b, .int .i64 0]) ∧ Run w b (newP 3) w'
  r1 : ∀ w b W, Run w b (newP 3) W → Calls Tryz.prog 33 #[bx b, .int .i64 1, .int .i64 2] W fun e w' => e = .returned (.int .i64 0) ∧ Run w b Q1 w'
  r2 : ∀ w b W, Run w b Q1 W → Calls Tryz.prog 33 #[bx b, .int .i64 2, .int .i64 2] W fun e w' => e = .returned (.int .i64 170) ∧ Run w b Q1 w'
  t1 : ∀ w b W, Run w b Q1 W → Calls Tryz.prog 34 #[bx b, .int .i64 1] W fun e w' => e = .returned (.tuple #[.int .i64 0, .int .i64 0]) ∧ Run w b Q2 w'
  t2 : ∀ w b W, Run w b Q2 W → Calls Tryz.prog 34 #[bx b, .int .i64 1] W fun e w' => e = .returned (.tuple #[.int .i64 1, .int .i64 0]) ∧ Run w b Q3 w'
  t3 : ∀ w b W, Run w b Q3 W → Calls Tryz.prog 34 #[bx b, .int .i64 1] W fun e w' => e = .returned (.tuple #[.int .i64 0, .int .i64 171]) ∧ Run w b Q3 w'
  t4 : ∀ w b W, Run w b Q3 W → Calls Tryz.prog 34 #[bx b, .int .i64 2] W fun e w' => e = .returned (.tuple #[.int .i64 0, .int .i64 171]) ∧ Run w b Q3 w'
  w1 : ∀ w b W g, Run w b Q3 W → W.heap.size = g → Calls Tryz.prog 35 #[bx b, .int .i64 0, .int .i64 255, .slice (some ⟨g, 0, none⟩) 1 1] (W.alloc (.cells #[.int .u8 9] 5)) fun e w' => e = .returned (.int .i64 0) ∧ Run w b Q4 w'
  w2 : ∀ w b W g, Run w b Q4 W → W.heap.size = g → Calls Tryz.prog 35 #[bx b, .int .i64 0, .int .i64 255, .slice (some ⟨g, 0, none⟩) 2 2] (W.alloc (.cells #[.int .u8 9, .int .u8 9] 5)) fun e w' => e = .returned (.int .i64 4) ∧ Run w b Q4 w'
  g1 : ∀ w b W, Run w b Q4 W → Calls Tryz.prog 36 #[bx b, .int .i64 0] W fun e w' => e = .returned (.int .i64 0) ∧ Run w b Q5 w'
  t5 : ∀ w b W, Run w b Q5 W → Calls Tryz.prog 34 #[bx b, .int .i64 1] W fun e w' => e = .returned (.tuple #[.int .i64 0, .int .i64 0]) ∧ Run w b Q6 w'
  d1 : ∀ w b W, Run w b Q6 W → Calls Tryz.prog 37 #[bx b, .int .i64 0, .int .i64 255, .int .i64 1] W fun e w' => ∃ A c, e = .returned (.tuple #[.slice A 1 c, .int .i64 0]) ∧ (convert 23 9 (.slice A 1 c)).run Tryz.prog w' = .ok (.string ⟨#[0]⟩) w' ∧ Run w b Q6 w'
  r3 : ∀ w b W, Run w b Q6 W → Calls Tryz.prog 33 #[bx b, .int .i64 1, .int .i64 1] W fun e w' => e = .returned (.int .i64 172) ∧ Run w b Q6 w'

theorem run_to {w : World} {b : Nat} {p p' : Pl} {e e' : Ending} {w' : World} (h : e = e' ∧ Run w b p w') (hp : p = p') {x : Ending} (he : e' = x) : e = x ∧ Run w b p' w' := ⟨h.1.trans he, hp ▸ h.2⟩
theorem takeP_same {p : Pl} {o : Int} (h : takeE p o ≠ 0) : takeP p o = p := by unfold takeP; rw [if_neg h]
theorem reserveP_same {p : Pl} {o m : Int} (h : reserveE p o m ≠ 0) : reserveP p o m = p := by unfold reserveP; rw [if_neg h]
theorem writeP_same {p : Pl} {i a : Int} {l : List UInt8} (h : reachE p i a l.length ≠ 0) : writeP p i a l = p := by unfold writeP; rw [if_neg h]
theorem k0 : reserveE (newP 3) 1 2 = 0 := by kernel_rfl
theorem k1 : reserveE q1 2 2 = 170 := by kernel_rfl
theorem k2 : takeE q1 1 = 0 := by kernel_rfl
theorem k2i : takeI q1 1 = 0 := by kernel_rfl
theorem k3 : takeE q2 1 = 0 := by kernel_rfl
theorem k3i : takeI q2 1 = 1 := by kernel_rfl
theorem k4 : takeE q3 1 = 171 := by kernel_rfl
theorem k5 : takeE q3 2 = 171 := by kernel_rfl
theorem k6 : reachE q3 0 255 1 = 0 := by kernel_rfl
theorem k7 : reachE q4 0 255 2 = 4 := by kernel_rfl
theorem k8 : giveE q4 0 = 0 := by kernel_rfl
theorem k9 : takeE q5 1 = 0 := by kernel_rfl
theorem k9i : takeI q5 1 = 0 := by kernel_rfl
theorem k10 : reachE q6 0 255 1 = 0 := by kernel_rfl
theorem k10r : readP q6 0 255 1 = [0] := by kernel_rfl
theorem k11 : reserveE q6 1 1 = 172 := by kernel_rfl
theorem no_take {p : Pl} {o : Int} (h : takeE p o ≠ 0) : takeI p o = 0 := by unfold takeI; rw [if_neg h]
theorem seven : Seven q1 q2 q3 q4 q5 q6 where
  new w := Run.new 3 w (by omega)
  r1 w b W h := (h.reserve 1 2 (by omega)).mono fun _ _ h => run_to h rfl (by rw [k0]; rfl)
  r2 w b W h := (h.reserve 2 2 (by omega)).mono fun _ _ h => run_to h (reserveP_same (by rw [k1]; decide)) (by rw [k1]; rfl)
  t1 w b W h := (h.take 1).mono fun _ _ h => run_to h rfl (by rw [k2, k2i]; rfl)
  t2 w b W h := (h.take 1).mono fun _ _ h => run_to h rfl (by rw [k3, k3i]; rfl)
  t3 w b W h := (h.take 1).mono fun _ _ h => run_to h (takeP_same (by rw [k4]; decide)) (by rw [no_take (by rw [k4]; decide), k4]; rfl)
  t4 w b W h := (h.take 2).mono fun _ _ h => run_to h (takeP_same (by rw [k5]; decide)) (by rw [no_take (by rw [k5]; decide), k5]; rfl)
  w1 w b W g h hg := ((h.alloc _).write 0 255 (by omega) (by omega) (some ⟨g, 0, none⟩) 1 1 [9] rfl (by rw [World.size_alloc, hg]; exact sees_at W [9] 5 hg)).mono fun _ _ h => run_to h rfl (by rw [show (([9] : List UInt8).length : Int) = 1 from rfl, k6]; rfl)
  w2 w b W g h hg := ((h.alloc _).write 0 255 (by omega) (by omega) (some ⟨g, 0, none⟩) 2 2 [9, 9] rfl (by rw [World.size_alloc, hg]; exact sees_at W [9, 9] 5 hg)).mono fun _ _ h => run_to h (writeP_same (by rw [show (([9, 9] : List UInt8).length : Int) = 2 from rfl, k7]; decide)) (by rw [show (([9, 9] : List UInt8).length : Int) = 2 from rfl, k7]; rfl)
  g1 w b W h := (h.give 0 (by omega)).mono fun _ _ h => run_to h rfl (by rw [k8]; rfl)
  t5 w b W h := (h.take 1).mono fun _ _ h => run_to h rfl (by rw [k9, k9i]; rfl)
  d1 w b W h := (h.read 0 255 1 (by omega) (by omega)).mono fun _ w' h => by
    rw [k10r, k10] at h
    obtain ⟨A, c, h1, h2, h3, h4, h5⟩ := h
    exact ⟨A, c, h1, run_conv_sees w' Tryz.underlying23 Tryz.underlying5 Tryz.underlying9 rfl (Sees.of_own h3), h5⟩
  r3 w b W h := (h.reserve 1 1 (by omega)).mono fun _ _ h => run_to h (reserveP_same (by rw [k11]; decide)) (by rw [k11]; rfl)

set_option maxRecDepth 100000 in
set_option maxHeartbeats 4000000 in
theorem works_any (w : World) : Calls Tryz.prog 7 #[] w fun e w' => e = .returned (.bool true) ∧ Below w.heap.size w w' := by
  have HS : ∃ Q1 Q2 Q3 Q4 Q5 Q6, Seven Q1 Q2 Q3 Q4 Q5 Q6 := ⟨_, _, _, _, _, _, seven⟩
  obtain ⟨Q1, Q2, Q3, Q4, Q5, Q6, S⟩ := HS
  have H := Lib.hid S
  have hn := Lib.hid (fun n w => num_any n w)
  clear S
  go_enter Tryz.func7, Tryz.ntmps7
  go_wp2_with fail
  refine (H.out.new _).mono ?_
  rintro e w1 ⟨b, rfl, R1⟩
  go_wp2_with fail
  refine (H.out.r1 _ _ _ R1).mono ?_
  rintro e w2 ⟨rfl, R2⟩
  clear R1
  go_wp2_with fail
  refine (H.out.r2 _ _ _ R2).mono ?_
  rintro e w3 ⟨rfl, R3⟩
  clear R2
  go_wp2_with fail
  refine (H.out.t1 _ _ _ R3).mono ?_
  rintro e w4 ⟨rfl, R4⟩
  clear R3
  go_wp2_with fail
  refine (H.out.t2 _ _ _ R4).mono ?_
  rintro e w5 ⟨rfl, R5⟩
  clear R4
  go_wp2_with fail
  refine (H.out.t3 _ _ _ R5).mono ?_
  rintro e w6 ⟨rfl, R6⟩
  clear R5
  go_wp2_with fail
  refine (H.out.t4 _ _ _ R6).mono ?_
  rintro e w7 ⟨rfl, R7⟩
  clear R6
  go_wp2_with fail
  refine (H.out.w1 _ _ _ _ R7 rfl).mono ?_
  rintro e w8 ⟨rfl, R8⟩
  clear R7
  go_wp2_with fail
  refine (H.out.w2 _ _ _ _ R8 rfl).mono ?_
  rintro e w9 ⟨rfl, R9⟩
  clear R8
  go_wp2_with fail
  refine (H.out.g1 _ _ _ R9).mono ?_
  rintro e w10 ⟨rfl, R10⟩
  clear R9
  go_wp2_with fail
  refine (H.out.t5 _ _ _ R10).mono ?_
  rintro e w11 ⟨rfl, R11⟩
  clear R10
  go_wp2_with fail
  refine (H.out.d1 _ _ _ R11).mono ?_
  rintro e w12 ⟨A, c, rfl, hcv, R12⟩
  clear R11
  go_wp2_with (first
    | (go_at_call 13; refine (hn.out _ _).mono ?_; rintro e wn ⟨rfl, rfl⟩)
    | (go_at_call 33; refine (H.out.r3 _ _ _ R12).mono ?_; rintro e w13 ⟨rfl, R13⟩))
  go_ret
  exact ⟨rfl, R13.below⟩
end Go.Proofs.YtmbjjbgpcacoeaaGreat

namespace Go.Proofs.YtmbjjbgpcacoeaaGreat
open Go.RowKit Go.Shelf Go.Maps Go.Sort
attribute [local go_sem] Oper.semAt_some

/- CALLS, AS A LAW READS THEM. -/

structure Ac where
  what : Int
  owner : Int
  n : Int
  at_ : Int
  bs : List UInt8
  A : Option Addr
  c : Nat
def Ac.sl (x : Ac) : Value := .slice x.A x.bs.length x.c
def Ac.cells (x : Ac) : List Value := [.int .i64 x.what, .int .i64 x.owner, .int .i64 x.n, .int .i64 x.at_, x.sl]
def i64 (z : Int) : Prop := -9223372036854775808 ≤ z ∧ z ≤ 9223372036854775807
structure Ac.fits (w : World) (x : Ac) : Prop where
  what : i64 x.what
  owner : i64 x.owner
  n : i64 x.n
  at_ : i64 x.at_
  len : x.bs.length ≤ 140737488351232
  sees : Sees w w.heap.size x.A (byt x.bs)
theorem Ac.fits.below {w w' : World} {x : Ac} (h : x.fits w) (hb : Below w.heap.size w w') : x.fits w' := ⟨h.what, h.owner, h.n, h.at_, h.len, (h.sees.below hb).more hb.size⟩
/-- calls in memory -/
structure Acs (w : World) (l : List Ac) (A : Option Addr) : Prop where
  sees : Sees w w.heap.size A (l.flatMap Ac.cells)
  fits : ∀ x ∈ l, x.fits w
theorem Acs.below {w w' : World} {l : List Ac} {A : Option Addr} (h : Acs w l A) (hb : Below w.heap.size w w') : Acs w' l A := ⟨(h.sees.below hb).more hb.size, fun x hx => (h.fits x hx).below hb⟩
theorem add_off (a : Addr) (m j : Nat) (hj : j ≠ 0) : a.add (m + j) = ⟨(a.add m).block, (a.add m).off + j, none⟩ := by
  unfold Addr.add
  rw [if_neg (by omega)]
  split
  · rename_i h; subst h; simp
  · simp; omega
theorem acs_get : ∀ (l : List Ac) (k j : Nat) (hk : k < l.length), j < 5 → (l.flatMap Ac.cells)[k * 5 + j]? = l[k].cells[j]?
  | [], k, _, h, _ => by simp at h
  | x :: r, 0, j, _, hj => by
    rw [List.flatMap_cons, Nat.zero_mul, Nat.zero_add, List.getElem?_append_left (by show j < 5; exact hj)]
    rfl
  | x :: r, k + 1, j, h, hj => by
    have := acs_get r k j (by simpa using h) hj
    rw [List.flatMap_cons, List.getElem?_append_right (by show 5 ≤ _; omega), show (k + 1) * 5 + j - x.cells.length = k * 5 + j by show (k + 1) * 5 + j - 5 = _; omega]
    exact this
/-- a call's five cells -/
theorem Acs.at_ {w : World} {l : List Ac} {A : Option Addr} (h : Acs w l A) (k : Nat) (hk : k < l.length) :
    ∃ ad, A = some ad ∧ w.cell? (ad.add (k * 5)) = some (.int .i64 l[k].what) ∧ w.cell? ⟨(ad.add (k * 5)).block, (ad.add (k * 5)).off + 1, none⟩ = some (.int .i64 l[k].owner) ∧ w.cell? ⟨(ad.add (k * 5)).block, (ad.add (k * 5)).off + 2, none⟩ = some (.int .i64 l[k].n) ∧
      w.cell? ⟨(ad.add (k * 5)).block, (ad.add (k * 5)).off + 3, none⟩ = some (.int .i64 l[k].at_) ∧ w.cell? ⟨(ad.add (k * 5)).block, (ad.add (k * 5)).off + 4, none⟩ = some l[k].sl := by
  have hne : l.flatMap Ac.cells ≠ [] := fun e => by
    have := acs_get l k 0 hk (by omega)
    rw [e] at this
    simp [Ac.cells] at this
  obtain ⟨ad, hA, _, hc⟩ := h.sees hne
  have g : ∀ j, j < 5 → w.cell? (ad.add (k * 5 + j)) = l[k].cells[j]? := fun j hj => by
    have h1 := acs_get l k j hk hj
    rw [← h1]
    cases hx : (l.flatMap Ac.cells)[k * 5 + j]? with
    | some u => exact hc _ _ hx
    | none =>
      rw [h1] at hx
      have : j < l[k].cells.length := hj
      rw [List.getElem?_eq_getElem this] at hx
      cases hx
  refine ⟨ad, hA, g 0 (by omega), ?_, ?_, ?_, ?_⟩
  · rw [← add_off ad (k * 5) 1 (by decide)]
    exact g 1 (by omega)
  · rw [← add_off ad (k * 5) 2 (by decide)]
    exact g 2 (by omega)
  · rw [← add_off ad (k * 5) 3 (by decide)]
    exact g 3 (by omega)
  · rw [← add_off ad (k * 5) 4 (by decide)]
    exact g 4 (by omega)

/-- few: at most so many calls, of 300 bytes -/
def fewB (l : List Ac) (most : Nat) : Bool := l.all (fun x => decide (x.bs.length ≤ 300)) && decide (l.length ≤ most)
theorem few_take {l : List Ac} {k : Nat} (hk : k < l.length) : (l.take (k + 1)).all (fun x => decide (x.bs.length ≤ 300)) = ((l.take k).all (fun x => decide (x.bs.length ≤ 300)) && decide (l[k].bs.length ≤ 300)) := by
  rw [List.take_succ_eq_append_getElem hk, List.all_append]
  simp
set_option maxHeartbeats 1000000 in
theorem few_any (l : List Ac) (A : Option Addr) (n c most : Nat) (w : World) (h : Acs w l A) (hl : l.length = n) (hn : n ≤ 4611686018427387904) : Calls Tryz.prog 6 #[.slice A n c, .int .i64 (most : Int)] w fun e w' => e = .returned (.bool (fewB l most)) ∧ w = w' := by
  have HA := Lib.hid h
  have HL := Lib.hid hl
  have HF := Lib.hid (fun k hk => few_take (l := l) (k := k) hk)
  have HE := Lib.hid (show fewB l most = (l.all (fun x => decide (x.bs.length ≤ 300)) && decide (n ≤ most)) from by rw [← hl]; rfl)
  have HN := Lib.hid (fun (h : ¬ (l.all (fun x => decide (x.bs.length ≤ 300)) = true)) => (show fewB l most = false from by unfold fewB; rw [Bool.eq_false_iff.2 h]; rfl))
  obtain ⟨E, hE⟩ : ∃ E, E = fewB l most := ⟨_, rfl⟩
  rw [← hE] at HE HN ⊢
  have hmi : decide ((n : Int) ≤ (most : Int)) = decide (n ≤ most) := by simp
  clear h hE hl
  go_enter Tryz.func6, Tryz.ntmps6
  go_wp2_with fail
  go_loopw [5] (fun t wr => ∃ k : Nat, t = .int .i64 (k : Int) ∧ k ≤ n ∧ Hid ((l.take k).all (fun x => decide (x.bs.length ≤ 300)) = true) ∧ wr = w) (fun t _ => n - (_root_.Go.RowKit.intOf t).toNat)
  case atStart => exact ⟨0, rfl, Nat.zero_le _, Lib.hid (by simp), rfl⟩
  case round =>
    obtain ⟨k, rfl, hk, Hall, rfl⟩ := hrel
    by_cases hlt : k < n
    · have hkl : k < l.length := by rw [HL.out]; exact hlt
      have hf := HF.out k hkl
      obtain ⟨ad, rfl, _, _, _, _, c4⟩ := HA.out.at_ k hkl
      unfold Ac.sl at c4
      have i0 : (0 : Int) ≤ (k : Int) := by omega
      have i1 : (k : Int) < (n : Int) := by omega
      have e0 : decide ((k : Int) < (n : Int)) = true := decide_eq_true i1
      by_cases hb : l[k].bs.length ≤ 300
      · rw [Hall.out, decide_eq_true hb] at hf
        have HF2 := Lib.hid hf
        have e1 : decide ((300 : Int) < (l[k].bs.length : Int)) = false := decide_eq_false (by omega)
        obtain ⟨m, hm⟩ : ∃ m, m = l[k].bs.length := ⟨_, rfl⟩
        rw [← hm] at c4 e1
        clear hf hm hb
        go_wp2
        go_roundw
        case rel => exact ⟨k + 1, by go_num, by omega, HF2, trivial⟩
        case measure => simp [_root_.Go.RowKit.intOf]; omega
      · have HNO := Lib.hid (HN.out (fun h => hb (by have := List.all_eq_true.1 h _ (List.getElem_mem hkl); simpa using this)))
        have e1 : decide ((300 : Int) < (l[k].bs.length : Int)) = true := decide_eq_true (by omega)
        obtain ⟨m, hm⟩ : ∃ m, m = l[k].bs.length := ⟨_, rfl⟩
        rw [← hm] at c4 e1
        clear hf hm hb HN
        go_wp2
        go_ret
        exact ⟨by rw [HNO.out]; rfl, rfl⟩
    · obtain rfl : k = n := by omega
      have he := HE.out
      have ha := Hall.out
      rw [List.take_of_length_le (by rw [HL.out]; exact Nat.le_refl _)] at ha
      rw [ha, Bool.true_and] at he
      have HE2 := Lib.hid he
      clear he ha HE
      go_wp2
      go_ret
      exact ⟨by rw [HE2.out]; simp, rfl⟩
end Go.Proofs.YtmbjjbgpcacoeaaGreat

namespace Go.Proofs.YtmbjjbgpcacoeaaGreat
open Go.RowKit Go.Shelf Go.Maps Go.Sort
attribute [local go_sem] Oper.semAt_some

/- THE FRAMES THAT ARE SOMEBODY's, RISING. -/

theorem sortsT (m : Nat) : AnyZI.SortsIn Tryz.prog sortedL_ren Fence.wide m :=
  ⟨fun blk off cap ss W hH hblk hsz => callsIn_wide.2 (AnyM.slices_Sort_int sortL blk off cap ss W hH hblk hsz), fun p cap W => callsIn_wide.2 (AnyM.slices_Sort_int_none sortL p cap W)⟩
theorem keys_any (mb : Option Nat) (w : World) : Calls Tryz.prog 120 #[.map mb] w fun e w' => e = .returned (.func (.func 166) #[] #[.pointer (some ⟨w.heap.size, 0, none⟩)]) ∧ w' = w.alloc (.cells #[.map mb] 92) :=
  (callsIn_wide (n := 1)).1 (AnyZI.keys_in keysL Fence.wide 1 trivial rfl mb w)
theorem sort_eq {xs : List Nat} {ss : List Int} (hs : xs.Pairwise (· < ·)) (hp : ss.Perm (xs.map (fun n : Nat => (n : Int)))) : ss.mergeSort (fun x y => decide (x ≤ y)) = xs.map (fun n : Nat => (n : Int)) := by
  refine List.Perm.eq_of_pairwise (le := fun a b : Int => a ≤ b) (fun a b _ _ h1 h2 => Int.le_antisymm h1 h2) ?_ ?_ ((List.mergeSort_perm ss _).trans hp)
  · have := List.pairwise_mergeSort (le := fun x y : Int => decide (x ≤ y)) (by intro a b c h1 h2; simp at *; omega) (by intro a b; simp; omega) ss
    exact this.imp (fun h => by simpa using h)
  · rw [List.pairwise_map]
    exact hs.imp (fun h => by omega)
theorem sorted_any (l : List (Option Nat)) (g bm nn : Nat) (w : World) (hl : l.length ≤ 16384) (hc : w.cell? ⟨g, 0, none⟩ = some (.map (some bm))) (hown : w.ownsMap Tryz.prog 3 (plainElem Tryz.prog 3) bm nn (mapD l)) :
    Calls Tryz.prog 119 #[.func (.func 166) #[] #[.pointer (some ⟨g, 0, none⟩)]] w fun e w' => ∃ v, e = .returned v ∧ w'.ownsRow w.heap.size 3 1 v (idxF 0 l).length ((idxF 0 l).map iv) ∧ Below w.heap.size w w' := by
  have hsz : Maps.size (mapD l) ≤ 16384 := by rw [mapD_size]; exact Nat.le_trans List.countP_le_length hl
  refine (callsIn_wide (n := 5)).1 ?_
  have hseq : SeqGives Fence.wide 2 Tryz.prog 166 #[.pointer (some ⟨g, 0, none⟩)] encZ (fun ss => ss.Perm (intKeys (mapD l))) (Maps.size (mapD l)) w :=
    AnyZI.keys_gives (ρ := keysL_ren) { keysL with } Fence.wide _ trivial rfl (by omega) g bm nn (mapD l) w (lt_of_cell hc) hc hown
  refine (AnyZI.sorted_in sortedL Fence.wide 5 trivial trivial trivial trivial rfl (by omega) (sortsT _) (enters_of Tryz.func165 (by kernel_rfl) rfl) 166 #[.pointer (some ⟨g, 0, none⟩)] trivial (enters_of Tryz.func166 (by kernel_rfl) rfl) _ _ (by unfold maxLen; omega) (by omega) _ hseq).mono ?_
  rintro e w' ⟨v, ss, rfl, hp, hrow, _, hb⟩
  rw [mapD_keys] at hp
  have hlen : ss.length = (idxF 0 l).length := by have := hp.length_eq; rw [List.length_map] at this; exact this
  rw [sort_eq (idx_sorted 0 l) hp, hlen, List.map_map] at hrow
  exact ⟨v, rfl, hrow, hb⟩

/-! the rows -/
def rowsN (l : List (Option Nat)) : List (Nat × Nat) := (idxF 0 l).map fun i => (i, ownN l (i : Int))
def encP (x : Nat × Nat) : Array Value := #[.int .i64 (x.1 : Int), .int .i64 (x.2 : Int)]
def preR (l : List (Option Nat)) (pre : List (Nat × Nat)) (x : Nat × Nat) (_ : World) : Prop := ∃ post, rowsN l = pre ++ x :: post
def allR (l : List (Option Nat)) (xs : List (Nat × Nat)) : Prop := xs = rowsN l
def someR (l : List (Option Nat)) (xs : List (Nat × Nat)) : Prop := ∃ post, rowsN l = xs ++ post
theorem rowsN_len (l : List (Option Nat)) : (rowsN l).length = (idxF 0 l).length := by simp [rowsN]
theorem idx_len (l : List (Option Nat)) : (idxF 0 l).length ≤ l.length := by
  have := congrArg List.length (mapD_keys l)
  have h2 : (intKeys (mapD l)).length = Maps.size (mapD l) := by simp [intKeys, Maps.size, mapD]
  rw [List.length_map] at this
  rw [← this, h2, mapD_size]
  exact List.countP_le_length
theorem preR_at {l : List (Option Nat)} {k : Nat} (h : k < (rowsN l).length) (w : World) : preR l ((rowsN l).take k) (rowsN l)[k] w := ⟨(rowsN l).drop (k + 1), by
  rw [List.getElem_cons_drop]
  exact (List.take_append_drop k _).symm⟩
theorem someR_at {l : List (Option Nat)} {k : Nat} : someR l ((rowsN l).take k) := ⟨(rowsN l).drop k, (List.take_append_drop k _).symm⟩
theorem idx_own {l : List (Option Nat)} {i : Nat} (h : i ∈ idxF 0 l) : ∃ o, ownAt l (i : Int) = some o := by
  obtain ⟨_, o, ho⟩ := (idx_mem 0 l i).1 h
  refine ⟨o, ?_⟩
  unfold ownAt
  rw [if_neg (by omega), Int.toNat_natCast, show i = i - 0 by omega, ho]
  rfl

set_option maxHeartbeats 2000000 in
theorem rise1_it (l : List (Option Nat)) (bb pb bm nn : Nat) (w0 : World) (hl : l.length ≤ 16384) (hcb : w0.cell? ⟨bb, 0, none⟩ = some (bx pb)) (hcp : w0.cell? ⟨pb, 1, none⟩ = some (.map (some bm))) (hown : w0.ownsMap Tryz.prog 3 (plainElem Tryz.prog 3) bm nn (mapD l)) :
    It Tryz.prog 118 #[bx bb] encP (fun _ _ => False) (preR l) (fun k => k = bb ∨ k = pb ∨ k = bm) (allR l) (someR l) w0 := by
  intro l0 J Jx W hpW hsW hJ hJx hY h0
  refine (callsIn_wide (n := 1)).1 ?_
  have c1 : W.cell? ⟨bb, 0, none⟩ = some (bx pb) := (World.cell?_of_block (hpW bb (.inl rfl))).trans hcb
  have c2 : W.cell? ⟨pb, 1, none⟩ = some (.map (some bm)) := (World.cell?_of_block (hpW pb (.inr (.inl rfl)))).trans hcp
  have hown1 := owns_same hown (hpW bm (.inr (.inr rfl)))
  have l1 := lt_of_cell c1
  have l2 := lt_of_cell c2
  simp only at l1 l2
  have l3 := hown1.lt
  have HK := Lib.hid (fun w => keys_any (some bm) w)
  have HS := Lib.hid (show Calls Tryz.prog 119 #[.func (.func 166) #[] #[.pointer (some ⟨W.heap.size, 0, none⟩)]] (W.alloc (.cells #[.map (some bm)] 92)) (fun e w' => ∃ A c, e = .returned (.slice A (idxF 0 l).length c) ∧ w'.ownsRow (W.heap.size + 1) 3 1 (.slice A (idxF 0 l).length c) (idxF 0 l).length ((idxF 0 l).map iv) ∧ Below W.heap.size W w' ∧ W.heap.size < w'.heap.size) from by
    refine (sorted_any l W.heap.size bm nn _ hl (cell_alloc_new _ _ _ _) (owns_same hown1 (Below.heap_alloc _ _ _ l3))).mono ?_
    rintro e w' ⟨v, rfl, hrow, hb⟩
    obtain ⟨A, c, rfl⟩ := own_slice hrow
    rw [World.size_alloc] at hrow hb
    exact ⟨A, c, rfl, hrow, (below1 W _).trans (hb.mono (by omega)), by have := hb.size; rw [World.size_alloc] at this; omega⟩)
  have HLK := Lib.hid (fun (V : World) (hV : V.heap[bm]? = W.heap[bm]?) (i : Nat) (hi : i ∈ idxF 0 l) => (show (Instr.lookup 92 (.map (some bm)) (.int .i64 (i : Int)) false).run Tryz.prog V = .ok (.int .i64 (ownN l (i : Int) : Int)) V from by
    obtain ⟨o, ho⟩ := idx_own hi
    have hle := (idx_ge 0 l i hi).2
    rw [lookup_at (owns_same hown1 hV) (by omega) ho]
    unfold ownN
    rw [ho]
    rfl))
  have HL := Lib.hid (idx_len l)
  have hRl := rowsN_len l
  have HR := Lib.hid (fun k (hk : k < (idxF 0 l).length) => (show (rowsN l)[k]'(by rw [hRl]; exact hk) = ((idxF 0 l)[k], ownN l ((idxF 0 l)[k] : Int)) from by simp [rowsN]))
  have HT := Lib.hid (fun k (hk : k < (idxF 0 l).length) => (show (rowsN l).take (k + 1) = (rowsN l).take k ++ [(rowsN l)[k]'(by rw [hRl]; exact hk)] from List.take_succ_eq_append_getElem (by rw [hRl]; exact hk)))
  have HRL := Lib.hid hRl
  obtain ⟨n, hn⟩ : ∃ n, n = (idxF 0 l).length := ⟨_, rfl⟩
  rw [← hn] at HS HL
  have HN := Lib.hid hn
  have HLL := Lib.hid hl
  clear hn hcb hcp hown hown1 hl hpW
  refine callsIn_of_wp Tryz.func118 rfl trivial ?_ rfl
  simp only [Tryz.ntmps118, List.size_toArray, List.length_cons, List.length_nil, Nat.reduceAdd, Nat.reduceSub, Array.replicate_succ, Array.replicate_zero, List.push_toArray, List.append_toArray, List.nil_append, List.cons_append]
  gi_wp2_with fail
  refine ⟨trivial, (callsIn_wide.2 (HK.out _)).mono ?_⟩
  rintro e w1 ⟨rfl, rfl⟩
  gi_wp2_with fail
  refine ⟨trivial, (callsIn_wide.2 HS.out).mono ?_⟩
  rintro e w2 ⟨A, c, rfl, hrow, hb2, hs2⟩
  have hj2 : J [] (fun _ => False) w2 := hJ.below h0 hb2
  have HROW := Lib.hid hrow
  have d1 : w2.cell? ⟨bb, 0, none⟩ = some (bx pb) := (hb2.cell (p := ⟨bb, 0, none⟩) l1).trans c1
  have d2 : w2.cell? ⟨pb, 1, none⟩ = some (.map (some bm)) := (hb2.cell (p := ⟨pb, 1, none⟩) l2).trans c2
  have d3 := hb2.block _ l3
  clear hrow HS HK h0
  have HG := Lib.hid (fun (hn0 : 0 < n) => (show ∃ g, A = some ⟨g, 0, none⟩ ∧ W.heap.size ≤ g ∧ g < w2.heap.size ∧ ∀ (j x : Nat), (idxF 0 l)[j]? = some x → w2.cell? ⟨g, j, none⟩ = some (.int .i64 (x : Int)) from by
    have ho := Own.of_row HROW.out
    obtain ⟨g, c', cur, hg, hv, _⟩ := ho.block hn0
    injection hv with hv1 hv2 hv3
    have hlt := HROW.out.lt g hg
    refine ⟨g, hv1, by omega, hlt.2, fun j x hx => ?_⟩
    have hj : j < n := by have := (List.getElem?_eq_some_iff.1 hx).1; rw [← HN.out] at this; exact this
    rw [ho.cell hg j (by omega), List.getElem?_map, hx]
    rfl))
  clear HROW
  gi_wp2_with fail
  gi_loopw [12] (fun t wr => ∃ (k : Nat) (O : Nat → Prop), t = .int .i64 (k : Int) ∧ k ≤ n ∧ J ((rowsN l).take k) O wr ∧ w2.heap.size ≤ wr.heap.size ∧ (∀ b, O b → w2.heap.size ≤ b ∧ b < wr.heap.size) ∧ Hid (∀ q, q < w2.heap.size → (q = bb ∨ q = pb ∨ q = bm ∨ W.heap.size ≤ q) → wr.heap[q]? = w2.heap[q]?)) (fun t _ => n - (_root_.Go.RowKit.intOf t).toNat)
  case atStart => exact ⟨0, fun _ => False, rfl, Nat.zero_le _, hj2, Nat.le_refl _, fun b (h : False) => h.elim, Lib.hid fun _ _ _ => rfl⟩
  case round =>
    obtain ⟨k, O, rfl, hk, hj, hws, hO, HQ⟩ := hrel
    have hnb : n ≤ 16384 := Nat.le_trans HL.out HLL.out
    by_cases hlt : k < n
    · obtain ⟨g, rfl, hg1, hg2, hgc⟩ := HG.out (by omega)
      have hki : k < (idxF 0 l).length := by rw [← HN.out]; exact hlt
      have c0 : wr.cell? ⟨g, k, none⟩ = some (.int .i64 ((idxF 0 l)[k] : Int)) := (World.cell?_of_block (HQ.out g hg2 (.inr (.inr (.inr hg1))))).trans (hgc k _ (List.getElem?_eq_getElem hki))
      have e1 : wr.cell? ⟨bb, 0, none⟩ = some (bx pb) := (World.cell?_of_block (HQ.out bb (by omega) (.inl rfl))).trans d1
      have e2 : wr.cell? ⟨pb, 1, none⟩ = some (.map (some bm)) := (World.cell?_of_block (HQ.out pb (by omega) (.inr (.inl rfl)))).trans d2
      have hlk := HLK.out wr ((HQ.out bm (by omega) (.inr (.inr (.inl rfl)))).trans d3) _ (List.getElem_mem hki)
      have hx := HR.out k hki
      have htk := HT.out k hki
      rw [hx] at htk
      have hpre := preR_at (l := l) (k := k) (by rw [HRL.out]; exact hki) wr
      rw [hx] at hpre
      have HTK := Lib.hid htk
      obtain ⟨fn, tmps, assign, body, hy, hR⟩ := hY _ _ O wr (by omega) (fun b h => by have := hO b h; omega) hj hpre (fun b (h : False) => h.elim)
      simp only [encP] at hy
      have i0 : (0 : Int) ≤ (k : Int) := by omega
      have i1 : (k : Int) < (n : Int) := by omega
      have e0 : decide ((k : Int) < (n : Int)) = true := decide_eq_true i1
      obtain ⟨i, hi⟩ : ∃ i, i = (idxF 0 l)[k] := ⟨_, rfl⟩
      rw [← hi] at c0 hlk hy hR HTK
      obtain ⟨o, ho⟩ : ∃ o, o = ownN l (i : Int) := ⟨_, rfl⟩
      rw [← ho] at hlk hy hR HTK
      clear htk hpre hx hi ho hj hgc
      gi_wp2_with fail
      refine hR.mono ?_
      rintro e W' ⟨hk', (⟨rfl, hj'⟩ | ⟨rfl, hjx⟩)⟩
      · have hO4 := nextO_bound (M := fun _ => False) hO hws hk'.size
        have hws4 := Nat.le_trans hws hk'.size
        have HQ4 : Hid (∀ q, q < w2.heap.size → (q = bb ∨ q = pb ∨ q = bm ∨ W.heap.size ≤ q) → W'.heap[q]? = w2.heap[q]?) := Lib.hid fun q hq hp => (hk'.same q (by omega) (by
          rcases hp with h | h | h | h
          · exact .inl (.inl h)
          · exact .inl (.inr (.inl h))
          · exact .inl (.inr (.inr h))
          · exact .inr ⟨h, fun ho => by have := (hO q ho).1; omega, fun h => h⟩)).trans (HQ.out q hq hp)
        clear HQ hO hk' hws
        gi_wp2
        go_roundw
        case rel => exact ⟨k + 1, _, by go_num, by omega, by rw [HTK.out]; exact hj', hws4, hO4, HQ4⟩
        case measure => simp [_root_.Go.RowKit.intOf]; omega
      · gi_wp2
        refine bodyPost_ret (results_none rfl _ _ _) rfl ?_
        refine itEnd.part ?_ hjx
        rw [← HTK.out]
        exact someR_at
    · obtain rfl : k = n := by omega
      gi_wp2
      go_end0
      refine itEnd.all ?_ hj
      show (rowsN l).take k = rowsN l
      rw [List.take_of_length_le (by rw [HRL.out, ← HN.out]; exact Nat.le_refl _)]
end Go.Proofs.YtmbjjbgpcacoeaaGreat

namespace Go.Proofs.YtmbjjbgpcacoeaaGreat
open Go.RowKit Go.Shelf Go.Maps Go.Sort
attribute [local go_sem] Oper.semAt_some

/- ALL: THE FRAMES THAT ARE SOMEBODY's, AS THEY WERE. -/

theorem rising_any (pb : Nat) (w : World) : Calls Tryz.prog 50 #[bx pb] w fun e w' =>
    e = .returned (.func (.func 118) #[] #[.pointer (some ⟨w.heap.size, 0, none⟩)]) ∧ w.alloc (.cells #[bx pb] 122) = w' := by
  go_enter Tryz.func50, Tryz.ntmps50
  go_wp2
  go_ret
  exact ⟨rfl, rfl⟩
theorem clone_any (bm n : Nat) (D : DataW Unit) (w : World) (hown : w.ownsMap Tryz.prog 3 (plainElem Tryz.prog 3) bm n D) :
    Calls Tryz.prog 46 #[.map (some bm)] w fun e w' => e = .returned (.map (some w.heap.size)) ∧ w'.ownsMap Tryz.prog 3 (plainElem Tryz.prog 3) w.heap.size n D ∧ Below w.heap.size w w' :=
  (AnyW.maps_Clone_owns cloneL 3 _ bm n D w hown).mono fun _ _ ⟨e1, e2, _, e3⟩ => ⟨e1, e2, e3⟩

section
variable (l0 : Nat) (J Jx : List (Nat × Nat) → (Nat → Prop) → World → Prop) (W : World)
/-- what holds between two rounds of the inner loop -/
def aI (pre : List (Nat × Nat)) (O' : Nat → Prop) (V : World) : Prop :=
  ∃ O, J pre O V ∧ (∀ k, O k → O' k) ∧ (∀ k, O k → W.heap.size + 4 ≤ k) ∧ V.cell? ⟨W.heap.size, 0, none⟩ = some (.func (.yield l0) #[] #[])
/-- what holds where a round has said no more -/
def aX (c' : Code) (pre' : List (Nat × Nat)) (O' : Nat → Prop) (V : World) : Prop :=
  c' = .exit 0 ∧ ∃ O, (∀ k, O k → O' k) ∧ (∀ k, O k → W.heap.size + 4 ≤ k) ∧ Jx pre' O V
end

set_option maxHeartbeats 2000000 in
theorem all1_it (l : List (Option Nat)) (bw bm nn : Nat) (w0 : World) (hl : l.length ≤ 16384) (hcw : w0.cell? ⟨bw, 1, none⟩ = some (.map (some bm))) (hown : w0.ownsMap Tryz.prog 3 (plainElem Tryz.prog 3) bm nn (mapD l)) :
    It Tryz.prog 49 #[.pointer (some ⟨bw, 0, none⟩)] encP (fun _ _ => False) (preR l) (fun k => k = bw ∨ k = bm) (allR l) (someR l) w0 := by
  intro l0 J Jx W hpW hsW hJ hJx hY h0
  have hWc : W.cell? ⟨bw, 1, none⟩ = some (.map (some bm)) := (World.cell?_of_block (hpW bw (.inl rfl))).trans hcw
  have hWm := owns_same hown (hpW bm (.inr rfl))
  have hpl : ∀ k, (k = bw ∨ k = bm) → k < W.heap.size := by
    rintro k (rfl | rfl)
    · exact lt_of_cell hWc
    · exact hWm.lt
  have HRS := Lib.hid (fun w => rising_any bw w)
  refine calls_marks Tryz.func49 rfl ?_
  simp only [Tryz.ntmps49, List.size_toArray, List.length_cons, List.length_nil, Nat.reduceAdd, Nat.reduceSub, Array.replicate_succ, Array.replicate_zero, List.push_toArray, List.append_toArray, List.nil_append, List.cons_append]
  go_wp2_with fail
  go_step3
  go_wp2_with fail
  refine wp_label ?_
  go_wp2_with fail
  refine (HRS.out _).mono ?_
  rintro e w2' ⟨rfl, rfl⟩
  obtain ⟨w2, hw2⟩ : ∃ w2, w2 = (W.alloc (.cells #[.func (.yield l0) #[] #[]] 112)).alloc (.cells #[bx bw] 122) := ⟨_, rfl⟩
  have hsz2 : w2.heap.size = W.heap.size + 2 := by rw [hw2]; simp
  have hb2 : Below W.heap.size W w2 := by rw [hw2]; exact below2 _ _ _
  have hcy : w2.cell? ⟨W.heap.size, 0, none⟩ = some (.func (.yield l0) #[] #[]) := by
    rw [hw2, World.cell?_alloc_lt _ _ _ (by simp)]
    exact cell_alloc_new _ _ _ _
  have hcs2 : w2.cell? ⟨W.heap.size + 1, 0, none⟩ = some (bx bw) := by
    rw [hw2]
    exact cell_new_at _ _ _ _ (by simp)
  have hj2 : J [] (fun _ => False) w2 := hJ.below h0 hb2
  have hit := rise1_it l (W.heap.size + 1) bw bm nn w2 hl hcs2 ((hb2.cell (p := ⟨bw, 1, none⟩) (hpl bw (.inl rfl))).trans hWc) (owns_same hWm (hb2.block _ (hpl bm (.inr rfl))))
  have hpl2 : ∀ k, (k = W.heap.size + 1 ∨ k = bw ∨ k = bm) → k < w2.heap.size ∧ (k = W.heap.size + 1 ∨ (k = bw ∨ k = bm)) := by
    rintro k (rfl | h | h)
    · exact ⟨by omega, .inl rfl⟩
    · have := hpl k (.inl h); exact ⟨by omega, .inr (.inl h)⟩
    · have := hpl k (.inr h); exact ⟨by omega, .inr (.inr h)⟩
  rw [← hw2]
  clear hw2 hWm hown
  go_wp2_with fail
  refine wpIn_wide.1 (wpIn_range_it (gf := 118) (lb := #[.pointer (some ⟨W.heap.size + 1, 0, none⟩)]) rfl (enters_of Tryz.func118 (by kernel_rfl) rfl) hit (fun k hk => (hpl2 k hk).1) (fun _ => rfl) (fun _ _ _ _ _ h => h)
    (aI l0 J W) (aX Jx W) ?hI ?hIx ?h0
    (fun x => { tmps := #[.func (.yield l0) #[] #[], .pointer (some ⟨bw, 0, none⟩), .pointer (some ⟨W.heap.size, 0, none⟩), .int .i64 (x.1 : Int), .int .i64 (x.2 : Int), .func (.func 118) #[] #[.pointer (some ⟨W.heap.size + 1, 0, none⟩)], .int .i64 (x.1 : Int), .int .i64 (x.2 : Int), undef, undef, undef, undef, undef], defers := [] }) ?assign ?body ?done ?stop)
  case assign =>
    intro l' x W' K hK
    simp only [encP]
    gi_wp2
    exact hK
  case h0 => exact ⟨fun _ => False, hj2, fun _ h => h.elim, fun _ h => h.elim, hcy⟩
  case hI =>
    rintro s' O' V V' row ⟨O, h2, h3, h4, h6⟩ hg hr
    have hne : ∀ k, k < w2.heap.size → some k ≠ row := fun k hk e => by have := (hr k e.symm).1; omega
    exact ⟨O, hJ _ _ _ _ row h2 hg (fun r e => ⟨by have := (hr r e).1; omega, fun h => (hr r e).2 (h3 r h)⟩), h3, h4, (World.cell?_of_block (hg.block _ (lt_of_cell h6) (hne W.heap.size (by omega)))).trans h6⟩
  case hIx =>
    rintro c' s' O' V V' row ⟨e0, O, h3, h4, hjx⟩ hg hr
    have hr' : ∀ r, row = some r → W.heap.size ≤ r ∧ ¬ O r := fun r e => ⟨by have := (hr r e).1; omega, fun h => (hr r e).2 (h3 r h)⟩
    exact ⟨e0, O, h3, h4, hJx _ _ _ _ row hjx hg hr'⟩
  case body =>
    rintro l' pre x O' V hVs hO' ⟨O, hj, hOO, hO5, hcy⟩ hpk _
    obtain ⟨fn, tmps, assign, body, hy, hR⟩ := hY pre x O V (by omega) (fun k h => by have := hO5 k h; have := hO' k (hOO k h); omega) hj hpk (fun b (h : False) => h.elim)
    have Hs2 := Lib.hid hsz2
    simp only [encP] at hy
    clear hj2 hit hsz2 hcs2 hWc hcw hpk HRS
    gi_wp2
    refine ⟨rfl, ?_⟩
    refine hR.mono ?_
    have keeps : ∀ W', Keeps (fun k => k = bw ∨ k = bm) W.heap.size O (fun _ => False) V W' → Keeps (fun k => k = W.heap.size + 1 ∨ k = bw ∨ k = bm) w2.heap.size O' (fun _ => False) V W' := fun W' hk => by
      have := Hs2.out
      refine ⟨hk.size, fun k hkl hp => ?_⟩
      rcases hp with h | ⟨h, h2, _⟩
      · rcases (hpl2 k h).2 with rfl | h3
        · exact hk.same _ hkl (.inr ⟨by omega, fun ho => by have := hO5 _ ho; omega, fun h => h⟩)
        · exact hk.same k hkl (.inl h3)
      · exact hk.same k hkl (.inr ⟨by omega, fun ho => h2 (hOO k ho), fun h => h⟩)
    have sub : ∀ W', V.heap.size ≤ W'.heap.size → (∀ k, nextO O (fun _ => False) V W' k → nextO O' (fun _ => False) V W' k) ∧ ∀ k, nextO O (fun _ => False) V W' k → W.heap.size + 4 ≤ k := fun W' hsW' => by
      have := Hs2.out
      refine ⟨fun k h => ?_, fun k h => ?_⟩
      · rcases h with h | h | h
        · exact .inl (hOO k h)
        · exact h.elim
        · exact .inr (.inr h)
      · rcases h with h | h | h
        · exact hO5 k h
        · exact h.elim
        · omega
    have Hkeeps := Lib.hid keeps
    have Hsub := Lib.hid sub
    clear keeps sub
    rintro e W' ⟨hk, (⟨rfl, hj'⟩ | ⟨rfl, hjx⟩)⟩
    · obtain ⟨s1, s2⟩ := Hsub.out W' hk.size
      have hfin : Hid (Keeps (fun k => k = W.heap.size + 1 ∨ k = bw ∨ k = bm) w2.heap.size O' (fun _ => False) V W' ∧ aI l0 J W (pre ++ [x]) (nextO O' (fun _ => False) V W') W') :=
        Lib.hid ⟨Hkeeps.out W' hk, _, hj', s1, s2, (World.cell?_of_block (hk.same W.heap.size (lt_of_cell hcy) (.inr ⟨Nat.le_refl _, fun h => by have := hO5 _ h; omega, fun h => h⟩))).trans hcy⟩
      clear s1 s2 hj' hk
      gi_wp2
      exact hfin.out
    · obtain ⟨s1, s2⟩ := Hsub.out W' hk.size
      have hfin : Hid (Keeps (fun k => k = W.heap.size + 1 ∨ k = bw ∨ k = bm) w2.heap.size O' (fun _ => False) V W' ∧ aX Jx W (.exit 0) (pre ++ [x]) (nextO O' (fun _ => False) V W') W') :=
        Lib.hid ⟨Hkeeps.out W' hk, rfl, _, s1, s2, hjx⟩
      clear s1 s2 hjx hk
      gi_wp2
      exact hfin.out
  case done =>
    rintro xs O' V hall ⟨O, hj, hOO, hO5, _⟩ hD
    have Hall := Lib.hid hall
    have hjD : J xs O (V.putObj w2.heap.size (.deferred none)) := hJ _ _ _ _ _ hj (putObj_grown V _ _) (fun r e => by cases e; exact ⟨by omega, fun h => by have := hO5 _ h; omega⟩)
    clear hall
    go_wp2
    refine ⟨by simp, .inl ⟨_, _, rfl, run_takeDeferred hD, ?_⟩⟩
    exact ⟨_, results_none rfl _ _ _, itEnd.all Hall.out hjD⟩
  case stop =>
    rintro c' pre' O' V hsp ⟨rfl, O, hOO, hO5, hjx⟩ hD
    have hOD : ∀ r, some w2.heap.size = some r → W.heap.size ≤ r ∧ ¬ O r := fun r e => by cases e; exact ⟨by omega, fun h => by have := hO5 _ h; omega⟩
    have hend : Hid (itEnd (allR l) (someR l) J Jx (.returned (.tuple #[])) (V.putObj w2.heap.size (.deferred none))) := Lib.hid (itEnd.part hsp (hJx _ _ _ _ _ hjx (putObj_grown V _ _) hOD))
    clear hsp hjx
    refine wpIn_wide.2 ?_
    go_wp2
    refine ⟨by simp, .inl ⟨_, _, rfl, run_takeDeferred hD, ?_⟩⟩
    exact ⟨_, results_none rfl _ _ _, hend.out⟩

def AllP (w : World) (l : List (Option Nat)) (e : Ending) (w' : World) : Prop :=
  ∃ bw bm, e = .returned (.func (.func 49) #[] #[.pointer (some ⟨bw, 0, none⟩)]) ∧ w.heap.size ≤ bw ∧ w.heap.size ≤ bm ∧
    w'.cell? ⟨bw, 1, none⟩ = some (.map (some bm)) ∧ w'.ownsMap Tryz.prog 3 (plainElem Tryz.prog 3) bm 16384 (mapD l) ∧ Below w.heap.size w w'
set_option maxRecDepth 100000 in
set_option maxHeartbeats 1000000 in
theorem allF_any {b : Nat} {p : Pl} {F : Nat → Prop} {w : World} (h : Has w b p F) : Calls Tryz.prog 12 #[bx b] w (AllP w (owns p.fr)) := by
  obtain ⟨bm0, fv, sv, fb, gf, gs, hr, rfl⟩ := h
  have hb1 := below1 w (.cells Tryz.zeroCells94 94)
  have hr1 := hr.below hb1
  have hbl := hr.obj.lt
  have H1 := Lib.hid (there_map b bm0 _ hr1.c1)
  have c1 := hr1.c1
  have hnew : (w.alloc (.cells Tryz.zeroCells94 94)).heap[w.heap.size]? = some (.cells Tryz.zeroCells94 94 (0, 0)) := World.alloc_heap_new w _
  have H2 := Lib.hid (show Calls Tryz.prog 46 #[.map (some bm0)] (w.alloc (.cells Tryz.zeroCells94 94)) (fun e w' => e = .returned (.map (some (w.heap.size + 1))) ∧ (w'.cell? ⟨w.heap.size, 1, none⟩ = some (.map none) ∧ w'.frozen? ⟨w.heap.size, 1, none⟩ = false) ∧
      AllP w (owns p.fr) (.returned (.func (.func 49) #[] #[.pointer (some ⟨w.heap.size, 0, none⟩)])) (w'.setCell ⟨w.heap.size, 1, none⟩ (.map (some (w.heap.size + 1))))) from by
    refine (clone_any bm0 16384 (mapD (owns p.fr)) _ hr1.map).mono ?_
    rintro e w' ⟨rfl, hm, hb⟩
    rw [World.size_alloc] at hm hb ⊢
    have hk : w'.heap[w.heap.size]? = some (.cells Tryz.zeroCells94 94 (0, 0)) := (hb.block _ (by omega)).trans hnew
    refine ⟨rfl, ⟨?_, by simp [World.frozen?, hk]⟩, w.heap.size, w.heap.size + 1, rfl, Nat.le_refl _, by omega, ?_, ?_, ?_⟩
    · simp only [World.cell?, hk]
      kernel_rfl
    · have := set_cells (o := 1) (.map (some (w.heap.size + 1))) hk
      unfold World.cell?
      rw [this]
      show (Tryz.zeroCells94.setIfInBounds 1 (Value.map (some (w.heap.size + 1))))[1]? = _
      rw [Array.getElem?_setIfInBounds_self_of_lt (by decide +kernel)]
    · exact owns_same hm (heap_set (by omega))
    · exact (hb1.trans (hb.mono (by omega))).setCell (Nat.le_refl _) _)
  clear hr hr1 hnew hb1
  go_enter Tryz.func12, Tryz.ntmps12
  go_wp2_with fail
  refine (H1.out).mono ?_
  rintro e w1 ⟨rfl, rfl⟩
  go_wp2_with fail
  refine (H2.out).mono ?_
  rintro e w2 ⟨rfl, ⟨d1, d2⟩, hfin⟩
  have HF := Lib.hid hfin
  clear hfin H1 H2 c1
  go_wp2
  go_ret
  exact HF.out
end Go.Proofs.YtmbjjbgpcacoeaaGreat

namespace Go.Proofs.YtmbjjbgpcacoeaaGreat
open Go.RowKit Go.Shelf

/- A LIST THAT IS GATHERED FROM AN ITERATOR: 'for x := range g { l = append(l, x); if len(l) >= many { break } }'; elements of kk cells. -/

section
variable {α : Type} {ti ts te : TypeId} {enc : α → List Value} {kk : Nat} {w : World} {B2 many : Nat}
/-- what holds between two of the places: the list lies in block bl, how many in block bm -/
def GatK (ti ts te : TypeId) (enc : α → List Value) (kk : Nat) (w : World) (bm bl B2 : Nat) (many : Nat) (pre : List α) (O : Nat → Prop) (V : World) : Prop :=
  ∃ v, Boxed V bl ts v ∧ Boxed V bm ti (.int .i64 (many : Int)) ∧ V.ownsRow B2 te kk v pre.length (pre.flatMap enc) ∧ (∀ k, v.ownBlock = some k → O k) ∧ Below w.heap.size w V
theorem GatK.abid {bm bl : Nat} (h : bm < B2 ∧ bl < B2 ∧ w.heap.size ≤ B2) : Abid B2 (GatK ti ts te enc kk w bm bl B2 many) := by
  rintro pre O V V' row ⟨v, h1, h2, h3, h4, h6⟩ hg hr
  have hne : ∀ k, (k < B2 ∨ O k) → some k ≠ row := fun k hk e => by
    have := hr k e.symm
    rcases hk with hk | hk
    · omega
    · exact this.2 hk
  exact ⟨v, h1.kept hg (hne _ (.inl (by omega))), h2.kept hg (hne _ (.inl (by omega))), own_same h3 (fun k hk => hg.block k (own_lt h3 hk) (hne k (.inr (h4 k hk)))), h4,
    h6.grown hg h6.size (fun k e => by have := hr k e; omega)⟩
def gatKI (ti ts te : TypeId) (enc : α → List Value) (kk : Nat) (w : World) (bm bl B2 : Nat) (many : Nat) (pre : List α) (O : Nat → Prop) (V : World) : Prop := GatK ti ts te enc kk w bm bl B2 many pre O V ∧ pre.length < many ∧ ∀ k, O k → B2 + 2 ≤ k
def gatKX (ti ts te : TypeId) (enc : α → List Value) (kk : Nat) (w : World) (bm bl B2 : Nat) (many : Nat) (c : Code) (pre : List α) (O : Nat → Prop) (V : World) : Prop := c = .exit 0 ∧ GatK ti ts te enc kk w bm bl B2 many pre O V ∧ pre.length = many ∧ ∀ k, O k → B2 + 2 ≤ k
theorem gatKI.abid {bm bl : Nat} (h : bm < B2 ∧ bl < B2 ∧ w.heap.size ≤ B2) : Abid B2 (gatKI ti ts te enc kk w bm bl B2 many) :=
  fun s O V V' row hp hg hr => ⟨GatK.abid h s O V V' row hp.1 hg hr, hp.2⟩
theorem gatKX.abid {bm bl : Nat} (h : bm < B2 ∧ bl < B2 ∧ w.heap.size ≤ B2) (c : Code) : Abid B2 (gatKX ti ts te enc kk w bm bl B2 many c) :=
  fun s O V V' row hp hg hr => ⟨hp.1, GatK.abid h s O V V' row hp.2.1 hg hr, hp.2.2⟩
end
/-- what a round does -/
theorem gatK_round {α : Type} {ti ts te : TypeId} {enc : α → List Value} {kk : Nat} {x : α} {w V w4 : World} {bm bl B2 many g4 cap4 cv : Nat} {Pv : Nat → Prop} {pre : List α} {O : Nat → Prop} {Av : Option Addr} {o : Obj} (hbx : bm < B2 ∧ bl < B2 ∧ w.heap.size ≤ B2) (hbl0 : w.heap.size ≤ bl) (hmb : bm ≠ bl) (hPv : ∀ k, Pv k → k < B2 ∧ k ≠ bl)
    (hOw : ∀ k, O k → B2 + 2 ≤ k) (hvO : ∀ k, (Value.slice Av pre.length cv).ownBlock = some k → O k) (hVs : B2 + 2 ≤ V.heap.size)
    (hown4 : w4.ownsRow B2 te kk (.slice (some ⟨g4, 0, none⟩) (pre.length + 1) cap4) (pre.length + 1) (pre.flatMap enc ++ enc x))
    (hg4 : (V.alloc o).grownBy w4 (Value.slice Av pre.length cv).ownBlock) (hv4 : (Value.slice (some ⟨g4, 0, none⟩) (pre.length + 1) cap4).ownBlock = (Value.slice Av pre.length cv).ownBlock ∨ (Value.slice (some ⟨g4, 0, none⟩) (pre.length + 1) cap4).ownBlock = some (V.alloc o).heap.size)
    (hbx4 : Boxed w4 bl ts (.slice Av pre.length cv)) (hbm4 : Boxed w4 bm ti (.int .i64 (many : Int))) (hbl : Below w.heap.size w V) (hsz : (V.alloc o).heap.size = V.heap.size + 1) :
    Keeps Pv B2 O (fun _ => False) V (w4.setCell ⟨bl, 0, none⟩ (.slice (some ⟨g4, 0, none⟩) (pre.length + 1) cap4)) ∧
      GatK ti ts te enc kk w bm bl B2 many (pre ++ [x]) (nextO O (fun _ => False) V (w4.setCell ⟨bl, 0, none⟩ (.slice (some ⟨g4, 0, none⟩) (pre.length + 1) cap4))) (w4.setCell ⟨bl, 0, none⟩ (.slice (some ⟨g4, 0, none⟩) (pre.length + 1) cap4)) ∧
      ∀ k, nextO O (fun _ => False) V (w4.setCell ⟨bl, 0, none⟩ (.slice (some ⟨g4, 0, none⟩) (pre.length + 1) cap4)) k → B2 + 2 ≤ k := by
  have hgs := hg4.size
  rw [hsz] at hgs
  obtain ⟨w5, hw5⟩ : ∃ w5, w5 = w4.setCell ⟨bl, 0, none⟩ (.slice (some ⟨g4, 0, none⟩) (pre.length + 1) cap4) := ⟨_, rfl⟩
  have hs5 : w5.heap.size = w4.heap.size := by rw [hw5]; simp [World.setCell]
  have hk5 : ∀ k, k ≠ bl → w5.heap[k]? = w4.heap[k]? := fun k hk => by rw [hw5]; exact Below.heap_setCell _ _ _ _ hk
  have hB5 : Boxed w5 bl ts (.slice (some ⟨g4, 0, none⟩) (pre.length + 1) cap4) := by rw [hw5]; exact hbx4.set _
  have hM5 : Boxed w5 bm ti (.int .i64 (many : Int)) := (hk5 _ hmb).trans hbm4
  have hwV := hbl.size
  have hb5 : Below w.heap.size w w5 := by
    rw [hw5]
    exact ((hbl.alloc hwV o).grown hg4 (by omega) (fun k hk => by have := hOw _ (hvO k hk); omega)).setCell hbl0 _
  rw [← hw5]
  refine ⟨⟨by omega, fun k hkl hp => ?_⟩, ⟨_, hB5, hM5, ?_, ?_, hb5⟩, nextO_ge hOw (fun _ h => h.elim) hVs⟩
  · have hno : ¬ O k := by
      rcases hp with h | ⟨_, h, _⟩
      · exact fun ho => by have := hOw k ho; have := (hPv k h).1; omega
      · exact h
    have hne : k ≠ bl := by
      rcases hp with h | ⟨h, _⟩
      · exact (hPv k h).2
      · omega
    exact (hk5 k hne).trans ((hg4.block k (by omega) (fun e => hno (hvO k e.symm))).trans (Below.heap_alloc _ _ _ hkl))
  · rw [List.length_append, List.length_singleton, show (pre ++ [x]).flatMap enc = pre.flatMap enc ++ enc x by simp]
    exact own_same hown4 (fun k e => hk5 k (by have := (hown4.lt k e).1; omega))
  · intro k hk
    have hlt := (hown4.lt k hk).2
    rcases hv4 with h | h
    · exact .inl (hvO k (h ▸ hk))
    · rw [hk] at h
      injection h with h
      exact .inr (.inr ⟨by omega, by omega⟩)

end Go.Proofs.YtmbjjbgpcacoeaaGreat

namespace Go.Proofs.YtmbjjbgpcacoeaaGreat
open Go.RowKit Go.Shelf Go.Maps Go.Sort
attribute [local go_sem] Oper.semAt_some

/- THE LAW's LIST OF THE FRAMES THAT ARE SOMEBODY's. -/

def encR (x : Nat × Nat) : List Value := [.int .i64 (x.1 : Int), .int .i64 (x.2 : Int)]
theorem row_info : (Tryz.prog.info? 51).map (fun i => (i.zero, i.size, i.bytes)) = some (some (.agg #[.int .i64 0, .int .i64 0]), 2, 16) := by kernel_rfl
/-- rows in memory -/
def RowsP (w : World) (xs : List (Nat × Nat)) (e : Ending) (w' : World) : Prop := ∃ A c, e = .returned (.slice A xs.length c) ∧ w'.ownsRow w.heap.size 51 2 (.slice A xs.length c) xs.length (xs.flatMap encR) ∧ Below w.heap.size w w'
theorem got_done {l : List (Option Nat)} {xs : List (Nat × Nat)} {many : Nat} (h : allR l xs) (hm : xs.length < many) : xs = (rowsN l).take many := by
  rw [← show xs = rowsN l from h, List.take_of_length_le (by omega)]
theorem got_stop {l : List (Option Nat)} {xs : List (Nat × Nat)} {many : Nat} (h : someR l xs) (hm : xs.length = many) : xs = (rowsN l).take many := by
  obtain ⟨post, h⟩ := h
  rw [h, ← hm, List.take_left]
theorem cells_two_new (w : World) (a b : Value) (t : TypeId) : ∀ (j : Nat) (u : Value), [a, b][j]? = some u → (w.alloc (.cells #[a, b] t)).cell? ((⟨w.heap.size, 0, none⟩ : Addr).add j) = some u := fun j u hu => by
  rw [add_plain, Nat.zero_add, cell_alloc_new]
  simpa using hu

set_option maxRecDepth 100000 in
set_option maxHeartbeats 2000000 in
theorem all_any {b : Nat} {p : Pl} {F : Nat → Prop} {w : World} (h : Has w b p F) (many : Nat) (hm1 : 1 ≤ many) (hm : many ≤ 100000) :
    Calls Tryz.prog 57 #[bx b, .int .i64 (many : Int)] w (RowsP w ((rowsN (owns p.fr)).take many)) := by
  have hnn : ∀ bo w, (binOp .eql 43 (.func (.func 49) #[] #[.pointer (some ⟨bo, 0, none⟩)]) .nilFunc).run Tryz.prog w = .ok (.bool false) w := fun bo w => by kernel_rfl
  obtain ⟨i0, hi, hz0, hz1, hz2⟩ := info_parts row_info
  have hmost : (owns p.fr).length ≤ 16384 := by rw [owns_len]; exact h.ok.most
  have HA := Lib.hid (fun V (hb : Below w.heap.size w V) => allF_any (h.below hb))
  obtain ⟨l, hl⟩ : ∃ l, l = owns p.fr := ⟨_, rfl⟩
  rw [← hl] at hmost HA ⊢
  clear hl h
  refine calls_marks Tryz.func57 rfl ?_
  simp only [Tryz.ntmps57, List.size_toArray, List.length_cons, List.length_nil, Nat.reduceAdd, Nat.reduceSub, Array.replicate_succ, Array.replicate_zero, List.push_toArray, List.append_toArray, List.nil_append, List.cons_append]
  go_wp2_with fail
  refine (HA.out _ (below2 _ _ _)).mono ?_
  rintro e w2 ⟨bw1, bm1, rfl, _, _, _, _, hb1⟩
  have hnn1 := hnn bw1 w2
  have hs2 : w.heap.size + 2 ≤ w2.heap.size := by have := hb1.size; simpa using this
  have hM2 : Boxed w2 w.heap.size 3 (.int .i64 (many : Int)) := (hb1.block _ (by simp only [World.size_alloc]; omega)).trans ((Boxed.new w _ _).alloc _)
  have hL2 : Boxed w2 (w.heap.size + 1) 49 (.slice none 0 0) := (hb1.block _ (by simp only [World.size_alloc]; omega)).trans (by have := Boxed.new (w.alloc (.cells #[.int .i64 (many : Int)] 3)) 49 (.slice none 0 0); rwa [World.size_alloc] at this)
  have hB2 : Below w.heap.size w w2 := (below2 _ _ _).trans (hb1.mono (by simp only [World.size_alloc]; omega))
  clear hb1 hnn
  go_wp2_with fail
  refine (HA.out _ hB2).mono ?_
  rintro e w3 ⟨bw, bm, rfl, hbw, hbm0, hcw, hown0, hb2⟩
  have hs3 : w.heap.size + 2 ≤ w3.heap.size := by have := hb2.size; omega
  have hM3 : Boxed w3 w.heap.size 3 (.int .i64 (many : Int)) := (hb2.block _ (by omega)).trans hM2
  have hL3 : Boxed w3 (w.heap.size + 1) 49 (.slice none 0 0) := (hb2.block _ (by omega)).trans hL2
  have hB3 : Below w.heap.size w w3 := hB2.trans (hb2.mono (by omega))
  have hit := all1_it l bw bm 16384 w3 hmost hcw hown0
  have hPv : ∀ k, (k = bw ∨ k = bm) → k < w3.heap.size ∧ k ≠ w.heap.size + 1 := by
    rintro k (rfl | rfl)
    · exact ⟨lt_of_cell hcw, by omega⟩
    · exact ⟨hown0.lt, by omega⟩
  clear hM2 hL2 hB2 hb2 hcw hown0 HA
  go_wp2_with fail
  refine wpIn_wide.1 (wpIn_range_it (gf := 49) (lb := #[.pointer (some ⟨bw, 0, none⟩)]) rfl (enters_of Tryz.func49 (by kernel_rfl) rfl) hit (fun k hk => (hPv k hk).1) (fun _ => rfl) (fun _ _ _ _ _ h => h)
    (gatKI 3 49 51 encR 2 w w.heap.size (w.heap.size + 1) w3.heap.size many) (gatKX 3 49 51 encR 2 w w.heap.size (w.heap.size + 1) w3.heap.size many) (gatKI.abid (by omega)) (gatKX.abid (by omega)) ?h0
    (fun x => { tmps := #[bx b, .int .i64 (many : Int), undef, .pointer (some ⟨w.heap.size, 0, none⟩), .slice none 0 0, .pointer (some ⟨w.heap.size + 1, 0, none⟩), .int .i64 (x.1 : Int), .int .i64 (x.2 : Int), bx b, .func (.func 49) #[] #[.pointer (some ⟨bw1, 0, none⟩)], .bool false, bx b, .func (.func 49) #[] #[.pointer (some ⟨bw, 0, none⟩)], .int .i64 (x.1 : Int), .int .i64 (x.2 : Int), undef, undef, undef, undef, undef, undef, undef, undef, undef, undef, undef], defers := [] }) ?assign ?body ?done ?stop)
  case h0 => exact ⟨⟨_, hL3, hM3, World.ownsRow_nil _ _ _ _, fun k h => (by cases h), hB3⟩, by simp; omega, fun _ h => h.elim⟩
  case assign =>
    intro l' x W' K hK
    simp only [encP]
    gi_wp2
    exact hK
  case body =>
    rintro l' pre x O V hVs hO ⟨⟨v, hbx, hbm, hown, hvO, hbl⟩, hlen, hOw⟩ hx _
    have hn : pre.length ≤ 100000 := by omega
    clear hx hnn1 hit hM3 hL3
    obtain ⟨Av, cv, rfl⟩ := own_slice hown
    have hown1 := hown.alloc (.cells #[.int .i64 (x.1 : Int), .int .i64 (x.2 : Int)] 51)
    have hbx1 := hbx.alloc (.cells #[.int .i64 (x.1 : Int), .int .i64 (x.2 : Int)] 51)
    have hbm1 := hbm.alloc (.cells #[.int .i64 (x.1 : Int), .int .i64 (x.2 : Int)] 51)
    have hce := hbx.cell
    have hce1 := hbx1.cell
    have hb1 := hbx.not_row (by decide) hown
    have hb2 : some w.heap.size ≠ (Value.slice Av pre.length cv).ownBlock := fun e => by have := hOw _ (hvO _ e.symm); omega
    clear hbx hbm
    gi_wp2_with (gi_at_builtin; refine wpListIn_append_sees rfl (.tmp 15) (.tmp 19) 49 rfl w3.heap.size 51 i0 _ 2 16 Tryz.underlying49 hi hz0 hz1 hz2 rfl (by decide) _ pre.length (pre.flatMap encR) rfl hown1 (V.heap.size + 1) (some ⟨V.heap.size, 0, none⟩) 1 1 (encR x) rfl rfl (fun _ => ⟨_, rfl, by simp, cells_two_new _ _ _ _⟩) (by simp [encR, Value.oneCell']) (by unfold maxLen; omega) (by omega) (by simp; omega) ?_; intro v' w4 hown4 hg4 hv4; obtain ⟨g4, cap4, rfl⟩ := ownsRow_succ hown4; have hbx4 := hbx1.kept hg4 hb1; have hbm4 := hbm1.kept hg4 hb2; have hx4c := hbx4.cell; have hx4f := hbx4.frozen; have hm4c := hbm4.cell)
    all_goals
      have hg5 : (V.alloc (.cells #[.int .i64 (x.1 : Int), .int .i64 (x.2 : Int)] 51)).grownBy w4 (Value.slice Av pre.length cv).ownBlock := hg4
      have hfin := Lib.hid (gatK_round (x := x) (by omega) (by omega) (by omega) hPv hOw hvO hVs hown4 hg5 hv4 hbx4 hbm4 hbl (by simp))
    · obtain ⟨k1, k2, k3⟩ := hfin.out
      exact ⟨k1, rfl, k2, by simp; omega, k3⟩
    · obtain ⟨k1, k2, k3⟩ := hfin.out
      exact ⟨k1, k2, by simp; omega, k3⟩
  case done =>
    intro xs O V hall hI hD
    have hnO : ¬ O w3.heap.size := fun h => by have := hI.2.2 _ h; omega
    obtain ⟨v, hbx, hbm, hown, hvO, hbl⟩ := hI.1
    obtain ⟨v1, hbx', _, hown', _, hbl'⟩ := GatK.abid (by omega) _ _ _ _ (some w3.heap.size) hI.1 (putObj_grown V w3.heap.size (.deferred none)) (fun r e => by cases e; exact ⟨Nat.le_refl _, hnO⟩)
    have hvv : v = v1 := by
      have h := hbx.kept (putObj_grown V w3.heap.size (.deferred none)) (by simp; omega)
      have h1 := h.cell.symm.trans hbx'.cell
      injection h1
    subst hvv
    obtain ⟨Av, cv, rfl⟩ := own_slice hown
    have hcv := hbx.cell
    have hfin := Lib.hid (show RowsP w ((rowsN l).take many) (.returned (.slice Av xs.length cv)) (V.putObj w3.heap.size (.deferred none)) from by
      rw [← got_done hall hI.2.1]
      exact ⟨_, _, rfl, own_mono hown' (by omega), hbl'⟩)
    clear hall hI hbx hbm hown hvO hbl hbx' hown' hbl'
    go_wp2
    refine ⟨by simp, .inl ⟨_, _, rfl, run_takeDeferred hD, ?_⟩⟩
    exact ⟨_, results_tmp (t := 4) rfl _ _ _, hfin.out⟩
  case stop =>
    rintro c' xs O V hall ⟨rfl, hI, hlen, hOw⟩ hD
    have hnO : ¬ O w3.heap.size := fun h => by have := hOw _ h; omega
    have hI2 := hI
    obtain ⟨v, hbx, hbm, hown, hvO, hbl⟩ := hI
    obtain ⟨v1, hbx', _, hown', _, hbl'⟩ := GatK.abid (by omega) _ _ _ _ (some w3.heap.size) hI2 (putObj_grown V w3.heap.size (.deferred none)) (fun r e => by cases e; exact ⟨Nat.le_refl _, hnO⟩)
    have hvv : v = v1 := by
      have h := hbx.kept (putObj_grown V w3.heap.size (.deferred none)) (by simp; omega)
      have h1 := h.cell.symm.trans hbx'.cell
      injection h1
    subst hvv
    obtain ⟨Av, cv, rfl⟩ := own_slice hown
    have hcv := hbx.cell
    have hfin := Lib.hid (show RowsP w ((rowsN l).take many) (.returned (.slice Av xs.length cv)) (V.putObj w3.heap.size (.deferred none)) from by
      rw [← got_stop hall hlen]
      exact ⟨_, _, rfl, own_mono hown' (by omega), hbl'⟩)
    clear hall hI2 hbx hbm hown hvO hbl hbx' hown' hbl' hlen
    refine wpIn_wide.2 ?_
    go_wp2
    refine ⟨by simp, .inl ⟨_, _, rfl, run_takeDeferred hD, ?_⟩⟩
    exact ⟨_, results_tmp (t := 4) rfl _ _ _, hfin.out⟩
end Go.Proofs.YtmbjjbgpcacoeaaGreat
