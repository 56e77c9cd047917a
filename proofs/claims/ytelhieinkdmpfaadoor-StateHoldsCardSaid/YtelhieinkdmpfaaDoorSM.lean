import Derived.Test.YtelhieinkdmpfaaDoorSL
namespace Go.Proofs.YtelhieinkdmpfaaDoor.Sh
open Go.RowKit Go.Shelf
attribute [local go_sem] Oper.semAt_some

/- A LAW's OWN SHEET; THE CHAPTER's ROWS. -/
/-- a law's own sheet -/
def Run (Has : HasT) (w : World) (v : Value) (l : Ls) (V : World) : Prop := ∃ F, Has V v l F ∧ (∀ k, F k → w.heap.size ≤ k) ∧ Below w.heap.size w V
section
variable {Has : HasT} (H : Api Has) {w V V' : World} {v : Value} {l l' : Ls}
include H
theorem Run.more (h : Run Has w v l V) (hb : Below V.heap.size V V') : Run Has w v l V' := by
  obtain ⟨F, h1, h2, h3⟩ := h
  exact ⟨F, H.below h1 hb, h2, below0 h3 hb⟩
theorem Run.move (hT : Tb w) (h : Run Has w v l V) (a t x y : Int) (ha : i64 a) (ht : i64 t) (hw : moveW l a t = x) (he : moveE l a t = y) (hl : moveL l a t = l') : Calls Tryd.prog 15 #[v, .int .i64 a, .int .i64 t] V fun e V' => e = .returned (.tuple #[.int .i64 x, .int .i64 y]) ∧ Run Has w v l' V' := by
  obtain ⟨F, h1, h2, h3⟩ := h
  refine (H.move a t (hT.below h3) h1 ha ht).mono ?_
  rintro e V' ⟨e1, F', n1, n2, n3⟩
  subst hl
  have hs := h3.size
  exact ⟨by rw [e1, hw, he], F', n1, fun k hk => (n3 k hk).elim (h2 k) (fun h => by omega), h3.trans (n2.below h2 hs)⟩
theorem Run.count (h : Run Has w v l V) (x : Int) (n : Int) (hx : i64 x) (hn : ((places l x).length : Int) = n) : Calls Tryd.prog 19 #[v, .int .i64 x] V fun e V' => e = .returned (.int .i64 n) ∧ Run Has w v l V' := by
  have h0 := h
  obtain ⟨F, h1, h2, h3⟩ := h
  exact (H.count x h1 hx).mono fun e V' ⟨e1, hb⟩ => ⟨by rw [e1, hn], Run.more H h0 hb⟩
theorem Run.text (h : Run Has w v l V) (T : ByteArray) (ht : str (text l) = T) : Calls Tryd.prog 21 #[v] V fun e V' => e = .returned (.string T) ∧ Run Has w v l V' := by
  have h0 := h
  obtain ⟨F, h1, h2, h3⟩ := h
  exact (H.text h1).mono fun e V' ⟨e1, hb⟩ => ⟨by rw [e1, ht], Run.more H h0 hb⟩
theorem run_new (n : Nat) (hn : n ≤ 256) (l : Ls) (hl : zs n = l) : Calls Tryd.prog 13 #[.int .i64 (n : Int)] w fun e V => ∃ v, e = .returned (.tuple #[v, .int .i64 0]) ∧ Run Has w v l V := by
  subst hl
  exact (H.new w n hn).mono fun e V ⟨v, F, e1, e2, e3, e4⟩ => ⟨v, e1, F, e2, e3, e4⟩
end
structure Nine (Has : HasT) (L1 L2 L3 L4 : Ls) : Prop where
  n1 : ∀ w : World, Calls Tryd.prog 13 #[.int .i64 2] w fun e V => ∃ v, e = .returned (.tuple #[v, .int .i64 0]) ∧ Run Has w v L1 V
  m1 : ∀ (w V : World) (v : Value), Tb w → Run Has w v L1 V → Calls Tryd.prog 15 #[v, .int .i64 0, .int .i64 1] V fun e V' => e = .returned (.tuple #[.int .i64 0, .int .i64 0]) ∧ Run Has w v L2 V'
  m2 : ∀ (w V : World) (v : Value), Tb w → Run Has w v L2 V → Calls Tryd.prog 15 #[v, .int .i64 0, .int .i64 2] V fun e V' => e = .returned (.tuple #[.int .i64 1, .int .i64 0]) ∧ Run Has w v L3 V'
  m3 : ∀ (w V : World) (v : Value), Tb w → Run Has w v L3 V → Calls Tryd.prog 15 #[v, .int .i64 1, .int .i64 2] V fun e V' => e = .returned (.tuple #[.int .i64 0, .int .i64 240]) ∧ Run Has w v L3 V'
  t1 : ∀ (w V : World) (v : Value), Run Has w v L3 V → Calls Tryd.prog 21 #[v] V fun e V' => e = .returned (.string ⟨#[108, 102]⟩) ∧ Run Has w v L3 V'
  m4 : ∀ (w V : World) (v : Value), Tb w → Run Has w v L3 V → Calls Tryd.prog 15 #[v, .int .i64 0, .int .i64 4] V fun e V' => e = .returned (.tuple #[.int .i64 2, .int .i64 0]) ∧ Run Has w v L4 V'
  m5 : ∀ (w V : World) (v : Value), Tb w → Run Has w v L4 V → Calls Tryd.prog 15 #[v, .int .i64 0, .int .i64 0] V fun e V' => e = .returned (.tuple #[.int .i64 0, .int .i64 240]) ∧ Run Has w v L4 V'
  c1 : ∀ (w V : World) (v : Value), Run Has w v L4 V → Calls Tryd.prog 19 #[v, .int .i64 4] V fun e V' => e = .returned (.int .i64 1) ∧ Run Has w v L4 V'
  m6 : ∀ (w V : World) (v : Value), Tb w → Run Has w v L4 V → Calls Tryd.prog 15 #[v, .int .i64 2, .int .i64 1] V fun e V' => e = .returned (.tuple #[.int .i64 0, .int .i64 4]) ∧ Run Has w v L4 V'
  m7 : ∀ (w V : World) (v : Value), Tb w → Run Has w v L4 V → Calls Tryd.prog 15 #[v, .int .i64 0, .int .i64 9] V fun e V' => e = .returned (.tuple #[.int .i64 0, .int .i64 2]) ∧ Run Has w v L4 V'
  p1 : ∀ w : World, Calls Tryd.prog 26 #[.string ⟨#[102, 120]⟩] w fun e w' => e = .returned (.tuple #[.pointer none, .int .i64 241]) ∧ Below w.heap.size w w'
  s1 : ∀ (w V : World) (v : Value), Tb w → Run Has w v L4 V → Calls Tryd.prog 10 #[.int .i64 3] V fun e V' => e = .returned (.string ⟨#[104, 101, 108, 100]⟩) ∧ Below V.heap.size V V'
  more : ∀ (w V V' : World) (v : Value), Run Has w v L4 V → Below V.heap.size V V' → Run Has w v L4 V'
theorem small_i64 {z : Int} (h : -1000 ≤ z ∧ z ≤ 1000) : i64 z := ⟨by omega, by omega⟩
theorem nine {Has : HasT} (H : Api Has) : Nine Has [0, 0] [1, 0] [2, 0] [4, 0] where
  n1 := fun _ => run_new H 2 (by omega) _ rfl
  m1 := fun _ _ _ hT h => Run.move H hT h 0 1 _ _ (small_i64 (by omega)) (small_i64 (by omega)) rfl rfl rfl
  m2 := fun _ _ _ hT h => Run.move H hT h 0 2 _ _ (small_i64 (by omega)) (small_i64 (by omega)) rfl rfl rfl
  m3 := fun _ _ _ hT h => Run.move H hT h 1 2 _ _ (small_i64 (by omega)) (small_i64 (by omega)) rfl rfl rfl
  t1 := fun _ _ _ h => Run.text H h _ rfl
  m4 := fun _ _ _ hT h => Run.move H hT h 0 4 _ _ (small_i64 (by omega)) (small_i64 (by omega)) rfl rfl rfl
  m5 := fun _ _ _ hT h => Run.move H hT h 0 0 _ _ (small_i64 (by omega)) (small_i64 (by omega)) rfl rfl rfl
  c1 := fun _ _ _ h => Run.count H h 4 1 (small_i64 (by omega)) rfl
  m6 := fun _ _ _ hT h => Run.move H hT h 2 1 _ _ (small_i64 (by omega)) (small_i64 (by omega)) rfl rfl rfl
  m7 := fun _ _ _ hT h => Run.move H hT h 0 9 _ _ (small_i64 (by omega)) (small_i64 (by omega)) rfl rfl rfl
  p1 := fun w => H.parseNo _ w (by show 2 ≤ maxLen; unfold maxLen; omega) (.inr rfl)
  s1 := fun _ V _ hT h => H.name 3 V (hT.below h.choose_spec.2.2) (small_i64 (by omega))
  more := fun _ _ _ _ h hb => Run.more H h hb
set_option maxRecDepth 100000 in
set_option maxHeartbeats 4000000 in
theorem works_any {Has : HasT} (HA : Api Has) (w : World) (hT : Tb w) : Calls Tryd.prog 12 #[] w fun e w' => e = .returned (.bool true) ∧ Below w.heap.size w w' := by
  obtain ⟨L1, L2, L3, L4, S⟩ : ∃ L1 L2 L3 L4, Nine Has L1 L2 L3 L4 := ⟨_, _, _, _, nine HA⟩
  have H := Lib.hid S
  have HT := Lib.hid hT
  have hn := Lib.hid (fun n w => num_any n w)
  clear S HA hT
  go_enter Tryd.func12, Tryd.ntmps12
  go_wp2_with fail
  refine (H.out.n1 _).mono ?_
  rintro e w0 ⟨v, rfl, R⟩
  have R0 := Lib.hid R
  clear R
  go_wp2_with fail
  refine (H.out.m1 _ _ _ HT.out R0.out).mono ?_
  rintro e w1 ⟨rfl, R⟩
  have R1 := Lib.hid R
  clear R R0
  go_wp2_with fail
  refine (H.out.m2 _ _ _ HT.out R1.out).mono ?_
  rintro e w2 ⟨rfl, R⟩
  have R2 := Lib.hid R
  clear R R1
  go_wp2_with fail
  refine (H.out.m3 _ _ _ HT.out R2.out).mono ?_
  rintro e w3 ⟨rfl, R⟩
  have R3 := Lib.hid R
  clear R R2
  go_wp2_with fail
  refine (H.out.t1 _ _ _ R3.out).mono ?_
  rintro e w4 ⟨rfl, R⟩
  have R4 := Lib.hid R
  clear R R3
  go_wp2_with fail
  refine (H.out.m4 _ _ _ HT.out R4.out).mono ?_
  rintro e w5 ⟨rfl, R⟩
  have R5 := Lib.hid R
  clear R R4
  go_wp2_with fail
  refine (H.out.m5 _ _ _ HT.out R5.out).mono ?_
  rintro e w6 ⟨rfl, R⟩
  have R6 := Lib.hid R
  clear R R5
  go_wp2_with fail
  refine (H.out.c1 _ _ _ R6.out).mono ?_
  rintro e w7 ⟨rfl, R⟩
  have R7 := Lib.hid R
  clear R R6
  go_wp2_with fail
  refine (H.out.m6 _ _ _ HT.out R7.out).mono ?_
  rintro e w8 ⟨rfl, R⟩
  have R8 := Lib.hid R
  clear R R7
  go_wp2_with fail
  refine (H.out.m7 _ _ _ HT.out R8.out).mono ?_
  rintro e w9 ⟨rfl, R⟩
  have R9 := Lib.hid R
  clear R R8
  go_wp2_with fail
  refine (H.out.p1 _).mono ?_
  rintro e w10 ⟨rfl, hb⟩
  have R10 := Lib.hid (H.out.more _ _ _ _ R9.out hb)
  clear hb R9
  go_wp2_with (first
    | (go_at_call 17; refine (hn.out _ _).mono ?_; rintro e u0 ⟨rfl, rfl⟩)
    | (go_at_call 10; refine (H.out.s1 _ _ _ HT.out R10.out).mono ?_; rintro e u1 ⟨rfl, hb⟩; have HFIN := Lib.hid (H.out.more _ _ _ _ R10.out hb); clear hb))
  go_ret
  obtain ⟨F, _, _, hb⟩ := HFIN.out
  exact ⟨rfl, hb⟩
end Go.Proofs.YtelhieinkdmpfaaDoor.Sh
