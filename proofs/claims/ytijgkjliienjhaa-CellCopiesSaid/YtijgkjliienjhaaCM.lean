import Derived.Test.YtijgkjliienjhaaCD
namespace Go.Proofs.Ytijgkjliienjhaa
open Go.RowKit Go.Shelf
attribute [local go_sem] Oper.semAt_some

/- CALLS ON A LAW's OWN CELLS; THE CHAPTER's ROWS. -/
structure Run (w : World) (b g c m : Nat) (l : Cs) (W : World) : Prop where
  rep : Rep W b g c l
  ok : Ok m l
  below : Below w.heap.size w W
  hb : w.heap.size ≤ b
  hg : w.heap.size ≤ g
section
variable {w W W' : World} {b g c m k n x : Nat} {l : Cs} {z : Int}
theorem Run.step {l' : Cs} (h : Run w b g c m l W) (hr : Rep W' b g c l') (hk : Keep (· = g) W W') (ho : Ok (m + 1) l') : Run w b g c (m + 1) l' W' :=
  ⟨hr, ho, h.below.trans (hk.below (fun k (e : k = g) => by rw [e]; exact h.hg) h.below.size), h.hb, h.hg⟩
theorem Run.more (h : Run w b g c m l W) (hb : Below W.heap.size W W') : Run w b g c m l W' := ⟨h.rep.below hb, h.ok, below0 h.below hb, h.hb, h.hg⟩
theorem Run.up (h : Run w b g c m l W) {m' : Nat} (hm : m ≤ m') : Run w b g c m' l W := ⟨h.rep, h.ok.mono hm, h.below, h.hb, h.hg⟩
theorem Run.swapY (h : Run w b g c m l W) (hk : k < l.length) (hx : l[k].1 = x) (hm : m < 1000000) (hn : n < 18446744073709551616) : Calls Try.prog 10 #[bx b, .int .i64 (k : Int), .int .u64 (x : Int), .int .u64 (n : Int)] W fun e w' => e = .returned (.tuple #[.bool true, .int .i64 0]) ∧ Run w b g c (m + 1) (put l k n) w' :=
  (swap_yes b g c k m l x n W h.rep hk hx h.ok hm).mono fun _ _ ⟨e, h1, h2⟩ => ⟨e, h.step h1 h2 (h.ok.putn k n hn)⟩
theorem Run.swapN (h : Run w b g c m l W) (hk : k < l.length) (hx : l[k].1 ≠ x) : Calls Try.prog 10 #[bx b, .int .i64 (k : Int), .int .u64 (x : Int), .int .u64 (n : Int)] W fun e w' => e = .returned (.tuple #[.bool false, .int .i64 0]) ∧ Run w b g c m l w' :=
  (swap_no b g c k l x n W h.rep hk hx).mono fun _ _ ⟨e, h1⟩ => ⟨e, h.more h1⟩
theorem Run.swapO (h : Run w b g c m l W) (hz : z < 0 ∨ (l.length : Int) ≤ z) : Calls Try.prog 10 #[bx b, .int .i64 z, .int .u64 (x : Int), .int .u64 (n : Int)] W fun e w' => e = .returned (.tuple #[.bool false, .int .i64 4]) ∧ Run w b g c m l w' :=
  (swap_out b g c l z x n W h.rep hz).mono fun _ _ ⟨e, h1⟩ => ⟨e, h.more h1⟩
theorem Run.storeI (h : Run w b g c m l W) (hk : k < l.length) (hm : m < 1000000) (hn : n < 18446744073709551616) : Calls Try.prog 13 #[bx b, .int .i64 (k : Int), .int .u64 (n : Int)] W fun e w' => e = .returned (.int .i64 0) ∧ Run w b g c (m + 1) (put l k n) w' :=
  (store_in b g c k m l n W h.rep hk h.ok hm).mono fun _ _ ⟨e, h1, h2⟩ => ⟨e, h.step h1 h2 (h.ok.putn k n hn)⟩
theorem Run.storeO (h : Run w b g c m l W) (hz : z < 0 ∨ (l.length : Int) ≤ z) : Calls Try.prog 13 #[bx b, .int .i64 z, .int .u64 (n : Int)] W fun e w' => e = .returned (.int .i64 4) ∧ Run w b g c m l w' :=
  (store_out b g c l z n W h.rep hz).mono fun _ _ ⟨e, h1⟩ => ⟨e, h.more h1⟩
theorem Run.new (w W : World) (hb : Below w.heap.size w W) (n : Nat) (hn : n ≤ 1024) : Calls Try.prog 7 #[.int .i64 (n : Int)] W fun e w' => ∃ b g c, e = .returned (.tuple #[bx b, .int .i64 0]) ∧ Run w b g c 0 (zeros n) w' :=
  (new_ok n W hn).mono fun _ _ ⟨b, g, c, e, h1, h2, h3, h4⟩ => ⟨b, g, c, e, h3, zeros_ok hn, below0 hb h4, Nat.le_trans hb.size h1, Nat.le_trans hb.size h2⟩
end
def q1 : Cs := put (zeros 2) 0 7
def q2 : Cs := put q1 1 7
def q3 : Cs := put q2 1 7
structure Nine (Q0 Q1 Q2 Q3 : Cs) : Prop where
  n1 : ∀ w, Calls Try.prog 7 #[.int .i64 2] w fun e w' => ∃ b g c, e = .returned (.tuple #[bx b, .int .i64 0]) ∧ Run w b g c 0 Q0 w'
  s1 : ∀ w b g c W, Run w b g c 0 Q0 W → Calls Try.prog 10 #[bx b, .int .i64 0, .int .u64 0, .int .u64 7] W fun e w' => e = .returned (.tuple #[.bool true, .int .i64 0]) ∧ Run w b g c 1 Q1 w'
  s2 : ∀ w b g c W, Run w b g c 1 Q1 W → Calls Try.prog 10 #[bx b, .int .i64 0, .int .u64 0, .int .u64 8] W fun e w' => e = .returned (.tuple #[.bool false, .int .i64 0]) ∧ Run w b g c 1 Q1 w'
  l1 : ∀ w b g c W, Run w b g c 1 Q1 W → Calls Try.prog 9 #[bx b, .int .i64 0] W fun e w' => e = .returned (.tuple #[.int .u64 7, .int .i64 0]) ∧ W = w'
  c1 : ∀ w b g c W, Run w b g c 1 Q1 W → Calls Try.prog 11 #[bx b, .int .i64 0] W fun e w' => e = .returned (.tuple #[.int .i64 1, .int .i64 0]) ∧ W = w'
  t1 : ∀ w b g c W, Run w b g c 1 Q1 W → Calls Try.prog 13 #[bx b, .int .i64 1, .int .u64 7] W fun e w' => e = .returned (.int .i64 0) ∧ Run w b g c 2 Q2 w'
  s3 : ∀ w b g c W, Run w b g c 2 Q2 W → Calls Try.prog 10 #[bx b, .int .i64 1, .int .u64 7, .int .u64 7] W fun e w' => e = .returned (.tuple #[.bool true, .int .i64 0]) ∧ Run w b g c 3 Q3 w'
  c2 : ∀ w b g c W, Run w b g c 3 Q3 W → Calls Try.prog 11 #[bx b, .int .i64 1] W fun e w' => e = .returned (.tuple #[.int .i64 2, .int .i64 0]) ∧ W = w'
  l2 : ∀ w b g c W, Run w b g c 3 Q3 W → Calls Try.prog 9 #[bx b, .int .i64 2] W fun e w' => e = .returned (.tuple #[.int .u64 0, .int .i64 4]) ∧ W = w'
  n2 : ∀ w, Calls Try.prog 7 #[.int .i64 1025] w fun e w' => e = .returned (.tuple #[.pointer none, .int .i64 2]) ∧ w = w'
theorem nine : Nine (zeros 2) q1 q2 q3 where
  n1 w := Run.new w w (Below.refl _ _) 2 (by omega)
  s1 w b g c W h := h.swapY (k := 0) (x := 0) (n := 7) (by decide) (by decide) (by omega) (by omega)
  s2 w b g c W h := h.swapN (k := 0) (x := 0) (n := 8) (by decide) (by decide)
  l1 w b g c W h := load_in b g c 0 q1 W h.rep (by decide)
  c1 w b g c W h := count_in b g c 0 q1 W h.rep (by decide)
  t1 w b g c W h := h.storeI (k := 1) (n := 7) (by decide) (by omega) (by omega)
  s3 w b g c W h := h.swapY (k := 1) (x := 7) (n := 7) (by decide) (by decide) (by omega) (by omega)
  c2 w b g c W h := count_in b g c 1 q3 W h.rep (by decide)
  l2 w b g c W h := load_out b g c q3 2 W h.rep (.inr (by decide))
  n2 w := new_no 1025 w (.inr (by omega))
set_option maxRecDepth 100000 in
set_option maxHeartbeats 4000000 in
theorem works_any (w : World) : Calls Try.prog 6 #[] w fun e w' => e = .returned (.bool true) ∧ Below w.heap.size w w' := by
  have HS : ∃ Q0 Q1 Q2 Q3, Nine Q0 Q1 Q2 Q3 := ⟨_, _, _, _, nine⟩
  obtain ⟨Q0, Q1, Q2, Q3, S⟩ := HS
  have H := Lib.hid S
  have hn := Lib.hid (fun n w => num_any n w)
  clear S
  go_enter Try.func6, Try.ntmps6
  go_wp2_with fail
  refine (H.out.n1 _).mono ?_
  rintro e w1 ⟨b, g, c, rfl, R1⟩
  go_wp2_with fail
  refine (H.out.s1 _ _ _ _ _ R1).mono ?_
  rintro e w2 ⟨rfl, R2⟩
  clear R1
  go_wp2_with fail
  refine (H.out.s2 _ _ _ _ _ R2).mono ?_
  rintro e w3 ⟨rfl, R3⟩
  clear R2
  go_wp2_with fail
  refine (H.out.l1 _ _ _ _ _ R3).mono ?_
  rintro e w4 ⟨rfl, rfl⟩
  go_wp2_with fail
  refine (H.out.c1 _ _ _ _ _ R3).mono ?_
  rintro e w5 ⟨rfl, rfl⟩
  go_wp2_with fail
  refine (H.out.t1 _ _ _ _ _ R3).mono ?_
  rintro e w6 ⟨rfl, R6⟩
  clear R3
  go_wp2_with fail
  refine (H.out.s3 _ _ _ _ _ R6).mono ?_
  rintro e w7 ⟨rfl, R7⟩
  clear R6
  go_wp2_with fail
  refine (H.out.c2 _ _ _ _ _ R7).mono ?_
  rintro e w8 ⟨rfl, rfl⟩
  go_wp2_with fail
  refine (H.out.l2 _ _ _ _ _ R7).mono ?_
  rintro e w9 ⟨rfl, rfl⟩
  go_wp2_with fail
  refine (H.out.n2 _).mono ?_
  rintro e w10 ⟨rfl, rfl⟩
  go_wp2_with fail
  refine (hn.out _ _).mono ?_
  rintro e v ⟨rfl, rfl⟩
  go_wp2_with fail
  refine (hn.out _ _).mono ?_
  rintro e v ⟨rfl, rfl⟩
  go_wp2_with fail
  refine (hn.out _ _).mono ?_
  rintro e v ⟨rfl, rfl⟩
  go_wp2_with fail
  refine (hn.out _ _).mono ?_
  rintro e v ⟨rfl, rfl⟩
  go_wp2_with fail
  refine (hn.out _ _).mono ?_
  rintro e v ⟨rfl, rfl⟩
  go_wp2_with fail
  refine (hn.out _ _).mono ?_
  rintro e v ⟨rfl, rfl⟩
  go_wp2_with fail
  refine (hn.out _ _).mono ?_
  rintro e v ⟨rfl, rfl⟩
  go_wp2_with fail
  refine (hn.out _ _).mono ?_
  rintro e v ⟨rfl, rfl⟩
  go_wp2_with fail
  refine (hn.out _ _).mono ?_
  rintro e v ⟨rfl, rfl⟩
  go_wp2_with fail
  refine (hn.out _ _).mono ?_
  rintro e v ⟨rfl, rfl⟩
  go_wp2_with fail
  go_ret
  exact ⟨rfl, R7.below⟩
end Go.Proofs.Ytijgkjliienjhaa
