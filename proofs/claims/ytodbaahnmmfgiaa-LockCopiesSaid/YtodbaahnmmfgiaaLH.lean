import Derived.Test.YtodbaahnmmfgiaaLG
namespace Go.Proofs.Ytodbaahnmmfgiaa.Lk
open Go.RowKit Go.Shelf
attribute [local go_sem] Oper.semAt_some

/- THE CHAPTER's ROWS. -/
def s1 : Ls := tryL (frees 3) 0 1
def s2 : Ls := tryL s1 0 2
def s3 : Ls := dropL s2 0
theorem i64_small {z : Int} (h : -1000 ≤ z ∧ z ≤ 1000) : i64 z := by
  unfold i64
  omega
theorem wi_lit (w : World) (l : Ls) {n : Nat} (hl : l.length = n) {g : Nat} (hg : w.heap.size = g) : Wi (w.alloc (.cells (izs l).toArray 3)) (.slice (some ⟨g, 0, none⟩) n n) l := by
  subst hg
  subst hl
  exact ⟨_, _, rfl, Nat.le_refl _, fun _ => ⟨_, [], rfl, by rw [List.append_nil]; exact Row.new w _ _⟩⟩
structure Ten (Has : HasT) (S0 S1 S2 S3 S4 LH LC : Ls) : Prop where
  n1 : ∀ w, Calls Try.prog 8 #[.int .i64 3] w fun e w' => ∃ v, e = .returned (.tuple #[v, .int .i64 0]) ∧ Run Has w v S0 w'
  t1 : ∀ w v V, Run Has w v S0 V → Calls Try.prog 20 #[v, .int .i64 0, .int .i64 1] V fun e V' => e = .returned (.tuple #[.bool true, .int .i64 0]) ∧ Run Has w v S1 V'
  t2 : ∀ w v V, Run Has w v S1 V → Calls Try.prog 20 #[v, .int .i64 1, .int .i64 1] V fun e V' => e = .returned (.tuple #[.bool false, .int .i64 0]) ∧ Run Has w v S1 V'
  t3 : ∀ w v V, Run Has w v S1 V → Calls Try.prog 20 #[v, .int .i64 0, .int .i64 0] V fun e V' => ∃ q, e = .returned (.tuple #[.bool q, .int .i64 220]) ∧ Run Has w v S1 V'
  t4 : ∀ w v V, Run Has w v S1 V → Calls Try.prog 20 #[v, .int .i64 0, .int .i64 2] V fun e V' => e = .returned (.tuple #[.bool true, .int .i64 0]) ∧ Run Has w v S2 V'
  h1 : ∀ w v V, Run Has w v S2 V → Calls Try.prog 23 #[v, .int .i64 0] V fun e V' => ∃ u, e = .returned u ∧ Wi V' u LH ∧ Run Has w v S2 V'
  c1 : ∀ w v V g, Run Has w v S2 V → V.heap.size = g → Calls Try.prog 15 #[v, .int .i64 1, .slice (some ⟨g, 0, none⟩) 2 2] (V.alloc (.cells #[.int .i64 (-1), .int .i64 1] 3)) fun e V' => ∃ u', e = .returned (.tuple #[u', .int .i64 0]) ∧ Wi V' u' LC ∧ Run Has w v S2 V' ∧ Still V V'
  f1 : ∀ w v V, Run Has w v S2 V → Calls Try.prog 21 #[v, .int .i64 1, .int .i64 1] V fun e V' => e = .returned (.int .i64 221) ∧ Run Has w v S2 V' ∧ Still V V'
  d1 : ∀ w v V, Run Has w v S2 V → Calls Try.prog 22 #[v, .int .i64 0] V fun e V' => e = .returned (.tuple #[.int .i64 2, .int .i64 0]) ∧ Run Has w v S3 V' ∧ Still V V'
  t5 : ∀ w v V, Run Has w v S3 V → Calls Try.prog 20 #[v, .int .i64 1, .int .i64 1] V fun e V' => e = .returned (.tuple #[.bool true, .int .i64 0]) ∧ Run Has w v S4 V' ∧ Still V V'
  sh : ∀ (V : World) u, Wi V u LH → Calls Try.prog 17 #[u, .slice (some ⟨V.heap.size, 0, none⟩) 2 2] (V.alloc (.cells #[.int .i64 1, .int .i64 2] 3)) fun e V' => e = .returned (.bool true) ∧ Below V.heap.size V V'
  sc : ∀ (V : World) u, Wi V u LC → Calls Try.prog 17 #[u, .slice (some ⟨V.heap.size, 0, none⟩) 2 2] (V.alloc (.cells #[.int .i64 1, .int .i64 0] 3)) fun e V' => e = .returned (.bool true) ∧ Below V.heap.size V V'
theorem same_lit {V : World} {u : Value} (a b : Int) (h : Wi V u [a, b]) : Calls Try.prog 17 #[u, .slice (some ⟨V.heap.size, 0, none⟩) 2 2] (V.alloc (.cells #[.int .i64 a, .int .i64 b] 3)) fun e V' => e = .returned (.bool true) ∧ Below V.heap.size V V' := by
  refine (rsame_wi [a, b] [a, b] u (.slice (some ⟨V.heap.size, 0, none⟩) 2 2) (V.alloc (.cells #[.int .i64 a, .int .i64 b] 3)) (by simp) (h.below (below1 _ _)) (wi_lit V [a, b] rfl rfl)).mono fun _ _ ⟨e, hb⟩ => ⟨by rw [e]; simp, below0 (below1 _ _) hb⟩
theorem ten {Has : HasT} (H : Api Has) : Ten Has (frees 3) s1 s2 s3 (tryL s3 1 1) [1, 2] [1, 0] where
  n1 w := (H.new w 3 (by omega)).mono fun _ _ ⟨v, F, e, h1, h2, h3⟩ => ⟨v, e, F, h1, h2, h3⟩
  t1 w v V h := (Run.try_ H h 0 1 (i64_small (by omega)) (i64_small (by omega))).mono fun _ _ ⟨e, h1, _⟩ => ⟨e, h1⟩
  t2 w v V h := (Run.try_ H h 1 1 (i64_small (by omega)) (i64_small (by omega))).mono fun _ _ ⟨e, h1, _⟩ => ⟨e, h1⟩
  t3 w v V h := (Run.try_ H h 0 0 (i64_small (by omega)) (i64_small (by omega))).mono fun _ _ ⟨e, h1, _⟩ => ⟨_, e, h1⟩
  t4 w v V h := (Run.try_ H h 0 2 (i64_small (by omega)) (i64_small (by omega))).mono fun _ _ ⟨e, h1, _⟩ => ⟨e, h1⟩
  h1 w v V h := (Run.held H h 0 (i64_small (by omega))).mono fun _ _ ⟨u, e, h1, h2, _⟩ => ⟨u, e, h1, h2⟩
  c1 w v V g h hg := (Run.chain H (Run.more H h (below1 V (.cells #[.int .i64 (-1), .int .i64 1] 3))) 1 [-1, 1] (.slice (some ⟨g, 0, none⟩) 2 2) (i64_small (by omega)) (by simp [i64]) (wi_lit V [-1, 1] rfl hg).sl (by decide)).mono fun _ _ ⟨u, e, h1, h2, _, hb⟩ => ⟨u, e, h1, h2, Still.below (below0 (below1 _ _) hb)⟩
  f1 w v V h := (Run.free H h 1 1 (i64_small (by omega)) (i64_small (by omega))).mono fun _ _ ⟨e, h1, h2⟩ => ⟨e, h1, h2⟩
  d1 w v V h := (Run.drop H h 0 (i64_small (by omega)) rfl).mono fun _ _ ⟨e, h1, h2⟩ => ⟨e, h1, h2⟩
  t5 w v V h := (Run.try_ H h 1 1 (i64_small (by omega)) (i64_small (by omega))).mono fun _ _ ⟨e, h1, h2⟩ => ⟨e, h1, h2⟩
  sh V u h := same_lit 1 2 h
  sc V u h := same_lit 1 0 h
set_option maxRecDepth 100000 in
set_option maxHeartbeats 4000000 in
theorem works_any {Has : HasT} (HA : Api Has) (w : World) : Calls Try.prog 7 #[] w fun e w' => e = .returned (.bool true) ∧ Below w.heap.size w w' := by
  have HS : ∃ S0 S1 S2 S3 S4 LH LC, Ten Has S0 S1 S2 S3 S4 LH LC := ⟨_, _, _, _, _, _, _, ten HA⟩
  obtain ⟨S0, S1, S2, S3, S4, LH, LC, S⟩ := HS
  have H := Lib.hid S
  have hn := Lib.hid (fun n w => num_any n w)
  clear S HA
  go_enter Try.func7, Try.ntmps7
  go_wp2_with fail
  refine (H.out.n1 _).mono ?_
  rintro e w1 ⟨v, rfl, R⟩
  have R1 := Lib.hid R
  clear R
  go_wp2_with fail
  refine (H.out.t1 _ _ _ R1.out).mono ?_
  rintro e w2 ⟨rfl, R⟩
  have R2 := Lib.hid R
  clear R R1
  go_wp2_with fail
  refine (H.out.t2 _ _ _ R2.out).mono ?_
  rintro e w3 ⟨rfl, R⟩
  have R3 := Lib.hid R
  clear R R2
  go_wp2_with fail
  refine (H.out.t3 _ _ _ R3.out).mono ?_
  rintro e w4 ⟨q, rfl, R⟩
  have R4 := Lib.hid R
  clear R R3
  go_wp2_with fail
  refine (H.out.t4 _ _ _ R4.out).mono ?_
  rintro e w5 ⟨rfl, R⟩
  have R5 := Lib.hid R
  clear R R4
  go_wp2_with fail
  refine (H.out.h1 _ _ _ R5.out).mono ?_
  rintro e w6 ⟨u1, rfl, U, R⟩
  have R6 := Lib.hid R
  have U6 := Lib.hid U
  clear R R5 U
  go_wp2_with fail
  refine (H.out.c1 _ _ _ _ R6.out rfl).mono ?_
  rintro e w7 ⟨u2, rfl, C, R, st⟩
  have R7 := Lib.hid R
  have U7 := Lib.hid (st _ _ U6.out)
  have C7 := Lib.hid C
  clear R R6 U6 C st
  go_wp2_with fail
  refine (H.out.f1 _ _ _ R7.out).mono ?_
  rintro e w8 ⟨rfl, R, st⟩
  have R8 := Lib.hid R
  have U8 := Lib.hid (st _ _ U7.out)
  have C8 := Lib.hid (st _ _ C7.out)
  clear R R7 U7 C7 st
  go_wp2_with fail
  refine (H.out.d1 _ _ _ R8.out).mono ?_
  rintro e w9 ⟨rfl, R, st⟩
  have R9 := Lib.hid R
  have U9 := Lib.hid (st _ _ U8.out)
  have C9 := Lib.hid (st _ _ C8.out)
  clear R R8 U8 C8 st
  go_wp2_with fail
  refine (H.out.t5 _ _ _ R9.out).mono ?_
  rintro e wa ⟨rfl, R, st⟩
  have RA := Lib.hid R
  have UA := Lib.hid (st _ _ U9.out)
  have CA := Lib.hid (st _ _ C9.out)
  clear R R9 U9 C9 st
  go_wp2_with fail
  refine (hn.out _ _).mono ?_
  rintro e u ⟨rfl, rfl⟩
  go_wp2_with fail
  refine (hn.out _ _).mono ?_
  rintro e u ⟨rfl, rfl⟩
  go_wp2_with fail
  refine (hn.out _ _).mono ?_
  rintro e u ⟨rfl, rfl⟩
  go_wp2_with fail
  refine (hn.out _ _).mono ?_
  rintro e u ⟨rfl, rfl⟩
  go_wp2_with fail
  refine (hn.out _ _).mono ?_
  rintro e u ⟨rfl, rfl⟩
  go_wp2_with fail
  refine (hn.out _ _).mono ?_
  rintro e u ⟨rfl, rfl⟩
  go_wp2_with fail
  refine (hn.out _ _).mono ?_
  rintro e u ⟨rfl, rfl⟩
  go_wp2_with fail
  refine (hn.out _ _).mono ?_
  rintro e u ⟨rfl, rfl⟩
  go_wp2_with fail
  refine (H.out.sh _ _ UA.out).mono ?_
  rintro e wb ⟨rfl, hb⟩
  have HB := Lib.hid (below0 RA.out.below hb)
  have CB := Lib.hid (CA.out.below hb)
  clear hb CA
  go_wp2_with fail
  refine (H.out.sc _ _ CB.out).mono ?_
  rintro e wc ⟨rfl, hb⟩
  have HC := Lib.hid (below0 HB.out hb)
  clear hb
  go_wp2_with fail
  refine (hn.out _ _).mono ?_
  rintro e u ⟨rfl, rfl⟩
  go_wp2_with fail
  go_ret
  exact ⟨rfl, HC.out⟩
end Go.Proofs.Ytodbaahnmmfgiaa.Lk
