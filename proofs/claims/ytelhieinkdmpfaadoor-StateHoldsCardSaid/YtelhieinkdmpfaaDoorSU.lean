import Derived.Test.YtelhieinkdmpfaaDoorST
namespace Go.Proofs.YtelhieinkdmpfaaDoor.Sh
open Go.RowKit Go.Shelf
attribute [local go_sem] Oper.semAt_some

/- STATETEXTS: THE SHEET OF A TEXT; COPIES GO ON APART. -/
abbrev encL (x : Nat) : List Value := [.int .i64 (x : Int)]
theorem map_encL (l : List Nat) : l.flatMap encL = izs (hz l) := by
  induction l with
  | nil => rfl
  | cons x r ih =>
    rw [List.flatMap_cons, ih]
    rfl
set_option maxRecDepth 100000 in
theorem texts_far {Has : HasT} (H : Api Has) (s : ByteArray) (xc : Bool) (xa xt : Int) (yc : Bool) (ya yt : Int) (w : World) (hTb : Tb w) (h : 300 < s.size) :
    Calls Tryd.prog 5 #[.string s, .agg #[.bool xc, .int .i64 xa, .int .i64 xt, .bool yc, .int .i64 ya, .int .i64 yt]] w fun e w' => e = .returned (.bool true) ∧ Below w.heap.size w w' := by
  have HTB := Lib.hid hTb
  have HW := Lib.hid (fun W (hb : Below w.heap.size w W) => works_any H W (HTB.out.below hb))
  clear hTb
  have d1 : decide ((300 : Int) < (s.size : Int)) = true := decide_eq_true (by omega)
  have d2 : decide (300 < s.size) = true := decide_eq_true h
  obtain ⟨W0, hW0⟩ : ∃ W0, W0 = w.alloc (.cells #[.bool xc, .int .i64 xa, .int .i64 xt, .bool yc, .int .i64 ya, .int .i64 yt] 58) := ⟨_, rfl⟩
  have HB0 := Lib.hid (show Below w.heap.size w W0 by rw [hW0]; exact below1 _ _)
  have HW0 := Lib.hid hW0
  clear h hW0
  refine calls_marks Tryd.func5 rfl ?_
  simp only [Tryd.ntmps5, List.size_toArray, List.length_cons, List.length_nil, Nat.reduceAdd, Nat.reduceSub, Array.replicate_succ, Array.replicate_zero, List.push_toArray, List.append_toArray, List.nil_append, List.cons_append]
  go_wp2_with fail
  rw [← HW0.out]
  refine (HW.out W0 HB0.out).mono ?_
  rintro e W1 ⟨rfl, hb1⟩
  have HB1 := Lib.hid (below0 HB0.out hb1)
  clear hb1
  go_wp2_with fail
  exact ⟨_, results_tmp (t := 4) rfl _ _ _, rfl, HB1.out⟩
set_option maxRecDepth 100000 in
theorem texts_no {Has : HasT} (H : Api Has) (s : ByteArray) (xc : Bool) (xa xt : Int) (yc : Bool) (ya yt : Int) (w : World) (hTb : Tb w) (h : s.size ≤ 300) (hno : 256 < s.size ∨ untext s.data.toList = none) :
    Calls Tryd.prog 5 #[.string s, .agg #[.bool xc, .int .i64 xa, .int .i64 xt, .bool yc, .int .i64 ya, .int .i64 yt]] w fun e w' => e = .returned (.bool true) ∧ Below w.heap.size w w' := by
  have HTB := Lib.hid hTb
  have HW := Lib.hid (fun W (hb : Below w.heap.size w W) => works_any H W (HTB.out.below hb))
  clear hTb
  have d1 : decide ((300 : Int) < (s.size : Int)) = false := decide_eq_false (by omega)
  have d2 : decide (300 < s.size) = false := decide_eq_false (by omega)
  have HNUM := Lib.hid (fun n w => num_any n w)
  have HP := Lib.hid (fun W => H.parseNo s W (by unfold maxLen; omega) hno)
  have HR : Hid (∀ W : World, Calls Tryd.prog 27 #[.string s] W fun e w' => ∃ v, e = .returned (.tuple #[v, .int .i64 241]) ∧ Below W.heap.size W w') := Lib.hid (fun W => by
    by_cases h2 : 256 < s.size
    · exact (rparse_long s W h2).mono fun e w' ⟨e1, e2⟩ => ⟨_, e1, by subst e2; exact Below.refl _ _⟩
    · have hn := hno.resolve_left h2
      refine (rparse_any s W (by omega)).mono fun e w' ⟨⟨v, e1, _⟩, hb⟩ => ⟨v, ?_, hb⟩
      rw [e1, hn]
      rfl)
  obtain ⟨W0, hW0⟩ : ∃ W0, W0 = w.alloc (.cells #[.bool xc, .int .i64 xa, .int .i64 xt, .bool yc, .int .i64 ya, .int .i64 yt] 58) := ⟨_, rfl⟩
  have HB0 := Lib.hid (show Below w.heap.size w W0 by rw [hW0]; exact below1 _ _)
  have HW0 := Lib.hid hW0
  clear h hW0 hno
  refine calls_marks Tryd.func5 rfl ?_
  simp only [Tryd.ntmps5, List.size_toArray, List.length_cons, List.length_nil, Nat.reduceAdd, Nat.reduceSub, Array.replicate_succ, Array.replicate_zero, List.push_toArray, List.append_toArray, List.nil_append, List.cons_append]
  go_wp2_with fail
  rw [← HW0.out]
  refine (HP.out W0).mono ?_
  rintro e W1 ⟨rfl, hb1⟩
  have HB1 := Lib.hid (below0 HB0.out hb1)
  clear hb1
  go_wp2_with fail
  refine (HR.out W1).mono ?_
  rintro e W2 ⟨v, rfl, hb1⟩
  have HB1 := Lib.hid (below0 HB1.out hb1)
  clear hb1
  go_wp2_with fail
  refine (HNUM.out _ _).mono ?_
  rintro e W3 ⟨rfl, rfl⟩
  go_wp2_with fail
  refine (HW.out _ HB1.out).mono ?_
  rintro e W4 ⟨rfl, hb1⟩
  have HB1 := Lib.hid (below0 HB1.out hb1)
  clear hb1
  go_wp2_with fail
  exact ⟨_, results_tmp (t := 4) rfl _ _ _, rfl, HB1.out⟩
set_option maxRecDepth 100000 in
set_option maxHeartbeats 16000000 in
theorem texts_ok {Has : HasT} (H : Api Has) (s : ByteArray) (xc : Bool) (xa xt : Int) (yc : Bool) (ya yt : Int) (w : World) (hTb : Tb w) (l : Ls) (h : s.size ≤ 256) (hu : untext s.data.toList = some l) (hx : Ac.fits ⟨xc, xa, xt⟩) (hy : Ac.fits ⟨yc, ya, yt⟩) :
    Calls Tryd.prog 5 #[.string s, .agg #[.bool xc, .int .i64 xa, .int .i64 xt, .bool yc, .int .i64 ya, .int .i64 yt]] w fun e w' => e = .returned (.bool true) ∧ Below w.heap.size w w' := by
  have HTB := Lib.hid hTb
  have HW := Lib.hid (fun W (hb : Below w.heap.size w W) => works_any H W (HTB.out.below hb))
  clear hTb
  have d1 : decide ((300 : Int) < (s.size : Int)) = false := decide_eq_false (by omega)
  have d2 : decide (300 < s.size) = false := decide_eq_false (by omega)
  have HNUM := Lib.hid (fun n w => num_any n w)
  obtain ⟨W0, hW0⟩ : ∃ W0, W0 = w.alloc (.cells #[.bool xc, .int .i64 xa, .int .i64 xt, .bool yc, .int .i64 ya, .int .i64 yt] 58) := ⟨_, rfl⟩
  have HB0 := Lib.hid (show Below w.heap.size w W0 by rw [hW0]; exact below1 _ _)
  have HP := Lib.hid (H.parse s l W0 h hu)
  have HR := Lib.hid (fun W => rparse_any s W h)
  rw [hu] at HR
  have HROW := Lib.hid (show Row W0 w.heap.size 58 [.bool xc, .int .i64 xa, .int .i64 xt, .bool yc, .int .i64 ya, .int .i64 yt] by rw [hW0]; exact Row.new w _ _)
  have HW0 := Lib.hid hW0
  have HX := Lib.hid hx
  have HY := Lib.hid hy
  obtain ⟨i0, hi, hz0, hz1, hz2⟩ := info_parts int_info
  clear h hu hx hy hW0
  refine calls_marks Tryd.func5 rfl ?_
  simp only [Tryd.ntmps5, List.size_toArray, List.length_cons, List.length_nil, Nat.reduceAdd, Nat.reduceSub, Array.replicate_succ, Array.replicate_zero, List.push_toArray, List.append_toArray, List.nil_append, List.cons_append]
  go_wp2_with fail
  rw [← HW0.out]
  refine HP.out.mono ?_
  rintro e w1 ⟨v, F, rfl, b1, b2, b3⟩
  obtain ⟨ad0, rfl⟩ := H.ptr b1
  have Q1 := Lib.hid (And.intro b1 (And.intro b2 b3))
  clear b1 b2 b3 HP
  go_wp2_with fail
  refine (HR.out w1).mono ?_
  rintro e w2 ⟨⟨vv, rfl, c1, c2⟩, c3⟩
  have Q2 := Lib.hid (And.intro c1 (And.intro c2 c3))
  clear c1 c2 c3 HR
  rw [if_neg (by simp)]
  go_wp2_with fail
  refine (HNUM.out _ _).mono ?_
  rintro e w3 ⟨rfl, rfl⟩
  have hcp := Lib.hid (H.copy (H.below Q1.out.1 Q2.out.2.2))
  go_wp2_with fail
  refine hcp.out.mono ?_
  rintro e w3 ⟨vc, Fc, rfl, e1, e2, e3⟩
  have hal := Lib.hid (H.all 0 (H.below (H.below Q1.out.1 Q2.out.2.2) e3) ⟨by omega, by omega⟩)
  have Q3 := Lib.hid (And.intro e1 (And.intro e2 e3))
  clear e1 e2 e3 hcp
  go_wp2_with fail
  refine hal.out.mono ?_
  rintro e V4 ⟨gf, lb, Pv, rfl, hent, hnn, hit, hpv, hb4⟩
  have hmost := H.most Q1.out.1
  have HT1 := Lib.hid (show T1 Has w w.heap.size [.bool xc, .int .i64 xa, .int .i64 xt, .bool yc, .int .i64 ya, .int .i64 yt] Pv (.pointer (some ad0)) vc vv l V4 V4 from by
    have s0 := HB0.out.size
    have s1 := Q1.out.2.2.size
    have s2 := Q2.out.2.2.size
    have s3 := Q3.out.2.2.size
    have s4 := hb4.size
    have hw := HROW.out.lt
    have l1 := H.lt Q1.out.1
    have l3 := H.lt Q3.out.1
    refine ⟨⟨F, Fc, H.below (H.below (H.below Q1.out.1 Q2.out.2.2) Q3.out.2.2) hb4, H.below Q3.out.1 hb4, fun k hk hc => ?_, fun k hk => ⟨?_, ?_, fun hp => ?_⟩, fun k hk => ⟨?_, ?_, fun hp => ?_⟩, fun _ g hg hf => ?_, fun hn g hg hf => ?_⟩, (Q2.out.1.below Q3.out.2.2).below hb4, ⟨(((HROW.out.below Q1.out.2.2).below Q2.out.2.2).below Q3.out.2.2).below hb4, below0 (below0 (below0 (below0 HB0.out Q1.out.2.2) Q2.out.2.2) Q3.out.2.2) hb4, fun k hk => ⟨(hpv k hk).2, rfl⟩, Nat.le_refl _⟩⟩
    · have := l1 k hk; have := Q3.out.2.1 k hc; omega
    · have := Q1.out.2.1 k hk; omega
    · have := Q1.out.2.1 k hk; omega
    · have := l1 k hk; have := (hpv k hp).1; omega
    · have := Q3.out.2.1 k hk; omega
    · have := Q3.out.2.1 k hk; omega
    · have := l3 k hk; have := (hpv k hp).1; omega
    · have := Q2.out.2.1 g hg; have := l1 g hf; omega
    · have := Q2.out.1.lt hn g hg; have := Q3.out.2.1 g hf; omega)
  obtain ⟨v, hv⟩ : ∃ v, v = Value.pointer (some ad0) := ⟨_, rfl⟩
  obtain ⟨g5, hg5⟩ : ∃ g5, g5 = w.heap.size := ⟨_, rfl⟩
  rw [← hv, ← hg5] at HT1
  rw [← hv, ← hg5]
  have HENT := Lib.hid hent
  have HNN := Lib.hid hnn
  have HIT := Lib.hid hit
  have HPV := Lib.hid hpv
  clear hal hb4 hpv hit hnn hent Q1 Q2 Q3 HROW hv hg5 HB0
  obtain ⟨L1, hL1⟩ : ∃ L1, L1 = actL l ⟨xc, xa, xt⟩ := ⟨_, rfl⟩
  obtain ⟨L2, hL2⟩ : ∃ L2, L2 = actL l ⟨yc, ya, yt⟩ := ⟨_, rfl⟩
  have a1 := Lib.hid (T1.act H HTB.out HT1.out ⟨xc, xa, xt⟩ HX.out)
  rw [← hL1] at a1
  replace a1 : Hid (Calls Tryd.prog 24 #[v, vv, .agg #[.bool xc, .int .i64 xa, .int .i64 xt]] V4 _) := a1
  have t0 : V4.cell? ⟨g5, 0, none⟩ = some (.bool xc) := HT1.out.tb.two.cell 0
  have t1 : V4.cell? ⟨g5, 1, none⟩ = some (.int .i64 xa) := HT1.out.tb.two.cell 1
  have t2 : V4.cell? ⟨g5, 2, none⟩ = some (.int .i64 xt) := HT1.out.tb.two.cell 2
  clear hL1
  go_wp2_with fail
  refine a1.out.mono ?_
  rintro e w5 ⟨v1, vv1, rfl, E⟩
  have a2 := Lib.hid (T2.act H HTB.out E ⟨yc, ya, yt⟩ HY.out)
  rw [← hL2] at a2
  replace a2 : Hid (Calls Tryd.prog 24 #[vc, vv, .agg #[.bool yc, .int .i64 ya, .int .i64 yt]] w5 _) := a2
  have t3 : w5.cell? ⟨g5, 3, none⟩ = some (.bool yc) := E.tb.two.cell 3
  have t4 : w5.cell? ⟨g5, 4, none⟩ = some (.int .i64 ya) := E.tb.two.cell 4
  have t5 : w5.cell? ⟨g5, 5, none⟩ = some (.int .i64 yt) := E.tb.two.cell 5
  clear E HT1 a1 t0 t1 t2 hL2
  go_wp2_with fail
  refine a2.out.mono ?_
  rintro e w6 ⟨v2, vv2, rfl, E⟩
  have HE := Lib.hid E
  have hs := T3.sts H E
  obtain ⟨bb, hbb⟩ : ∃ bb, bb = decide (L1 = L2) := ⟨_, rfl⟩
  have htt := text_eq hs.1.1 hs.2.1
  rw [← hbb] at htt
  have c1 := Lib.hid (T3.text1 H E)
  obtain ⟨S1, hS1⟩ : ∃ S1, S1 = str (text L1) := ⟨_, rfl⟩
  obtain ⟨S2, hS2⟩ : ∃ S2, S2 = str (text L2) := ⟨_, rfl⟩
  rw [← hS1, ← hS2] at htt
  rw [← hS1] at c1
  have HS2 := Lib.hid hS2
  have HBB := Lib.hid hbb
  have hbe : (bb != bb) = false := by cases bb <;> rfl
  clear E a2 t3 t4 t5 hs hbb hS1 hS2
  go_wp2_with fail
  refine c1.out.mono ?_
  rintro e y1 ⟨rfl, E⟩
  have HE := Lib.hid E
  have c2 := Lib.hid (T3.text2 H E)
  rw [← HS2.out] at c2
  clear E c1
  go_wp2_with fail
  refine c2.out.mono ?_
  rintro e y2 ⟨rfl, E⟩
  have HE := Lib.hid E
  have c3 := Lib.hid (T3.is1 H E)
  clear E c2
  go_wp2_with fail
  refine c3.out.mono ?_
  rintro e y3 ⟨rfl, E⟩
  have HE := Lib.hid E
  have c4 := Lib.hid (T3.is2 H E)
  clear E c3
  go_wp2_with fail
  refine c4.out.mono ?_
  rintro e y4 ⟨rfl, E⟩
  have HE := Lib.hid E
  have c5 := Lib.hid (T3.same H E)
  rw [← HBB.out] at c5
  clear E c4
  go_wp2_with fail
  refine c5.out.mono ?_
  rintro e y5 ⟨rfl, E⟩
  have HE := Lib.hid E
  have c6 := Lib.hid (T3.same2 H E)
  rw [← HBB.out] at c6
  clear E c5
  go_wp2_with fail
  refine c6.out.mono ?_
  rintro e y6 ⟨rfl, E⟩
  have HE := Lib.hid E
  clear E c6
  have hn2 := HNN.out (y6.alloc (.cells #[.slice none 0 0] 34))
  go_wp2_with fail
  obtain ⟨w8, hw8⟩ : ∃ w8, w8 = y6.alloc (.cells #[.slice none 0 0] 34) := ⟨_, rfl⟩
  have hb8 : Below y6.heap.size y6 w8 := by rw [hw8]; exact below1 _ _
  have hz8 : w8.heap.size = y6.heap.size + 1 := by rw [hw8]; simp
  have hL8 : Boxed w8 y6.heap.size 34 (.slice none 0 0) := by rw [hw8]; exact Boxed.new y6 _ _
  rw [← hw8]
  have HE8 := Lib.hid (T3.more H HE.out hb8)
  have hit := HIT.out.later (w1 := w8) (fun k hk => (HE8.out.tb.pv k hk).2) HE8.out.tb.size
  have hPv : ∀ k, Pv k → k < w8.heap.size ∧ k ≠ y6.heap.size := fun k hk => by
    have h1 := (HE.out.tb.pv k hk).1
    have h2 := HE.out.tb.size
    omega
  have hpn := places_len l 0
  obtain ⟨P, hP⟩ : ∃ P, P = places l 0 := ⟨_, rfl⟩
  rw [← hP] at hit hpn
  have HP0 := Lib.hid hP
  have HPL := Lib.hid (fun V (hb : Below y6.heap.size y6 V) => rplaces_wi l vv 0 V hmost (HE.out.wi.below hb))
  rw [← hP] at HPL
  have HBE := Lib.hid (fun V (hb : Below y6.heap.size y6 V) => below0 HE.out.tb.below hb)
  clear hw8 hP HE8 hn2
  go_wp2_with fail
  refine wpIn_wide.1 (wpIn_range_it (gf := gf) (lb := lb) rfl HENT.out hit (fun k hk => (hPv k hk).1) (fun _ => rfl) (fun _ _ _ _ _ h => h)
    (fun pre O V => GatL 34 3 encL 1 y6 y6.heap.size w8.heap.size pre O V ∧ ∀ k, O k → w8.heap.size + 2 ≤ k) (fun _ _ _ _ => False) (fun s O V V' row hp hg hr => ⟨GatL.abid (by omega) s O V V' row hp.1 hg hr, hp.2⟩) (fun _ _ _ _ _ _ h _ _ => h) ?h0
    ?a1 ?assign ?body ?done ?stop)
  case h0 => exact ⟨⟨_, hL8, World.ownsRow_nil _ _ _ _, fun k h => (by cases h), hb8⟩, fun _ h => h.elim⟩
  case assign =>
    intro l' x W' K hK
    simp only [encN]
    gi_wp2
    exact hK
  case body =>
    rintro l' pre x O V hVs hO ⟨⟨v, hbx, hown, hvO, hbl⟩, hOw⟩ hx _
    obtain ⟨post, hpp⟩ := hx
    have hn : pre.length ≤ 5000 := by
      have : P.length = pre.length + (post.length + 1) := by rw [hpp]; simp
      omega
    clear hpp hit hL8
    obtain ⟨Av, cv, rfl⟩ := own_slice hown
    have hown1 := hown.alloc (.cells #[.int .i64 (x : Int)] 3)
    have hbx1 := hbx.alloc (.cells #[.int .i64 (x : Int)] 3)
    have hce := hbx.cell
    have hce1 := hbx1.cell
    have hb1 := hbx.not_row (by decide) hown
    clear hbx
    gi_wp2_with (gi_at_builtin; refine wpListIn_append_sees rfl (.tmp 108) (.tmp 110) 34 rfl w8.heap.size 3 i0 _ 1 8 Tryd.underlying34 hi hz0 hz1 hz2 rfl (by decide) _ pre.length (pre.flatMap encL) rfl hown1 (V.heap.size + 1) (some ⟨V.heap.size, 0, none⟩) 1 1 [.int .i64 (x : Int)] rfl rfl (fun _ => ⟨_, rfl, by simp, cell_one_at _ _ _⟩) (by simp [Value.oneCell']) (by unfold maxLen; omega) (by omega) (by simp; omega) ?_; intro v' w4 hown4 hg4 hv4; obtain ⟨g4, cap4, rfl⟩ := ownsRow_succ hown4; have hbx4 := hbx1.kept hg4 hb1; have hx4c := hbx4.cell; have hx4f := hbx4.frozen)
    have hg5 : (V.alloc (.cells #[.int .i64 (x : Int)] 3)).grownBy w4 (Value.slice Av pre.length cv).ownBlock := hg4
    have hfin := Lib.hid (gatL_round (enc := encL) (x := x) (by omega) (by omega) hPv hOw hvO hVs hown4 hg5 hv4 hbx4 hbl (by simp))
    exact ⟨hfin.out.1, hfin.out.2.1, hfin.out.2.2⟩
  case done =>
    intro xs O V hall hI hD
    have hxs : xs = P := hall
    subst hxs
    obtain ⟨v9, hbx, hown, hvO, hbl⟩ := hI.1
    rw [map_encL] at hown
    obtain ⟨Av, cv, rfl⟩ := own_slice hown
    have HWI := Lib.hid (wi_own hown)
    have hcv := hbx.cell
    have hzlt := (Array.getElem?_eq_some_iff.1 hD).1
    have HBL := Lib.hid hbl
    have HBX := Lib.hid hbx
    have HDD := Lib.hid hD
    have HZ8 := Lib.hid hz8
    clear hall hI hown hvO hit hPv hL8 hb8 hz8 hD hbx hbl
    have HSL : Hid (∀ W, Below V.heap.size V W → (fun W : World => W.cell? ⟨y6.heap.size, 0, none⟩ = some (.slice Av xs.length cv)) W) := Lib.hid (fun W hb => (hb.cell (p := ⟨y6.heap.size, 0, none⟩) HBX.out.lt).trans HBX.out.cell)
    have hdr := Lib.hid (show Below V.heap.size V V.drew from (Below.refl _ _).drew)
    go_wp2_with fail
    refine wp_region_noPanic ?_
    refine wp_region_held_drew (S := fun W : World => W.cell? ⟨y6.heap.size, 0, none⟩ = some (.slice Av xs.length cv)) (by kernel_rfl) (HSL.out _ hdr.out) (fun hHeld => ?_)
    refine wpAnyH_take (i := 0) (v := ?_) rfl (by kernel_rfl) (by kernel_rfl) (by kernel_rfl) (fun _ _ _ h => h) (Or.inl ⟨by kernel_rfl, ?_⟩) hHeld ?_
    rotate_left
    focus (intro w hSw; (try dsimp only at hSw); go_simp; try with_reducible rfl)
    try simp only [Act.put]
    refine wpAnyH_take (i := 1) (v := ?_) rfl (by kernel_rfl) (by kernel_rfl) (by kernel_rfl) (fun _ _ _ h => h) (Or.inl ⟨by kernel_rfl, ?_⟩) hHeld ?_
    rotate_left
    focus (intro w hSw; (try dsimp only at hSw); go_simp; try with_reducible rfl)
    try simp only [Act.put]
    refine wpAnyH_ready (rs := [2]) (by kernel_rfl) (by simp) ?_
    refine AllReadyH.cons rfl (fun K hK => ?_) (AllReadyH.nil)
    go_simp
    refine (HPL.out V.drew (HBL.out.drew)).mono ?_
    rintro e z1 ⟨u, rfl, hu, hb⟩
    have hb1 := Lib.hid (below0 hdr.out hb)
    have hin := Lib.hid (ints_wi (by rw [hz_len]; omega) ((HWI.out.below hdr.out).below hb) hu)
    rw [decide_eq_true (show hz xs = hz xs from rfl)] at hin
    replace hin : Hid (Calls Tryd.prog 30 #[.slice Av xs.length cv, u] z1 _) := hin
    clear hb hu
    refine hK.out _ _ (HSL.out _ hb1.out) (fun hHeld => ?_)
    clear hK K
    try simp only [Act.put]
    refine wpAnyH_ready (rs := [3]) (by kernel_rfl) (by simp) ?_
    refine AllReadyH.cons rfl (fun K hK => ?_) (AllReadyH.nil)
    go_simp
    refine hin.out.mono ?_
    rintro e z2 ⟨rfl, hb⟩
    have hb2 := Lib.hid (below0 hb1.out hb)
    clear hb hin
    refine hK.out _ _ (HSL.out _ hb2.out) (fun hHeld => ?_)
    clear hK K
    try simp only [Act.put]
    refine wpAnyH_take (i := 4) (v := ?_) rfl (by kernel_rfl) (by kernel_rfl) (by kernel_rfl) (fun _ _ _ h => h) (Or.inl ⟨by kernel_rfl, ?_⟩) hHeld ?_
    rotate_left
    focus (intro w hSw; (try dsimp only at hSw); go_simp; try with_reducible rfl)
    try simp only [Act.put]
    refine wpAnyH_ready (rs := [5]) (by kernel_rfl) (by simp) ?_
    refine AllReadyH.cons rfl (fun K hK => ?_) (AllReadyH.nil)
    go_simp
    refine (HW.out z2 (HBE.out _ (below0 HBL.out hb2.out))).mono ?_
    rintro e z3 ⟨rfl, hb⟩
    have hb3 := Lib.hid (below0 hb2.out hb)
    clear hb
    refine hK.out _ _ (HSL.out _ hb3.out) (fun hHeld => ?_)
    clear hK K
    try simp only [Act.put]
    refine wpAnyH_ready (rs := [6]) (by kernel_rfl) (by simp) ?_
    refine AllReadyH.cons rfl (fun K hK => ?_) (AllReadyH.nil)
    go_simp
    refine hK.out _ _ (HSL.out _ hb3.out) (fun hHeld => ?_)
    clear hK K
    try simp only [Act.put]
    refine wpAnyH_ready (rs := [7]) (by kernel_rfl) (by simp) ?_
    refine AllReadyH.cons rfl (fun K hK => ?_) (AllReadyH.nil)
    go_simp
    refine hK.out _ _ (HSL.out _ hb3.out) (fun hHeld => ?_)
    clear hK K
    try simp only [Act.put]
    refine wpAnyH_done (by kernel_rfl) ?_ _
    refine NoPanic.normal ?_
    have hDz : z3.heap[w8.heap.size]? = some (.deferred (some [])) := (hb3.out.block _ (Array.getElem?_eq_some_iff.1 HDD.out).1).trans HDD.out
    have HFIN := Lib.hid (show Below w.heap.size w (z3.putObj w8.heap.size (.deferred none)) from by
      have h2 : Below w.heap.size w z3 := HBE.out _ (below0 HBL.out hb3.out)
      have h3 := HZ8.out
      have h4 := HE.out.tb.below.size
      exact h2.grown (putObj_grown z3 _ _) h2.size (fun r e => by cases e; omega))
    clear hHeld
    go_wp2_with fail
    refine ⟨by simp, .inl ⟨_, _, rfl, run_takeDeferred hDz, ?_⟩⟩
    exact ⟨_, results_tmp (t := 4) rfl _ _ _, rfl, HFIN.out⟩
  case stop => exact fun _ _ _ _ _ h => h.elim
theorem stateTexts_any {Has : HasT} (H : Api Has) (s : ByteArray) (x y : Ac) (w : World) (hTb : Tb w) (hx : x.fits) (hy : y.fits) :
    Calls Tryd.prog 5 #[.string s, .agg (x.cells ++ y.cells).toArray] w fun e w' => e = .returned (.bool true) ∧ Below w.heap.size w w' := by
  obtain ⟨xc, xa, xt⟩ := x
  obtain ⟨yc, ya, yt⟩ := y
  show Calls Tryd.prog 5 #[.string s, .agg #[.bool xc, .int .i64 xa, .int .i64 xt, .bool yc, .int .i64 ya, .int .i64 yt]] w fun e w' => e = .returned (.bool true) ∧ Below w.heap.size w w'
  by_cases h3 : 300 < s.size
  · exact texts_far H s xc xa xt yc ya yt w hTb h3
  · by_cases h2 : 256 < s.size ∨ untext s.data.toList = none
    · exact texts_no H s xc xa xt yc ya yt w hTb (by omega) h2
    · cases hu : untext s.data.toList with
      | none => exact absurd (.inr hu) h2
      | some l => exact texts_ok H s xc xa xt yc ya yt w hTb l (by omega) hu hx hy
end Go.Proofs.YtelhieinkdmpfaaDoor.Sh
