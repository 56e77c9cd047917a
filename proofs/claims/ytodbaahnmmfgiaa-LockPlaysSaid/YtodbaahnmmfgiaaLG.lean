import Derived.Test.YtodbaahnmmfgiaaLF
namespace Go.Proofs.Ytodbaahnmmfgiaa.Lk
open Go.RowKit Go.Shelf
attribute [local go_sem] Oper.semAt_some

/- A CALL BY BOTH: ITS WAYS. -/
set_option maxRecDepth 100000 in
set_option maxHeartbeats 2000000 in
theorem act_try {Has : HasT} (H : Api Has) (v vv : Value) (l : Ls) (F : Nat → Prop) (t r : Int) (W : World) (h : Has W v l F) (hv : Wi W vv l) (ht : i64 t) (hr : i64 r) :
    Calls Try.prog 12 #[v, vv, acV 0 t r] W (ActP Has W F (tryL l t r)) := by
  obtain ⟨ad, rfl⟩ := H.ptr h
  have hmost := H.most h
  have M0 := Lib.hid (Mid.start H (what := 0) (t := t) (r := r) h hv)
  obtain ⟨W1, hW1⟩ : ∃ W1, W1 = W.alloc (.cells #[.int .i64 0, .int .i64 t, .int .i64 r] 36) := ⟨_, rfl⟩
  rw [← hW1] at M0
  have HW1 := Lib.hid hW1
  clear hW1
  have M1 := M0.out
  have hn := Lib.hid (fun n w => num_any n w)
  have H1 := Lib.hid ((rtry_any l vv t r W1 hmost M1.wi).mono (fun e V ⟨vv', e1, hw, hb⟩ => (show ∃ vv', e = Ending.returned (.tuple #[vv', .bool (tryQ l t r), .int .i64 (asksE l t r)]) ∧ Mid Has W F (.pointer (some ad)) vv' 0 t r l (tryL l t r) V from ⟨vv', e1, M0.out.more H hb hw⟩)))
  have H2 := Lib.hid (fun V vv' (hM : Mid Has W F (.pointer (some ad)) vv' 0 t r l (tryL l t r) V) => (show Calls Try.prog 20 #[(.pointer (some ad)), .int .i64 t, .int .i64 r] V (fun e V' => e = .returned (.tuple #[.bool (tryQ l t r), .int .i64 (asksE l t r)]) ∧ ActP Has W F (tryL l t r) (.returned (.tuple #[(.pointer (some ad)), vv', .bool true])) V') from by
    obtain ⟨F1, a1, a2⟩ := hM.has
    exact (H.try_ t r a1 ht hr).mono fun _ _ ⟨e1, hx⟩ => ⟨e1, (hM.step H a1 a2 hx).done⟩))
  have HB := Lib.hid (fun V vv' (hM : Mid Has W F (.pointer (some ad)) vv' 0 t r l (tryL l t r) V) => hM.box)
  obtain ⟨q, hq⟩ : ∃ q, q = tryQ l t r := ⟨_, rfl⟩
  obtain ⟨x, hx⟩ : ∃ x, x = asksE l t r := ⟨_, rfl⟩
  rw [← hq, ← hx] at H1 H2
  obtain ⟨L2, hL⟩ : ∃ L, L = tryL l t r := ⟨_, rfl⟩
  rw [← hL] at H1 H2 HB ⊢
  have e1 : (q == q) = true := by simp
  have e2 : (x == x) = true := by simp
  clear h hv hmost hq hx hL ht hr
  have b0 := M1.box.cell 0
  have b1 := M1.box.cell 1
  have b2 := M1.box.cell 2
  simp only [List.getElem?_cons_zero, List.getElem?_cons_succ] at b0 b1 b2
  rw [HW1.out] at b0 b1 b2
  clear M1
  go_enter Try.func12, Try.ntmps12
  go_wp2_with fail
  rw [← HW1.out]
  refine H1.out.mono ?_
  rintro e w2 ⟨vv', rfl, M2⟩
  have HM2 := Lib.hid M2
  clear b0 b1 b2
  have b0 := M2.box.cell 0
  have b1 := M2.box.cell 1
  have b2 := M2.box.cell 2
  simp only [List.getElem?_cons_zero, List.getElem?_cons_succ] at b0 b1 b2
  clear M2
  go_wp2_with fail
  refine (H2.out _ _ HM2.out).mono ?_
  rintro e w3 ⟨rfl, hfin⟩
  have hfin := Lib.hid hfin
  clear b0 b1 b2
  go_wp2_with fail
  refine (hn.out _ _).mono ?_
  rintro e u ⟨rfl, rfl⟩
  go_wp2_with fail
  exact bodyPost_ret (v := .tuple #[_, _, .bool true]) (by simp [results, Try.results12, go_sem]; try exact ⟨rfl, rfl⟩) rfl hfin.out
set_option maxRecDepth 100000 in
set_option maxHeartbeats 2000000 in
theorem act_free {Has : HasT} (H : Api Has) (v vv : Value) (l : Ls) (F : Nat → Prop) (t r : Int) (W : World) (h : Has W v l F) (hv : Wi W vv l) (ht : i64 t) (hr : i64 r) :
    Calls Try.prog 12 #[v, vv, acV 1 t r] W (ActP Has W F (freeL l t r)) := by
  obtain ⟨ad, rfl⟩ := H.ptr h
  have hmost := H.most h
  have M0 := Lib.hid (Mid.start H (what := 1) (t := t) (r := r) h hv)
  obtain ⟨W1, hW1⟩ : ∃ W1, W1 = W.alloc (.cells #[.int .i64 1, .int .i64 t, .int .i64 r] 36) := ⟨_, rfl⟩
  rw [← hW1] at M0
  have HW1 := Lib.hid hW1
  clear hW1
  have M1 := M0.out
  have hn := Lib.hid (fun n w => num_any n w)
  have H1 := Lib.hid ((rfree_any l vv t r W1 hmost M1.wi).mono (fun e V ⟨vv', e1, hw, hb⟩ => (show ∃ vv', e = Ending.returned (.tuple #[vv', .int .i64 (freeE l t r)]) ∧ Mid Has W F (.pointer (some ad)) vv' 1 t r l (freeL l t r) V from ⟨vv', e1, M0.out.more H hb hw⟩)))
  have H2 := Lib.hid (fun V vv' (hM : Mid Has W F (.pointer (some ad)) vv' 1 t r l (freeL l t r) V) => (show Calls Try.prog 21 #[(.pointer (some ad)), .int .i64 t, .int .i64 r] V (fun e V' => e = .returned (.int .i64 (freeE l t r)) ∧ ActP Has W F (freeL l t r) (.returned (.tuple #[(.pointer (some ad)), vv', .bool true])) V') from by
    obtain ⟨F1, a1, a2⟩ := hM.has
    exact (H.free t r a1 ht hr).mono fun _ _ ⟨e1, hx⟩ => ⟨e1, (hM.step H a1 a2 hx).done⟩))
  obtain ⟨x, hx⟩ : ∃ x, x = freeE l t r := ⟨_, rfl⟩
  rw [← hx] at H1 H2
  obtain ⟨L2, hL⟩ : ∃ L, L = freeL l t r := ⟨_, rfl⟩
  rw [← hL] at H1 H2 ⊢
  have e2 : (x == x) = true := by simp
  clear h hv hmost hx hL ht hr
  have b0 := M1.box.cell 0
  have b1 := M1.box.cell 1
  have b2 := M1.box.cell 2
  simp only [List.getElem?_cons_zero, List.getElem?_cons_succ] at b0 b1 b2
  rw [HW1.out] at b0 b1 b2
  clear M1
  go_enter Try.func12, Try.ntmps12
  go_wp2_with fail
  rw [← HW1.out]
  refine H1.out.mono ?_
  rintro e w2 ⟨vv', rfl, M2⟩
  have HM2 := Lib.hid M2
  clear b0 b1 b2
  have b0 := M2.box.cell 0
  have b1 := M2.box.cell 1
  have b2 := M2.box.cell 2
  simp only [List.getElem?_cons_zero, List.getElem?_cons_succ] at b0 b1 b2
  clear M2
  go_wp2_with fail
  refine (H2.out _ _ HM2.out).mono ?_
  rintro e w3 ⟨rfl, hfin⟩
  have hfin := Lib.hid hfin
  clear b0 b1 b2
  go_wp2_with fail
  refine (hn.out _ _).mono ?_
  rintro e u ⟨rfl, rfl⟩
  go_wp2_with fail
  exact bodyPost_ret (v := .tuple #[_, _, .bool true]) (by simp [results, Try.results12, go_sem]; try exact ⟨rfl, rfl⟩) rfl hfin.out
set_option maxRecDepth 100000 in
set_option maxHeartbeats 2000000 in
theorem act_drop {Has : HasT} (H : Api Has) (v vv : Value) (l : Ls) (F : Nat → Prop) (t r : Int) (W : World) (h : Has W v l F) (hv : Wi W vv l) (ht : i64 t) (_hr : i64 r) (hth : threadB t = true) :
    Calls Try.prog 12 #[v, vv, acV 2 t r] W (ActP Has W F (dropL l t)) := by
  obtain ⟨ad, rfl⟩ := H.ptr h
  have hmost := H.most h
  have M0 := Lib.hid (Mid.start H (what := 2) (t := t) (r := r) h hv)
  obtain ⟨W1, hW1⟩ : ∃ W1, W1 = W.alloc (.cells #[.int .i64 2, .int .i64 t, .int .i64 r] 36) := ⟨_, rfl⟩
  rw [← hW1] at M0
  have HW1 := Lib.hid hW1
  clear hW1
  have M1 := M0.out
  have hn := Lib.hid (fun n w => num_any n w)
  have H1 := Lib.hid (show Calls Try.prog 22 #[(.pointer (some ad)), .int .i64 t] W1 (fun e V => e = .returned (.tuple #[.int .i64 ((held l t).length : Int), .int .i64 0]) ∧ Mid Has W F (.pointer (some ad)) vv 2 t r (dropL l t) l V) from by
    obtain ⟨F1, a1, a2⟩ := M1.has
    exact (H.drop t a1 ht hth).mono fun _ _ ⟨e1, hx⟩ => ⟨e1, M0.out.step H a1 a2 hx⟩)
  have HT := Lib.hid (fun w => rthread_any t w)
  rw [hth] at HT
  have H2 := Lib.hid (fun V (hM : Mid Has W F (.pointer (some ad)) vv 2 t r (dropL l t) l V) => (rdrop_any l vv t V hmost hM.wi).mono (fun e V' ⟨vv', e1, hw, hb⟩ => (show ∃ vv', e = Ending.returned (.tuple #[vv', .int .i64 ((held l t).length : Int)]) ∧ ActP Has W F (dropL l t) (.returned (.tuple #[(.pointer (some ad)), vv', .bool true])) V' from ⟨vv', e1, (hM.more H hb hw).done⟩)))
  obtain ⟨n, hnn⟩ : ∃ n, n = (held l t).length := ⟨_, rfl⟩
  rw [← hnn] at H1 H2
  obtain ⟨L2, hL⟩ : ∃ L, L = dropL l t := ⟨_, rfl⟩
  rw [← hL] at H1 H2 ⊢
  have e2 : ((n : Int) == (n : Int)) = true := by simp
  clear h hv hmost hnn hL ht
  have b0 := M1.box.cell 0
  have b1 := M1.box.cell 1
  have b2 := M1.box.cell 2
  simp only [List.getElem?_cons_zero, List.getElem?_cons_succ] at b0 b1 b2
  rw [HW1.out] at b0 b1 b2
  clear M1
  go_enter Try.func12, Try.ntmps12
  go_wp2_with fail
  rw [← HW1.out]
  refine H1.out.mono ?_
  rintro e w2 ⟨rfl, M2⟩
  have HM2 := Lib.hid M2
  clear b0 b1 b2
  have b0 := M2.box.cell 0
  have b1 := M2.box.cell 1
  have b2 := M2.box.cell 2
  simp only [List.getElem?_cons_zero, List.getElem?_cons_succ] at b0 b1 b2
  clear M2
  go_wp2_with fail
  refine (HT.out _).mono ?_
  rintro e u ⟨rfl, rfl⟩
  go_wp2_with fail
  refine (H2.out _ HM2.out).mono ?_
  rintro e w3 ⟨vv', rfl, hfin⟩
  have hfin := Lib.hid hfin
  clear b0 b1 b2
  go_wp2_with fail
  refine (hn.out _ _).mono ?_
  rintro e u ⟨rfl, rfl⟩
  go_wp2_with fail
  exact bodyPost_ret (v := .tuple #[_, _, .bool true]) (by simp [results, Try.results12, go_sem]; try exact ⟨rfl, rfl⟩) rfl hfin.out
set_option maxRecDepth 100000 in
set_option maxHeartbeats 2000000 in
theorem act_dropNo {Has : HasT} (H : Api Has) (v vv : Value) (l : Ls) (F : Nat → Prop) (t r : Int) (W : World) (h : Has W v l F) (hv : Wi W vv l) (ht : i64 t) (_hr : i64 r) (hth : threadB t = false) :
    Calls Try.prog 12 #[v, vv, acV 2 t r] W (ActP Has W F (l)) := by
  obtain ⟨ad, rfl⟩ := H.ptr h
  have hmost := H.most h
  have M0 := Lib.hid (Mid.start H (what := 2) (t := t) (r := r) h hv)
  obtain ⟨W1, hW1⟩ : ∃ W1, W1 = W.alloc (.cells #[.int .i64 2, .int .i64 t, .int .i64 r] 36) := ⟨_, rfl⟩
  rw [← hW1] at M0
  have HW1 := Lib.hid hW1
  clear hW1
  have M1 := M0.out
  have hn := Lib.hid (fun n w => num_any n w)
  have H1 := Lib.hid (show Calls Try.prog 22 #[(.pointer (some ad)), .int .i64 t] W1 (fun e V => e = .returned (.tuple #[.int .i64 0, .int .i64 2]) ∧ Mid Has W F (.pointer (some ad)) vv 2 t r l l V) from by
    obtain ⟨F1, a1, a2⟩ := M1.has
    exact (H.dropNo t a1 ht hth).mono fun _ _ ⟨e1, hx⟩ => ⟨e1, M0.out.more H hx (M0.out.wi.below hx)⟩)
  have HT := Lib.hid (fun w => rthread_any t w)
  rw [hth] at HT
  clear h hv hmost ht
  have b0 := M1.box.cell 0
  have b1 := M1.box.cell 1
  have b2 := M1.box.cell 2
  simp only [List.getElem?_cons_zero, List.getElem?_cons_succ] at b0 b1 b2
  rw [HW1.out] at b0 b1 b2
  clear M1
  go_enter Try.func12, Try.ntmps12
  go_wp2_with fail
  rw [← HW1.out]
  refine H1.out.mono ?_
  rintro e w2 ⟨rfl, M2⟩
  have hfin := Lib.hid M2.done
  clear b0 b1 b2
  have b0 := M2.box.cell 0
  have b1 := M2.box.cell 1
  have b2 := M2.box.cell 2
  simp only [List.getElem?_cons_zero, List.getElem?_cons_succ] at b0 b1 b2
  clear M2
  go_wp2_with fail
  refine (HT.out _).mono ?_
  rintro e u ⟨rfl, rfl⟩
  go_wp2_with fail
  refine (hn.out _ _).mono ?_
  rintro e u ⟨rfl, rfl⟩
  go_wp2_with fail
  exact bodyPost_ret (v := .tuple #[_, _, .bool true]) (by simp [results, Try.results12, go_sem]; try exact ⟨rfl, rfl⟩) rfl hfin.out
set_option maxRecDepth 100000 in
set_option maxHeartbeats 2000000 in
theorem act_copy {Has : HasT} (H : Api Has) (v vv : Value) (l : Ls) (F : Nat → Prop) (what : Int) (h0 : what ≠ 0) (h1 : what ≠ 1) (h2 : what ≠ 2) (t r : Int) (W : World) (h : Has W v l F) (hv : Wi W vv l) :
    Calls Try.prog 12 #[v, vv, acV what t r] W (ActP Has W F (l)) := by
  obtain ⟨ad, rfl⟩ := H.ptr h
  have hmost := H.most h
  have M0 := Lib.hid (Mid.start H (what := what) (t := t) (r := r) h hv)
  obtain ⟨W1, hW1⟩ : ∃ W1, W1 = W.alloc (.cells #[.int .i64 what, .int .i64 t, .int .i64 r] 36) := ⟨_, rfl⟩
  rw [← hW1] at M0
  have HW1 := Lib.hid hW1
  clear hW1
  have M1 := M0.out
  have H1 := Lib.hid (show Calls Try.prog 18 #[(.pointer (some ad))] W1 (fun e V => ∃ v', e = .returned v' ∧ ActP Has W F l (.returned (.tuple #[v', vv, .bool true])) V) from by
    obtain ⟨F1, a1, a2⟩ := M1.has
    refine (H.copy a1).mono ?_
    rintro e V ⟨v', F', e1, c1, c2, c3⟩
    have hs := M0.out.box.lt
    exact ⟨v', e1, v', F', vv, rfl, c1, M0.out.wi.below c3, M0.out.keep.trans (Keep.of_below c3) (fun _ _ e => e), fun k hk => .inr (by have := c2 k hk; omega)⟩)
  have e0 : (what == (0 : Int)) = false := beq_eq_false_iff_ne.2 h0
  have e1 : (what == (1 : Int)) = false := beq_eq_false_iff_ne.2 h1
  have e2 : (what == (2 : Int)) = false := beq_eq_false_iff_ne.2 h2
  clear h hv hmost h0 h1 h2
  have b0 := M1.box.cell 0
  have b1 := M1.box.cell 1
  have b2 := M1.box.cell 2
  simp only [List.getElem?_cons_zero, List.getElem?_cons_succ] at b0 b1 b2
  rw [HW1.out] at b0 b1 b2
  clear M1
  go_enter Try.func12, Try.ntmps12
  go_wp2_with fail
  rw [← HW1.out]
  refine H1.out.mono ?_
  rintro e w2 ⟨v', rfl, hfin⟩
  have hfin := Lib.hid hfin
  clear b0 b1 b2
  go_wp2_with fail
  exact bodyPost_ret (v := .tuple #[_, _, .bool true]) (by simp [results, Try.results12, go_sem]; try exact ⟨rfl, rfl⟩) rfl hfin.out
theorem act_any {Has : HasT} (H : Api Has) (v vv : Value) (l : Ls) (F : Nat → Prop) (x : Ac) (W : World) (h : Has W v l F) (hv : Wi W vv l) (hx : x.fits) :
    Calls Try.prog 12 #[v, vv, .agg x.cells.toArray] W (ActP Has W F (actL l x.what x.thread x.rank)) := by
  obtain ⟨what, t, r⟩ := x
  obtain ⟨ht, hr⟩ := hx
  show Calls _ _ #[v, vv, acV what t r] W (ActP Has W F (actL l what t r))
  by_cases h0 : what = 0
  · subst h0
    exact act_try H v vv l F t r W h hv ht hr
  · by_cases h1 : what = 1
    · subst h1
      exact act_free H v vv l F t r W h hv ht hr
    · by_cases h2 : what = 2
      · subst h2
        cases hth : threadB t
        · rw [show actL l 2 t r = l by simp [actL, hth]]
          exact act_dropNo H v vv l F t r W h hv ht hr hth
        · rw [show actL l 2 t r = dropL l t by simp [actL, hth]]
          exact act_drop H v vv l F t r W h hv ht hr hth
      · rw [show actL l what t r = l by simp [actL, h0, h1, h2]]
        exact act_copy H v vv l F what h0 h1 h2 t r W h hv
end Go.Proofs.Ytodbaahnmmfgiaa.Lk
