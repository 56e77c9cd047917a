import Derived.Test.YtodbaahnmmfgiaaNF
namespace Go.Proofs.Ytodbaahnmmfgiaa.Lk
open Go.RowKit Go.Shelf
attribute [local go_sem] Oper.semAt_some

/- THE LAW's LIST OF NO LOCKS. -/
set_option maxRecDepth 100000 in
set_option maxHeartbeats 8000000 in
theorem all_nine {gf : Nat} (ENT : ∀ (args : Array Value) (V : World), (callFunc gf args).run Try.prog V = .ok (.enter gf args) V) (NN : ∀ (lb : Array Value) (V : World), (binOp .eql 48 (.func (.func gf) #[] lb) .nilFunc).run Try.prog V = .ok (.bool false) V)
    {ad : Option Addr} {l : Ls} {w : World} (hmost : l.length ≤ 8) (hths : Ths l) (HALL0 : ∀ V, Below w.heap.size w V → Calls Try.prog 19 #[.pointer ad] V fun e w' => ∃ lb Pv, e = .returned (.func (.func gf) #[] lb) ∧ It Try.prog gf lb encP (fun _ _ => False) (preA (prs l)) Pv (allA (prs l)) (someA (prs l)) w' ∧ (∀ k, Pv k → V.heap.size ≤ k ∧ k < w'.heap.size) ∧ Below V.heap.size V w') :
    Calls Try.prog 26 #[.pointer ad, .int .i64 (l.length : Int), .int .i64 9] w fun e w' => ∃ u, e = .returned u ∧ Wi w' u l ∧ Below w.heap.size w w' := by
  have HNN := Lib.hid NN
  have HRN := Lib.hid (fun V => rnew_ok l.length V (by omega))
  have HALL := Lib.hid HALL0
  have HEND := Lib.hid (setAll_end hths)
  have HPL := Lib.hid (Nat.le_trans (prTo_len l l.length) hmost)
  have HPM := Lib.hid (prTo_mem l l.length)
  have HFL := Lib.hid (frees_len l.length)
  obtain ⟨n, hn⟩ : ∃ n, n = l.length := ⟨_, rfl⟩
  have HN := Lib.hid hn
  rw [← hn] at HRN HEND HPM HFL hmost
  rw [← hn]
  obtain ⟨L0, hL0⟩ : ∃ L0, L0 = frees n := ⟨_, rfl⟩
  rw [← hL0] at HRN HEND HFL
  clear hths hn hL0
  obtain ⟨W3, hW3⟩ : ∃ W3, W3 = ((w.alloc (.cells #[.int .i64 (n : Int)] 3)).alloc (.cells #[.int .i64 9] 3)).alloc (.cells #[.slice none 0 0] 28) := ⟨_, rfl⟩
  have hb3 : Below w.heap.size w W3 := by rw [hW3]; exact below3 _ _ _ _
  have hs3 : W3.heap.size = w.heap.size + 3 := by rw [hW3]; simp
  have hx0 : Boxed W3 w.heap.size 3 (.int .i64 (n : Int)) := by rw [hW3]; exact ((Boxed.new w _ _).alloc _).alloc _
  have hx1 : Boxed W3 (w.heap.size + 1) 3 (.int .i64 9) := by
    rw [hW3]
    have := (Boxed.new (w.alloc (.cells #[.int .i64 (n : Int)] 3)) 3 (.int .i64 9)).alloc (.cells #[.slice none 0 0] 28)
    rwa [World.size_alloc] at this
  have hx2 : Boxed W3 (w.heap.size + 2) 28 (.slice none 0 0) := by
    rw [hW3]
    have := Boxed.new ((w.alloc (.cells #[.int .i64 (n : Int)] 3)).alloc (.cells #[.int .i64 9] 3)) 28 (.slice none 0 0)
    rwa [World.size_alloc, World.size_alloc] at this
  have c0 := hx0.cell
  have HW3 := Lib.hid hW3
  rw [hW3] at c0
  have HB3 := Lib.hid hb3
  have HX := Lib.hid (And.intro hx0 (And.intro hx1 hx2))
  have HS3 := Lib.hid hs3
  clear hW3 hb3 hs3 hx0 hx1 hx2
  refine calls_marks Try.func26 rfl ?_
  simp only [Try.ntmps26, List.size_toArray, List.length_cons, List.length_nil, Nat.reduceAdd, Nat.reduceSub, Array.replicate_succ, Array.replicate_zero, List.push_toArray, List.append_toArray, List.nil_append, List.cons_append]
  go_wp2_with fail
  rw [← HW3.out]
  refine (HRN.out _).mono ?_
  rintro e w4 ⟨u, rfl, ⟨A, cu, rfl, hcu, hrow⟩, hb4, hnew⟩
  rw [HFL.out] at hcu ⊢
  have HB4 := Lib.hid hb4
  have HROW := Lib.hid hrow
  have HCU := Lib.hid hcu
  have HNEW := Lib.hid hnew
  clear c0 hcu hrow hb4 hnew
  go_wp2_with fail
  obtain ⟨w6, hw6⟩ : ∃ w6, w6 = (w4.alloc (.cells #[.slice A n cu] 28)).alloc (.cells #[.int .i64 0] 3) := ⟨_, rfl⟩
  have hb6 : Below w4.heap.size w4 w6 := by rw [hw6]; exact below2 _ _ _
  have hs6 : w6.heap.size = w4.heap.size + 2 := by rw [hw6]; simp
  have hx7 : Boxed w6 w4.heap.size 28 (.slice A n cu) := by rw [hw6]; exact (Boxed.new w4 _ _).alloc _
  have hx9 : Boxed w6 (w4.heap.size + 1) 3 (.int .i64 0) := by
    rw [hw6]
    have := Boxed.new (w4.alloc (.cells #[.slice A n cu] 28)) 3 (.int .i64 0)
    rwa [World.size_alloc] at this
  have hb06 := below0 HB3.out (below0 HB4.out hb6)
  have HST := Lib.hid (And.intro hs6 (And.intro hx7 (And.intro hx9 (And.intro hb06 hb6))))
  rw [← hw6]
  clear hw6 hs6 hx7 hx9 hb06 hb6
  refine (HALL.out _ HST.out.2.2.2.1).mono ?_
  rintro e w7 ⟨lb1, _, rfl, _, _, hb7⟩
  have hnn1 := HNN.out lb1 w7
  have HB7 := Lib.hid (below0 HST.out.2.2.2.1 hb7)
  have HB67 := Lib.hid hb7
  clear hb7
  go_wp2_with fail
  refine (HALL.out _ HB7.out).mono ?_
  rintro e w8 ⟨lb, Pv, rfl, hit, hPv, hb8⟩
  have hb68 := below0 HB67.out hb8
  have hq1 := HST.out.1
  have hq2 := HB67.out.size
  have hq3 := hb8.size
  have hq4 := HS3.out
  have hq5 := HB4.out.size
  have hw48 := below0 HST.out.2.2.2.2 hb68
  have hx0 : Boxed w8 w.heap.size 3 (.int .i64 (n : Int)) := (hw48.block _ (by omega)).trans ((HB4.out.block _ (by omega)).trans HX.out.1)
  have hx1 : Boxed w8 (w.heap.size + 1) 3 (.int .i64 9) := (hw48.block _ (by omega)).trans ((HB4.out.block _ (by omega)).trans HX.out.2.1)
  have hx2 : Boxed w8 (w.heap.size + 2) 28 (.slice none 0 0) := (hw48.block _ (by omega)).trans ((HB4.out.block _ (by omega)).trans HX.out.2.2)
  have hx7 : Boxed w8 w4.heap.size 28 (.slice A n cu) := (hb68.block _ (by omega)).trans HST.out.2.1
  have hx9 : Boxed w8 (w4.heap.size + 1) 3 (.int .i64 0) := (hb68.block _ (by omega)).trans HST.out.2.2.1
  obtain ⟨g, hg⟩ : ∃ g, L0 ≠ [] → A = some ⟨g, 0, none⟩ ∧ (W3.heap.size ≤ g ∧ g < w4.heap.size) ∧ ∃ rest, Row w4 g 3 (izs L0 ++ rest) := by
    by_cases hz : L0 = []
    · exact ⟨0, fun h => absurd hz h⟩
    · obtain ⟨g, rest, e, hr⟩ := HROW.out hz
      exact ⟨g, fun _ => ⟨e, ⟨HNEW.out g (by rw [e]; rfl), hr.lt⟩, rest, hr⟩⟩
  have HG := Lib.hid hg
  have h0 : AI w w.heap.size w4.heap.size (w4.heap.size + 1) g w8.heap.size (n : Int) 9 (.slice A n cu) L0 [] (fun _ => False) w8 := by
    refine ⟨by omega, by omega, by omega, fun hz => by have := (hg hz).2.1.2; omega, hx0, hx1, hx2, hx7, hx9, fun hz => ?_, below0 HB7.out hb8, by have := HB7.out.size; omega, fun _ h => h.elim⟩
    obtain ⟨_, _, rest, hr⟩ := hg hz
    exact ⟨rest, hr.below hw48⟩
  have hPv2 : ∀ k, Pv k → k < w8.heap.size ∧ w4.heap.size + 2 ≤ k := fun k hk => ⟨(hPv k hk).2, by have := (hPv k hk).1; omega⟩
  have HPV := Lib.hid hPv2
  have HSZ := Lib.hid (And.intro hq1 (And.intro hq2 (And.intro hq3 (And.intro hq4 hq5))))
  clear hg hPv hq1 hq2 hq3 hq4 hq5 hx0 hx1 hx2 hx7 hx9 hw48 hb68 HST HX hnn1
  go_wp2_with fail
  refine wpIn_wide.1 (wpIn_range_it (gf := gf) (lb := lb) rfl ENT hit (fun k hk => (HPV.out k hk).1) (fun _ => rfl) (fun _ _ _ _ _ h => h)
    (AI w w.heap.size w4.heap.size (w4.heap.size + 1) g w8.heap.size (n : Int) 9 (.slice A n cu) L0) (fun _ _ _ _ => False) AI.abid (fun _ _ _ _ _ _ h _ _ => h) h0
    ?a1 ?assign ?body ?done ?stop)
  case assign =>
    intro l9 r W' K hK
    simp only [encP]
    gi_wp2
    exact hK
  case body =>
    rintro l9 pre x O V hVs hO ⟨k1, k2, k3, k4, k5, k6, k7, k8, k9, k10, k11, k12, k13⟩ ⟨post, hpp⟩ _
    have hpl : pre.length ≤ 7 := by
      have h1 := HPL.out
      have h2 : (prs l).length = pre.length + post.length + 1 := by rw [hpp]; simp; omega
      unfold prs at h2
      omega
    have hmem : x ∈ prs l := by rw [hpp]; simp
    have hxm := (HPM.out x (by unfold prs at hmem; rw [HN.out]; exact hmem)).1
    have hL0 : L0 ≠ [] := fun e => by have := HFL.out; rw [e] at this; simp at this; omega
    obtain ⟨rfl, hgl, _⟩ := HG.out hL0
    obtain ⟨rest, hrow⟩ := k10 hL0
    have hsl : (setAll L0 pre).length = n := by rw [setAll_len, HFL.out]
    have hc0 := k5.cell
    have hc1 := k6.cell
    have hc7 := k8.cell
    have hc9 := k9.cell
    have hf9 := k9.frozen
    have hfg := hrow.frozen x.1
    have hcg : ∃ z, V.cell? ⟨g, x.1, none⟩ = some (.int .i64 z) := ⟨(setAll L0 pre)[x.1]'(by rw [hsl]; exact hxm), by
      rw [hrow.cell, List.getElem?_append_left (by rw [izs_len, hsl]; exact hxm)]
      exact izs_get _ _⟩
    obtain ⟨z, hcg⟩ := hcg
    have hgl4 := hgl.2
    have hne9 : w4.heap.size + 1 ≠ g := by omega
    have hne7 : w4.heap.size ≠ g := by omega
    obtain ⟨V1, hV1⟩ : ∃ V1, V1 = V.setCell ⟨g, x.1, none⟩ (.int .i64 x.2) := ⟨_, rfl⟩
    have hrow1 : Row V1 g 3 (izs (setAll L0 (pre ++ [x])) ++ rest) := by
      rw [hV1, setAll_snoc, ← izs_set, ← List.set_append_left _ _ (by rw [izs_len, hsl]; exact hxm)]
      exact hrow.set _ _
    have hB1 : ∀ k, k ≠ g → V1.heap[k]? = V.heap[k]? := fun k hk => by rw [hV1]; exact heap_set hk
    have hk9' : Boxed V1 (w4.heap.size + 1) 3 (.int .i64 (pre.length : Int)) := (hB1 _ hne9).trans k9
    have hc9' := hk9'.cell
    have hf9' := hk9'.frozen
    have hz := HSZ.out
    have hfin : Keeps Pv w8.heap.size O (fun _ => False) V (V1.setCell ⟨w4.heap.size + 1, 0, none⟩ (.int .i64 ((pre.length + 1 : Nat) : Int))) ∧
        AI w w.heap.size w4.heap.size (w4.heap.size + 1) g w8.heap.size (n : Int) 9 (.slice (some ⟨g, 0, none⟩) n cu) L0 (pre ++ [x]) (nextO O (fun _ => False) V (V1.setCell ⟨w4.heap.size + 1, 0, none⟩ (.int .i64 ((pre.length + 1 : Nat) : Int)))) (V1.setCell ⟨w4.heap.size + 1, 0, none⟩ (.int .i64 ((pre.length + 1 : Nat) : Int))) := by
      have hB2 : ∀ k, k ≠ g → k ≠ w4.heap.size + 1 → (V1.setCell ⟨w4.heap.size + 1, 0, none⟩ (.int .i64 ((pre.length + 1 : Nat) : Int))).heap[k]? = V.heap[k]? := fun k h1 h2 => (heap_set h2).trans (hB1 k h1)
      have hsV1 : V1.heap.size = V.heap.size := by rw [hV1]; simp [World.setCell]
      have hgl2 := hgl.1
      have hgl3 := hgl.2
      refine ⟨⟨by simp [World.setCell, hsV1], fun k hk hp => ?_⟩, k1, k2, k3, k4, (hB2 _ (by omega) (by omega)).trans k5, (hB2 _ (by omega) (by omega)).trans k6, (hB2 _ (by omega) (by omega)).trans k7, (hB2 _ hne7 (by omega)).trans k8, ?_, fun _ => ⟨rest, hrow1.same (heap_set (Ne.symm hne9))⟩, ?_, k12, nextO_ge k13 (fun _ h => h.elim) hVs⟩
      · rcases hp with hp | ⟨hp, _⟩
        · have := (HPV.out k hp).2
          exact hB2 k (by omega) (by omega)
        · exact hB2 k (by omega) (by omega)
      · rw [List.length_append]
        exact hk9'.set _
      · rw [hV1]
        exact (k11.setCell (show w.heap.size ≤ g by omega) _).setCell (show w.heap.size ≤ w4.heap.size + 1 by omega) _
    have HFIN := Lib.hid hfin
    have i0 : (0 : Int) ≤ (x.1 : Int) := by omega
    have i1 : (x.1 : Int) < (n : Int) := by omega
    have e1 : decide ((x.1 : Int) < 0) = false := decide_eq_false (by omega)
    have e2 : decide ((n : Int) ≤ (x.1 : Int)) = false := decide_eq_false (by omega)
    have e3 : decide (n ≤ x.1) = false := decide_eq_false (by omega)
    have ew : IntKind.i64.wrap ((pre.length : Int) + 1) = ((pre.length + 1 : Nat) : Int) := by rw [wrapI _ (by omega) (by omega)]; omega
    have c99 : (V1.setCell ⟨w4.heap.size + 1, 0, none⟩ (.int .i64 ((pre.length + 1 : Nat) : Int))).cell? ⟨w4.heap.size + 1, 0, none⟩ = some (.int .i64 ((pre.length + 1 : Nat) : Int)) := (hk9'.set _).cell
    have c11 : (V1.setCell ⟨w4.heap.size + 1, 0, none⟩ (.int .i64 ((pre.length + 1 : Nat) : Int))).cell? ⟨w.heap.size + 1, 0, none⟩ = some (.int .i64 9) := by
      have := hfin.2.2.2.2.2.2.1
      exact this.cell
    obtain ⟨m, hm⟩ : ∃ m, m = pre.length + 1 := ⟨_, rfl⟩
    rw [← hm] at HFIN ew c99 c11
    have e4 : decide ((9 : Int) ≤ (m : Int)) = false := decide_eq_false (by omega)
    have HV1 := Lib.hid hV1
    rw [HV1.out] at hc9' hf9' c99 c11 HFIN
    clear hfin hk9' hrow1 hB1 hV1 k5 k6 k7 k8 k9 k10 k11 hrow hpp hmem hm hz hit
    gi_wp2_with fail
    exact HFIN.out
  case done =>
    intro xs O V hall hI hD
    have hnO : ¬ O w8.heap.size := fun h => by have := hI.2.2.2.2.2.2.2.2.2.2.2.2 _ h; omega
    obtain ⟨k1, k2, k3, k4, k5, k6, k7, k8, k9, k10, k11, k12, k13⟩ := hI
    obtain rfl : xs = prs l := hall
    have hz := HSZ.out
    have hc7 := k8.cell
    have hc2 := k7.cell
    have hf2 := k7.frozen
    have hlt8 := (Array.getElem?_eq_some_iff.1 hD).1
    obtain ⟨V1, hV1⟩ : ∃ V1, V1 = V.setCell ⟨w.heap.size + 2, 0, none⟩ (.slice A n cu) := ⟨_, rfl⟩
    have hB1 : ∀ k, k ≠ w.heap.size + 2 → V1.heap[k]? = V.heap[k]? := fun k hk => by rw [hV1]; exact heap_set hk
    have hD1 : V1.heap[w8.heap.size]? = some (.deferred (some [])) := (hB1 _ (by omega)).trans hD
    have hr1 : Boxed V1 (w.heap.size + 2) 28 (.slice A n cu) := by rw [hV1]; exact k7.set _
    have hbV1 : Below w.heap.size w V1 := by rw [hV1]; exact k11.setCell (show w.heap.size ≤ w.heap.size + 2 by omega) _
    have hs1 : V1.heap.size = V.heap.size := by rw [hV1]; simp [World.setCell]
    have hr2 : Boxed (V1.putObj w8.heap.size (.deferred none)) (w.heap.size + 2) 28 (.slice A n cu) := (World.putObj_heap_other (by omega)).trans hr1
    have hfin : Wi (V1.putObj w8.heap.size (.deferred none)) (.slice A n cu) l ∧ Below w.heap.size w (V1.putObj w8.heap.size (.deferred none)) := by
      refine ⟨⟨A, cu, by rw [HN.out], by rw [← HN.out]; exact HCU.out, fun hne => ?_⟩, hbV1.grown (putObj_grown V1 _ _) (by have := hbV1.size; omega) (fun r e => by cases e; omega)⟩
      have hL0 : L0 ≠ [] := fun e => by
        have h1 := HFL.out
        rw [e, HN.out] at h1
        exact hne (List.eq_nil_of_length_eq_zero h1.symm)
      obtain ⟨rest, hrow⟩ := k10 hL0
      obtain ⟨e, hgl, _⟩ := HG.out hL0
      rw [HEND.out] at hrow
      exact ⟨g, rest, e, hrow.same ((World.putObj_heap_other (by omega)).trans (hB1 _ (by omega)))⟩
    have hrc := hr2.cell
    have HFIN := Lib.hid hfin
    have HV1 := Lib.hid hV1
    clear hit k5 k6 k7 k8 k9 k10 k11 hD hfin hB1 hr1 hr2 hbV1 hz hV1
    go_wp2_with fail
    rw [← HV1.out]
    refine ⟨by simp, .inl ⟨_, _, rfl, run_takeDeferred hD1, ?_⟩⟩
    exact ⟨_, by simp [results, Try.results26, go_sem, hrc], _, rfl, HFIN.out.1, HFIN.out.2⟩
  case stop =>
    intro c' pre O V _ h _
    exact h.elim
theorem seq_nn (lb : Array Value) (V : World) : (binOp .eql 48 (.func (.func 66) #[] lb) .nilFunc).run Try.prog V = .ok (.bool false) V := by kernel_rfl
theorem own_ent (args : Array Value) (V : World) : (callFunc 66 args).run Try.prog V = .ok (.enter 66 args) V := enters_of Try.func66 (by kernel_rfl) rfl args V
theorem api : Api HasL where
  keep := by
    rintro w w' v l F ⟨bl, b, g, c, cs, rfl, h, rfl⟩ hk
    exact ⟨bl, b, g, c, cs, rfl, h.same (hk _ (.inl rfl)) (hk _ (.inr (.inl rfl))) (hk _ (.inr (.inr rfl))), rfl⟩
  lt := by
    rintro w v l F ⟨bl, b, g, c, cs, rfl, h, rfl⟩ k (rfl | rfl | rfl)
    · exact h.obj.lt
    · exact h.rep.obj.lt
    · exact h.rep.row.lt
  off := by
    rintro w v l F ⟨bl, b, g, c, cs, rfl, h, rfl⟩ k cs' hr
    exact h.int_ne hr
  ptr := by
    rintro w v l F ⟨bl, b, g, c, cs, rfl, h, rfl⟩
    exact ⟨_, rfl⟩
  ths := by
    rintro w v l F ⟨bl, b, g, c, cs, rfl, h, rfl⟩
    exact h.th
  most := by
    rintro w v l F ⟨bl, b, g, c, cs, rfl, h, rfl⟩
    exact h.most
  new := lnew_ok
  newNo := lnew_no
  try_ := fun t r h _ _ => ltry_any t r h
  free := fun t r h _ _ => lfree_any t r h
  drop := fun t h _ ht => ldrop_any t h ht
  dropNo := fun t h _ ht => ldrop_no t h ht
  holder := fun r h _ => lholder_any h.any r
  held := fun t h _ => lheld_any h.any t
  chain := fun t ws u h _ _ hs hl => lchain_any t ws u h hs hl
  copy := fun h => lcopy_any h
  same := fun h h' => lsame_any h h'
  sameN := fun h => lsame_rn h (.inl rfl)
  sameN' := fun h => lsame_nr (.inl rfl) h
theorem apiA : ApiA HasL 66 where
  api := api
  ent := own_ent
  nn := seq_nn
  all := fun h => lall_any h.any
/-- what is asked of no locks -/
structure NonC (w : World) (v : Value) : Prop where
  try_ : ∀ V, Below w.heap.size w V → Calls Try.prog 20 #[v, .int .i64 0, .int .i64 0] V fun e w' => e = .returned (.tuple #[.bool false, .int .i64 1]) ∧ Below w.heap.size w w'
  drop : ∀ V, Below w.heap.size w V → Calls Try.prog 22 #[v, .int .i64 0] V fun e w' => e = .returned (.tuple #[.int .i64 0, .int .i64 1]) ∧ Below w.heap.size w w'
  holder : ∀ V, Below w.heap.size w V → Calls Try.prog 25 #[v, .int .i64 0] V fun e w' => e = .returned (.tuple #[.int .i64 0, .bool false]) ∧ Below w.heap.size w w'
  chain : ∀ V, Below w.heap.size w V → Calls Try.prog 15 #[v, .int .i64 0, .slice none 0 0] V fun e w' => e = .returned (.tuple #[.slice none 0 0, .int .i64 1]) ∧ Below w.heap.size w w'
  free : ∀ V, Below w.heap.size w V → Calls Try.prog 21 #[v, .int .i64 0, .int .i64 0] V fun e w' => e = .returned (.int .i64 1) ∧ Below w.heap.size w w'
  held : ∀ V, Below w.heap.size w V → Calls Try.prog 23 #[v, .int .i64 0] V fun e w' => (∃ A c, e = .returned (.slice A 0 c)) ∧ Below w.heap.size w w'
  all : ∀ V, Below w.heap.size w V → Calls Try.prog 26 #[v, .int .i64 0, .int .i64 9] V fun e w' => (∃ A c, e = .returned (.slice A 0 c)) ∧ Below w.heap.size w w'
  copy : ∀ V, Below w.heap.size w V → Calls Try.prog 18 #[v] V fun e w' => e = .returned (.pointer none) ∧ Below w.heap.size w w'
  same : ∀ V, Below w.heap.size w V → Calls Try.prog 14 #[v, .pointer none] V fun e w' => e = .returned (.bool true) ∧ Below w.heap.size w w'
theorem nonC {w : World} {v : Value} (h : NonL w v) : NonC w v where
  try_ := fun V hb => (try_nil v 0 0 V (h.below hb)).mono fun _ _ ⟨e1, e2⟩ => ⟨e1, below0 hb e2⟩
  drop := fun V hb => (drop_nil v 0 V (h.below hb)).mono fun _ _ ⟨e1, e2⟩ => ⟨e1, below0 hb e2⟩
  holder := fun V hb => (lholder_any (.inr ⟨h.below hb, rfl⟩) 0).mono fun _ _ ⟨e1, e2⟩ => ⟨e1, below0 hb e2⟩
  chain := fun V hb => (chain_nil v 0 none 0 0 V (h.below hb)).mono fun _ _ ⟨e1, e2⟩ => ⟨e1, below0 hb e2⟩
  free := fun V hb => (free_nil v 0 0 V (h.below hb)).mono fun _ _ ⟨e1, e2⟩ => ⟨e1, below0 hb e2⟩
  held := fun V hb => (lheld_any (.inr ⟨h.below hb, rfl⟩) 0).mono fun _ _ ⟨u, e1, ⟨A, c, e3, _⟩, e2⟩ => ⟨⟨A, c, by rw [e1, e3]; rfl⟩, below0 hb e2⟩
  all := fun V hb => by
    obtain ⟨ad, rfl⟩ := h.ptr
    exact (all_nine own_ent seq_nn (l := []) (by simp) (fun z hz => by cases hz) (fun V2 hb2 => lall_any (.inr ⟨(h.below hb).below hb2, rfl⟩))).mono fun _ _ ⟨u, e1, ⟨A, c, e3, _⟩, e2⟩ => ⟨⟨A, c, by rw [e1, e3]; rfl⟩, below0 hb e2⟩
  copy := fun V hb => (lcopy_non (h.below hb)).mono fun _ _ ⟨e1, e2⟩ => ⟨e1, below0 hb e2⟩
  same := fun V hb => (lsame_nn (h.below hb) (.inl rfl)).mono fun _ _ ⟨e1, e2⟩ => ⟨e1, below0 hb e2⟩
end Go.Proofs.Ytodbaahnmmfgiaa.Lk

namespace Go.Proofs.Ytodbaahnmmfgiaa.Lk
open Go.RowKit Go.Shelf
attribute [local go_sem] Oper.semAt_some

/- NO LOCKS TELL NOTHING. -/
set_option maxHeartbeats 4000000 in
theorem none_0 (w : World) : Calls Try.prog 10 #[.bool false] w fun e w' => e = .returned (.bool true) ∧ Below w.heap.size w w' := by
  have C := nonC (w := w) (v := .pointer none) (.inl rfl)
  obtain ⟨W, hW⟩ : ∃ W, W = w := ⟨_, rfl⟩
  rw [← hW] at C ⊢
  clear hW
  have HF := Lib.hid (fun V (h : Below W.heap.size W V) => h)
  have Hnum := Lib.hid num_any
  have H1 := Lib.hid C.try_
  have H2 := Lib.hid C.drop
  have H3 := Lib.hid C.holder
  have H4 := Lib.hid C.chain
  have H5 := Lib.hid C.free
  have H6 := Lib.hid C.held
  have H7 := Lib.hid C.all
  have H8 := Lib.hid C.copy
  have H9 := Lib.hid C.same
  have HB := Lib.hid (Below.refl W.heap.size W)
  clear C
  go_enter Try.func10, Try.ntmps10
  go_wp2_with fail
  refine (H1.out _ HB.out).mono ?_
  rintro e V9 ⟨rfl, hb9⟩
  have HB9 := Lib.hid hb9
  clear hb9 HB
  have HB := HB9
  clear HB9
  go_wp2_with fail
  refine (H2.out _ HB.out).mono ?_
  rintro e V9 ⟨rfl, hb9⟩
  have HB9 := Lib.hid hb9
  clear hb9 HB
  have HB := HB9
  clear HB9
  go_wp2_with fail
  refine (H3.out _ HB.out).mono ?_
  rintro e V9 ⟨rfl, hb9⟩
  have HB9 := Lib.hid hb9
  clear hb9 HB
  have HB := HB9
  clear HB9
  go_wp2_with fail
  refine (H4.out _ HB.out).mono ?_
  rintro e V9 ⟨rfl, hb9⟩
  have HB9 := Lib.hid hb9
  clear hb9 HB
  have HB := HB9
  clear HB9
  go_wp2_with fail
  refine (Hnum.out _ _).mono ?_
  rintro e V9 ⟨rfl, rfl⟩
  go_wp2_with fail
  refine (Hnum.out _ _).mono ?_
  rintro e V9 ⟨rfl, rfl⟩
  go_wp2_with fail
  refine (Hnum.out _ _).mono ?_
  rintro e V9 ⟨rfl, rfl⟩
  go_wp2_with fail
  refine (H5.out _ HB.out).mono ?_
  rintro e V9 ⟨rfl, hb9⟩
  have HB9 := Lib.hid hb9
  clear hb9 HB
  have HB := HB9
  clear HB9
  go_wp2_with fail
  refine (Hnum.out _ _).mono ?_
  rintro e V9 ⟨rfl, rfl⟩
  go_wp2_with fail
  refine (H6.out _ HB.out).mono ?_
  rintro e V9 ⟨⟨A6, c6, rfl⟩, hb9⟩
  have HB9 := Lib.hid hb9
  clear hb9 HB
  have HB := HB9
  clear HB9
  go_wp2_with fail
  refine (H7.out _ HB.out).mono ?_
  rintro e V9 ⟨⟨A7, c7, rfl⟩, hb9⟩
  have HB9 := Lib.hid hb9
  clear hb9 HB
  have HB := HB9
  clear HB9
  go_wp2_with fail
  refine (H8.out _ HB.out).mono ?_
  rintro e V9 ⟨rfl, hb9⟩
  have HB9 := Lib.hid hb9
  clear hb9 HB
  have HB := HB9
  clear HB9
  go_wp2_with fail
  refine (H9.out _ HB.out).mono ?_
  rintro e V9 ⟨rfl, hb9⟩
  have HB9 := Lib.hid hb9
  clear hb9 HB
  have HB := HB9
  clear HB9
  go_wp2_with fail
  go_ret
  exact ⟨rfl, HF.out _ HB.out⟩
set_option maxHeartbeats 4000000 in
theorem none_1 (w : World) : Calls Try.prog 10 #[.bool true] w fun e w' => e = .returned (.bool true) ∧ Below w.heap.size w w' := by
  obtain ⟨W, hW⟩ : ∃ W, W = w.alloc (.cells #[.pointer none] 66) := ⟨_, rfl⟩
  have C := nonC (w := W) (v := bx w.heap.size) (.inr ⟨_, rfl, by rw [hW]; exact cell_alloc_new _ _ _ _⟩)
  have HF := Lib.hid (fun V (h : Below W.heap.size W V) => (show Below w.heap.size w V from by rw [hW] at h; exact below0 (below1 w _) h))
  have Hnum := Lib.hid num_any
  have H1 := Lib.hid C.try_
  have H2 := Lib.hid C.drop
  have H3 := Lib.hid C.holder
  have H4 := Lib.hid C.chain
  have H5 := Lib.hid C.free
  have H6 := Lib.hid C.held
  have H7 := Lib.hid C.all
  have H8 := Lib.hid C.copy
  have H9 := Lib.hid C.same
  have HB := Lib.hid (Below.refl W.heap.size W)
  clear C
  go_enter Try.func10, Try.ntmps10
  go_wp2_with fail
  rw [← hW]
  refine (H1.out _ HB.out).mono ?_
  rintro e V9 ⟨rfl, hb9⟩
  have HB9 := Lib.hid hb9
  clear hb9 HB
  have HB := HB9
  clear HB9
  go_wp2_with fail
  refine (H2.out _ HB.out).mono ?_
  rintro e V9 ⟨rfl, hb9⟩
  have HB9 := Lib.hid hb9
  clear hb9 HB
  have HB := HB9
  clear HB9
  go_wp2_with fail
  refine (H3.out _ HB.out).mono ?_
  rintro e V9 ⟨rfl, hb9⟩
  have HB9 := Lib.hid hb9
  clear hb9 HB
  have HB := HB9
  clear HB9
  go_wp2_with fail
  refine (H4.out _ HB.out).mono ?_
  rintro e V9 ⟨rfl, hb9⟩
  have HB9 := Lib.hid hb9
  clear hb9 HB
  have HB := HB9
  clear HB9
  go_wp2_with fail
  refine (Hnum.out _ _).mono ?_
  rintro e V9 ⟨rfl, rfl⟩
  go_wp2_with fail
  refine (Hnum.out _ _).mono ?_
  rintro e V9 ⟨rfl, rfl⟩
  go_wp2_with fail
  refine (Hnum.out _ _).mono ?_
  rintro e V9 ⟨rfl, rfl⟩
  go_wp2_with fail
  refine (H5.out _ HB.out).mono ?_
  rintro e V9 ⟨rfl, hb9⟩
  have HB9 := Lib.hid hb9
  clear hb9 HB
  have HB := HB9
  clear HB9
  go_wp2_with fail
  refine (Hnum.out _ _).mono ?_
  rintro e V9 ⟨rfl, rfl⟩
  go_wp2_with fail
  refine (H6.out _ HB.out).mono ?_
  rintro e V9 ⟨⟨A6, c6, rfl⟩, hb9⟩
  have HB9 := Lib.hid hb9
  clear hb9 HB
  have HB := HB9
  clear HB9
  go_wp2_with fail
  refine (H7.out _ HB.out).mono ?_
  rintro e V9 ⟨⟨A7, c7, rfl⟩, hb9⟩
  have HB9 := Lib.hid hb9
  clear hb9 HB
  have HB := HB9
  clear HB9
  go_wp2_with fail
  refine (H8.out _ HB.out).mono ?_
  rintro e V9 ⟨rfl, hb9⟩
  have HB9 := Lib.hid hb9
  clear hb9 HB
  have HB := HB9
  clear HB9
  go_wp2_with fail
  refine (H9.out _ HB.out).mono ?_
  rintro e V9 ⟨rfl, hb9⟩
  have HB9 := Lib.hid hb9
  clear hb9 HB
  have HB := HB9
  clear HB9
  go_wp2_with fail
  go_ret
  exact ⟨rfl, HF.out _ HB.out⟩
theorem none_any (z : Bool) (w : World) : Calls Try.prog 10 #[.bool z] w fun e w' => e = .returned (.bool true) ∧ Below w.heap.size w w' := by
  cases z
  · exact none_0 w
  · exact none_1 w
end Go.Proofs.Ytodbaahnmmfgiaa.Lk
