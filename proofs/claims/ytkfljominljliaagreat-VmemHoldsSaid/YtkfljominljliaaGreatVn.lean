import Derived.Test.YtkfljominljliaaGreatVm
namespace Go.Proofs.YtkfljominljliaaGreat.Vm
open Go.RowKit Go.Shelf Go.Maps Go.Sort
attribute [local go_sem] Oper.semAt_some

/- MAP. -/
theorem map1_any (o y m : Int) (g1 g2 g3 : Nat) (w : World) (h1 : w.cell? ⟨g1, 0, none⟩ = some (.int .i64 o)) (h2 : w.cell? ⟨g2, 0, none⟩ = some (.int .i64 y)) (h3 : w.cell? ⟨g3, 0, none⟩ = some (.int .i64 m)) :
    Calls Tryz.prog 20 #[bx g1, bx g2, bx g3] w fun e w' => e = .returned (.bool (ownsB o && ownerB y && Pg.mayB m)) ∧ w = w' := by
  have k1 := Lib.hid (owns_any o w)
  have k2 := Lib.hid (pays_any y w)
  have k3 := Lib.hid (allowed_any m w)
  obtain ⟨q1, hq1⟩ : ∃ q, q = ownsB o := ⟨_, rfl⟩
  obtain ⟨q2, hq2⟩ : ∃ q, q = ownerB y := ⟨_, rfl⟩
  obtain ⟨q3, hq3⟩ : ∃ q, q = Pg.mayB m := ⟨_, rfl⟩
  rw [← hq1] at k1 ⊢
  rw [← hq2] at k2 ⊢
  rw [← hq3] at k3 ⊢
  clear hq1 hq2 hq3
  cases q1
  · go_enter Tryz.func20, Tryz.ntmps20
    go_wp2_with fail
    refine (k1.out).mono ?_
    rintro e _ ⟨rfl, rfl⟩
    go_wp2_with fail
    go_ret
    exact ⟨rfl, rfl⟩
  · cases q2
    · go_enter Tryz.func20, Tryz.ntmps20
      go_wp2_with fail
      refine (k1.out).mono ?_
      rintro e _ ⟨rfl, rfl⟩
      go_wp2_with fail
      refine (k2.out).mono ?_
      rintro e _ ⟨rfl, rfl⟩
      go_wp2_with fail
      go_ret
      exact ⟨rfl, rfl⟩
    · go_enter Tryz.func20, Tryz.ntmps20
      go_wp2_with fail
      refine (k1.out).mono ?_
      rintro e _ ⟨rfl, rfl⟩
      go_wp2_with fail
      refine (k2.out).mono ?_
      rintro e _ ⟨rfl, rfl⟩
      go_wp2_with fail
      refine (k3.out).mono ?_
      rintro e _ ⟨rfl, rfl⟩
      go_wp2_with fail
      go_ret
      exact ⟨rfl, rfl⟩
theorem map2_any (z : Int) (g : Nat) (w : World) (h1 : w.cell? ⟨g, 0, none⟩ = some (.int .i64 z)) : Calls Tryz.prog 24 #[bx g] w fun e w' => e = .returned (.bool (Pg.pageB z)) ∧ w = w' := by
  have k1 := Lib.hid (known_any z w)
  obtain ⟨q1, hq1⟩ : ∃ q, q = Pg.pageB z := ⟨_, rfl⟩
  rw [← hq1] at k1 ⊢
  clear hq1
  go_enter Tryz.func24, Tryz.ntmps24
  go_wp2_with fail
  refine (k1.out).mono ?_
  rintro e _ ⟨rfl, rfl⟩
  go_wp2_with fail
  go_ret
  exact ⟨rfl, rfl⟩
set_option maxHeartbeats 1000000 in
theorem map3_any {w : World} {b t g1 g2 : Nat} {l : Pg.Tb} {F : Nat → Prop} (z : Int) (hz : Pg.I64 z) (ht : Pg.Has w t l F) (hb0 : w.cell? ⟨b, 0, none⟩ = some (bx t)) (h1 : w.cell? ⟨g1, 0, none⟩ = some (bx b)) (h2 : w.cell? ⟨g2, 0, none⟩ = some (.int .i64 z)) :
    Calls Tryz.prog 26 #[bx g1, bx g2] w fun e w' => e = .returned (.bool (!(Pg.look l z).isSome)) ∧ Below w.heap.size w w' := by
  have HSS := Lib.hid (fun (W : World) (hb : Below w.heap.size w W) => (show W.cell? ⟨g1, 0, none⟩ = some (bx b) ∧ W.cell? ⟨b, 0, none⟩ = some (bx t) ∧ W.cell? ⟨g2, 0, none⟩ = some (.int .i64 z) from
    ⟨(hb.cell (p := ⟨g1, 0, none⟩) (lt_of_cell h1)).trans h1, (hb.cell (p := ⟨b, 0, none⟩) (lt_of_cell hb0)).trans hb0, (hb.cell (p := ⟨g2, 0, none⟩) (lt_of_cell h2)).trans h2⟩))
  have HG := Lib.hid (fun (W : World) (hb : Below w.heap.size w W) => mapped_any (ht.below hb) z hz)
  obtain ⟨r, hr⟩ : ∃ r, r = (Pg.look l z).isSome := ⟨_, rfl⟩
  rw [← hr] at HG ⊢
  clear hr ht hb0 h1 h2 hz
  go_enter Tryz.func26, Tryz.ntmps26
  go_wp2_with fail
  have hdr : Below w.heap.size w w.drew := (Below.refl _ _).drew
  refine wp_region_held_drew (S := fun W => W.cell? ⟨g1, 0, none⟩ = some (bx b) ∧ W.cell? ⟨b, 0, none⟩ = some (bx t) ∧ W.cell? ⟨g2, 0, none⟩ = some (.int .i64 z)) (by kernel_rfl) (HSS.out _ hdr) (fun hHeld => ?_)
  refine wpAnyH_take (i := 0) (v := ?_) rfl (by kernel_rfl) (by kernel_rfl) (by kernel_rfl) (fun _ _ _ h => h) (Or.inl ⟨by kernel_rfl, ?_⟩) hHeld ?_
  rotate_left
  focus (intro w hSw; (try dsimp only at hSw); go_simp; try with_reducible rfl)
  simp only [Act.put]
  refine wpAnyH_take (i := 1) (v := ?_) rfl (by kernel_rfl) (by kernel_rfl) (by kernel_rfl) (fun _ _ _ h => h) (Or.inl ⟨by kernel_rfl, ?_⟩) hHeld ?_
  rotate_left
  focus (intro w hSw; (try dsimp only at hSw); go_simp; try with_reducible rfl)
  simp only [Act.put]
  refine wpAnyH_take (i := 2) (v := ?_) rfl (by kernel_rfl) (by kernel_rfl) (by kernel_rfl) (fun _ _ _ h => h) (Or.inl ⟨by kernel_rfl, ?_⟩) hHeld ?_
  rotate_left
  focus (intro w hSw; (try dsimp only at hSw); go_simp; try with_reducible rfl)
  simp only [Act.put]
  refine wpAnyH_take (i := 3) (v := ?_) rfl (by kernel_rfl) (by kernel_rfl) (by kernel_rfl) (fun _ _ _ h => h) (Or.inl ⟨by kernel_rfl, ?_⟩) hHeld ?_
  rotate_left
  focus (intro w hSw; (try dsimp only at hSw); go_simp; try with_reducible rfl)
  simp only [Act.put]
  refine wpAnyH_take (i := 4) (v := ?_) rfl (by kernel_rfl) (by kernel_rfl) (by kernel_rfl) (fun _ _ _ h => h) (Or.inl ⟨by kernel_rfl, ?_⟩) hHeld ?_
  rotate_left
  focus (intro w hSw; (try dsimp only at hSw); go_simp; try with_reducible rfl)
  simp only [Act.put]
  refine wpAnyH_ready (rs := [5]) (by kernel_rfl) (by simp) ?_
  refine AllReadyH.cons rfl (fun K hK => ?_) (AllReadyH.nil)
  go_simp
  refine (HG.out _ hdr).mono ?_
  rintro e W1 ⟨rfl, hb2⟩
  replace hb2 := below0 hdr hb2
  refine hK.out _ _ (HSS.out _ hb2) (fun hHeld => ?_)
  clear hK K hdr
  try simp only [Act.put]
  refine wpAnyH_take (i := 6) (v := ?_) rfl (by kernel_rfl) (by kernel_rfl) (by kernel_rfl) (fun _ _ _ h => h) (Or.inl ⟨by kernel_rfl, ?_⟩) hHeld ?_
  rotate_left
  focus (intro w hSw; (try dsimp only at hSw); go_simp; try with_reducible rfl)
  simp only [Act.put]
  refine wpAnyH_ready (rs := [7]) (by kernel_rfl) (by simp) ?_
  refine AllReadyH.cons rfl (fun K hK => ?_) (AllReadyH.nil)
  go_simp
  refine hK.out _ _ (HSS.out _ hb2) (fun hHeld => ?_)
  clear hK K
  try simp only [Act.put]
  refine wpAnyH_done (by kernel_rfl) ?_ _
  clear HSS HG
  go_wp2_with fail
  go_ret
  exact ⟨rfl, hb2⟩
def mqE (l : Pg.Tb) (z o y m : Int) : Nat := if ¬ (ownsB o && ownerB y && Pg.mayB m) = true then 2 else if ¬ Pg.pageB z = true then 4 else if (Pg.look l z).isSome = true then 180 else 0
def mqL (b : Nat) (s : Nat) (a2 a3 a4 : Bool) : List Ask :=
  [⟨19, #[bx b], #[], 1, true⟩, ⟨20, #[], #[bx (s + 2), bx (s + 3), bx (s + 4)], 2, a2⟩, ⟨24, #[], #[bx (s + 1)], 4, a3⟩, ⟨26, #[], #[bx s, bx (s + 1)], 180, a4⟩]
theorem mq_asked {w : World} {b t q : Nat} {l : Pg.Tb} {p : Pl} {F1 F2 : Nat → Prop} (h : MRep w b t q l p F1 F2) (z o y m : Int) :
    Calls Tryz.prog 18 #[.slice (some ⟨w.heap.size + 5, 0, none⟩) 4 4] (askW w [([bx b], 25), ([.int .i64 z], 3), ([.int .i64 o], 3), ([.int .i64 y], 3), ([.int .i64 m], 33)] (mqL b w.heap.size true true true)) fun e w' => e = .returned (.int .i64 (mqE l z o y m : Int)) ∧ Boxes w [[bx b], [.int .i64 z], [.int .i64 o], [.int .i64 y], [.int .i64 m]] w' := by
  obtain ⟨a2, ha2⟩ : ∃ a2, a2 = (ownsB o && ownerB y && Pg.mayB m) := ⟨_, rfl⟩
  obtain ⟨a3, ha3⟩ : ∃ a3, a3 = Pg.pageB z := ⟨_, rfl⟩
  obtain ⟨a4, ha4⟩ : ∃ a4, a4 = !(Pg.look l z).isSome := ⟨_, rfl⟩
  have hE : askE (mqL b w.heap.size a2 a3 a4) = (mqE l z o y m : Int) := by
    unfold mqE
    have e4 : (Pg.look l z).isSome = !a4 := by rw [ha4]; simp
    rw [← ha2, ← ha3, e4]
    cases a2 <;> cases a3 <;> cases a4 <;> rfl
  refine (asked_box [([bx b], 25), ([.int .i64 z], 3), ([.int .i64 o], 3), ([.int .i64 y], 3), ([.int .i64 m], 33)] (mqL b w.heap.size a2 a3 a4) 4 4 _ rfl rfl (by omega) fun k hk hall => ?_).mono fun e w' ⟨e1, e2, _⟩ => ⟨by rw [e1, hE], e2⟩
  rcases k with _ | _ | _ | _ | k
  · refine ⟨enters_of Tryz.func19 (by kernel_rfl) rfl, fun V hV => ?_⟩
    exact (there_any b q V (h.below hV.below).c1).mono fun e w' ⟨e1, e2⟩ => ⟨e1, e2 ▸ Below.refl _ _⟩
  · refine ⟨enters_of Tryz.func20 (by kernel_rfl) rfl, fun V hV => ?_⟩
    have := (map1_any o y m (w.heap.size + 2) (w.heap.size + 3) (w.heap.size + 4) V (hV.cell 2 _ rfl 0 _ rfl) (hV.cell 3 _ rfl 0 _ rfl) (hV.cell 4 _ rfl 0 _ rfl))
    rw [← ha2] at this
    exact this.mono fun e w' ⟨e1, e2⟩ => ⟨e1, e2 ▸ Below.refl _ _⟩
  · refine ⟨enters_of Tryz.func24 (by kernel_rfl) rfl, fun V hV => ?_⟩
    have := map2_any z (w.heap.size + 1) V (hV.cell 1 _ rfl 0 _ rfl)
    rw [← ha3] at this
    exact this.mono fun e w' ⟨e1, e2⟩ => ⟨e1, e2 ▸ Below.refl _ _⟩
  · have t3 : a3 = true := hall 2 (by simp [mqL]) (by omega)
    rw [ha3] at t3
    refine ⟨enters_of Tryz.func26 (by kernel_rfl) rfl, fun V hV => ?_⟩
    have := map3_any z (Pg.page64 t3) (h.below hV.below).tab (h.below hV.below).c0 (hV.cell 0 _ rfl 0 _ rfl) (hV.cell 1 _ rfl 0 _ rfl)
    rw [← ha4] at this
    exact this
  · simp [mqL] at hk
    omega
theorem mapN {w : World} {t : Nat} {l : Pg.Tb} {F : Nat → Prop} (h : Pg.Has w t l F) (z : Int) (x : Pg.En) (hx : Pg.En64 x) : Calls Tryz.prog 29 #[bx t, .int .i64 z, Pg.enV x] w fun e w' => e = .returned (.int .i64 (Pg.mapE l z x : Int)) ∧ Pg.Next w t (Pg.mapT l z x) F w' := by
  by_cases hE : Pg.mapE l z x = 0
  · rw [hE]
    exact Pg.map_yes h z x hx hE
  · exact Pg.map_no h z x hx hE
def mapME (p : Pl) (l : Pg.Tb) (z o y m : Int) : Nat := if mqE l z o y m = 0 then if takeE p y = 0 then Pg.mapE l z (o, m, (takeI p y : Int)) else takeE p y else mqE l z o y m
def mapML (p : Pl) (l : Pg.Tb) (z o y m : Int) : Pg.Tb := if mqE l z o y m = 0 then if takeE p y = 0 then Pg.mapT l z (o, m, (takeI p y : Int)) else l else l
def mapMP (p : Pl) (l : Pg.Tb) (z o y m : Int) : Pl := if mqE l z o y m = 0 then takeP p y else p
theorem Boxes.kept {w V V' : World} {ls : List (List Value)} (h : Boxes w ls V) (hk : ∀ k, w.heap.size ≤ k → k < V.heap.size → V'.heap[k]? = V.heap[k]?) (k : Nat) (cs : List Value) (hc : ls[k]? = some cs) : ∃ t, Row V' (w.heap.size + k) t cs := by
  obtain ⟨t, hr⟩ := h.row k cs hc
  exact ⟨t, hr.same (hk _ (by omega) hr.lt)⟩
set_option maxRecDepth 100000 in
set_option maxHeartbeats 2000000 in
theorem map_q {w : World} {b t q : Nat} {l : Pg.Tb} {p : Pl} {F1 F2 : Nat → Prop} (h : MRep w b t q l p F1 F2) (z o y m : Int) (hE : mqE l z o y m ≠ 0) :
    Calls Tryz.prog 9 #[bx b, .int .i64 z, .int .i64 o, .int .i64 y, .int .i64 m] w fun e w' => e = .returned (.int .i64 (mqE l z o y m : Int)) ∧ MNext w b t q l p F1 F2 w' := by
  have HQ := Lib.hid ((mq_asked h z o y m).mono fun e w' ⟨e1, e2⟩ => (show e = Ending.returned (Value.int .i64 (mqE l z o y m : Int)) ∧ MNext w b t q l p F1 F2 w' from ⟨e1, MNext.same h e2.below⟩))
  obtain ⟨E, hE2⟩ : ∃ E, E = mqE l z o y m := ⟨_, rfl⟩
  rw [← hE2] at HQ hE ⊢
  have e0 : (((E : Int)) == 0) = false := by rw [beq_eq_false_iff_ne]; omega
  have e1 : ¬ ((E : Int) = 0) := by omega
  clear hE2 h hE
  go_enter Tryz.func9, Tryz.ntmps9
  go_wp2_with fail
  refine wp_scope_jump 1 fun R hR hJm => ?_
  go_wp2_with fail
  refine (HQ.out).mono ?_
  rintro e w1 ⟨rfl, hn⟩
  have HN := Lib.hid hn
  clear hn HQ
  go_wp2_with fail
  refine wp_goto (hJm.out _ _ _ _ _ rfl ?_)
  go_wp2_with fail
  refine hR.out _ _ _ _ (by simp) ?_
  go_ret
  exact ⟨rfl, HN.out⟩
set_option maxRecDepth 100000 in
set_option maxHeartbeats 2000000 in
theorem map_no {w : World} {b t q : Nat} {l : Pg.Tb} {p : Pl} {F1 F2 : Nat → Prop} (h : MRep w b t q l p F1 F2) (z o y m : Int) (hE : mqE l z o y m = 0) (hT : takeE p y ≠ 0) :
    Calls Tryz.prog 9 #[bx b, .int .i64 z, .int .i64 o, .int .i64 y, .int .i64 m] w fun e w' => e = .returned (.int .i64 (takeE p y : Int)) ∧ MNext w b t q l (takeP p y) F1 F2 w' := by
  have HQ := Lib.hid (mq_asked h z o y m)
  rw [hE] at HQ
  rw [show ((0 : Nat) : Int) = 0 from rfl] at HQ
  have HSB := Lib.hid (fun (W1 : World) (hB : Boxes w [[bx b], [.int .i64 z], [.int .i64 o], [.int .i64 y], [.int .i64 m]] W1) (W : World) (hb : Below W1.heap.size W1 W) => (show W.cell? ⟨w.heap.size, 0, none⟩ = some (bx b) ∧ W.cell? ⟨w.heap.size + 1, 0, none⟩ = some (.int .i64 z) ∧ W.cell? ⟨w.heap.size + 1 + 1, 0, none⟩ = some (.int .i64 o) ∧ W.cell? ⟨w.heap.size + 1 + 1 + 1, 0, none⟩ = some (.int .i64 y) ∧ W.cell? ⟨w.heap.size + 1 + 1 + 1 + 1, 0, none⟩ = some (.int .i64 m) ∧ W.cell? ⟨b, 0, none⟩ = some (bx t) ∧ W.cell? ⟨b, 1, none⟩ = some (bx q) from
    have h9 := hB.more hb
    ⟨h9.cell 0 _ rfl 0 _ rfl, h9.cell 1 _ rfl 0 _ rfl, h9.cell 2 _ rfl 0 _ rfl, h9.cell 3 _ rfl 0 _ rfl, h9.cell 4 _ rfl 0 _ rfl, (h.below h9.below).c0, (h.below h9.below).c1⟩))
  have HSN := Lib.hid (fun (V W : World) (hs : V.cell? ⟨w.heap.size, 0, none⟩ = some (bx b) ∧ V.cell? ⟨w.heap.size + 1, 0, none⟩ = some (.int .i64 z) ∧ V.cell? ⟨w.heap.size + 1 + 1, 0, none⟩ = some (.int .i64 o) ∧ V.cell? ⟨w.heap.size + 1 + 1 + 1, 0, none⟩ = some (.int .i64 y) ∧ V.cell? ⟨w.heap.size + 1 + 1 + 1 + 1, 0, none⟩ = some (.int .i64 m) ∧ V.cell? ⟨b, 0, none⟩ = some (bx t) ∧ V.cell? ⟨b, 1, none⟩ = some (bx q)) (hk : Keep F2 V W) => (show W.cell? ⟨w.heap.size, 0, none⟩ = some (bx b) ∧ W.cell? ⟨w.heap.size + 1, 0, none⟩ = some (.int .i64 z) ∧ W.cell? ⟨w.heap.size + 1 + 1, 0, none⟩ = some (.int .i64 o) ∧ W.cell? ⟨w.heap.size + 1 + 1 + 1, 0, none⟩ = some (.int .i64 y) ∧ W.cell? ⟨w.heap.size + 1 + 1 + 1 + 1, 0, none⟩ = some (.int .i64 m) ∧ W.cell? ⟨b, 0, none⟩ = some (bx t) ∧ W.cell? ⟨b, 1, none⟩ = some (bx q) from by
    obtain ⟨s1, s2, s3, s4, s5, s6, s7⟩ := hs
    have nf : ∀ k, w.heap.size ≤ k → ¬ F2 k := fun k hk hf => by have := h.pool.lt k hf; omega
    exact ⟨(hk.cell (lt_of_cell s1) (nf _ (by simp))).trans s1, (hk.cell (lt_of_cell s2) (nf _ (by simp))).trans s2, (hk.cell (lt_of_cell s3) (nf _ (by simp; omega))).trans s3, (hk.cell (lt_of_cell s4) (nf _ (by simp; omega))).trans s4, (hk.cell (lt_of_cell s5) (nf _ (by simp; omega))).trans s5, (hk.cell (lt_of_cell s6) h.b2).trans s6, (hk.cell (lt_of_cell s7) h.b2).trans s7⟩))
  have HTK := Lib.hid (fun (W1 : World) (hB : Boxes w [[bx b], [.int .i64 z], [.int .i64 o], [.int .i64 y], [.int .i64 m]] W1) (W : World) (hb : Below W1.heap.size W1 W) => (takeN (h.below (below0 hB.below hb)).pool y).mono fun e w' ⟨e1, e2⟩ => (show e = Ending.returned (.tuple #[.int .i64 (takeI p y : Int), .int .i64 (takeE p y : Int)]) ∧ MNext w b t q l (takeP p y) F1 F2 w' ∧ Keep F2 W w' from
    ⟨e1, MNext.pool h (below0 hB.below hb) e2, by
      obtain ⟨_, _, hkk, _⟩ := e2
      exact hkk⟩))
  obtain ⟨E, hE2⟩ : ∃ E, E = takeE p y := ⟨_, rfl⟩
  rw [← hE2] at HTK hT ⊢
  obtain ⟨f, hf⟩ : ∃ f, f = takeI p y := ⟨_, rfl⟩
  rw [← hf] at HTK
  have e0 : (((E : Int)) == 0) = false := by rw [beq_eq_false_iff_ne]; omega
  have e1 : ¬ ((E : Int) = 0) := by omega
  clear hE2 h hE hT hf
  go_enter Tryz.func9, Tryz.ntmps9
  go_wp2_with fail
  refine wp_scope_jump 1 fun R hR hJm => ?_
  go_wp2_with fail
  refine (HQ.out).mono ?_
  rintro e W1 ⟨rfl, hB⟩
  have HB := Lib.hid hB
  clear hB HQ
  go_wp2_with fail
  have hdr : Below W1.heap.size W1 W1.drew := (Below.refl _ _).drew
  refine wp_region_noPanic ?_
  refine wp_region_held_drew (S := fun W => W.cell? ⟨w.heap.size, 0, none⟩ = some (bx b) ∧ W.cell? ⟨w.heap.size + 1, 0, none⟩ = some (.int .i64 z) ∧ W.cell? ⟨w.heap.size + 1 + 1, 0, none⟩ = some (.int .i64 o) ∧ W.cell? ⟨w.heap.size + 1 + 1 + 1, 0, none⟩ = some (.int .i64 y) ∧ W.cell? ⟨w.heap.size + 1 + 1 + 1 + 1, 0, none⟩ = some (.int .i64 m) ∧ W.cell? ⟨b, 0, none⟩ = some (bx t) ∧ W.cell? ⟨b, 1, none⟩ = some (bx q)) (by kernel_rfl) (HSB.out _ HB.out _ hdr) (fun hHeld => ?_)
  refine wpAnyH_take (i := 0) (v := ?_) rfl (by kernel_rfl) (by kernel_rfl) (by kernel_rfl) (fun _ _ _ h => h) (Or.inl ⟨by kernel_rfl, ?_⟩) hHeld ?_
  rotate_left
  focus (intro w hSw; (try dsimp only at hSw); go_simp; try with_reducible rfl)
  simp only [Act.put]
  refine wpAnyH_take (i := 1) (v := ?_) rfl (by kernel_rfl) (by kernel_rfl) (by kernel_rfl) (fun _ _ _ h => h) (Or.inl ⟨by kernel_rfl, ?_⟩) hHeld ?_
  rotate_left
  focus (intro w hSw; (try dsimp only at hSw); go_simp; try with_reducible rfl)
  simp only [Act.put]
  refine wpAnyH_take (i := 2) (v := ?_) rfl (by kernel_rfl) (by kernel_rfl) (by kernel_rfl) (fun _ _ _ h => h) (Or.inl ⟨by kernel_rfl, ?_⟩) hHeld ?_
  rotate_left
  focus (intro w hSw; (try dsimp only at hSw); go_simp; try with_reducible rfl)
  simp only [Act.put]
  refine wpAnyH_take (i := 3) (v := ?_) rfl (by kernel_rfl) (by kernel_rfl) (by kernel_rfl) (fun _ _ _ h => h) (Or.inl ⟨by kernel_rfl, ?_⟩) hHeld ?_
  rotate_left
  focus (intro w hSw; (try dsimp only at hSw); go_simp; try with_reducible rfl)
  simp only [Act.put]
  refine wpAnyH_take (i := 4) (v := ?_) rfl (by kernel_rfl) (by kernel_rfl) (by kernel_rfl) (fun _ _ _ h => h) (Or.inl ⟨by kernel_rfl, ?_⟩) hHeld ?_
  rotate_left
  focus (intro w hSw; (try dsimp only at hSw); go_simp; try with_reducible rfl)
  simp only [Act.put]
  refine wpAnyH_ready (rs := [5]) (by kernel_rfl) (by simp) ?_
  refine AllReadyH.cons rfl (fun K hK => ?_) (AllReadyH.nil)
  go_simp
  refine (HTK.out _ HB.out _ hdr).mono ?_
  rintro e W2 ⟨rfl, hn, hk2⟩
  have hS2 := HSN.out _ _ (HSB.out _ HB.out _ hdr) hk2
  have HN := Lib.hid hn
  clear hn hk2
  refine hK.out _ _ hS2 (fun hHeld => ?_)
  clear hK K hdr
  try simp only [Act.put]
  refine wpAnyH_take (i := 6) (v := ?_) rfl (by kernel_rfl) (by kernel_rfl) (by kernel_rfl) (fun _ _ _ h => h) (Or.inl ⟨by kernel_rfl, ?_⟩) hHeld ?_
  rotate_left
  focus (intro w hSw; (try dsimp only at hSw); go_simp; try with_reducible rfl)
  simp only [Act.put]
  refine wpAnyH_take (i := 7) (v := ?_) rfl (by kernel_rfl) (by kernel_rfl) (by kernel_rfl) (fun _ _ _ h => h) (Or.inl ⟨by kernel_rfl, ?_⟩) hHeld ?_
  rotate_left
  focus (intro w hSw; (try dsimp only at hSw); go_simp; try with_reducible rfl)
  simp only [Act.put]
  refine wpAnyH_take (i := 8) (v := ?_) rfl (by kernel_rfl) (by kernel_rfl) (by kernel_rfl) (fun _ _ _ h => h) (Or.inl ⟨by kernel_rfl, ?_⟩) hHeld ?_
  rotate_left
  focus (intro w hSw; (try dsimp only at hSw); go_simp; try with_reducible rfl)
  simp only [Act.put]
  refine wpAnyH_ready (rs := [9]) (by kernel_rfl) (by simp) ?_
  refine AllReadyH.cons rfl (fun K hK => ?_) (AllReadyH.nil)
  go_simp
  refine hK.out _ _ hS2 (fun hHeld => ?_)
  clear hK K
  try simp only [Act.put]
  refine wpAnyH_ready (rs := [10]) (by kernel_rfl) (by simp) ?_
  refine AllReadyH.cons rfl (fun K hK => ?_) (AllReadyH.nil)
  go_simp
  refine hK.out _ _ hS2 (fun hHeld => ?_)
  clear hK K
  try simp only [Act.put]
  refine wpAnyH_done (by kernel_rfl) ?_ _
  refine NoPanic.normal ?_
  have HS2 := Lib.hid hS2
  clear hS2 HSB HSN HTK HB
  go_wp2_with fail
  refine wp_goto (hJm.out _ _ _ _ _ rfl ?_)
  go_wp2_with fail
  refine hR.out _ _ _ _ (by simp) ?_
  go_ret
  exact ⟨rfl, HN.out⟩
set_option maxRecDepth 100000 in
set_option maxHeartbeats 2000000 in
theorem map_yes {w : World} {b t q : Nat} {l : Pg.Tb} {p : Pl} {F1 F2 : Nat → Prop} (h : MRep w b t q l p F1 F2) (z o y m : Int) (hE : mqE l z o y m = 0) (hT : takeE p y = 0) (ho : Pg.I64 o) (hmm : Pg.I64 m) :
    Calls Tryz.prog 9 #[bx b, .int .i64 z, .int .i64 o, .int .i64 y, .int .i64 m] w fun e w' => e = .returned (.int .i64 (Pg.mapE l z (o, m, (takeI p y : Int)) : Int)) ∧ MNext w b t q (Pg.mapT l z (o, m, (takeI p y : Int))) (takeP p y) F1 F2 w' := by
  have HQ := Lib.hid (mq_asked h z o y m)
  rw [hE] at HQ
  rw [show ((0 : Nat) : Int) = 0 from rfl] at HQ
  have HSB := Lib.hid (fun (W1 : World) (hB : Boxes w [[bx b], [.int .i64 z], [.int .i64 o], [.int .i64 y], [.int .i64 m]] W1) (W : World) (hb : Below W1.heap.size W1 W) => (show W.cell? ⟨w.heap.size, 0, none⟩ = some (bx b) ∧ W.cell? ⟨w.heap.size + 1, 0, none⟩ = some (.int .i64 z) ∧ W.cell? ⟨w.heap.size + 1 + 1, 0, none⟩ = some (.int .i64 o) ∧ W.cell? ⟨w.heap.size + 1 + 1 + 1, 0, none⟩ = some (.int .i64 y) ∧ W.cell? ⟨w.heap.size + 1 + 1 + 1 + 1, 0, none⟩ = some (.int .i64 m) ∧ W.cell? ⟨b, 0, none⟩ = some (bx t) ∧ W.cell? ⟨b, 1, none⟩ = some (bx q) from
    have h9 := hB.more hb
    ⟨h9.cell 0 _ rfl 0 _ rfl, h9.cell 1 _ rfl 0 _ rfl, h9.cell 2 _ rfl 0 _ rfl, h9.cell 3 _ rfl 0 _ rfl, h9.cell 4 _ rfl 0 _ rfl, (h.below h9.below).c0, (h.below h9.below).c1⟩))
  have HSN := Lib.hid (fun (V W : World) (hs : V.cell? ⟨w.heap.size, 0, none⟩ = some (bx b) ∧ V.cell? ⟨w.heap.size + 1, 0, none⟩ = some (.int .i64 z) ∧ V.cell? ⟨w.heap.size + 1 + 1, 0, none⟩ = some (.int .i64 o) ∧ V.cell? ⟨w.heap.size + 1 + 1 + 1, 0, none⟩ = some (.int .i64 y) ∧ V.cell? ⟨w.heap.size + 1 + 1 + 1 + 1, 0, none⟩ = some (.int .i64 m) ∧ V.cell? ⟨b, 0, none⟩ = some (bx t) ∧ V.cell? ⟨b, 1, none⟩ = some (bx q)) (hk : Keep F2 V W) => (show W.cell? ⟨w.heap.size, 0, none⟩ = some (bx b) ∧ W.cell? ⟨w.heap.size + 1, 0, none⟩ = some (.int .i64 z) ∧ W.cell? ⟨w.heap.size + 1 + 1, 0, none⟩ = some (.int .i64 o) ∧ W.cell? ⟨w.heap.size + 1 + 1 + 1, 0, none⟩ = some (.int .i64 y) ∧ W.cell? ⟨w.heap.size + 1 + 1 + 1 + 1, 0, none⟩ = some (.int .i64 m) ∧ W.cell? ⟨b, 0, none⟩ = some (bx t) ∧ W.cell? ⟨b, 1, none⟩ = some (bx q) from by
    obtain ⟨s1, s2, s3, s4, s5, s6, s7⟩ := hs
    have nf : ∀ k, w.heap.size ≤ k → ¬ F2 k := fun k hk hf => by have := h.pool.lt k hf; omega
    exact ⟨(hk.cell (lt_of_cell s1) (nf _ (by simp))).trans s1, (hk.cell (lt_of_cell s2) (nf _ (by simp))).trans s2, (hk.cell (lt_of_cell s3) (nf _ (by simp; omega))).trans s3, (hk.cell (lt_of_cell s4) (nf _ (by simp; omega))).trans s4, (hk.cell (lt_of_cell s5) (nf _ (by simp; omega))).trans s5, (hk.cell (lt_of_cell s6) h.b2).trans s6, (hk.cell (lt_of_cell s7) h.b2).trans s7⟩))
  have HTK := Lib.hid (fun (W1 : World) (hB : Boxes w [[bx b], [.int .i64 z], [.int .i64 o], [.int .i64 y], [.int .i64 m]] W1) (W : World) (hb : Below W1.heap.size W1 W) => (takeN (h.below (below0 hB.below hb)).pool y).mono fun e w' ⟨e1, e2⟩ => (show e = Ending.returned (.tuple #[.int .i64 (takeI p y : Int), .int .i64 (takeE p y : Int)]) ∧ MNext w b t q l (takeP p y) F1 F2 w' ∧ Keep F2 W w' from
    ⟨e1, MNext.pool h (below0 hB.below hb) e2, by
      obtain ⟨_, _, hkk, _⟩ := e2
      exact hkk⟩))
  rw [hT] at HTK
  rw [show ((0 : Nat) : Int) = 0 from rfl] at HTK
  have hti : takeI p y ≤ 16384 := by
    have h1 := (takeE_left h.pool.ok hT).2.2.2.1
    have h2 := (List.getElem?_eq_some_iff.1 (free1_spec _ _ h1).1).1
    have := h.pool.ok.most
    omega
  obtain ⟨f, hf⟩ : ∃ f, f = takeI p y := ⟨_, rfl⟩
  rw [← hf] at HTK hti ⊢
  have HMP := Lib.hid (fun (W2 : World) (hn : MNext w b t q l (takeP p y) F1 F2 W2) (W : World) (hb : Below W2.heap.size W2 W) => (show Calls Tryz.prog 29 #[bx t, .int .i64 z, .agg #[.int .i64 o, .int .i64 m, .int .i64 (f : Int)]] W (fun e w' => e = .returned (.int .i64 (Pg.mapE l z (o, m, (f : Int)) : Int)) ∧ MNext w b t q (Pg.mapT l z (o, m, (f : Int))) (takeP p y) F1 F2 w' ∧ Keep F1 W w') from by
    obtain ⟨F3, hm, hF3, hk⟩ := hn
    exact (mapN (hm.below hb).tab z (o, m, (f : Int)) ⟨ho, hmm, by unfold Pg.I64; simp only; omega⟩).mono fun e w' ⟨e1, e2⟩ => ⟨e1, MNext.trans hF3 hk (MNext.tab hm hb e2), e2.2⟩))
  have HSM := Lib.hid (fun (V W : World) (hs : V.cell? ⟨w.heap.size, 0, none⟩ = some (bx b) ∧ V.cell? ⟨w.heap.size + 1, 0, none⟩ = some (.int .i64 z) ∧ V.cell? ⟨w.heap.size + 1 + 1, 0, none⟩ = some (.int .i64 o) ∧ V.cell? ⟨w.heap.size + 1 + 1 + 1, 0, none⟩ = some (.int .i64 y) ∧ V.cell? ⟨w.heap.size + 1 + 1 + 1 + 1, 0, none⟩ = some (.int .i64 m) ∧ V.cell? ⟨b, 0, none⟩ = some (bx t) ∧ V.cell? ⟨b, 1, none⟩ = some (bx q)) (hk : Keep F1 V W) => (show W.cell? ⟨w.heap.size, 0, none⟩ = some (bx b) ∧ W.cell? ⟨w.heap.size + 1, 0, none⟩ = some (.int .i64 z) ∧ W.cell? ⟨w.heap.size + 1 + 1, 0, none⟩ = some (.int .i64 o) ∧ W.cell? ⟨w.heap.size + 1 + 1 + 1, 0, none⟩ = some (.int .i64 y) ∧ W.cell? ⟨w.heap.size + 1 + 1 + 1 + 1, 0, none⟩ = some (.int .i64 m) ∧ W.cell? ⟨b, 0, none⟩ = some (bx t) ∧ W.cell? ⟨b, 1, none⟩ = some (bx q) from by
    obtain ⟨s1, s2, s3, s4, s5, s6, s7⟩ := hs
    have nf : ∀ k, w.heap.size ≤ k → ¬ F1 k := fun k hk hf => by have := h.tab.lt k hf; omega
    exact ⟨(hk.cell (lt_of_cell s1) (nf _ (by simp))).trans s1, (hk.cell (lt_of_cell s2) (nf _ (by simp))).trans s2, (hk.cell (lt_of_cell s3) (nf _ (by simp; omega))).trans s3, (hk.cell (lt_of_cell s4) (nf _ (by simp; omega))).trans s4, (hk.cell (lt_of_cell s5) (nf _ (by simp; omega))).trans s5, (hk.cell (lt_of_cell s6) h.b1).trans s6, (hk.cell (lt_of_cell s7) h.b1).trans s7⟩))
  obtain ⟨E, hE9⟩ : ∃ E, E = Pg.mapE l z (o, m, (f : Int)) := ⟨_, rfl⟩
  rw [← hE9] at HMP ⊢
  obtain ⟨l', hl'⟩ : ∃ l', l' = Pg.mapT l z (o, m, (f : Int)) := ⟨_, rfl⟩
  rw [← hl'] at HMP ⊢
  clear h hE hT hf hti hE9 hl' ho hmm
  go_enter Tryz.func9, Tryz.ntmps9
  go_wp2_with fail
  refine wp_scope_jump 1 fun R hR hJm => ?_
  go_wp2_with fail
  refine (HQ.out).mono ?_
  rintro e W1 ⟨rfl, hB⟩
  have HB := Lib.hid hB
  clear hB HQ
  go_wp2_with fail
  have hdr : Below W1.heap.size W1 W1.drew := (Below.refl _ _).drew
  refine wp_region_noPanic ?_
  refine wp_region_held_drew (S := fun W => W.cell? ⟨w.heap.size, 0, none⟩ = some (bx b) ∧ W.cell? ⟨w.heap.size + 1, 0, none⟩ = some (.int .i64 z) ∧ W.cell? ⟨w.heap.size + 1 + 1, 0, none⟩ = some (.int .i64 o) ∧ W.cell? ⟨w.heap.size + 1 + 1 + 1, 0, none⟩ = some (.int .i64 y) ∧ W.cell? ⟨w.heap.size + 1 + 1 + 1 + 1, 0, none⟩ = some (.int .i64 m) ∧ W.cell? ⟨b, 0, none⟩ = some (bx t) ∧ W.cell? ⟨b, 1, none⟩ = some (bx q)) (by kernel_rfl) (HSB.out _ HB.out _ hdr) (fun hHeld => ?_)
  refine wpAnyH_take (i := 0) (v := ?_) rfl (by kernel_rfl) (by kernel_rfl) (by kernel_rfl) (fun _ _ _ h => h) (Or.inl ⟨by kernel_rfl, ?_⟩) hHeld ?_
  rotate_left
  focus (intro w hSw; (try dsimp only at hSw); go_simp; try with_reducible rfl)
  simp only [Act.put]
  refine wpAnyH_take (i := 1) (v := ?_) rfl (by kernel_rfl) (by kernel_rfl) (by kernel_rfl) (fun _ _ _ h => h) (Or.inl ⟨by kernel_rfl, ?_⟩) hHeld ?_
  rotate_left
  focus (intro w hSw; (try dsimp only at hSw); go_simp; try with_reducible rfl)
  simp only [Act.put]
  refine wpAnyH_take (i := 2) (v := ?_) rfl (by kernel_rfl) (by kernel_rfl) (by kernel_rfl) (fun _ _ _ h => h) (Or.inl ⟨by kernel_rfl, ?_⟩) hHeld ?_
  rotate_left
  focus (intro w hSw; (try dsimp only at hSw); go_simp; try with_reducible rfl)
  simp only [Act.put]
  refine wpAnyH_take (i := 3) (v := ?_) rfl (by kernel_rfl) (by kernel_rfl) (by kernel_rfl) (fun _ _ _ h => h) (Or.inl ⟨by kernel_rfl, ?_⟩) hHeld ?_
  rotate_left
  focus (intro w hSw; (try dsimp only at hSw); go_simp; try with_reducible rfl)
  simp only [Act.put]
  refine wpAnyH_take (i := 4) (v := ?_) rfl (by kernel_rfl) (by kernel_rfl) (by kernel_rfl) (fun _ _ _ h => h) (Or.inl ⟨by kernel_rfl, ?_⟩) hHeld ?_
  rotate_left
  focus (intro w hSw; (try dsimp only at hSw); go_simp; try with_reducible rfl)
  simp only [Act.put]
  refine wpAnyH_ready (rs := [5]) (by kernel_rfl) (by simp) ?_
  refine AllReadyH.cons rfl (fun K hK => ?_) (AllReadyH.nil)
  go_simp
  refine (HTK.out _ HB.out _ hdr).mono ?_
  rintro e W2 ⟨rfl, hn, hk2⟩
  have hS2 := HSN.out _ _ (HSB.out _ HB.out _ hdr) hk2
  have HN := Lib.hid hn
  clear hn hk2
  refine hK.out _ _ hS2 (fun hHeld => ?_)
  clear hK K hdr
  try simp only [Act.put]
  refine wpAnyH_take (i := 6) (v := ?_) rfl (by kernel_rfl) (by kernel_rfl) (by kernel_rfl) (fun _ _ _ h => h) (Or.inl ⟨by kernel_rfl, ?_⟩) hHeld ?_
  rotate_left
  focus (intro w hSw; (try dsimp only at hSw); go_simp; try with_reducible rfl)
  simp only [Act.put]
  refine wpAnyH_take (i := 7) (v := ?_) rfl (by kernel_rfl) (by kernel_rfl) (by kernel_rfl) (fun _ _ _ h => h) (Or.inl ⟨by kernel_rfl, ?_⟩) hHeld ?_
  rotate_left
  focus (intro w hSw; (try dsimp only at hSw); go_simp; try with_reducible rfl)
  simp only [Act.put]
  refine wpAnyH_take (i := 8) (v := ?_) rfl (by kernel_rfl) (by kernel_rfl) (by kernel_rfl) (fun _ _ _ h => h) (Or.inl ⟨by kernel_rfl, ?_⟩) hHeld ?_
  rotate_left
  focus (intro w hSw; (try dsimp only at hSw); go_simp; try with_reducible rfl)
  simp only [Act.put]
  refine wpAnyH_ready (rs := [9]) (by kernel_rfl) (by simp) ?_
  refine AllReadyH.cons rfl (fun K hK => ?_) (AllReadyH.nil)
  go_simp
  refine hK.out _ _ hS2 (fun hHeld => ?_)
  clear hK K
  try simp only [Act.put]
  refine wpAnyH_ready (rs := [10]) (by kernel_rfl) (by simp) ?_
  refine AllReadyH.cons rfl (fun K hK => ?_) (AllReadyH.nil)
  go_simp
  refine hK.out _ _ hS2 (fun hHeld => ?_)
  clear hK K
  try simp only [Act.put]
  refine wpAnyH_done (by kernel_rfl) ?_ _
  refine NoPanic.normal ?_
  have HS2 := Lib.hid hS2
  clear hS2 HSB HSN HTK HB
  go_wp2_with fail
  have hdr : Below W2.heap.size W2 W2.drew := (Below.refl _ _).drew
  refine wp_region_noPanic ?_
  refine wp_region_held_drew (S := fun W => W.cell? ⟨w.heap.size, 0, none⟩ = some (bx b) ∧ W.cell? ⟨w.heap.size + 1, 0, none⟩ = some (.int .i64 z) ∧ W.cell? ⟨w.heap.size + 1 + 1, 0, none⟩ = some (.int .i64 o) ∧ W.cell? ⟨w.heap.size + 1 + 1 + 1, 0, none⟩ = some (.int .i64 y) ∧ W.cell? ⟨w.heap.size + 1 + 1 + 1 + 1, 0, none⟩ = some (.int .i64 m) ∧ W.cell? ⟨b, 0, none⟩ = some (bx t) ∧ W.cell? ⟨b, 1, none⟩ = some (bx q)) (by kernel_rfl) (show W2.drew.cell? ⟨w.heap.size, 0, none⟩ = some (bx b) ∧ W2.drew.cell? ⟨w.heap.size + 1, 0, none⟩ = some (.int .i64 z) ∧ W2.drew.cell? ⟨w.heap.size + 1 + 1, 0, none⟩ = some (.int .i64 o) ∧ W2.drew.cell? ⟨w.heap.size + 1 + 1 + 1, 0, none⟩ = some (.int .i64 y) ∧ W2.drew.cell? ⟨w.heap.size + 1 + 1 + 1 + 1, 0, none⟩ = some (.int .i64 m) ∧ W2.drew.cell? ⟨b, 0, none⟩ = some (bx t) ∧ W2.drew.cell? ⟨b, 1, none⟩ = some (bx q) from HS2.out) (fun hHeld => ?_)
  refine wpAnyH_take (i := 0) (v := ?_) rfl (by kernel_rfl) (by kernel_rfl) (by kernel_rfl) (fun _ _ _ h => h) (Or.inl ⟨by kernel_rfl, ?_⟩) hHeld ?_
  rotate_left
  focus (intro w hSw; (try dsimp only at hSw); go_simp; try with_reducible rfl)
  simp only [Act.put]
  refine wpAnyH_take (i := 1) (v := ?_) rfl (by kernel_rfl) (by kernel_rfl) (by kernel_rfl) (fun _ _ _ h => h) (Or.inl ⟨by kernel_rfl, ?_⟩) hHeld ?_
  rotate_left
  focus (intro w hSw; (try dsimp only at hSw); go_simp; try with_reducible rfl)
  simp only [Act.put]
  refine wpAnyH_take (i := 2) (v := ?_) rfl (by kernel_rfl) (by kernel_rfl) (by kernel_rfl) (fun _ _ _ h => h) (Or.inl ⟨by kernel_rfl, ?_⟩) hHeld ?_
  rotate_left
  focus (intro w hSw; (try dsimp only at hSw); go_simp; try with_reducible rfl)
  simp only [Act.put]
  refine wpAnyH_take (i := 3) (v := ?_) rfl (by kernel_rfl) (by kernel_rfl) (by kernel_rfl) (fun _ _ _ h => h) (Or.inl ⟨by kernel_rfl, ?_⟩) hHeld ?_
  rotate_left
  focus (intro w hSw; (try dsimp only at hSw); go_simp; try with_reducible rfl)
  simp only [Act.put]
  refine wpAnyH_take (i := 4) (v := ?_) rfl (by kernel_rfl) (by kernel_rfl) (by kernel_rfl) (fun _ _ _ h => h) (Or.inl ⟨by kernel_rfl, ?_⟩) hHeld ?_
  rotate_left
  focus (intro w hSw; (try dsimp only at hSw); go_simp; try with_reducible rfl)
  simp only [Act.put]
  refine wpAnyH_take (i := 5) (v := ?_) rfl (by kernel_rfl) (by kernel_rfl) (by kernel_rfl) (fun _ _ _ h => h) (Or.inl ⟨by kernel_rfl, ?_⟩) hHeld ?_
  rotate_left
  focus (intro w hSw; (try dsimp only at hSw); go_simp; try with_reducible rfl)
  simp only [Act.put]
  refine wpAnyH_take (i := 6) (v := ?_) rfl (by kernel_rfl) (by kernel_rfl) (by kernel_rfl) (fun _ _ _ h => h) (Or.inl ⟨by kernel_rfl, ?_⟩) hHeld ?_
  rotate_left
  focus (intro w hSw; (try dsimp only at hSw); go_simp; try with_reducible rfl)
  simp only [Act.put]
  refine wpAnyH_take (i := 7) (v := ?_) rfl (by kernel_rfl) (by kernel_rfl) (by kernel_rfl) (fun _ _ _ h => h) (Or.inl ⟨by kernel_rfl, ?_⟩) hHeld ?_
  rotate_left
  focus (intro w hSw; (try dsimp only at hSw); go_simp; try with_reducible rfl)
  simp only [Act.put]
  refine wpAnyH_take (i := 8) (v := ?_) rfl (by kernel_rfl) (by kernel_rfl) (by kernel_rfl) (fun _ _ _ h => h) (Or.inl ⟨by kernel_rfl, ?_⟩) hHeld ?_
  rotate_left
  focus (intro w hSw; (try dsimp only at hSw); go_simp; try with_reducible rfl)
  simp only [Act.put]
  refine wpAnyH_take (i := 9) (v := ?_) rfl (by kernel_rfl) (by kernel_rfl) (by kernel_rfl) (fun _ _ _ h => h) (Or.inl ⟨by kernel_rfl, ?_⟩) hHeld ?_
  rotate_left
  focus (intro w hSw; (try dsimp only at hSw); go_simp; try with_reducible rfl)
  simp only [Act.put]
  refine wpAnyH_ready (rs := [10]) (by kernel_rfl) (by simp) ?_
  refine AllReadyH.cons rfl (fun K hK => ?_) (AllReadyH.nil)
  go_simp
  refine (HMP.out _ HN.out _ hdr).mono ?_
  rintro e W3 ⟨rfl, hn, hk3⟩
  have hS3 := HSM.out W2.drew W3 HS2.out hk3
  have HN3 := Lib.hid hn
  clear hn hk3
  refine hK.out _ _ hS3 (fun hHeld => ?_)
  clear hK K hdr
  try simp only [Act.put]
  refine wpAnyH_ready (rs := [11]) (by kernel_rfl) (by simp) ?_
  refine AllReadyH.cons rfl (fun K hK => ?_) (AllReadyH.nil)
  go_simp
  refine hK.out _ _ hS3 (fun hHeld => ?_)
  clear hK K
  try simp only [Act.put]
  refine wpAnyH_done (by kernel_rfl) ?_ _
  refine NoPanic.normal ?_
  clear hS3 HS2 HMP HSM HN
  go_wp2_with fail
  refine hR.out _ _ _ _ (by simp) ?_
  go_ret
  exact ⟨rfl, HN3.out⟩
theorem map_any {w : World} {b t q : Nat} {l : Pg.Tb} {p : Pl} {F1 F2 : Nat → Prop} (h : MRep w b t q l p F1 F2) (z o y m : Int) (ho : Pg.I64 o) (hm : Pg.I64 m) :
    Calls Tryz.prog 9 #[bx b, .int .i64 z, .int .i64 o, .int .i64 y, .int .i64 m] w fun e w' => e = .returned (.int .i64 (mapME p l z o y m : Int)) ∧ MNext w b t q (mapML p l z o y m) (mapMP p l z o y m) F1 F2 w' := by
  unfold mapME mapML mapMP
  by_cases h0 : mqE l z o y m = 0
  · rw [if_pos h0, if_pos h0, if_pos h0]
    by_cases h1 : takeE p y = 0
    · rw [if_pos h1, if_pos h1]
      exact map_yes h z o y m h0 h1 ho hm
    · rw [if_neg h1, if_neg h1]
      exact map_no h z o y m h0 h1
  · rw [if_neg h0, if_neg h0, if_neg h0]
    exact map_q h z o y m h0
end Go.Proofs.YtkfljominljliaaGreat.Vm
