import Derived.Test.YtmocdokikcbjeaaEnter
namespace Go.Proofs.Ytmocdokikcbjeaa
open Go.RowKit Go.Shelf Go.Maps
attribute [local go_sem] Oper.semAt_some

/- MAP. -/
def mapL (v : Value) (s : Nat) (a1 a2 a3 a4 a5 : Bool) : List Ask :=
  [⟨32, #[v], #[], 1, a1⟩, ⟨41, #[], #[bx (s + 2)], 2, a2⟩, ⟨43, #[], #[bx (s + 1)], 4, a3⟩, ⟨45, #[], #[bx s, bx (s + 1)], 180, a4⟩, ⟨47, #[], #[bx s, bx (s + 2)], 181, a5⟩]
def mapB (v : Value) (p : Int) (x : En) : List (List Value × TypeId) := [([v], 25), ([.int .i64 p], 3), (enC x, 34)]
theorem map_non (v : Value) (p : Int) (x : En) (w : World) (h : Non w v) : Calls Try.prog 40 #[.slice (some ⟨w.heap.size + 3, 0, none⟩) 5 5] (askW w (mapB v p x) (mapL v w.heap.size true true true true true)) fun e w' => e = .returned (.int .i64 1) ∧ Below w.heap.size w w' := by
  refine (asked_box (mapB v p x) (mapL v w.heap.size false true true true true) 5 5 _ rfl rfl (by omega) fun k hk hall => ?_).mono fun e w' ⟨e1, e2, _⟩ => ⟨e1, e2.below⟩
  rcases k with _ | k
  · refine ⟨enters_of Try.func32 (by kernel_rfl) rfl, fun V hV => ?_⟩
    exact (there_non v V (h.below hV.below)).mono fun e w' ⟨e1, e2⟩ => ⟨e1, e2 ▸ Below.refl _ _⟩
  · exact absurd (hall 0 (by simp [mapL]) (by omega)) (by simp [mapL])
theorem map_asked {b bp bf : Nat} {l : Tb} {w : World} (h : Rep w b l bp bf) (p : Int) (x : En) (hx : En64 x) :
    Calls Try.prog 40 #[.slice (some ⟨w.heap.size + 3, 0, none⟩) 5 5] (askW w (mapB (bx b) p x) (mapL (bx b) w.heap.size true true true true true)) fun e w' => e = .returned (.int .i64 (mapE l p x : Int)) ∧ Boxes w [[bx b], [.int .i64 p], enC x] w' := by
  obtain ⟨a2, ha2⟩ : ∃ a2, a2 = rightB x := ⟨_, rfl⟩
  obtain ⟨a3, ha3⟩ : ∃ a3, a3 = pageB p := ⟨_, rfl⟩
  obtain ⟨a4, ha4⟩ : ∃ a4, a4 = !(look l p).isSome := ⟨_, rfl⟩
  obtain ⟨a5, ha5⟩ : ∃ a5, a5 = !framed l x.2.2 := ⟨_, rfl⟩
  have hE : askE (mapL (bx b) w.heap.size true a2 a3 a4 a5) = (mapE l p x : Int) := by
    unfold mapE
    have e4 : (look l p).isSome = !a4 := by rw [ha4]; simp
    have e5 : framed l x.2.2 = !a5 := by rw [ha5]; simp
    rw [← ha2, ← ha3, e4, e5]
    cases a2 <;> cases a3 <;> cases a4 <;> cases a5 <;> rfl
  refine (asked_box (mapB (bx b) p x) (mapL (bx b) w.heap.size true a2 a3 a4 a5) 5 5 _ rfl rfl (by omega) fun k hk hall => ?_).mono fun e w' ⟨e1, e2, _⟩ => ⟨by rw [e1, hE], e2⟩
  rcases k with _ | _ | _ | _ | _ | k
  · refine ⟨enters_of Try.func32 (by kernel_rfl) rfl, fun V hV => ?_⟩
    exact (there_map b bp V (hV.rep h).c0).mono fun e w' ⟨e1, e2⟩ => ⟨e1, e2 ▸ Below.refl _ _⟩
  · refine ⟨enters_of Try.func41 (by kernel_rfl) rfl, fun V hV => ?_⟩
    have := map1_any (w.heap.size + 2) x V (fun j v hv => hV.cell 2 _ rfl j v hv)
    rw [← ha2] at this
    exact this
  · refine ⟨enters_of Try.func43 (by kernel_rfl) rfl, fun V hV => ?_⟩
    have := map2_any (w.heap.size + 1) p V (hV.cell 1 _ rfl 0 _ rfl)
    rw [← ha3] at this
    exact this
  · have t3 : a3 = true := hall 2 (by simp [mapL]) (by omega)
    rw [ha3] at t3
    refine ⟨enters_of Try.func45 (by kernel_rfl) rfl, fun V hV => ?_⟩
    have := map3_any (hV.rep h) w.heap.size (w.heap.size + 1) p (page64 t3) (hV.cell 0 _ rfl 0 _ rfl) (hV.cell 1 _ rfl 0 _ rfl)
    rw [← ha4] at this
    exact this
  · refine ⟨enters_of Try.func47 (by kernel_rfl) rfl, fun V hV => ?_⟩
    have := map4_any (hV.rep h) w.heap.size (w.heap.size + 2) x.2.2 hx.2.2 (hV.cell 0 _ rfl 0 _ rfl) (hV.cell 2 _ rfl 2 _ rfl)
    rw [← ha5] at this
    exact this
  · simp [mapL] at hk
    omega

set_option maxHeartbeats 1000000 in
theorem map_nil (v : Value) (p : Int) (x : En) (w : World) (h : Non w v) : Calls Try.prog 18 #[v, .int .i64 p, enV x] w fun e w' => e = .returned (.int .i64 1) ∧ Below w.heap.size w w' := by
  have h1 := Lib.hid (map_non v p x w h)
  obtain ⟨pv, rfl⟩ : ∃ pv, v = .pointer pv := by
    rcases h with rfl | ⟨b, rfl, _⟩
    · exact ⟨_, rfl⟩
    · exact ⟨_, rfl⟩
  clear h
  rw [show enV x = .agg #[.int .i64 x.1, .int .i64 x.2.1, .int .i64 x.2.2] from rfl]
  go_enter Try.func18, Try.ntmps18
  go_wp2_with fail
  refine wp_scope_jump 1 fun R hR hJm => ?_
  go_wp2_with fail
  refine (h1.out).mono ?_
  rintro e w1 ⟨rfl, hb⟩
  go_wp2_with fail
  refine wp_goto (hJm.out _ _ _ _ _ rfl ?_)
  go_wp2_with fail
  refine hR.out _ _ _ _ (by simp) ?_
  go_ret
  exact ⟨rfl, hb⟩
set_option maxHeartbeats 1000000 in
theorem map_no {b : Nat} {l : Tb} {F : Nat → Prop} {w : World} (h : Has w b l F) (p : Int) (x : En) (hx : En64 x) (hE : mapE l p x ≠ 0) :
    Calls Try.prog 18 #[bx b, .int .i64 p, enV x] w fun e w' => e = .returned (.int .i64 (mapE l p x : Int)) ∧ Next w b (mapT l p x) F w' := by
  have hN := Lib.hid (fun w' (hb : Below w.heap.size w w') => (show Next w b (mapT l p x) F w' from by
    unfold mapT
    rw [if_neg hE]
    exact Next.same h hb))
  obtain ⟨bp, bf, hr, rfl⟩ := h
  have h1 := Lib.hid ((map_asked hr p x hx).mono fun e w' ⟨e1, e2⟩ => (show e = Ending.returned (Value.int .i64 (mapE l p x : Int)) ∧ Below w.heap.size w w' from ⟨e1, e2.below⟩))
  obtain ⟨E, hE2⟩ : ∃ E, E = mapE l p x := ⟨_, rfl⟩
  rw [← hE2] at h1 hE ⊢
  have e0 : (((E : Int)) == 0) = false := by rw [beq_eq_false_iff_ne]; omega
  have e1 : ¬ ((E : Int) = 0) := by omega
  clear hE2 hr hE
  rw [show enV x = .agg #[.int .i64 x.1, .int .i64 x.2.1, .int .i64 x.2.2] from rfl]
  go_enter Try.func18, Try.ntmps18
  go_wp2_with fail
  refine wp_scope_jump 1 fun R hR hJm => ?_
  go_wp2_with fail
  refine (h1.out).mono ?_
  rintro e w1 ⟨rfl, hb⟩
  go_wp2_with fail
  refine wp_goto (hJm.out _ _ _ _ _ rfl ?_)
  go_wp2_with fail
  refine hR.out _ _ _ _ (by simp) ?_
  go_ret
  exact ⟨rfl, hN.out _ hb⟩
set_option maxHeartbeats 2000000 in
theorem map_yes {b : Nat} {l : Tb} {F : Nat → Prop} {w : World} (h : Has w b l F) (p : Int) (x : En) (hx : En64 x) (hE : mapE l p x = 0) :
    Calls Try.prog 18 #[bx b, .int .i64 p, enV x] w fun e w' => e = .returned (.int .i64 0) ∧ Next w b (mapT l p x) F w' := by
  have hT : mapT l p x = ins l p x := by unfold mapT; rw [if_pos hE]
  rw [hT]
  obtain ⟨bp, bf, hr, rfl⟩ := h
  have h1 := Lib.hid ((map_asked hr p x hx).mono fun e w' ⟨e1, e2⟩ => (show e = Ending.returned (Value.int .i64 (mapE l p x : Int)) ∧ Boxes w [[bx b], [.int .i64 p], enC x] w' from ⟨e1, e2⟩))
  rw [hE] at h1
  have HS := Lib.hid (fun w1 (hB : Boxes w [[bx b], [.int .i64 p], enC x] w1) W (hb : Keep (blocks b bp bf) w1 W) => (show W.cell? ⟨w.heap.size, 0, none⟩ = some (bx b) ∧ W.cell? ⟨w.heap.size + 1, 0, none⟩ = some (.int .i64 p) ∧ W.cell? ⟨w.heap.size + 1 + 1, 0, none⟩ = some (.int .i64 x.1) ∧ W.cell? ⟨w.heap.size + 1 + 1, 1, none⟩ = some (.int .i64 x.2.1) ∧ W.cell? ⟨w.heap.size + 1 + 1, 2, none⟩ = some (.int .i64 x.2.2) ∧ Keep (blocks b bp bf) w1 W from
    ⟨hB.keep hb hr.lt 0 _ rfl 0 _ rfl, hB.keep hb hr.lt 1 _ rfl 0 _ rfl, hB.keep hb hr.lt 2 _ rfl 0 _ rfl, hB.keep hb hr.lt 2 _ rfl 1 _ rfl, hB.keep hb hr.lt 2 _ rfl 2 _ rfl, hb⟩))
  have HC := Lib.hid (fun w1 (hB : Boxes w [[bx b], [.int .i64 p], enC x] w1) V (hb : Below w1.heap.size w1 V) => (show Calls Try.prog 49 #[bx b, .int .i64 p, .agg #[.int .i64 x.1, .int .i64 x.2.1, .int .i64 x.2.2]] V (fun e w' => (∃ v, e = .returned v) ∧ Next w b (ins l p x) (blocks b bp bf) w' ∧ Keep (blocks b bp bf) w1 w') from
    (enter_any (hr.below (below0 hB.below hb)) p x hE hx).mono fun e w' ⟨e1, e2, e3⟩ => ⟨e1, ⟨⟨_, _, e2, rfl⟩, (Keep.of_below (below0 hB.below hb)).trans e3 fun _ _ h => h⟩, (Keep.of_below hb).trans e3 fun _ _ h => h⟩))
  rw [show enV x = .agg #[.int .i64 x.1, .int .i64 x.2.1, .int .i64 x.2.2] from rfl]
  clear hr hE hT
  go_enter Try.func18, Try.ntmps18
  go_wp2_with fail
  refine wp_scope_jump 1 fun R hR hJm => ?_
  go_wp2_with fail
  refine (h1.out).mono ?_
  rintro e w1 ⟨rfl, hB⟩
  have H0 := Lib.hid (HS.out w1 hB)
  have H1 := Lib.hid (HC.out w1 hB)
  have hdr := Lib.hid (show Below w1.heap.size w1 w1.drew from (Below.refl _ _).drew)
  obtain ⟨x1, x2, x3⟩ := x
  simp only at H0 H1
  clear hB h1 HS HC
  go_wp2_with fail
  go_region_held3 (fun W => W.cell? ⟨w.heap.size, 0, none⟩ = some (bx b) ∧ W.cell? ⟨w.heap.size + 1, 0, none⟩ = some (.int .i64 p) ∧ W.cell? ⟨w.heap.size + 1 + 1, 0, none⟩ = some (.int .i64 x1) ∧ W.cell? ⟨w.heap.size + 1 + 1, 1, none⟩ = some (.int .i64 x2) ∧ W.cell? ⟨w.heap.size + 1 + 1, 2, none⟩ = some (.int .i64 x3) ∧ Keep (blocks b bp bf) w1 W)
    (first | exact H0.out _ (Keep.of_below hdr.out) | exact H0.out _ (by assumption))
    (first | (go_at_call 49; refine (H1.out _ hdr.out).mono ?_; rintro e w2 ⟨⟨v2, rfl⟩, hN, hk2⟩))
  go_wp2_with fail
  refine hR.out _ _ _ _ (by simp) ?_
  go_ret
  exact ⟨rfl, hN⟩
end Go.Proofs.Ytmocdokikcbjeaa
