import Derived.Test.YtmocdokikcbjeaaUnmap
namespace Go.Proofs.Ytmocdokikcbjeaa
open Go.RowKit Go.Shelf Go.Maps
attribute [local go_sem] Oper.semAt_some

/- PROTECT. -/
def proL (v : Value) (s : Nat) (a1 a2 a3 a4 : Bool) : List Ask :=
  [⟨32, #[v], #[], 1, a1⟩, ⟨55, #[], #[bx (s + 2)], 2, a2⟩, ⟨57, #[], #[bx (s + 1)], 4, a3⟩, ⟨58, #[], #[bx s, bx (s + 1)], 5, a4⟩]
def proB (v : Value) (p m : Int) : List (List Value × TypeId) := [([v], 25), ([.int .i64 p], 3), ([.int .i64 m], 32)]
theorem pro_non (v : Value) (p m : Int) (w : World) (h : Non w v) : Calls Try.prog 40 #[.slice (some ⟨w.heap.size + 3, 0, none⟩) 4 4] (askW w (proB v p m) (proL v w.heap.size true true true true)) fun e w' => e = .returned (.int .i64 1) ∧ Below w.heap.size w w' := by
  refine (asked_box (proB v p m) (proL v w.heap.size false true true true) 4 4 _ rfl rfl (by omega) fun k hk hall => ?_).mono fun e w' ⟨e1, e2, _⟩ => ⟨e1, e2.below⟩
  rcases k with _ | k
  · refine ⟨enters_of Try.func32 (by kernel_rfl) rfl, fun V hV => ?_⟩
    exact (there_non v V (h.below hV.below)).mono fun e w' ⟨e1, e2⟩ => ⟨e1, e2 ▸ Below.refl _ _⟩
  · exact absurd (hall 0 (by simp [proL]) (by omega)) (by simp [proL])
theorem pro_asked {b bp bf : Nat} {l : Tb} {w : World} (h : Rep w b l bp bf) (p m : Int) :
    Calls Try.prog 40 #[.slice (some ⟨w.heap.size + 3, 0, none⟩) 4 4] (askW w (proB (bx b) p m) (proL (bx b) w.heap.size true true true true)) fun e w' => e = .returned (.int .i64 (protE l p m : Int)) ∧ Boxes w [[bx b], [.int .i64 p], [.int .i64 m]] w' := by
  obtain ⟨a2, ha2⟩ : ∃ a2, a2 = mayB m := ⟨_, rfl⟩
  obtain ⟨a3, ha3⟩ : ∃ a3, a3 = pageB p := ⟨_, rfl⟩
  obtain ⟨a4, ha4⟩ : ∃ a4, a4 = (look l p).isSome := ⟨_, rfl⟩
  have hE : askE (proL (bx b) w.heap.size true a2 a3 a4) = (protE l p m : Int) := by
    unfold protE
    rw [← ha2, ← ha3, ← ha4]
    cases a2 <;> cases a3 <;> cases a4 <;> rfl
  refine (asked_box (proB (bx b) p m) (proL (bx b) w.heap.size true a2 a3 a4) 4 4 _ rfl rfl (by omega) fun k hk hall => ?_).mono fun e w' ⟨e1, e2, _⟩ => ⟨by rw [e1, hE], e2⟩
  rcases k with _ | _ | _ | _ | k
  · refine ⟨enters_of Try.func32 (by kernel_rfl) rfl, fun V hV => ?_⟩
    exact (there_map b bp V (hV.rep h).c0).mono fun e w' ⟨e1, e2⟩ => ⟨e1, e2 ▸ Below.refl _ _⟩
  · refine ⟨enters_of Try.func55 (by kernel_rfl) rfl, fun V hV => ?_⟩
    have := prot1_any (w.heap.size + 2) m V (hV.cell 2 _ rfl 0 _ rfl)
    rw [← ha2] at this
    exact this
  · refine ⟨enters_of Try.func57 (by kernel_rfl) rfl, fun V hV => ?_⟩
    have := prot2_any (w.heap.size + 1) p V (hV.cell 1 _ rfl 0 _ rfl)
    rw [← ha3] at this
    exact this
  · have t3 : a3 = true := hall 2 (by simp [proL]) (by omega)
    rw [ha3] at t3
    refine ⟨enters_of Try.func58 (by kernel_rfl) rfl, fun V hV => ?_⟩
    have := prot3_any (hV.rep h) w.heap.size (w.heap.size + 1) p (page64 t3) (hV.cell 0 _ rfl 0 _ rfl) (hV.cell 1 _ rfl 0 _ rfl)
    rw [← ha4] at this
    exact this
  · simp [proL] at hk
    omega
set_option maxHeartbeats 1000000 in
theorem prot_nil (v : Value) (p m : Int) (w : World) (h : Non w v) : Calls Try.prog 22 #[v, .int .i64 p, .int .i64 m] w fun e w' => e = .returned (.tuple #[.int .i64 0, .int .i64 1]) ∧ Below w.heap.size w w' := by
  have h1 := Lib.hid (pro_non v p m w h)
  obtain ⟨pv, rfl⟩ : ∃ pv, v = .pointer pv := by
    rcases h with rfl | ⟨b, rfl, _⟩
    · exact ⟨_, rfl⟩
    · exact ⟨_, rfl⟩
  clear h
  go_enter Try.func22, Try.ntmps22
  go_wp2_with fail
  refine wp_scope_jump 1 fun R hR hJm => ?_
  go_wp2_with fail
  refine (h1.out).mono ?_
  rintro e w1 ⟨rfl, hb⟩
  go_wp2_with fail
  refine wp_goto (hJm.out _ _ _ _ _ rfl ?_)
  go_wp2_with fail
  refine hR.out _ _ _ _ (by simp) ?_
  go_ret2
  exact ⟨rfl, hb⟩
set_option maxHeartbeats 1000000 in
theorem prot_no {b : Nat} {l : Tb} {F : Nat → Prop} {w : World} (h : Has w b l F) (p m : Int) (hE : protE l p m ≠ 0) :
    Calls Try.prog 22 #[bx b, .int .i64 p, .int .i64 m] w fun e w' => e = .returned (.tuple #[.int .i64 (protM l p m), .int .i64 (protE l p m : Int)]) ∧ Next w b (protT l p m) F w' := by
  have hN := Lib.hid (fun w' (hb : Below w.heap.size w w') => (show Next w b (protT l p m) F w' from by
    unfold protT
    rw [if_neg hE]
    exact Next.same h hb))
  have hX : protM l p m = 0 := by unfold protM; rw [if_neg hE]
  rw [hX]
  obtain ⟨bp, bf, hr, rfl⟩ := h
  have h1 := Lib.hid ((pro_asked hr p m).mono fun e w' ⟨e1, e2⟩ => (show e = Ending.returned (Value.int .i64 (protE l p m : Int)) ∧ Below w.heap.size w w' from ⟨e1, e2.below⟩))
  obtain ⟨E, hE2⟩ : ∃ E, E = protE l p m := ⟨_, rfl⟩
  rw [← hE2] at h1 hE ⊢
  have e0 : (((E : Int)) == 0) = false := by rw [beq_eq_false_iff_ne]; omega
  have e1 : ¬ ((E : Int) = 0) := by omega
  clear hE2 hr hE hX
  go_enter Try.func22, Try.ntmps22
  go_wp2_with fail
  refine wp_scope_jump 1 fun R hR hJm => ?_
  go_wp2_with fail
  refine (h1.out).mono ?_
  rintro e w1 ⟨rfl, hb⟩
  go_wp2_with fail
  refine wp_goto (hJm.out _ _ _ _ _ rfl ?_)
  go_wp2_with fail
  refine hR.out _ _ _ _ (by simp) ?_
  go_ret2
  exact ⟨rfl, hN.out _ hb⟩
theorem protE_0 {l : Tb} {p m : Int} (h : protE l p m = 0) : mayB m = true ∧ pageB p = true ∧ ∃ e, look l p = some e := by
  unfold protE at h
  split at h
  · cases h
  split at h
  · cases h
  split at h
  · cases h
  next h1 h2 h3 => exact ⟨by simpa using h1, by simpa using h2, by
    cases hl : look l p with
    | none => rw [hl] at h3; exact absurd rfl h3
    | some e => exact ⟨e, rfl⟩⟩
set_option maxHeartbeats 2000000 in
theorem prot_yes {b : Nat} {l : Tb} {F : Nat → Prop} {w : World} (h : Has w b l F) (p m : Int) (hE : protE l p m = 0) :
    Calls Try.prog 22 #[bx b, .int .i64 p, .int .i64 m] w fun e w' => e = .returned (.tuple #[.int .i64 (protM l p m), .int .i64 0]) ∧ Next w b (protT l p m) F w' := by
  obtain ⟨hmy, hpg, e, he⟩ := protE_0 hE
  have hT : protT l p m = setM l p m := by unfold protT; rw [if_pos hE]
  have hX : protM l p m = e.2.1 := by unfold protM; rw [if_pos hE, he]; rfl
  rw [hT, hX]
  obtain ⟨bp, bf, hr, rfl⟩ := h
  have h1 := Lib.hid (pro_asked hr p m)
  rw [hE] at h1
  have HS := Lib.hid (fun w1 (hB : Boxes w [[bx b], [.int .i64 p], [.int .i64 m]] w1) W (hb : Keep (blocks b bp bf) w1 W) => (show W.cell? ⟨w.heap.size, 0, none⟩ = some (bx b) ∧ W.cell? ⟨w.heap.size + 1, 0, none⟩ = some (.int .i64 p) ∧ W.cell? ⟨w.heap.size + 1 + 1, 0, none⟩ = some (.int .i64 m) ∧ Keep (blocks b bp bf) w1 W from
    ⟨hB.keep hb hr.lt 0 _ rfl 0 _ rfl, hB.keep hb hr.lt 1 _ rfl 0 _ rfl, hB.keep hb hr.lt 2 _ rfl 0 _ rfl, hb⟩))
  have HC := Lib.hid (fun w1 (hB : Boxes w [[bx b], [.int .i64 p], [.int .i64 m]] w1) V (hb : Below w1.heap.size w1 V) => (show Calls Try.prog 59 #[bx b, .int .i64 p, .int .i64 m] V (fun e' w' => e' = .returned (.int .i64 e.2.1) ∧ Next w b (setM l p m) (blocks b bp bf) w' ∧ Keep (blocks b bp bf) w1 w') from
    (allow_any (hr.below (below0 hB.below hb)) p m (page64 hpg) hmy e he).mono fun e' w' ⟨e1, e2, e3⟩ => ⟨e1, ⟨⟨_, _, e2, rfl⟩, (Keep.of_below (below0 hB.below hb)).trans e3 fun _ _ h => h⟩, (Keep.of_below hb).trans e3 fun _ _ h => h⟩))
  obtain ⟨x2, hx2⟩ : ∃ x2, x2 = e.2.1 := ⟨_, rfl⟩
  rw [← hx2] at HC ⊢
  clear hr hE hT hX he hpg hmy hx2
  go_enter Try.func22, Try.ntmps22
  go_wp2_with fail
  refine wp_scope_jump 1 fun R hR hJm => ?_
  go_wp2_with fail
  refine (h1.out).mono ?_
  rintro e w1 ⟨rfl, hB⟩
  have H0 := Lib.hid (HS.out w1 hB)
  have H1 := Lib.hid (HC.out w1 hB)
  have hdr := Lib.hid (show Below w1.heap.size w1 w1.drew from (Below.refl _ _).drew)
  clear hB h1 HS HC
  go_wp2_with fail
  go_region_held3 (fun W => W.cell? ⟨w.heap.size, 0, none⟩ = some (bx b) ∧ W.cell? ⟨w.heap.size + 1, 0, none⟩ = some (.int .i64 p) ∧ W.cell? ⟨w.heap.size + 1 + 1, 0, none⟩ = some (.int .i64 m) ∧ Keep (blocks b bp bf) w1 W)
    (first | exact H0.out _ (Keep.of_below hdr.out) | exact H0.out _ (by assumption))
    (first | (go_at_call 59; refine (H1.out _ hdr.out).mono ?_; rintro e w2 ⟨rfl, hN, hk2⟩))
  go_wp2_with fail
  refine hR.out _ _ _ _ (by simp) ?_
  go_ret2
  exact ⟨rfl, hN⟩
end Go.Proofs.Ytmocdokikcbjeaa
