import Derived.Test.YtmocdokikcbjeaaLeave
namespace Go.Proofs.Ytmocdokikcbjeaa
open Go.RowKit Go.Shelf Go.Maps
attribute [local go_sem] Oper.semAt_some

/- UNMAP. -/
def unmL (v : Value) (s : Nat) (a1 a2 a3 : Bool) : List Ask :=
  [⟨32, #[v], #[], 1, a1⟩, ⟨52, #[], #[bx (s + 1)], 4, a2⟩, ⟨53, #[], #[bx s, bx (s + 1)], 5, a3⟩]
def unmB (v : Value) (p : Int) : List (List Value × TypeId) := [([v], 25), ([.int .i64 p], 3), (enC zeroEn, 34)]
theorem unm_non (v : Value) (p : Int) (w : World) (h : Non w v) : Calls Try.prog 40 #[.slice (some ⟨w.heap.size + 3, 0, none⟩) 3 3] (askW w (unmB v p) (unmL v w.heap.size true true true)) fun e w' => e = .returned (.int .i64 1) ∧ Boxes w [[v], [.int .i64 p], enC zeroEn] w' := by
  refine (asked_box (unmB v p) (unmL v w.heap.size false true true) 3 3 _ rfl rfl (by omega) fun k hk hall => ?_).mono fun e w' ⟨e1, e2, _⟩ => ⟨e1, e2⟩
  rcases k with _ | k
  · refine ⟨enters_of Try.func32 (by kernel_rfl) rfl, fun V hV => ?_⟩
    exact (there_non v V (h.below hV.below)).mono fun e w' ⟨e1, e2⟩ => ⟨e1, e2 ▸ Below.refl _ _⟩
  · exact absurd (hall 0 (by simp [unmL]) (by omega)) (by simp [unmL])
theorem unm_asked {b bp bf : Nat} {l : Tb} {w : World} (h : Rep w b l bp bf) (p : Int) :
    Calls Try.prog 40 #[.slice (some ⟨w.heap.size + 3, 0, none⟩) 3 3] (askW w (unmB (bx b) p) (unmL (bx b) w.heap.size true true true)) fun e w' => e = .returned (.int .i64 (unmapE l p : Int)) ∧ Boxes w [[bx b], [.int .i64 p], enC zeroEn] w' := by
  obtain ⟨a3, ha3⟩ : ∃ a3, a3 = pageB p := ⟨_, rfl⟩
  obtain ⟨a4, ha4⟩ : ∃ a4, a4 = (look l p).isSome := ⟨_, rfl⟩
  have hE : askE (unmL (bx b) w.heap.size true a3 a4) = (unmapE l p : Int) := by
    unfold unmapE
    rw [← ha3, ← ha4]
    cases a3 <;> cases a4 <;> rfl
  refine (asked_box (unmB (bx b) p) (unmL (bx b) w.heap.size true a3 a4) 3 3 _ rfl rfl (by omega) fun k hk hall => ?_).mono fun e w' ⟨e1, e2, _⟩ => ⟨by rw [e1, hE], e2⟩
  rcases k with _ | _ | _ | k
  · refine ⟨enters_of Try.func32 (by kernel_rfl) rfl, fun V hV => ?_⟩
    exact (there_map b bp V (hV.rep h).c0).mono fun e w' ⟨e1, e2⟩ => ⟨e1, e2 ▸ Below.refl _ _⟩
  · refine ⟨enters_of Try.func52 (by kernel_rfl) rfl, fun V hV => ?_⟩
    have := unmap1_any (w.heap.size + 1) p V (hV.cell 1 _ rfl 0 _ rfl)
    rw [← ha3] at this
    exact this
  · have t3 : a3 = true := hall 1 (by simp [unmL]) (by omega)
    rw [ha3] at t3
    refine ⟨enters_of Try.func53 (by kernel_rfl) rfl, fun V hV => ?_⟩
    have := unmap2_any (hV.rep h) w.heap.size (w.heap.size + 1) p (page64 t3) (hV.cell 0 _ rfl 0 _ rfl) (hV.cell 1 _ rfl 0 _ rfl)
    rw [← ha4] at this
    exact this
  · simp [unmL] at hk
    omega
theorem below_set3 {w w1 : World} {n : Nat} (h : Below w.heap.size w w1) (hn : w.heap.size ≤ n) (x y z : Value) : Below w.heap.size w (((w1.setCell ⟨n, 0, none⟩ x).setCell ⟨n, 1, none⟩ y).setCell ⟨n, 2, none⟩ z) :=
  ((h.setCell hn x).setCell hn y).setCell hn z
/-- what an entry's cells hold behind a store -/
theorem set3_ld {w1 : World} {n : Nat} {t : TypeId} {x y z : Value} (h : Row w1 n t [x, y, z]) (a b c : Int) : (loadVar 34 ⟨n, 0, none⟩).run Try.prog (((w1.setCell ⟨n, 0, none⟩ (.int .i64 a)).setCell ⟨n, 1, none⟩ (.int .i64 b)).setCell ⟨n, 2, none⟩ (.int .i64 c)) = .ok (enV (a, b, c)) (((w1.setCell ⟨n, 0, none⟩ (.int .i64 a)).setCell ⟨n, 1, none⟩ (.int .i64 b)).setCell ⟨n, 2, none⟩ (.int .i64 c)) :=
  load_en (x := (a, b, c)) fun j _ hj => ((((h.set 0 _).set 1 _).set 2 _).cell j).trans hj

set_option maxHeartbeats 1000000 in
theorem unmap_nil (v : Value) (p : Int) (w : World) (h : Non w v) : Calls Try.prog 21 #[v, .int .i64 p] w fun e w' => e = .returned (.tuple #[enV zeroEn, .int .i64 1]) ∧ Below w.heap.size w w' := by
  have h1 := Lib.hid (unm_non v p w h)
  obtain ⟨pv, rfl⟩ : ∃ pv, v = .pointer pv := by
    rcases h with rfl | ⟨b, rfl, _⟩
    · exact ⟨_, rfl⟩
    · exact ⟨_, rfl⟩
  clear h
  go_enter Try.func21, Try.ntmps21
  go_wp2_with fail
  refine wp_scope_jump 1 fun R hR hJm => ?_
  go_wp2_with fail
  refine (h1.out).mono ?_
  rintro e w1 ⟨rfl, hB⟩
  obtain ⟨t, hr⟩ := hB.row 2 _ rfl
  have f0 : w1.cell? ⟨w.heap.size + 1 + 1, 0, none⟩ = some (.int .i64 0) := hr.cell 0
  have f1 : w1.cell? ⟨w.heap.size + 1 + 1, 1, none⟩ = some (.int .i64 0) := hr.cell 1
  have f2 : w1.cell? ⟨w.heap.size + 1 + 1, 2, none⟩ = some (.int .i64 0) := hr.cell 2
  have z0 : w1.frozen? ⟨w.heap.size + 1 + 1, 0, none⟩ = false := hr.frozen 0
  have z1 : w1.frozen? ⟨w.heap.size + 1 + 1, 1, none⟩ = false := hr.frozen 1
  have z2 : w1.frozen? ⟨w.heap.size + 1 + 1, 2, none⟩ = false := hr.frozen 2
  have HB := Lib.hid hB.below
  have HR := Lib.hid (show Row w1 (w.heap.size + 1 + 1) t [.int .i64 0, .int .i64 0, .int .i64 0] from hr)
  clear hr hB
  go_wp2_with fail
  refine wp_goto (hJm.out _ _ _ _ _ rfl ?_)
  go_wp2_with fail
  refine hR.out _ _ _ _ (by simp) ?_
  exact bodyPost_ret (res_cell2 Try.results21 rfl (set3_ld HR.out 0 0 0)) rfl ⟨rfl, below_set3 HB.out (by omega) _ _ _⟩
set_option maxHeartbeats 1000000 in
theorem unmap_no {b : Nat} {l : Tb} {F : Nat → Prop} {w : World} (h : Has w b l F) (p : Int) (hE : unmapE l p ≠ 0) :
    Calls Try.prog 21 #[bx b, .int .i64 p] w fun e w' => e = .returned (.tuple #[enV (unmapX l p), .int .i64 (unmapE l p : Int)]) ∧ Next w b (unmapT l p) F w' := by
  have hN := Lib.hid (fun w' (hb : Below w.heap.size w w') => (show Next w b (unmapT l p) F w' from by
    unfold unmapT
    rw [if_neg hE]
    exact Next.same h hb))
  have hX : unmapX l p = (0, 0, 0) := by unfold unmapX; rw [if_neg hE]; rfl
  rw [hX]
  obtain ⟨bp, bf, hr, rfl⟩ := h
  have h1 := Lib.hid (unm_asked hr p)
  obtain ⟨E, hE2⟩ : ∃ E, E = unmapE l p := ⟨_, rfl⟩
  rw [← hE2] at h1 hE ⊢
  have e0 : (((E : Int)) == 0) = false := by rw [beq_eq_false_iff_ne]; omega
  have e1 : ¬ ((E : Int) = 0) := by omega
  clear hE2 hr hE hX
  go_enter Try.func21, Try.ntmps21
  go_wp2_with fail
  refine wp_scope_jump 1 fun R hR hJm => ?_
  go_wp2_with fail
  refine (h1.out).mono ?_
  rintro e w1 ⟨rfl, hB⟩
  obtain ⟨t, hr⟩ := hB.row 2 _ rfl
  have f0 : w1.cell? ⟨w.heap.size + 1 + 1, 0, none⟩ = some (.int .i64 0) := hr.cell 0
  have f1 : w1.cell? ⟨w.heap.size + 1 + 1, 1, none⟩ = some (.int .i64 0) := hr.cell 1
  have f2 : w1.cell? ⟨w.heap.size + 1 + 1, 2, none⟩ = some (.int .i64 0) := hr.cell 2
  have z0 : w1.frozen? ⟨w.heap.size + 1 + 1, 0, none⟩ = false := hr.frozen 0
  have z1 : w1.frozen? ⟨w.heap.size + 1 + 1, 1, none⟩ = false := hr.frozen 1
  have z2 : w1.frozen? ⟨w.heap.size + 1 + 1, 2, none⟩ = false := hr.frozen 2
  have HB := Lib.hid hB.below
  have HR := Lib.hid (show Row w1 (w.heap.size + 1 + 1) t [.int .i64 0, .int .i64 0, .int .i64 0] from hr)
  clear hr hB
  go_wp2_with fail
  refine wp_goto (hJm.out _ _ _ _ _ rfl ?_)
  go_wp2_with fail
  refine hR.out _ _ _ _ (by simp) ?_
  exact bodyPost_ret (res_cell2 Try.results21 rfl (set3_ld HR.out 0 0 0)) rfl ⟨rfl, hN.out _ (below_set3 HB.out (by omega) _ _ _)⟩
theorem unmapE_0 {l : Tb} {p : Int} (h : unmapE l p = 0) : pageB p = true ∧ ∃ e, look l p = some e := by
  unfold unmapE at h
  split at h
  · cases h
  split at h
  · cases h
  next h1 h2 => exact ⟨by simpa using h1, by
    cases hl : look l p with
    | none => rw [hl] at h2; exact absurd rfl h2
    | some e => exact ⟨e, rfl⟩⟩
set_option maxHeartbeats 2000000 in
theorem unmap_yes {b : Nat} {l : Tb} {F : Nat → Prop} {w : World} (h : Has w b l F) (p : Int) (hE : unmapE l p = 0) :
    Calls Try.prog 21 #[bx b, .int .i64 p] w fun e w' => e = .returned (.tuple #[enV (unmapX l p), .int .i64 0]) ∧ Next w b (unmapT l p) F w' := by
  obtain ⟨hpg, e, he⟩ := unmapE_0 hE
  have hT : unmapT l p = del l p := by unfold unmapT; rw [if_pos hE]
  have hX : unmapX l p = e := by unfold unmapX; rw [if_pos hE, he]; rfl
  rw [hT, hX]
  obtain ⟨bp, bf, hr, rfl⟩ := h
  have h1 := Lib.hid (unm_asked hr p)
  rw [hE] at h1
  have HS := Lib.hid (fun w1 (hB : Boxes w [[bx b], [.int .i64 p], enC zeroEn] w1) => (show w1.cell? ⟨w.heap.size, 0, none⟩ = some (bx b) ∧ w1.cell? ⟨w.heap.size + 1, 0, none⟩ = some (.int .i64 p) from
    ⟨hB.cell 0 _ rfl 0 _ rfl, hB.cell 1 _ rfl 0 _ rfl⟩))
  have HST := Lib.hid (fun (W : World) (x y z : Value) (h : W.cell? ⟨w.heap.size, 0, none⟩ = some (bx b) ∧ W.cell? ⟨w.heap.size + 1, 0, none⟩ = some (.int .i64 p)) => (show (((W.setCell ⟨w.heap.size + 1 + 1, 0, none⟩ x).setCell ⟨w.heap.size + 1 + 1, 1, none⟩ y).setCell ⟨w.heap.size + 1 + 1, 2, none⟩ z).cell? ⟨w.heap.size, 0, none⟩ = some (bx b) ∧ (((W.setCell ⟨w.heap.size + 1 + 1, 0, none⟩ x).setCell ⟨w.heap.size + 1 + 1, 1, none⟩ y).setCell ⟨w.heap.size + 1 + 1, 2, none⟩ z).cell? ⟨w.heap.size + 1, 0, none⟩ = some (.int .i64 p) from by
    have e : ∀ k, k ≠ w.heap.size + 1 + 1 → (((W.setCell ⟨w.heap.size + 1 + 1, 0, none⟩ x).setCell ⟨w.heap.size + 1 + 1, 1, none⟩ y).setCell ⟨w.heap.size + 1 + 1, 2, none⟩ z).heap[k]? = W.heap[k]? := fun k hk => by rw [heap_set hk, heap_set hk, heap_set hk]
    exact ⟨(World.cell?_of_block (e w.heap.size (by omega))).trans h.1, (World.cell?_of_block (e (w.heap.size + 1) (by omega))).trans h.2⟩))
  have HC := Lib.hid (fun w1 (hB : Boxes w [[bx b], [.int .i64 p], enC zeroEn] w1) V (hb : Below w1.heap.size w1 V) => (show Calls Try.prog 54 #[bx b, .int .i64 p] V (fun e' w' => e' = .returned (.agg #[.int .i64 e.1, .int .i64 e.2.1, .int .i64 e.2.2]) ∧ (w'.cell? ⟨w.heap.size, 0, none⟩ = some (bx b) ∧ w'.cell? ⟨w.heap.size + 1, 0, none⟩ = some (.int .i64 p)) ∧
      (w'.cell? ⟨w.heap.size + 1 + 1, 0, none⟩ = some (.int .i64 0) ∧ w'.cell? ⟨w.heap.size + 1 + 1, 1, none⟩ = some (.int .i64 0) ∧ w'.cell? ⟨w.heap.size + 1 + 1, 2, none⟩ = some (.int .i64 0)) ∧
      (w'.frozen? ⟨w.heap.size + 1 + 1, 0, none⟩ = false ∧ w'.frozen? ⟨w.heap.size + 1 + 1, 1, none⟩ = false ∧ w'.frozen? ⟨w.heap.size + 1 + 1, 2, none⟩ = false) ∧
      (∀ x y z, Next w b (del l p) (blocks b bp bf) (((w'.setCell ⟨w.heap.size + 1 + 1, 0, none⟩ x).setCell ⟨w.heap.size + 1 + 1, 1, none⟩ y).setCell ⟨w.heap.size + 1 + 1, 2, none⟩ z)) ∧ ∃ t, Row w' (w.heap.size + 1 + 1) t [.int .i64 0, .int .i64 0, .int .i64 0]) from
    (leave_any (hr.below (below0 hB.below hb)) p (page64 hpg) e he).mono fun e' w' ⟨e1, e2, e3⟩ => by
      have hk : Keep (blocks b bp bf) w1 w' := (Keep.of_below hb).trans e3 fun _ _ h => h
      have hk0 : Keep (blocks b bp bf) w w' := (Keep.of_below (below0 hB.below hb)).trans e3 fun _ _ h => h
      obtain ⟨t, hrow⟩ := hB.keepRow hk hr.lt 2 _ rfl
      have hl1 := hr.obj.lt
      have hl2 := hr.pages.lt
      have hl3 := hr.frames.lt
      refine ⟨e1, ⟨hB.keep hk hr.lt 0 _ rfl 0 _ rfl, hB.keep hk hr.lt 1 _ rfl 0 _ rfl⟩, ⟨hrow.cell 0, hrow.cell 1, hrow.cell 2⟩, ⟨hrow.frozen 0, hrow.frozen 1, hrow.frozen 2⟩, fun x y z => ?_, t, hrow⟩
      exact ⟨⟨_, _, rep_set3 e2 (by omega) (by omega) (by omega) _ _ _, rfl⟩, ((hk0.set _ (.inr (by omega))).set _ (.inr (by omega))).set _ (.inr (by omega))⟩))
  clear hr hE hT hX he hpg
  go_enter Try.func21, Try.ntmps21
  go_wp2_with fail
  refine wp_scope_jump 1 fun R hR hJm => ?_
  go_wp2_with fail
  refine (h1.out).mono ?_
  rintro e w1 ⟨rfl, hB⟩
  have H0 := Lib.hid (HS.out w1 hB)
  have H1 := Lib.hid (HC.out w1 hB)
  have hdr := Lib.hid (show Below w1.heap.size w1 w1.drew from (Below.refl _ _).drew)
  obtain ⟨x1, x2, x3⟩ := e
  simp only at H1
  clear hB h1 HS HC
  go_wp2_with fail
  go_region_held3 (fun W => W.cell? ⟨w.heap.size, 0, none⟩ = some (bx b) ∧ W.cell? ⟨w.heap.size + 1, 0, none⟩ = some (.int .i64 p))
    (first | exact H0.out | exact HST.out _ _ _ _ hS2 | exact hS2)
    (first | (go_at_call 54; refine (H1.out _ hdr.out).mono ?_; rintro e w2 ⟨rfl, hS2, ⟨f0, f1, f2⟩, ⟨z0, z1, z2⟩, hN, t, hrow⟩))
  go_wp2_with fail
  refine hR.out _ _ _ _ (by simp) ?_
  exact bodyPost_ret (res_cell2 Try.results21 rfl (set3_ld hrow x1 x2 x3)) rfl ⟨rfl, hN _ _ _⟩
end Go.Proofs.Ytmocdokikcbjeaa
