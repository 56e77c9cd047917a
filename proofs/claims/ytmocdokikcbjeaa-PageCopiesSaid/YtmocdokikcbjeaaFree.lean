import Derived.Test.YtmocdokikcbjeaaFirst
namespace Go.Proofs.Ytmocdokikcbjeaa
open Go.RowKit Go.Shelf Go.Maps
attribute [local go_sem] Oper.semAt_some

/- FREE, NEXT. -/
def LastP (l : Tb) (a m : Int) (w : World) (e : Ending) (w' : World) : Prop := ∃ k q, e = .returned (.tuple #[.int .i64 k, .bool q]) ∧ LastA l a m k q ∧ Below w.heap.size w w'
theorem whole_in {a m : Int} (h : wholeB a m = true) : 0 ≤ a ∧ a + m ≤ 65536 := by
  unfold wholeB at h
  rw [Bool.and_eq_true, pageB_iff] at h
  have h2 : m ≤ 65536 - a := by simpa using h.2
  omega
theorem last_any {b bp bf : Nat} {l : Tb} {w : World} (h : Rep w b l bp bf) (a m : Int) (h1 : 1 ≤ m) (hw : wholeB a m = true) : Calls Try.prog 51 #[bx b, .int .i64 a, .int .i64 m] w (LastP l a m w) := by
  obtain ⟨h0, h2⟩ := whole_in hw
  have H1 := Lib.hid (falling_any a m w)
  have hb := below2 w (.cells #[.int .i64 a] 3) (.cells #[.int .i64 m] 3)
  have H2 := Lib.hid ((first_any (h.below hb) a m w.heap.size (w.heap.size + 1) h0 h1 h2 ((World.cell?_alloc_lt _ _ _ (by simp)).trans (cell_alloc_new _ _ _ _)) (cell_new_at _ _ _ _ (by simp))).mono fun e w' ⟨k, q, e1, e2, e3⟩ => (show LastP l a m w e w' from ⟨k, q, e1, e2, below0 hb e3⟩))
  clear h h0 h2 hb h1 hw
  go_enter Try.func51, Try.ntmps51
  go_wp2_with fail
  refine H1.out.mono ?_
  rintro e w1 ⟨rfl, rfl⟩
  go_wp2_with fail
  refine H2.out.mono ?_
  rintro e w1 ⟨k, q, rfl, hk⟩
  go_wp2_with fail
  go_ret2
  exact ⟨k, q, rfl, hk⟩
def freL (v : Value) (s : Nat) (a1 a2 a3 : Bool) : List Ask :=
  [⟨32, #[v], #[], 1, a1⟩, ⟨60, #[], #[bx (s + 1)], 2, a2⟩, ⟨61, #[], #[bx s, bx (s + 1)], 4, a3⟩]
def freB (a m : Int) : List (List Value × TypeId) := [([.int .i64 a], 3), ([.int .i64 m], 3)]
theorem fre_non (v : Value) (a m : Int) (w : World) (h : Non w v) : Calls Try.prog 40 #[.slice (some ⟨w.heap.size + 2, 0, none⟩) 3 3] (askW w (freB a m) (freL v w.heap.size true true true)) fun e w' => e = .returned (.int .i64 1) ∧ Below w.heap.size w w' := by
  refine (asked_box (freB a m) (freL v w.heap.size false true true) 3 3 _ rfl rfl (by omega) fun k hk hall => ?_).mono fun e w' ⟨e1, e2, _⟩ => ⟨e1, e2.below⟩
  rcases k with _ | k
  · refine ⟨enters_of Try.func32 (by kernel_rfl) rfl, fun V hV => ?_⟩
    exact (there_non v V (h.below hV.below)).mono fun e w' ⟨e1, e2⟩ => ⟨e1, e2 ▸ Below.refl _ _⟩
  · exact absurd (hall 0 (by simp [freL]) (by omega)) (by simp [freL])
theorem fre_asked {b bp bf : Nat} {l : Tb} {w : World} (h : Rep w b l bp bf) (a m : Int) :
    Calls Try.prog 40 #[.slice (some ⟨w.heap.size + 2, 0, none⟩) 3 3] (askW w (freB a m) (freL (bx b) w.heap.size true true true)) fun e w' => e = .returned (.int .i64 (freeE a m : Int)) ∧ Boxes w [[.int .i64 a], [.int .i64 m]] w' := by
  obtain ⟨a2, ha2⟩ : ∃ a2, a2 = decide (1 ≤ m) := ⟨_, rfl⟩
  obtain ⟨a3, ha3⟩ : ∃ a3, a3 = wholeB a m := ⟨_, rfl⟩
  have hE : askE (freL (bx b) w.heap.size true a2 a3) = (freeE a m : Int) := by
    unfold freeE
    have e2 : (¬ (1 ≤ m)) ↔ a2 = false := by rw [ha2]; simp
    rw [← ha3]
    simp only [e2]
    cases a2 <;> cases a3 <;> rfl
  refine (asked_box (freB a m) (freL (bx b) w.heap.size true a2 a3) 3 3 _ rfl rfl (by omega) fun k hk hall => ?_).mono fun e w' ⟨e1, e2, _⟩ => ⟨by rw [e1, hE], e2⟩
  rcases k with _ | _ | _ | k
  · refine ⟨enters_of Try.func32 (by kernel_rfl) rfl, fun V hV => ?_⟩
    exact (there_map b bp V (hV.rep h).c0).mono fun e w' ⟨e1, e2⟩ => ⟨e1, e2 ▸ Below.refl _ _⟩
  · refine ⟨enters_of Try.func60 (by kernel_rfl) rfl, fun V hV => ?_⟩
    have := free1_any (w.heap.size + 1) m V (hV.cell 1 _ rfl 0 _ rfl)
    rw [← ha2] at this
    exact this
  · refine ⟨enters_of Try.func61 (by kernel_rfl) rfl, fun V hV => ?_⟩
    have := free2_any w.heap.size (w.heap.size + 1) a m V (hV.cell 0 _ rfl 0 _ rfl) (hV.cell 1 _ rfl 0 _ rfl)
    rw [← ha3] at this
    exact this
  · simp [freL] at hk
    omega
set_option maxHeartbeats 1000000 in
theorem free_nil (v : Value) (a m : Int) (w : World) (h : Non w v) : Calls Try.prog 26 #[v, .int .i64 a, .int .i64 m] w fun e w' => e = .returned (.tuple #[.bool false, .int .i64 1]) ∧ Below w.heap.size w w' := by
  have h1 := Lib.hid (fre_non v a m w h)
  obtain ⟨pv, rfl⟩ : ∃ pv, v = .pointer pv := by
    rcases h with rfl | ⟨b, rfl, _⟩
    · exact ⟨_, rfl⟩
    · exact ⟨_, rfl⟩
  clear h
  go_enter Try.func26, Try.ntmps26
  go_wp2_with fail
  refine wp_scope_jump 1 fun R hR hJm => ?_
  go_wp2_with fail
  refine (h1.out).mono ?_
  rintro e w1 ⟨rfl, hb⟩
  go_wp2_with fail
  refine wp_goto (hJm.out _ _ _ _ _ rfl ?_)
  go_wp2_with fail
  refine hR.out _ _ _ _ (by simp) ?_
  go_ret2
  exact ⟨rfl, hb⟩
set_option maxHeartbeats 2000000 in
theorem free_any {b bp bf : Nat} {l : Tb} {w : World} (h : Rep w b l bp bf) (a m : Int) :
    Calls Try.prog 26 #[bx b, .int .i64 a, .int .i64 m] w fun e w' => e = .returned (.tuple #[.bool (freeQ l a m), .int .i64 (freeE a m : Int)]) ∧ Below w.heap.size w w' := by
  by_cases hE : freeE a m = 0
  · have hq : freeQ l a m = freeB l a m := by unfold freeQ; rw [decide_eq_true hE]; rfl
    rw [hq]
    have hm1 : 1 ≤ m ∧ wholeB a m = true := by
      unfold freeE at hE
      split at hE
      · cases hE
      split at hE
      · cases hE
      next g1 g2 => exact ⟨by omega, by simpa using g2⟩
    have h1 := Lib.hid (fre_asked h a m)
    rw [hE] at h1 ⊢
    have HC := Lib.hid (fun w1 (hB : Boxes w [[.int .i64 a], [.int .i64 m]] w1) V (hb : Below w1.heap.size w1 V) => (show Calls Try.prog 51 #[bx b, .int .i64 a, .int .i64 m] V (fun e w' => ∃ k q, e = .returned (.tuple #[.int .i64 k, .bool q]) ∧ freeB l a m = !q ∧ Below w.heap.size w w' ∧ (w'.cell? ⟨w.heap.size, 0, none⟩ = some (.int .i64 a) ∧ w'.cell? ⟨w.heap.size + 1, 0, none⟩ = some (.int .i64 m))) from
      (last_any (h.below (below0 hB.below hb)) a m hm1.1 hm1.2).mono fun e w' ⟨k, q, e1, e2, e3⟩ => by
        refine ⟨k, q, e1, ?_, below0 (below0 hB.below hb) e3, ((hB.more hb).more e3).cell 0 _ rfl 0 _ rfl, ((hB.more hb).more e3).cell 1 _ rfl 0 _ rfl⟩
        cases q
        · exact e2.free
        · exact e2.busy))
    clear hq hm1 h hE
    go_enter Try.func26, Try.ntmps26
    go_wp2_with fail
    refine wp_scope_jump 1 fun R hR hJm => ?_
    go_wp2_with fail
    refine (h1.out).mono ?_
    rintro e w1 ⟨rfl, hB⟩
    have H0 := Lib.hid (show w1.cell? ⟨w.heap.size, 0, none⟩ = some (.int .i64 a) ∧ w1.cell? ⟨w.heap.size + 1, 0, none⟩ = some (.int .i64 m) from ⟨hB.cell 0 _ rfl 0 _ rfl, hB.cell 1 _ rfl 0 _ rfl⟩)
    have H1 := Lib.hid (HC.out w1 hB)
    have hdr := Lib.hid (show Below w1.heap.size w1 w1.drew from (Below.refl _ _).drew)
    clear hB h1 HC
    go_wp2_with fail
    go_region_held3 (fun W => W.cell? ⟨w.heap.size, 0, none⟩ = some (.int .i64 a) ∧ W.cell? ⟨w.heap.size + 1, 0, none⟩ = some (.int .i64 m))
      (first | exact H0.out | exact hS2)
      (first | (go_at_call 51; refine (H1.out _ hdr.out).mono ?_; rintro e w2 ⟨k, q, rfl, hq, hb2, hS2⟩))
    go_wp2_with fail
    refine hR.out _ _ _ _ (by simp) ?_
    go_ret2
    exact ⟨by rw [hq]; rfl, hb2⟩
  · have hq : freeQ l a m = false := by unfold freeQ; rw [decide_eq_false hE]; rfl
    rw [hq]
    have h1 := Lib.hid ((fre_asked h a m).mono fun e w' ⟨e1, e2⟩ => (show e = Ending.returned (Value.int .i64 (freeE a m : Int)) ∧ Below w.heap.size w w' from ⟨e1, e2.below⟩))
    obtain ⟨E, hE2⟩ : ∃ E, E = freeE a m := ⟨_, rfl⟩
    rw [← hE2] at h1 hE ⊢
    have e0 : (((E : Int)) == 0) = false := by rw [beq_eq_false_iff_ne]; omega
    have e1 : ¬ ((E : Int) = 0) := by omega
    clear hE2 h hE hq
    go_enter Try.func26, Try.ntmps26
    go_wp2_with fail
    refine wp_scope_jump 1 fun R hR hJm => ?_
    go_wp2_with fail
    refine (h1.out).mono ?_
    rintro e w1 ⟨rfl, hb⟩
    go_wp2_with fail
    refine wp_goto (hJm.out _ _ _ _ _ rfl ?_)
    go_wp2_with fail
    refine hR.out _ _ _ _ (by simp) ?_
    go_ret2
    exact ⟨rfl, hb⟩
end Go.Proofs.Ytmocdokikcbjeaa
