import Derived.Test.YtnbehncbjbkjpaaResv
namespace Go.Proofs.Ytnbehncbjbkjpaa
open Go.RowKit Go.Shelf Go.Maps Go.Sort
attribute [local go_sem] Oper.semAt_some

/- RESERVE, WHOLE. -/

abbrev bx (n : Nat) : Value := .pointer (some ⟨n, 0, none⟩)
/-- the boxes of Reserve, and its questions -/
def resvL (v : Value) (s : Nat) (a1 a2 a3 a4 : Bool) : List Ask :=
  [⟨19, #[v], #[], 1, a1⟩, ⟨20, #[], #[bx (s + 1), bx (s + 2)], 2, a2⟩, ⟨22, #[], #[bx (s + 2), bx s, bx (s + 1)], 172, a3⟩, ⟨24, #[], #[bx (s + 2), bx s, bx (s + 1)], 170, a4⟩]
def resvC (w : World) (v : Value) (o m : Int) : World := ((w.alloc (.cells #[v] 23)).alloc (.cells #[.int .i64 o] 3)).alloc (.cells #[.int .i64 m] 3)
def resvW (w : World) (v : Value) (o m : Int) : World := (resvC w v o m).alloc (.cells (askCells (resvL v w.heap.size true true true true)).toArray 53)
theorem resvW_cells (w : World) (v : Value) (o m : Int) : (resvW w v o m).cell? ⟨w.heap.size, 0, none⟩ = some v ∧ (resvW w v o m).cell? ⟨w.heap.size + 1, 0, none⟩ = some (.int .i64 o) ∧ (resvW w v o m).cell? ⟨w.heap.size + 2, 0, none⟩ = some (.int .i64 m) ∧
    Below w.heap.size w (resvW w v o m) ∧ (resvW w v o m).heap.size = w.heap.size + 4 ∧ Row (resvW w v o m) (w.heap.size + 3) 53 (askCells (resvL v w.heap.size true true true true)) := by
  have h0 : (resvC w v o m).heap.size = w.heap.size + 3 := by simp [resvC]
  refine ⟨?_, ?_, ?_, ?_, by simp [resvW, h0], ?_⟩
  · refine (World.cell?_alloc_lt _ _ _ (by rw [h0]; simp)).trans ?_
    exact (World.cell?_alloc_lt _ _ _ (by simp; omega)).trans ((World.cell?_alloc_lt _ _ _ (by simp)).trans (cell_alloc_new _ _ _ _))
  · refine (World.cell?_alloc_lt _ _ _ (by rw [h0]; simp)).trans ?_
    refine (World.cell?_alloc_lt _ _ _ (by simp)).trans ?_
    exact cell_new_at _ _ _ _ (by simp)
  · refine (World.cell?_alloc_lt _ _ _ (by rw [h0]; simp)).trans ?_
    exact cell_new_at _ _ _ _ (by simp)
  · exact (below3 _ _ _ _).alloc (by simp; omega) _
  · exact Row.new_at _ _ _ h0
theorem resv_row {w : World} {b : Nat} {v : Value} {s : Nat} {a1 a2 a3 a4 : Bool} (h : Row w b 53 (askCells (resvL v s true true true true))) : Row w b 53 (askCells (resvL v s a1 a2 a3 a4)) := h

theorem resv_non (v : Value) (o m : Int) (w : World) (h : Non w v) : Calls Try.prog 17 #[.slice (some ⟨w.heap.size + 3, 0, none⟩) 4 4] (resvW w v o m) fun e w' => e = .returned (.int .i64 1) ∧ Below w.heap.size w w' := by
  obtain ⟨h1, h2, h3, h4, h5, h6⟩ := resvW_cells w v o m
  have hN := h.below h4
  refine (asked_any (resvL v w.heap.size false true true true) (w.heap.size + 3) 4 4 _ rfl (by omega) h6 ?_).mono fun e w' ⟨e1, e2⟩ => ⟨e1, h4.trans (e2.mono (by omega))⟩
  intro k hk hall
  rcases k with _ | k
  · refine ⟨enters_of Try.func19 (by kernel_rfl) rfl, fun V hV => ?_⟩
    exact (there_non v V (hN.below hV)).mono fun e w' ⟨e1, e2⟩ => ⟨e1, e2 ▸ Below.refl _ _⟩
  · exact absurd (hall 0 (by simp [resvL]) (by omega)) (by simp [resvL])

theorem resv_asked {b bm : Nat} {p : Pl} {fv sv : Value} {fb : List (List UInt8)} {gf gs : Option Nat} {w : World} (h : Rep w b p bm fv sv fb gf gs) (o m : Int) (hm1 : m ≤ 9223372036854775807) :
    Calls Try.prog 17 #[.slice (some ⟨w.heap.size + 3, 0, none⟩) 4 4] (resvW w (bx b) o m) fun e w' => e = .returned (.int .i64 (reserveE p o m : Int)) ∧ Below (w.heap.size + 4) (resvW w (bx b) o m) w' := by
  obtain ⟨h1, h2, h3, h4, h5, h6⟩ := resvW_cells w (bx b) o m
  have hR := h.below h4
  obtain ⟨W, hW⟩ : ∃ W, W = resvW w (bx b) o m := ⟨_, rfl⟩
  rw [← hW] at h1 h2 h3 h4 h5 h6 hR ⊢
  obtain ⟨s, hs⟩ : ∃ s, s = w.heap.size := ⟨_, rfl⟩
  rw [← hs] at h1 h2 h3 h5 h6 ⊢
  obtain ⟨a2, ha2⟩ : ∃ a2, a2 = (ownerB o && decide (0 ≤ m)) := ⟨_, rfl⟩
  obtain ⟨a3, ha3⟩ : ∃ a3, a3 = decide ((taken p.fr o.toNat : Int) ≤ m) := ⟨_, rfl⟩
  obtain ⟨a4, ha4⟩ : ∃ a4, a4 = decide (m - (resN p o.toNat : Int) ≤ (p.room : Int)) := ⟨_, rfl⟩
  have hE : askE (resvL (bx b) s true a2 a3 a4) = (reserveE p o m : Int) := by
    unfold reserveE
    have e2 : (¬ (ownerB o = true ∧ 0 ≤ m)) ↔ a2 = false := by rw [ha2]; cases ownerB o <;> simp
    have e3 : (m < (taken p.fr o.toNat : Int)) ↔ a3 = false := by rw [ha3]; simp
    have e4 : (¬ (m - (resN p o.toNat : Int) ≤ (p.room : Int))) ↔ a4 = false := by rw [ha4]; simp
    simp only [e2, e3, e4]
    cases a2 <;> cases a3 <;> cases a4 <;> rfl
  rw [← hE, ← h5]
  refine (asked_any (resvL (bx b) s true a2 a3 a4) (s + 3) 4 4 W rfl (by omega) h6 ?_)
  intro k hk hall
  have k2 : ∀ V, Below W.heap.size W V → V.cell? ⟨s, 0, none⟩ = some (bx b) ∧ V.cell? ⟨s + 1, 0, none⟩ = some (.int .i64 o) ∧ V.cell? ⟨s + 2, 0, none⟩ = some (.int .i64 m) ∧ Rep V b p bm fv sv fb gf gs := fun V hV =>
    ⟨(hV.cell (p := ⟨s, 0, none⟩) (by show s < W.heap.size; omega)).trans h1, (hV.cell (p := ⟨s + 1, 0, none⟩) (by show s + 1 < W.heap.size; omega)).trans h2, (hV.cell (p := ⟨s + 2, 0, none⟩) (by show s + 2 < W.heap.size; omega)).trans h3, hR.below hV⟩
  rcases k with _ | _ | _ | _ | k
  · refine ⟨enters_of Try.func19 (by kernel_rfl) rfl, fun V hV => ?_⟩
    exact (there_map b bm V (k2 V hV).2.2.2.c1).mono fun e w' ⟨e1, e2⟩ => ⟨e1, e2 ▸ Below.refl _ _⟩
  · refine ⟨enters_of Try.func20 (by kernel_rfl) rfl, fun V hV => ?_⟩
    have := resv1_any (s + 1) (s + 2) o m V (k2 V hV).2.1 (k2 V hV).2.2.1
    rw [← ha2] at this
    exact this
  · have t2 : a2 = true := hall 1 (by simp [resvL]) (by omega)
    rw [ha2, Bool.and_eq_true, decide_eq_true_eq] at t2
    have tb := t2.1
    simp only [ownerB, Bool.and_eq_true, decide_eq_true_eq] at tb
    obtain ⟨n, rfl⟩ : ∃ n : Nat, o = n := ⟨o.toNat, by omega⟩
    refine ⟨enters_of Try.func22 (by kernel_rfl) rfl, fun V hV => ?_⟩
    have := resv2_any (k2 V hV).2.2.2 (s + 2) s (s + 1) m (k2 V hV).2.2.1 (k2 V hV).1 (k2 V hV).2.1
    rw [Int.toNat_natCast] at ha3
    rw [← ha3] at this
    exact this
  · have t2 : a2 = true := hall 1 (by simp [resvL]) (by omega)
    rw [ha2, Bool.and_eq_true, decide_eq_true_eq] at t2
    have tb := t2.1
    simp only [ownerB, Bool.and_eq_true, decide_eq_true_eq] at tb
    obtain ⟨n, rfl⟩ : ∃ n : Nat, o = n := ⟨o.toNat, by omega⟩
    refine ⟨enters_of Try.func24 (by kernel_rfl) rfl, fun V hV => ?_⟩
    have := resv3_any (k2 V hV).2.2.2 (s + 2) s (s + 1) m (by omega) t2.2 hm1 (k2 V hV).2.2.1 (k2 V hV).1 (k2 V hV).2.1
    rw [Int.toNat_natCast] at ha4
    rw [← ha4] at this
    exact this
  · simp [resvL] at hk
    omega

set_option maxHeartbeats 1000000 in
theorem reserve_non (v : Value) (o m : Int) (w : World) (h : Non w v) : Calls Try.prog 8 #[v, .int .i64 o, .int .i64 m] w fun e w' => e = .returned (.int .i64 1) ∧ Below w.heap.size w w' := by
  have h1 := Lib.hid (resv_non v o m w h)
  obtain ⟨pv, rfl⟩ : ∃ pv, v = .pointer pv := by
    rcases h with rfl | ⟨b, rfl, _⟩
    · exact ⟨_, rfl⟩
    · exact ⟨_, rfl⟩
  clear h
  go_enter Try.func8, Try.ntmps8
  go_wp2_with fail
  refine wp_scope_jump 1 fun R hR hJm => ?_
  go_wp2_with fail
  refine (h1.out).mono ?_
  rintro e w1 ⟨rfl, hb⟩
  go_wp2_with fail
  refine wp_goto (hJm.out _ _ _ _ _ rfl ?_)
  go_wp2_with fail
  refine hR.out _ _ _ _ (by simp) ?_
  go_ret
  exact ⟨rfl, hb⟩

/-- behind a call that changes a pool -/
def Next (w : World) (b : Nat) (p : Pl) (F : Nat → Prop) (w' : World) : Prop := ∃ F', Has w' b p F' ∧ Keep F w w' ∧ ∀ k, F' k → F k ∨ w.heap.size ≤ k
theorem Next.same {w w' : World} {b : Nat} {p : Pl} {F : Nat → Prop} (h : Has w b p F) (hb : Below w.heap.size w w') : Next w b p F w' := ⟨F, h.below hb, Keep.of_below hb, fun _ h => .inl h⟩

set_option maxHeartbeats 1000000 in
theorem reserve_no {b : Nat} {p : Pl} {F : Nat → Prop} {w : World} (h : Has w b p F) (o m : Int) (hm1 : m ≤ 9223372036854775807) (hE : reserveE p o m ≠ 0) :
    Calls Try.prog 8 #[bx b, .int .i64 o, .int .i64 m] w fun e w' => e = .returned (.int .i64 (reserveE p o m : Int)) ∧ Next w b (reserveP p o m) F w' := by
  have hN := Lib.hid (fun w' (hb : Below w.heap.size w w') => (show Next w b (reserveP p o m) F w' from by
    unfold reserveP
    rw [if_neg hE]
    exact Next.same h hb))
  obtain ⟨bm, fv, sv, fb, gf, gs, hr, rfl⟩ := h
  have hb0 := (resvW_cells w (bx b) o m).2.2.2.1
  have h1 := Lib.hid ((resv_asked hr o m hm1).mono fun e w' ⟨e1, e2⟩ => (show e = Ending.returned (Value.int .i64 (reserveE p o m : Int)) ∧ Below w.heap.size w w' from ⟨e1, hb0.trans (e2.mono (by omega))⟩))
  obtain ⟨E, hE2⟩ : ∃ E, E = reserveE p o m := ⟨_, rfl⟩
  rw [← hE2] at h1 hE ⊢
  have e0 : (((E : Int)) == 0) = false := by rw [beq_eq_false_iff_ne]; omega
  have e1 : ¬ ((E : Int) = 0) := by omega
  clear hE2 hr hb0 hE
  go_enter Try.func8, Try.ntmps8
  go_wp2_with fail
  refine wp_scope_jump 1 fun R hR hJm => ?_
  go_wp2_with fail
  refine (h1.out).mono ?_
  rintro e w1 ⟨rfl, hb⟩
  go_wp2_with fail
  refine wp_goto (hJm.out _ _ _ _ _ rfl ?_)
  go_wp2_with fail
  refine hR.out _ _ _ _ (by simp) ?_
  go_ret
  exact ⟨rfl, hN.out _ hb⟩

set_option maxHeartbeats 2000000 in
theorem reserve_yes {b : Nat} {p : Pl} {F : Nat → Prop} {w : World} (h : Has w b p F) (o m : Nat) (hm1 : m ≤ 9223372036854775807) (hE : reserveE p o m = 0) :
    Calls Try.prog 8 #[bx b, .int .i64 (o : Int), .int .i64 (m : Int)] w fun e w' => e = .returned (.int .i64 0) ∧ Next w b (reserveP p o m) F w' := by
  have hok := reserve_ok h.ok o m
  have hP : reserveP p o m = { p with left := p.left.set o (m - taken p.fr o) } := by unfold reserveP; rw [if_pos hE]; rfl
  rw [hP] at hok ⊢
  obtain ⟨bm, fv, sv, fb, gf, gs, hr, rfl⟩ := h
  have ho : o < 64 ∧ taken p.fr o ≤ m := by
    unfold reserveE at hE
    split at hE
    · cases hE
    split at hE
    · cases hE
    next h1 h2 =>
      have h1' := Classical.not_not.1 h1
      simp only [ownerB, Bool.and_eq_true, decide_eq_true_eq] at h1'
      exact ⟨by omega, by simpa using h2⟩
  obtain ⟨c1, c2, c3, hb0, hs0, _⟩ := resvW_cells w (bx b) (o : Int) (m : Int)
  have h1 := Lib.hid ((resv_asked hr (o : Int) (m : Int) (by omega)).mono fun e w' ⟨e1, e2⟩ => (show e = Ending.returned (Value.int .i64 (reserveE p o m : Int)) ∧ w'.cell? ⟨w.heap.size, 0, none⟩ = some (bx b) ∧ w'.cell? ⟨w.heap.size + 1, 0, none⟩ = some (Value.int .i64 (o : Int)) ∧ w'.cell? ⟨w.heap.size + 1 + 1, 0, none⟩ = some (Value.int .i64 (m : Int)) ∧ Below w.heap.size w w' ∧ w.heap.size + 3 < w'.heap.size from
    ⟨e1, (e2.cell (p := ⟨w.heap.size, 0, none⟩) (by show w.heap.size < _; omega)).trans c1, (e2.cell (p := ⟨w.heap.size + 1, 0, none⟩) (by show w.heap.size + 1 < _; omega)).trans c2, (e2.cell (p := ⟨w.heap.size + 1 + 1, 0, none⟩) (by show w.heap.size + 1 + 1 < _; omega)).trans c3, hb0.trans (e2.mono (by omega)), by have := e2.size; omega⟩))
  rw [hE] at h1
  obtain ⟨n, hn⟩ : ∃ n, n = taken p.fr o := ⟨_, rfl⟩
  have HH := Lib.hid (fun (w1 : World) (hb1 : Below w.heap.size w w1) => (show ∃ x, w1.cell? ⟨b, 2 + o, none⟩ = some (.int .i64 x) ∧ w1.frozen? ⟨b, 2 + o, none⟩ = false ∧
      (∀ V, Below w1.heap.size w1 V → Calls Try.prog 23 #[.pointer (some ⟨b, 0, none⟩), .int .i64 (o : Int)] V fun e V' => e = .returned (.int .i64 (n : Int)) ∧ Below w1.heap.size w1 V' ∧ V'.cell? ⟨b, 2 + o, none⟩ = some (.int .i64 x) ∧ V'.frozen? ⟨b, 2 + o, none⟩ = false) ∧
      (∀ V, Below w1.heap.size w1 V → Next w b { p with left := p.left.set o (m - n) } (blocks b bm gf gs) (V.setCell ⟨b, 2 + o, none⟩ (.int .i64 ((m - n : Nat) : Int)))) from by
    have hr1 := hr.below hb1
    refine ⟨_, hr1.cl ho.1, hr1.obj.frozen _, fun V hV => ?_, fun V hV => ?_⟩
    · rw [hn]
      exact (has_any (o := o) (hr1.below hV)).mono fun e V' ⟨e1, e2⟩ => by
        have hV' := hV.trans (e2.mono hV.size)
        exact ⟨e1, hV', (hr1.below hV').cl ho.1, (hr1.below hV').obj.frozen _⟩
    · have hB := hb1.trans (hV.mono hb1.size)
      rw [hn]
      refine ⟨_, ⟨_, _, _, _, _, _, (hr1.below hV).set_left o (m - taken p.fr o) ho.1 hok, rfl⟩, (Keep.of_below hB).set _ (.inl (.inl rfl)), fun _ h => .inl h⟩))
  have hbl := hr.obj.lt
  have hw : IntKind.i64.wrap ((m : Int) - (n : Int)) = ((m - n : Nat) : Int) := by
    rw [wrapI _ (by omega) (by omega)]
    have := ho.2
    omega
  have h64 := ho.1
  obtain ⟨r, hr0⟩ : ∃ r, r = m - n := ⟨_, rfl⟩
  rw [← hr0] at HH hw
  rw [hn] at hr0
  rw [← hr0]
  clear hr0 hP hok hr ho hn hE c1 c2 c3 hb0 hs0
  go_enter Try.func8, Try.ntmps8
  go_wp2_with fail
  refine wp_scope_jump 1 fun R hR hJm => ?_
  go_wp2_with fail
  refine (h1.out).mono ?_
  rintro e w1 ⟨rfl, d1, d2, d3, hb, hs⟩
  obtain ⟨x, hx1, hx2, hx3, hx4⟩ := HH.out w1 hb
  have h3 := Lib.hid hx3
  have hN := Lib.hid hx4
  have HSA := Lib.hid (fun W (hB : Keep (· = b) w1 W) => (show W.cell? ⟨w.heap.size, 0, none⟩ = some (bx b) ∧ W.cell? ⟨w.heap.size + 1, 0, none⟩ = some (.int .i64 (o : Int)) ∧ W.cell? ⟨w.heap.size + 1 + 1, 0, none⟩ = some (.int .i64 (m : Int)) ∧ Keep (· = b) w1 W from
    ⟨(hB.cell (p := ⟨w.heap.size, 0, none⟩) (by show w.heap.size < _; omega) (by show w.heap.size ≠ b; omega)).trans d1, (hB.cell (p := ⟨w.heap.size + 1, 0, none⟩) (by show w.heap.size + 1 < _; omega) (by show w.heap.size + 1 ≠ b; omega)).trans d2, (hB.cell (p := ⟨w.heap.size + 1 + 1, 0, none⟩) (by show w.heap.size + 1 + 1 < _; omega) (by show w.heap.size + 1 + 1 ≠ b; omega)).trans d3, hB⟩))
  have hdr := Lib.hid (show Below w1.heap.size w1 w1.drew from (Below.refl _ _).drew)
  have hST := Lib.hid (fun (W : World) (v : Value) (hB : Below w1.heap.size w1 W) => (show Keep (· = b) w1 (W.setCell ⟨b, 2 + o, none⟩ v) from (Keep.of_below hB).set _ (.inl rfl)))
  have i0 : (0 : Int) ≤ (o : Int) := by omega
  have i1 : (o : Int) < 64 := by omega
  clear h1 hx3 hx4 HH hb
  go_wp2_with fail
  go_region_held3 (fun W => W.cell? ⟨w.heap.size, 0, none⟩ = some (bx b) ∧ W.cell? ⟨w.heap.size + 1, 0, none⟩ = some (.int .i64 (o : Int)) ∧ W.cell? ⟨w.heap.size + 1 + 1, 0, none⟩ = some (.int .i64 (m : Int)) ∧ Keep (· = b) w1 W)
    (first | exact HSA.out _ (Keep.of_below hdr.out) | exact HSA.out _ (Keep.of_below (by assumption)) | exact HSA.out _ (hST.out _ _ (by assumption)))
    (first | (go_at_call 23; refine (h3.out _ (by first | exact hdr.out | assumption)).mono ?_; rintro e w2 ⟨rfl, hb2, c2, f2⟩))
  all_goals
    go_wp2_with fail
    refine hR.out _ _ _ _ (by simp) ?_
    go_ret
    exact ⟨rfl, hN.out _ (by assumption)⟩
end Go.Proofs.Ytnbehncbjbkjpaa
