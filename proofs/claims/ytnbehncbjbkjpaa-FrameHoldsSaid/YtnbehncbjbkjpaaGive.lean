import Derived.Test.YtnbehncbjbkjpaaLeave
namespace Go.Proofs.Ytnbehncbjbkjpaa
open Go.RowKit Go.Shelf Go.Maps Go.Sort
attribute [local go_sem] Oper.semAt_some

/- GIVE. -/

def giveL (v : Value) (s : Nat) (a1 a2 a3 : Bool) : List Ask :=
  [⟨19, #[v], #[], 1, a1⟩, ⟨31, #[], #[bx s, bx (s + 1)], 4, a2⟩, ⟨33, #[], #[bx s, bx (s + 1)], 5, a3⟩]
theorem give_non (v : Value) (o : Int) (w : World) (h : Non w v) : Calls Try.prog 17 #[.slice (some ⟨w.heap.size + 2, 0, none⟩) 3 3] (askW w (takeB v o) (giveL v w.heap.size true true true)) fun e w' => e = .returned (.int .i64 1) ∧ Below w.heap.size w w' := by
  refine (asked_box (takeB v o) (giveL v w.heap.size false true true) 3 3 _ rfl rfl (by omega) fun k hk hall => ?_).mono fun e w' ⟨e1, e2, _⟩ => ⟨e1, e2.below⟩
  rcases k with _ | k
  · refine ⟨enters_of Try.func19 (by kernel_rfl) rfl, fun V hV => ?_⟩
    exact (there_non v V (h.below hV.below)).mono fun e w' ⟨e1, e2⟩ => ⟨e1, e2 ▸ Below.refl _ _⟩
  · exact absurd (hall 0 (by simp [giveL]) (by omega)) (by simp [giveL])
theorem give_asked {b bm : Nat} {p : Pl} {fv sv : Value} {fb : List (List UInt8)} {gf gs : Option Nat} {w : World} (h : Rep w b p bm fv sv fb gf gs) (i : Int) (hi1 : i ≤ 9223372036854775807) :
    Calls Try.prog 17 #[.slice (some ⟨w.heap.size + 2, 0, none⟩) 3 3] (askW w (takeB (bx b) i) (giveL (bx b) w.heap.size true true true)) fun e w' => e = .returned (.int .i64 (giveE p i : Int)) ∧ Boxes w [bx b, .int .i64 i] w' := by
  obtain ⟨a2, ha2⟩ : ∃ a2, a2 = (decide (0 ≤ i) && decide (i < p.fr.length)) := ⟨_, rfl⟩
  obtain ⟨a3, ha3⟩ : ∃ a3, a3 = (frameO p i.toNat).isSome := ⟨_, rfl⟩
  have hE : askE (giveL (bx b) w.heap.size true a2 a3) = (giveE p i : Int) := by
    unfold giveE frameB
    have e2 : (¬ (decide (0 ≤ i) && decide (i < p.fr.length)) = true) ↔ a2 = false := by rw [ha2]; cases (decide (0 ≤ i) && decide (i < p.fr.length)) <;> simp
    have e3 : (frameO p i.toNat = none) ↔ a3 = false := by rw [ha3]; cases frameO p i.toNat <;> simp
    simp only [e2, e3]
    cases a2 <;> cases a3 <;> rfl
  refine (asked_box (takeB (bx b) i) (giveL (bx b) w.heap.size true a2 a3) 3 3 _ rfl rfl (by omega) fun k hk hall => ?_).mono fun e w' ⟨e1, e2, _⟩ => ⟨by rw [e1, hE], e2⟩
  rcases k with _ | _ | _ | k
  · refine ⟨enters_of Try.func19 (by kernel_rfl) rfl, fun V hV => ?_⟩
    exact (there_map b bm V (hV.rep h).c1).mono fun e w' ⟨e1, e2⟩ => ⟨e1, e2 ▸ Below.refl _ _⟩
  · refine ⟨enters_of Try.func31 (by kernel_rfl) rfl, fun V hV => ?_⟩
    have := give1_any w.heap.size (w.heap.size + 1) b p.fr.length i V (hV.cell 0 _ rfl) (hV.cell 1 _ rfl) (hV.rep h).c0
    rw [← ha2] at this
    exact this
  · have t2 : a2 = true := hall 1 (by simp [giveL]) (by omega)
    rw [ha2, Bool.and_eq_true, decide_eq_true_eq] at t2
    obtain ⟨n, rfl⟩ : ∃ n : Nat, i = n := ⟨i.toNat, by omega⟩
    refine ⟨enters_of Try.func33 (by kernel_rfl) rfl, fun V hV => ?_⟩
    have := give2_any (hV.rep h) w.heap.size (w.heap.size + 1) n (by omega) (hV.cell 0 _ rfl) (hV.cell 1 _ rfl)
    rw [Int.toNat_natCast] at ha3
    rw [← ha3] at this
    exact this
  · simp [giveL] at hk
    omega
set_option maxHeartbeats 1000000 in
theorem give_nil (v : Value) (o : Int) (w : World) (h : Non w v) : Calls Try.prog 12 #[v, .int .i64 o] w fun e w' => e = .returned (.int .i64 1) ∧ Below w.heap.size w w' := by
  have h1 := Lib.hid (give_non v o w h)
  obtain ⟨pv, rfl⟩ : ∃ pv, v = .pointer pv := by
    rcases h with rfl | ⟨b, rfl, _⟩
    · exact ⟨_, rfl⟩
    · exact ⟨_, rfl⟩
  clear h
  go_enter Try.func12, Try.ntmps12
  go_wp2_with fail
  refine wp_scope_jump 1 fun R hR hJm => ?_
  go_wp2_with fail
  refine (h1.out).mono ?_
  rintro e w1 ⟨rfl, hb⟩
  go_wp2_with fail
  refine wp_goto (hJm.out _ _ _ _ _ rfl ?_)
  go_wp2_with fail
  refine hR.out _ _ _ _ (by simp) ?_
  go_ret
  exact ⟨rfl, hb⟩
theorem giveE_P {p : Pl} {i : Int} (hE : giveE p i ≠ 0) : giveP p i = p := by
  unfold giveP
  split
  next o bs hx =>
    refine absurd ?_ hE
    obtain ⟨h1, h2, h3, h4⟩ := give_some hx
    unfold giveE frameB
    rw [if_neg (by rw [decide_eq_true h1, decide_eq_true (by omega)]; simp), h4]
    rfl
  · rfl
theorem giveE_some {p : Pl} {i : Int} (hE : giveE p i = 0) : 0 ≤ i ∧ ∃ o bs, p.fr[i.toNat]? = some (some (o, bs)) ∧ giveP p i = { fr := p.fr.set i.toNat none, left := p.left.set o (leftN p o + 1) } := by
  unfold giveE at hE
  split at hE
  · cases hE
  split at hE
  · cases hE
  next h1 h2 =>
    have h1' := Classical.not_not.1 h1
    have hf := h1'
    simp only [frameB, Bool.and_eq_true, decide_eq_true_eq] at h1'
    cases hx : frameO p i.toNat with
    | none => exact absurd hx h2
    | some y =>
      have hg : (if frameB p i then frameO p i.toNat else none) = some (y.1, y.2) := by rw [if_pos hf, hx]
      obtain ⟨g1, g2, g3, g4⟩ := give_some hg
      refine ⟨h1'.1, y.1, y.2, g3, ?_⟩
      unfold giveP
      rw [hg]
set_option maxHeartbeats 1000000 in
theorem give_no {b : Nat} {p : Pl} {F : Nat → Prop} {w : World} (h : Has w b p F) (i : Int) (hi1 : i ≤ 9223372036854775807) (hE : giveE p i ≠ 0) :
    Calls Try.prog 12 #[bx b, .int .i64 i] w fun e w' => e = .returned (.int .i64 (giveE p i : Int)) ∧ Next w b (giveP p i) F w' := by
  rw [giveE_P hE]
  have hN := Lib.hid (fun w' (hb : Below w.heap.size w w') => (show Next w b p F w' from Next.same h hb))
  obtain ⟨bm, fv, sv, fb, gf, gs, hr, rfl⟩ := h
  have h1 := Lib.hid ((give_asked hr i hi1).mono fun e w' ⟨e1, e2⟩ => (show e = Ending.returned (Value.int .i64 (giveE p i : Int)) ∧ Below w.heap.size w w' from ⟨e1, e2.below⟩))
  obtain ⟨E, hE2⟩ : ∃ E, E = giveE p i := ⟨_, rfl⟩
  rw [← hE2] at h1 hE ⊢
  have e0 : (((E : Int)) == 0) = false := by rw [beq_eq_false_iff_ne]; omega
  have e1 : ¬ ((E : Int) = 0) := by omega
  clear hE2 hr hE hi1
  go_enter Try.func12, Try.ntmps12
  go_wp2_with fail
  refine wp_scope_jump 1 fun R hR hJm => ?_
  go_wp2_with fail
  refine (h1.out).mono ?_
  rintro e w1 ⟨rfl, hb⟩
  go_wp2_with fail
  refine wp_goto (hJm.out _ _ _ _ _ rfl ?_)
  go_wp2_with fail
  refine hR.out _ _ _ _ (by simp) ?_
  go_ret
  exact ⟨rfl, hN.out _ hb⟩

/-- what lies there behind the three calls of a frame's coming back -/
theorem give_steps {b bm : Nat} {p : Pl} {fv sv : Value} {fb : List (List UInt8)} {gf gs : Option Nat} {w w1 : World} (hr : Rep w b p bm fv sv fb gf gs) (i o : Nat) (bs : List UInt8) (hx : p.fr[i]? = some (some (o, bs)))
    (hP : giveP p (i : Int) = { fr := p.fr.set i none, left := p.left.set o (leftN p o + 1) }) (hB : Boxes w [bx b, .int .i64 (i : Int)] w1) :
    Calls Try.prog 35 #[bx b, .int .i64 (i : Int)] w1.drew fun e w2 => (∃ v, e = .returned v) ∧ (w2.cell? ⟨w.heap.size, 0, none⟩ = some (bx b) ∧ w2.cell? ⟨w.heap.size + 1, 0, none⟩ = some (.int .i64 (i : Int)) ∧ w2.cell? ⟨b, 67, none⟩ = some sv) ∧
      Calls Try.prog 36 #[sv, .int .i64 (i : Int), .func (.func 37) #[] #[]] w2.drew fun e w3 => ∃ at_ : Nat, (∃ q, e = .returned (.tuple #[.int .i64 (at_ : Int), .bool q])) ∧
        (w3.cell? ⟨w.heap.size, 0, none⟩ = some (bx b) ∧ w3.cell? ⟨w.heap.size + 1, 0, none⟩ = some (.int .i64 (i : Int)) ∧ w3.cell? ⟨b, 67, none⟩ = some sv ∧ w.heap.size + 1 < w3.heap.size ∧ b < w.heap.size) ∧
        Calls Try.prog 38 #[sv, .int .i64 (at_ : Int), .slice (some ⟨w3.heap.size, 0, none⟩) 1 1] ((w3.alloc (.cells #[.int .i64 (i : Int)] 3)).drew) fun e w4 => ∃ A' n' c', e = .returned (.slice A' n' c') ∧
          (w4.cell? ⟨w.heap.size, 0, none⟩ = some (bx b) ∧ w4.cell? ⟨w.heap.size + 1, 0, none⟩ = some (.int .i64 (i : Int)) ∧ w4.cell? ⟨b, 67, none⟩ = some sv ∧ w4.frozen? ⟨b, 67, none⟩ = false) ∧ Next w b (giveP p (i : Int)) (blocks b bm gf gs) (w4.setCell ⟨b, 67, none⟩ (.slice A' n' c')) := by
  have hs := hr.same i o bs hx
  have hifb := (List.getElem?_eq_some_iff.1 hs).1
  have hil := (List.getElem?_eq_some_iff.1 hx).1
  have hok := give_ok hr.ok (i : Int)
  have hfree : isFree p.fr i = false := (not_free hil).2 ⟨_, hx⟩
  have hmost := hr.ok.most
  have hfbl := hr.fbl
  have hsplen : (spareOf p.fr fb.length).length ≤ fb.length := by unfold spareOf; rw [List.length_reverse]; exact Nat.le_trans (List.length_filter_le _ _) (by simp)
  have hblt := hr.lt
  have hbw := hr.obj.lt
  have hr1 := (hB.rep hr)
  have hs1 : w.heap.size + 1 < w1.heap.size := by have := hB.size; simp only [List.length_cons, List.length_nil] at this; omega
  have hM1 : Mid w1.drew b p bm fv sv fb (spareOf p.fr fb.length) gf gs := ⟨hr1.obj, hr1.map, hr1.frm, hr1.spr⟩
  have box : ∀ (W : World) (F : Nat → Prop), Keep F w1 W → (∀ k, F k → k < w.heap.size ∨ w1.heap.size ≤ k) → W.cell? ⟨w.heap.size, 0, none⟩ = some (bx b) ∧ W.cell? ⟨w.heap.size + 1, 0, none⟩ = some (.int .i64 (i : Int)) := fun W F hK hF =>
    ⟨(hK.cell (p := ⟨w.heap.size, 0, none⟩) (by show w.heap.size < _; omega) (fun hf => by have := hF _ hf; simp only at this; omega)).trans (hB.cell 0 _ rfl), (hK.cell (p := ⟨w.heap.size + 1, 0, none⟩) (by show w.heap.size + 1 < _; omega) (fun hf => by have := hF _ hf; simp only at this; omega)).trans (hB.cell 1 _ rfl)⟩
  have hFl : ∀ k, blocks b bm gf gs k → k < w.heap.size ∨ w1.heap.size ≤ k := fun k hk => .inl (hblt k hk)
  refine (leave_any hM1 hr.ok i o bs hx).mono ?_
  rintro e w2 ⟨hv, hM2, hK2⟩
  have hK12 : Keep (blocks b bm gf gs) w1 w2 := ((Keep.refl w1).drewN 1).trans hK2 (fun k _ h => h)
  have b2 := box w2 _ hK12 hFl
  have c672 : w2.cell? ⟨b, 67, none⟩ = some sv := by
    rw [hM2.obj.cell, poolL, List.getElem?_cons_succ, List.getElem?_cons_succ, List.getElem?_append_right (by rw [List.length_map, List.length_set, hr.ok.l64]; decide), List.length_map, List.length_set, hr.ok.l64]
    rfl
  refine ⟨hv, ⟨b2.1, b2.2, c672⟩, ?_⟩
  have hspr2 : Own w2.drew 3 1 sv (spareOf p.fr fb.length).length ((spareOf p.fr fb.length).map iv) gs := hM2.spr
  refine (search_any (spareOf p.fr fb.length) i _ sv gs w2.drew hspr2 (fun x hx => ?_) (by omega) (by omega) ?_).mono ?_
  · rw [spare_eq, List.mem_reverse] at hx
    have := (freeL_mem.1 hx).1
    omega
  · rw [spare_eq, List.pairwise_reverse]
    exact freeL_sorted _ _
  rintro e w3 ⟨hq, hb3⟩
  have hb23 : Below w2.heap.size w2 w3 := ⟨hb3.os, hb3.tape, hb3.output, hb3.size, hb3.block⟩
  have hM3 : Mid w3 b { fr := p.fr.set i none, left := p.left.set o (leftN p o + 1) } bm fv sv fb (spareOf p.fr fb.length) gf gs := ⟨hM2.obj.below hb23, owns_same hM2.map (hb23.block _ hM2.map.lt), hM2.frm.keep fun g e => hb23.block _ (hM2.frm.lt g e), hM2.spr.keep fun g e => hb23.block _ (hM2.spr.lt g e)⟩
  have hK13 : Keep (blocks b bm gf gs) w1 w3 := hK12.trans (Keep.of_below (F := fun _ => False) hb23) (fun k _ h => h.elim)
  have b3 := box w3 _ hK13 hFl
  have c673 : w3.cell? ⟨b, 67, none⟩ = some sv := (hb23.cell (p := ⟨b, 67, none⟩) hM2.obj.lt).trans c672
  refine ⟨_, hq, ⟨b3.1, b3.2, c673, by have := hK13.size; omega, hbw⟩, ?_⟩
  have hspr3 : Own ((w3.alloc (.cells #[.int .i64 (i : Int)] 3)).drew) 3 1 sv (spareOf p.fr fb.length).length ((spareOf p.fr fb.length).map iv) gs :=
    (hM3.spr.keep (w' := w3.alloc (.cells #[.int .i64 (i : Int)] 3)) fun g e => Below.heap_alloc _ _ _ (hM3.spr.lt g e))
  refine (insert_own (spareOf p.fr fb.length) i _ _ w3.heap.size sv gs _ hspr3 (by exact List.countP_le_length) (by omega) (show Row ((w3.alloc (.cells #[.int .i64 (i : Int)] 3)).drew) w3.heap.size 3 [iv i] from Row.new w3 3 [iv i]) (fun e => by have := hM3.spr.lt _ e; omega)).mono ?_
  rintro e w4 ⟨v', g', rfl, ho4, hgg, hK4⟩
  rw [← spare_give hifb hfbl hfree] at ho4
  have hsz4 : ((w3.alloc (.cells #[.int .i64 (i : Int)] 3)).drew).heap.size = w3.heap.size + 1 := by simp
  rw [hsz4] at hgg
  have hK34 : Keep (fun k => gs = some k) w3 w4 := (((Keep.refl w3).alloc _).drewN 1).trans hK4 (fun k _ h => h)
  obtain ⟨n1, n2, n3, n4, n5, n6⟩ := hM3.ne
  have hK14 : Keep (blocks b bm gf gs) w1 w4 := hK13.trans hK34 (fun k _ h => .inr (.inr (.inr h)))
  have b4 := box w4 _ hK14 hFl
  have hb4 : w4.heap[b]? = w3.heap[b]? := hK34.block b hM3.obj.lt (fun e => n4 e)
  have hobj4 := hM3.obj.same hb4
  have hlen : (spareOf (p.fr.set i none) fb.length).length = (spareOf p.fr fb.length).length + 1 := by
    rw [spare_give hifb hfbl hfree]
    simp
    have := List.countP_le_length (p := fun x => decide (i < x)) (l := spareOf p.fr fb.length)
    omega
  obtain ⟨A', c', rfl, _⟩ := ho4.form
  refine ⟨A', _, c', rfl, ⟨b4.1, b4.2, (World.cell?_of_block hb4).trans c673, hobj4.frozen _⟩, ?_⟩
  have hks : ∀ k, k ≠ b → (w4.setCell ⟨b, 67, none⟩ (.slice A' ((spareOf p.fr fb.length).length + 1) c')).heap[k]? = w4.heap[k]? := fun k hk => heap_set hk
  have hg'b : g' ≠ some b := by
    rcases hgg with e | e <;> rw [e]
    · exact n4
    · have := hM3.obj.lt; simp; omega
  have hobj5 := hobj4.set 67 (.slice A' ((spareOf p.fr fb.length).length + 1) c')
  rw [poolL_sv _ _ _ _ _ _ (by rw [List.length_set]; exact hr.ok.l64)] at hobj5
  refine ⟨blocks b bm gf g', ⟨bm, fv, .slice A' ((spareOf p.fr fb.length).length + 1) c', fb, gf, g', ?_, rfl⟩, ?_, ?_⟩
  · rw [hP] at hok ⊢
    refine ⟨hok, hobj5, owns_same hM3.map ((hks _ n1).trans (hK34.block _ hM3.map.lt (fun e => n5 e))), ?_, ?_, by simpa using hfbl, ?_, hr.fbs, ?_⟩
    · exact hM3.frm.keep fun g e => (hks g (fun e2 => n2 (e2 ▸ e))).trans (hK34.block _ (hM3.frm.lt g e) (fun e2 => n6 g e e2))
    · rw [hlen]
      exact ho4.keep fun g e => hks g (fun e2 => hg'b (e2 ▸ e))
    · intro j hj
      have := hr.behind j hj
      unfold frameO at this ⊢
      rw [List.getElem?_set_ne (by omega)]
      exact this
    · intro j o' x hj
      simp only [List.getElem?_set] at hj
      split at hj
      next e =>
        subst e
        simp at hj
      next e => exact hr.same j o' x hj
  · exact ((Keep.of_below hB.below).trans hK14 (fun k _ h => h)).set _ (.inl (.inl rfl))
  · rintro k (e | e | e | e)
    · exact .inl (.inl e)
    · exact .inl (.inr (.inl e))
    · exact .inl (.inr (.inr (.inl e)))
    · rcases hgg with e2 | e2
      · exact .inl (.inr (.inr (.inr (e2 ▸ e))))
      · rw [e2] at e
        injection e with e
        have h1 := hK13.size
        exact .inr (by omega)

set_option maxHeartbeats 2000000 in
theorem give_yes {b : Nat} {p : Pl} {F : Nat → Prop} {w : World} (h : Has w b p F) (i : Nat) (hi1 : i ≤ 9223372036854775807) (hE : giveE p i = 0) :
    Calls Try.prog 12 #[bx b, .int .i64 (i : Int)] w fun e w' => e = .returned (.int .i64 0) ∧ Next w b (giveP p i) F w' := by
  obtain ⟨bm, fv, sv, fb, gf, gs, hr, rfl⟩ := h
  obtain ⟨_, o, bs, hx, hP⟩ := giveE_some hE
  rw [Int.toNat_natCast] at hx hP
  have h1 := Lib.hid ((give_asked hr (i : Int) (by omega)).mono fun e w' ⟨e1, e2⟩ => (show e = Ending.returned (Value.int .i64 (giveE p i : Int)) ∧ w'.cell? ⟨w.heap.size, 0, none⟩ = some (bx b) ∧ w'.cell? ⟨w.heap.size + 1, 0, none⟩ = some (Value.int .i64 (i : Int)) ∧ Boxes w [bx b, .int .i64 (i : Int)] w' from ⟨e1, e2.cell 0 _ rfl, e2.cell 1 _ rfl, e2⟩))
  rw [hE] at h1
  have HL := Lib.hid (fun (w1 : World) (hB : Boxes w [bx b, .int .i64 (i : Int)] w1) => give_steps hr i o bs hx hP hB)
  have mixed : Try.prog.follows .mixedOrders = true := by kernel_rfl
  obtain ⟨PN, hPN⟩ : ∃ PN, PN = giveP p (i : Int) := ⟨_, rfl⟩
  rw [← hPN] at HL ⊢
  clear hPN hP hx hr hE hi1
  go_enter Try.func12, Try.ntmps12
  go_wp2_with fail
  refine wp_scope_jump 1 fun R hR hJm => ?_
  go_wp2_with fail
  refine (h1.out).mono ?_
  rintro e w1 ⟨rfl, d0, d1, hB⟩
  have h2 := Lib.hid (HL.out w1 hB)
  have hS0 := Lib.hid (show w1.drew.cell? ⟨w.heap.size, 0, none⟩ = some (bx b) ∧ w1.drew.cell? ⟨w.heap.size + 1, 0, none⟩ = some (.int .i64 (i : Int)) from ⟨d0, d1⟩)
  clear HL hB h1 d0 d1
  go_wp2_with fail
  go_region_held3 (fun W => W.cell? ⟨w.heap.size, 0, none⟩ = some (bx b) ∧ W.cell? ⟨w.heap.size + 1, 0, none⟩ = some (.int .i64 (i : Int)))
    (first | exact hS0.out | assumption | exact ⟨hd2.1, hd2.2.1⟩)
    (first | (go_at_call 35; refine (h2.out).mono ?_; rintro e w2 ⟨⟨v, rfl⟩, hd2, hse⟩; have hS2 := And.intro hd2.1 hd2.2.1))
  have h3 := Lib.hid hse
  have hS3 := Lib.hid (show w2.drew.cell? ⟨w.heap.size, 0, none⟩ = some (bx b) ∧ w2.drew.cell? ⟨w.heap.size + 1, 0, none⟩ = some (.int .i64 (i : Int)) ∧ w2.drew.cell? ⟨b, 67, none⟩ = some sv from hd2)
  clear hse h2 hd2 hS2
  go_wp2_with fail
  go_region_held3 (fun W => W.cell? ⟨w.heap.size, 0, none⟩ = some (bx b) ∧ W.cell? ⟨w.heap.size + 1, 0, none⟩ = some (.int .i64 (i : Int)) ∧ W.cell? ⟨b, 67, none⟩ = some sv)
    (first | exact hS3.out | assumption)
    (first | (go_at_call 36; refine (h3.out).mono ?_; rintro e w3 ⟨at_, ⟨q, rfl⟩, ⟨f0, f1, f2, f3, f4⟩, hin⟩; have hS4 := And.intro f0 (And.intro f1 f2)))
  have HI := Lib.hid hin
  have a0 : ∀ ob, (w3.alloc ob).cell? ⟨w.heap.size, 0, none⟩ = some (bx b) := fun ob => (World.cell?_alloc_lt _ _ _ (by show w.heap.size < _; omega)).trans f0
  have a1 : ∀ ob, (w3.alloc ob).cell? ⟨w.heap.size + 1, 0, none⟩ = some (.int .i64 (i : Int)) := fun ob => (World.cell?_alloc_lt _ _ _ (by show w.heap.size + 1 < _; omega)).trans f1
  have a2 : ∀ ob, (w3.alloc ob).cell? ⟨b, 67, none⟩ = some sv := fun ob => (World.cell?_alloc_lt _ _ _ (by show b < _; omega)).trans f2
  have ne0 : ¬ b = w.heap.size := by omega
  have ne1 : ¬ b = w.heap.size + 1 := by omega
  have HS5 := Lib.hid (fun (W : World) (u : Value) (x0 : W.cell? ⟨w.heap.size, 0, none⟩ = some (bx b)) (x1 : W.cell? ⟨w.heap.size + 1, 0, none⟩ = some (.int .i64 (i : Int))) => (show (W.setCell ⟨b, 67, none⟩ u).cell? ⟨w.heap.size, 0, none⟩ = some (bx b) ∧ (W.setCell ⟨b, 67, none⟩ u).cell? ⟨w.heap.size + 1, 0, none⟩ = some (.int .i64 (i : Int)) from
    ⟨(World.cell?_setCell_other _ _ _ _ (fun e => by have := congrArg Addr.block e; simp only at this; omega)).trans x0, (World.cell?_setCell_other _ _ _ _ (fun e => by have := congrArg Addr.block e; simp only at this; omega)).trans x1⟩))
  clear hin hS4 hS3 h3 hS0
  go_wp2_with fail
  refine wp_region_noPanic ?_
  refine wp_region_held_drew (S := fun W => W.cell? ⟨w.heap.size, 0, none⟩ = some (bx b) ∧ W.cell? ⟨w.heap.size + 1, 0, none⟩ = some (.int .i64 (i : Int))) (by kernel_rfl) ⟨f0, f1⟩ (fun hHeld => ?_)
  refine wpAnyH_take (i := 0) (v := ?_) rfl (by kernel_rfl) (by kernel_rfl) (by kernel_rfl) (fun _ _ _ h => h) (Or.inl ⟨by kernel_rfl, ?_⟩) hHeld ?_
  rotate_left
  focus (intro w hSw; (try dsimp only at hSw); go_simp; try with_reducible rfl)
  simp only [Act.put]
  refine wpAnyH_take (i := 1) (v := ?_) rfl (by kernel_rfl) (by kernel_rfl) (by kernel_rfl) (fun _ _ _ h => h) (Or.inl ⟨by kernel_rfl, ?_⟩) hHeld ?_
  rotate_left
  focus (intro w hSw; (try dsimp only at hSw); go_simp; try with_reducible rfl)
  simp only [Act.put]
  refine wpAnyH_take (i := 2) (v := ?_) rfl (by kernel_rfl) (by kernel_rfl) (by kernel_rfl) (fun _ _ _ h => h) (Or.inl ⟨by kernel_rfl, ?_⟩) hHeld ?_
  rotate_left
  focus (intro w hSw; (try dsimp only at hSw); go_simp; try with_reducible rfl)
  simp only [Act.put]
  refine wpAnyH_take (i := 3) (v := ?_) rfl (by kernel_rfl) (by kernel_rfl) (by kernel_rfl) (fun _ _ _ h => h) (Or.inl ⟨by kernel_rfl, ?_⟩) hHeld ?_
  rotate_left
  focus (intro w hSw; (try dsimp only at hSw); go_simp; try with_reducible rfl)
  simp only [Act.put]
  refine wpAnyH_take (i := 5) (v := ?_) rfl (by kernel_rfl) (by kernel_rfl) (by kernel_rfl) (fun _ _ _ h => h) (Or.inl ⟨by kernel_rfl, ?_⟩) hHeld ?_
  rotate_left
  focus (intro w hSw; (try dsimp only at hSw); go_simp; try with_reducible rfl)
  simp only [Act.put]
  refine wpAnyH_take (i := 6) (v := ?_) rfl (by kernel_rfl) (by kernel_rfl) (by kernel_rfl) (fun _ _ _ h => h) (Or.inl ⟨by kernel_rfl, ?_⟩) hHeld ?_
  rotate_left
  focus (intro w hSw; (try dsimp only at hSw); go_simp; try with_reducible rfl)
  simp only [Act.put]
  refine wpAnyH_ready (rs := [4, 7]) (by kernel_rfl) (by simp) ?_
  refine AllReadyH.cons rfl (fun K hK => ?_) (AllReadyH.cons rfl (fun K hK => ?_) (AllReadyH.nil))
  · go_simp
    refine hK.out _ _ ⟨f0, f1⟩ (fun hHeld => ?_)
    clear hK K
    try simp only [Act.put]
    refine wpAnyH_ready (rs := [7]) (by kernel_rfl) (by simp) ?_
    refine AllReadyH.cons rfl (fun K hK => ?_) (AllReadyH.nil)
    go_simp
    refine hK.out _ _ ⟨a0 _, a1 _⟩ (fun hHeld => ?_)
    clear hK K
    try simp only [Act.put]
    refine wpAnyH_ready (rs := [8]) (by kernel_rfl) (by simp) ?_
    refine AllReadyH.cons rfl (fun K hK => ?_) (AllReadyH.nil)
    go_simp
    refine (HI.out).mono ?_
    rintro e w4 ⟨A', n', c', rfl, ⟨x0, x1, x2, x3⟩, hN⟩
    have HN := Lib.hid hN
    clear hN
    refine hK.out _ _ ⟨x0, x1⟩ (fun hHeld => ?_)
    clear hK K
    try simp only [Act.put]
    refine wpAnyH_take (i := 9) (v := ?_) rfl (by kernel_rfl) (by kernel_rfl) (by kernel_rfl) (fun _ _ _ h => h) (Or.inl ⟨by kernel_rfl, ?_⟩) hHeld ?_
    rotate_left
    focus (intro w hSw; (try dsimp only at hSw); go_simp; try with_reducible rfl)
    simp only [Act.put]
    refine wpAnyH_take (i := 10) (v := ?_) rfl (by kernel_rfl) (by kernel_rfl) (by kernel_rfl) (fun _ _ _ h => h) (Or.inl ⟨by kernel_rfl, ?_⟩) hHeld ?_
    rotate_left
    focus (intro w hSw; (try dsimp only at hSw); go_simp; try with_reducible rfl)
    simp only [Act.put]
    refine wpAnyH_ready (rs := [11]) (by kernel_rfl) (by simp) ?_
    refine AllReadyH.cons rfl (fun K hK => ?_) (AllReadyH.nil)
    go_simp
    refine hK.out _ _ (HS5.out _ _ x0 x1) (fun _ => ?_)
    clear hK K
    try simp only [Act.put]
    refine wpAnyH_done (by kernel_rfl) ?_ _
    refine NoPanic.normal ?_
    clear x0 x1 x2 x3
    go_wp2_with fail
    refine hR.out _ _ _ _ (by simp) ?_
    go_ret
    exact ⟨rfl, HN.out⟩
  · go_simp
    refine hK.out _ _ ⟨a0 _, a1 _⟩ (fun hHeld => ?_)
    clear hK K
    try simp only [Act.put]
    refine wpAnyH_ready (rs := [4]) (by kernel_rfl) (by simp) ?_
    refine AllReadyH.cons rfl (fun K hK => ?_) (AllReadyH.nil)
    go_simp
    refine hK.out _ _ ⟨a0 _, a1 _⟩ (fun hHeld => ?_)
    clear hK K
    try simp only [Act.put]
    refine wpAnyH_ready (rs := [8]) (by kernel_rfl) (by simp) ?_
    refine AllReadyH.cons rfl (fun K hK => ?_) (AllReadyH.nil)
    go_simp
    refine (HI.out).mono ?_
    rintro e w4 ⟨A', n', c', rfl, ⟨x0, x1, x2, x3⟩, hN⟩
    have HN := Lib.hid hN
    clear hN
    refine hK.out _ _ ⟨x0, x1⟩ (fun hHeld => ?_)
    clear hK K
    try simp only [Act.put]
    refine wpAnyH_take (i := 9) (v := ?_) rfl (by kernel_rfl) (by kernel_rfl) (by kernel_rfl) (fun _ _ _ h => h) (Or.inl ⟨by kernel_rfl, ?_⟩) hHeld ?_
    rotate_left
    focus (intro w hSw; (try dsimp only at hSw); go_simp; try with_reducible rfl)
    simp only [Act.put]
    refine wpAnyH_take (i := 10) (v := ?_) rfl (by kernel_rfl) (by kernel_rfl) (by kernel_rfl) (fun _ _ _ h => h) (Or.inl ⟨by kernel_rfl, ?_⟩) hHeld ?_
    rotate_left
    focus (intro w hSw; (try dsimp only at hSw); go_simp; try with_reducible rfl)
    simp only [Act.put]
    refine wpAnyH_ready (rs := [11]) (by kernel_rfl) (by simp) ?_
    refine AllReadyH.cons rfl (fun K hK => ?_) (AllReadyH.nil)
    go_simp
    refine hK.out _ _ (HS5.out _ _ x0 x1) (fun _ => ?_)
    clear hK K
    try simp only [Act.put]
    refine wpAnyH_done (by kernel_rfl) ?_ _
    refine NoPanic.normal ?_
    clear x0 x1 x2 x3
    go_wp2_with fail
    refine hR.out _ _ _ _ (by simp) ?_
    go_ret
    exact ⟨rfl, HN.out⟩
end Go.Proofs.Ytnbehncbjbkjpaa
