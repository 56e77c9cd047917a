import Derived.Test.YtnbehncbjbkjpaaBox
namespace Go.Proofs.Ytnbehncbjbkjpaa
open Go.RowKit Go.Shelf Go.Maps Go.Sort
attribute [local go_sem] Oper.semAt_some

/- TAKE. -/

theorem take1_any (go : Nat) (o : Int) (w : World) (ho : w.cell? ⟨go, 0, none⟩ = some (.int .i64 o)) : Calls Try.prog 27 #[bx go] w fun e w' => e = .returned (.bool (ownerB o)) ∧ Below w.heap.size w w' := by
  have h1 := Lib.hid (fun w => known_any o w)
  obtain ⟨q, hq⟩ : ∃ q, q = ownerB o := ⟨_, rfl⟩
  rw [← hq] at h1 ⊢
  clear hq
  go_enter Try.func27, Try.ntmps27
  go_wp2_with fail
  refine (h1.out _).mono ?_
  rintro e w1 ⟨rfl, rfl⟩
  go_wp2
  go_ret
  exact ⟨rfl, Below.refl _ _⟩
theorem take2_any {b bm o : Nat} {p : Pl} {fv sv : Value} {fb : List (List UInt8)} {gf gs : Option Nat} {w : World} (h : Rep w b p bm fv sv fb gf gs) (gp go : Nat) (h64 : o < 64)
    (hp : w.cell? ⟨gp, 0, none⟩ = some (bx b)) (ho : w.cell? ⟨go, 0, none⟩ = some (.int .i64 (o : Int))) :
    Calls Try.prog 28 #[bx gp, bx go] w fun e w' => e = .returned (.bool (decide (0 < leftN p o))) ∧ Below w.heap.size w w' := by
  have hc := h.cl h64
  have mixed : Try.prog.follows .mixedOrders = true := by kernel_rfl
  obtain ⟨x, hx⟩ : ∃ x, x = leftN p o := ⟨_, rfl⟩
  rw [← hx] at hc ⊢
  have HD := Lib.hid (fun n => below_drewN (Below.refl w.heap.size w) n)
  have i0 : (0 : Int) ≤ (o : Int) := by omega
  have i1 : (o : Int) < 64 := by omega
  clear hx h
  go_enter Try.func28, Try.ntmps28
  go_wp2_with fail
  go_quiet (fail)
  go_wp2
  go_ret
  exact ⟨rfl, HD.out _⟩

def takeL (v : Value) (s : Nat) (a1 a2 a3 : Bool) : List Ask :=
  [⟨19, #[v], #[], 1, a1⟩, ⟨27, #[], #[bx (s + 1)], 2, a2⟩, ⟨28, #[], #[bx s, bx (s + 1)], 171, a3⟩]
def takeB (v : Value) (o : Int) : List (Value × TypeId) := [(v, 23), (.int .i64 o, 3)]
theorem take_non (v : Value) (o : Int) (w : World) (h : Non w v) : Calls Try.prog 17 #[.slice (some ⟨w.heap.size + 2, 0, none⟩) 3 3] (askW w (takeB v o) (takeL v w.heap.size true true true)) fun e w' => e = .returned (.int .i64 1) ∧ Below w.heap.size w w' := by
  refine (asked_box (takeB v o) (takeL v w.heap.size false true true) 3 3 _ rfl rfl (by omega) fun k hk hall => ?_).mono fun e w' ⟨e1, e2, _⟩ => ⟨e1, e2.below⟩
  rcases k with _ | k
  · refine ⟨enters_of Try.func19 (by kernel_rfl) rfl, fun V hV => ?_⟩
    exact (there_non v V (h.below hV.below)).mono fun e w' ⟨e1, e2⟩ => ⟨e1, e2 ▸ Below.refl _ _⟩
  · exact absurd (hall 0 (by simp [takeL]) (by omega)) (by simp [takeL])
theorem take_asked {b bm : Nat} {p : Pl} {fv sv : Value} {fb : List (List UInt8)} {gf gs : Option Nat} {w : World} (h : Rep w b p bm fv sv fb gf gs) (o : Int) :
    Calls Try.prog 17 #[.slice (some ⟨w.heap.size + 2, 0, none⟩) 3 3] (askW w (takeB (bx b) o) (takeL (bx b) w.heap.size true true true)) fun e w' => e = .returned (.int .i64 (takeE p o : Int)) ∧ Boxes w [bx b, .int .i64 o] w' := by
  obtain ⟨a2, ha2⟩ : ∃ a2, a2 = ownerB o := ⟨_, rfl⟩
  obtain ⟨a3, ha3⟩ : ∃ a3, a3 = decide (0 < leftN p o.toNat) := ⟨_, rfl⟩
  have hE : askE (takeL (bx b) w.heap.size true a2 a3) = (takeE p o : Int) := by
    unfold takeE
    have e2 : (¬ ownerB o = true) ↔ a2 = false := by rw [ha2]; cases ownerB o <;> simp
    have e3 : (leftN p o.toNat = 0) ↔ a3 = false := by rw [ha3]; simp
    simp only [e2, e3]
    cases a2 <;> cases a3 <;> rfl
  refine (asked_box (takeB (bx b) o) (takeL (bx b) w.heap.size true a2 a3) 3 3 _ rfl rfl (by omega) fun k hk hall => ?_).mono fun e w' ⟨e1, e2, _⟩ => ⟨by rw [e1, hE], e2⟩
  rcases k with _ | _ | _ | k
  · refine ⟨enters_of Try.func19 (by kernel_rfl) rfl, fun V hV => ?_⟩
    exact (there_map b bm V (hV.rep h).c1).mono fun e w' ⟨e1, e2⟩ => ⟨e1, e2 ▸ Below.refl _ _⟩
  · refine ⟨enters_of Try.func27 (by kernel_rfl) rfl, fun V hV => ?_⟩
    have := take1_any (w.heap.size + 1) o V (hV.cell 1 _ rfl)
    rw [← ha2] at this
    exact this
  · have t2 : a2 = true := hall 1 (by simp [takeL]) (by omega)
    rw [ha2] at t2
    have tb := t2
    simp only [ownerB, Bool.and_eq_true, decide_eq_true_eq] at tb
    obtain ⟨n, rfl⟩ : ∃ n : Nat, o = n := ⟨o.toNat, by omega⟩
    refine ⟨enters_of Try.func28 (by kernel_rfl) rfl, fun V hV => ?_⟩
    have := take2_any (hV.rep h) w.heap.size (w.heap.size + 1) (by omega) (hV.cell 0 _ rfl) (hV.cell 1 _ rfl)
    rw [Int.toNat_natCast] at ha3
    rw [← ha3] at this
    exact this
  · simp [takeL] at hk
    omega

set_option maxHeartbeats 1000000 in
theorem take_nil (v : Value) (o : Int) (w : World) (h : Non w v) : Calls Try.prog 9 #[v, .int .i64 o] w fun e w' => e = .returned (.tuple #[.int .i64 0, .int .i64 1]) ∧ Below w.heap.size w w' := by
  have h1 := Lib.hid (take_non v o w h)
  obtain ⟨pv, rfl⟩ : ∃ pv, v = .pointer pv := by
    rcases h with rfl | ⟨b, rfl, _⟩
    · exact ⟨_, rfl⟩
    · exact ⟨_, rfl⟩
  clear h
  go_enter Try.func9, Try.ntmps9
  go_wp2_with fail
  refine wp_scope_jump 1 fun R hR hJm => ?_
  go_wp2_with fail
  refine (h1.out).mono ?_
  rintro e w1 ⟨rfl, hb⟩
  go_wp2_with fail
  refine wp_goto (hJm.out _ _ _ _ _ rfl ?_)
  go_wp2_with fail
  refine hR.out _ _ _ _ (by simp) ?_
  go_ret2
  exact ⟨rfl, hb⟩
set_option maxHeartbeats 1000000 in
theorem take_no {b : Nat} {p : Pl} {F : Nat → Prop} {w : World} (h : Has w b p F) (o : Int) (hE : takeE p o ≠ 0) :
    Calls Try.prog 9 #[bx b, .int .i64 o] w fun e w' => e = .returned (.tuple #[.int .i64 (takeI p o : Int), .int .i64 (takeE p o : Int)]) ∧ Next w b (takeP p o) F w' := by
  have hN := Lib.hid (fun w' (hb : Below w.heap.size w w') => (show Next w b (takeP p o) F w' from by
    unfold takeP
    rw [if_neg hE]
    exact Next.same h hb))
  have hI : takeI p o = 0 := by unfold takeI; rw [if_neg hE]
  rw [hI]
  obtain ⟨bm, fv, sv, fb, gf, gs, hr, rfl⟩ := h
  have h1 := Lib.hid ((take_asked hr o).mono fun e w' ⟨e1, e2⟩ => (show e = Ending.returned (Value.int .i64 (takeE p o : Int)) ∧ Below w.heap.size w w' from ⟨e1, e2.below⟩))
  obtain ⟨E, hE2⟩ : ∃ E, E = takeE p o := ⟨_, rfl⟩
  rw [← hE2] at h1 hE ⊢
  have e0 : (((E : Int)) == 0) = false := by rw [beq_eq_false_iff_ne]; omega
  have e1 : ¬ ((E : Int) = 0) := by omega
  clear hE2 hr hE hI
  go_enter Try.func9, Try.ntmps9
  go_wp2_with fail
  refine wp_scope_jump 1 fun R hR hJm => ?_
  go_wp2_with fail
  refine (h1.out).mono ?_
  rintro e w1 ⟨rfl, hb⟩
  go_wp2_with fail
  refine wp_goto (hJm.out _ _ _ _ _ rfl ?_)
  go_wp2_with fail
  refine hR.out _ _ _ _ (by simp) ?_
  go_ret2
  exact ⟨rfl, hN.out _ hb⟩

/-- the least one is taken, by either way -/
theorem least_any {b bm : Nat} {p : Pl} {fv sv : Value} {fb : List (List UInt8)} {gf gs : Option Nat} {w : World} (h : Rep w b p bm fv sv fb gf gs) (o : Int) (h0 : takeE p o = 0) :
    ∃ fb' sp, (∀ V, Rep V b p bm fv sv fb gf gs → Calls Try.prog 29 #[bx b] V (LeastP V b p bm gf gs (takeI p o) fb' sp)) ∧ sp = spareOf (takeP p o).fr fb'.length ∧ fb'.length ≤ (takeP p o).fr.length ∧
      (∀ i, fb'.length ≤ i → frameO (takeP p o) i = none) ∧ (∀ bs ∈ fb', bs.length = 256) ∧ (∀ (i o' : Nat) (bs : List UInt8), (takeP p o).fr[i]? = some (some (o', bs)) → fb'[i]? = some bs) ∧ takeI p o < p.fr.length := by
  obtain ⟨ho0, ho1, hlp, hf1, hul⟩ := takeE_left h.ok h0
  have hfr : (takeP p o).fr = p.fr.set (takeI p o) (some (o.toNat, zero256)) := by unfold takeP; rw [if_pos h0]
  have hlt : takeI p o < p.fr.length := (List.getElem?_eq_some_iff.1 (free1_spec _ _ hf1).1).1
  rcases hs : freeL p.fr fb.length with _ | ⟨i, r⟩
  · have hn : fb.length < p.fr.length := by
      rcases Nat.lt_or_ge fb.length p.fr.length with h1 | h1
      · exact h1
      · have := used_all hs (by have := h.fbl; omega)
        omega
    have hi : takeI p o = fb.length := by
      have := least_new_free hs h.behind hn
      rw [hf1] at this
      exact Option.some.inj this
    have hsp : spareOf p.fr fb.length = [] := by rw [spare_eq, hs]; rfl
    refine ⟨fb ++ [zero256], [], fun V hV => by rw [hi]; exact least_new hV hsp hn, ?_, ?_, ?_, ?_, ?_, hlt⟩
    · rw [hfr, hi, spare_eq, List.length_append, List.length_singleton, freeL_take_new hs hn]
      rfl
    · rw [hfr, List.length_set, List.length_append, List.length_singleton]
      omega
    · intro j hj
      rw [List.length_append, List.length_singleton] at hj
      unfold frameO
      rw [hfr, hi, List.getElem?_set_ne (by omega)]
      exact h.behind j (by omega)
    · intro bs hb
      rcases List.mem_append.1 hb with hb | hb
      · exact h.fbs _ hb
      · rw [List.mem_singleton.1 hb, zero_len0]
    · intro j o' bs hj
      rw [hfr, hi, List.getElem?_set] at hj
      split at hj
      next he =>
        subst he
        have hbs : zero256 = bs := by
          rcases Nat.lt_or_ge fb.length p.fr.length with h1 | h1
          · simp only [Option.some.injEq, Prod.mk.injEq] at hj
            exact hj.2
          · omega
        rw [← hbs, List.getElem?_append_right (Nat.le_refl _), Nat.sub_self]
        rfl
      next he =>
        have h1 := h.same j o' bs hj
        have h2 := (List.getElem?_eq_some_iff.1 h1).1
        rw [List.getElem?_append_left h2]
        exact h1
  · obtain ⟨h1, h2⟩ := least_old_free hs h.fbl
    have hi : takeI p o = i := by
      rw [hf1] at h2
      exact Option.some.inj h2
    have hsp : spareOf p.fr fb.length = r.reverse ++ [takeI p o] := by rw [spare_eq, hs, List.reverse_cons, hi]
    rw [hi] at hsp
    refine ⟨fb.set i zero256, r.reverse, fun V hV => by rw [hi]; exact least_old hV i _ hsp h1, ?_, ?_, ?_, ?_, ?_, hlt⟩
    · rw [hfr, hi, spare_eq, List.length_set, freeL_take_old hs h.fbl]
    · rw [hfr, List.length_set, List.length_set]
      exact h.fbl
    · intro j hj
      rw [List.length_set] at hj
      unfold frameO
      rw [hfr, hi, List.getElem?_set_ne (by omega)]
      exact h.behind j hj
    · intro bs hb
      rcases List.mem_or_eq_of_mem_set hb with hb | hb
      · exact h.fbs _ hb
      · rw [hb, zero_len0]
    · intro j o' bs hj
      rw [hfr, hi, List.getElem?_set] at hj
      split at hj
      next he =>
        subst he
        rw [if_pos (by omega)] at hj
        simp only [Option.some.injEq, Prod.mk.injEq] at hj
        rw [← hj.2, List.getElem?_set_self h1]
      next he =>
        rw [List.getElem?_set_ne he]
        exact h.same j o' bs hj

set_option maxHeartbeats 2000000 in
theorem take_yes {b : Nat} {p : Pl} {F : Nat → Prop} {w : World} (h : Has w b p F) (o : Nat) (hE : takeE p o = 0) :
    Calls Try.prog 9 #[bx b, .int .i64 (o : Int)] w fun e w' => e = .returned (.tuple #[.int .i64 (takeI p o : Int), .int .i64 0]) ∧ Next w b (takeP p o) F w' := by
  obtain ⟨bm, fv, sv, fb, gf, gs, hr, rfl⟩ := h
  obtain ⟨ho0, ho1, hlp, hf1, hul⟩ := takeE_left hr.ok hE
  rw [Int.toNat_natCast] at hlp
  obtain ⟨fb', sp, hL, q1, q2, q3, q4, q5, q6⟩ := least_any hr o hE
  have hP : takeP p o = { fr := p.fr.set (takeI p o) (some (o, zero256)), left := p.left.set o (leftN p o - 1) } := by unfold takeP; rw [if_pos hE]; rfl
  have hok := take_ok hr.ok o
  have hblt : ∀ k, blocks b bm gf gs k → k < w.heap.size := hr.lt
  have h1 := Lib.hid ((take_asked hr (o : Int)).mono fun e w' ⟨e1, e2⟩ => (show e = Ending.returned (Value.int .i64 (takeE p o : Int)) ∧ w'.cell? ⟨w.heap.size, 0, none⟩ = some (bx b) ∧ w'.cell? ⟨w.heap.size + 1, 0, none⟩ = some (Value.int .i64 (o : Int)) ∧ Boxes w [bx b, .int .i64 (o : Int)] w' from ⟨e1, e2.cell 0 _ rfl, e2.cell 1 _ rfl, e2⟩))
  rw [hE] at h1
  have HL := Lib.hid (fun (w1 : World) (hB : Boxes w [bx b, .int .i64 (o : Int)] w1) => (show Calls Try.prog 29 #[bx b] w1 (fun e w2 => e = .returned (.int .i64 (takeI p o : Int)) ∧ (w2.cell? ⟨w.heap.size, 0, none⟩ = some (bx b) ∧ w2.cell? ⟨w.heap.size + 1, 0, none⟩ = some (Value.int .i64 (o : Int))) ∧
      ∀ w2', Below w2.heap.size w2 w2' → Calls Try.prog 30 #[bx b, .int .i64 (takeI p o : Int), .int .i64 (o : Int)] w2' (fun e w3 => (∃ v, e = .returned v) ∧ (w3.cell? ⟨w.heap.size, 0, none⟩ = some (bx b) ∧ w3.cell? ⟨w.heap.size + 1, 0, none⟩ = some (Value.int .i64 (o : Int))) ∧ Next w b (takeP p o) (blocks b bm gf gs) w3)) from by
    refine (hL w1 (hB.rep hr)).mono ?_
    rintro e w2 ⟨rfl, fv', sv', gf', gs', hM, hK, hbl⟩
    have hs1 := hB.size
    have b0 := hB.keep hK hblt 0 _ rfl
    have b1 := hB.keep hK hblt 1 _ rfl
    refine ⟨rfl, ⟨b0, b1⟩, fun w2' hb2 => ?_⟩
    have hM2 : Mid w2' b p bm fv' sv' fb' sp gf' gs' := ⟨hM.obj.below hb2, owns_same hM.map (hb2.block _ hM.map.lt), hM.frm.keep fun g e => hb2.block _ (hM.frm.lt g e), hM.spr.keep fun g e => hb2.block _ (hM.spr.lt g e)⟩
    refine (enter_any hM2 hr.ok (takeI p o) o zero256 q6 (by omega) hlp).mono ?_
    rintro e w3 ⟨hv, hM3, hK3⟩
    have hlt2 : w.heap.size + 1 < w2.heap.size := by have := hK.size; simp only [List.length_cons, List.length_nil] at hs1; omega
    have hnot : ∀ k, w.heap.size ≤ k → k < w1.heap.size → ¬ blocks b bm gf' gs' k := fun k h1 h2 hk => by
      rcases hbl k hk with h3 | h3
      · have := hblt k h3; omega
      · omega
    have hs3 : w.heap.size + 1 < w1.heap.size := by simp only [List.length_cons, List.length_nil] at hs1; omega
    have g : ∀ k, k ≤ 1 → w3.cell? ⟨w.heap.size + k, 0, none⟩ = w2.cell? ⟨w.heap.size + k, 0, none⟩ := fun k hk =>
      (hK3.cell (p := ⟨w.heap.size + k, 0, none⟩) (by have := hb2.size; show w.heap.size + k < _; omega) (hnot _ (by show w.heap.size ≤ w.heap.size + k; omega) (by show w.heap.size + k < _; omega))).trans (hb2.cell (p := ⟨w.heap.size + k, 0, none⟩) (by show w.heap.size + k < _; omega))
    refine ⟨hv, ⟨(g 0 (by omega)).trans b0, (g 1 (by omega)).trans b1⟩, blocks b bm gf' gs', ⟨bm, fv', sv', fb', gf', gs', ?_, rfl⟩, ?_, fun k hk => (hbl k hk).elim .inl fun h3 => .inr (by have := hB.below.size; omega)⟩
    · rw [hP] at hok q1 q2 q3 q5 ⊢
      exact ⟨hok, by have := hM3.obj; simpa using this, hM3.map, hM3.frm, by rw [← q1]; exact hM3.spr, q2, q3, q4, q5⟩
    · have k1 : Keep (blocks b bm gf gs) w w2 := (Keep.of_below hB.below).trans hK (fun k _ h => h)
      have k2 : Keep (blocks b bm gf gs) w w2' := k1.trans (Keep.of_below (F := fun _ => False) hb2) (fun k _ h => h.elim)
      exact k2.trans hK3 (fun k hk hbk => (hbl k hbk).elim id fun h3 => by have := hB.below.size; omega)))
  obtain ⟨I, hI⟩ : ∃ I, I = takeI p o := ⟨_, rfl⟩
  rw [← hI] at HL ⊢
  clear hI hblt hok hP q1 q2 q3 q4 q5 q6 hL hlp hf1 hul ho0 ho1 hr hE
  go_enter Try.func9, Try.ntmps9
  go_wp2_with fail
  refine wp_scope_jump 1 fun R hR hJm => ?_
  go_wp2_with fail
  refine (h1.out).mono ?_
  rintro e w1 ⟨rfl, d0, d1, hB⟩
  have h2 := Lib.hid (HL.out w1 hB)
  clear HL hB h1
  go_wp2_with fail
  refine (h2.out).mono ?_
  rintro e w2 ⟨rfl, hd, hen⟩
  have h3 := Lib.hid hen
  have hS0 := Lib.hid hd
  clear hen h2 d0 d1
  have hdr := Lib.hid (show Below w2.heap.size w2 w2.drew from (Below.refl _ _).drew)
  go_wp2_with fail
  go_region_held3 (fun W => W.cell? ⟨w.heap.size, 0, none⟩ = some (bx b) ∧ W.cell? ⟨w.heap.size + 1, 0, none⟩ = some (.int .i64 (o : Int)))
    (first | exact hS0.out | assumption)
    (first | (go_at_call 30; refine (h3.out _ hdr.out).mono ?_; rintro e w3 ⟨⟨v, rfl⟩, hS3, hN⟩))
  go_wp2_with fail
  refine hR.out _ _ _ _ (by simp) ?_
  go_ret2
  exact ⟨rfl, hN⟩
end Go.Proofs.Ytnbehncbjbkjpaa
