import Derived.Test.YtmbjjbgpcacoeaaGreatSE
import Derived.Test.YtmbjjbgpcacoeaaGreatCutH
namespace Go.Proofs.YtmbjjbgpcacoeaaGreat
open Go.RowKit Go.Shelf Go.Maps Go.Sort
attribute [local go_sem] Oper.semAt_some

/- WHICH POOLS ARE THE SAME. -/
theorem Rep.space {w : World} {b bm : Nat} {p : Pl} {fv sv : Value} {fb : List (List UInt8)} {gf gs : Option Nat} (h : Rep w b p bm fv sv fb gf gs) {i o : Nat} {bs : List UInt8} (hx : p.fr[i]? = some (some (o, bs))) :
    ∃ f N c, fv = .slice (some ⟨f, 0, none⟩) N c ∧ i < N ∧ N ≤ 16384 ∧ w.rangeAt f (i * 256) (bs.map bv) ∧ bs.length = 256 := by
  have hs := h.same i o bs hx
  have hi := (List.getElem?_eq_some_iff.1 hs).1
  have hfi : fb[i] = bs := (List.getElem?_eq_some_iff.1 hs).2
  obtain ⟨f, c, cur, hg, hv, _⟩ := h.frm.block (by omega)
  have hl : bs.length = 256 := h.fbs bs (hfi ▸ List.getElem_mem hi)
  refine ⟨f, fb.length, c, hv, hi, Nat.le_trans h.fbl h.ok.most, fun j v hj => ?_, hl⟩
  have hj2 : j < 256 := by
    have := (List.getElem?_eq_some_iff.1 hj).1
    simp only [List.length_map] at this
    omega
  have hmul := Nat.mul_le_mul_right 256 (show i + 1 ≤ fb.length by omega)
  rw [h.frm.cell hg _ (by omega), fl_get fb h.fbs i j hi hj2, hfi]
  exact hj
set_option maxRecDepth 100000 in
theorem bytes_eql {x y : List UInt8} (hx : x.length = 256) (hy : y.length = 256) (w : World) : (binOp .eql 110 (.agg (x.map bv).toArray) (.agg (y.map bv).toArray)).run Tryz.prog w = .ok (.bool (decide (x = y))) w := by
  obtain ⟨i0, hi0, hc0⟩ : ∃ i0, Tryz.prog.info? 5 = some i0 ∧ Tryz.prog.cellsOf 5 = 1 := ⟨_, rfl, by kernel_rfl⟩
  have hm : ∀ l : List UInt8, l.map bv = (l.map fun n : UInt8 => (n.toNat : Int)).map (Value.int .u8) := fun l => by simp [bv]
  rw [hm, hm, arr_eql w Tryz.underlying110 Tryz.underlying5 hi0 hc0 _ _ (by simpa using hx) (by simpa using hy)]
  congr 2
  rw [decide_eq_decide]
  refine ⟨fun h => ?_, fun h => by rw [h]⟩
  have hinj : ∀ (a b : List UInt8), (a.map fun n : UInt8 => (n.toNat : Int)) = (b.map fun n : UInt8 => (n.toNat : Int)) → a = b := by
    intro a
    induction a with
    | nil => intro b hb; cases b with
      | nil => rfl
      | cons y s => simp at hb
    | cons x r ih => intro b hb; cases b with
      | nil => simp at hb
      | cons y s =>
        simp only [List.map_cons, List.cons.injEq] at hb
        rw [ih s hb.2, UInt8.toNat_inj.1 (show x.toNat = y.toNat by omega)]
  exact hinj _ _ h
/-- what is alike, with the same bytes, is the same -/
theorem same_iff {p q : Pl} (ha : Alike p q) (hs : ∀ x ∈ rowsN (owns p.fr), p.fr[x.1]? = q.fr[x.1]?) : p.fr = q.fr ∧ SameR p q := by
  obtain ⟨h1, h2, h3⟩ := ha
  have hf : p.fr = q.fr := by
    refine List.ext_getElem? fun i => ?_
    by_cases hi : i < p.fr.length
    · rcases hx : p.fr[i] with _ | ⟨o, bs⟩
      · have h4 : (owns q.fr)[i]? = some none := by
          rw [← h3, owns_get, List.getElem?_eq_getElem hi, hx]
          rfl
        rw [owns_get] at h4
        rw [List.getElem?_eq_getElem hi, hx]
        cases hy : q.fr[i]? with
        | none => rw [hy] at h4; cases h4
        | some y =>
          rw [hy] at h4
          cases y with
          | none => rfl
          | some z => simp [ownO] at h4
      · refine hs (i, ownN (owns p.fr) (i : Int)) ?_
        unfold rowsN
        refine List.mem_map.2 ⟨i, (idx_mem 0 (owns p.fr) i).2 ⟨Nat.zero_le _, o, ?_⟩, rfl⟩
        rw [Nat.sub_zero, owns_get, List.getElem?_eq_getElem hi, hx]
        rfl
    · rw [List.getElem?_eq_none (by omega), List.getElem?_eq_none (by omega)]
  refine ⟨hf, List.map_congr_left fun k _ => ?_⟩
  unfold resN leftN
  rw [h2, hf]
theorem same_left {p q : Pl} (hp : p.ok) (hq : q.ok) (h : p.fr = q.fr ∧ SameR p q) : Alike p q := by
  obtain ⟨h1, h2⟩ := h
  refine ⟨by rw [h1], List.ext_getElem? fun i => ?_, by rw [h1]⟩
  by_cases hi : i < 64
  · have h3 : ((List.range 64).map fun k => (resN p k : Int))[i]? = ((List.range 64).map fun k => (resN q k : Int))[i]? := by rw [h2]
    simp only [List.getElem?_map, List.getElem?_range hi, Option.map_some, Option.some.injEq] at h3
    unfold resN leftN at h3
    rw [h1] at h3
    rw [List.getElem?_eq_getElem (by rw [hp.l64]; exact hi), List.getElem?_eq_getElem (by rw [hq.l64]; exact hi)] at h3 ⊢
    simp only [Option.getD_some] at h3
    congr 1
    omega
  · rw [List.getElem?_eq_none (by rw [hp.l64]; omega), List.getElem?_eq_none (by rw [hq.l64]; omega)]
/-- what holds between two rounds: the box, what is the same so far -/
def SmI (w : World) (g : Nat) (p q : Pl) (pre : List (Nat × Nat)) (_O : Nat → Prop) (V : World) : Prop := Boxed V g 4 (.bool true) ∧ (∀ x ∈ pre, p.fr[x.1]? = q.fr[x.1]?) ∧ Below w.heap.size w V
def SmX (w : World) (g ex : Nat) (p q : Pl) (cc : Code) (_pre : List (Nat × Nat)) (_O : Nat → Prop) (V : World) : Prop := cc = .exit ex ∧ Boxed V g 4 (.bool false) ∧ p.fr ≠ q.fr ∧ Below w.heap.size w V
theorem SmI.abid {w : World} {g B : Nat} {p q : Pl} (h : g < B ∧ w.heap.size ≤ B) : Abid B (SmI w g p q) := by
  rintro pre O V V' row ⟨h1, h2, h3⟩ hg hr
  exact ⟨h1.kept hg (fun e => by have := hr g e.symm; omega), h2, h3.grown hg h3.size (fun k e => by have := hr k e; omega)⟩
theorem SmX.abid {w : World} {g B ex : Nat} {p q : Pl} (h : g < B ∧ w.heap.size ≤ B) (cc : Code) : Abid B (SmX w g ex p q cc) := by
  rintro pre O V V' row ⟨h0, h1, h2, h3⟩ hg hr
  exact ⟨h0, h1.kept hg (fun e => by have := hr g e.symm; omega), h2, h3.grown hg h3.size (fun k e => by have := hr k e; omega)⟩
theorem row_both {p q : Pl} {pre : List (Nat × Nat)} {x : Nat × Nat} {V : World} (ha : Alike p q) (hx : preR (owns p.fr) pre x V) : ∃ (o : Nat) (b1 b2 : List UInt8), p.fr[x.1]? = some (some (o, b1)) ∧ q.fr[x.1]? = some (some (o, b2)) := by
  obtain ⟨post, h⟩ := hx
  have hm : x ∈ rowsN (owns p.fr) := by rw [h]; simp
  unfold rowsN at hm
  obtain ⟨i, hi, rfl⟩ := List.mem_map.1 hm
  obtain ⟨_, o, ho⟩ := (idx_mem 0 (owns p.fr) i).1 hi
  rw [Nat.sub_zero] at ho
  have ho2 := ho
  rw [ha.2.2] at ho2
  rw [owns_get] at ho ho2
  simp only [Option.map_eq_some_iff] at ho ho2
  obtain ⟨y, h1, h2⟩ := ho
  obtain ⟨z, h3, h4⟩ := ho2
  unfold ownO at h2 h4
  simp only [Option.map_eq_some_iff] at h2 h4
  obtain ⟨⟨o1, b1⟩, rfl, h5⟩ := h2
  obtain ⟨⟨o2, b2⟩, rfl, h6⟩ := h4
  simp only at h5 h6
  subst h5
  subst h6
  exact ⟨_, b1, b2, h1, h3⟩
set_option maxRecDepth 100000 in
set_option maxHeartbeats 4000000 in
theorem sameF_any {b1 b2 : Nat} {p q : Pl} {F G : Nat → Prop} {w : World} (hh1 : Has w b1 p F) (hh2 : Has w b2 q G) :
    Calls Tryz.prog 15 #[bx b1, bx b2] w fun e w' => (∃ t : Bool, e = .returned (.bool t) ∧ (t = true ↔ p.fr = q.fr ∧ SameR p q)) ∧ Below w.heap.size w w' := by
  obtain ⟨m1, fv1, sv1, fb1, gf1, gs1, h1, _⟩ := hh1
  obtain ⟨m2, fv2, sv2, fb2, gf2, gs2, h2, _⟩ := hh2
  obtain ⟨t, ht, HAL0⟩ : ∃ t : Bool, (t = true ↔ Alike p q) ∧ ∀ V, Below w.heap.size w V → Calls Tryz.prog 58 #[bx b1, bx b2] V fun e w' => e = .returned (.bool t) ∧ Below V.heap.size V w' := by
    haveI := Classical.propDecidable (Alike p q)
    refine ⟨decide (Alike p q), decide_eq_true_iff, fun V hb => (alike_any (h1.below hb) (h2.below hb)).mono ?_⟩
    rintro e w' ⟨⟨t, rfl, ht⟩, hb2⟩
    refine ⟨?_, hb2⟩
    rw [show t = decide (Alike p q) by rw [Bool.eq_iff_iff, ht, decide_eq_true_iff]]
  have HAL := Lib.hid HAL0
  have HTH1 := Lib.hid (fun V (hb : Below w.heap.size w V) => there_map b1 m1 V (h1.below hb).c1)
  have HTH2 := Lib.hid (fun V (hb : Below w.heap.size w V) => there_map b2 m2 V (h2.below hb).c1)
  obtain ⟨w2, hw2⟩ : ∃ w2, w2 = (w.alloc (.cells #[bx b1] 29)).alloc (.cells #[bx b2] 29) := ⟨_, rfl⟩
  have hb02 : Below w.heap.size w w2 := by rw [hw2]; exact below2 _ _ _
  have hx1 : Row w2 w.heap.size 29 [bx b1] := by rw [hw2]; exact (Row.new w _ [bx b1]).below (below1 _ _)
  have hx2 : Row w2 (w.heap.size + 1) 29 [bx b2] := by rw [hw2]; exact Row.new_at _ _ [bx b2] (by simp)
  have hs2 : w2.heap.size = w.heap.size + 2 := by rw [hw2]; simp
  have HC := Lib.hid (fun V (hb : Below w2.heap.size w2 V) => (show V.cell? ⟨w.heap.size, 0, none⟩ = some (bx b1) ∧ V.cell? ⟨w.heap.size + 1, 0, none⟩ = some (bx b2) from ⟨(hx1.below hb).cell 0, (hx2.below hb).cell 0⟩))
  have HB02 := Lib.hid hb02
  have H1 := Lib.hid h1
  have H2 := Lib.hid h2
  have HT := Lib.hid ht
  have HS2 := Lib.hid hs2
  have HW2 := Lib.hid hw2
  clear h1 h2 ht HAL0 hb02 hx1 hx2 hs2 hw2
  refine calls_marks Tryz.func15 rfl ?_
  simp only [Tryz.ntmps15, List.size_toArray, List.length_cons, List.length_nil, Nat.reduceAdd, Nat.reduceSub, Array.replicate_succ, Array.replicate_zero, List.push_toArray, List.append_toArray, List.nil_append, List.cons_append]
  go_wp2_with fail
  refine wp_scope_jump 0 fun R hR hJm => ?_
  rw [← HW2.out]
  obtain ⟨c1, c2⟩ := HC.out _ (Below.refl _ _)
  go_wp2_with fail
  refine (HTH1.out _ HB02.out).mono ?_
  rintro e V ⟨rfl, rfl⟩
  go_wp2_with fail
  refine (HTH2.out _ HB02.out).mono ?_
  rintro e V ⟨rfl, rfl⟩
  have hbd : Below w2.heap.size w2 w2.drew := (Below.refl _ _).drew
  have HBD := Lib.hid hbd
  clear hbd
  go_wp2_with fail
  refine wp_region_noPanic ?_
  refine (fun (HREST : ∀ (g : Nat) (W : World), w2.heap.size ≤ g → Row W g 4 [.bool t] → Below w2.heap.size w2 W → (?G : Nat → World → Prop) g W) => ?main) ?rest
  case main =>
    refine wp_region_held_drew (S := fun V : World => V.cell? ⟨w.heap.size, 0, none⟩ = some (bx b1) ∧ V.cell? ⟨w.heap.size + 1, 0, none⟩ = some (bx b2)) (by kernel_rfl) (HC.out _ HBD.out) (fun hHeld => ?_)
    refine wpAnyH_take (i := 0) (v := ?_) rfl (by kernel_rfl) (by kernel_rfl) (by kernel_rfl) (fun _ _ _ h => h) (Or.inl ⟨by kernel_rfl, ?_⟩) hHeld ?_
    rotate_left
    focus (intro w hSw; (try dsimp only at hSw); go_simp; try with_reducible rfl)
    simp only [Act.put]
    refine wpAnyH_take (i := 1) (v := ?_) rfl (by kernel_rfl) (by kernel_rfl) (by kernel_rfl) (fun _ _ _ h => h) (Or.inl ⟨by kernel_rfl, ?_⟩) hHeld ?_
    rotate_left
    focus (intro w hSw; (try dsimp only at hSw); go_simp; try with_reducible rfl)
    simp only [Act.put]
    refine wpAnyH_take (i := 2) (v := ?_) rfl (by kernel_rfl) (by kernel_rfl) (by kernel_rfl) (fun _ _ _ h => h) (Or.inl ⟨by kernel_rfl, ?_⟩) hHeld ?_
    rotate_left
    focus (intro w hSw; (try dsimp only at hSw); go_simp; try with_reducible rfl)
    simp only [Act.put]
    refine wpAnyH_take (i := 3) (v := ?_) rfl (by kernel_rfl) (by kernel_rfl) (by kernel_rfl) (fun _ _ _ h => h) (Or.inl ⟨by kernel_rfl, ?_⟩) hHeld ?_
    rotate_left
    focus (intro w hSw; (try dsimp only at hSw); go_simp; try with_reducible rfl)
    simp only [Act.put]
    refine wpAnyH_take (i := 4) (v := ?_) rfl (by kernel_rfl) (by kernel_rfl) (by kernel_rfl) (fun _ _ _ h => h) (Or.inl ⟨by kernel_rfl, ?_⟩) hHeld ?_
    rotate_left
    focus (intro w hSw; (try dsimp only at hSw); go_simp; try with_reducible rfl)
    simp only [Act.put]
    refine wpAnyH_take (i := 5) (v := ?_) rfl (by kernel_rfl) (by kernel_rfl) (by kernel_rfl) (fun _ _ _ h => h) (Or.inl ⟨by kernel_rfl, ?_⟩) hHeld ?_
    rotate_left
    focus (intro w hSw; (try dsimp only at hSw); go_simp; try with_reducible rfl)
    simp only [Act.put]
    refine wpAnyH_ready (rs := [6, 7]) (by kernel_rfl) (by simp) ?_
    refine AllReadyH.cons rfl (fun K hK => ?_) (AllReadyH.cons rfl (fun K hK => ?_) AllReadyH.nil)
    · go_simp
      refine (HAL.out _ (below0 HB02.out HBD.out)).mono ?_
      rintro e V1 ⟨rfl, hb1⟩
      have hB1 := below0 HBD.out hb1
      refine hK.out _ _ (HC.out _ hB1) (fun hHeld => ?_)
      clear hK K
      try simp only [Act.put]
      refine wpAnyH_ready (rs := [7]) (by kernel_rfl) (by simp) ?_
      refine AllReadyH.cons rfl (fun K hK => ?_) (AllReadyH.nil)
      go_simp
      refine hK.out _ _ (HC.out _ (below0 hB1 (below1 V1 _))) (fun hHeld => ?_)
      clear hK K
      try simp only [Act.put]
      refine wpAnyH_ready (rs := [8]) (by kernel_rfl) (by simp) ?_
      refine AllReadyH.cons rfl (fun K hK => ?_) (AllReadyH.nil)
      go_simp
      refine hK.out _ _ (HC.out _ (below0 hB1 (below1 V1 _))) (fun hHeld => ?_)
      clear hK K
      try simp only [Act.put]
      refine wpAnyH_done (by kernel_rfl) ?_ _
      refine NoPanic.normal ?_
      have k1 := hB1.size
      have k2 := Row.new V1 4 [.bool t]
      have k3 := below0 hB1 (below1 V1 (.cells #[.bool t] 4))
      obtain ⟨W, hW⟩ : ∃ W, W = V1.alloc (.cells #[.bool t] 4) := ⟨_, rfl⟩
      rw [← hW]
      have k2' : Row W V1.heap.size 4 [.bool t] := hW ▸ k2
      have k3' : Below w2.heap.size w2 W := hW ▸ k3
      clear hW k2 k3 hHeld
      obtain ⟨g, hg⟩ : ∃ g, g = V1.heap.size := ⟨_, rfl⟩
      rw [← hg] at k1 k2' ⊢
      exact HREST g W k1 k2' k3'
    · go_simp
      have hba := (below1 w2 (.cells #[.bool false] 4)).drew
      have hrow := (show Row ((w2.alloc (.cells #[.bool false] 4)).drew) w2.heap.size 4 [.bool false] from Row.new w2 4 [.bool false])
      refine hK.out _ _ (HC.out _ hba) (fun hHeld => ?_)
      clear hK K
      try simp only [Act.put]
      refine wpAnyH_ready (rs := [6]) (by kernel_rfl) (by simp) ?_
      refine AllReadyH.cons rfl (fun K hK => ?_) (AllReadyH.nil)
      go_simp
      refine (HAL.out _ (below0 HB02.out hba)).mono ?_
      rintro e V1 ⟨rfl, hb1⟩
      have hB1 := below0 hba hb1
      have hr1 := hrow.below hb1
      have c7 := hr1.cell 0
      have f7 := hr1.frozen 0
      have hB2 : Below w2.heap.size w2 (V1.setCell ⟨w2.heap.size, 0, none⟩ (.bool t)) := hB1.setCell (Nat.le_refl _) _
      refine hK.out _ _ (HC.out _ hB1) (fun hHeld => ?_)
      clear hK K
      try simp only [Act.put]
      refine wpAnyH_ready (rs := [8]) (by kernel_rfl) (by simp) ?_
      refine AllReadyH.cons rfl (fun K hK => ?_) (AllReadyH.nil)
      go_simp
      refine hK.out _ _ (HC.out _ hB2) (fun hHeld => ?_)
      clear hK K
      try simp only [Act.put]
      refine wpAnyH_done (by kernel_rfl) ?_ _
      refine NoPanic.normal ?_
      have k1 := Nat.le_refl w2.heap.size
      have k2 := hr1.set 0 (.bool t)
      obtain ⟨W, hW⟩ : ∃ W, W = V1.setCell ⟨w2.heap.size, 0, none⟩ (.bool t) := ⟨_, rfl⟩
      rw [← hW] at k2 hB2 ⊢
      clear hW hHeld hrow hr1 c7 f7
      obtain ⟨g, hg⟩ : ∃ g, g = w2.heap.size := ⟨_, rfl⟩
      rw [← hg]
      exact HREST g W (by omega) (hg ▸ k2) hB2
  case rest =>
    intro g W hg hrow hb
    obtain ⟨c1, c2⟩ := HC.out _ hb
    have c0 := hrow.cell 0
    simp only [List.getElem?_cons_zero] at c0
    have HB := Lib.hid hb
    have HBW := Lib.hid (below0 HB02.out hb)
    clear HAL HTH1 HTH2
    cases t
    · clear hb
      go_wp2_with fail
      refine hR.out _ _ _ _ (by simp) ?_
      exact ⟨_, results_tmp (t := 4) rfl _ _ _, ⟨false, rfl, by simp only [Bool.false_eq_true, false_iff]; exact fun h => by have := HT.out.2 (same_left H1.out.ok H2.out.ok h); cases this⟩, HBW.out⟩
    · have HROW := Lib.hid hrow
      have hgl := hrow.lt
      clear hb hrow
      go_wp2_with fail
      refine wp_label ?_
      go_wp2_with fail
      refine (rising_any b1 _).mono ?_
      rintro e W3 ⟨rfl, hw3⟩
      have hb3 : Below W.heap.size W W3 := hw3 ▸ below1 W _
      have hcb : W3.cell? ⟨W.heap.size, 0, none⟩ = some (bx b1) := by rw [← hw3]; exact cell_alloc_new _ _ _ _
      have hs3 : W3.heap.size = W.heap.size + 1 := by rw [← hw3]; simp
      have hbw3 := below0 HBW.out hb3
      have hb23 := below0 HB.out hb3
      have r1 := H1.out.below hbw3
      have hbx : Boxed W3 g 4 (.bool true) := (hb3.block g hgl).trans HROW.out
      have hit := rise1_it (owns p.fr) W.heap.size b1 m1 16384 W3 (by rw [owns_len]; exact H1.out.ok.most) hcb r1.c1 r1.map
      clear hw3 c0 c1 c2
      go_wp2_with fail
      have hPv : ∀ k, (k = W.heap.size ∨ k = b1 ∨ k = m1) → k < W3.heap.size := by
        have e1 := r1.obj.lt
        have e2 := r1.map.lt
        rintro k (rfl | rfl | rfl) <;> omega
      have hws := HBW.out.size
      have hws2 := HB02.out.size
      refine wpIn_wide.1 (wpIn_range_it (gf := 118) (lb := #[bx W.heap.size]) rfl (enters_of Tryz.func118 (by kernel_rfl) rfl) hit (fun k hk => hPv k hk) (fun _ => rfl) (fun _ _ _ _ _ h => h)
        (SmI w2 g p q) (SmX w2 g 0 p q) (SmI.abid (by omega)) (SmX.abid (by omega)) ?h0
        ?a1 ?assign ?body ?done ?stop)
      case assign =>
        intro l' x W' K hK
        simp only [encP]
        gi_wp2
        exact hK
      case h0 => exact ⟨hbx, fun _ h => (by cases h), hb23⟩
      case body =>
        rintro l' pre x O V hVs hO ⟨hbV, hpre, hblV⟩ hx _
        obtain ⟨o, b1s, b2s, hy1, hy2⟩ := row_both (HT.out.1 trivial) hx
        obtain ⟨i, on⟩ := x
        simp only at hy1 hy2
        obtain ⟨f1, N1, k1, hv1, hi1, hN1, hg1, hl1⟩ := H1.out.space hy1
        obtain ⟨f2, N2, k2, hv2, hi2, hN2, hg2, hl2⟩ := H2.out.space hy2
        have hlt1 : f1 < w.heap.size := by
          have := hg1 0 _ (List.getElem?_eq_getElem (show 0 < (b1s.map bv).length by rw [List.length_map, hl1]; decide))
          exact lt_of_cell this
        have hlt2 : f2 < w.heap.size := by
          have := hg2 0 _ (List.getElem?_eq_getElem (show 0 < (b2s.map bv).length by rw [List.length_map, hl2]; decide))
          exact lt_of_cell this
        have hS0 : ∀ V, Below w2.heap.size w2 V → (V.rangeAt f1 (i * 256) (b1s.map bv) ∧ V.rangeAt f2 (i * 256) (b2s.map bv) ∧ V.cell? ⟨w.heap.size, 0, none⟩ = some (bx b1) ∧ V.cell? ⟨w.heap.size + 1, 0, none⟩ = some (bx b2) ∧ V.cell? ⟨b1, 66, none⟩ = some (.slice (some ⟨f1, 0, none⟩) N1 k1) ∧ V.cell? ⟨b2, 66, none⟩ = some (.slice (some ⟨f2, 0, none⟩) N2 k2)) := fun V hb => by
          have hbb := below0 HB02.out hb
          obtain ⟨c1, c2⟩ := HC.out _ hb
          exact ⟨fun j v hj => (World.cell?_of_block (hbb.block f1 hlt1)).trans (hg1 j v hj), fun j v hj => (World.cell?_of_block (hbb.block f2 hlt2)).trans (hg2 j v hj), c1, c2, hv1 ▸ (H1.out.below hbb).c66, hv2 ▸ (H2.out.below hbb).c66⟩
        obtain ⟨r, hr⟩ : ∃ r, r = decide (b1s = b2s) := ⟨_, rfl⟩
        have heq := fun W => bytes_eql hl1 hl2 W
        rw [← hr] at heq
        obtain ⟨L1, hL1⟩ : ∃ L1, L1 = b1s.map bv := ⟨_, rfl⟩
        obtain ⟨L2, hL2⟩ : ∃ L2, L2 = b2s.map bv := ⟨_, rfl⟩
        rw [← hL1] at heq hS0
        rw [← hL2] at heq hS0
        have HZ1 := Lib.hid (show (Tryz.prog.info? 110).map (·.size) = some L1.length by rw [hL1, List.length_map, hl1]; kernel_rfl)
        have HZ2 := Lib.hid (show (Tryz.prog.info? 110).map (·.size) = some L2.length by rw [hL2, List.length_map, hl2]; kernel_rfl)
        have HR := Lib.hid (And.intro hr (And.intro hy1 hy2))
        have i0 : (0 : Int) ≤ (i : Int) := by omega
        have i1 : (i : Int) < (N1 : Int) := by omega
        have i2 : (i : Int) < (N2 : Int) := by omega
        have e0 := hbV.cell
        have e1 := hbV.frozen
        have HBV := Lib.hid hbV
        have HPRE := Lib.hid hpre
        have HBL := Lib.hid hblV
        have HSS := Lib.hid hS0
        have HBS := Lib.hid (show Below w2.heap.size w2 (V.setCell ⟨g, 0, none⟩ (.bool r)).drew from (hblV.setCell hg _).drew)
        have HBD2 := Lib.hid (show Below w2.heap.size w2 V.drew from hblV.drew)
        have hq1 : b1 < g := by have := H1.out.obj.lt; omega
        have hq2 : m1 < g := by have := H1.out.map.lt; omega
        have HKS := Lib.hid (fun (V' : World) (h : ∀ k, k ≠ g → V'.heap[k]? = V.heap[k]?) (hz : V'.heap.size = V.heap.size) => (show Keeps (fun k => k = W.heap.size ∨ k = b1 ∨ k = m1) W3.heap.size O (fun _ => False) V V' from ⟨by omega, fun k _ hp => h k (by rcases hp with (rfl | rfl | rfl) | ⟨h1, _⟩ <;> omega)⟩))
        clear hr hy1 hy2 hL1 hL2 hbV hpre hblV hg1 hg2 hl1 hl2 hv1 hv2 hlt1 hlt2 hS0 hx hit hbx
        gi_wp2_with fail
        refine wpIn_region_heldH l' 16 (S := fun V : World => V.rangeAt f1 (i * 256) L1 ∧ V.rangeAt f2 (i * 256) L2 ∧ V.cell? ⟨w.heap.size, 0, none⟩ = some (bx b1) ∧ V.cell? ⟨w.heap.size + 1, 0, none⟩ = some (bx b2) ∧ V.cell? ⟨b1, 66, none⟩ = some (.slice (some ⟨f1, 0, none⟩) N1 k1) ∧ V.cell? ⟨b2, 66, none⟩ = some (.slice (some ⟨f2, 0, none⟩) N2 k2)) (by kernel_rfl) (by kernel_rfl) (by kernel_rfl) (HSS.out _ HBD2.out) (fun hHeld => ?_)
        simp only [List.take_succ_cons, List.take_zero]
        refine wpAnyH_take (i := 0) (v := ?_) rfl (by kernel_rfl) (by kernel_rfl) (by kernel_rfl) (fun _ _ _ h => h) (Or.inl ⟨by kernel_rfl, ?_⟩) hHeld ?_
        rotate_left
        focus (intro w hSw; (try dsimp only at hSw); go_simp; try with_reducible rfl)
        simp only [Act.put]
        refine wpAnyH_take (i := 1) (v := ?_) rfl (by kernel_rfl) (by kernel_rfl) (by kernel_rfl) (fun _ _ _ h => h) (Or.inl ⟨by kernel_rfl, ?_⟩) hHeld ?_
        rotate_left
        focus (intro w hSw; (try dsimp only at hSw); go_simp; try with_reducible rfl)
        simp only [Act.put]
        refine wpAnyH_take (i := 2) (v := ?_) rfl (by kernel_rfl) (by kernel_rfl) (by kernel_rfl) (fun _ _ _ h => h) (Or.inl ⟨by kernel_rfl, ?_⟩) hHeld ?_
        rotate_left
        focus (intro w hSw; (try dsimp only at hSw); go_simp; try with_reducible rfl)
        simp only [Act.put]
        refine wpAnyH_take (i := 3) (v := ?_) rfl (by kernel_rfl) (by kernel_rfl) (by kernel_rfl) (fun _ _ _ h => h) (Or.inl ⟨by kernel_rfl, ?_⟩) hHeld ?_
        rotate_left
        focus (intro w hSw; (try dsimp only at hSw); go_simp; try with_reducible rfl)
        simp only [Act.put]
        refine wpAnyH_take (i := 4) (v := ?_) rfl (by kernel_rfl) (by kernel_rfl) (by kernel_rfl) (fun _ _ _ h => h) (Or.inl ⟨by kernel_rfl, ?_⟩) hHeld ?_
        rotate_left
        focus (intro w hSw; (try dsimp only at hSw); go_simp; try with_reducible rfl)
        simp only [Act.put]
        refine wpAnyH_take (i := 5) (v := ?_) rfl (by kernel_rfl) (by kernel_rfl) (by kernel_rfl) (fun _ _ _ h => h) (Or.inl ⟨by kernel_rfl, ?_⟩) hHeld ?_
        rotate_left
        focus (intro w hSw; (try dsimp only at hSw); go_simp; try with_reducible rfl)
        simp only [Act.put]
        refine wpAnyH_take (i := 6) rfl (by kernel_rfl) (by kernel_rfl) (by kernel_rfl) (fun _ _ _ h => h) (yieldsIf_load_mid (by kernel_rfl) 110 (.tmp 40) rfl f1 (i * 256) (by simp [Act.eval]) L1 _ (fun V hV => hV.1) Tryz.underlying110 rfl HZ1.out) hHeld ?_
        simp only [Act.put]
        refine wpAnyH_take (i := 7) (v := ?_) rfl (by kernel_rfl) (by kernel_rfl) (by kernel_rfl) (fun _ _ _ h => h) (Or.inl ⟨by kernel_rfl, ?_⟩) hHeld ?_
        rotate_left
        focus (intro w hSw; (try dsimp only at hSw); go_simp; try with_reducible rfl)
        simp only [Act.put]
        refine wpAnyH_take (i := 8) (v := ?_) rfl (by kernel_rfl) (by kernel_rfl) (by kernel_rfl) (fun _ _ _ h => h) (Or.inl ⟨by kernel_rfl, ?_⟩) hHeld ?_
        rotate_left
        focus (intro w hSw; (try dsimp only at hSw); go_simp; try with_reducible rfl)
        simp only [Act.put]
        refine wpAnyH_take (i := 9) (v := ?_) rfl (by kernel_rfl) (by kernel_rfl) (by kernel_rfl) (fun _ _ _ h => h) (Or.inl ⟨by kernel_rfl, ?_⟩) hHeld ?_
        rotate_left
        focus (intro w hSw; (try dsimp only at hSw); go_simp; try with_reducible rfl)
        simp only [Act.put]
        refine wpAnyH_take (i := 10) (v := ?_) rfl (by kernel_rfl) (by kernel_rfl) (by kernel_rfl) (fun _ _ _ h => h) (Or.inl ⟨by kernel_rfl, ?_⟩) hHeld ?_
        rotate_left
        focus (intro w hSw; (try dsimp only at hSw); go_simp; try with_reducible rfl)
        simp only [Act.put]
        refine wpAnyH_take (i := 11) (v := ?_) rfl (by kernel_rfl) (by kernel_rfl) (by kernel_rfl) (fun _ _ _ h => h) (Or.inl ⟨by kernel_rfl, ?_⟩) hHeld ?_
        rotate_left
        focus (intro w hSw; (try dsimp only at hSw); go_simp; try with_reducible rfl)
        simp only [Act.put]
        refine wpAnyH_take (i := 12) (v := ?_) rfl (by kernel_rfl) (by kernel_rfl) (by kernel_rfl) (fun _ _ _ h => h) (Or.inl ⟨by kernel_rfl, ?_⟩) hHeld ?_
        rotate_left
        focus (intro w hSw; (try dsimp only at hSw); go_simp; try with_reducible rfl)
        simp only [Act.put]
        refine wpAnyH_take (i := 13) rfl (by kernel_rfl) (by kernel_rfl) (by kernel_rfl) (fun _ _ _ h => h) (yieldsIf_load_mid (by kernel_rfl) 110 (.tmp 47) rfl f2 (i * 256) (by simp [Act.eval]) L2 _ (fun V hV => hV.2.1) Tryz.underlying110 rfl HZ2.out) hHeld ?_
        simp only [Act.put]
        refine wpAnyH_take (i := 14) (v := ?_) rfl (by kernel_rfl) (by kernel_rfl) (by kernel_rfl) (fun _ _ _ h => h) (Or.inl ⟨by kernel_rfl, ?_⟩) hHeld ?_
        rotate_left
        focus (intro w hSw; (try dsimp only at hSw); go_simp; try with_reducible rfl)
        simp only [Act.put]
        refine wpAnyH_ready (rs := [15]) (by kernel_rfl) (by simp) ?_
        refine AllReadyH.cons rfl (fun K hK => ?_) (AllReadyH.nil)
        go_simp
        refine hK.out _ _ (HSS.out _ HBS.out) (fun hHeld => ?_)
        clear hK K
        try simp only [Act.put]
        refine wpAnyH_done (by kernel_rfl) ?_ _
        refine ⟨by kernel_rfl, ?_⟩
        have g0 := (HBV.out.set (.bool r)).cell
        clear e0 e1
        cases r
        · gi_wp2_with fail
          exact ⟨HKS.out _ (fun k hk => heap_set hk) (World.size_setCell _ _ _), rfl, HBV.out.set (.bool false), fun h => by
            have h1 := HR.out.2.1
            rw [h, HR.out.2.2] at h1
            simp only [Option.some.injEq, Prod.mk.injEq, true_and] at h1
            exact (decide_eq_false_iff_not.1 HR.out.1.symm) h1.symm, HBS.out⟩
        · gi_wp2_with fail
          exact ⟨HKS.out _ (fun k hk => heap_set hk) (World.size_setCell _ _ _), HBV.out.set (.bool true), fun y hy => by
            rcases List.mem_append.1 hy with hy | hy
            · exact HPRE.out y hy
            · obtain rfl := List.mem_singleton.1 hy
              show p.fr[i]? = q.fr[i]?
              rw [HR.out.2.1, HR.out.2.2, of_decide_eq_true HR.out.1.symm], HBS.out⟩
      case done =>
        intro xs O Z hall hI hD
        obtain ⟨hbx2, hpre, hbl⟩ := hI
        have hz := hbx2.cell
        have hfin := Lib.hid (show p.fr = q.fr ∧ SameR p q from same_iff (HT.out.1 trivial) fun x hx => hpre x (by rw [show xs = rowsN (owns p.fr) from hall]; exact hx))
        have hg3 : W3.heap.size ≠ g := by omega
        have HBE := Lib.hid (show Below w.heap.size w (Z.putObj W3.heap.size (.deferred none)) from (below0 HB02.out hbl).grown (putObj_grown Z _ _) (below0 HB02.out hbl).size (fun r e => by cases e; omega))
        have HD := Lib.hid hD
        clear hall hbx2 hpre hbl hit hbx hD
        go_wp2_with fail
        refine hR.out _ _ _ _ (by simp) ?_
        refine ⟨by simp, .inl ⟨_, _, rfl, run_takeDeferred HD.out, ?_⟩⟩
        exact ⟨_, results_tmp (t := 4) rfl _ _ _, ⟨true, rfl, by simp only [true_iff]; exact hfin.out⟩, HBE.out⟩
      case stop =>
        rintro c' xs O Z hall ⟨rfl, hbx2, hne, hbl⟩ hD
        have hz := hbx2.cell
        have HNE := Lib.hid hne
        have HBE := Lib.hid (show Below w.heap.size w (Z.putObj W3.heap.size (.deferred none)) from (below0 HB02.out hbl).grown (putObj_grown Z _ _) (below0 HB02.out hbl).size (fun r e => by cases e; omega))
        have HD := Lib.hid hD
        clear hall hbx2 hne hbl hit hbx hD
        refine wpIn_wide.2 ?_
        go_wp2_with fail
        refine hR.out _ _ _ _ (by simp) ?_
        refine ⟨by simp, .inl ⟨_, _, rfl, run_takeDeferred HD.out, ?_⟩⟩
        exact ⟨_, results_tmp (t := 4) rfl _ _ _, ⟨false, rfl, by simp only [Bool.false_eq_true, false_iff]; exact fun h => HNE.out h.1⟩, HBE.out⟩
end Go.Proofs.YtmbjjbgpcacoeaaGreat
