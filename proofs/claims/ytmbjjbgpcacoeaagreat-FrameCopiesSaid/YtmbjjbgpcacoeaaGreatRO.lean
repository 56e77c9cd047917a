import Derived.Test.YtmbjjbgpcacoeaaGreatRN
namespace Go.Proofs.YtmbjjbgpcacoeaaGreat
open Go.RowKit Go.Shelf Go.Maps Go.Sort
attribute [local go_sem] Oper.semAt_some

/- COPY. -/
theorem pool_zero_len : Tryz.zeroCells98.toList.length = 68 := by kernel_rfl
theorem spare_len (fr : List Fr) (n : Nat) : (spareOf fr n).length ≤ n := by
  unfold spareOf
  rw [List.length_reverse]
  exact Nat.le_trans (List.length_filter_le _ _) (by rw [List.length_range]; exact Nat.le_refl _)
/-- the copy: three cells are stored -/
theorem copy_fin {w W1 V V2 V3 V4 w' : World} {b bm m : Nat} {p : Pl} {fv sv : Value} {fb : List (List UInt8)} {gf gs : Option Nat} {fv' sv' : Value} {gf' gs' : Option Nat} (h : Rep w b p bm fv sv fb gf gs)
    (hx : Row W1 w.heap.size 98 (poolL p.fr.length bm p.left fv sv)) (hV : Below W1.heap.size W1 V) (hb2 : Below V.heap.size V V2) (hm : m = V.heap.size) (hmo : V2.ownsMap Tryz.prog 3 (plainElem Tryz.prog 3) m 16384 (mapD (owns p.fr)))
    (hb3 : Below V2.heap.size V2 V3) (ho3 : Own V3 110 256 fv' fb.length (fl fb) gf') (hg3 : ∀ k, gf' = some k → V2.heap.size ≤ k)
    (hb4 : Below V3.heap.size V3 V4) (ho4 : Own V4 3 1 sv' (spareOf p.fr fb.length).length ((spareOf p.fr fb.length).map iv) gs') (hg4 : ∀ k, gs' = some k → V3.heap.size ≤ k)
    (h1 : Row w' w.heap.size 98 (poolL p.fr.length m p.left fv' sv')) (h2 : ∀ k, k ≠ w.heap.size → w'.heap[k]? = V4.heap[k]?) (h3 : Below w.heap.size w w') : Run w w.heap.size p w' := by
  have l1 := hx.lt
  have l2 := hV.size
  have l3 := hb2.size
  have l4 := hb3.size
  have l5 := hb4.size
  have lm := hmo.lt
  have hk4 : ∀ k, k < V3.heap.size → k ≠ w.heap.size → w'.heap[k]? = V3.heap[k]? := fun k hk hne => (h2 k hne).trans (hb4.block k hk)
  have hk3 : ∀ k, k < V2.heap.size → k ≠ w.heap.size → w'.heap[k]? = V2.heap[k]? := fun k hk hne => (hk4 k (by omega) hne).trans (hb3.block k hk)
  refine ⟨blocks w.heap.size m gf' gs', ⟨m, fv', sv', fb, gf', gs', ⟨h.ok, h1, owns_same hmo (hk3 m lm (by omega)), ho3.keep fun k e => hk4 k (ho3.lt k e) (by have := hg3 k e; omega), ho4.keep fun k e => h2 k (by have := hg4 k e; omega), h.fbl, h.behind, h.fbs, h.same⟩, rfl⟩, ?_, h3⟩
  rintro k (rfl | rfl | e | e)
  · exact Nat.le_refl _
  · omega
  · have := hg3 k e; omega
  · have := hg4 k e; omega
theorem pool_sets (N bm m : Nat) (left : List Nat) (hl : left.length = 64) (fv sv fv' sv' : Value) : (((poolL N bm left fv sv).set 1 (.map (some m))).set 66 fv').set 67 sv' = poolL N m left fv' sv' := by
  have h1 : (left.map iv).length = 64 := by rw [List.length_map, hl]
  show iv N :: .map (some m) :: (((left.map iv ++ [fv, sv]).set 64 fv').set 65 sv') = _
  rw [List.set_append_right _ _ (by omega), h1, Nat.sub_self, List.set_cons_zero, List.set_append_right _ _ (by omega), h1]
  rfl
set_option maxRecDepth 100000 in
set_option maxHeartbeats 1000000 in
theorem Copy_any {b : Nat} {p : Pl} {F : Nat → Prop} {w : World} (h : Has w b p F) : Calls Tryz.prog 11 #[bx b] w fun e w' => e = .returned (bx w.heap.size) ∧ Run w w.heap.size p w' := by
  have hth := (there_yes h).2
  obtain ⟨bm, fv, sv, fb, gf, gs, hr, _⟩ := h
  obtain ⟨L, hL⟩ : ∃ L, L = poolL p.fr.length bm p.left fv sv := ⟨_, rfl⟩
  have hlen : L.length = 68 := by rw [hL]; exact poolL_len hr.ok _ _ _
  have hrow : Row w b 98 L := hL ▸ hr.obj
  have hone : L.toArray.all (·.oneCell') = true := by
    rw [hL]
    obtain ⟨A1, c1, rfl, _⟩ := hr.frm.form
    obtain ⟨A2, c2, rfl, _⟩ := hr.spr.form
    refine all_oneCell_toArray fun u hu => ?_
    simp only [poolL, List.mem_cons, List.mem_append, List.not_mem_nil, or_false] at hu
    rcases hu with rfl | rfl | hu | rfl | rfl
    · rfl
    · rfl
    · exact iv_one _ u hu
    · rfl
    · rfl
  have hzr : Row (w.alloc (.cells Tryz.zeroCells98 98)) w.heap.size 98 Tryz.zeroCells98.toList := by
    have := Row.new w 98 Tryz.zeroCells98.toList
    rwa [Array.toArray_toList] at this
  have HTH := Lib.hid hth
  have HRG := Lib.hid (row_range hrow)
  have HSZ : Hid ((Tryz.prog.info? 98).map (·.size) = some L.length) := Lib.hid (hL ▸ pool_size hr.ok bm fv sv)
  have HSZ2 : Hid ((Tryz.prog.info? 98).map (·.size) = some L.toArray.size) := HSZ
  have HO := Lib.hid hone
  have HT : Hid ((w.alloc (.cells Tryz.zeroCells98 98)).there w.heap.size 0 L.toArray.size) := Lib.hid (fun j hj => by
    have hj68 : j < 68 := by rw [← hlen]; exact hj
    rw [Nat.zero_add, hzr.cell, hzr.frozen]
    exact ⟨by rw [List.getElem?_eq_getElem (by rw [pool_zero_len]; exact hj68)]; rfl, rfl⟩)
  obtain ⟨W1, hW1⟩ : ∃ W1, W1 = (w.alloc (.cells Tryz.zeroCells98 98)).setCells w.heap.size 0 L := ⟨_, rfl⟩
  have hxW : Row W1 w.heap.size 98 L := hW1 ▸ row_whole hzr (by rw [pool_zero_len, hlen])
  have hb1 : Below w.heap.size w W1 := hW1 ▸ below_setCells (Nat.le_refl _) L 0 _ (below1 w _)
  have hr1 := hr.keep (w' := W1) (fun k hk => hb1.block k (hr.lt k hk))
  have HS : Hid (∀ V, Below W1.heap.size W1 V → V.cell? ⟨b, 1, none⟩ = some (.map (some bm)) ∧ V.cell? ⟨b, 66, none⟩ = some fv ∧ V.cell? ⟨b, 67, none⟩ = some sv) := Lib.hid (fun V hb => by
    have h2 := hr1.keep (w' := V) (fun k hk => hb.block k (hr1.lt k hk))
    exact ⟨h2.c1, h2.c66, h2.c67⟩)
  have HR1 : Hid (∀ V, Below W1.heap.size W1 V → Rep V b p bm fv sv fb gf gs) := Lib.hid (fun V hb => hr1.keep (fun k hk => hb.block k (hr1.lt k hk)))
  have HXR : Hid (∀ V, Below W1.heap.size W1 V → Row V w.heap.size 98 L) := Lib.hid (fun V hb => hxW.below hb)
  have HFIN := Lib.hid (fun V V2 V3 V4 w' m fv' sv' gf' gs' => copy_fin (w := w) (W1 := W1) (V := V) (V2 := V2) (V3 := V3) (V4 := V4) (w' := w') (m := m) (fv' := fv') (sv' := sv') (gf' := gf') (gs' := gs') hr (hL ▸ hxW))
  have HB1 := Lib.hid hb1
  have HLL := Lib.hid hL
  have HW := Lib.hid hW1
  have hbd : Below W1.heap.size W1 W1.drew := (Below.refl _ _).drew
  have HMO := Lib.hid hr.ok.most
  have hbx := hr.obj.lt
  have HL64 := Lib.hid hr.ok.l64
  clear hth hrow hone hzr hxW hb1 hr1 hW1 hL hlen hr
  go_enter Tryz.func11, Tryz.ntmps11
  go_wp2_with fail
  refine HTH.out.mono ?_
  rintro e w1 ⟨rfl, rfl⟩
  go_wp2_with (first
    | refine wpList_load_mid rfl 98 (.tmp 8) rfl b 0 rfl L _ HRG.out Tryz.underlying98 rfl HSZ.out ?_
    | refine wpList_store_mid rfl 98 (.tmp 3) (.tmp 9) rfl w.heap.size 0 L.toArray rfl rfl HT.out HSZ2.out HO.out ?_)
  rw [← HW.out]
  refine wp_region_noPanic ?_
  refine wp_region_held_drew (S := fun V => V.cell? ⟨b, 1, none⟩ = some (.map (some bm)) ∧ V.cell? ⟨b, 66, none⟩ = some fv ∧ V.cell? ⟨b, 67, none⟩ = some sv) (by kernel_rfl) (HS.out _ hbd) (fun hHeld => ?_)
  refine wpAnyH_take (i := 0) (v := ?_) rfl (by kernel_rfl) (by kernel_rfl) (by kernel_rfl) (fun _ _ _ h => h) (Or.inl ⟨by kernel_rfl, ?_⟩) hHeld ?_
  rotate_left
  focus (intro w hSw; (try dsimp only at hSw); go_simp; try with_reducible rfl)
  simp only [Act.put]
  refine wpAnyH_take (i := 1) (v := ?_) rfl (by kernel_rfl) (by kernel_rfl) (by kernel_rfl) (fun _ _ _ h => h) (Or.inl ⟨by kernel_rfl, ?_⟩) hHeld ?_
  rotate_left
  focus (intro w hSw; (try dsimp only at hSw); go_simp; try with_reducible rfl)
  simp only [Act.put]
  refine wpAnyH_take (i := 2) (v := ?_) rfl (by kernel_rfl) (by kernel_rfl) (by kernel_rfl) (fun _ _ _ h => h) (Or.inl ⟨by kernel_rfl, ?_⟩) hHeld ?_
  rotate_left
  focus (intro w hSw; (try dsimp only at hSw); go_simp; try with_reducible rfl)
  simp only [Act.put]
  refine wpAnyH_take (i := 3) (v := ?_) rfl (by kernel_rfl) (by kernel_rfl) (by kernel_rfl) (fun _ _ _ h => h) (Or.inl ⟨by kernel_rfl, ?_⟩) hHeld ?_
  rotate_left
  focus (intro w hSw; (try dsimp only at hSw); go_simp; try with_reducible rfl)
  simp only [Act.put]
  refine wpAnyH_take (i := 4) (v := ?_) rfl (by kernel_rfl) (by kernel_rfl) (by kernel_rfl) (fun _ _ _ h => h) (Or.inl ⟨by kernel_rfl, ?_⟩) hHeld ?_
  rotate_left
  focus (intro w hSw; (try dsimp only at hSw); go_simp; try with_reducible rfl)
  simp only [Act.put]
  refine wpAnyH_take (i := 6) (v := ?_) rfl (by kernel_rfl) (by kernel_rfl) (by kernel_rfl) (fun _ _ _ h => h) (Or.inl ⟨by kernel_rfl, ?_⟩) hHeld ?_
  rotate_left
  focus (intro w hSw; (try dsimp only at hSw); go_simp; try with_reducible rfl)
  simp only [Act.put]
  refine wpAnyH_take (i := 7) (v := ?_) rfl (by kernel_rfl) (by kernel_rfl) (by kernel_rfl) (fun _ _ _ h => h) (Or.inl ⟨by kernel_rfl, ?_⟩) hHeld ?_
  rotate_left
  focus (intro w hSw; (try dsimp only at hSw); go_simp; try with_reducible rfl)
  simp only [Act.put]
  refine wpAnyH_take (i := 8) (v := ?_) rfl (by kernel_rfl) (by kernel_rfl) (by kernel_rfl) (fun _ _ _ h => h) (Or.inl ⟨by kernel_rfl, ?_⟩) hHeld ?_
  rotate_left
  focus (intro w hSw; (try dsimp only at hSw); go_simp; try with_reducible rfl)
  simp only [Act.put]
  refine wpAnyH_take (i := 9) (v := ?_) rfl (by kernel_rfl) (by kernel_rfl) (by kernel_rfl) (fun _ _ _ h => h) (Or.inl ⟨by kernel_rfl, ?_⟩) hHeld ?_
  rotate_left
  focus (intro w hSw; (try dsimp only at hSw); go_simp; try with_reducible rfl)
  simp only [Act.put]
  refine wpAnyH_take (i := 11) (v := ?_) rfl (by kernel_rfl) (by kernel_rfl) (by kernel_rfl) (fun _ _ _ h => h) (Or.inl ⟨by kernel_rfl, ?_⟩) hHeld ?_
  rotate_left
  focus (intro w hSw; (try dsimp only at hSw); go_simp; try with_reducible rfl)
  simp only [Act.put]
  refine wpAnyH_take (i := 12) (v := ?_) rfl (by kernel_rfl) (by kernel_rfl) (by kernel_rfl) (fun _ _ _ h => h) (Or.inl ⟨by kernel_rfl, ?_⟩) hHeld ?_
  rotate_left
  focus (intro w hSw; (try dsimp only at hSw); go_simp; try with_reducible rfl)
  simp only [Act.put]
  refine wpAnyH_take (i := 13) (v := ?_) rfl (by kernel_rfl) (by kernel_rfl) (by kernel_rfl) (fun _ _ _ h => h) (Or.inl ⟨by kernel_rfl, ?_⟩) hHeld ?_
  rotate_left
  focus (intro w hSw; (try dsimp only at hSw); go_simp; try with_reducible rfl)
  simp only [Act.put]
  refine wpAnyH_take (i := 14) (v := ?_) rfl (by kernel_rfl) (by kernel_rfl) (by kernel_rfl) (fun _ _ _ h => h) (Or.inl ⟨by kernel_rfl, ?_⟩) hHeld ?_
  rotate_left
  focus (intro w hSw; (try dsimp only at hSw); go_simp; try with_reducible rfl)
  simp only [Act.put]
  refine wpAnyH_ready (rs := [5]) (by kernel_rfl) (by simp) ?_
  refine AllReadyH.cons rfl (fun K hK => ?_) (AllReadyH.nil)
  go_simp
  refine (clone_any bm 16384 (mapD (owns p.fr)) _ (HR1.out _ hbd).map).mono ?_
  rintro e V2 ⟨rfl, hmo2, hb2⟩
  have hB2 := below0 hbd hb2
  refine hK.out _ _ (HS.out _ hB2) (fun hHeld => ?_)
  clear hK K
  try simp only [Act.put]
  refine wpAnyH_ready (rs := [10]) (by kernel_rfl) (by simp) ?_
  refine AllReadyH.cons rfl (fun K hK => ?_) (AllReadyH.nil)
  go_simp
  refine (cloneS_any (HR1.out _ hB2).frm (Nat.le_trans (HR1.out _ hB2).fbl HMO.out) (fl_one fb)).mono ?_
  rintro e V3 ⟨fv', gf', rfl, ho3, hb3, hg3⟩
  obtain ⟨fA, fc, rfl, _⟩ := ho3.form
  have hB3 := below0 hB2 hb3
  refine hK.out _ _ (HS.out _ hB3) (fun hHeld => ?_)
  clear hK K
  try simp only [Act.put]
  refine wpAnyH_ready (rs := [15]) (by kernel_rfl) (by simp) ?_
  refine AllReadyH.cons rfl (fun K hK => ?_) (AllReadyH.nil)
  go_simp
  refine (cloneI_any (HR1.out _ hB3).spr (by have := spare_len p.fr fb.length; have := (HR1.out _ hB3).fbl; have := HMO.out; omega) (iv_one _)).mono ?_
  rintro e V4 ⟨sv', gs', rfl, ho4, hb4, hg4⟩
  obtain ⟨sA, sc, rfl, _⟩ := ho4.form
  have hB4 := below0 hB3 hb4
  have hx4 := HXR.out V4 hB4
  have hrb := (HR1.out V4 hB4)
  have hob : Row V4 b 98 L := HLL.out ▸ hrb.obj
  have x1 : V4.cell? ⟨w.heap.size, 1, none⟩ = some (.map (some bm)) := (hx4.cell 1).trans ((hob.cell 1).symm.trans hrb.c1)
  have x66 : V4.cell? ⟨w.heap.size, 66, none⟩ = some fv := (hx4.cell 66).trans ((hob.cell 66).symm.trans hrb.c66)
  have x67 : V4.cell? ⟨w.heap.size, 67, none⟩ = some sv := (hx4.cell 67).trans ((hob.cell 67).symm.trans hrb.c67)
  have z1 := hx4.frozen 1
  have z66 := hx4.frozen 66
  have z67 := hx4.frozen 67
  have HSX : Hid (∀ (V : World) (o : Nat) (u : Value), (V.cell? ⟨b, 1, none⟩ = some (.map (some bm)) ∧ V.cell? ⟨b, 66, none⟩ = some fv ∧ V.cell? ⟨b, 67, none⟩ = some sv) → ((V.setCell ⟨w.heap.size, o, none⟩ u).cell? ⟨b, 1, none⟩ = some (.map (some bm)) ∧ (V.setCell ⟨w.heap.size, o, none⟩ u).cell? ⟨b, 66, none⟩ = some fv ∧ (V.setCell ⟨w.heap.size, o, none⟩ u).cell? ⟨b, 67, none⟩ = some sv)) := Lib.hid (fun V o u ⟨e1, e2, e3⟩ =>
    ⟨(World.cell?_of_block (heap_set (by show b ≠ _; omega))).trans e1, (World.cell?_of_block (heap_set (by show b ≠ _; omega))).trans e2, (World.cell?_of_block (heap_set (by show b ≠ _; omega))).trans e3⟩)
  have HE := Lib.hid (show Run w w.heap.size p (((V4.setCell ⟨w.heap.size, 1, none⟩ (.map (some W1.drew.heap.size))).setCell ⟨w.heap.size, 66, none⟩ (.slice fA fb.length fc)).setCell ⟨w.heap.size, 67, none⟩ (.slice sA (spareOf p.fr fb.length).length sc)) from
    HFIN.out _ _ _ _ _ _ _ _ _ _ hbd hb2 rfl hmo2 hb3 ho3 hg3 hb4 ho4 hg4
      (by
        have := ((hx4.set 1 (.map (some W1.drew.heap.size))).set 66 (.slice fA fb.length fc)).set 67 (.slice sA (spareOf p.fr fb.length).length sc)
        rwa [HLL.out, pool_sets _ _ _ _ HL64.out] at this)
      (fun k hk => by rw [heap_set hk, heap_set hk, heap_set hk])
      ((((below0 HB1.out hB4).setCell (Nat.le_refl _) _).setCell (Nat.le_refl _) _).setCell (Nat.le_refl _) _))
  have S4 := Lib.hid (HS.out _ hB4)
  have S5 := Lib.hid (HSX.out _ 1 (.map (some W1.drew.heap.size)) S4.out)
  have S6 := Lib.hid (HSX.out _ 66 (.slice fA fb.length fc) S5.out)
  have S7 := Lib.hid (HSX.out _ 67 (.slice sA (spareOf p.fr fb.length).length sc) S6.out)
  clear hb4 hb3 hb2 ho3 ho4 hmo2 hg3 hg4 hx4 hrb hob hB2 hB3 hB4 HSX hbd
  refine hK.out _ _ S4.out (fun hHeld => ?_)
  clear hK K
  try simp only [Act.put]
  refine wpAnyH_take (i := 16) (v := ?_) rfl (by kernel_rfl) (by kernel_rfl) (by kernel_rfl) (fun _ _ _ h => h) (Or.inl ⟨by kernel_rfl, ?_⟩) hHeld ?_
  rotate_left
  focus (intro w hSw; (try dsimp only at hSw); go_simp; try with_reducible rfl)
  simp only [Act.put]
  refine wpAnyH_take (i := 17) (v := ?_) rfl (by kernel_rfl) (by kernel_rfl) (by kernel_rfl) (fun _ _ _ h => h) (Or.inl ⟨by kernel_rfl, ?_⟩) hHeld ?_
  rotate_left
  focus (intro w hSw; (try dsimp only at hSw); go_simp; try with_reducible rfl)
  simp only [Act.put]
  refine wpAnyH_ready (rs := [18]) (by kernel_rfl) (by simp) ?_
  refine AllReadyH.cons rfl (fun K hK => ?_) (AllReadyH.nil)
  go_simp
  refine hK.out _ _ S5.out (fun hHeld => ?_)
  clear hK K
  try simp only [Act.put]
  refine wpAnyH_take (i := 19) (v := ?_) rfl (by kernel_rfl) (by kernel_rfl) (by kernel_rfl) (fun _ _ _ h => h) (Or.inl ⟨by kernel_rfl, ?_⟩) hHeld ?_
  rotate_left
  focus (intro w hSw; (try dsimp only at hSw); go_simp; try with_reducible rfl)
  simp only [Act.put]
  refine wpAnyH_ready (rs := [20]) (by kernel_rfl) (by simp) ?_
  refine AllReadyH.cons rfl (fun K hK => ?_) (AllReadyH.nil)
  go_simp
  refine hK.out _ _ S6.out (fun hHeld => ?_)
  clear hK K
  try simp only [Act.put]
  refine wpAnyH_take (i := 21) (v := ?_) rfl (by kernel_rfl) (by kernel_rfl) (by kernel_rfl) (fun _ _ _ h => h) (Or.inl ⟨by kernel_rfl, ?_⟩) hHeld ?_
  rotate_left
  focus (intro w hSw; (try dsimp only at hSw); go_simp; try with_reducible rfl)
  simp only [Act.put]
  refine wpAnyH_ready (rs := [22]) (by kernel_rfl) (by simp) ?_
  refine AllReadyH.cons rfl (fun K hK => ?_) (AllReadyH.nil)
  go_simp
  refine hK.out _ _ S7.out (fun hHeld => ?_)
  clear hK K
  try simp only [Act.put]
  refine wpAnyH_done (by kernel_rfl) ?_ _
  refine NoPanic.normal ?_
  go_wp2_with fail
  go_ret
  exact ⟨rfl, HE.out⟩
end Go.Proofs.YtmbjjbgpcacoeaaGreat
