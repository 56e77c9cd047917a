import Derived.Test.YtmbjjbgpcacoeaaGreatRT
namespace Go.Proofs.YtmbjjbgpcacoeaaGreat
open Go.RowKit Go.Shelf Go.Maps Go.Sort
attribute [local go_sem] Oper.semAt_some

/- A CALL BY BOTH: RESERVE. -/
set_option maxRecDepth 100000 in
set_option maxHeartbeats 4000000 in
theorem act_reserve (p : Pl) (A : Option Addr) (n c b : Nat) (F : Nat → Prop) (ow fn at_ : Int) (bs : List UInt8) (S : Option Addr) (m c2 : Nat) (w : World) (hfit : (⟨0, ow, fn, at_, bs, S, c2⟩ : Ac).fits w) (h : Has w b p F) (hl : p.fr.length = n) (hA : Lies w A p.fr) (hO : Off F A p.fr) (hm : bs.length = m) :
    Calls Tryz.prog 10 #[bx b, rv p A n c, .agg #[.int .i64 0, .int .i64 ow, .int .i64 fn, .int .i64 at_, .slice S m c2]] w (ActP w F A (reserveP p ow fn) n) := by
  have hok := h.ok
  have hF := h.lt
  obtain ⟨cs, hcs⟩ : ∃ cs, cs = rc p A n c := ⟨_, rfl⟩
  have hlen : cs.length = 65 := by rw [hcs, rc_len]
  have HSZ := Lib.hid (show (Tryz.prog.info? 36).map (·.size) = some cs.length from hcs ▸ refpool_size p A n c)
  have HRV := Lib.hid (show rv p A n c = .agg cs.toArray by rw [hcs]; rfl)
  rw [show rv p A n c = .agg cs.toArray by rw [hcs]; rfl]
  obtain ⟨i0, hi, hz0, hz1, hz2⟩ := info_parts u8_info
  obtain ⟨xx, hxx⟩ : ∃ xx : Ac, xx = ⟨0, ow, fn, at_, bs, S, c2⟩ := ⟨_, rfl⟩
  have T0 : AtW w F cs xx (((w.alloc (.cells cs.toArray 36)).alloc (.cells #[.int .i64 0, .int .i64 ow, .int .i64 fn, .int .i64 at_, .slice S m c2] 25)).alloc (.cells Tryz.zeroCells36 36)) := by
    rw [hxx, ← hm]
    exact AtW.new w F cs ⟨0, ow, fn, at_, bs, S, c2⟩
  have d4 : ((((w.alloc (.cells cs.toArray 36)).alloc (.cells #[.int .i64 0, .int .i64 ow, .int .i64 fn, .int .i64 at_, .slice S m c2] 25)).alloc (.cells Tryz.zeroCells36 36)).alloc (.cells #[] 5)).cell? ⟨w.heap.size + 1, 4, none⟩ = some (.slice S m c2) := by
    have hq := (T0.more hF (below1 _ (.cells #[] 5))).c.a4
    rw [hxx] at hq
    simp only [hm] at hq
    exact hq
  have hb3 : Below w.heap.size w (((w.alloc (.cells cs.toArray 36)).alloc (.cells #[.int .i64 0, .int .i64 ow, .int .i64 fn, .int .i64 at_, .slice S m c2] 25)).alloc (.cells Tryz.zeroCells36 36)) := below3 _ _ _ _
  have hown0 : ((((w.alloc (.cells cs.toArray 36)).alloc (.cells #[.int .i64 0, .int .i64 ow, .int .i64 fn, .int .i64 at_, .slice S m c2] 25)).alloc (.cells Tryz.zeroCells36 36)).alloc (.cells #[] 5)).ownsRow (w.heap.size + 1 + 1 + 1) 5 1 (.slice (some ⟨w.heap.size + 1 + 1 + 1, 0, none⟩) 0 0) 0 [] := by
    have hq : ((((w.alloc (.cells cs.toArray 36)).alloc (.cells #[.int .i64 0, .int .i64 ow, .int .i64 fn, .int .i64 at_, .slice S m c2] 25)).alloc (.cells Tryz.zeroCells36 36)).alloc (.cells #[] 5)).ownsRow (((w.alloc (.cells cs.toArray 36)).alloc (.cells #[.int .i64 0, .int .i64 ow, .int .i64 fn, .int .i64 at_, .slice S m c2] 25)).alloc (.cells Tryz.zeroCells36 36)).heap.size 5 1 (.slice (some ⟨(((w.alloc (.cells cs.toArray 36)).alloc (.cells #[.int .i64 0, .int .i64 ow, .int .i64 fn, .int .i64 at_, .slice S m c2] 25)).alloc (.cells Tryz.zeroCells36 36)).heap.size, 0, none⟩) 0 0) 0 [] := World.ownsRow_lit _ #[] 0 (Nat.le_refl _) (Nat.zero_le _) rfl
    simpa only [World.size_alloc] using hq
  have hS0 := ((hfit.sees.below hb3).alloc hb3.size (.cells #[] 5))
  have hbl : (byt bs).length = m * 1 := by rw [byt_length, hm]; omega
  have hml : m ≤ 140737488351232 := hm ▸ hfit.len
  have hfo := hfit.owner
  have hfn := hfit.n
  have hfa := hfit.at_
  have h0 := hb3.size
  have K0 := Lib.hid (fun w4 (hg : ((((w.alloc (.cells cs.toArray 36)).alloc (.cells #[.int .i64 0, .int .i64 ow, .int .i64 fn, .int .i64 at_, .slice S m c2] 25)).alloc (.cells Tryz.zeroCells36 36)).alloc (.cells #[] 5)).grownBy w4 (Value.slice (some ⟨w.heap.size + 1 + 1 + 1, 0, none⟩) 0 0).ownBlock) => (show Below (w.heap.size + 1 + 1 + 1) (((w.alloc (.cells cs.toArray 36)).alloc (.cells #[.int .i64 0, .int .i64 ow, .int .i64 fn, .int .i64 at_, .slice S m c2] 25)).alloc (.cells Tryz.zeroCells36 36)) w4 from by
    have hq := below1 (((w.alloc (.cells cs.toArray 36)).alloc (.cells #[.int .i64 0, .int .i64 ow, .int .i64 fn, .int .i64 at_, .slice S m c2] 25)).alloc (.cells Tryz.zeroCells36 36)) (.cells #[] 5)
    simp only [World.size_alloc] at hq
    exact hq.grown hg (by simp) (fun k hk => by cases hk; exact Nat.le_refl _)))
  have K1 := Lib.hid (fun w4 (hb : Below (w.heap.size + 1 + 1 + 1) (((w.alloc (.cells cs.toArray 36)).alloc (.cells #[.int .i64 0, .int .i64 ow, .int .i64 fn, .int .i64 at_, .slice S m c2] 25)).alloc (.cells Tryz.zeroCells36 36)) w4) => (show AtW w F cs xx w4 ∧ Below w.heap.size w w4 from ⟨T0.more hF (by simpa only [World.size_alloc] using hb), below0 hb3 (by simpa only [World.size_alloc] using hb)⟩))
  have HF := Lib.hid hF
  have HH := Lib.hid h
  have HA := Lib.hid hA
  have HO := Lib.hid hO
  have HL := Lib.hid hl
  have HOK := Lib.hid hok
  have HCS := Lib.hid hcs
  have HM := Lib.hid hm
  have HFO := Lib.hid hfo
  have HFN := Lib.hid hfn
  have HFA := Lib.hid hfa
  have HB3 := Lib.hid hb3
  have HT0 := Lib.hid T0
  have HXX := Lib.hid hxx
  have hl65 := Lib.hid hlen
  have HRE := Lib.hid (fun V (hb : Below w.heap.size w V) => (HRV.out ▸ rreserve_any p A n c ow fn V HL.out HOK.out (HA.out.below hb) : Calls Tryz.prog 40 #[.agg cs.toArray, .int .i64 ow, .int .i64 fn] V (RefP V A (reserveP p ow fn) n [.int .i64 (reserveE p ow fn : Int)])))
  have HN := Lib.hid (fun V (hV : Has V b p F) => hV.reserveN ow fn (by have := HFN.out.2; exact this))
  obtain ⟨E, hE⟩ : ∃ E, E = reserveE p ow fn := ⟨_, rfl⟩
  obtain ⟨p', hp'⟩ : ∃ p', p' = reserveP p ow fn := ⟨_, rfl⟩
  have hl' : p'.fr.length = p.fr.length := by rw [hp', reserveP_len]
  rw [← hE, ← hp'] at HRE HN
  rw [← hp']
  have HL' := Lib.hid hl'
  have hEE : ((E : Int) == (E : Int)) = true := by simp
  clear hE hp' hl'
  clear hF h hA hO hl hok hcs hlen hm hfo hfn hfa hb3 T0 h0 hfit hxx
  go_enter Tryz.func10, Tryz.ntmps10
  go_wp2_with (first
    | (at_builtin; refine wpList_append_sees rfl (.tmp 29) (.tmp 31) 23 rfl (w.heap.size + 1 + 1 + 1) 5 i0 _ 1 1 Tryz.underlying23 hi hz0 hz1 hz2 rfl (by decide) _ 0 [] rfl hown0 w.heap.size S m c2 (byt bs) rfl hbl hS0 byt_one (by unfold maxLen; omega) (by omega) (by simp only [World.size_alloc]; omega) ?_; intro v1 w4 hown1 hg1 hv1; obtain ⟨T4, hb4⟩ := K1.out w4 (K0.out w4 hg1); have q4 := T4.c; rw [HXX.out] at q4; obtain ⟨e9, e0, e1, e2, e3, e4⟩ := q4; simp only [HM.out] at e0 e1 e2 e3 e4; obtain ⟨Av, cv, rfl⟩ := own_slice hown1)
    | refine wpList_load_mid rfl 36 (.tmp 4) rfl w.heap.size 0 rfl cs _ e9 Tryz.underlying36 rfl HSZ.out ?_)
  refine (HRE.out _ hb4).mono ?_
  rintro e V1 ⟨A', c', rfl, hd, hLi, hb1⟩
  obtain ⟨cs2, hcs2⟩ : ∃ cs2, cs2 = rc p' A' n c' := ⟨_, rfl⟩
  have hrv2 : rv p' A' n c' = .agg cs2.toArray := by rw [hcs2]; rfl
  rw [hrv2]
  have hlen2 : cs2.length = 65 := by rw [hcs2, rc_len]
  have HCS2 := Lib.hid hcs2
  have HRV2 := Lib.hid hrv2
  have HLEN2 := Lib.hid hlen2
  have HSZ2 := Lib.hid (show (Tryz.prog.info? 36).map (·.size) = some cs2.length from hcs2 ▸ refpool_size p' A' n c')
  have HSZ3 := Lib.hid (refpool_size2 hlen2)
  have HO2 := Lib.hid (hcs2 ▸ rc_one p' A' n c' : cs2.toArray.all (·.oneCell') = true)
  have hth : (V1.alloc (.cells Tryz.zeroCells36 36)).there V1.heap.size 0 cs2.toArray.size := by
    show World.there _ _ 0 cs2.length
    rw [hlen2]
    exact (Rm.new V1).there
  have HTH := Lib.hid hth
  have HB1 := Lib.hid hb1
  have HB4 := Lib.hid hb4
  have HLI := Lib.hid hLi
  have HD := Lib.hid hd
  have T1 := Lib.hid (T4.more HF.out hb1)
  have q1 := (T4.more HF.out (below0 hb1 (below_setCells (Nat.le_refl V1.heap.size) cs2.toArray.toList 0 _ (below1 V1 (.cells Tryz.zeroCells36 36))))).c
  rw [HXX.out] at q1
  obtain ⟨f9, f0, f1, f2, f3, f4⟩ := q1
  simp only [HM.out] at f0 f1 f2 f3 f4
  have HT4 := Lib.hid T4
  clear hcs2 hrv2 hlen2 hth hb1 hLi hd e0 e1 e2 e3 e4 e9 T4 hb4 hg1 hv1 hown0 d4 hS0 hbl hml
  go_wp2_with (first
    | refine wpList_store_mid rfl 36 (.tmp 10) (.tmp 44) rfl V1.heap.size 0 cs2.toArray rfl rfl HTH.out HSZ3.out HO2.out ?_)
  have HV2 := Lib.hid (And.intro (show Below V1.heap.size V1 ((V1.alloc (.cells Tryz.zeroCells36 36)).setCells V1.heap.size 0 cs2.toArray.toList) from below_setCells (Nat.le_refl V1.heap.size) cs2.toArray.toList 0 _ (below1 V1 (.cells Tryz.zeroCells36 36))) (show ((V1.alloc (.cells Tryz.zeroCells36 36)).setCells V1.heap.size 0 cs2.toArray.toList).rangeAt V1.heap.size 0 cs2 from World.rangeAt_setCells_same _ _ 0 _ HTH.out))
  obtain ⟨g, hg⟩ : ∃ g, g = V1.heap.size := ⟨_, rfl⟩
  obtain ⟨V2, hV2⟩ : ∃ V2, V2 = (V1.alloc (.cells Tryz.zeroCells36 36)).setCells V1.heap.size 0 cs2.toArray.toList := ⟨_, rfl⟩
  rw [← hV2] at HV2 f9 f0 f1 f2 f3 f4 ⊢
  have HG := Lib.hid hg
  rw [← hg] at HV2 ⊢
  clear hV2 hg
  have HGS := Lib.hid (show w.heap.size + 1 + 1 < g from by have := T1.out.s; have := HG.out; omega)
  have T2 := Lib.hid (T1.out.more HF.out (HG.out ▸ HV2.out.1))
  have H2 := Lib.hid ((HH.out.below (below0 HB4.out HB1.out)).below (HG.out ▸ HV2.out.1))
  have hbd : Below V2.heap.size V2 V2.drew := (Below.refl _ _).drew
  have T2d := Lib.hid (T2.out.more HF.out hbd)
  have H2d := Lib.hid (HN.out _ (H2.out.below hbd))
  have B2d := Lib.hid (below0 (HG.out ▸ HV2.out.1 : Below V1.heap.size V1 V2) hbd)
  have hgl : g < V2.drew.heap.size := by
    have h2 := (HV2.out.2 0 _ (List.getElem?_eq_getElem (show 0 < cs2.length by rw [HLEN2.out]; decide)))
    exact lt_of_cell h2
  have HGL := Lib.hid hgl
  clear hbd hgl
  go_wp2_with fail
  refine wp_region_held_drew (S := (fun W : World => W.rangeAt g 0 cs2 ∧ W.cell? ⟨w.heap.size + 1, 1, none⟩ = some (.int .i64 ow) ∧ W.cell? ⟨w.heap.size + 1, 2, none⟩ = some (.int .i64 fn))) (by kernel_rfl) ⟨HV2.out.2, f1, f2⟩ (fun hHeld => ?_)
  refine wpAnyH_take (i := 0) (v := ?_) rfl (by kernel_rfl) (by kernel_rfl) (by kernel_rfl) (fun _ _ _ h => h) (Or.inl ⟨by kernel_rfl, ?_⟩) hHeld ?_
  rotate_left
  focus (intro w hSw; (try dsimp only at hSw); go_simp; try with_reducible rfl)
  simp only [Act.put]
  refine wpAnyH_take (i := 1) rfl (by kernel_rfl) (by kernel_rfl) (by kernel_rfl) (fun _ _ _ h => h) (yieldsIf_load_mid (by kernel_rfl) 36 (.tmp 10) rfl g 0 rfl cs2 _ (fun V hV => hV.1) Tryz.underlying36 rfl HSZ2.out) hHeld ?_
  simp only [Act.put]
  refine wpAnyH_take (i := 2) (v := ?_) rfl (by kernel_rfl) (by kernel_rfl) (by kernel_rfl) (fun _ _ _ h => h) (Or.inl ⟨by kernel_rfl, ?_⟩) hHeld ?_
  rotate_left
  focus (intro w hSw; (try dsimp only at hSw); go_simp; try with_reducible rfl)
  simp only [Act.put]
  refine wpAnyH_take (i := 3) (v := ?_) rfl (by kernel_rfl) (by kernel_rfl) (by kernel_rfl) (fun _ _ _ h => h) (Or.inl ⟨by kernel_rfl, ?_⟩) hHeld ?_
  rotate_left
  focus (intro w hSw; (try dsimp only at hSw); go_simp; try with_reducible rfl)
  simp only [Act.put]
  refine wpAnyH_take (i := 4) (v := ?_) rfl (by kernel_rfl) (by kernel_rfl) (by kernel_rfl) (fun _ _ _ h => h) (Or.inl ⟨by kernel_rfl, ?_⟩) hHeld ?_
  rotate_left
  focus (intro w hSw; (try dsimp only at hSw); go_simp; try with_reducible rfl)
  simp only [Act.put]
  refine wpAnyH_take (i := 5) (v := ?_) rfl (by kernel_rfl) (by kernel_rfl) (by kernel_rfl) (fun _ _ _ h => h) (Or.inl ⟨by kernel_rfl, ?_⟩) hHeld ?_
  rotate_left
  focus (intro w hSw; (try dsimp only at hSw); go_simp; try with_reducible rfl)
  simp only [Act.put]
  refine wpAnyH_take (i := 6) (v := ?_) rfl (by kernel_rfl) (by kernel_rfl) (by kernel_rfl) (fun _ _ _ h => h) (Or.inl ⟨by kernel_rfl, ?_⟩) hHeld ?_
  rotate_left
  focus (intro w hSw; (try dsimp only at hSw); go_simp; try with_reducible rfl)
  simp only [Act.put]
  refine wpAnyH_take (i := 9) (v := ?_) rfl (by kernel_rfl) (by kernel_rfl) (by kernel_rfl) (fun _ _ _ h => h) (Or.inl ⟨by kernel_rfl, ?_⟩) hHeld ?_
  rotate_left
  focus (intro w hSw; (try dsimp only at hSw); go_simp; try with_reducible rfl)
  simp only [Act.put]
  refine wpAnyH_ready (rs := [7]) (by kernel_rfl) (by simp) ?_
  refine AllReadyH.cons rfl (fun K hK => ?_) (AllReadyH.nil)
  go_simp
  refine (H2d.out).mono ?_
  rintro e V3 ⟨rfl, F', H3, hk3, hF3⟩
  have T3 := Lib.hid (T2d.out.next HF.out hk3)
  have hgF : ¬ F g := fun hf => by have := HF.out g hf; have := HGS.out; omega
  have hr3 : V3.rangeAt g 0 cs2 := fun j v hj => (World.cell?_of_block (hk3.block g HGL.out hgF)).trans (HV2.out.2 j v hj)
  have c3 := T3.out.c
  rw [HXX.out] at c3
  obtain ⟨g9, g0, g1, g2, g3, g4⟩ := c3
  simp only [HM.out] at g0 g1 g2 g3 g4
  have HS := Lib.hid (fun (W : World) (hW : ∀ q, q ≠ w.heap.size + 1 + 1 → W.heap[q]? = V3.heap[q]?) => (show (fun W : World => W.rangeAt g 0 cs2 ∧ W.cell? ⟨w.heap.size + 1, 1, none⟩ = some (.int .i64 ow) ∧ W.cell? ⟨w.heap.size + 1, 2, none⟩ = some (.int .i64 fn)) W from ⟨fun j v hj => (World.cell?_of_block (hW g (by have := HGS.out; omega))).trans (hr3 j v hj), (cell_same (hW (w.heap.size + 1) (by omega))).trans g1, (cell_same (hW (w.heap.size + 1) (by omega))).trans g2⟩))
  obtain ⟨F1, F2⟩ := T3.out.done (n := n) (c' := c') (T := w4) (U := V2.drew) (A := A) (A' := A') (p := p) HF.out HT4.out.s (Nat.le_trans HB1.out.size B2d.out.size) HA.out HO.out HL'.out (HLI.out.below B2d.out) HD.out hk3 H3 hF3
  rw [← HCS2.out] at F1 F2
  rw [HRV2.out] at F1 F2
  have G1 := Lib.hid F1
  have G2 := Lib.hid F2
  clear F1 F2 hgF hk3 H3 hF3 hr3 g9 g0 g1 g2 g3 g4
  refine hK.out _ _ (HS.out _ fun _ _ => rfl) (fun hHeld => ?_)
  clear hK K
  try simp only [Act.put]
  refine wpAnyH_ready (rs := [8]) (by kernel_rfl) (by simp) ?_
  refine AllReadyH.cons rfl (fun K hK => ?_) (AllReadyH.nil)
  go_simp
  refine (num_any _ _).mono ?_
  rintro e _ ⟨rfl, rfl⟩
  refine hK.out _ _ (HS.out _ fun _ _ => rfl) (fun hHeld => ?_)
  clear hK K
  try simp only [Act.put]
  refine wpAnyH_take (i := 10) (v := ?_) rfl (by kernel_rfl) (by kernel_rfl) (by kernel_rfl) (fun _ _ _ h => h) (Or.inl ⟨by kernel_rfl, ?_⟩) hHeld ?_
  rotate_left
  focus (intro w hSw; (try dsimp only at hSw); go_simp; try with_reducible rfl)
  simp only [Act.put]
  refine wpAnyH_ready (rs := [11]) (by kernel_rfl) (by simp) ?_
  refine AllReadyH.cons rfl (fun K hK => ?_) (AllReadyH.nil)
  go_simp
  refine hK.out _ _ (HS.out _ fun _ _ => rfl) (fun hHeld => ?_)
  clear hK K
  try simp only [Act.put]
  refine wpAnyH_ready (rs := [12]) (by kernel_rfl) (by simp) ?_
  refine AllReadyH.cons rfl (fun K hK => ?_) (AllReadyH.nil)
  refine step_store_mid rfl 36 _ _ rfl (w.heap.size + 1 + 1) 0 cs2.toArray (by simp [Act.eval]) (by simp [Act.eval]) (T3.out.there HLEN2.out) HSZ3.out HO2.out ?_
  refine hK.out _ _ (HS.out _ fun q hq => heap_setCells hq _ _ _) (fun hHeld => ?_)
  clear hK K
  try simp only [Act.put]
  refine wpAnyH_ready (rs := [13]) (by kernel_rfl) (by simp) ?_
  refine AllReadyH.cons rfl (fun K hK => ?_) (AllReadyH.nil)
  go_simp
  refine hK.out _ _ (HS.out _ fun q hq => heap_setCells hq _ _ _) (fun hHeld => ?_)
  clear hK K
  try simp only [Act.put]
  refine wpAnyH_done (by kernel_rfl) ?_ _
  go_wp2_with fail
  exact bodyPost_ret (res_mid Tryz.results10 rfl G1.out) rfl G2.out
end Go.Proofs.YtmbjjbgpcacoeaaGreat
