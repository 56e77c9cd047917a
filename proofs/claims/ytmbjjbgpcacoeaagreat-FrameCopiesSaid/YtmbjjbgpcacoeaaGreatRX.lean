import Derived.Test.YtmbjjbgpcacoeaaGreatRW
namespace Go.Proofs.YtmbjjbgpcacoeaaGreat
open Go.RowKit Go.Shelf Go.Maps Go.Sort
attribute [local go_sem] Oper.semAt_some

/- A CALL BY BOTH: WRITE. -/
set_option maxRecDepth 100000 in
set_option maxHeartbeats 4000000 in
theorem act_write (p : Pl) (A : Option Addr) (n c b : Nat) (F : Nat → Prop) (ow fn at_ : Int) (bs : List UInt8) (S : Option Addr) (m c2 : Nat) (w : World) (hfit : (⟨3, ow, fn, at_, bs, S, c2⟩ : Ac).fits w) (h : Has w b p F) (hl : p.fr.length = n) (hA : Lies w A p.fr) (hO : Off F A p.fr) (hm : bs.length = m) :
    Calls Tryz.prog 10 #[bx b, rv p A n c, .agg #[.int .i64 3, .int .i64 ow, .int .i64 fn, .int .i64 at_, .slice S m c2]] w (ActP w F A (writeP p fn at_ bs) n) := by
  have hok := h.ok
  have hF := h.lt
  obtain ⟨cs, hcs⟩ : ∃ cs, cs = rc p A n c := ⟨_, rfl⟩
  have hlen : cs.length = 65 := by rw [hcs, rc_len]
  have HSZ := Lib.hid (show (Tryz.prog.info? 36).map (·.size) = some cs.length from hcs ▸ refpool_size p A n c)
  have HRV := Lib.hid (show rv p A n c = .agg cs.toArray by rw [hcs]; rfl)
  rw [show rv p A n c = .agg cs.toArray by rw [hcs]; rfl]
  obtain ⟨i0, hi, hz0, hz1, hz2⟩ := info_parts u8_info
  obtain ⟨xx, hxx⟩ : ∃ xx : Ac, xx = ⟨3, ow, fn, at_, bs, S, c2⟩ := ⟨_, rfl⟩
  have T0 : AtW w F cs xx (((w.alloc (.cells cs.toArray 36)).alloc (.cells #[.int .i64 3, .int .i64 ow, .int .i64 fn, .int .i64 at_, .slice S m c2] 25)).alloc (.cells Tryz.zeroCells36 36)) := by
    rw [hxx, ← hm]
    exact AtW.new w F cs ⟨3, ow, fn, at_, bs, S, c2⟩
  have d4 : ((((w.alloc (.cells cs.toArray 36)).alloc (.cells #[.int .i64 3, .int .i64 ow, .int .i64 fn, .int .i64 at_, .slice S m c2] 25)).alloc (.cells Tryz.zeroCells36 36)).alloc (.cells #[] 5)).cell? ⟨w.heap.size + 1, 4, none⟩ = some (.slice S m c2) := by
    have hq := (T0.more hF (below1 _ (.cells #[] 5))).c.a4
    rw [hxx] at hq
    simp only [hm] at hq
    exact hq
  have hb3 : Below w.heap.size w (((w.alloc (.cells cs.toArray 36)).alloc (.cells #[.int .i64 3, .int .i64 ow, .int .i64 fn, .int .i64 at_, .slice S m c2] 25)).alloc (.cells Tryz.zeroCells36 36)) := below3 _ _ _ _
  have hown0 : ((((w.alloc (.cells cs.toArray 36)).alloc (.cells #[.int .i64 3, .int .i64 ow, .int .i64 fn, .int .i64 at_, .slice S m c2] 25)).alloc (.cells Tryz.zeroCells36 36)).alloc (.cells #[] 5)).ownsRow (w.heap.size + 1 + 1 + 1) 5 1 (.slice (some ⟨w.heap.size + 1 + 1 + 1, 0, none⟩) 0 0) 0 [] := by
    have hq : ((((w.alloc (.cells cs.toArray 36)).alloc (.cells #[.int .i64 3, .int .i64 ow, .int .i64 fn, .int .i64 at_, .slice S m c2] 25)).alloc (.cells Tryz.zeroCells36 36)).alloc (.cells #[] 5)).ownsRow (((w.alloc (.cells cs.toArray 36)).alloc (.cells #[.int .i64 3, .int .i64 ow, .int .i64 fn, .int .i64 at_, .slice S m c2] 25)).alloc (.cells Tryz.zeroCells36 36)).heap.size 5 1 (.slice (some ⟨(((w.alloc (.cells cs.toArray 36)).alloc (.cells #[.int .i64 3, .int .i64 ow, .int .i64 fn, .int .i64 at_, .slice S m c2] 25)).alloc (.cells Tryz.zeroCells36 36)).heap.size, 0, none⟩) 0 0) 0 [] := World.ownsRow_lit _ #[] 0 (Nat.le_refl _) (Nat.zero_le _) rfl
    simpa only [World.size_alloc] using hq
  have hS0 := ((hfit.sees.below hb3).alloc hb3.size (.cells #[] 5))
  have hbl : (byt bs).length = m * 1 := by rw [byt_length, hm]; omega
  have hml : m ≤ 140737488351232 := hm ▸ hfit.len
  have hfo := hfit.owner
  have hfn := hfit.n
  have hfa := hfit.at_
  have h0 := hb3.size
  have K0 := Lib.hid (fun w4 (hg : ((((w.alloc (.cells cs.toArray 36)).alloc (.cells #[.int .i64 3, .int .i64 ow, .int .i64 fn, .int .i64 at_, .slice S m c2] 25)).alloc (.cells Tryz.zeroCells36 36)).alloc (.cells #[] 5)).grownBy w4 (Value.slice (some ⟨w.heap.size + 1 + 1 + 1, 0, none⟩) 0 0).ownBlock) => (show Below (w.heap.size + 1 + 1 + 1) (((w.alloc (.cells cs.toArray 36)).alloc (.cells #[.int .i64 3, .int .i64 ow, .int .i64 fn, .int .i64 at_, .slice S m c2] 25)).alloc (.cells Tryz.zeroCells36 36)) w4 from by
    have hq := below1 (((w.alloc (.cells cs.toArray 36)).alloc (.cells #[.int .i64 3, .int .i64 ow, .int .i64 fn, .int .i64 at_, .slice S m c2] 25)).alloc (.cells Tryz.zeroCells36 36)) (.cells #[] 5)
    simp only [World.size_alloc] at hq
    exact hq.grown hg (by simp) (fun k hk => by cases hk; exact Nat.le_refl _)))
  have K1 := Lib.hid (fun w4 (hb : Below (w.heap.size + 1 + 1 + 1) (((w.alloc (.cells cs.toArray 36)).alloc (.cells #[.int .i64 3, .int .i64 ow, .int .i64 fn, .int .i64 at_, .slice S m c2] 25)).alloc (.cells Tryz.zeroCells36 36)) w4) => (show AtW w F cs xx w4 ∧ Below w.heap.size w w4 from ⟨T0.more hF (by simpa only [World.size_alloc] using hb), below0 hb3 (by simpa only [World.size_alloc] using hb)⟩))
  have HF := Lib.hid hF
  have HSS := Lib.hid hfit.sees
  have HH := Lib.hid h
  have HA := Lib.hid hA
  have HO := Lib.hid hO
  have HL := Lib.hid hl
  have HOK := Lib.hid hok
  have HCS := Lib.hid hcs
  have HM := Lib.hid hm
  have HFO := Lib.hid hfo
  have HFN := Lib.hid hfn
  have HFA := Lib.hid hfa
  have HB3 := Lib.hid hb3
  have HT0 := Lib.hid T0
  have HXX := Lib.hid hxx
  have hl65 := Lib.hid hlen
  have HRE := Lib.hid (fun V (hb : Below w.heap.size w V) => (HRV.out ▸ rwrite_any p A n c fn at_ S m c2 bs V HL.out HOK.out (HA.out.below hb) HM.out ((HSS.out.below hb).more hb.size) : Calls Tryz.prog 43 #[.agg cs.toArray, .int .i64 fn, .int .i64 at_, .slice S m c2] V (RefP V A (writeP p fn at_ bs) n [.int .i64 (reachE p fn at_ bs.length : Int)])))
  have HN := Lib.hid (fun V Av cv (hV : Has V b p F) (hS : Sees V V.heap.size Av (byt bs)) => write_any hV fn at_ (by have := HFN.out.2; exact this) HFA.out Av m cv bs HM.out hS)
  obtain ⟨E, hE⟩ : ∃ E, E = reachE p fn at_ bs.length := ⟨_, rfl⟩
  obtain ⟨p', hp'⟩ : ∃ p', p' = writeP p fn at_ bs := ⟨_, rfl⟩
  have hl' : p'.fr.length = p.fr.length := by rw [hp', writeP_len]
  rw [← hE, ← hp'] at HRE HN
  rw [← hp']
  have HL' := Lib.hid hl'
  have hEE : ((E : Int) == (E : Int)) = true := by simp
  have HMM := Lib.hid hml
  clear hE hp' hl'
  clear hF h hA hO hl hok hcs hlen hm hfo hfn hfa hb3 T0 h0 hfit hxx
  go_enter Tryz.func10, Tryz.ntmps10
  go_wp2_with (first
    | (at_builtin; refine wpList_append_sees rfl (.tmp 29) (.tmp 31) 23 rfl (w.heap.size + 1 + 1 + 1) 5 i0 _ 1 1 Tryz.underlying23 hi hz0 hz1 hz2 rfl (by decide) _ 0 [] rfl hown0 w.heap.size S m c2 (byt bs) rfl hbl hS0 byt_one (by unfold maxLen; omega) (by omega) (by simp only [World.size_alloc]; omega) ?_; intro v1 w4 hown1 hg1 hv1; obtain ⟨T4, hb4⟩ := K1.out w4 (K0.out w4 hg1); have q4 := T4.c; rw [HXX.out] at q4; obtain ⟨e9, e0, e1, e2, e3, e4⟩ := q4; simp only [HM.out] at e0 e1 e2 e3 e4; obtain ⟨Av, cv, rfl⟩ := own_slice hown1)
    | refine wpList_load_mid rfl 36 (.tmp 4) rfl w.heap.size 0 rfl cs _ e9 Tryz.underlying36 rfl HSZ.out ?_)
  have hown2 : w4.ownsRow (w.heap.size + 1 + 1 + 1) 5 1 (.slice Av m cv) m (byt bs) := by simpa only [Nat.zero_add, List.nil_append] using hown1
  obtain ⟨gb, hgb1, hgb2⟩ := ob_of HM.out hown2
  have hsw := Sees.of_own hown2
  have hgb3 : 0 < m → gb < w4.heap.size := fun hp => (hgb2 hp).2.2.lt
  have HGB := Lib.hid (And.intro hgb1 hgb3)
  have HGB2 := Lib.hid hgb2
  have HSW := Lib.hid hsw
  clear hgb1 hgb2 hgb3 hsw hown1 hown2
  refine (HRE.out _ hb4).mono ?_
  rintro e V1 ⟨A', c', rfl, hd, hLi, hb1⟩
  obtain ⟨cs2, hcs2⟩ : ∃ cs2, cs2 = rc p' A' n c' := ⟨_, rfl⟩
  have hrv2 : rv p' A' n c' = .agg cs2.toArray := by rw [hcs2]; rfl
  rw [hrv2]
  have hlen2 : cs2.length = 65 := by rw [hcs2, rc_len]
  have HCS2 := Lib.hid hcs2
  have HRV2 := Lib.hid hrv2
  have HLEN2 := Lib.hid hlen2
  have HSZ2 := Lib.hid (show (Tryz.prog.info? 36).map (·.size) = some cs2.length from hcs2 ▸ refpool_size p' A' n c')
  have HSZ3 := Lib.hid (refpool_size2 hlen2)
  have HO2 := Lib.hid (hcs2 ▸ rc_one p' A' n c' : cs2.toArray.all (·.oneCell') = true)
  have hth : (V1.alloc (.cells Tryz.zeroCells36 36)).there V1.heap.size 0 cs2.toArray.size := by
    show World.there _ _ 0 cs2.length
    rw [hlen2]
    exact (Rm.new V1).there
  have HTH := Lib.hid hth
  have HB1 := Lib.hid hb1
  have HB4 := Lib.hid hb4
  have HLI := Lib.hid hLi
  have HD := Lib.hid hd
  have T1 := Lib.hid (T4.more HF.out hb1)
  have q1 := (T4.more HF.out (below0 hb1 (below_setCells (Nat.le_refl V1.heap.size) cs2.toArray.toList 0 _ (below1 V1 (.cells Tryz.zeroCells36 36))))).c
  rw [HXX.out] at q1
  obtain ⟨f9, f0, f1, f2, f3, f4⟩ := q1
  simp only [HM.out] at f0 f1 f2 f3 f4
  have HT4 := Lib.hid T4
  clear hcs2 hrv2 hlen2 hth hb1 hLi hd e0 e1 e2 e3 e4 e9 T4 hb4 hg1 hv1 hown0 d4 hS0 hbl hml
  go_wp2_with (first
    | refine wpList_store_mid rfl 36 (.tmp 19) (.tmp 114) rfl V1.heap.size 0 cs2.toArray rfl rfl HTH.out HSZ3.out HO2.out ?_)
  have HV2 := Lib.hid (And.intro (show Below V1.heap.size V1 ((V1.alloc (.cells Tryz.zeroCells36 36)).setCells V1.heap.size 0 cs2.toArray.toList) from below_setCells (Nat.le_refl V1.heap.size) cs2.toArray.toList 0 _ (below1 V1 (.cells Tryz.zeroCells36 36))) (show ((V1.alloc (.cells Tryz.zeroCells36 36)).setCells V1.heap.size 0 cs2.toArray.toList).rangeAt V1.heap.size 0 cs2 from World.rangeAt_setCells_same _ _ 0 _ HTH.out))
  obtain ⟨g, hg⟩ : ∃ g, g = V1.heap.size := ⟨_, rfl⟩
  obtain ⟨V2, hV2⟩ : ∃ V2, V2 = (V1.alloc (.cells Tryz.zeroCells36 36)).setCells V1.heap.size 0 cs2.toArray.toList := ⟨_, rfl⟩
  rw [← hV2] at HV2 f9 f0 f1 f2 f3 f4 ⊢
  have HG := Lib.hid hg
  rw [← hg] at HV2 ⊢
  clear hV2 hg
  have HGS := Lib.hid (show w.heap.size + 1 + 1 < g from by have := T1.out.s; have := HG.out; omega)
  have T2 := Lib.hid (T1.out.more HF.out (HG.out ▸ HV2.out.1))
  have H2 := Lib.hid ((HH.out.below (below0 HB4.out HB1.out)).below (HG.out ▸ HV2.out.1))
  have hbd : Below V2.heap.size V2 V2 := Below.refl _ _
  have T2d := Lib.hid (T2.out.more HF.out hbd)
  have H2d := Lib.hid (HN.out V2 Av cv H2.out ((HSW.out.below (below0 HB1.out (HG.out ▸ HV2.out.1))).more (below0 HB1.out (HG.out ▸ HV2.out.1)).size))
  have B2d := Lib.hid (below0 (HG.out ▸ HV2.out.1 : Below V1.heap.size V1 V2) hbd)
  have hgl : g < V2.heap.size := by
    have h2 := (HV2.out.2 0 _ (List.getElem?_eq_getElem (show 0 < cs2.length by rw [HLEN2.out]; decide)))
    exact lt_of_cell h2
  have HGL := Lib.hid hgl
  clear hbd hgl
  go_wp2_with fail
  refine (H2d.out).mono ?_
  rintro e V3 ⟨rfl, F', H3, hk3, hF3⟩
  have HH3 := Lib.hid H3
  have HK3 := Lib.hid hk3
  have HF3 := Lib.hid hF3
  have hob3 : 0 < m → Ob V3 gb cv m := fun hp => by
    have hlt := HGB.out.2 hp
    have h1 := HB1.out.size
    have h2 := B2d.out.size
    refine (HGB2.out hp).2.2.keep ?_
    exact (hk3.block _ (by omega) (fun hf => by have := HF.out _ hf; have := HGB.out.1; omega)).trans ((B2d.out.block _ (by omega)).trans (HB1.out.block _ hlt))
  have hmb := HMM.out
  clear H3 hk3 hF3
  go_wp2_with fail
  go_loopw [22] (fun t W => ∃ k, t = .int .i64 ((k : Nat) : Int) ∧ k ≤ m ∧ Keep (fun q => 0 < m ∧ q = gb) V3 W ∧ (0 < m → Ob W gb cv m)) (fun t _ => m - (_root_.Go.RowKit.intOf t).toNat)
  case atStart => exact ⟨0, rfl, Nat.zero_le _, Keep.of_below (Below.refl _ _), hob3⟩
  case round =>
    obtain ⟨k, rfl, hk, hkp, hob⟩ := hrel
    by_cases hlt : k < m
    · have i0 : (0 : Int) ≤ (k : Int) := by omega
      have i1 : (k : Int) < (m : Int) := by omega
      have j1 : decide ((k : Int) < (m : Int)) = true := decide_eq_true i1
      obtain ⟨rfl, hcv, _⟩ := HGB2.out (by omega)
      have hob1 := hob (by omega)
      obtain ⟨z, hz, hc, hfz⟩ := hob1.at_ hlt
      have hz0 : (0 : Int) ≤ (z : Int) := by omega
      have ew : IntKind.i64.wrap ((k : Int) + 1) = (k : Int) + 1 := wrapI _ (by omega) (by omega)
      obtain ⟨y, hy⟩ : ∃ y : Nat, y = (z + 1) % 256 := ⟨_, rfl⟩
      have hy2 : y < 256 := by omega
      have eu : IntKind.u8.wrap ((z : Int) + 1) = (y : Int) := by
        have h1 : IntKind.u8.wrap ((z : Int) + 1) = ((z : Int) + 1) % 256 := rfl
        rw [h1, hy]
        omega
      have hset := Lib.hid (And.intro (hob1.set (i := k) hy2) (hkp.set (o := k) (.int .u8 (y : Int)) (.inl ⟨by omega, rfl⟩)))
      clear hob hob1 hkp hy
      go_wp2_with fail
      go_roundw
      case rel => exact ⟨k + 1, by go_num, by omega, hset.out.2, fun _ => hset.out.1⟩
      case measure => simp [_root_.Go.RowKit.intOf]; omega
    · obtain rfl : k = m := by omega
      have j1 : decide ((k : Int) < (k : Int)) = false := decide_eq_false (by omega)
      have hwr := hkp.size
      obtain ⟨V5, hV5⟩ : ∃ V5, V5 = wr.drew := ⟨_, rfl⟩
      have hbd5 : Below wr.heap.size wr V5 := by rw [hV5]; exact (Below.refl _ _).drew
      have hk35 : Keep (fun q => 0 < k ∧ q = gb) V3 V5 := hkp.trans (Keep.of_below (F := fun q => 0 < k ∧ q = gb) hbd5) fun _ _ h => h
      have hgbr : ∀ q, 0 < k ∧ q = gb → w.heap.size + 3 ≤ q ∧ q < w4.heap.size := by
        rintro q ⟨h1, rfl⟩
        exact ⟨HGB.out.1, HGB.out.2 h1⟩
      have hk5 : Keep (fun q => F q ∨ (w.heap.size + 3 ≤ q ∧ q < w4.heap.size)) V2 V5 := (HK3.out.mono fun q _ h => Or.inl h).trans (hk35.mono fun q _ h => (Or.inr (hgbr q h) : F q ∨ (w.heap.size + 3 ≤ q ∧ q < w4.heap.size))) fun _ _ h => h
      have hs12 := Nat.le_trans HB1.out.size B2d.out.size
      have H5 : Has V5 b p' F' := HH3.out.keep fun q hq => hk35.block q (HH3.out.lt q hq) (fun hg => by
        have h1 := hgbr q hg
        rcases HF3.out q hq with h2 | h2
        · have := HF.out q h2; omega
        · omega)
      have T3 := T2d.out.next HF.out HK3.out
      have T5 : AtW w F cs xx V5 := ⟨T3.keep.trans (hk35.mono fun q _ h => h) fun q hq hg => by have := hgbr q hg; omega, Nat.le_trans T3.s hk35.size, hk35.row T3.t fun hg => by have := hgbr _ hg; omega, hk35.row T3.a fun hg => by have := hgbr _ hg; omega, T3.r.same (hk35.block _ T3.r.lt fun hg => by have := hgbr _ hg; omega)⟩
      have T3 := Lib.hid T5
      have hgF : ¬ (F g ∨ (w.heap.size + 3 ≤ g ∧ g < w4.heap.size)) := fun hf => hf.elim (fun hf => by have := HF.out g hf; have := HGS.out; omega) (fun h => by have h1 := HB1.out.size; have h2 := HG.out; omega)
      have hr3 : V5.rangeAt g 0 cs2 := fun j v hj => (World.cell?_of_block (hk5.block g HGL.out hgF)).trans (HV2.out.2 j v hj)
      have HS := Lib.hid (fun (W : World) (hW : ∀ q, q ≠ w.heap.size + 1 + 1 → W.heap[q]? = V5.heap[q]?) => (show (fun W : World => W.rangeAt g 0 cs2) W from fun j v hj => (World.cell?_of_block (hW g (by have := HGS.out; omega))).trans (hr3 j v hj)))
      obtain ⟨F1, F2⟩ := T5.done2 (n := n) (c' := c') (T := w4) (U := V2) (A := A) (A' := A') (p := p) HF.out HT4.out.s hs12 HA.out HO.out HL'.out (HLI.out.below B2d.out) HD.out hk5 H5 HF3.out
      rw [← HCS2.out] at F1 F2
      rw [HRV2.out] at F1 F2
      have G1 := Lib.hid F1
      have G2 := Lib.hid F2
      clear F1 F2 hgF H5 hr3 T5 hk5 hk35 hgbr hbd5 hkp hob hwr hs12 hob3
      go_wp2_with fail
      refine wp_region_held_drew (S := (fun W : World => W.rangeAt g 0 cs2)) (by kernel_rfl) (by rw [← hV5]; exact HS.out _ fun _ _ => rfl) (fun hHeld => ?_)
      rw [← hV5] at hHeld ⊢
      clear hV5
      refine wpAnyH_take (i := 0) (v := ?_) rfl (by kernel_rfl) (by kernel_rfl) (by kernel_rfl) (fun _ _ _ h => h) (Or.inl ⟨by kernel_rfl, ?_⟩) hHeld ?_
      rotate_left
      focus (intro w hSw; (try dsimp only at hSw); go_simp; try with_reducible rfl)
      simp only [Act.put]
      refine wpAnyH_take (i := 1) rfl (by kernel_rfl) (by kernel_rfl) (by kernel_rfl) (fun _ _ _ h => h) (yieldsIf_load_mid (by kernel_rfl) 36 (.tmp 19) rfl g 0 rfl cs2 _ (fun V hV => hV) Tryz.underlying36 rfl HSZ2.out) hHeld ?_
      simp only [Act.put]
      refine wpAnyH_take (i := 2) (v := ?_) rfl (by kernel_rfl) (by kernel_rfl) (by kernel_rfl) (fun _ _ _ h => h) (Or.inl ⟨by kernel_rfl, ?_⟩) hHeld ?_
      rotate_left
      focus (intro w hSw; (try dsimp only at hSw); go_simp; try with_reducible rfl)
      simp only [Act.put]
      refine wpAnyH_take (i := 4) (v := ?_) rfl (by kernel_rfl) (by kernel_rfl) (by kernel_rfl) (fun _ _ _ h => h) (Or.inl ⟨by kernel_rfl, ?_⟩) hHeld ?_
      rotate_left
      focus (intro w hSw; (try dsimp only at hSw); go_simp; try with_reducible rfl)
      simp only [Act.put]
      refine wpAnyH_ready (rs := [3]) (by kernel_rfl) (by simp) ?_
      refine AllReadyH.cons rfl (fun K hK => ?_) (AllReadyH.nil)
      go_simp
      refine (num_any _ _).mono ?_
      rintro e _ ⟨rfl, rfl⟩
      refine hK.out _ _ (HS.out _ fun _ _ => rfl) (fun hHeld => ?_)
      clear hK K
      try simp only [Act.put]
      refine wpAnyH_take (i := 5) (v := ?_) rfl (by kernel_rfl) (by kernel_rfl) (by kernel_rfl) (fun _ _ _ h => h) (Or.inl ⟨by kernel_rfl, ?_⟩) hHeld ?_
      rotate_left
      focus (intro w hSw; (try dsimp only at hSw); go_simp; try with_reducible rfl)
      simp only [Act.put]
      refine wpAnyH_ready (rs := [6]) (by kernel_rfl) (by simp) ?_
      refine AllReadyH.cons rfl (fun K hK => ?_) (AllReadyH.nil)
      go_simp
      refine hK.out _ _ (HS.out _ fun _ _ => rfl) (fun hHeld => ?_)
      clear hK K
      try simp only [Act.put]
      refine wpAnyH_ready (rs := [7]) (by kernel_rfl) (by simp) ?_
      refine AllReadyH.cons rfl (fun K hK => ?_) (AllReadyH.nil)
      refine step_store_mid rfl 36 _ _ rfl (w.heap.size + 1 + 1) 0 cs2.toArray (by simp [Act.eval]) (by simp [Act.eval]) (T3.out.there HLEN2.out) HSZ3.out HO2.out ?_
      refine hK.out _ _ (HS.out _ fun q hq => heap_setCells hq _ _ _) (fun hHeld => ?_)
      clear hK K
      try simp only [Act.put]
      refine wpAnyH_ready (rs := [8]) (by kernel_rfl) (by simp) ?_
      refine AllReadyH.cons rfl (fun K hK => ?_) (AllReadyH.nil)
      go_simp
      refine hK.out _ _ (HS.out _ fun q hq => heap_setCells hq _ _ _) (fun hHeld => ?_)
      clear hK K
      try simp only [Act.put]
      refine wpAnyH_done (by kernel_rfl) ?_ _
      go_wp2_with fail
      exact bodyPost_ret (res_mid Tryz.results10 rfl G1.out) rfl G2.out
end Go.Proofs.YtmbjjbgpcacoeaaGreat
