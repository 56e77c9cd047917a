import Derived.Test.YtmbjjbgpcacoeaaGreatRW
namespace Go.Proofs.YtmbjjbgpcacoeaaGreat
open Go.RowKit Go.Shelf Go.Maps Go.Sort
attribute [local go_sem] Oper.semAt_some

/- A CALL BY BOTH: READ, COPY. -/
set_option maxRecDepth 100000 in
set_option maxHeartbeats 4000000 in
theorem act_read (p : Pl) (A : Option Addr) (n c b : Nat) (F : Nat → Prop) (ow fn at_ : Int) (bs : List UInt8) (S : Option Addr) (m c2 : Nat) (w : World) (hfit : (⟨4, ow, fn, at_, bs, S, c2⟩ : Ac).fits w) (h : Has w b p F) (hl : p.fr.length = n) (hA : Lies w A p.fr) (hO : Off F A p.fr) (hm : bs.length = m) :
    Calls Tryz.prog 10 #[bx b, rv p A n c, .agg #[.int .i64 4, .int .i64 ow, .int .i64 fn, .int .i64 at_, .slice S m c2]] w (ActP w F A p n) := by
  have hok := h.ok
  have hF := h.lt
  obtain ⟨cs, hcs⟩ : ∃ cs, cs = rc p A n c := ⟨_, rfl⟩
  have hlen : cs.length = 65 := by rw [hcs, rc_len]
  have HSZ := Lib.hid (show (Tryz.prog.info? 36).map (·.size) = some cs.length from hcs ▸ refpool_size p A n c)
  have HRV := Lib.hid (show rv p A n c = .agg cs.toArray by rw [hcs]; rfl)
  rw [show rv p A n c = .agg cs.toArray by rw [hcs]; rfl]
  obtain ⟨i0, hi, hz0, hz1, hz2⟩ := info_parts u8_info
  obtain ⟨xx, hxx⟩ : ∃ xx : Ac, xx = ⟨4, ow, fn, at_, bs, S, c2⟩ := ⟨_, rfl⟩
  have T0 : AtW w F cs xx (((w.alloc (.cells cs.toArray 36)).alloc (.cells #[.int .i64 4, .int .i64 ow, .int .i64 fn, .int .i64 at_, .slice S m c2] 25)).alloc (.cells Tryz.zeroCells36 36)) := by
    rw [hxx, ← hm]
    exact AtW.new w F cs ⟨4, ow, fn, at_, bs, S, c2⟩
  have d4 : ((((w.alloc (.cells cs.toArray 36)).alloc (.cells #[.int .i64 4, .int .i64 ow, .int .i64 fn, .int .i64 at_, .slice S m c2] 25)).alloc (.cells Tryz.zeroCells36 36)).alloc (.cells #[] 5)).cell? ⟨w.heap.size + 1, 4, none⟩ = some (.slice S m c2) := by
    have hq := (T0.more hF (below1 _ (.cells #[] 5))).c.a4
    rw [hxx] at hq
    simp only [hm] at hq
    exact hq
  have hb3 : Below w.heap.size w (((w.alloc (.cells cs.toArray 36)).alloc (.cells #[.int .i64 4, .int .i64 ow, .int .i64 fn, .int .i64 at_, .slice S m c2] 25)).alloc (.cells Tryz.zeroCells36 36)) := below3 _ _ _ _
  have hown0 : ((((w.alloc (.cells cs.toArray 36)).alloc (.cells #[.int .i64 4, .int .i64 ow, .int .i64 fn, .int .i64 at_, .slice S m c2] 25)).alloc (.cells Tryz.zeroCells36 36)).alloc (.cells #[] 5)).ownsRow (w.heap.size + 1 + 1 + 1) 5 1 (.slice (some ⟨w.heap.size + 1 + 1 + 1, 0, none⟩) 0 0) 0 [] := by
    have hq : ((((w.alloc (.cells cs.toArray 36)).alloc (.cells #[.int .i64 4, .int .i64 ow, .int .i64 fn, .int .i64 at_, .slice S m c2] 25)).alloc (.cells Tryz.zeroCells36 36)).alloc (.cells #[] 5)).ownsRow (((w.alloc (.cells cs.toArray 36)).alloc (.cells #[.int .i64 4, .int .i64 ow, .int .i64 fn, .int .i64 at_, .slice S m c2] 25)).alloc (.cells Tryz.zeroCells36 36)).heap.size 5 1 (.slice (some ⟨(((w.alloc (.cells cs.toArray 36)).alloc (.cells #[.int .i64 4, .int .i64 ow, .int .i64 fn, .int .i64 at_, .slice S m c2] 25)).alloc (.cells Tryz.zeroCells36 36)).heap.size, 0, none⟩) 0 0) 0 [] := World.ownsRow_lit _ #[] 0 (Nat.le_refl _) (Nat.zero_le _) rfl
    simpa only [World.size_alloc] using hq
  have hS0 := ((hfit.sees.below hb3).alloc hb3.size (.cells #[] 5))
  have hbl : (byt bs).length = m * 1 := by rw [byt_length, hm]; omega
  have hml : m ≤ 140737488351232 := hm ▸ hfit.len
  have hfo := hfit.owner
  have hfn := hfit.n
  have hfa := hfit.at_
  have h0 := hb3.size
  have K0 := Lib.hid (fun w4 (hg : ((((w.alloc (.cells cs.toArray 36)).alloc (.cells #[.int .i64 4, .int .i64 ow, .int .i64 fn, .int .i64 at_, .slice S m c2] 25)).alloc (.cells Tryz.zeroCells36 36)).alloc (.cells #[] 5)).grownBy w4 (Value.slice (some ⟨w.heap.size + 1 + 1 + 1, 0, none⟩) 0 0).ownBlock) => (show Below (w.heap.size + 1 + 1 + 1) (((w.alloc (.cells cs.toArray 36)).alloc (.cells #[.int .i64 4, .int .i64 ow, .int .i64 fn, .int .i64 at_, .slice S m c2] 25)).alloc (.cells Tryz.zeroCells36 36)) w4 from by
    have hq := below1 (((w.alloc (.cells cs.toArray 36)).alloc (.cells #[.int .i64 4, .int .i64 ow, .int .i64 fn, .int .i64 at_, .slice S m c2] 25)).alloc (.cells Tryz.zeroCells36 36)) (.cells #[] 5)
    simp only [World.size_alloc] at hq
    exact hq.grown hg (by simp) (fun k hk => by cases hk; exact Nat.le_refl _)))
  have K1 := Lib.hid (fun w4 (hb : Below (w.heap.size + 1 + 1 + 1) (((w.alloc (.cells cs.toArray 36)).alloc (.cells #[.int .i64 4, .int .i64 ow, .int .i64 fn, .int .i64 at_, .slice S m c2] 25)).alloc (.cells Tryz.zeroCells36 36)) w4) => (show AtW w F cs xx w4 ∧ Below w.heap.size w w4 from ⟨T0.more hF (by simpa only [World.size_alloc] using hb), below0 hb3 (by simpa only [World.size_alloc] using hb)⟩))
  have HF := Lib.hid hF
  have HH := Lib.hid h
  have HA := Lib.hid hA
  have HO := Lib.hid hO
  have HL := Lib.hid hl
  have HOK := Lib.hid hok
  have HCS := Lib.hid hcs
  have HM := Lib.hid hm
  have HFO := Lib.hid hfo
  have HFN := Lib.hid hfn
  have HFA := Lib.hid hfa
  have HB3 := Lib.hid hb3
  have HT0 := Lib.hid T0
  have HXX := Lib.hid hxx
  have hl65 := Lib.hid hlen
  have HONE := Lib.hid (hcs ▸ rc_one p A n c : cs.toArray.all (·.oneCell') = true)
  have HRE := Lib.hid (fun V (hb : Below w.heap.size w V) => (HRV.out ▸ rread_any p A n c fn at_ (m : Int) V HL.out HOK.out (HA.out.below hb) : Calls Tryz.prog 44 #[.agg cs.toArray, .int .i64 fn, .int .i64 at_, .int .i64 (m : Int)] V fun e w' => e = .returned (.tuple #[.string (str (readP p fn at_ (m : Int))), .int .i64 (reachE p fn at_ (m : Int) : Int)]) ∧ Below V.heap.size V w'))
  have HN := Lib.hid (fun V (hV : Has V b p F) => read_any hV fn at_ (m : Int) (by have := HFN.out.2; exact this) HFA.out)
  obtain ⟨E, hE⟩ : ∃ E, E = reachE p fn at_ (m : Int) := ⟨_, rfl⟩
  have hRl : (readP p fn at_ (m : Int)).length ≤ m := by
    unfold readP
    split
    · split
      · rw [List.length_take]
        omega
      · exact Nat.zero_le _
    · exact Nat.zero_le _
  obtain ⟨R, hR⟩ : ∃ R, R = readP p fn at_ (m : Int) := ⟨_, rfl⟩
  rw [← hE, ← hR] at HRE
  rw [← hE, ← hR] at HN
  rw [← hR] at hRl
  have HRL := Lib.hid hRl
  have hEE : ((E : Int) == (E : Int)) = true := by simp
  have HMM := Lib.hid hml
  clear hE hR hRl
  clear hF h hA hO hl hok hcs hlen hm hfo hfn hfa hb3 T0 h0 hfit hxx
  go_enter Tryz.func10, Tryz.ntmps10
  go_wp2_with (first
    | (at_builtin; refine wpList_append_sees rfl (.tmp 29) (.tmp 31) 23 rfl (w.heap.size + 1 + 1 + 1) 5 i0 _ 1 1 Tryz.underlying23 hi hz0 hz1 hz2 rfl (by decide) _ 0 [] rfl hown0 w.heap.size S m c2 (byt bs) rfl hbl hS0 byt_one (by unfold maxLen; omega) (by omega) (by simp only [World.size_alloc]; omega) ?_; intro v1 w4 hown1 hg1 hv1; obtain ⟨T4, hb4⟩ := K1.out w4 (K0.out w4 hg1); have q4 := T4.c; rw [HXX.out] at q4; obtain ⟨e9, e0, e1, e2, e3, e4⟩ := q4; simp only [HM.out] at e0 e1 e2 e3 e4; obtain ⟨Av, cv, rfl⟩ := own_slice hown1)
    | refine wpList_load_mid rfl 36 (.tmp 4) rfl w.heap.size 0 rfl cs _ e9 Tryz.underlying36 rfl HSZ.out ?_)
  refine (HRE.out _ hb4).mono ?_
  rintro e V1 ⟨rfl, hb1⟩
  have HT4 := Lib.hid T4
  have T1 := Lib.hid (T4.more HF.out hb1)
  have q1 := T1.out.c
  rw [HXX.out] at q1
  obtain ⟨f9, f0, f1, f2, f3, f4⟩ := q1
  simp only [HM.out] at f0 f1 f2 f3 f4
  have HB1 := Lib.hid hb1
  have HB4 := Lib.hid hb4
  have H1 := Lib.hid (HN.out _ (HH.out.below (below0 hb4 hb1)))
  have HH1 := Lib.hid (HH.out.below (below0 hb4 hb1))
  clear hb1 e0 e1 e2 e3 e4 e9 T4 hb4 hg1 hv1 hown0 d4 hS0 hbl hml hown1
  go_wp2_with fail
  refine (H1.out).mono ?_
  rintro e V4 ⟨Ag, L, cg, rfl, hL, hLc, hown, hb5⟩
  have hcv := run_conv_sees (P := Tryz.prog) V4 Tryz.underlying23 Tryz.underlying5 Tryz.underlying9 (c := cg) hL.symm (Sees.of_own hown)
  obtain ⟨gb, hgb1, hgb2⟩ := ob_of hL.symm hown
  have hgs : w.heap.size + 3 ≤ gb := by have := T1.out.s; omega
  have hob4 : 0 < L → Ob V4 gb cg L := fun hp => (hgb2 hp).2.2
  have HGB2 := Lib.hid hgb2
  have hlm : L ≤ 140737488351232 := by have := HRL.out; have := HMM.out; omega
  have T4 := Lib.hid (T1.out.more HF.out hb5)
  have HH4 := Lib.hid (HH1.out.below hb5)
  obtain ⟨s, hs⟩ : ∃ s, s = str R := ⟨_, rfl⟩
  rw [← hs] at hcv ⊢
  have hss : (s.toList == s.toList) = true := by simp
  clear hs hL hown hgb1 hgb2 hb5 f9 f0 f1 f2 f3 f4
  go_wp2_with (first
    | (go_at_call 13; refine (num_any _ _).mono ?_; rintro e _ ⟨rfl, rfl⟩))
  go_loopw [28] (fun t W => ∃ k, t = .int .i64 ((k : Nat) : Int) ∧ k ≤ L ∧ Keep (fun q => 0 < L ∧ q = gb) V4 W ∧ (0 < L → Ob W gb cg L)) (fun t _ => L - (_root_.Go.RowKit.intOf t).toNat)
  case atStart => exact ⟨0, rfl, Nat.zero_le _, Keep.of_below (Below.refl _ _), hob4⟩
  case round =>
    obtain ⟨k, rfl, hk, hkp, hob⟩ := hrel
    by_cases hlt : k < L
    · have i0 : (0 : Int) ≤ (k : Int) := by omega
      have i1 : (k : Int) < (L : Int) := by omega
      have j1 : decide ((k : Int) < (L : Int)) = true := decide_eq_true i1
      obtain ⟨rfl, hcvv, _⟩ := HGB2.out (by omega)
      have hob1 := hob (by omega)
      obtain ⟨z, hz, hc, hfz⟩ := hob1.at_ hlt
      have hz0 : (0 : Int) ≤ (z : Int) := by omega
      have ew : IntKind.i64.wrap ((k : Int) + 1) = (k : Int) + 1 := wrapI _ (by omega) (by omega)
      obtain ⟨y, hy⟩ : ∃ y : Nat, y = (z + 1) % 256 := ⟨_, rfl⟩
      have hy2 : y < 256 := by omega
      have eu : IntKind.u8.wrap ((z : Int) + 1) = (y : Int) := by
        have h1 : IntKind.u8.wrap ((z : Int) + 1) = ((z : Int) + 1) % 256 := rfl
        rw [h1, hy]
        omega
      have hset := Lib.hid (And.intro (hob1.set (i := k) hy2) (hkp.set (o := k) (.int .u8 (y : Int)) (.inl ⟨by omega, rfl⟩)))
      clear hob hob1 hkp hy
      go_wp2_with fail
      go_roundw
      case rel => exact ⟨k + 1, by go_num, by omega, hset.out.2, fun _ => hset.out.1⟩
      case measure => simp [_root_.Go.RowKit.intOf]; omega
    · obtain rfl : k = L := by omega
      have j1 : decide ((k : Int) < (k : Int)) = false := decide_eq_false (by omega)
      have hwr := hkp.size
      obtain ⟨V5, hV5⟩ : ∃ V5, V5 = wr.drew := ⟨_, rfl⟩
      have hbd5 : Below wr.heap.size wr V5 := by rw [hV5]; exact (Below.refl _ _).drew
      have hk35 : Keep (fun q => 0 < k ∧ q = gb) V4 V5 := hkp.trans (Keep.of_below (F := fun q => 0 < k ∧ q = gb) hbd5) fun _ _ h => h
      have hgbr : ∀ q, 0 < k ∧ q = gb → w.heap.size + 3 ≤ q := by
        rintro q ⟨h1, rfl⟩
        exact hgs
      have H5 : Has V5 b p F := HH4.out.keep fun q hq => hk35.block q (HH4.out.lt q hq) (fun hg => by
        have h1 := hgbr q hg
        have := HF.out q hq
        omega)
      have T3 := T4.out
      have T5 : AtW w F cs xx V5 := ⟨T3.keep.trans (hk35.mono fun q _ h => h) fun q hq hg => by have := hgbr q hg; omega, Nat.le_trans T3.s hk35.size, hk35.row T3.t fun hg => by have := hgbr _ hg; omega, hk35.row T3.a fun hg => by have := hgbr _ hg; omega, T3.r.same (hk35.block _ T3.r.lt fun hg => by have := hgbr _ hg; omega)⟩
      have T3 := Lib.hid T5
      have hr5 := T5.c.t0
      have HS := Lib.hid (fun (W : World) (hW : ∀ q, q ≠ w.heap.size + 1 + 1 → W.heap[q]? = V5.heap[q]?) => (show (fun W : World => W.rangeAt w.heap.size 0 cs) W from fun j v hj => (World.cell?_of_block (hW w.heap.size (by omega))).trans (hr5 j v hj)))
      obtain ⟨F1, F2⟩ := T5.stay (n := n) (c := c) HF.out HA.out HO.out H5 (fun _ h => .inl h)
      rw [← HCS.out] at F1 F2
      rw [HRV.out] at F1 F2
      have G1 := Lib.hid F1
      have G2 := Lib.hid F2
      clear F1 F2 H5 T5 hk35 hgbr hbd5 hkp hob hwr hob4 hr5
      go_wp2_with fail
      refine wp_region_held_drew (S := (fun W : World => W.rangeAt w.heap.size 0 cs)) (by kernel_rfl) (by rw [← hV5]; exact HS.out _ fun _ _ => rfl) (fun hHeld => ?_)
      rw [← hV5] at hHeld ⊢
      clear hV5
      refine wpAnyH_take (i := 0) (v := ?_) rfl (by kernel_rfl) (by kernel_rfl) (by kernel_rfl) (fun _ _ _ h => h) (Or.inl ⟨by kernel_rfl, ?_⟩) hHeld ?_
      rotate_left
      focus (intro w hSw; (try dsimp only at hSw); go_simp; try with_reducible rfl)
      simp only [Act.put]
      refine wpAnyH_take (i := 1) rfl (by kernel_rfl) (by kernel_rfl) (by kernel_rfl) (fun _ _ _ h => h) (yieldsIf_load_mid (by kernel_rfl) 36 (.tmp 4) rfl w.heap.size 0 rfl cs _ (fun V hV => hV) Tryz.underlying36 rfl HSZ.out) hHeld ?_
      simp only [Act.put]
      refine wpAnyH_take (i := 2) (v := ?_) rfl (by kernel_rfl) (by kernel_rfl) (by kernel_rfl) (fun _ _ _ h => h) (Or.inl ⟨by kernel_rfl, ?_⟩) hHeld ?_
      rotate_left
      focus (intro w hSw; (try dsimp only at hSw); go_simp; try with_reducible rfl)
      simp only [Act.put]
      refine wpAnyH_ready (rs := [3]) (by kernel_rfl) (by simp) ?_
      refine AllReadyH.cons rfl (fun K hK => ?_) (AllReadyH.nil)
      go_simp
      refine hK.out _ _ (HS.out _ fun _ _ => rfl) (fun hHeld => ?_)
      clear hK K
      try simp only [Act.put]
      refine wpAnyH_ready (rs := [4]) (by kernel_rfl) (by simp) ?_
      refine AllReadyH.cons rfl (fun K hK => ?_) (AllReadyH.nil)
      refine step_store_mid rfl 36 _ _ rfl (w.heap.size + 1 + 1) 0 cs.toArray (by simp [Act.eval]) (by simp [Act.eval]) (T3.out.there hl65.out) (refpool_size2 hl65.out) HONE.out ?_
      refine hK.out _ _ (HS.out _ fun q hq => heap_setCells hq _ _ _) (fun hHeld => ?_)
      clear hK K
      try simp only [Act.put]
      refine wpAnyH_ready (rs := [5]) (by kernel_rfl) (by simp) ?_
      refine AllReadyH.cons rfl (fun K hK => ?_) (AllReadyH.nil)
      go_simp
      refine hK.out _ _ (HS.out _ fun q hq => heap_setCells hq _ _ _) (fun hHeld => ?_)
      clear hK K
      try simp only [Act.put]
      refine wpAnyH_done (by kernel_rfl) ?_ _
      go_wp2_with fail
      exact bodyPost_ret (res_mid Tryz.results10 rfl G1.out) rfl G2.out
set_option maxRecDepth 100000 in
set_option maxHeartbeats 4000000 in
theorem act_copy (p : Pl) (A : Option Addr) (n c b : Nat) (F : Nat → Prop) (ow fn at_ : Int) (bs : List UInt8) (S : Option Addr) (m c2 : Nat) (w : World) (wh : Int) (k0 : wh ≠ 0) (k1 : wh ≠ 1) (k2 : wh ≠ 2) (k3 : wh ≠ 3) (k4 : wh ≠ 4) (hfit : (⟨wh, ow, fn, at_, bs, S, c2⟩ : Ac).fits w) (h : Has w b p F) (hl : p.fr.length = n) (hA : Lies w A p.fr) (hO : Off F A p.fr) (hm : bs.length = m) :
    Calls Tryz.prog 10 #[bx b, rv p A n c, .agg #[.int .i64 wh, .int .i64 ow, .int .i64 fn, .int .i64 at_, .slice S m c2]] w (ActP w F A p n) := by
  have hok := h.ok
  have hF := h.lt
  obtain ⟨cs, hcs⟩ : ∃ cs, cs = rc p A n c := ⟨_, rfl⟩
  have hlen : cs.length = 65 := by rw [hcs, rc_len]
  have HSZ := Lib.hid (show (Tryz.prog.info? 36).map (·.size) = some cs.length from hcs ▸ refpool_size p A n c)
  have HRV := Lib.hid (show rv p A n c = .agg cs.toArray by rw [hcs]; rfl)
  rw [show rv p A n c = .agg cs.toArray by rw [hcs]; rfl]
  obtain ⟨i0, hi, hz0, hz1, hz2⟩ := info_parts u8_info
  obtain ⟨xx, hxx⟩ : ∃ xx : Ac, xx = ⟨wh, ow, fn, at_, bs, S, c2⟩ := ⟨_, rfl⟩
  have T0 : AtW w F cs xx (((w.alloc (.cells cs.toArray 36)).alloc (.cells #[.int .i64 wh, .int .i64 ow, .int .i64 fn, .int .i64 at_, .slice S m c2] 25)).alloc (.cells Tryz.zeroCells36 36)) := by
    rw [hxx, ← hm]
    exact AtW.new w F cs ⟨wh, ow, fn, at_, bs, S, c2⟩
  have d4 : ((((w.alloc (.cells cs.toArray 36)).alloc (.cells #[.int .i64 wh, .int .i64 ow, .int .i64 fn, .int .i64 at_, .slice S m c2] 25)).alloc (.cells Tryz.zeroCells36 36)).alloc (.cells #[] 5)).cell? ⟨w.heap.size + 1, 4, none⟩ = some (.slice S m c2) := by
    have hq := (T0.more hF (below1 _ (.cells #[] 5))).c.a4
    rw [hxx] at hq
    simp only [hm] at hq
    exact hq
  have hb3 : Below w.heap.size w (((w.alloc (.cells cs.toArray 36)).alloc (.cells #[.int .i64 wh, .int .i64 ow, .int .i64 fn, .int .i64 at_, .slice S m c2] 25)).alloc (.cells Tryz.zeroCells36 36)) := below3 _ _ _ _
  have hown0 : ((((w.alloc (.cells cs.toArray 36)).alloc (.cells #[.int .i64 wh, .int .i64 ow, .int .i64 fn, .int .i64 at_, .slice S m c2] 25)).alloc (.cells Tryz.zeroCells36 36)).alloc (.cells #[] 5)).ownsRow (w.heap.size + 1 + 1 + 1) 5 1 (.slice (some ⟨w.heap.size + 1 + 1 + 1, 0, none⟩) 0 0) 0 [] := by
    have hq : ((((w.alloc (.cells cs.toArray 36)).alloc (.cells #[.int .i64 wh, .int .i64 ow, .int .i64 fn, .int .i64 at_, .slice S m c2] 25)).alloc (.cells Tryz.zeroCells36 36)).alloc (.cells #[] 5)).ownsRow (((w.alloc (.cells cs.toArray 36)).alloc (.cells #[.int .i64 wh, .int .i64 ow, .int .i64 fn, .int .i64 at_, .slice S m c2] 25)).alloc (.cells Tryz.zeroCells36 36)).heap.size 5 1 (.slice (some ⟨(((w.alloc (.cells cs.toArray 36)).alloc (.cells #[.int .i64 wh, .int .i64 ow, .int .i64 fn, .int .i64 at_, .slice S m c2] 25)).alloc (.cells Tryz.zeroCells36 36)).heap.size, 0, none⟩) 0 0) 0 [] := World.ownsRow_lit _ #[] 0 (Nat.le_refl _) (Nat.zero_le _) rfl
    simpa only [World.size_alloc] using hq
  have hS0 := ((hfit.sees.below hb3).alloc hb3.size (.cells #[] 5))
  have hbl : (byt bs).length = m * 1 := by rw [byt_length, hm]; omega
  have hml : m ≤ 140737488351232 := hm ▸ hfit.len
  have hfo := hfit.owner
  have hfn := hfit.n
  have hfa := hfit.at_
  have h0 := hb3.size
  have K0 := Lib.hid (fun w4 (hg : ((((w.alloc (.cells cs.toArray 36)).alloc (.cells #[.int .i64 wh, .int .i64 ow, .int .i64 fn, .int .i64 at_, .slice S m c2] 25)).alloc (.cells Tryz.zeroCells36 36)).alloc (.cells #[] 5)).grownBy w4 (Value.slice (some ⟨w.heap.size + 1 + 1 + 1, 0, none⟩) 0 0).ownBlock) => (show Below (w.heap.size + 1 + 1 + 1) (((w.alloc (.cells cs.toArray 36)).alloc (.cells #[.int .i64 wh, .int .i64 ow, .int .i64 fn, .int .i64 at_, .slice S m c2] 25)).alloc (.cells Tryz.zeroCells36 36)) w4 from by
    have hq := below1 (((w.alloc (.cells cs.toArray 36)).alloc (.cells #[.int .i64 wh, .int .i64 ow, .int .i64 fn, .int .i64 at_, .slice S m c2] 25)).alloc (.cells Tryz.zeroCells36 36)) (.cells #[] 5)
    simp only [World.size_alloc] at hq
    exact hq.grown hg (by simp) (fun k hk => by cases hk; exact Nat.le_refl _)))
  have K1 := Lib.hid (fun w4 (hb : Below (w.heap.size + 1 + 1 + 1) (((w.alloc (.cells cs.toArray 36)).alloc (.cells #[.int .i64 wh, .int .i64 ow, .int .i64 fn, .int .i64 at_, .slice S m c2] 25)).alloc (.cells Tryz.zeroCells36 36)) w4) => (show AtW w F cs xx w4 ∧ Below w.heap.size w w4 from ⟨T0.more hF (by simpa only [World.size_alloc] using hb), below0 hb3 (by simpa only [World.size_alloc] using hb)⟩))
  have HF := Lib.hid hF
  have HH := Lib.hid h
  have HA := Lib.hid hA
  have HO := Lib.hid hO
  have HL := Lib.hid hl
  have HOK := Lib.hid hok
  have HCS := Lib.hid hcs
  have HM := Lib.hid hm
  have HFO := Lib.hid hfo
  have HFN := Lib.hid hfn
  have HFA := Lib.hid hfa
  have HB3 := Lib.hid hb3
  have HT0 := Lib.hid T0
  have HXX := Lib.hid hxx
  have hl65 := Lib.hid hlen
  have HONE := Lib.hid (hcs ▸ rc_one p A n c : cs.toArray.all (·.oneCell') = true)
  have j0 : (wh == 0) = false := beq_eq_false_iff_ne.2 k0
  have j1 : (wh == 1) = false := beq_eq_false_iff_ne.2 k1
  have j2 : (wh == 2) = false := beq_eq_false_iff_ne.2 k2
  have j3 : (wh == 3) = false := beq_eq_false_iff_ne.2 k3
  have j4 : (wh == 4) = false := beq_eq_false_iff_ne.2 k4
  clear k0 k1 k2 k3 k4
  clear hF h hA hO hl hok hcs hlen hm hfo hfn hfa hb3 T0 h0 hfit hxx
  go_enter Tryz.func10, Tryz.ntmps10
  go_wp2_with (first
    | (at_builtin; refine wpList_append_sees rfl (.tmp 29) (.tmp 31) 23 rfl (w.heap.size + 1 + 1 + 1) 5 i0 _ 1 1 Tryz.underlying23 hi hz0 hz1 hz2 rfl (by decide) _ 0 [] rfl hown0 w.heap.size S m c2 (byt bs) rfl hbl hS0 byt_one (by unfold maxLen; omega) (by omega) (by simp only [World.size_alloc]; omega) ?_; intro v1 w4 hown1 hg1 hv1; obtain ⟨T4, hb4⟩ := K1.out w4 (K0.out w4 hg1); have q4 := T4.c; rw [HXX.out] at q4; obtain ⟨e9, e0, e1, e2, e3, e4⟩ := q4; simp only [HM.out] at e0 e1 e2 e3 e4; obtain ⟨Av, cv, rfl⟩ := own_slice hown1))
  have hbd : Below w4.heap.size w4 w4.drew := (Below.refl _ _).drew
  have T4d := Lib.hid (T4.more HF.out hbd)
  have hrs := T4d.out.c.t0
  have HCP := Lib.hid (Copy_any ((HH.out.below hb4).below hbd))
  clear hbd e0 e1 e2 e3 e4 e9 T4 hb4 hg1 hv1 hown0 d4 hS0 hbl hml hown1
  refine wp_region_held_drew (S := (fun W : World => W.rangeAt w.heap.size 0 cs)) (by kernel_rfl) hrs (fun hHeld => ?_)
  refine wpAnyH_take (i := 0) (v := ?_) rfl (by kernel_rfl) (by kernel_rfl) (by kernel_rfl) (fun _ _ _ h => h) (Or.inl ⟨by kernel_rfl, ?_⟩) hHeld ?_
  rotate_left
  focus (intro w hSw; (try dsimp only at hSw); go_simp; try with_reducible rfl)
  simp only [Act.put]
  refine wpAnyH_take (i := 2) rfl (by kernel_rfl) (by kernel_rfl) (by kernel_rfl) (fun _ _ _ h => h) (yieldsIf_load_mid (by kernel_rfl) 36 (.tmp 4) rfl w.heap.size 0 rfl cs _ (fun V hV => hV) Tryz.underlying36 rfl HSZ.out) hHeld ?_
  simp only [Act.put]
  refine wpAnyH_ready (rs := [1]) (by kernel_rfl) (by simp) ?_
  refine AllReadyH.cons rfl (fun K hK => ?_) (AllReadyH.nil)
  go_simp
  refine (HCP.out).mono ?_
  rintro e V5 ⟨rfl, G, hG, hGs, hb5⟩
  have T5 := T4d.out.more HF.out hb5
  have T3 := Lib.hid T5
  have hr5 := T5.c.t0
  have HS := Lib.hid (fun (W : World) (hW : ∀ q, q ≠ w.heap.size + 1 + 1 → W.heap[q]? = V5.heap[q]?) => (show (fun W : World => W.rangeAt w.heap.size 0 cs) W from fun j v hj => (World.cell?_of_block (hW w.heap.size (by omega))).trans (hr5 j v hj)))
  obtain ⟨F1, F2⟩ := T5.stay (n := n) (c := c) HF.out HA.out HO.out hG (fun q h => .inr (by have := hGs q h; have := T4d.out.s; omega))
  rw [← HCS.out] at F1 F2
  rw [HRV.out] at F1 F2
  have G1 := Lib.hid F1
  have G2 := Lib.hid F2
  clear F1 F2 T5 hr5 hG hGs hb5 hrs
  refine hK.out _ _ (HS.out _ fun _ _ => rfl) (fun hHeld => ?_)
  clear hK K
  try simp only [Act.put]
  refine wpAnyH_ready (rs := [3]) (by kernel_rfl) (by simp) ?_
  refine AllReadyH.cons rfl (fun K hK => ?_) (AllReadyH.nil)
  go_simp
  refine hK.out _ _ (HS.out _ fun _ _ => rfl) (fun hHeld => ?_)
  clear hK K
  try simp only [Act.put]
  refine wpAnyH_ready (rs := [4]) (by kernel_rfl) (by simp) ?_
  refine AllReadyH.cons rfl (fun K hK => ?_) (AllReadyH.nil)
  refine step_store_mid rfl 36 _ _ rfl (w.heap.size + 1 + 1) 0 cs.toArray (by simp [Act.eval]) (by simp [Act.eval]) (T3.out.there hl65.out) (refpool_size2 hl65.out) HONE.out ?_
  refine hK.out _ _ (HS.out _ fun q hq => heap_setCells hq _ _ _) (fun hHeld => ?_)
  clear hK K
  try simp only [Act.put]
  refine wpAnyH_ready (rs := [5]) (by kernel_rfl) (by simp) ?_
  refine AllReadyH.cons rfl (fun K hK => ?_) (AllReadyH.nil)
  go_simp
  refine hK.out _ _ (HS.out _ fun q hq => heap_setCells hq _ _ _) (fun hHeld => ?_)
  clear hK K
  try simp only [Act.put]
  refine wpAnyH_done (by kernel_rfl) ?_ _
  go_wp2_with fail
  exact bodyPost_ret (res_mid Tryz.results10 rfl G1.out) rfl G2.out
end Go.Proofs.YtmbjjbgpcacoeaaGreat
