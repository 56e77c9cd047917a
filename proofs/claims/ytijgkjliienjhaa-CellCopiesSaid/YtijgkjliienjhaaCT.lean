import Derived.Test.YtijgkjliienjhaaCS
namespace Go.Proofs.Ytijgkjliienjhaa
open Go.RowKit Go.Shelf
attribute [local go_sem] Oper.semAt_some

/- CELLCOPIES: COPIES GO ON APART; WHICH ARE THE SAME; ONE MAY LEAVE THE CELLS, AS THEY WERE WHEN ONE ASKED. -/
abbrev twoV (xw xa : Int) (xs xd : Nat) (yw ya : Int) (ys yd : Nat) : Value := .agg #[.int .i64 xw, .int .i64 xa, .int .u64 (xs : Int), .int .u64 (xd : Int), .int .i64 yw, .int .i64 ya, .int .u64 (ys : Int), .int .u64 (yd : Int)]
set_option maxRecDepth 100000 in
set_option maxHeartbeats 8000000 in
theorem copies_main (acts : List Ac) (A0 : Option Addr) (n ca : Nat) (xw xa : Int) (xs xd : Nat) (yw ya : Int) (ys yd : Nat) (mn : Nat) (w : World) (hA : Acs w acts A0) (hl : acts.length = n) (hn40 : n ≤ 40) (hm1 : 1 ≤ mn) (hm9 : mn ≤ 9) (hx : Ac.fits ⟨xw, xa, xs, xd⟩) (hy : Ac.fits ⟨yw, ya, ys, yd⟩) :
    Calls Try.prog 4 #[.slice A0 n ca, twoV xw xa xs xd yw ya ys yd, .int .i64 (mn : Int)] w fun e w' => e = .returned (.bool true) ∧ Below w.heap.size w w' := by
  have hn := Lib.hid (fun n w => num_any n w)
  have hwk := Lib.hid (fun w => works_any w)
  obtain ⟨W0, hW0⟩ : ∃ W0, W0 = (w.alloc (.cells #[.int .i64 xw, .int .i64 xa, .int .u64 (xs : Int), .int .u64 (xd : Int), .int .i64 yw, .int .i64 ya, .int .u64 (ys : Int), .int .u64 (yd : Int)] 55)).alloc (.cells #[.int .i64 (mn : Int)] 3) := ⟨_, rfl⟩
  have hz0 : W0.heap.size = w.heap.size + 2 := by rw [hW0]; simp
  have hB0 : Below w.heap.size w W0 := by rw [hW0]; exact below2 _ _ _
  have hxc : ∀ o u, (#[.int .i64 xw, .int .i64 xa, .int .u64 (xs : Int), .int .u64 (xd : Int), .int .i64 yw, .int .i64 ya, .int .u64 (ys : Int), .int .u64 (yd : Int)] : Array Value)[o]? = some u → W0.cell? ⟨w.heap.size, o, none⟩ = some u := fun o u h => by
    rw [hW0, World.cell?_alloc_lt _ _ _ (by simp), cell_alloc_new]; exact h
  have hmb : Boxed W0 (w.heap.size + 1) 3 (.int .i64 (mn : Int)) := by
    have h := Boxed.new (w.alloc (.cells #[.int .i64 xw, .int .i64 xa, .int .u64 (xs : Int), .int .u64 (xd : Int), .int .i64 yw, .int .i64 ya, .int .u64 (ys : Int), .int .u64 (yd : Int)] 55)) 3 (.int .i64 (mn : Int))
    rw [World.size_alloc] at h
    rw [hW0]; exact h
  have hnn : ∀ bo w, (binOp .eql 57 (.func (.func 38) #[] #[.pointer (some ⟨bo, 0, none⟩)]) .nilFunc).run Try.prog w = .ok (.bool false) w := fun bo w => by kernel_rfl
  have HNN := Lib.hid hnn
  obtain ⟨i0, hi, hj0, hj1, hj2⟩ := info_parts row_info
  have HI := Lib.hid (And.intro hi (And.intro hj0 (And.intro hj1 hj2)))
  have HX := Lib.hid hxc
  have HMB := Lib.hid hmb
  have HZ0 := Lib.hid hz0
  have HB0 := Lib.hid hB0
  have HFX := Lib.hid hx
  have HFY := Lib.hid hy
  have HA := Lib.hid (fun V (hb : Below w.heap.size w V) i (hi : i < acts.length) => (hA.below hb).at_ i hi)
  have HF := Lib.hid (fun i (hi : i < acts.length) => hA.fits _ (List.getElem_mem hi))
  have HLA := Lib.hid hl
  have HNEW := Lib.hid (new_ok 8 W0 (by omega))
  have HRN := Lib.hid (fun V => rnew_ok 8 V (by omega))
  have HZ := Lib.hid (zeros_ok (n := 8) (by omega))
  obtain ⟨L0, hL0⟩ : ∃ L, L = zeros 8 := ⟨_, rfl⟩
  rw [← hL0] at HNEW HRN HZ
  have g0 : decide ((40 : Int) < (n : Int)) = false := decide_eq_false (by omega)
  have g1 : decide ((mn : Int) < 1) = false := decide_eq_false (by omega)
  have g2 : decide ((9 : Int) < (mn : Int)) = false := decide_eq_false (by omega)
  have HM1 := Lib.hid hm1
  have HM9 := Lib.hid hm9
  have m0 := hmb.cell
  rw [hW0] at m0
  clear hL0 hA hl hx hy hxc hmb hnn hi hj0 hj1 hj2 hm1 hm9 hz0 hB0
  refine calls_marks Try.func4 rfl ?_
  simp only [Try.ntmps4, List.size_toArray, List.length_cons, List.length_nil, Nat.reduceAdd, Nat.reduceSub, Array.replicate_succ, Array.replicate_zero, List.push_toArray, List.append_toArray, List.nil_append, List.cons_append]
  go_wp2_with fail
  rw [← hW0]
  rw [← hW0] at m0
  clear hW0
  refine HNEW.out.mono ?_
  rintro e w1 ⟨b, g, c, rfl, _, hg1, hr1, hB1⟩
  have HR1 := Lib.hid hr1
  have HB1 := Lib.hid hB1
  have HG1 := Lib.hid hg1
  clear hg1 hr1 hB1 HNEW m0
  go_wp2_with fail
  refine (HRN.out _).mono ?_
  rintro e w2 ⟨vv, gv, rfl, hgv, hwt, hB2⟩
  have HPS := Lib.hid (show PS W0 (.pointer none) b g c gv 0 vv L0 w2 from ⟨HR1.out.below hB2, hwt, .inl rfl, HZ.out, below0 HB1.out hB2, HG1.out⟩)
  clear hgv hwt hB2
  go_wp2_with fail
  go_loopw [7, 9, 11] (fun s5 s7 s16 wr => ∃ (i b g c gv : Nat) (vv : Value) (l : Cs), s5 = bx b ∧ vv = s7 ∧ s16 = .int .i64 (i : Int) ∧ i ≤ n ∧ PS W0 (.pointer none) b g c gv i vv l wr) (fun _ _ s16 _ => n - (_root_.Go.RowKit.intOf s16).toNat)
  case atStart => exact ⟨0, b, g, c, gv, vv, L0, rfl, rfl, rfl, Nat.zero_le _, HPS.out⟩
  case round =>
    obtain ⟨i, b2, g2', c2, gv2, vv2, l, rfl, rfl, rfl, hi, P⟩ := hrel
    by_cases hlt : i < n
    · have hil : i < acts.length := by rw [HLA.out]; exact hlt
      have i0' : (0 : Int) ≤ (i : Int) := by omega
      have i1 : (i : Int) < (n : Int) := by omega
      have i2 : decide ((i : Int) < (n : Int)) = true := decide_eq_true i1
      obtain ⟨ad0, rfl, a0, _⟩ := HA.out _ (HB0.out.trans (P.below.mono HB0.out.size)) i hil
      have HACT := Lib.hid (P.act (by omega) acts[i] (HF.out i hil))
      obtain ⟨ac, hac⟩ : ∃ ac, ac = acts[i] := ⟨_, rfl⟩
      rw [← hac] at a0 HACT
      obtain ⟨what, at_, src, dst⟩ := ac
      obtain ⟨d0, d1, d2, d3⟩ := a0
      simp only [Ac.cells] at d0 d1 d2 d3 HACT
      clear hac P
      go_wp2_with fail
      refine HACT.out.mono ?_
      rintro e v1 ⟨b3, g3, c3, gv3, vv3, rfl, P3⟩
      have HP3 := Lib.hid P3
      clear P3 d0 d1 d2 d3
      go_wp2_with fail
      go_roundw
      case rel => exact ⟨i + 1, b3, g3, c3, gv3, vv3, _, rfl, rfl, by go_num, by omega, HP3.out⟩
      case measure => simp [_root_.Go.RowKit.intOf]; omega
    · obtain rfl : i = n := by omega
      have i2 : decide ((i : Int) < (i : Int)) = false := decide_eq_false (by omega)
      have HP := Lib.hid P
      have HCP := Lib.hid (copy_rep b2 g2' c2 l _ P.rep P.ok.most)
      have hin := Lib.hid (show i < 1000000 by omega)
      clear P hi hn40
      go_wp2_with fail
      refine HCP.out.mono ?_
      rintro e V1 ⟨bd, gd, cd, rfl, _, hgd, hrd, hbV1⟩
      have HAL := Lib.hid (allF_rep b2 g2' c2 l V1 (HP.out.rep.below hbV1) HP.out.ok.most)
      have HV1 := Lib.hid (And.intro hgd (And.intro hrd hbV1))
      clear hgd hrd hbV1 HCP
      go_wp2_with fail
      refine HAL.out.mono ?_
      rintro e V2 ⟨A, cA, bw, rfl, hbw, _, hbox, hsrc, hbV2⟩
      have HC1 := Lib.hid (C1.make HP.out.rep HP.out.wt HP.out.ok HP.out.below HP.out.hg HV1.out.2.2 HV1.out.2.1 HV1.out.1 hbV2 hbw hbox hsrc)
      clear hbw hbox hsrc hbV2 HAL HV1
      have hcx := HC1.out.below
      have q0 := (hcx.cell (p := ⟨w.heap.size, 0, none⟩) (by have := HZ0.out; simp; omega)).trans (HX.out 0 _ rfl)
      have q1 := (hcx.cell (p := ⟨w.heap.size, 1, none⟩) (by have := HZ0.out; simp; omega)).trans (HX.out 1 _ rfl)
      have q2 := (hcx.cell (p := ⟨w.heap.size, 2, none⟩) (by have := HZ0.out; simp; omega)).trans (HX.out 2 _ rfl)
      have q3 := (hcx.cell (p := ⟨w.heap.size, 3, none⟩) (by have := HZ0.out; simp; omega)).trans (HX.out 3 _ rfl)
      have HA1 := Lib.hid (HC1.out.act hin.out ⟨xw, xa, xs, xd⟩ HFX.out)
      simp only [Ac.cells] at HA1
      clear hcx
      go_wp2_with fail
      refine HA1.out.mono ?_
      rintro e V3 ⟨b1, g1, c1, gv1, v1, rfl, hC2⟩
      have HC2 := Lib.hid hC2
      clear hC2 q0 q1 q2 q3 HA1
      have hcx := HC2.out.below
      have q0 := (hcx.cell (p := ⟨w.heap.size, 4, none⟩) (by have := HZ0.out; simp; omega)).trans (HX.out 4 _ rfl)
      have q1 := (hcx.cell (p := ⟨w.heap.size, 5, none⟩) (by have := HZ0.out; simp; omega)).trans (HX.out 5 _ rfl)
      have q2 := (hcx.cell (p := ⟨w.heap.size, 6, none⟩) (by have := HZ0.out; simp; omega)).trans (HX.out 6 _ rfl)
      have q3 := (hcx.cell (p := ⟨w.heap.size, 7, none⟩) (by have := HZ0.out; simp; omega)).trans (HX.out 7 _ rfl)
      have HA2 := Lib.hid (HC2.out.act hin.out ⟨yw, ya, ys, yd⟩ HFY.out)
      simp only [Ac.cells] at HA2
      obtain ⟨l1, hl1⟩ : ∃ l1, l1 = actL l xw xa xs xd := ⟨_, rfl⟩
      obtain ⟨l2, hl2⟩ : ∃ l2, l2 = actL l yw ya ys yd := ⟨_, rfl⟩
      rw [← hl1, ← hl2] at HA2
      clear hcx hl1 hl2
      go_wp2_with fail
      refine HA2.out.mono ?_
      rintro e V6 ⟨b2', g2, c2', gv2', v2, rfl, hC3⟩
      have HC3 := Lib.hid hC3
      obtain ⟨q, hq⟩ : ∃ q, q = decide (l1 = l2) := ⟨_, rfl⟩
      have HC3S := Lib.hid (fun V (h : C3 W0 b1 g1 c1 gv1 b2' g2 c2' gv2' gv2 bw A cA i v1 v2 vv2 l1 l2 l V) => And.intro h.is1 (And.intro h.is2 (And.intro h.same (And.intro h.same2 h.rsame))))
      rw [← hq] at HC3S
      have hqq : (q != q) = false := by simp
      clear hC3 q0 q1 q2 q3 HA2 hq HC1 HC2
      go_wp2_with fail
      refine (hn.out _ _).mono ?_
      rintro e u0 ⟨rfl, rfl⟩
      go_wp2_with fail
      refine (HC3S.out _ HC3.out).1.mono ?_
      rintro e u1 ⟨rfl, k1⟩
      have K1 := Lib.hid k1
      clear k1
      go_wp2_with fail
      refine (HC3S.out _ K1.out).2.1.mono ?_
      rintro e u2 ⟨rfl, k1⟩
      have K2 := Lib.hid k1
      clear k1
      go_wp2_with fail
      refine (HC3S.out _ K2.out).2.2.1.mono ?_
      rintro e u3 ⟨rfl, k1⟩
      have K3 := Lib.hid k1
      clear k1
      go_wp2_with fail
      refine (HC3S.out _ K3.out).2.2.2.2.mono ?_
      rintro e u4 ⟨rfl, k1⟩
      have K4 := Lib.hid k1
      clear k1
      go_wp2_with fail
      refine (HC3S.out _ K4.out).2.2.2.1.mono ?_
      rintro e u5 ⟨rfl, k1⟩
      have K5 := Lib.hid k1
      clear k1
      go_wp2_with fail
      refine (HC3S.out _ K5.out).2.2.2.2.mono ?_
      rintro e V7 ⟨rfl, k1⟩
      have K6 := Lib.hid k1
      clear k1 K1 K2 K3 K4 K5 HC3S hqq
      have hnn1 := HNN.out bw
      go_wp2_with fail
      clear hnn1 HC3
      obtain ⟨V6, hV6⟩ : ∃ V, V = V7 := ⟨_, rfl⟩
      have HC3 : Hid (C3 W0 b1 g1 c1 gv1 b2' g2 c2' gv2' gv2 bw A cA i v1 v2 vv2 l1 l2 l V6) := Lib.hid (hV6 ▸ K6.out)
      have HB67 : Hid (Below V6.heap.size V6 V7) := Lib.hid (by rw [hV6]; exact Below.refl _ _)
      have h67 : V6.heap.size = V7.heap.size := by rw [hV6]
      clear hV6
      obtain ⟨w8, hw8⟩ : ∃ w8, w8 = V7.alloc (Obj.cells #[Value.slice none 0 0] 45) := ⟨_, rfl⟩
      have hz8 : w8.heap.size = V7.heap.size + 1 := by rw [hw8]; simp
      have hb8 : Below V7.heap.size V7 w8 := by rw [hw8]; exact below1 _ _
      have hL8 : Boxed w8 V7.heap.size 45 (.slice none 0 0) := by rw [hw8]; exact Boxed.new V7 _ _
      have hb68 := below0 HB67.out hb8
      have hmlt : w.heap.size + 1 < W0.heap.size := by have := HZ0.out; omega
      have hM8 : Boxed w8 (w.heap.size + 1) 3 (.int .i64 (mn : Int)) := ((below0 HC3.out.below hb68).block _ hmlt).trans HMB.out
      have hcbw : bw < V6.heap.size := lt_of_cell HC3.out.box
      have h06 := HC3.out.below.size
      have hit := all1_it (wordsOf l) A cA bw w8 (by rw [wordsOf_len]; exact HC3.out.ok.most) ((hb68.cell (p := ⟨bw, 0, none⟩) hcbw).trans HC3.out.box) (HC3.out.src.below hb68)
      have hPv : ∀ k, privA bw A k → k < w8.heap.size ∧ k ≠ V7.heap.size := by
        rintro k (rfl | h)
        · exact ⟨by omega, by omega⟩
        · have := HC3.out.src.lt h
          exact ⟨by omega, by omega⟩
      have H8 := Lib.hid (And.intro hz8 (And.intro hmlt (And.intro h67 h06)))
      rw [← hw8]
      clear hw8 hb68
      refine wpIn_wide.1 (wpIn_range_it (gf := 38) (lb := #[.pointer (some ⟨bw, 0, none⟩)]) rfl (enters_of Try.func38 (by kernel_rfl) rfl) hit (fun k hk => (hPv k hk).1) (fun _ => rfl) (fun _ _ _ _ _ h => h)
        (gatKI 3 45 61 encR 2 V7 (w.heap.size + 1) V7.heap.size w8.heap.size mn) (gatKXn 2 3 45 61 encR 2 V7 (w.heap.size + 1) V7.heap.size w8.heap.size mn) (gatKI.abid (by omega)) (gatKXn.abid (by omega)) ?h0
        ?a1 ?assign ?body ?done ?stop)
      case assign =>
        intro l9 r W' K hK
        simp only [encA]
        gi_wp2
        exact hK
      case h0 => exact ⟨⟨_, hL8, hM8, World.ownsRow_nil _ _ _ _, fun k h => (by cases h), hb8⟩, by have := HM1.out; simp; omega, fun _ h => h.elim⟩
      case body =>
        rintro l9 pre r O V hVs hO ⟨⟨v, hbx, hbm, hown, hvO, hbl⟩, hlen, hOw⟩ hx9 _
        have hn9 : pre.length ≤ 100000 := by have := HM9.out; omega
        obtain ⟨hi, hz0, hz1, hz2⟩ := HI.out
        clear hx9 hit hL8 hM8
        obtain ⟨Av, cv, rfl⟩ := own_slice hown
        have hown1 := hown.alloc (.cells #[.int .i64 (r.1 : Int), .int .u64 (r.2 : Int)] 61)
        have hbx1 := hbx.alloc (.cells #[.int .i64 (r.1 : Int), .int .u64 (r.2 : Int)] 61)
        have hbm1 := hbm.alloc (.cells #[.int .i64 (r.1 : Int), .int .u64 (r.2 : Int)] 61)
        have hce := hbx.cell
        have hce1 := hbx1.cell
        have hb1 := hbx.not_row (by decide) hown
        have hb2 : some (w.heap.size + 1) ≠ (Value.slice Av pre.length cv).ownBlock := fun e => by have := hOw _ (hvO _ e.symm); omega
        clear hbx hbm
        gi_wp2_with (gi_at_builtin; refine wpListIn_append_sees rfl (.tmp 129) (.tmp 133) 45 rfl w8.heap.size 61 i0 _ 2 16 Try.underlying45 hi hz0 hz1 hz2 rfl (by decide) _ pre.length (pre.flatMap encR) rfl hown1 (V.heap.size + 1) (some ⟨V.heap.size, 0, none⟩) 1 1 (encR r) rfl rfl (fun _ => ⟨_, rfl, by simp, cells_two_new _ _ _ _⟩) (by simp [encR, Value.oneCell']) (by unfold maxLen; omega) (by omega) (by simp; omega) ?_; intro v' w4 hown4 hg4 hv4; obtain ⟨g4, cap4, rfl⟩ := ownsRow_succ hown4; have hbx4 := hbx1.kept hg4 hb1; have hbm4 := hbm1.kept hg4 hb2; have hx4c := hbx4.cell; have hx4f := hbx4.frozen; have hm4c := hbm4.cell)
        all_goals
          have hg5 : (V.alloc (.cells #[.int .i64 (r.1 : Int), .int .u64 (r.2 : Int)] 61)).grownBy w4 (Value.slice Av pre.length cv).ownBlock := hg4
          have hfin := Lib.hid (gatK_round (x := r) (by omega) (by omega) (by omega) hPv hOw hvO hVs hown4 hg5 hv4 hbx4 hbm4 hbl (by simp))
        · obtain ⟨k1, k2, k3⟩ := hfin.out
          exact ⟨k1, rfl, k2, by simp; omega, k3⟩
        · obtain ⟨k1, k2, k3⟩ := hfin.out
          exact ⟨k1, k2, by simp; omega, k3⟩
      case done =>
        intro xs9 O Z hall hI hD
        obtain ⟨hG, hlen3, hOw⟩ := hI
        have hnO : ¬ O w8.heap.size := fun h => by have := hOw _ h; omega
        obtain ⟨v9, hLY, hMY, hownY, _, hblY⟩ := hG
        obtain ⟨Ax, cx, rfl⟩ := own_slice hownY
        have hxs : xs9 = (nz (wordsOf l)).take mn := got_done hall hlen3
        have hbq : Below V6.heap.size V6 Z := below0 HB67.out hblY
        have hrw := Lib.hid ((HC3.out.more hbq).rows)
        have hlol : (nz (wordsOf l)).length ≤ 1024 := nz_words_len l HC3.out.ok.most
        obtain ⟨R, hR⟩ : ∃ R, R = nz (wordsOf l) := ⟨_, rfl⟩
        rw [← hR] at hrw hlol hxs
        have hLl := hLY.cell
        have hMl := hMY.cell
        have hsY := sees_rows hownY
        have HXS := Lib.hid hxs
        have HD := Lib.hid hD
        have hZlt := (Array.getElem?_eq_some_iff.1 hD).1
        have hLlt := hLY.lt
        have hMlt := hMY.lt
        have hBZ0 := Lib.hid (below0 HC3.out.below hbq)
        clear hall hlen3 hLY hMY hownY hit hxs hD hL8 hM8 hblY hR
        go_wp2_with fail
        refine (hrw.out).mono ?_
        rintro e Z2 ⟨A9, c9, rfl, hcap9, hs9, hbz⟩
        have hLl2 := (hbz.cell (p := ⟨V7.heap.size, 0, none⟩) hLlt).trans hLl
        have hMl2 := (hbz.cell (p := ⟨w.heap.size + 1, 0, none⟩) hMlt).trans hMl
        obtain ⟨qn, hqn⟩ : ∃ qn, qn = R.length := ⟨_, rfl⟩
        rw [← hqn] at hlol hcap9
        rw [← hqn]
        obtain ⟨kk, hkk⟩ : ∃ kk, kk = min mn qn := ⟨_, rfl⟩
        have hkq : kk ≤ qn := by omega
        have hkx : xs9.length = kk := by rw [HXS.out, List.length_take, hkk, hqn]
        have hmin : min (mn : Int) (qn : Int) = (kk : Int) := by omega
        have hmin2 : (if (qn : Int) < (mn : Int) then (qn : Int) else (mn : Int)) = (kk : Int) := by split <;> omega
        have hmin3 : (if qn < mn then (qn : Int) else (mn : Int)) = (kk : Int) := by split <;> omega
        have hsxZ := (hsY.below hbz).more hbz.size
        have hs9t := hs9.take (kk * 2)
        rw [row_take2, show R.take kk = xs9 by rw [HXS.out, hkk, hqn]; exact (List.take_eq_take_min).symm] at hs9t
        have HR := Lib.hid (fun (W : World) (hb : Below Z2.heap.size Z2 W) => (show Calls Try.prog 23 #[.slice Ax kk cx, .slice A9 kk c9] W (fun e w' => e = .returned (.bool true) ∧ Below Z2.heap.size Z2 w') from
          (lsame_any xs9 xs9 Ax A9 cx c9 kk kk W hkx hkx (by omega) ((hsxZ.below hb).more hb.size) ((hs9t.below hb).more hb.size)).mono fun _ _ ⟨e1, q, e2⟩ => ⟨by rw [e1]; simp, e2 ▸ below_drewN hb q⟩))
        rw [hkx] at hLl2
        have hDZ := (hbz.block _ hZlt).trans HD.out
        have HDZ := Lib.hid hDZ
        have HBZ := Lib.hid (below0 hBZ0.out hbz)
        have hBlt : w8.heap.size < Z2.heap.size := by have := hbz.size; omega
        have hW2 : V7.heap.size < Z2.heap.size := by have := hbz.size; omega
        have hM2 : w.heap.size + 1 < Z2.heap.size := by have := hbz.size; omega
        have HSA := Lib.hid (fun (W : World) (hb : Below Z2.heap.size Z2 W) => (show W.cell? ⟨V7.heap.size, 0, none⟩ = some (.slice Ax kk cx) ∧ W.cell? ⟨w.heap.size + 1, 0, none⟩ = some (.int .i64 (mn : Int)) ∧ Below Z2.heap.size Z2 W from
          ⟨(hb.cell (p := ⟨V7.heap.size, 0, none⟩) hW2).trans hLl2, (hb.cell (p := ⟨w.heap.size + 1, 0, none⟩) hM2).trans hMl2, hb⟩))
        have hdr := Lib.hid (show Below Z2.heap.size Z2 Z2.drew from (Below.refl _ _).drew)
        have hWK := Lib.hid (fun (W : World) (hb : Below Z2.heap.size Z2 W) => (show Calls Try.prog 6 #[] W (fun e w' => e = .returned (.bool true) ∧ Below Z2.heap.size Z2 w') from (hwk.out W).mono fun _ _ ⟨e1, e2⟩ => ⟨e1, below0 hb e2⟩))
        have hcap2 : (kk : Int) ≤ (c9 : Int) := by omega
        have hcap3 : (0 : Int) ≤ (kk : Int) := by omega
        have hcap4 : kk ≤ c9 := by omega
        have HBL := Lib.hid hBlt
        clear hLl hMl hs9 hsxZ hs9t hsY hqn hkk hkx hDZ hLl2 hMl2 hbz hlol hBlt hW2 hM2 hkq hcap9
        go_wp2_with fail
        refine wp_region_noPanic ?_
        refine wp_region_held_drew (S := fun W => W.cell? ⟨V7.heap.size, 0, none⟩ = some (.slice Ax kk cx) ∧ W.cell? ⟨w.heap.size + 1, 0, none⟩ = some (.int .i64 (mn : Int)) ∧ Below Z2.heap.size Z2 W) (by kernel_rfl) (HSA.out _ hdr.out) (fun hHeld => ?_)
        have hb0 := hdr.out
        refine wpAnyH_take (i := 0) (v := ?_) rfl (by kernel_rfl) (by kernel_rfl) (by kernel_rfl) (fun _ _ _ h => h) (Or.inl ⟨by kernel_rfl, ?_⟩) hHeld ?_
        rotate_left
        focus (intro w hSw; (try dsimp only at hSw); go_simp; try with_reducible rfl)
        try simp only [Act.put]
        refine wpAnyH_take (i := 1) (v := ?_) rfl (by kernel_rfl) (by kernel_rfl) (by kernel_rfl) (fun _ _ _ h => h) (Or.inl ⟨by kernel_rfl, ?_⟩) hHeld ?_
        rotate_left
        focus (intro w hSw; (try dsimp only at hSw); go_simp; try with_reducible rfl)
        try simp only [Act.put]
        refine wpAnyH_take (i := 2) (v := ?_) rfl (by kernel_rfl) (by kernel_rfl) (by kernel_rfl) (fun _ _ _ h => h) (Or.inl ⟨by kernel_rfl, ?_⟩) hHeld ?_
        rotate_left
        focus (intro w hSw; (try dsimp only at hSw); go_simp; try with_reducible rfl)
        try simp only [Act.put]
        refine wpAnyH_take (i := 3) (v := ?_) rfl (by kernel_rfl) (by kernel_rfl) (by kernel_rfl) (fun _ _ _ h => h) (Or.inl ⟨by kernel_rfl, ?_⟩) hHeld ?_
        rotate_left
        focus (intro w hSw; (try dsimp only at hSw); go_simp; try with_reducible rfl)
        try simp only [Act.put]
        refine wpAnyH_take (i := 4) (v := ?_) rfl (by kernel_rfl) (by kernel_rfl) (by kernel_rfl) (fun _ _ _ h => h) (Or.inl ⟨by kernel_rfl, ?_⟩) hHeld ?_
        rotate_left
        focus (intro w hSw; (try dsimp only at hSw); go_simp; try with_reducible rfl)
        try simp only [Act.put]
        refine wpAnyH_take (i := 5) (v := ?_) rfl (by kernel_rfl) (by kernel_rfl) (by kernel_rfl) (fun _ _ _ h => h) (Or.inl ⟨by kernel_rfl, ?_⟩) hHeld ?_
        rotate_left
        focus (intro w hSw; (try dsimp only at hSw); go_simp; try with_reducible rfl)
        try simp only [Act.put]
        refine wpAnyH_take (i := 6) (v := ?_) rfl (by kernel_rfl) (by kernel_rfl) (by kernel_rfl) (fun _ _ _ h => h) (Or.inl ⟨by kernel_rfl, ?_⟩) hHeld ?_
        rotate_left
        focus (intro w hSw; (try dsimp only at hSw); go_simp; try with_reducible rfl)
        try simp only [Act.put]
        refine wpAnyH_ready (rs := [7]) (by kernel_rfl) (by simp) ?_
        refine AllReadyH.cons rfl (fun K hK => ?_) (AllReadyH.nil)
        go_simp
        refine (HR.out _ hb0).mono ?_
        rintro e w20 ⟨rfl, hb20⟩
        refine hK.out _ _ (HSA.out _ hb20) (fun hHeld => ?_)
        clear hK K
        try simp only [Act.put]
        refine wpAnyH_take (i := 8) (v := ?_) rfl (by kernel_rfl) (by kernel_rfl) (by kernel_rfl) (fun _ _ _ h => h) (Or.inl ⟨by kernel_rfl, ?_⟩) hHeld ?_
        rotate_left
        focus (intro w hSw; (try dsimp only at hSw); go_simp; try with_reducible rfl)
        try simp only [Act.put]
        refine wpAnyH_ready (rs := [9]) (by kernel_rfl) (by simp) ?_
        refine AllReadyH.cons rfl (fun K hK => ?_) (AllReadyH.nil)
        go_simp
        refine (hWK.out _ hb20).mono ?_
        rintro e w21 ⟨rfl, hb21⟩
        refine hK.out _ _ (HSA.out _ hb21) (fun hHeld => ?_)
        clear hK K
        try simp only [Act.put]
        refine wpAnyH_ready (rs := [10]) (by kernel_rfl) (by simp) ?_
        refine AllReadyH.cons rfl (fun K hK => ?_) (AllReadyH.nil)
        go_simp
        refine hK.out _ _ (HSA.out _ hb21) (fun hHeld => ?_)
        clear hK K
        try simp only [Act.put]
        refine wpAnyH_ready (rs := [11]) (by kernel_rfl) (by simp) ?_
        refine AllReadyH.cons rfl (fun K hK => ?_) (AllReadyH.nil)
        go_simp
        refine hK.out _ _ (HSA.out _ hb21) (fun hHeld => ?_)
        clear hK K
        try simp only [Act.put]
        refine wpAnyH_done (by kernel_rfl) ?_ _
        refine NoPanic.normal ?_
        have hDj : w21.heap[w8.heap.size]? = some (.deferred (some [])) := (hb21.block w8.heap.size HBL.out).trans HDZ.out
        have hBj : Below w.heap.size w (w21.putObj w8.heap.size (.deferred none)) := (HB0.out.trans ((below0 HBZ.out hb21).mono HB0.out.size)).grown (putObj_grown w21 _ _) (by have := HBZ.out.size; have := hb21.size; have := HB0.out.size; omega) (fun r e => by cases e; have := H8.out; have := HB0.out.size; omega)
        rw [H8.out.1] at hDj hBj
        clear hb0 hb20 hb21 hdr HSA HR hWK
        go_wp2
        refine ⟨by simp, .inl ⟨_, _, rfl, run_takeDeferred hDj, ?_⟩⟩
        exact ⟨_, results_tmp (t := 6) rfl _ _ _, ⟨rfl, hBj⟩⟩
      case stop =>
        rintro c9' xs9 O Z hall ⟨rfl, hG, hlen3, hOw⟩ hD
        have hnO : ¬ O w8.heap.size := fun h => by have := hOw _ h; omega
        obtain ⟨v9, hLY, hMY, hownY, _, hblY⟩ := hG
        obtain ⟨Ax, cx, rfl⟩ := own_slice hownY
        have hxs : xs9 = (nz (wordsOf l)).take mn := got_stop hall hlen3
        have hbq : Below V6.heap.size V6 Z := below0 HB67.out hblY
        have hrw := Lib.hid ((HC3.out.more hbq).rows)
        have hlol : (nz (wordsOf l)).length ≤ 1024 := nz_words_len l HC3.out.ok.most
        obtain ⟨R, hR⟩ : ∃ R, R = nz (wordsOf l) := ⟨_, rfl⟩
        rw [← hR] at hrw hlol hxs
        have hLl := hLY.cell
        have hMl := hMY.cell
        have hsY := sees_rows hownY
        have HXS := Lib.hid hxs
        have HD := Lib.hid hD
        have hZlt := (Array.getElem?_eq_some_iff.1 hD).1
        have hLlt := hLY.lt
        have hMlt := hMY.lt
        have hBZ0 := Lib.hid (below0 HC3.out.below hbq)
        clear hall hlen3 hLY hMY hownY hit hxs hD hL8 hM8 hblY hR
        refine wpIn_wide.2 ?_
        go_wp2_with fail
        refine (hrw.out).mono ?_
        rintro e Z2 ⟨A9, c9, rfl, hcap9, hs9, hbz⟩
        have hLl2 := (hbz.cell (p := ⟨V7.heap.size, 0, none⟩) hLlt).trans hLl
        have hMl2 := (hbz.cell (p := ⟨w.heap.size + 1, 0, none⟩) hMlt).trans hMl
        obtain ⟨qn, hqn⟩ : ∃ qn, qn = R.length := ⟨_, rfl⟩
        rw [← hqn] at hlol hcap9
        rw [← hqn]
        obtain ⟨kk, hkk⟩ : ∃ kk, kk = min mn qn := ⟨_, rfl⟩
        have hkq : kk ≤ qn := by omega
        have hkx : xs9.length = kk := by rw [HXS.out, List.length_take, hkk, hqn]
        have hmin : min (mn : Int) (qn : Int) = (kk : Int) := by omega
        have hmin2 : (if (qn : Int) < (mn : Int) then (qn : Int) else (mn : Int)) = (kk : Int) := by split <;> omega
        have hmin3 : (if qn < mn then (qn : Int) else (mn : Int)) = (kk : Int) := by split <;> omega
        have hsxZ := (hsY.below hbz).more hbz.size
        have hs9t := hs9.take (kk * 2)
        rw [row_take2, show R.take kk = xs9 by rw [HXS.out, hkk, hqn]; exact (List.take_eq_take_min).symm] at hs9t
        have HR := Lib.hid (fun (W : World) (hb : Below Z2.heap.size Z2 W) => (show Calls Try.prog 23 #[.slice Ax kk cx, .slice A9 kk c9] W (fun e w' => e = .returned (.bool true) ∧ Below Z2.heap.size Z2 w') from
          (lsame_any xs9 xs9 Ax A9 cx c9 kk kk W hkx hkx (by omega) ((hsxZ.below hb).more hb.size) ((hs9t.below hb).more hb.size)).mono fun _ _ ⟨e1, q, e2⟩ => ⟨by rw [e1]; simp, e2 ▸ below_drewN hb q⟩))
        rw [hkx] at hLl2
        have hDZ := (hbz.block _ hZlt).trans HD.out
        have HDZ := Lib.hid hDZ
        have HBZ := Lib.hid (below0 hBZ0.out hbz)
        have hBlt : w8.heap.size < Z2.heap.size := by have := hbz.size; omega
        have hW2 : V7.heap.size < Z2.heap.size := by have := hbz.size; omega
        have hM2 : w.heap.size + 1 < Z2.heap.size := by have := hbz.size; omega
        have HSA := Lib.hid (fun (W : World) (hb : Below Z2.heap.size Z2 W) => (show W.cell? ⟨V7.heap.size, 0, none⟩ = some (.slice Ax kk cx) ∧ W.cell? ⟨w.heap.size + 1, 0, none⟩ = some (.int .i64 (mn : Int)) ∧ Below Z2.heap.size Z2 W from
          ⟨(hb.cell (p := ⟨V7.heap.size, 0, none⟩) hW2).trans hLl2, (hb.cell (p := ⟨w.heap.size + 1, 0, none⟩) hM2).trans hMl2, hb⟩))
        have hdr := Lib.hid (show Below Z2.heap.size Z2 Z2.drew from (Below.refl _ _).drew)
        have hWK := Lib.hid (fun (W : World) (hb : Below Z2.heap.size Z2 W) => (show Calls Try.prog 6 #[] W (fun e w' => e = .returned (.bool true) ∧ Below Z2.heap.size Z2 w') from (hwk.out W).mono fun _ _ ⟨e1, e2⟩ => ⟨e1, below0 hb e2⟩))
        have hcap2 : (kk : Int) ≤ (c9 : Int) := by omega
        have hcap3 : (0 : Int) ≤ (kk : Int) := by omega
        have hcap4 : kk ≤ c9 := by omega
        have HBL := Lib.hid hBlt
        clear hLl hMl hs9 hsxZ hs9t hsY hqn hkk hkx hDZ hLl2 hMl2 hbz hlol hBlt hW2 hM2 hkq hcap9
        go_wp2_with fail
        refine wp_region_noPanic ?_
        refine wp_region_held_drew (S := fun W => W.cell? ⟨V7.heap.size, 0, none⟩ = some (.slice Ax kk cx) ∧ W.cell? ⟨w.heap.size + 1, 0, none⟩ = some (.int .i64 (mn : Int)) ∧ Below Z2.heap.size Z2 W) (by kernel_rfl) (HSA.out _ hdr.out) (fun hHeld => ?_)
        have hb0 := hdr.out
        refine wpAnyH_take (i := 0) (v := ?_) rfl (by kernel_rfl) (by kernel_rfl) (by kernel_rfl) (fun _ _ _ h => h) (Or.inl ⟨by kernel_rfl, ?_⟩) hHeld ?_
        rotate_left
        focus (intro w hSw; (try dsimp only at hSw); go_simp; try with_reducible rfl)
        try simp only [Act.put]
        refine wpAnyH_take (i := 1) (v := ?_) rfl (by kernel_rfl) (by kernel_rfl) (by kernel_rfl) (fun _ _ _ h => h) (Or.inl ⟨by kernel_rfl, ?_⟩) hHeld ?_
        rotate_left
        focus (intro w hSw; (try dsimp only at hSw); go_simp; try with_reducible rfl)
        try simp only [Act.put]
        refine wpAnyH_take (i := 2) (v := ?_) rfl (by kernel_rfl) (by kernel_rfl) (by kernel_rfl) (fun _ _ _ h => h) (Or.inl ⟨by kernel_rfl, ?_⟩) hHeld ?_
        rotate_left
        focus (intro w hSw; (try dsimp only at hSw); go_simp; try with_reducible rfl)
        try simp only [Act.put]
        refine wpAnyH_take (i := 3) (v := ?_) rfl (by kernel_rfl) (by kernel_rfl) (by kernel_rfl) (fun _ _ _ h => h) (Or.inl ⟨by kernel_rfl, ?_⟩) hHeld ?_
        rotate_left
        focus (intro w hSw; (try dsimp only at hSw); go_simp; try with_reducible rfl)
        try simp only [Act.put]
        refine wpAnyH_take (i := 4) (v := ?_) rfl (by kernel_rfl) (by kernel_rfl) (by kernel_rfl) (fun _ _ _ h => h) (Or.inl ⟨by kernel_rfl, ?_⟩) hHeld ?_
        rotate_left
        focus (intro w hSw; (try dsimp only at hSw); go_simp; try with_reducible rfl)
        try simp only [Act.put]
        refine wpAnyH_take (i := 5) (v := ?_) rfl (by kernel_rfl) (by kernel_rfl) (by kernel_rfl) (fun _ _ _ h => h) (Or.inl ⟨by kernel_rfl, ?_⟩) hHeld ?_
        rotate_left
        focus (intro w hSw; (try dsimp only at hSw); go_simp; try with_reducible rfl)
        try simp only [Act.put]
        refine wpAnyH_take (i := 6) (v := ?_) rfl (by kernel_rfl) (by kernel_rfl) (by kernel_rfl) (fun _ _ _ h => h) (Or.inl ⟨by kernel_rfl, ?_⟩) hHeld ?_
        rotate_left
        focus (intro w hSw; (try dsimp only at hSw); go_simp; try with_reducible rfl)
        try simp only [Act.put]
        refine wpAnyH_ready (rs := [7]) (by kernel_rfl) (by simp) ?_
        refine AllReadyH.cons rfl (fun K hK => ?_) (AllReadyH.nil)
        go_simp
        refine (HR.out _ hb0).mono ?_
        rintro e w20 ⟨rfl, hb20⟩
        refine hK.out _ _ (HSA.out _ hb20) (fun hHeld => ?_)
        clear hK K
        try simp only [Act.put]
        refine wpAnyH_take (i := 8) (v := ?_) rfl (by kernel_rfl) (by kernel_rfl) (by kernel_rfl) (fun _ _ _ h => h) (Or.inl ⟨by kernel_rfl, ?_⟩) hHeld ?_
        rotate_left
        focus (intro w hSw; (try dsimp only at hSw); go_simp; try with_reducible rfl)
        try simp only [Act.put]
        refine wpAnyH_ready (rs := [9]) (by kernel_rfl) (by simp) ?_
        refine AllReadyH.cons rfl (fun K hK => ?_) (AllReadyH.nil)
        go_simp
        refine (hWK.out _ hb20).mono ?_
        rintro e w21 ⟨rfl, hb21⟩
        refine hK.out _ _ (HSA.out _ hb21) (fun hHeld => ?_)
        clear hK K
        try simp only [Act.put]
        refine wpAnyH_ready (rs := [10]) (by kernel_rfl) (by simp) ?_
        refine AllReadyH.cons rfl (fun K hK => ?_) (AllReadyH.nil)
        go_simp
        refine hK.out _ _ (HSA.out _ hb21) (fun hHeld => ?_)
        clear hK K
        try simp only [Act.put]
        refine wpAnyH_ready (rs := [11]) (by kernel_rfl) (by simp) ?_
        refine AllReadyH.cons rfl (fun K hK => ?_) (AllReadyH.nil)
        go_simp
        refine hK.out _ _ (HSA.out _ hb21) (fun hHeld => ?_)
        clear hK K
        try simp only [Act.put]
        refine wpAnyH_done (by kernel_rfl) ?_ _
        refine NoPanic.normal ?_
        have hDj : w21.heap[w8.heap.size]? = some (.deferred (some [])) := (hb21.block w8.heap.size HBL.out).trans HDZ.out
        have hBj : Below w.heap.size w (w21.putObj w8.heap.size (.deferred none)) := (HB0.out.trans ((below0 HBZ.out hb21).mono HB0.out.size)).grown (putObj_grown w21 _ _) (by have := HBZ.out.size; have := hb21.size; have := HB0.out.size; omega) (fun r e => by cases e; have := H8.out; have := HB0.out.size; omega)
        rw [H8.out.1] at hDj hBj
        clear hb0 hb20 hb21 hdr HSA HR hWK
        go_wp2
        refine ⟨by simp, .inl ⟨_, _, rfl, run_takeDeferred hDj, ?_⟩⟩
        exact ⟨_, results_tmp (t := 6) rfl _ _ _, ⟨rfl, hBj⟩⟩
end Go.Proofs.Ytijgkjliienjhaa
