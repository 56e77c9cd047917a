import Derived.Test.YtbiopegophdgiaaDoorLawC
namespace Go.Proofs.YtbiopegophdgiaaDoor
open Go.RowKit Go.Shelf
attribute [local go_sem] Oper.semAt_some

theorem eqB_comm (a b : List Bool) : eqB b a = eqB a b := by
  unfold eqB
  rw [Bool.eq_iff_iff, beq_iff_eq, beq_iff_eq]
  exact eq_comm
theorem ins_take (a : List Nat) (k : Nat) : (ins a).take k = ins (a.take k) := by simp [ins, List.map_take]

set_option maxRecDepth 100000 in
set_option maxHeartbeats 8000000 in
theorem copies_main (s : ByteArray) (c0 : Bool) (a0 : Int) (i0 : Bool) (c1 : Bool) (a1 : Int) (i1 : Bool) (m : Nat) (l : List Bool) (w : World) (ht : Tab w) (hl : s.size ≤ 300) (hpp : parsed s.data.toList = some l) (hm1 : 1 ≤ m) (hm2 : m ≤ 300) :
    Calls Tryd.prog 5 #[.string s, twoV c0 a0 i0 c1 a1 i1, .int .i64 (m : Int)] w fun e w' => e = .returned (.bool true) ∧ Below w.heap.size w w' := by
  have HT := Lib.hid ht
  obtain ⟨W0, hW0⟩ : ∃ W0, W0 = (w.alloc (.cells #[.bool c0, .int .i64 a0, .bool i0, .bool c1, .int .i64 a1, .bool i1] 57)).alloc (.cells #[.int .i64 (m : Int)] 3) := ⟨_, rfl⟩
  have hz0 : W0.heap.size = w.heap.size + 2 := by rw [hW0]; simp
  have hB0 : Below w.heap.size w W0 := by rw [hW0]; exact below2 _ _ _
  have hx : ∀ o u, #[Value.bool c0, .int .i64 a0, .bool i0, .bool c1, .int .i64 a1, .bool i1][o]? = some u → W0.cell? ⟨w.heap.size, o, none⟩ = some u := fun o u h => by
    rw [hW0, World.cell?_alloc_lt _ _ _ (by simp), cell_alloc_new]; exact h
  have hmb : Boxed W0 (w.heap.size + 1) 3 (.int .i64 (m : Int)) := by
    have h := Boxed.new (w.alloc (.cells #[.bool c0, .int .i64 a0, .bool i0, .bool c1, .int .i64 a1, .bool i1] 57)) 3 (.int .i64 (m : Int))
    rw [World.size_alloc] at h
    rw [hW0]; exact h
  have e1 : decide (300 < s.size) = false := decide_eq_false (by omega)
  have e2 : decide ((300 : Int) < (s.size : Int)) = false := decide_eq_false (by omega)
  have e3 : decide ((m : Int) < 1) = false := decide_eq_false (by omega)
  have e4 : decide (m < 1) = false := decide_eq_false (by omega)
  have e5 : decide ((300 : Int) < (m : Int)) = false := decide_eq_false (by omega)
  have e6 : decide (300 < m) = false := decide_eq_false (by omega)
  have hp := Lib.hid (fun w => parse_any s w (by omega))
  have hq := Lib.hid (fun w => refparse_any s w (by omega))
  rw [hpp] at hp hq
  have hnn : ∀ bo w, (binOp .eql 59 (.func (.func 47) #[] #[.pointer (some ⟨bo, 0, none⟩)]) .nilFunc).run Tryd.prog w = .ok (.bool false) w := fun bo w => by kernel_rfl
  obtain ⟨j0, hi, hj0, hj1, hj2⟩ := info_parts int_info
  have HX := Lib.hid hx
  have HMB := Lib.hid hmb
  have HNN := Lib.hid hnn
  have HLL := Lib.hid (parsed_some hpp).2.1
  clear hpp ht hl hx hmb hnn
  refine calls_marks Tryd.func5 rfl ?_
  simp only [Tryd.ntmps5, List.size_toArray, List.length_cons, List.length_nil, Nat.reduceAdd, Nat.reduceSub, Array.replicate_succ, Array.replicate_zero, List.push_toArray, List.append_toArray, List.nil_append, List.cons_append]
  go_wp2_with fail
  rw [← hW0]
  clear hW0
  refine (hp.out _).mono ?_
  rintro e w1 ⟨b, g, rfl, hb0, hg0, hr1, hb1⟩
  go_wp2_with fail
  refine (hq.out _).mono ?_
  rintro e w2 ⟨v0, rfl, hv0, hb2'⟩
  obtain ⟨Av, cv, rfl, hsv⟩ := hv0
  have hv2 : Bl w2 (.slice Av l.length cv) l := ⟨Av, cv, rfl, hsv⟩
  have hb2 := below0 hb1 hb2'
  have hr2 := hr1.below hb2'
  have hmm := (hb2.cell (p := ⟨w.heap.size + 1, 0, none⟩) (by simp; omega)).trans HMB.out.cell
  clear hr1 hb1 hb2' hsv
  go_wp2_with fail
  refine (num_any _ _).mono ?_
  rintro e w3 ⟨rfl, rfl⟩
  have hcp := Lib.hid (copy_rep b g l w2 hr2)
  go_wp2_with fail
  refine (hcp.out).mono ?_
  rintro e w3 ⟨bc, gc, rfl, hbc, hgc, hrc3, hb3'⟩
  have hb3 := hb2.trans (hb3'.mono hb2.size)
  have hr3 := hr2.below hb3'
  have hv3 := hv2.below hb3'
  have hgw := hr2.row.lt
  have hbw0 := hr2.obj.lt
  have hcw3 := hrc3.row.lt
  have hcw3b := hrc3.obj.lt
  have hal := Lib.hid (allF_any (.pointer (some ⟨b, 0, none⟩)) l w3 (.inr ⟨b, g, rfl, hr3⟩))
  clear hcp hr2 hv2 hb2 hb3' hmm
  go_wp2_with fail
  refine (hal.out).mono ?_
  rintro e w4 ⟨A, cA, bw, rfl, hbw, hA, hcw, hsrc, hb4'⟩
  have hb4 := hb3.trans (hb4'.mono hb3.size)
  have hr4 := hr3.below hb4'
  have hv4 := hv3.below hb4'
  have hrc4 := hrc3.below hb4'
  have hs4 := hb4'.size
  have q0 := (hb4.cell (p := ⟨w.heap.size, 0, none⟩) (by simp; omega)).trans (HX.out 0 _ rfl)
  have q1 := (hb4.cell (p := ⟨w.heap.size, 1, none⟩) (by simp; omega)).trans (HX.out 1 _ rfl)
  have q2 := (hb4.cell (p := ⟨w.heap.size, 2, none⟩) (by simp; omega)).trans (HX.out 2 _ rfl)
  have ha1 := Lib.hid (act_any b g l _ c0 a0 i0 w4 hr4 hv4)
  clear hal hr3 hv3 hrc3 hb3 hb4'
  go_wp2_with fail
  refine (ha1.out).mono ?_
  rintro e w5 ⟨b1, g1, v1, rfl, hbg1, hr5, hv5, hk5⟩
  have hB4 : Below w.heap.size w w4 := hB0.trans (hb4.mono hB0.size)
  have hgw2 : w.heap.size ≤ g := by omega
  have hB5 := keep_below hB4 hk5 hgw2
  have hs5 := hk5.size
  have hv5w : Bl w5 (.slice Av l.length cv) l := hv4.keep hk5 hr4.row
  have hrc5 := hrc4.keep hk5 (show ¬ bc = g by omega) (show ¬ gc = g by omega)
  have hsrc5 : Src w5 A l := hsrc.same fun k hk => hk5.block k (hsrc.lt hk) (by have := hA k hk; omega)
  have hcw5 := (hk5.cell (p := ⟨bw, 0, none⟩) (lt_of_cell hcw) (by simp; omega)).trans hcw
  have hm5 : Boxed w5 (w.heap.size + 1) 3 (.int .i64 (m : Int)) := (hk5.block _ (by omega) (by omega)).trans ((hb4.block _ (by omega)).trans HMB.out)
  have p3 := (hk5.cell (p := ⟨w.heap.size, 3, none⟩) (by simp; omega) (by simp; omega)).trans ((hb4.cell (p := ⟨w.heap.size, 3, none⟩) (by simp; omega)).trans (HX.out 3 _ rfl))
  have p4 := (hk5.cell (p := ⟨w.heap.size, 4, none⟩) (by simp; omega) (by simp; omega)).trans ((hb4.cell (p := ⟨w.heap.size, 4, none⟩) (by simp; omega)).trans (HX.out 4 _ rfl))
  have p5 := (hk5.cell (p := ⟨w.heap.size, 5, none⟩) (by simp; omega) (by simp; omega)).trans ((hb4.cell (p := ⟨w.heap.size, 5, none⟩) (by simp; omega)).trans (HX.out 5 _ rfl))
  have hbg1' : b1 < w5.heap.size ∧ g1 < w5.heap.size ∧ b1 ≠ gc ∧ g1 ≠ gc ∧ w.heap.size ≤ b1 ∧ w.heap.size ≤ g1 := by
    have h1 := hr5.obj.lt
    have h2 := hr5.row.lt
    omega
  have ha2 := Lib.hid (act_any bc gc l _ c1 a1 i1 w5 hrc5 hv5w)
  clear ha1 hr4 hv4 hrc4 hb4 hk5 hsrc hcw hB4 q0 q1 q2 hbg1
  go_wp2_with fail
  refine (ha2.out).mono ?_
  rintro e w6 ⟨b2, g2, v2, rfl, hbg2, hr6, hv6, hk6⟩
  have hgc2 : w.heap.size ≤ gc := by omega
  have hB6 := keep_below hB5 hk6 hgc2
  have hv6w : Bl w6 (.slice Av l.length cv) l := hv5w.keep hk6 hrc5.row
  have hr6a := hr5.keep hk6 hbg1'.2.2.1 hbg1'.2.2.2.1
  have hv6a := hv5.keep hk6 hrc5.row
  have hsrc6 : Src w6 A l := hsrc5.same fun k hk => hk6.block k (hsrc5.lt hk) (by have := hA k hk; omega)
  have hcw6 := (hk6.cell (p := ⟨bw, 0, none⟩) (lt_of_cell hcw5) (by simp; omega)).trans hcw5
  have hm6 : Boxed w6 (w.heap.size + 1) 3 (.int .i64 (m : Int)) := (hk6.block _ (by omega) (by omega)).trans hm5
  obtain ⟨l1, hl1⟩ : ∃ l1, l1 = actL l c0 a0 i0 := ⟨_, rfl⟩
  obtain ⟨l2, hl2⟩ : ∃ l2, l2 = actL l c1 a1 i1 := ⟨_, rfl⟩
  rw [← hl1] at hr6a hv6a
  rw [← hl2] at hr6 hv6
  clear ha2 hr5 hv5 hv5w hrc5 hk6 hsrc5 hcw5 hB5 p3 p4 p5 hl1 hl2 hm5
  -- what the rest needs of w6
  obtain ⟨A1, c1', rfl, hs1⟩ := hv6a
  obtain ⟨A2, c2', rfl, hs2⟩ := hv6
  have hv61 : Bl w6 (.slice A1 l1.length c1') l1 := ⟨A1, c1', rfl, hs1⟩
  have hv62 : Bl w6 (.slice A2 l2.length c2') l2 := ⟨A2, c2', rfl, hs2⟩
  have HIS1 := Lib.hid (is_any (.pointer (some ⟨b1, 0, none⟩)) _ l1 w6 (.inr ⟨b1, g1, rfl, hr6a⟩) hv61 (HT.out.below hB6))
  have HIS2 := Lib.hid (fun (wx : World) (hb : Below w6.heap.size w6 wx) => is_any (.pointer (some ⟨b2, 0, none⟩)) _ l2 wx (.inr ⟨b2, g2, rfl, hr6.below hb⟩) (hv62.below hb) ((HT.out.below hB6).below hb))
  have HS12 := Lib.hid (fun (wx : World) (hb : Below w6.heap.size w6 wx) => same_rr b1 g1 b2 g2 l1 l2 wx (hr6a.below hb) (hr6.below hb))
  have HS21 := Lib.hid (fun (wx : World) (hb : Below w6.heap.size w6 wx) => same_rr b2 g2 b1 g1 l2 l1 wx (hr6.below hb) (hr6a.below hb))
  have hl1m := hr6a.most
  have hl2m := hr6.most
  have HR12 := Lib.hid (fun (wx : World) (hb : Below w6.heap.size w6 wx) => same_ref l1 l2 A1 A2 c1' c2' wx hl1m hl2m ((hs1.below hb).more hb.size) ((hs2.below hb).more hb.size))
  rw [eqB_comm l1 l2] at HS21
  obtain ⟨E, hE⟩ : ∃ E, E = eqB l1 l2 := ⟨_, rfl⟩
  rw [← hE] at HS12 HS21 HR12
  have hEE : (E == E) = true := by simp
  clear hE hr6a hr6 hv61 hv62 hs1 hs2
  go_wp2_with fail
  refine (HIS1.out).mono ?_
  rintro e w7 ⟨rfl, hb7⟩
  go_wp2_with fail
  refine (HIS2.out _ hb7).mono ?_
  rintro e w8 ⟨rfl, hb8'⟩
  have hb8 := below0 hb7 hb8'
  go_wp2_with fail
  refine (HS12.out _ hb8).mono ?_
  rintro e w9 ⟨rfl, hb9'⟩
  have hb9 := below0 hb8 hb9'
  go_wp2_with fail
  refine (HR12.out _ hb9).mono ?_
  rintro e wa ⟨rfl, hba'⟩
  have hba := below0 hb9 hba'
  clear hb7 hb8' hb8 hb9' hb9 hba'
  go_wp2_with fail
  refine (HS21.out _ hba).mono ?_
  rintro e wb ⟨rfl, hbb'⟩
  have hbb := below0 hba hbb'
  go_wp2_with fail
  refine (HR12.out _ hbb).mono ?_
  rintro e wc ⟨rfl, hbc'⟩
  have hbcc := below0 hbb hbc'
  clear hba hbb' hbb hbc' HIS1 HIS2 HS12 HS21 HR12
  have hnn1 := HNN.out bw
  go_wp2_with fail
  clear hnn1
  obtain ⟨w11, hw11⟩ : ∃ w11, w11 = wc.alloc (Obj.cells #[Value.slice none 0 0] 42) := ⟨_, rfl⟩
  have hz11 : w11.heap.size = wc.heap.size + 1 := by rw [hw11]; simp
  have hb11 : Below wc.heap.size wc w11 := by rw [hw11]; exact below1 _ _
  have hL11 : Boxed w11 wc.heap.size 42 (.slice none 0 0) := by rw [hw11]; exact Boxed.new wc _ _
  have hM11 : Boxed w11 (w.heap.size + 1) 3 (.int .i64 (m : Int)) := (hb11.block _ (by have := hbcc.size; have := hm6.lt; omega)).trans ((hbcc.block _ hm6.lt).trans hm6)
  have hit := all1_it l A cA bw w11 HLL.out ((hb11.cell (p := ⟨bw, 0, none⟩) (by have := lt_of_cell hcw6; have := hbcc.size; simp at *; omega)).trans ((hbcc.cell (p := ⟨bw, 0, none⟩) (lt_of_cell hcw6)).trans hcw6)) ((hsrc6.below hbcc).below hb11) (((HT.out.below hB6).below hbcc).below hb11)
  have htl := HT.out.lt
  have hPv : ∀ k, privA bw A k → k < w11.heap.size ∧ k ≠ wc.heap.size := by
    rintro k (rfl | h | h)
    · have h1 : k < w6.heap.size := lt_of_cell hcw6
      have := hbcc.size
      exact ⟨by omega, by omega⟩
    · have h1 := hsrc6.lt h
      have := hbcc.size
      exact ⟨by omega, by omega⟩
    · have := hbcc.size
      have := hB6.size
      exact ⟨by omega, by omega⟩
  have hwc : w.heap.size + 2 ≤ wc.heap.size := by have := hbcc.size; have := hm6.lt; omega
  obtain ⟨Av', cv', ev, hsw⟩ := hv6w
  simp only [Value.slice.injEq] at ev
  obtain ⟨rfl, _, rfl⟩ := ev
  rw [← hw11]
  clear hw11 hcw6 hsrc6 hm6 hEE hcw3 hcw3b hbg2 hbg1' hA
  refine wpIn_wide.1 (wpIn_range_it (gf := 47) (lb := #[.pointer (some ⟨bw, 0, none⟩)]) rfl (enters_of Tryd.func47 (by kernel_rfl) rfl) hit (fun k hk => (hPv k hk).1) (fun _ => rfl) (fun _ _ _ _ _ h => h)
    (sinv wc (w.heap.size + 1) wc.heap.size w11.heap.size m) (sstop wc (w.heap.size + 1) wc.heap.size w11.heap.size m) (sinv.abid (by omega)) (sstop.abid (by omega)) ?h0
    ?a1 ?assign ?body ?done ?stop)
  case assign =>
    intro l' x W' K hK
    simp only [encAt]
    gi_wp2
    exact hK
  case h0 => exact ⟨⟨_, hL11, hM11, World.ownsRow_nil _ _ _ _, fun k h => (by cases h), hb11⟩, by simp; omega, fun _ h => h.elim⟩
  case body =>
    rintro l' pre x O V hVs hO ⟨⟨v, hbx, hbm, hown, hvO, hbl⟩, hlen, hOw⟩ hx _
    have hn : pre.length ≤ 300 := by omega
    clear hx hit hM11 hL11
    obtain ⟨Ax, cx, rfl⟩ := own_slice hown
    have hown1 := hown.alloc (.cells #[.int .i64 (x : Int)] 3)
    have hbx1 := hbx.alloc (.cells #[.int .i64 (x : Int)] 3)
    have hbm1 := hbm.alloc (.cells #[.int .i64 (x : Int)] 3)
    have hce := hbx.cell
    have hce1 := hbx1.cell
    have hb1 := hbx.not_row (by decide) hown
    have hb2 : some (w.heap.size + 1) ≠ (Value.slice Ax pre.length cx).ownBlock := fun e => by have := hOw _ (hvO _ e.symm); omega
    clear hbx hbm
    gi_wp2_with (gi_at_builtin; refine wpListIn_append_sees rfl (.tmp 113) (.tmp 115) 42 rfl w11.heap.size 3 j0 _ 1 8 Tryd.underlying42 hi hj0 hj1 hj2 rfl (by decide) _ pre.length (ins pre) rfl hown1 (V.heap.size + 1) (some ⟨V.heap.size, 0, none⟩) 1 1 [.int .i64 (x : Int)] rfl rfl (fun _ => ⟨_, rfl, by simp, cell_one_new _ _ _⟩) (by simp [Value.oneCell']) (by unfold maxLen; omega) (by omega) (by simp; omega) ?_; intro v' w4 hown4 hg4 hv4; obtain ⟨g4, cap4, rfl⟩ := ownsRow_succ hown4; have hbx4 := hbx1.kept hg4 hb1; have hbm4 := hbm1.kept hg4 hb2; have hx4c := hbx4.cell; have hx4f := hbx4.frozen; have hm4c := hbm4.cell)
    all_goals
      have hg5 : (V.alloc (.cells #[.int .i64 (x : Int)] 3)).grownBy w4 (Value.slice Ax pre.length cx).ownBlock := hg4
      have hfin := Lib.hid (slround (x := x) (by omega) (by omega) (by omega) hPv hOw hvO hVs hown4 hg5 hv4 hbx4 hbm4 hbl (by simp))
    · obtain ⟨k1, k2, k3⟩ := hfin.out
      exact ⟨k1, rfl, k2, by simp; omega, k3⟩
    · obtain ⟨k1, k2, k3⟩ := hfin.out
      exact ⟨k1, k2, by simp; omega, k3⟩
  case done =>
    intro xs O Z hall hI hD
    have hnO : ¬ O w11.heap.size := fun h => by have := hI.2.2 _ h; omega
    obtain ⟨v2, hLY, hMY, hownY, _, hblY⟩ := hI.1
    obtain ⟨Ax, cx, rfl⟩ := own_slice hownY
    have hxs : xs = (idxs 0 l).take m := got_done hall hI.2.1
    have hbq : Below w6.heap.size w6 Z := hbcc.trans (hblY.mono hbcc.size)
    have hpl := Lib.hid (places_refc l true Av cv Z HLL.out ((hsw.below hbq).more hbq.size))
    rw [such_true] at hpl
    obtain ⟨ys, hys⟩ : ∃ ys, ys = idxs 0 l := ⟨_, rfl⟩
    rw [← hys] at hpl hxs
    have hql : ys.length ≤ 4096 := by
      rw [hys, idxs_len]
      have h1 := List.count_le_length (a := true) (l := l)
      have h2 := HLL.out
      omega
    have hLl := hLY.cell
    have hMl := hMY.cell
    have hsY := Sees.of_own hownY
    have HXS := Lib.hid hxs
    have HD := Lib.hid hD
    have hZlt := (Array.getElem?_eq_some_iff.1 hD).1
    have hLlt := hLY.lt
    have hMlt := hMY.lt
    clear hall hI hMY hLY hownY hit hxs hD hL11 hM11 hys
    go_wp2_with fail
    refine (hpl.out).mono ?_
    rintro e Z2 ⟨A9, c9, rfl, hcap9, hs9, hbz⟩
    have hLl2 := (hbz.cell (p := ⟨wc.heap.size, 0, none⟩) hLlt).trans hLl
    have hMl2 := (hbz.cell (p := ⟨w.heap.size + 1, 0, none⟩) hMlt).trans hMl
    obtain ⟨q, hq⟩ : ∃ q, q = ys.length := ⟨_, rfl⟩
    rw [← hq] at hql hcap9
    rw [← hq]
    have HQ := Lib.hid hq
    obtain ⟨k, hk⟩ : ∃ k, k = min m q := ⟨_, rfl⟩
    have hkq : k ≤ q := by omega
    have hkx : xs.length = k := by rw [HXS.out, List.length_take, hk, hq]
    have hmin : (if (q : Int) < (m : Int) then (q : Int) else (m : Int)) = (k : Int) := by split <;> omega
    have hmin2 : (if q < m then (q : Int) else (m : Int)) = (k : Int) := by split <;> omega
    have hsxZ := (hsY.below hbz).more hbz.size
    have hs9t := hs9.take k
    rw [ins_take, show ys.take k = xs by rw [HXS.out, hk, hq]; exact (List.take_eq_take_min).symm] at hs9t
    rw [hkx] at hLl2
    have hints := Lib.hid (fun (W : World) (hb : Below Z2.heap.size Z2 W) => ints_any xs Ax A9 k cx c9 W.heap.size W (by omega) hkx ((hsxZ.below hb).more hb.size) ((hs9t.below hb).more hb.size))
    have HTZ := Lib.hid ((((HT.out.below hB6).below hbq).below hbz))
    have hBZ := below0 (hB6.trans (hbq.mono hB6.size)) hbz
    have hDZ := (hbz.block _ hZlt).trans HD.out
    have HDZ := Lib.hid hDZ
    have HSA := Lib.hid (fun (W : World) (hb : Below Z2.heap.size Z2 W) => (show W.cell? ⟨wc.heap.size, 0, none⟩ = some (.slice Ax k cx) ∧ W.cell? ⟨w.heap.size + 1, 0, none⟩ = some (.int .i64 (m : Int)) ∧ Below Z2.heap.size Z2 W from
      ⟨(hb.cell (p := ⟨wc.heap.size, 0, none⟩) (by have := hbz.size; simp; omega)).trans hLl2, (hb.cell (p := ⟨w.heap.size + 1, 0, none⟩) (by have := hbz.size; simp; omega)).trans hMl2, hb⟩))
    have hdr := Lib.hid (show Below Z2.heap.size Z2 Z2.drew from (Below.refl _ _).drew)
    have hdrN := Lib.hid (fun n => show Below Z2.heap.size Z2 (Z2.drewN n) from below_drewN (Below.refl _ _) n)
    clear hLl hMl hs9 hsxZ hs9t hsY hq hk hkx hDZ hsw hLl2 hMl2
    have hcap2 : (k : Int) ≤ (c9 : Int) := by omega
    have hcap3 : (0 : Int) ≤ (k : Int) := by omega
    have hcap4 : k ≤ c9 := by omega
    go_wp2_with fail
    go_region_held3 (fun W => W.cell? ⟨wc.heap.size, 0, none⟩ = some (.slice Ax k cx) ∧ W.cell? ⟨w.heap.size + 1, 0, none⟩ = some (.int .i64 (m : Int)) ∧ Below Z2.heap.size Z2 W)
      (first | exact HSA.out _ hdr.out | exact HSA.out _ (hdrN.out _) | exact HSA.out _ hbj)
      (first | (go_at_call 30; refine (hints.out _ hdr.out).mono ?_; rintro e w20 ⟨rfl, d, rfl⟩) | (go_at_call 8; refine (works_any _ (HTZ.out.below (hdrN.out _))).mono ?_; rintro e w21 ⟨rfl, hbk⟩; have hbj : Below Z2.heap.size Z2 w21 := (hdrN.out _).trans (hbk.mono (hdrN.out _).size)))
    have hDj : w21.heap[wc.heap.size + 1]? = some (.deferred (some [])) := by
      have h := (hbj.block w11.heap.size (by have := hbz.size; omega)).trans HDZ.out
      rw [hz11] at h
      exact h
    have hBj : Below w.heap.size w (w21.putObj (wc.heap.size + 1) (.deferred none)) := (hBZ.trans (hbj.mono hBZ.size)).grown (putObj_grown w21 _ _) (by have := hBZ.size; have := hbj.size; omega) (fun r e => by cases e; omega)
    clear hbk hdr hdrN HSA hints HTZ
    go_wp2
    refine ⟨by simp, .inl ⟨_, _, rfl, run_takeDeferred hDj, ?_⟩⟩
    exact ⟨_, results_tmp (t := 6) rfl _ _ _, ⟨rfl, hBj⟩⟩
  case stop =>
    rintro c' xs O Z hall ⟨rfl, hI, hlen, hOw⟩ hD
    have hnO : ¬ O w11.heap.size := fun h => by have := hOw _ h; omega
    obtain ⟨v2, hLY, hMY, hownY, _, hblY⟩ := hI
    obtain ⟨Ax, cx, rfl⟩ := own_slice hownY
    have hxs : xs = (idxs 0 l).take m := got_stop hall hlen
    have hbq : Below w6.heap.size w6 Z := hbcc.trans (hblY.mono hbcc.size)
    have hpl := Lib.hid (places_refc l true Av cv Z HLL.out ((hsw.below hbq).more hbq.size))
    rw [such_true] at hpl
    obtain ⟨ys, hys⟩ : ∃ ys, ys = idxs 0 l := ⟨_, rfl⟩
    rw [← hys] at hpl hxs
    have hql : ys.length ≤ 4096 := by
      rw [hys, idxs_len]
      have h1 := List.count_le_length (a := true) (l := l)
      have h2 := HLL.out
      omega
    have hLl := hLY.cell
    have hMl := hMY.cell
    have hsY := Sees.of_own hownY
    have HXS := Lib.hid hxs
    have HD := Lib.hid hD
    have hZlt := (Array.getElem?_eq_some_iff.1 hD).1
    have hLlt := hLY.lt
    have hMlt := hMY.lt
    clear hall hlen hMY hLY hownY hit hxs hD hL11 hM11 hys
    refine wpIn_wide.2 ?_
    go_wp2_with fail
    refine (hpl.out).mono ?_
    rintro e Z2 ⟨A9, c9, rfl, hcap9, hs9, hbz⟩
    have hLl2 := (hbz.cell (p := ⟨wc.heap.size, 0, none⟩) hLlt).trans hLl
    have hMl2 := (hbz.cell (p := ⟨w.heap.size + 1, 0, none⟩) hMlt).trans hMl
    obtain ⟨q, hq⟩ : ∃ q, q = ys.length := ⟨_, rfl⟩
    rw [← hq] at hql hcap9
    rw [← hq]
    have HQ := Lib.hid hq
    obtain ⟨k, hk⟩ : ∃ k, k = min m q := ⟨_, rfl⟩
    have hkq : k ≤ q := by omega
    have hkx : xs.length = k := by rw [HXS.out, List.length_take, hk, hq]
    have hmin : (if (q : Int) < (m : Int) then (q : Int) else (m : Int)) = (k : Int) := by split <;> omega
    have hmin2 : (if q < m then (q : Int) else (m : Int)) = (k : Int) := by split <;> omega
    have hsxZ := (hsY.below hbz).more hbz.size
    have hs9t := hs9.take k
    rw [ins_take, show ys.take k = xs by rw [HXS.out, hk, hq]; exact (List.take_eq_take_min).symm] at hs9t
    rw [hkx] at hLl2
    have hints := Lib.hid (fun (W : World) (hb : Below Z2.heap.size Z2 W) => ints_any xs Ax A9 k cx c9 W.heap.size W (by omega) hkx ((hsxZ.below hb).more hb.size) ((hs9t.below hb).more hb.size))
    have HTZ := Lib.hid ((((HT.out.below hB6).below hbq).below hbz))
    have hBZ := below0 (hB6.trans (hbq.mono hB6.size)) hbz
    have hDZ := (hbz.block _ hZlt).trans HD.out
    have HDZ := Lib.hid hDZ
    have HSA := Lib.hid (fun (W : World) (hb : Below Z2.heap.size Z2 W) => (show W.cell? ⟨wc.heap.size, 0, none⟩ = some (.slice Ax k cx) ∧ W.cell? ⟨w.heap.size + 1, 0, none⟩ = some (.int .i64 (m : Int)) ∧ Below Z2.heap.size Z2 W from
      ⟨(hb.cell (p := ⟨wc.heap.size, 0, none⟩) (by have := hbz.size; simp; omega)).trans hLl2, (hb.cell (p := ⟨w.heap.size + 1, 0, none⟩) (by have := hbz.size; simp; omega)).trans hMl2, hb⟩))
    have hdr := Lib.hid (show Below Z2.heap.size Z2 Z2.drew from (Below.refl _ _).drew)
    have hdrN := Lib.hid (fun n => show Below Z2.heap.size Z2 (Z2.drewN n) from below_drewN (Below.refl _ _) n)
    clear hLl hMl hs9 hsxZ hs9t hsY hq hk hkx hDZ hsw hLl2 hMl2
    have hcap2 : (k : Int) ≤ (c9 : Int) := by omega
    have hcap3 : (0 : Int) ≤ (k : Int) := by omega
    have hcap4 : k ≤ c9 := by omega
    go_wp2_with fail
    go_region_held3 (fun W => W.cell? ⟨wc.heap.size, 0, none⟩ = some (.slice Ax k cx) ∧ W.cell? ⟨w.heap.size + 1, 0, none⟩ = some (.int .i64 (m : Int)) ∧ Below Z2.heap.size Z2 W)
      (first | exact HSA.out _ hdr.out | exact HSA.out _ (hdrN.out _) | exact HSA.out _ hbj)
      (first | (go_at_call 30; refine (hints.out _ hdr.out).mono ?_; rintro e w20 ⟨rfl, d, rfl⟩) | (go_at_call 8; refine (works_any _ (HTZ.out.below (hdrN.out _))).mono ?_; rintro e w21 ⟨rfl, hbk⟩; have hbj : Below Z2.heap.size Z2 w21 := (hdrN.out _).trans (hbk.mono (hdrN.out _).size)))
    have hDj : w21.heap[wc.heap.size + 1]? = some (.deferred (some [])) := by
      have h := (hbj.block w11.heap.size (by have := hbz.size; omega)).trans HDZ.out
      rw [hz11] at h
      exact h
    have hBj : Below w.heap.size w (w21.putObj (wc.heap.size + 1) (.deferred none)) := (hBZ.trans (hbj.mono hBZ.size)).grown (putObj_grown w21 _ _) (by have := hBZ.size; have := hbj.size; omega) (fun r e => by cases e; omega)
    clear hbk hdr hdrN HSA hints HTZ
    go_wp2
    refine ⟨by simp, .inl ⟨_, _, rfl, run_takeDeferred hDj, ?_⟩⟩
    exact ⟨_, results_tmp (t := 6) rfl _ _ _, ⟨rfl, hBj⟩⟩

theorem bitsCopies_any (s : ByteArray) (c0 : Bool) (a0 : Int) (i0 : Bool) (c1 : Bool) (a1 : Int) (i1 : Bool) (many : Int) (w : World) (ht : Tab w) (hs : s.size ≤ maxLen) :
    Calls Tryd.prog 5 #[.string s, twoV c0 a0 i0 c1 a1 i1, .int .i64 many] w fun e w' => e = .returned (.bool true) ∧ Below w.heap.size w w' := by
  by_cases hl : 4096 < s.size
  · exact copies_long s c0 a0 i0 c1 a1 i1 many w ht hs hl
  · by_cases h3 : 300 < s.size
    · rcases hpp : parsed s.data.toList with _ | l
      · exact copies_bign s c0 a0 i0 c1 a1 i1 many w ht h3 (by omega) hpp
      · exact copies_bigs s c0 a0 i0 c1 a1 i1 many w ht l h3 (by omega) hpp
    · rcases hpp : parsed s.data.toList with _ | l
      · exact copies_none s c0 a0 i0 c1 a1 i1 many w ht (by omega) hpp
      · by_cases h1 : many < 1
        · exact copies_less s c0 a0 i0 c1 a1 i1 many w ht l (by omega) hpp h1
        · by_cases h2 : 300 < many
          · exact copies_more s c0 a0 i0 c1 a1 i1 many w ht l (by omega) hpp h2
          · obtain ⟨m, rfl⟩ : ∃ m : Nat, many = m := ⟨many.toNat, by omega⟩
            exact copies_main s c0 a0 i0 c1 a1 i1 m l w ht (by omega) hpp (by omega) (by omega)
end Go.Proofs.YtbiopegophdgiaaDoor
