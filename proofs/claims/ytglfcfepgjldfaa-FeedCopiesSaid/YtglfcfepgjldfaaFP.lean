import Derived.Test.YtglfcfepgjldfaaFO
import Derived.Deep.RegionHeld3
import Derived.Shelf.RegionOpen
namespace Go.Proofs.Ytglfcfepgjldfaa.Fe
open Go.RowKit Go.Shelf
attribute [local go_sem] Oper.semAt_some

/- FEEDCOPIES: A COPY GOES ON APART; WHICH ARE THE SAME. -/
abbrev twoV (xw xn yw yn : Int) : Value := .agg #[.int .i64 xw, .int .i64 xn, .int .i64 yw, .int .i64 yn]
set_option maxRecDepth 100000 in
set_option maxHeartbeats 8000000 in
theorem copies_main {Has : HasT} (H : Api Has) (bs : List UInt8) (A : Option Addr) (n ca : Nat) (acts : List Ac) (B : Option Addr) (m cb : Nat) (xw xn yw yn : Int) (w : World) (hA : Sees w w.heap.size A (byt bs)) (hn : bs.length = n) (hn2 : n ≤ 100) (hB : Acs w acts B) (hm : acts.length = m) (hm6 : m ≤ 20) (hx : Ac.fits ⟨xw, xn⟩) (hy : Ac.fits ⟨yw, yn⟩) :
    Calls Try.prog 4 #[.slice A n ca, .slice B m cb, twoV xw xn yw yn] w fun e w' => e = .returned (.bool true) ∧ Below w.heap.size w w' := by
  have HW := Lib.hid (fun W => works_any H W)
  have d1 : decide ((100 : Int) < (n : Int)) = false := decide_eq_false (by omega)
  have d2 : decide ((20 : Int) < (m : Int)) = false := decide_eq_false (by omega)
  have HAC := Lib.hid (fun i (hi : i < acts.length) => hB.at_ i hi)
  have HF := Lib.hid (fun i (hi : i < acts.length) => hB.fits _ (List.getElem_mem hi))
  have HM := Lib.hid hm
  have HX := Lib.hid hx
  have HY := Lib.hid hy
  have HCV : Hid (∀ W, Below w.heap.size w W → (convert 22 9 (.slice A n ca)).run Try.prog W = .ok (.string (str bs)) W) := Lib.hid (fun W hb => run_conv_sees W Try.underlying22 Try.underlying5 Try.underlying9 hn ((hA.below hb).more hb.size))
  have hB0 := below1 w (.cells #[.int .i64 xw, .int .i64 xn, .int .i64 yw, .int .i64 yn] 37)
  have hnew := H.new _ A n ca bs ((hA.below hB0).more hB0.size) hn (by omega)
  have hrow := Row.new w 37 [.int .i64 xw, .int .i64 xn, .int .i64 yw, .int .i64 yn]
  obtain ⟨W0, hW0⟩ : ∃ W0, W0 = w.alloc (.cells #[.int .i64 xw, .int .i64 xn, .int .i64 yw, .int .i64 yn] 37) := ⟨_, rfl⟩
  rw [← hW0] at hB0 hnew
  replace hrow : Row W0 w.heap.size 37 [.int .i64 xw, .int .i64 xn, .int .i64 yw, .int .i64 yn] := by rw [hW0]; exact hrow
  have HB0 := Lib.hid hB0
  have HRW := Lib.hid hrow
  have HNW := Lib.hid hnew
  have HW0 := Lib.hid hW0
  clear hA hB hm hx hy hB0 hnew hrow hW0
  go_enter Try.func4, Try.ntmps4
  go_wp2_with fail
  rw [← HW0.out]
  refine HNW.out.mono ?_
  rintro e w8 ⟨v0, F0, rfl, b1, b2, b3⟩
  obtain ⟨g5, hg5⟩ : ∃ g5, g5 = w.heap.size := ⟨_, rfl⟩
  have hcv := HCV.out w8 (below0 HB0.out b3)
  have P9 : Hid (PD Has w g5 w8.heap.size [.int .i64 xw, .int .i64 xn, .int .i64 yw, .int .i64 yn] v0 bs 0 (w8.alloc (.cells #[.string (str bs), .int .i64 0] 28))) := Lib.hid (by
    have hb4 := below1 w8 (.cells #[.string (str bs), .int .i64 0] 28)
    have h1 := HRW.out.lt
    have h2 := HB0.out.size
    have h3 := b3.size
    rw [hg5]
    exact ⟨⟨⟨F0, H.below b1 hb4, fun k hk => ⟨Nat.le_trans h2 (b2 k hk), fun hx => by
      have h4 := b2 k hk
      have h5 := H.lt b1 k hk
      rcases hx with rfl | rfl <;> omega⟩⟩, below0 (below0 HB0.out b3) hb4⟩, (HRW.out.below b3).below hb4, ⟨Nat.le_refl _, by omega, by omega⟩, Row.new w8 _ (fc bs 0)⟩)
  obtain ⟨SB, hSB⟩ : ∃ SB, SB = str bs := ⟨_, rfl⟩
  rw [← hSB] at hcv
  have HSB := Lib.hid hSB
  rw [← hSB] at P9
  have HG5 := Lib.hid hg5
  clear b1 b2 b3 hSB HNW HRW HCV hg5
  go_wp2_with fail
  rw [← HG5.out]
  obtain ⟨gw, hgw⟩ : ∃ gw, gw = w8.heap.size := ⟨_, rfl⟩
  obtain ⟨wb, hwb⟩ : ∃ wb, wb = w8.alloc (.cells #[.string SB, .int .i64 0] 28) := ⟨_, rfl⟩
  rw [← hgw, ← hwb] at P9
  rw [← hgw, ← hwb]
  clear hwb hcv hgw
  go_loopw [7, 9] (fun s7 s9 wr => ∃ (i p : Nat) (v : Value), i ≤ m ∧ v = s7 ∧ s9 = .int .i64 (i : Int) ∧ PD Has w g5 gw [.int .i64 xw, .int .i64 xn, .int .i64 yw, .int .i64 yn] v bs p wr) (fun _ s9 _ => m - (_root_.Go.RowKit.intOf s9).toNat)
  case atStart => exact ⟨0, 0, _, Nat.zero_le _, rfl, rfl, P9.out⟩
  case round =>
    obtain ⟨i, p, v, hi2, rfl, rfl, P⟩ := hrel
    by_cases hlt2 : i < m
    · have hil : i < acts.length := by rw [HM.out]; exact hlt2
      obtain ⟨ad2, rfl, _, HA2⟩ := HAC.out i hil
      have hfit := HF.out i hil
      obtain ⟨ac, hac⟩ : ∃ ac, ac = acts[i] := ⟨_, rfl⟩
      rw [← hac] at HA2 hfit
      obtain ⟨what, nn⟩ := ac
      have k0 : (0 : Int) ≤ (i : Int) := by omega
      have k1 : (i : Int) < (m : Int) := by omega
      have k2 : decide ((i : Int) < (m : Int)) = true := decide_eq_true k1
      have k3 : decide (i < m) = true := decide_eq_true hlt2
      have HS0 : Hid (∀ V, Below w.heap.size w V → (fun W : World => W.cell? (ad2.add (i * 2)) = some (.int .i64 what) ∧ W.cell? ⟨(ad2.add (i * 2)).block, (ad2.add (i * 2)).off + 1, none⟩ = some (.int .i64 nn)) V) := Lib.hid (fun V hb => ⟨(HA2 V hb).c0, (HA2 V hb).c1⟩)
      have HPq := Lib.hid (PD.more H P (show Below wr.heap.size wr wr.drew from (Below.refl _ _).drew))
      obtain ⟨q, hq⟩ : ∃ q, q = actP bs p what nn := ⟨_, rfl⟩
      have HACT : Hid (∀ (X : Nat → Prop) (V : World), QS Has w X v bs p V → (∀ k, X k → k < V.heap.size) → Calls Try.prog 8 #[v, .agg #[.string SB, .int .i64 (p : Int)], .agg #[.int .i64 what, .int .i64 nn]] V fun e V' =>
        ∃ v', e = .returned (.tuple #[v', .agg #[.string SB, .int .i64 (q : Int)], .bool true]) ∧ QS Has w X v' bs q V' ∧ (∀ k, X k → V'.heap[k]? = V.heap[k]?) ∧ V.heap.size ≤ V'.heap.size) := Lib.hid (fun X V h hX => by
        have := QS.act H h hX ⟨what, nn⟩ hfit
        rw [HSB.out, hq]
        exact this)
      have hS0 := HS0.out wr.drew (P.qs.below.drew)
      have d0 : wr.cell? ⟨gw, 0, none⟩ = some (.string SB) := by have := P.box.cell 0; rw [HSB.out]; exact this
      have d1 : wr.cell? ⟨gw, 1, none⟩ = some (.int .i64 (p : Int)) := P.box.cell 1
      have d2 := hS0.1
      have d3 := hS0.2
      have HSD := Lib.hid hS0
      clear hS0 hac P hfit hq
      go_wp2_with fail
      refine wp_region_noPanic ?_
      refine wp_region_held_drew (S := fun W => W.cell? (ad2.add (i * 2)) = some (.int .i64 what) ∧ W.cell? ⟨(ad2.add (i * 2)).block, (ad2.add (i * 2)).off + 1, none⟩ = some (.int .i64 nn)) (by kernel_rfl) HSD.out (fun hHeld => ?_)
      refine wpAnyH_take (i := 0) (v := ?_) rfl (by kernel_rfl) (by kernel_rfl) (by kernel_rfl) (fun _ _ _ h => h) (Or.inl ⟨by kernel_rfl, ?_⟩) hHeld ?_
      rotate_left
      focus (intro w hSw; (try dsimp only at hSw); go_simp; try with_reducible rfl)
      try simp only [Act.put]
      refine wpAnyH_take (i := 2) (v := ?_) rfl (by kernel_rfl) (by kernel_rfl) (by kernel_rfl) (fun _ _ _ h => h) (Or.inl ⟨by kernel_rfl, ?_⟩) hHeld ?_
      rotate_left
      focus (intro w hSw; (try dsimp only at hSw); go_simp; try with_reducible rfl)
      try simp only [Act.put]
      refine wpAnyH_take (i := 3) (v := ?_) rfl (by kernel_rfl) (by kernel_rfl) (by kernel_rfl) (fun _ _ _ h => h) (Or.inl ⟨by kernel_rfl, ?_⟩) hHeld ?_
      rotate_left
      focus (intro w hSw; (try dsimp only at hSw); go_simp; try with_reducible rfl)
      try simp only [Act.put]
      refine wpAnyH_take (i := 4) (v := ?_) rfl (by kernel_rfl) (by kernel_rfl) (by kernel_rfl) (fun _ _ _ h => h) (Or.inl ⟨by kernel_rfl, ?_⟩) hHeld ?_
      rotate_left
      focus (intro w hSw; (try dsimp only at hSw); go_simp; try with_reducible rfl)
      try simp only [Act.put]
      refine wpAnyH_take (i := 5) (v := ?_) rfl (by kernel_rfl) (by kernel_rfl) (by kernel_rfl) (fun _ _ _ h => h) (Or.inl ⟨by kernel_rfl, ?_⟩) hHeld ?_
      rotate_left
      focus (intro w hSw; (try dsimp only at hSw); go_simp; try with_reducible rfl)
      try simp only [Act.put]
      refine wpAnyH_ready (rs := [1]) (by kernel_rfl) (by simp) ?_
      refine AllReadyH.cons rfl (fun K hK => ?_) (AllReadyH.nil)
      go_simp
      refine hK.out _ _ HSD.out (fun hHeld => ?_)
      clear hK K
      try simp only [Act.put]
      refine wpAnyH_ready (rs := [6]) (by kernel_rfl) (by simp) ?_
      refine AllReadyH.cons rfl (fun K hK => ?_) (AllReadyH.nil)
      go_simp
      refine (HACT.out (X2 g5 gw) _ (HPq.out.qs) HPq.out.x2lt).mono ?_
      rintro e V1 ⟨v1, rfl, n1, n2, n3⟩
      have r1 : Row V1 gw 28 (fc bs p) := HPq.out.box.same (n2 _ (.inr rfl))
      have HS1 := Lib.hid (HS0.out V1 n1.below)
      have f0 := r1.frozen 0
      have f1 := r1.frozen 1
      have e0 : V1.cell? ⟨gw, 0, none⟩ = some (.string SB) := by have := r1.cell 0; rw [HSB.out]; exact this
      have e1 : V1.cell? ⟨gw, 1, none⟩ = some (.int .i64 (p : Int)) := r1.cell 1
      refine hK.out _ _ HS1.out (fun hHeld => ?_)
      clear hK K
      try simp only [Act.put]
      refine wpAnyH_take (i := 7) (v := ?_) rfl (by kernel_rfl) (by kernel_rfl) (by kernel_rfl) (fun _ _ _ h => h) (Or.inl ⟨by kernel_rfl, ?_⟩) hHeld ?_
      rotate_left
      focus (intro w hSw; (try dsimp only at hSw); go_simp; try with_reducible rfl)
      try simp only [Act.put]
      refine wpAnyH_take (i := 8) (v := ?_) rfl (by kernel_rfl) (by kernel_rfl) (by kernel_rfl) (fun _ _ _ h => h) (Or.inl ⟨by kernel_rfl, ?_⟩) hHeld ?_
      rotate_left
      focus (intro w hSw; (try dsimp only at hSw); go_simp; try with_reducible rfl)
      try simp only [Act.put]
      refine wpAnyH_take (i := 9) (v := ?_) rfl (by kernel_rfl) (by kernel_rfl) (by kernel_rfl) (fun _ _ _ h => h) (Or.inl ⟨by kernel_rfl, ?_⟩) hHeld ?_
      rotate_left
      focus (intro w hSw; (try dsimp only at hSw); go_simp; try with_reducible rfl)
      try simp only [Act.put]
      refine wpAnyH_take (i := 10) (v := ?_) rfl (by kernel_rfl) (by kernel_rfl) (by kernel_rfl) (fun _ _ _ h => h) (Or.inl ⟨by kernel_rfl, ?_⟩) hHeld ?_
      rotate_left
      focus (intro w hSw; (try dsimp only at hSw); go_simp; try with_reducible rfl)
      try simp only [Act.put]
      refine wpAnyH_ready (rs := [11]) (by kernel_rfl) (by simp) ?_
      refine AllReadyH.cons rfl (fun K hK => ?_) (AllReadyH.nil)
      go_simp
      refine hK.out _ _ HS1.out (fun hHeld => ?_)
      clear hK K
      try simp only [Act.put]
      refine wpAnyH_ready (rs := [12]) (by kernel_rfl) (by simp) ?_
      refine AllReadyH.cons rfl (fun K hK => ?_) (AllReadyH.nil)
      go_simp
      have HPD := Lib.hid (PD.lay H HPq.out n1 n2)
      rw [← HSB.out] at HPD
      have HS2 := Lib.hid (HS0.out _ HPD.out.qs.below)
      refine hK.out _ _ HS2.out (fun hHeld => ?_)
      clear hK K
      try simp only [Act.put]
      refine wpAnyH_done (by kernel_rfl) ?_ _
      refine NoPanic.normal ?_
      obtain ⟨W5, hW5⟩ : ∃ W5, W5 = (V1.setCell ⟨gw, 0, none⟩ (.string SB)).setCell ⟨gw, 1, none⟩ (.int .i64 (q : Int)) := ⟨_, rfl⟩
      rw [← hW5] at HPD
      rw [← hW5]
      clear hW5 HACT HSD HS0 HS1 HS2 HPq n1 n2 n3 r1 f0 f1 e0 e1 hHeld d0 d1 d2 d3
      go_wp2_with fail
      go_roundw
      case rel => exact ⟨i + 1, q, v1, by omega, rfl, by go_num, HPD.out⟩
      case measure => simp [_root_.Go.RowKit.intOf]; omega

    · obtain rfl : m = i := by omega
      have k2 : decide ((m : Int) < (m : Int)) = false := decide_eq_false (by omega)
      have HPq := Lib.hid P
      obtain ⟨w10, hw10⟩ : ∃ x : World, x = wr := ⟨_, rfl⟩
      subst hw10
      have hcp := Lib.hid (PD.copy H P)
      clear P
      go_wp2_with fail
      refine hcp.out.mono ?_
      rintro e V2 ⟨vc, rfl, E⟩
      have HE := Lib.hid E
      clear hcp E HPq
      obtain ⟨q1, hq1⟩ : ∃ q, q = actP bs p xw xn := ⟨_, rfl⟩
      obtain ⟨q2, hq2⟩ : ∃ q, q = actP bs p yw yn := ⟨_, rfl⟩
      have c0 : V2.cell? ⟨gw, 0, none⟩ = some (.string SB) := by have := HE.out.box.cell 0; rw [HSB.out]; exact this
      have c1 : V2.cell? ⟨gw, 1, none⟩ = some (.int .i64 (p : Int)) := HE.out.box.cell 1
      have t0 : V2.cell? ⟨g5, 0, none⟩ = some (.int .i64 xw) := HE.out.two.cell 0
      have t1 : V2.cell? ⟨g5, 1, none⟩ = some (.int .i64 xn) := HE.out.two.cell 1
      have hac : Hid (Calls Try.prog 8 #[v, .agg #[.string SB, .int .i64 (p : Int)], .agg #[.int .i64 xw, .int .i64 xn]] V2 fun e V' => ∃ v1, e = .returned (.tuple #[v1, .agg #[.string SB, .int .i64 (q1 : Int)], .bool true]) ∧ E1 Has w g5 gw (fun _ => False) [.int .i64 xw, .int .i64 xn, .int .i64 yw, .int .i64 yn] v1 vc bs p q1 p V') := Lib.hid (by
        have := E1.act H HE.out ⟨xw, xn⟩ HX.out
        rw [HSB.out, hq1]
        exact this)
      have HQ2 := Lib.hid hq2
      clear hq1 hq2
      go_wp2_with fail
      refine hac.out.mono ?_
      rintro e V3 ⟨v1, rfl, E⟩
      have HE2 := Lib.hid (E1.lay H E)
      have c2 : V3.cell? ⟨gw, 0, none⟩ = some (.string SB) := by have := E.box.cell 0; rw [HSB.out]; exact this
      have c3 : V3.cell? ⟨gw, 1, none⟩ = some (.int .i64 (p : Int)) := E.box.cell 1
      have t2 : V3.cell? ⟨g5, 2, none⟩ = some (.int .i64 yw) := E.two.cell 2
      have t3 : V3.cell? ⟨g5, 3, none⟩ = some (.int .i64 yn) := E.two.cell 3
      have z1 := E.box.lt
      have z2 := E.two.lt
      rw [← HSB.out] at HE2
      obtain ⟨wa, hwa⟩ : ∃ wa, wa = V3.alloc (.cells #[.string SB, .int .i64 (q1 : Int)] 28) := ⟨_, rfl⟩
      obtain ⟨ga, hga⟩ : ∃ ga, ga = V3.heap.size := ⟨_, rfl⟩
      rw [← hwa, ← hga] at HE2
      have hac2 : Hid (Calls Try.prog 8 #[vc, .agg #[.string SB, .int .i64 (p : Int)], .agg #[.int .i64 yw, .int .i64 yn]] wa fun e V' => ∃ v2, e = .returned (.tuple #[v2, .agg #[.string SB, .int .i64 (q2 : Int)], .bool true]) ∧ E3 Has w v1 v2 bs q1 q2 ga V'.heap.size (V'.alloc (.cells #[.string SB, .int .i64 (q2 : Int)] 28))) := Lib.hid (by
        have := E1.act2 H HE2.out.1 HE2.out.2 ⟨yw, yn⟩ HY.out
        rw [HSB.out, HQ2.out]
        exact this)
      rw [hwa] at hac2
      have HWA := Lib.hid hwa
      have HGA := Lib.hid hga
      clear hac E HE c0 c1 t0 t1 hwa hga
      go_wp2_with fail
      rw [← HGA.out]
      refine hac2.out.mono ?_
      rintro e V4 ⟨v2, rfl, E⟩
      obtain ⟨gb, hgb⟩ : ∃ gb, gb = V4.heap.size := ⟨_, rfl⟩
      obtain ⟨W0, hW0⟩ : ∃ W0, W0 = V4.alloc (.cells #[.string SB, .int .i64 (q2 : Int)] 28) := ⟨_, rfl⟩
      rw [← hgb, ← hW0] at E
      have HE3 := Lib.hid E
      have HGB := Lib.hid hgb
      have HW9 := Lib.hid hW0
      clear hac2 E hgb hW0 c2 c3 t2 t3 z1 z2 HWA HGA
      go_wp2_with fail
      rw [← HGB.out, ← HW9.out]
      clear HGB HW9
      have hdr := Lib.hid (show Below W0.heap.size W0 W0.drew from (Below.refl _ _).drew)
      have HSA := Lib.hid (fun (W : World) (hb : Below W0.heap.size W0 W) => (show W.cell? ⟨ga, 0, none⟩ = some (.string SB) ∧ W.cell? ⟨ga, 1, none⟩ = some (.int .i64 (q1 : Int)) ∧ W.cell? ⟨gb, 0, none⟩ = some (.string SB) ∧ W.cell? ⟨gb, 1, none⟩ = some (.int .i64 (q2 : Int)) ∧ Below W0.heap.size W0 W from by
        have h1 := (HE3.out.box1.below hb)
        have h2 := (HE3.out.box2.below hb)
        rw [HSB.out]
        exact ⟨h1.cell 0, h1.cell 1, h2.cell 0, h2.cell 1, hb⟩))
      have HAL := Lib.hid (fun (V V' : World) (h1 : Below W0.heap.size W0 V) (h2 : Below V.heap.size V V') => below0 h1 h2)
      obtain ⟨T1, hT1⟩ : ∃ T, T = str (bs.drop q1) := ⟨_, rfl⟩
      obtain ⟨T2, hT2⟩ : ∃ T, T = str (bs.drop q2) := ⟨_, rfl⟩
      have HL1 : Hid (∀ W, Calls Try.prog 13 #[.agg #[.string SB, .int .i64 (q1 : Int)]] W fun e w' => e = .returned (.string T1) ∧ Below W.heap.size W w') := Lib.hid (fun W => by
        obtain ⟨F, Fc, h1, h2⟩ := HE3.out.ex
        rw [HSB.out, hT1]
        exact rleft_any bs q1 (H.sm h1) W)
      have HL2 : Hid (∀ W, Calls Try.prog 13 #[.agg #[.string SB, .int .i64 (q2 : Int)]] W fun e w' => e = .returned (.string T2) ∧ Below W.heap.size W w') := Lib.hid (fun W => by
        obtain ⟨F, Fc, h1, h2⟩ := HE3.out.ex
        rw [HSB.out, hT2]
        exact rleft_any bs q2 (H.sm h2) W)
      obtain ⟨bb, hbb⟩ : ∃ bb, bb = decide (bs.drop q1 = bs.drop q2) := ⟨_, rfl⟩
      have hss : (T1.toList == T2.toList) = bb := by
        rw [hT1, hT2, str_toList, str_toList, hbb]
        cases h : (bs.drop q1 == bs.drop q2)
        · exact (decide_eq_false (by simpa using h)).symm
        · exact (decide_eq_true (by simpa using h)).symm
      have HBB := Lib.hid hbb
      clear hT1 hT2 hbb
      refine wp_region_noPanic ?_
      refine wp_region_held_drew (S := fun W => W.cell? ⟨ga, 0, none⟩ = some (.string SB) ∧ W.cell? ⟨ga, 1, none⟩ = some (.int .i64 (q1 : Int)) ∧ W.cell? ⟨gb, 0, none⟩ = some (.string SB) ∧ W.cell? ⟨gb, 1, none⟩ = some (.int .i64 (q2 : Int)) ∧ Below W0.heap.size W0 W) (by kernel_rfl) (HSA.out _ hdr.out) (fun hHeld => ?_)
      refine wpAnyH_take (i := 0) (v := ?_) rfl (by kernel_rfl) (by kernel_rfl) (by kernel_rfl) (fun _ _ _ h => h) (Or.inl ⟨by kernel_rfl, ?_⟩) hHeld ?_
      rotate_left
      focus (intro w hSw; (try dsimp only at hSw); go_simp; try with_reducible rfl)
      try simp only [Act.put]
      refine wpAnyH_take (i := 2) (v := ?_) rfl (by kernel_rfl) (by kernel_rfl) (by kernel_rfl) (fun _ _ _ h => h) (Or.inl ⟨by kernel_rfl, ?_⟩) hHeld ?_
      rotate_left
      focus (intro w hSw; (try dsimp only at hSw); go_simp; try with_reducible rfl)
      try simp only [Act.put]
      refine wpAnyH_ready (rs := [1]) (by kernel_rfl) (by simp) ?_
      refine AllReadyH.cons rfl (fun K hK => ?_) (AllReadyH.nil)
      go_simp
      refine (HL1.out _).mono ?_
      rintro e V6 ⟨rfl, hb⟩
      have hb6 := HAL.out _ _ hdr.out hb
      refine hK.out _ _ (HSA.out _ hb6) (fun hHeld => ?_)
      clear hK K
      try simp only [Act.put]
      refine wpAnyH_ready (rs := [3]) (by kernel_rfl) (by simp) ?_
      refine AllReadyH.cons rfl (fun K hK => ?_) (AllReadyH.nil)
      go_simp
      refine (HL2.out _).mono ?_
      rintro e V7 ⟨rfl, hb⟩
      have hb7 := HAL.out _ _ hb6 hb
      refine hK.out _ _ (HSA.out _ hb7) (fun hHeld => ?_)
      clear hK K
      try simp only [Act.put]
      refine wpAnyH_ready (rs := [4]) (by kernel_rfl) (by simp) ?_
      refine AllReadyH.cons rfl (fun K hK => ?_) (AllReadyH.nil)
      go_simp
      refine hK.out _ _ (HSA.out _ hb7) (fun hHeld => ?_)
      clear hK K
      try simp only [Act.put]
      refine wpAnyH_ready (rs := [5]) (by kernel_rfl) (by simp) ?_
      refine AllReadyH.cons rfl (fun K hK => ?_) (AllReadyH.nil)
      go_simp
      refine hK.out _ _ (HSA.out _ hb7) (fun hHeld => ?_)
      clear hK K
      try simp only [Act.put]
      refine wpAnyH_done (by kernel_rfl) ?_ _
      refine NoPanic.normal ?_
      have HB5 := Lib.hid hb7
      clear hHeld hb6 hb7 hb
      have HE7 := Lib.hid (E3.more H HE3.out HB5.out)
      clear HE3 HL1 HL2 HAL HSA hdr hss HB5
      have hbe : (bb == bb) = true := by cases bb <;> rfl
      have HCE := Lib.hid (fun (V : World) (h : E3 Has w v1 v2 bs q1 q2 ga gb V) => (show V.cell? ⟨ga, 0, none⟩ = some (.string SB) ∧ V.cell? ⟨ga, 1, none⟩ = some (.int .i64 (q1 : Int)) ∧ V.cell? ⟨gb, 0, none⟩ = some (.string SB) ∧ V.cell? ⟨gb, 1, none⟩ = some (.int .i64 (q2 : Int)) from by
        rw [HSB.out]
        exact ⟨h.box1.cell 0, h.box1.cell 1, h.box2.cell 0, h.box2.cell 1⟩))
      have hc0 : Hid (Calls Try.prog 9 #[v1, .agg #[.string SB, .int .i64 (q1 : Int)]] V7 fun e w' => e = .returned (.bool true) ∧ E3 Has w v1 v2 bs q1 q2 ga gb w') := Lib.hid (by
        have := E3.is1 H HE7.out
        rw [HSB.out]
        exact this)
      have r0 := (HCE.out _ HE7.out).1
      have s0 := (HCE.out _ HE7.out).2.1
      go_wp2_with fail
      refine hc0.out.mono ?_
      rintro e V8 ⟨rfl, E⟩
      have HE7 := Lib.hid E
      clear hc0 E r0 s0
      have hc1 : Hid (Calls Try.prog 9 #[v2, .agg #[.string SB, .int .i64 (q2 : Int)]] V8 fun e w' => e = .returned (.bool true) ∧ E3 Has w v1 v2 bs q1 q2 ga gb w') := Lib.hid (by
        have := E3.is2 H HE7.out
        rw [HSB.out]
        exact this)
      have r1 := (HCE.out _ HE7.out).2.2.1
      have s1 := (HCE.out _ HE7.out).2.2.2
      go_wp2_with fail
      refine hc1.out.mono ?_
      rintro e V9 ⟨rfl, E⟩
      have HE7 := Lib.hid E
      clear hc1 E r1 s1
      have hc2 : Hid (Calls Try.prog 11 #[v1, v2] V9 fun e w' => e = .returned (.bool bb) ∧ E3 Has w v1 v2 bs q1 q2 ga gb w') := Lib.hid (by
        have := E3.same H HE7.out
        rw [HBB.out]
        exact this)
      go_wp2_with fail
      refine hc2.out.mono ?_
      rintro e V10 ⟨rfl, E⟩
      have HE7 := Lib.hid E
      clear hc2 E
      have hc3 : Hid (Calls Try.prog 11 #[v2, v1] V10 fun e w' => e = .returned (.bool bb) ∧ E3 Has w v1 v2 bs q1 q2 ga gb w') := Lib.hid (by
        have := E3.same2 H HE7.out
        rw [HBB.out]
        exact this)
      go_wp2_with fail
      refine hc3.out.mono ?_
      rintro e V11 ⟨rfl, E⟩
      have HE7 := Lib.hid E
      clear hc3 E
      go_wp2_with fail
      refine (HW.out V11).mono ?_
      rintro e V12 ⟨rfl, hb⟩
      have HE7 := Lib.hid (E3.more H HE7.out hb)
      clear hb
      go_wp2_with fail
      go_ret
      exact ⟨rfl, HE7.out.below⟩
set_option maxRecDepth 100000 in
theorem copies_far {Has : HasT} (H : Api Has) (A : Option Addr) (n ca : Nat) (B : Option Addr) (m cb : Nat) (xw xn yw yn : Int) (w : World) (h : 100 < n ∨ (n ≤ 100 ∧ 20 < m)) :
    Calls Try.prog 4 #[.slice A n ca, .slice B m cb, twoV xw xn yw yn] w fun e w' => e = .returned (.bool true) ∧ Below w.heap.size w w' := by
  have HW := Lib.hid (fun W => works_any H W)
  rcases h with h | ⟨h1, h2⟩
  · have d1 : decide ((100 : Int) < (n : Int)) = true := decide_eq_true (by omega)
    obtain ⟨W0, hW0⟩ : ∃ W0, W0 = w.alloc (.cells #[.int .i64 xw, .int .i64 xn, .int .i64 yw, .int .i64 yn] 37) := ⟨_, rfl⟩
    have HB0 := Lib.hid (show Below w.heap.size w W0 by rw [hW0]; exact below1 _ _)
    have HW0 := Lib.hid hW0
    clear hW0
    go_enter Try.func4, Try.ntmps4
    go_wp2_with fail
    rw [← HW0.out]
    refine (HW.out W0).mono ?_
    rintro e W1 ⟨rfl, hb1⟩
    have HB1 := Lib.hid (below0 HB0.out hb1)
    clear hb1
    go_wp2_with fail
    go_ret
    exact ⟨rfl, HB1.out⟩
  · have d1 : decide ((100 : Int) < (n : Int)) = false := decide_eq_false (by omega)
    have d2 : decide ((20 : Int) < (m : Int)) = true := decide_eq_true (by omega)
    obtain ⟨W0, hW0⟩ : ∃ W0, W0 = w.alloc (.cells #[.int .i64 xw, .int .i64 xn, .int .i64 yw, .int .i64 yn] 37) := ⟨_, rfl⟩
    have HB0 := Lib.hid (show Below w.heap.size w W0 by rw [hW0]; exact below1 _ _)
    have HW0 := Lib.hid hW0
    clear hW0
    go_enter Try.func4, Try.ntmps4
    go_wp2_with fail
    rw [← HW0.out]
    refine (HW.out W0).mono ?_
    rintro e W1 ⟨rfl, hb1⟩
    have HB1 := Lib.hid (below0 HB0.out hb1)
    clear hb1
    go_wp2_with fail
    go_ret
    exact ⟨rfl, HB1.out⟩
theorem feedCopies_any {Has : HasT} (H : Api Has) (bs : List UInt8) (A : Option Addr) (n ca : Nat) (acts : List Ac) (B : Option Addr) (m cb : Nat) (x y : Ac) (w : World) (hA : Sees w w.heap.size A (byt bs)) (hn : bs.length = n) (hB : Acs w acts B) (hm : acts.length = m) (hx : x.fits) (hy : y.fits) :
    Calls Try.prog 4 #[.slice A n ca, .slice B m cb, twoV x.what x.n y.what y.n] w fun e w' => e = .returned (.bool true) ∧ Below w.heap.size w w' := by
  by_cases h1 : n ≤ 100
  · by_cases h2 : m ≤ 20
    · exact copies_main H bs A n ca acts B m cb _ _ _ _ w hA hn h1 hB hm h2 hx hy
    · exact copies_far H A n ca B m cb _ _ _ _ w (.inr ⟨h1, by omega⟩)
  · exact copies_far H A n ca B m cb _ _ _ _ w (.inl (by omega))
end Go.Proofs.Ytglfcfepgjldfaa.Fe
