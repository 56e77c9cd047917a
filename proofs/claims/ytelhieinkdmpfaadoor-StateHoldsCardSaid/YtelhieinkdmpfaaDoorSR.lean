import Derived.Test.YtelhieinkdmpfaaDoorSQ
namespace Go.Proofs.YtelhieinkdmpfaaDoor.Sh
open Go.RowKit Go.Shelf
attribute [local go_sem] Oper.semAt_some

/- STATEHOLDS: THE STAGE's THEOREM. -/
set_option maxRecDepth 100000 in
set_option maxHeartbeats 16000000 in
theorem holds_main {Has : HasT} (H : Api Has) (acts : List Ac) (B : Option Addr) (m cb : Nat) (w : World) (hTb : Tb w) (hB : Acs w acts B) (hm : acts.length = m) (hm8 : m ≤ 80) :
    Calls Tryd.prog 6 #[.slice B m cb] w fun e w' => e = .returned (.bool true) ∧ Below w.heap.size w w' := by
  have HTB := Lib.hid hTb
  have HW := Lib.hid (fun W (hb : Below w.heap.size w W) => works_any H W (HTB.out.below hb))
  have d1 : decide ((80 : Int) < (m : Int)) = false := decide_eq_false (by omega)
  have HNUM := Lib.hid (fun n w => num_any n w)
  have HAC := Lib.hid (fun i (hi : i < acts.length) => hB.at_ i hi)
  have HF := Lib.hid (fun i (hi : i < acts.length) => hB.fits _ (List.getElem_mem hi))
  have HM := Lib.hid hm
  have HNEW := Lib.hid (run_new H (w := w) 6 (by omega) (zs 6) rfl)
  clear hB hm hTb
  go_enter Tryd.func6, Tryd.ntmps6
  go_wp2_with fail
  refine HNEW.out.mono ?_
  rintro e w1 ⟨v, rfl, R⟩
  have R0 := Lib.hid R
  clear R HNEW
  go_wp2_with fail
  refine (HNUM.out _ _).mono ?_
  rintro e w2 ⟨rfl, rfl⟩
  go_wp2_with fail
  go_loopw [5] (fun s5 wr => ∃ (i : Nat) (l : Ls), i ≤ m ∧ s5 = .int .i64 (i : Int) ∧ l.length = 6 ∧ Run Has w v l wr) (fun s5 _ => m - (_root_.Go.RowKit.intOf s5).toNat)
  case atStart => exact ⟨0, zs 6, Nat.zero_le _, rfl, rfl, R0.out⟩
  case round =>
    obtain ⟨i, l, hi2, rfl, hl6, R⟩ := hrel
    obtain ⟨x0, hx0⟩ : ∃ x : World, x = wr := ⟨_, rfl⟩
    subst hx0
    by_cases hlt2 : i < m
    · have hil : i < acts.length := by rw [HM.out]; exact hlt2
      obtain ⟨ad2, rfl, _, HA2⟩ := HAC.out i hil
      have hfit := HF.out i hil
      obtain ⟨ac, hac⟩ : ∃ ac, ac = acts[i] := ⟨_, rfl⟩
      rw [← hac] at HA2 hfit
      obtain ⟨cp, a, t⟩ := ac
      have k0 : (0 : Int) ≤ (i : Int) := by omega
      have k1 : (i : Int) < (m : Int) := by omega
      have k2 : decide ((i : Int) < (m : Int)) = true := decide_eq_true k1
      have k3 : decide (i < m) = true := decide_eq_true hlt2
      have hbx : Below w.heap.size w x0 := R.choose_spec.2.2
      have a0 := (HA2 _ hbx).c1
      have HPL : Hid (∀ V, Below w.heap.size w V → (fun W : World => W.cell? ⟨(ad2.add (i * 3)).block, (ad2.add (i * 3)).off + 1, none⟩ = some (.int .i64 a) ∧ W.cell? ⟨(ad2.add (i * 3)).block, (ad2.add (i * 3)).off + 2, none⟩ = some (.int .i64 t)) V) := Lib.hid (fun V hb => ⟨(HA2 V hb).c1, (HA2 V hb).c2⟩)
      have HMORE : Hid (∀ V, Run Has w v l V → Below w.heap.size w V) := Lib.hid (fun V h => h.choose_spec.2.2)
      have HMORE2 : Hid (∀ V, Run Has w v (moveL l a t) V → Below w.heap.size w V) := Lib.hid (fun V h => h.choose_spec.2.2)
      have HDR : Hid (∀ V, Run Has w v l V → Run Has w v l V.drew) := Lib.hid (fun V h => Run.more H h (show Below V.heap.size V V.drew from (Below.refl _ _).drew))
      by_cases hE : moveE l a t = 0
      · obtain ⟨m1, m2, m3, m4, m5⟩ := move_tells hE
        obtain ⟨x, hx⟩ : ∃ x, x = moveW l a t := ⟨_, rfl⟩
        have hg1 := Lib.hid (Run.get H R a x true hfit.1 (by rw [m2, hx]) m1)
        have HMV : Hid (∀ V, Run Has w v l V → _) := Lib.hid (fun V h => Run.move H HTB.out (V := V) h a t x 0 hfit.1 hfit.2 hx.symm hE rfl)
        have HG2 : Hid (∀ V, Run Has w v (moveL l a t) V → _) := Lib.hid (fun V h => Run.get H (V := V) h a t (inB (moveL l a t) a) hfit.1 m3 rfl)
        obtain ⟨in2, hin2⟩ : ∃ in2, in2 = inB (moveL l a t) a := ⟨_, rfl⟩
        rw [← hin2] at HG2
        have HL2 := Lib.hid (show (moveL l a t).length = 6 by rw [moveL_len, hl6])
        have HLE2 : Hid (∀ y, y ≤ 5 → sumTo (moveL l a t) (moveL l a t).length y ≤ 6) := Lib.hid (fun y hy => by
          have := sumTo_le ((Run.sts H R).move a t) y hy
          rw [moveL_len, hl6] at this
          rw [moveL_len, hl6]
          exact this)
        have HALL := Lib.hid (show sumTo (moveL l a t) (moveL l a t).length 5 = 6 by rw [sumTo_all ((Run.sts H R).move a t) _ (Nat.le_refl _), moveL_len, hl6])
        rw [← hx] at m4 m5
        obtain ⟨l2, hl2⟩ : ∃ l2, l2 = moveL l a t := ⟨_, rfl⟩
        rw [← hl2] at HMORE2 HMV HG2 HL2 HLE2 HALL
        have e1 : (x != x) = false := by simp
        have e2 : (t != t) = false := by simp
        clear HA2 hac hfit hbx R hE m1 m2 m3 hx hin2 hl2 R0
        go_wp2_with fail
        refine (hg1.out).mono ?_
        rintro e x1 ⟨rfl, R⟩
        have R1 := Lib.hid R
        clear R hg1
        go_wp2_with fail
        refine wp_region_noPanic ?_
        refine wp_region_held_drew (S := fun W => W.cell? ⟨(ad2.add (i * 3)).block, (ad2.add (i * 3)).off + 1, none⟩ = some (.int .i64 a) ∧ W.cell? ⟨(ad2.add (i * 3)).block, (ad2.add (i * 3)).off + 2, none⟩ = some (.int .i64 t)) (by kernel_rfl) (HPL.out _ (HMORE.out _ R1.out).drew) (fun hHeld => ?_)
        refine wpAnyH_take (i := 0) (v := ?_) rfl (by kernel_rfl) (by kernel_rfl) (by kernel_rfl) (fun _ _ _ h => h) (Or.inl ⟨by kernel_rfl, ?_⟩) hHeld ?_
        rotate_left
        focus (intro w hSw; (try dsimp only at hSw); go_simp; try with_reducible rfl)
        try simp only [Act.put]
        refine wpAnyH_take (i := 1) (v := ?_) rfl (by kernel_rfl) (by kernel_rfl) (by kernel_rfl) (fun _ _ _ h => h) (Or.inl ⟨by kernel_rfl, ?_⟩) hHeld ?_
        rotate_left
        focus (intro w hSw; (try dsimp only at hSw); go_simp; try with_reducible rfl)
        try simp only [Act.put]
        refine wpAnyH_take (i := 2) (v := ?_) rfl (by kernel_rfl) (by kernel_rfl) (by kernel_rfl) (fun _ _ _ h => h) (Or.inl ⟨by kernel_rfl, ?_⟩) hHeld ?_
        rotate_left
        focus (intro w hSw; (try dsimp only at hSw); go_simp; try with_reducible rfl)
        try simp only [Act.put]
        refine wpAnyH_take (i := 3) (v := ?_) rfl (by kernel_rfl) (by kernel_rfl) (by kernel_rfl) (fun _ _ _ h => h) (Or.inl ⟨by kernel_rfl, ?_⟩) hHeld ?_
        rotate_left
        focus (intro w hSw; (try dsimp only at hSw); go_simp; try with_reducible rfl)
        try simp only [Act.put]
        refine wpAnyH_take (i := 4) (v := ?_) rfl (by kernel_rfl) (by kernel_rfl) (by kernel_rfl) (fun _ _ _ h => h) (Or.inl ⟨by kernel_rfl, ?_⟩) hHeld ?_
        rotate_left
        focus (intro w hSw; (try dsimp only at hSw); go_simp; try with_reducible rfl)
        try simp only [Act.put]
        refine wpAnyH_take (i := 5) (v := ?_) rfl (by kernel_rfl) (by kernel_rfl) (by kernel_rfl) (fun _ _ _ h => h) (Or.inl ⟨by kernel_rfl, ?_⟩) hHeld ?_
        rotate_left
        focus (intro w hSw; (try dsimp only at hSw); go_simp; try with_reducible rfl)
        try simp only [Act.put]
        refine wpAnyH_take (i := 6) (v := ?_) rfl (by kernel_rfl) (by kernel_rfl) (by kernel_rfl) (fun _ _ _ h => h) (Or.inl ⟨by kernel_rfl, ?_⟩) hHeld ?_
        rotate_left
        focus (intro w hSw; (try dsimp only at hSw); go_simp; try with_reducible rfl)
        try simp only [Act.put]
        refine wpAnyH_take (i := 7) (v := ?_) rfl (by kernel_rfl) (by kernel_rfl) (by kernel_rfl) (fun _ _ _ h => h) (Or.inl ⟨by kernel_rfl, ?_⟩) hHeld ?_
        rotate_left
        focus (intro w hSw; (try dsimp only at hSw); go_simp; try with_reducible rfl)
        try simp only [Act.put]
        refine wpAnyH_take (i := 8) (v := ?_) rfl (by kernel_rfl) (by kernel_rfl) (by kernel_rfl) (fun _ _ _ h => h) (Or.inl ⟨by kernel_rfl, ?_⟩) hHeld ?_
        rotate_left
        focus (intro w hSw; (try dsimp only at hSw); go_simp; try with_reducible rfl)
        try simp only [Act.put]
        refine wpAnyH_take (i := 9) (v := ?_) rfl (by kernel_rfl) (by kernel_rfl) (by kernel_rfl) (fun _ _ _ h => h) (Or.inl ⟨by kernel_rfl, ?_⟩) hHeld ?_
        rotate_left
        focus (intro w hSw; (try dsimp only at hSw); go_simp; try with_reducible rfl)
        try simp only [Act.put]
        refine wpAnyH_take (i := 10) (v := ?_) rfl (by kernel_rfl) (by kernel_rfl) (by kernel_rfl) (fun _ _ _ h => h) (Or.inl ⟨by kernel_rfl, ?_⟩) hHeld ?_
        rotate_left
        focus (intro w hSw; (try dsimp only at hSw); go_simp; try with_reducible rfl)
        try simp only [Act.put]
        refine wpAnyH_ready (rs := [11]) (by kernel_rfl) (by simp) ?_
        refine AllReadyH.cons rfl (fun K hK => ?_) (AllReadyH.nil)
        go_simp
        refine (HMV.out x1.drew (HDR.out _ R1.out)).mono ?_
        rintro e x2 ⟨rfl, R⟩
        have R2 := Lib.hid R
        have HS2 := Lib.hid (HPL.out x2 (HMORE2.out _ R))
        clear R R1
        refine hK.out _ _ HS2.out (fun hHeld => ?_)
        clear hK K
        try simp only [Act.put]
        refine wpAnyH_take (i := 12) (v := ?_) rfl (by kernel_rfl) (by kernel_rfl) (by kernel_rfl) (fun _ _ _ h => h) (Or.inl ⟨by kernel_rfl, ?_⟩) hHeld ?_
        rotate_left
        focus (intro w hSw; (try dsimp only at hSw); go_simp; try with_reducible rfl)
        try simp only [Act.put]
        refine wpAnyH_take (i := 13) (v := ?_) rfl (by kernel_rfl) (by kernel_rfl) (by kernel_rfl) (fun _ _ _ h => h) (Or.inl ⟨by kernel_rfl, ?_⟩) hHeld ?_
        rotate_left
        focus (intro w hSw; (try dsimp only at hSw); go_simp; try with_reducible rfl)
        try simp only [Act.put]
        refine wpAnyH_take (i := 14) (v := ?_) rfl (by kernel_rfl) (by kernel_rfl) (by kernel_rfl) (fun _ _ _ h => h) (Or.inl ⟨by kernel_rfl, ?_⟩) hHeld ?_
        rotate_left
        focus (intro w hSw; (try dsimp only at hSw); go_simp; try with_reducible rfl)
        try simp only [Act.put]
        refine wpAnyH_ready (rs := [15]) (by kernel_rfl) (by simp) ?_
        refine AllReadyH.cons rfl (fun K hK => ?_) (AllReadyH.nil)
        go_simp
        refine hK.out _ _ HS2.out (fun hHeld => ?_)
        clear hK K
        try simp only [Act.put]
        refine wpAnyH_ready (rs := [16]) (by kernel_rfl) (by simp) ?_
        refine AllReadyH.cons rfl (fun K hK => ?_) (AllReadyH.nil)
        go_simp
        refine hK.out _ _ HS2.out (fun hHeld => ?_)
        clear hK K
        try simp only [Act.put]
        refine wpAnyH_done (by kernel_rfl) ?_ _
        refine NoPanic.normal ?_
        have hg2 := Lib.hid (HG2.out x2 R2.out)
        have a1 := HS2.out.1
        clear hHeld
        go_wp2_with fail
        refine (hg2.out).mono ?_
        rintro e x3 ⟨rfl, R⟩
        have R3 := Lib.hid R
        have a2 := (HPL.out x3 (HMORE2.out _ R)).2
        clear R R2 hg2 HS2 a1
        go_wp2_with fail
        refine (HNUM.out _ _).mono ?_
        rintro e x4 ⟨rfl, rfl⟩
        rcases m5 with ⟨n1, n2, n3⟩ | ⟨n1, n2, n3⟩ | ⟨n1, n2⟩
        · go_wp2_with fail
          obtain ⟨x5, hx5⟩ : ∃ x : World, x = x3 := ⟨_, rfl⟩
          subst hx5
          go_loopw [12, 13] (fun s12 s13 wr => ∃ k : Nat, k ≤ 5 ∧ s13 = .int .i64 (k : Int) ∧ s12 = .int .i64 (sumTo l2 l2.length k : Int) ∧ Run Has w v l2 wr) (fun _ s13 _ => 5 - (_root_.Go.RowKit.intOf s13).toNat)
          case atStart => exact ⟨0, by omega, rfl, rfl, R3.out⟩
          case round =>
            obtain ⟨k, hk5, rfl, rfl, R⟩ := hrel
            by_cases hk : k < 5
            · have j2 : decide ((k : Int) < 5) = true := decide_eq_true (by omega)
              have j3 : decide (k < 5) = true := decide_eq_true hk
              have hle := HLE2.out (k + 1) (by omega)
              have hct := Lib.hid (Run.count H R (k : Int) ((places l2 (k : Int)).length : Int) ⟨by omega, by omega⟩ rfl)
              obtain ⟨s1, hs1⟩ : ∃ s1, s1 = sumTo l2 l2.length (k + 1) := ⟨_, rfl⟩
              obtain ⟨s0, hs0⟩ : ∃ s0, s0 = sumTo l2 l2.length k := ⟨_, rfl⟩
              obtain ⟨c0, hc0⟩ : ∃ c0, c0 = (places l2 (k : Int)).length := ⟨_, rfl⟩
              have hss : s1 = s0 + c0 := by rw [hs1, hs0, hc0]; rfl
              rw [← hs1] at hle
              rw [← hc0] at hct
              rw [← hs0]
              have ew : IntKind.i64.wrap ((s0 : Int) + (c0 : Int)) = (s1 : Int) := by rw [wrapI _ (by omega) (by omega)]; omega
              have HS1 := Lib.hid hs1
              clear R hs1 hs0 hc0 hss
              go_wp2_with fail
              refine hct.out.mono ?_
              rintro e x6 ⟨rfl, R⟩
              have R6 := Lib.hid R
              clear R hct
              go_wp2_with fail
              go_roundw
              case rel => exact ⟨k + 1, by omega, by go_num, by rw [HS1.out], R6.out⟩
              case measure => simp [_root_.Go.RowKit.intOf]; omega
            · obtain rfl : k = 5 := by omega
              have R6 := Lib.hid R
              clear R
              rw [HALL.out]
              go_wp2_with fail
              go_roundw
              case rel => exact ⟨i + 1, l2, by omega, by go_num, HL2.out, R6.out⟩
              case measure => simp [_root_.Go.RowKit.intOf]; omega
        · go_wp2_with fail
          obtain ⟨x5, hx5⟩ : ∃ x : World, x = x3 := ⟨_, rfl⟩
          subst hx5
          go_loopw [12, 13] (fun s12 s13 wr => ∃ k : Nat, k ≤ 5 ∧ s13 = .int .i64 (k : Int) ∧ s12 = .int .i64 (sumTo l2 l2.length k : Int) ∧ Run Has w v l2 wr) (fun _ s13 _ => 5 - (_root_.Go.RowKit.intOf s13).toNat)
          case atStart => exact ⟨0, by omega, rfl, rfl, R3.out⟩
          case round =>
            obtain ⟨k, hk5, rfl, rfl, R⟩ := hrel
            by_cases hk : k < 5
            · have j2 : decide ((k : Int) < 5) = true := decide_eq_true (by omega)
              have j3 : decide (k < 5) = true := decide_eq_true hk
              have hle := HLE2.out (k + 1) (by omega)
              have hct := Lib.hid (Run.count H R (k : Int) ((places l2 (k : Int)).length : Int) ⟨by omega, by omega⟩ rfl)
              obtain ⟨s1, hs1⟩ : ∃ s1, s1 = sumTo l2 l2.length (k + 1) := ⟨_, rfl⟩
              obtain ⟨s0, hs0⟩ : ∃ s0, s0 = sumTo l2 l2.length k := ⟨_, rfl⟩
              obtain ⟨c0, hc0⟩ : ∃ c0, c0 = (places l2 (k : Int)).length := ⟨_, rfl⟩
              have hss : s1 = s0 + c0 := by rw [hs1, hs0, hc0]; rfl
              rw [← hs1] at hle
              rw [← hc0] at hct
              rw [← hs0]
              have ew : IntKind.i64.wrap ((s0 : Int) + (c0 : Int)) = (s1 : Int) := by rw [wrapI _ (by omega) (by omega)]; omega
              have HS1 := Lib.hid hs1
              clear R hs1 hs0 hc0 hss
              go_wp2_with fail
              refine hct.out.mono ?_
              rintro e x6 ⟨rfl, R⟩
              have R6 := Lib.hid R
              clear R hct
              go_wp2_with fail
              go_roundw
              case rel => exact ⟨k + 1, by omega, by go_num, by rw [HS1.out], R6.out⟩
              case measure => simp [_root_.Go.RowKit.intOf]; omega
            · obtain rfl : k = 5 := by omega
              have R6 := Lib.hid R
              clear R
              rw [HALL.out]
              go_wp2_with fail
              go_roundw
              case rel => exact ⟨i + 1, l2, by omega, by go_num, HL2.out, R6.out⟩
              case measure => simp [_root_.Go.RowKit.intOf]; omega
        · go_wp2_with fail
          obtain ⟨x5, hx5⟩ : ∃ x : World, x = x3 := ⟨_, rfl⟩
          subst hx5
          go_loopw [12, 13] (fun s12 s13 wr => ∃ k : Nat, k ≤ 5 ∧ s13 = .int .i64 (k : Int) ∧ s12 = .int .i64 (sumTo l2 l2.length k : Int) ∧ Run Has w v l2 wr) (fun _ s13 _ => 5 - (_root_.Go.RowKit.intOf s13).toNat)
          case atStart => exact ⟨0, by omega, rfl, rfl, R3.out⟩
          case round =>
            obtain ⟨k, hk5, rfl, rfl, R⟩ := hrel
            by_cases hk : k < 5
            · have j2 : decide ((k : Int) < 5) = true := decide_eq_true (by omega)
              have j3 : decide (k < 5) = true := decide_eq_true hk
              have hle := HLE2.out (k + 1) (by omega)
              have hct := Lib.hid (Run.count H R (k : Int) ((places l2 (k : Int)).length : Int) ⟨by omega, by omega⟩ rfl)
              obtain ⟨s1, hs1⟩ : ∃ s1, s1 = sumTo l2 l2.length (k + 1) := ⟨_, rfl⟩
              obtain ⟨s0, hs0⟩ : ∃ s0, s0 = sumTo l2 l2.length k := ⟨_, rfl⟩
              obtain ⟨c0, hc0⟩ : ∃ c0, c0 = (places l2 (k : Int)).length := ⟨_, rfl⟩
              have hss : s1 = s0 + c0 := by rw [hs1, hs0, hc0]; rfl
              rw [← hs1] at hle
              rw [← hc0] at hct
              rw [← hs0]
              have ew : IntKind.i64.wrap ((s0 : Int) + (c0 : Int)) = (s1 : Int) := by rw [wrapI _ (by omega) (by omega)]; omega
              have HS1 := Lib.hid hs1
              clear R hs1 hs0 hc0 hss
              go_wp2_with fail
              refine hct.out.mono ?_
              rintro e x6 ⟨rfl, R⟩
              have R6 := Lib.hid R
              clear R hct
              go_wp2_with fail
              go_roundw
              case rel => exact ⟨k + 1, by omega, by go_num, by rw [HS1.out], R6.out⟩
              case measure => simp [_root_.Go.RowKit.intOf]; omega
            · obtain rfl : k = 5 := by omega
              have R6 := Lib.hid R
              clear R
              rw [HALL.out]
              go_wp2_with fail
              go_roundw
              case rel => exact ⟨i + 1, l2, by omega, by go_num, HL2.out, R6.out⟩
              case measure => simp [_root_.Go.RowKit.intOf]; omega
      · have hsl := move_stays hE
        obtain ⟨y, hy⟩ : ∃ y, y = getV l a := ⟨_, rfl⟩
        obtain ⟨me, hme⟩ : ∃ me, me = moveE l a t := ⟨_, rfl⟩
        obtain ⟨in1, hin1⟩ : ∃ in1, in1 = inB l a := ⟨_, rfl⟩
        have hg1 := Lib.hid (Run.get H R a y in1 hfit.1 hy.symm hin1.symm)
        have HMV : Hid (∀ V, Run Has w v l V → _) := Lib.hid (fun V h => Run.move H HTB.out (V := V) (l' := l) h a t (moveW l a t) me hfit.1 hfit.2 rfl hme.symm hsl)
        obtain ⟨x, hx⟩ : ∃ x, x = moveW l a t := ⟨_, rfl⟩
        rw [← hx] at HMV
        have HG2 : Hid (∀ V, Run Has w v l V → _) := Lib.hid (fun V h => Run.get H (V := V) h a y in1 hfit.1 hy.symm hin1.symm)
        rw [hsl] at HMORE2
        rw [← hme] at hE
        have e1 : (me != 0) = true := by simpa using hE
        have e2 : (y != y) = false := by simp
        clear HA2 hac hfit hbx R hE hsl hy hme hin1 hx R0
        go_wp2_with fail
        refine (hg1.out).mono ?_
        rintro e x1 ⟨rfl, R⟩
        have R1 := Lib.hid R
        clear R hg1
        go_wp2_with fail
        refine wp_region_noPanic ?_
        refine wp_region_held_drew (S := fun W => W.cell? ⟨(ad2.add (i * 3)).block, (ad2.add (i * 3)).off + 1, none⟩ = some (.int .i64 a) ∧ W.cell? ⟨(ad2.add (i * 3)).block, (ad2.add (i * 3)).off + 2, none⟩ = some (.int .i64 t)) (by kernel_rfl) (HPL.out _ (HMORE.out _ R1.out).drew) (fun hHeld => ?_)
        refine wpAnyH_take (i := 0) (v := ?_) rfl (by kernel_rfl) (by kernel_rfl) (by kernel_rfl) (fun _ _ _ h => h) (Or.inl ⟨by kernel_rfl, ?_⟩) hHeld ?_
        rotate_left
        focus (intro w hSw; (try dsimp only at hSw); go_simp; try with_reducible rfl)
        try simp only [Act.put]
        refine wpAnyH_take (i := 1) (v := ?_) rfl (by kernel_rfl) (by kernel_rfl) (by kernel_rfl) (fun _ _ _ h => h) (Or.inl ⟨by kernel_rfl, ?_⟩) hHeld ?_
        rotate_left
        focus (intro w hSw; (try dsimp only at hSw); go_simp; try with_reducible rfl)
        try simp only [Act.put]
        refine wpAnyH_take (i := 2) (v := ?_) rfl (by kernel_rfl) (by kernel_rfl) (by kernel_rfl) (fun _ _ _ h => h) (Or.inl ⟨by kernel_rfl, ?_⟩) hHeld ?_
        rotate_left
        focus (intro w hSw; (try dsimp only at hSw); go_simp; try with_reducible rfl)
        try simp only [Act.put]
        refine wpAnyH_take (i := 3) (v := ?_) rfl (by kernel_rfl) (by kernel_rfl) (by kernel_rfl) (fun _ _ _ h => h) (Or.inl ⟨by kernel_rfl, ?_⟩) hHeld ?_
        rotate_left
        focus (intro w hSw; (try dsimp only at hSw); go_simp; try with_reducible rfl)
        try simp only [Act.put]
        refine wpAnyH_take (i := 4) (v := ?_) rfl (by kernel_rfl) (by kernel_rfl) (by kernel_rfl) (fun _ _ _ h => h) (Or.inl ⟨by kernel_rfl, ?_⟩) hHeld ?_
        rotate_left
        focus (intro w hSw; (try dsimp only at hSw); go_simp; try with_reducible rfl)
        try simp only [Act.put]
        refine wpAnyH_take (i := 5) (v := ?_) rfl (by kernel_rfl) (by kernel_rfl) (by kernel_rfl) (fun _ _ _ h => h) (Or.inl ⟨by kernel_rfl, ?_⟩) hHeld ?_
        rotate_left
        focus (intro w hSw; (try dsimp only at hSw); go_simp; try with_reducible rfl)
        try simp only [Act.put]
        refine wpAnyH_take (i := 6) (v := ?_) rfl (by kernel_rfl) (by kernel_rfl) (by kernel_rfl) (fun _ _ _ h => h) (Or.inl ⟨by kernel_rfl, ?_⟩) hHeld ?_
        rotate_left
        focus (intro w hSw; (try dsimp only at hSw); go_simp; try with_reducible rfl)
        try simp only [Act.put]
        refine wpAnyH_take (i := 7) (v := ?_) rfl (by kernel_rfl) (by kernel_rfl) (by kernel_rfl) (fun _ _ _ h => h) (Or.inl ⟨by kernel_rfl, ?_⟩) hHeld ?_
        rotate_left
        focus (intro w hSw; (try dsimp only at hSw); go_simp; try with_reducible rfl)
        try simp only [Act.put]
        refine wpAnyH_take (i := 8) (v := ?_) rfl (by kernel_rfl) (by kernel_rfl) (by kernel_rfl) (fun _ _ _ h => h) (Or.inl ⟨by kernel_rfl, ?_⟩) hHeld ?_
        rotate_left
        focus (intro w hSw; (try dsimp only at hSw); go_simp; try with_reducible rfl)
        try simp only [Act.put]
        refine wpAnyH_take (i := 9) (v := ?_) rfl (by kernel_rfl) (by kernel_rfl) (by kernel_rfl) (fun _ _ _ h => h) (Or.inl ⟨by kernel_rfl, ?_⟩) hHeld ?_
        rotate_left
        focus (intro w hSw; (try dsimp only at hSw); go_simp; try with_reducible rfl)
        try simp only [Act.put]
        refine wpAnyH_take (i := 10) (v := ?_) rfl (by kernel_rfl) (by kernel_rfl) (by kernel_rfl) (fun _ _ _ h => h) (Or.inl ⟨by kernel_rfl, ?_⟩) hHeld ?_
        rotate_left
        focus (intro w hSw; (try dsimp only at hSw); go_simp; try with_reducible rfl)
        try simp only [Act.put]
        refine wpAnyH_ready (rs := [11]) (by kernel_rfl) (by simp) ?_
        refine AllReadyH.cons rfl (fun K hK => ?_) (AllReadyH.nil)
        go_simp
        refine (HMV.out x1.drew (HDR.out _ R1.out)).mono ?_
        rintro e x2 ⟨rfl, R⟩
        have R2 := Lib.hid R
        have HS2 := Lib.hid (HPL.out x2 (HMORE2.out _ R))
        clear R R1
        refine hK.out _ _ HS2.out (fun hHeld => ?_)
        clear hK K
        try simp only [Act.put]
        refine wpAnyH_take (i := 12) (v := ?_) rfl (by kernel_rfl) (by kernel_rfl) (by kernel_rfl) (fun _ _ _ h => h) (Or.inl ⟨by kernel_rfl, ?_⟩) hHeld ?_
        rotate_left
        focus (intro w hSw; (try dsimp only at hSw); go_simp; try with_reducible rfl)
        try simp only [Act.put]
        refine wpAnyH_take (i := 13) (v := ?_) rfl (by kernel_rfl) (by kernel_rfl) (by kernel_rfl) (fun _ _ _ h => h) (Or.inl ⟨by kernel_rfl, ?_⟩) hHeld ?_
        rotate_left
        focus (intro w hSw; (try dsimp only at hSw); go_simp; try with_reducible rfl)
        try simp only [Act.put]
        refine wpAnyH_take (i := 14) (v := ?_) rfl (by kernel_rfl) (by kernel_rfl) (by kernel_rfl) (fun _ _ _ h => h) (Or.inl ⟨by kernel_rfl, ?_⟩) hHeld ?_
        rotate_left
        focus (intro w hSw; (try dsimp only at hSw); go_simp; try with_reducible rfl)
        try simp only [Act.put]
        refine wpAnyH_ready (rs := [15]) (by kernel_rfl) (by simp) ?_
        refine AllReadyH.cons rfl (fun K hK => ?_) (AllReadyH.nil)
        go_simp
        refine hK.out _ _ HS2.out (fun hHeld => ?_)
        clear hK K
        try simp only [Act.put]
        refine wpAnyH_ready (rs := [16]) (by kernel_rfl) (by simp) ?_
        refine AllReadyH.cons rfl (fun K hK => ?_) (AllReadyH.nil)
        go_simp
        refine hK.out _ _ HS2.out (fun hHeld => ?_)
        clear hK K
        try simp only [Act.put]
        refine wpAnyH_done (by kernel_rfl) ?_ _
        refine NoPanic.normal ?_
        have hg2 := Lib.hid (HG2.out x2 R2.out)
        have a1 := HS2.out.1
        clear hHeld
        go_wp2_with fail
        refine (hg2.out).mono ?_
        rintro e x3 ⟨rfl, R⟩
        have R3 := Lib.hid R
        have a2 := (HPL.out x3 (HMORE2.out _ R)).2
        clear R R2 hg2 HS2 a1
        go_wp2_with fail
        refine (HNUM.out _ _).mono ?_
        rintro e x4 ⟨rfl, rfl⟩
        go_wp2_with fail
        go_roundw
        case rel => exact ⟨i + 1, l, by omega, by go_num, hl6, R3.out⟩
        case measure => simp [_root_.Go.RowKit.intOf]; omega
    · obtain rfl : m = i := by omega
      have k2 : decide ((m : Int) < (m : Int)) = false := decide_eq_false (by omega)
      obtain ⟨T, hT⟩ : ∃ T, T = str (text l) := ⟨_, rfl⟩
      have htx := Lib.hid (Run.text H R T hT.symm)
      have hpa : Hid (∀ V, Run Has w v l V → _) := Lib.hid (fun V h => Run.parse H (V := V) h T hT.symm)
      clear R hT R0
      go_wp2_with fail
      refine htx.out.mono ?_
      rintro e y1 ⟨rfl, R⟩
      have R1 := Lib.hid R
      clear R htx
      go_wp2_with fail
      refine (hpa.out y1 R1.out).mono ?_
      rintro e y2 ⟨u, rfl, R, hu⟩
      have R2 := Lib.hid R
      have hsm := Lib.hid (Run.same H R hu)
      clear R hu hpa R1
      go_wp2_with fail
      refine (HNUM.out _ _).mono ?_
      rintro e y3 ⟨rfl, rfl⟩
      go_wp2_with fail
      refine hsm.out.mono ?_
      rintro e y4 ⟨rfl, R⟩
      have R3 := Lib.hid R
      clear R hsm R2
      go_wp2_with fail
      refine (HW.out _ R3.out.choose_spec.2.2).mono ?_
      rintro e y5 ⟨rfl, hb⟩
      have R4 := Lib.hid (Run.more H R3.out hb)
      clear hb R3
      go_wp2_with fail
      go_ret
      exact ⟨rfl, R4.out.choose_spec.2.2⟩
set_option maxRecDepth 100000 in
theorem stateHolds_any {Has : HasT} (H : Api Has) (acts : List Ac) (B : Option Addr) (m cb : Nat) (w : World) (hTb : Tb w) (hB : Acs w acts B) (hm : acts.length = m) :
    Calls Tryd.prog 6 #[.slice B m cb] w fun e w' => e = .returned (.bool true) ∧ Below w.heap.size w w' := by
  by_cases h8 : m ≤ 80
  · exact holds_main H acts B m cb w hTb hB hm h8
  · have HW := Lib.hid (works_any H w hTb)
    have d1 : decide ((80 : Int) < (m : Int)) = true := decide_eq_true (by omega)
    clear h8 hB hm hTb
    go_enter Tryd.func6, Tryd.ntmps6
    go_wp2_with fail
    refine HW.out.mono ?_
    rintro e W1 ⟨rfl, hb1⟩
    have HB1 := Lib.hid hb1
    clear hb1
    go_wp2_with fail
    go_ret
    exact ⟨rfl, HB1.out⟩
end Go.Proofs.YtelhieinkdmpfaaDoor.Sh
