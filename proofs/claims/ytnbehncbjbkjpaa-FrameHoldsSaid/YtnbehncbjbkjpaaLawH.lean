import Derived.Test.YtnbehncbjbkjpaaHoldE
namespace Go.Proofs.Ytnbehncbjbkjpaa
open Go.RowKit Go.Shelf Go.Maps Go.Sort
attribute [local go_sem] Oper.semAt_some

/- FRAMEHOLDS. -/

theorem num_z (n : Int) : ∀ w, Calls Try.prog 7 #[.int .i64 n] w fun e w' => e = .returned (.int .i64 n) ∧ w = w' := fun w => num_any n w
set_option maxRecDepth 100000 in
set_option maxHeartbeats 4000000 in
theorem frameHolds_any (l : List Ac) (A : Option Addr) (n c : Nat) (w : World) (h : Acs w l A) (hl : l.length = n) (hn : n ≤ 4611686018427387904) :
    Calls Try.prog 4 #[.slice A n c] w fun e w' => e = .returned (.bool true) ∧ Below w.heap.size w w' := by
  have hmm := @run_makeMap Try.prog
  have hwk := Lib.hid (fun w => works_any w)
  have hnum := Lib.hid (fun n w => num_any n w)
  have hfew := Lib.hid (few_any l A n c 50 w h hl hn)
  have hnew := Lib.hid (Run.new 10 w (by omega))
  have HA := Lib.hid h
  have HL := Lib.hid hl
  by_cases hf : fewB l 50 = true
  · rw [hf] at hfew
    have hn50 : n ≤ 50 := by
      unfold fewB at hf
      rw [Bool.and_eq_true, decide_eq_true_eq, hl] at hf
      exact hf.2
    clear hf h hl hn
    go_enter Try.func4, Try.ntmps4
    go_wp2_with fail
    refine (hfew.out).mono ?_
    rintro e w0 ⟨rfl, rfl⟩
    go_wp2_with fail
    refine (hnew.out).mono ?_
    rintro e w1 ⟨b, rfl, R1⟩
    go_wp2_with fail
    refine (hnum.out _ _).mono ?_
    rintro e wn ⟨rfl, rfl⟩
    have hRel0 : Rel w b w1.heap.size (w1.alloc (.map #[] 0)) := ⟨newP 10, by simp [newP], (RunX.of R1).add _ |>.less (fun k hk => .inr hk), made_map w1 10, R1.below.size⟩
    clear R1 hnew hfew
    go_wp2_with fail
    obtain ⟨mw, hmw⟩ : ∃ mw, mw = w1.heap.size := ⟨_, rfl⟩
    rw [← hmw] at hRel0 ⊢
    obtain ⟨w2, hw2⟩ : ∃ w2, w2 = w1.alloc (.map #[] 0) := ⟨_, rfl⟩
    rw [← hw2] at hRel0 ⊢
    clear hw2 hmw hmm
    go_loopw [6] (fun t wr => ∃ k : Nat, t = .int .i64 (k : Int) ∧ k ≤ n ∧ Rel w b mw wr) (fun t _ => n - (_root_.Go.RowKit.intOf t).toNat)
    case atStart => exact ⟨0, rfl, Nat.zero_le _, hRel0⟩
    case round =>
      obtain ⟨k, rfl, hk, hRel⟩ := hrel
      by_cases hlt : k < n
      · have hkl : k < l.length := by rw [HL.out]; exact hlt
        have HAc := HA.out.below hRel.below
        obtain ⟨ad, rfl, c0, c1, c2, c3, c4⟩ := HAc.at_ k hkl
        have hfit := HAc.fits _ (List.getElem_mem hkl)
        unfold Ac.sl at c4
        obtain ⟨x, hx⟩ : ∃ x, x = l[k] := ⟨_, rfl⟩
        rw [← hx] at c0 c1 c2 c3 c4 hfit
        clear hx
        obtain ⟨wh, ow, nn, aa, bs, S, cc⟩ := x
        simp only at c0 c1 c2 c3 c4
        have g1 := hfit.owner
        have g2 := hfit.n
        have g3 := hfit.at_
        have g4 := hfit.sees
        simp only [i64] at g1 g2 g3 g4
        obtain ⟨m, hm⟩ : ∃ m, m = bs.length := ⟨_, rfl⟩
        rw [← hm] at c4
        have H0 := Lib.hid (step0 [.int .i64 wh, .int .i64 ow, .int .i64 nn, .int .i64 aa, .slice S m cc] hRel ow nn g2.2)
        have H2 := Lib.hid (step2 [.int .i64 wh, .int .i64 ow, .int .i64 nn, .int .i64 aa, .slice S m cc] hRel nn g2.2)
        have H3 := Lib.hid (step3 [.int .i64 wh, .int .i64 ow, .int .i64 nn, .int .i64 aa, .slice S m cc] hRel nn aa g2.2 g3 S m cc bs hm.symm g4)
        have Hd0 := Lib.hid (stepd [.int .i64 wh, .int .i64 ow, .int .i64 nn, .int .i64 aa, .slice S m cc] hRel ow)
        obtain ⟨Z, hZ⟩ : ∃ Z, Z = str zero256 := ⟨_, rfl⟩
        have HZ := Lib.hid hZ
        have Hd := Hd0
        rw [← hZ] at Hd
        clear hZ Hd0
        have i0 : (0 : Int) ≤ (k : Int) := by omega
        have i1 : (k : Int) < (n : Int) := by omega
        have e0 : decide ((k : Int) < (n : Int)) = true := decide_eq_true i1
        clear hm hfit g1 g2 g3 g4 HAc hRel hRel0
        by_cases q0 : wh = 0
        · subst q0
          go_wp2_with fail
          refine (H0.out).mono ?_
          rintro e V ⟨⟨r, rfl⟩, hR⟩
          clear H0 H2 H3 Hd
          go_wp2
          go_roundw
          case rel => exact ⟨k + 1, by go_num, by omega, hR⟩
          case measure => simp [_root_.Go.RowKit.intOf]; omega
        by_cases q2 : wh = 2
        · subst q2
          go_wp2_with fail
          refine (H2.out).mono ?_
          rintro e V ⟨E, rfl, d2, hne, heq⟩
          have d2' : V.cell? ⟨wr.heap.size, 2, none⟩ = some (.int .i64 nn) := d2
          have HNE := Lib.hid hne
          have HEQ := Lib.hid heq
          clear H0 H2 H3 Hd hne heq d2
          go_wp2_with fail
          refine (hnum.out _ _).mono ?_
          rintro e wn ⟨rfl, rfl⟩
          by_cases hE : E = 0
          · subst hE
            obtain ⟨i, D, rfl, hi10, hown, hstep⟩ := HEQ.out rfl
            have HST := Lib.hid hstep
            have hkey := keyZ (a := (i : Int)) (by omega) (by omega)
            clear hstep HNE HEQ
            go_wp2_with (at_delete; refine wpList_delete_own _ rfl _ _ 35 3 rfl 3 law Try.underlying35 _ mw 16384 D rfl hown _ _ rfl hkey ?_; intro V2 hown2 hturn2; have hR := HST.out V2 hown2 hturn2)
            clear hown2 hturn2 hown
            go_roundw
            case rel => exact ⟨k + 1, by go_num, by omega, hR⟩
            case measure => simp [_root_.Go.RowKit.intOf]; omega
          · have hR := HNE.out hE
            have e1 : ¬ ((E : Int) = 0) := by omega
            have e2 : ((E : Int) == 0) = false := by rw [beq_eq_false_iff_ne]; omega
            clear HNE HEQ hE
            go_wp2
            go_roundw
            case rel => exact ⟨k + 1, by go_num, by omega, hR⟩
            case measure => simp [_root_.Go.RowKit.intOf]; omega
        · by_cases q3 : wh = 3
          · subst q3
            go_wp2_with fail
            refine (H3.out).mono ?_
            rintro e V ⟨⟨r, rfl⟩, hR⟩
            clear H0 H2 H3 Hd
            go_wp2
            go_roundw
            case rel => exact ⟨k + 1, by go_num, by omega, hR⟩
            case measure => simp [_root_.Go.RowKit.intOf]; omega
          · have e1 : (wh == 0) = false := by rw [beq_eq_false_iff_ne]; exact q0
            have e2 : (wh == 2) = false := by rw [beq_eq_false_iff_ne]; exact q2
            have e3 : (wh == 3) = false := by rw [beq_eq_false_iff_ne]; exact q3
            go_wp2_with fail
            refine (Hd.out).mono ?_
            rintro e V1 ⟨r, t, rfl, d1, hT⟩
            have d1' : V1.cell? ⟨wr.heap.size, 1, none⟩ = some (.int .i64 ow) := d1
            have HT := Lib.hid hT
            clear H0 H2 H3 Hd hT d1
            go_wp2_with fail
            refine (HT.out).mono ?_
            rintro e V2 ⟨I, E, rfl, hiff, hne, heq⟩
            have HNE := Lib.hid hne
            have HEQ := Lib.hid heq
            have HIFF := Lib.hid hiff
            clear HT hne heq hiff d1'
            go_wp2_with fail
            refine (hnum.out _ _).mono ?_
            rintro e wn ⟨rfl, rfl⟩
            by_cases hE : E = 0
            · subst hE
              have e4 : decide (t < r) = true := decide_eq_true (HIFF.out.1 rfl)
              obtain ⟨hI10, ⟨z, hlk⟩, hrd⟩ := HEQ.out rfl
              have HRD := Lib.hid hrd
              clear HNE HEQ HIFF hrd
              go_wp2_with (go_at_call 7; refine (hnum.out _ _).mono ?_; rintro e wn ⟨rfl, rfl⟩)
              refine (HRD.out).mono ?_
              rintro e V3 ⟨A3, c3', rfl, h4⟩
              obtain ⟨ZC, hZC⟩ : ∃ ZC, ZC = (List.replicate 256 (Value.int .u8 0)).toArray := ⟨_, rfl⟩
              obtain ⟨j0, hj, hj0, hj1, hj2⟩ := info_parts u8_info
              have hmk : (Instr.makeSlice 36 (.int .i64 256) (.int .i64 256)).run Try.prog V3.drew = .ok (.slice (some ⟨V3.heap.size, 0, none⟩) 256 256) ((V3.alloc (.cells ZC 5)).drew) := by
                rw [hZC]
                exact make_one Try.underlying36 hj hj0 hj1 rfl 256 256 (by omega) (by rw [hj2]; omega) (by omega) V3.drew
              have hbd : Below V3.heap.size V3 V3.drew := below_drewN (Below.refl _ _) 1
              have hba : Below V3.heap.size V3 ((V3.alloc (.cells ZC 5)).drew) := below_drewN (below1 V3 _) 1
              have k1 := (h4 _ hbd).1
              obtain ⟨k2, d4, o, D, rfl, ho64, hown, hstep⟩ := h4 _ hba
              have k3 : (convert 36 9 (.slice (some ⟨V3.heap.size, 0, none⟩) 256 256)).run Try.prog ((V3.alloc (.cells ZC 5)).drew) = .ok (.string Z) ((V3.alloc (.cells ZC 5)).drew) := by
                rw [HZ.out]
                refine run_conv_sees _ Try.underlying36 Try.underlying5 Try.underlying9 zero_len0 (B := V3.heap.size + 1) ?_
                have hs := sees_lit V3 zero256 5
                have hz : ZC = (byt zero256).toArray := by rw [hZC]; kernel_rfl
                rw [hz]
                exact hs.drew
              have d4' : (V3.alloc (.cells ZC 5)).cell? ⟨wr.heap.size, 1, none⟩ = some (.int .i64 (o : Int)) := d4
              have HST := Lib.hid hstep
              have hkey := keyZ (a := (I : Int)) (by omega) (by omega)
              have hval : plainElem (H := Unit) Try.prog 3 (.int .i64 (o : Int)) = some (.lit (.int .i64 (o : Int)), []) := plainElem_int Try.underlying3 (wf_i64 (by omega) (by omega))
              have l0 : decide ((I : Int) < 0) = false := decide_eq_false (by omega)
              have l1 : decide ((10 : Int) ≤ (I : Int)) = false := decide_eq_false (by omega)
              have mixed : Try.prog.follows .mixedOrders = true := by kernel_rfl
              clear hstep HRD h4 hZC hj hj0 hj1 hj2 hbd hba d4 hlk hI10 ho64
              go_wp2_with fail
              refine wp_region_any mixed ?_
              refine wpAny_take (i := 0) (v := ?_) rfl (by kernel_rfl) (by kernel_rfl) (by kernel_rfl) (fun _ _ _ h => h) (Or.inl ⟨by kernel_rfl, ?_⟩) ?_
              rotate_left
              focus (intro w; go_simp; try with_reducible rfl)
              simp only [Act.put]
              refine wpAny_take (i := 1) (v := ?_) rfl (by kernel_rfl) (by kernel_rfl) (by kernel_rfl) (fun _ _ _ h => h) (Or.inl ⟨by kernel_rfl, ?_⟩) ?_
              rotate_left
              focus (intro w; go_simp; try with_reducible rfl)
              simp only [Act.put]
              refine wpAny_take (i := 2) (v := ?_) rfl (by kernel_rfl) (by kernel_rfl) (by kernel_rfl) (fun _ _ _ h => h) (Or.inl ⟨by kernel_rfl, ?_⟩) ?_
              rotate_left
              focus (intro w; go_simp; try with_reducible rfl)
              simp only [Act.put]
              refine wpAny_take (i := 3) (v := ?_) rfl (by kernel_rfl) (by kernel_rfl) (by kernel_rfl) (fun _ _ _ h => h) (Or.inl ⟨by kernel_rfl, ?_⟩) ?_
              rotate_left
              focus (intro w; go_simp; try with_reducible rfl)
              simp only [Act.put]
              refine wpAny_take (i := 4) (v := ?_) rfl (by kernel_rfl) (by kernel_rfl) (by kernel_rfl) (fun _ _ _ h => h) (Or.inl ⟨by kernel_rfl, ?_⟩) ?_
              rotate_left
              focus (intro w; go_simp; try with_reducible rfl)
              simp only [Act.put]
              refine wpAny_take (i := 5) (v := ?_) rfl (by kernel_rfl) (by kernel_rfl) (by kernel_rfl) (fun _ _ _ h => h) (Or.inl ⟨by kernel_rfl, ?_⟩) ?_
              rotate_left
              focus (intro w; go_simp; try with_reducible rfl)
              simp only [Act.put]
              refine wpAny_take (i := 6) (v := ?_) rfl (by kernel_rfl) (by kernel_rfl) (by kernel_rfl) (fun _ _ _ h => h) (Or.inl ⟨by kernel_rfl, ?_⟩) ?_
              rotate_left
              focus (intro w; go_simp; try with_reducible rfl)
              simp only [Act.put]
              refine wpAny_take (i := 7) (v := ?_) rfl (by kernel_rfl) (by kernel_rfl) (by kernel_rfl) (fun _ _ _ h => h) (Or.inl ⟨by kernel_rfl, ?_⟩) ?_
              rotate_left
              focus (intro w; go_simp; try with_reducible rfl)
              simp only [Act.put]
              refine wpAny_take (i := 8) (v := ?_) rfl (by kernel_rfl) (by kernel_rfl) (by kernel_rfl) (fun _ _ _ h => h) (Or.inl ⟨by kernel_rfl, ?_⟩) ?_
              rotate_left
              focus (intro w; go_simp; try with_reducible rfl)
              simp only [Act.put]
              refine wpAny_take (i := 9) (v := ?_) rfl (by kernel_rfl) (by kernel_rfl) (by kernel_rfl) (fun _ _ _ h => h) (Or.inl ⟨by kernel_rfl, ?_⟩) ?_
              rotate_left
              focus (intro w; go_simp; try with_reducible rfl)
              simp only [Act.put]
              refine wpAny_take (i := 10) (v := ?_) rfl (by kernel_rfl) (by kernel_rfl) (by kernel_rfl) (fun _ _ _ h => h) (Or.inl ⟨by kernel_rfl, ?_⟩) ?_
              rotate_left
              focus (intro w; go_simp; try with_reducible rfl)
              simp only [Act.put]
              refine wpAny_ready (rs := [11]) (by kernel_rfl) (by simp) ?_
              refine AllReady.cons rfl (fun K hK => ?_) (AllReady.nil)
              go_simp
              refine (hnum.out _ _).mono ?_
              rintro e wn ⟨rfl, rfl⟩
              refine hK _ _ ?_
              clear hK K
              try simp only [Act.put]
              refine wpAny_take (i := 12) (v := ?_) rfl (by kernel_rfl) (by kernel_rfl) (by kernel_rfl) (fun _ _ _ h => h) (Or.inl ⟨by kernel_rfl, ?_⟩) ?_
              rotate_left
              focus (intro w; go_simp; try with_reducible rfl)
              simp only [Act.put]
              refine wpAny_take (i := 13) (v := ?_) rfl (by kernel_rfl) (by kernel_rfl) (by kernel_rfl) (fun _ _ _ h => h) (Or.inl ⟨by kernel_rfl, ?_⟩) ?_
              rotate_left
              focus (intro w; go_simp; try with_reducible rfl)
              simp only [Act.put]
              refine wpAny_take (i := 14) (v := ?_) rfl (by kernel_rfl) (by kernel_rfl) (by kernel_rfl) (fun _ _ _ h => h) (Or.inl ⟨by kernel_rfl, ?_⟩) ?_
              rotate_left
              focus (intro w; go_simp; try with_reducible rfl)
              simp only [Act.put]
              refine wpAny_take (i := 15) (v := ?_) rfl (by kernel_rfl) (by kernel_rfl) (by kernel_rfl) (fun _ _ _ h => h) (Or.inl ⟨by kernel_rfl, ?_⟩) ?_
              rotate_left
              focus (intro w; go_simp; try with_reducible rfl)
              simp only [Act.put]
              refine wpAny_ready (rs := [16, 17]) (by kernel_rfl) (by simp) ?_
              refine AllReady.cons rfl (fun K hK => ?_) (AllReady.cons rfl (fun K hK => ?_) (AllReady.nil))
              · go_simp
                refine hK _ _ ?_
                clear hK K
                try simp only [Act.put]
                refine wpAny_ready (rs := [17]) (by kernel_rfl) (by simp) ?_
                refine AllReady.cons rfl (fun K hK => ?_) (AllReady.nil)
                go_simp
                refine hK _ _ ?_
                clear hK K
                try simp only [Act.put]
                refine wpAny_ready (rs := [18]) (by kernel_rfl) (by simp) ?_
                refine AllReady.cons rfl (fun K hK => ?_) (AllReady.nil)
                go_simp
                refine hK _ _ ?_
                clear hK K
                try simp only [Act.put]
                refine wpAny_take (i := 19) (v := ?_) rfl (by kernel_rfl) (by kernel_rfl) (by kernel_rfl) (fun _ _ _ h => h) (Or.inl ⟨by kernel_rfl, ?_⟩) ?_
                rotate_left
                focus (intro w; go_simp; try with_reducible rfl)
                simp only [Act.put]
                refine wpAny_take (i := 20) (v := ?_) rfl (by kernel_rfl) (by kernel_rfl) (by kernel_rfl) (fun _ _ _ h => h) (Or.inl ⟨by kernel_rfl, ?_⟩) ?_
                rotate_left
                focus (intro w; go_simp; try with_reducible rfl)
                simp only [Act.put]
                refine wpAny_done (by kernel_rfl) ?_ _
                clear hmk k1 k2 k3
                go_wp2_with (at_mapUpdate; refine wpList_mapUpdate_own _ rfl _ _ _ 35 rfl 3 3 law Try.underlying35 _ mw 16384 D rfl hown (by decide) _ _ _ rfl rfl hkey _ _ hval ?_; intro V5 hown5 hg5; have hR := HST.out V5 hown5 hg5; clear hown5 hg5)
                go_roundw
                case rel => exact ⟨k + 1, by go_num, by omega, hR⟩
                case measure => simp [_root_.Go.RowKit.intOf]; omega
              · go_simp
                refine hK _ _ ?_
                clear hK K
                try simp only [Act.put]
                refine wpAny_ready (rs := [16, 18]) (by kernel_rfl) (by simp) ?_
                refine AllReady.cons rfl (fun K hK => ?_) (AllReady.cons rfl (fun K hK => ?_) (AllReady.nil))
                · go_simp
                  refine hK _ _ ?_
                  clear hK K
                  try simp only [Act.put]
                  refine wpAny_ready (rs := [18]) (by kernel_rfl) (by simp) ?_
                  refine AllReady.cons rfl (fun K hK => ?_) (AllReady.nil)
                  go_simp
                  refine hK _ _ ?_
                  clear hK K
                  try simp only [Act.put]
                  refine wpAny_take (i := 19) (v := ?_) rfl (by kernel_rfl) (by kernel_rfl) (by kernel_rfl) (fun _ _ _ h => h) (Or.inl ⟨by kernel_rfl, ?_⟩) ?_
                  rotate_left
                  focus (intro w; go_simp; try with_reducible rfl)
                  simp only [Act.put]
                  refine wpAny_take (i := 20) (v := ?_) rfl (by kernel_rfl) (by kernel_rfl) (by kernel_rfl) (fun _ _ _ h => h) (Or.inl ⟨by kernel_rfl, ?_⟩) ?_
                  rotate_left
                  focus (intro w; go_simp; try with_reducible rfl)
                  simp only [Act.put]
                  refine wpAny_done (by kernel_rfl) ?_ _
                  clear hmk k1 k2 k3
                  go_wp2_with (at_mapUpdate; refine wpList_mapUpdate_own _ rfl _ _ _ 35 rfl 3 3 law Try.underlying35 _ mw 16384 D rfl hown (by decide) _ _ _ rfl rfl hkey _ _ hval ?_; intro V5 hown5 hg5; have hR := HST.out V5 hown5 hg5; clear hown5 hg5)
                  go_roundw
                  case rel => exact ⟨k + 1, by go_num, by omega, hR⟩
                  case measure => simp [_root_.Go.RowKit.intOf]; omega
                · go_simp
                  refine hK _ _ ?_
                  clear hK K
                  try simp only [Act.put]
                  refine wpAny_ready (rs := [16]) (by kernel_rfl) (by simp) ?_
                  refine AllReady.cons rfl (fun K hK => ?_) (AllReady.nil)
                  go_simp
                  refine hK _ _ ?_
                  clear hK K
                  try simp only [Act.put]
                  refine wpAny_take (i := 19) (v := ?_) rfl (by kernel_rfl) (by kernel_rfl) (by kernel_rfl) (fun _ _ _ h => h) (Or.inl ⟨by kernel_rfl, ?_⟩) ?_
                  rotate_left
                  focus (intro w; go_simp; try with_reducible rfl)
                  simp only [Act.put]
                  refine wpAny_take (i := 20) (v := ?_) rfl (by kernel_rfl) (by kernel_rfl) (by kernel_rfl) (fun _ _ _ h => h) (Or.inl ⟨by kernel_rfl, ?_⟩) ?_
                  rotate_left
                  focus (intro w; go_simp; try with_reducible rfl)
                  simp only [Act.put]
                  refine wpAny_done (by kernel_rfl) ?_ _
                  clear hmk k1 k2 k3
                  go_wp2_with (at_mapUpdate; refine wpList_mapUpdate_own _ rfl _ _ _ 35 rfl 3 3 law Try.underlying35 _ mw 16384 D rfl hown (by decide) _ _ _ rfl rfl hkey _ _ hval ?_; intro V5 hown5 hg5; have hR := HST.out V5 hown5 hg5; clear hown5 hg5)
                  go_roundw
                  case rel => exact ⟨k + 1, by go_num, by omega, hR⟩
                  case measure => simp [_root_.Go.RowKit.intOf]; omega
            · have e4 : decide (t < r) = false := decide_eq_false (fun h => hE (HIFF.out.2 h))
              have hR := HNE.out hE
              have e5 : ¬ ((E : Int) = 0) := by omega
              have e6 : ((E : Int) == 0) = false := by rw [beq_eq_false_iff_ne]; omega
              clear HNE HEQ HIFF hE
              go_wp2_with (go_at_call 7; refine (hnum.out _ _).mono ?_; rintro e wn ⟨rfl, rfl⟩)
              go_roundw
              case rel => exact ⟨k + 1, by go_num, by omega, hR⟩
              case measure => simp [_root_.Go.RowKit.intOf]; omega
      · obtain rfl : k = n := by omega
        have HE := Lib.hid (end_any hRel)
        clear hRel hRel0
        go_wp2_with fail
        refine (HE.out).mono ?_
        rintro e V ⟨A2, c2, m, rfl, hm10, hbV, hlen, hrows⟩
        have HR := Lib.hid hrows
        have HB := Lib.hid hbV
        have hlen' := hlen
        clear HE hrows hbV hlen
        go_wp2_with fail
        go_loopw [17] (fun t wx => ∃ j : Nat, t = .int .i64 (j : Int) ∧ j ≤ m ∧ wx = V) (fun t _ => m - (_root_.Go.RowKit.intOf t).toNat)
        case atStart => exact ⟨0, rfl, Nat.zero_le _, rfl⟩
        case round =>
          obtain ⟨j, rfl, hj, rfl⟩ := hrel
          by_cases hlt2 : j < m
          · obtain ⟨g, f, o, rfl, d0, d1, hlk⟩ := HR.out j hlt2
            have j0 : (0 : Int) ≤ (j : Int) := by omega
            have j1 : (j : Int) < (m : Int) := by omega
            have e0 : decide ((j : Int) < (m : Int)) = true := decide_eq_true j1
            clear hlen'
            go_wp2
            go_roundw
            case rel => exact ⟨j + 1, by go_num, by omega, trivial⟩
            case measure => simp [_root_.Go.RowKit.intOf]; omega
          · obtain rfl : j = m := by omega
            go_wp2_with (go_at_call 5; refine (hwk.out _).mono ?_; rintro e w6 ⟨rfl, hb6⟩)
            go_ret
            exact ⟨rfl, below0 HB.out hb6⟩
  · have hf2 : fewB l 50 = false := Bool.eq_false_iff.2 hf
    rw [hf2] at hfew
    clear hf hf2 h hl hn HA HL hnew hmm
    go_enter Try.func4, Try.ntmps4
    go_wp2_with fail
    refine (hfew.out).mono ?_
    rintro e w0 ⟨rfl, rfl⟩
    go_wp2_with fail
    refine (hwk.out _).mono ?_
    rintro e w6 ⟨rfl, hb6⟩
    go_wp2
    go_ret
    exact ⟨rfl, hb6⟩
end Go.Proofs.Ytnbehncbjbkjpaa
