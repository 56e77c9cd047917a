import Derived.Test.YtodbaahnmmfgiaaLL
namespace Go.Proofs.Ytodbaahnmmfgiaa.Lk
open Go.RowKit Go.Shelf
attribute [local go_sem] Oper.semAt_some

/- LOCKCHAINS: WHO WAITS FOR WHOM. -/
theorem app77 {w w7 : World} {v : Value} {m : Nat} {ws : Ls} (hm : ws.length = m) (h : w7.ownsRow w.heap.size 3 1 v (m + 1) (izs ws ++ [.int .i64 77])) :
    ∃ g cap rest, v = .slice (some ⟨g, 0, none⟩) (m + 1) cap ∧ m + 1 ≤ cap ∧ Row w7 g 3 (izs ws ++ .int .i64 77 :: rest) := by
  obtain ⟨_, ⟨_, h0⟩ | ⟨g, cap, cur, rfl, hb, hg, hn, _, hc, ht⟩⟩ := h
  · omega
  · refine ⟨g, cap, cur.toList.drop ((m + 1) * 1), rfl, hn, ?_⟩
    have e : izs ws ++ .int .i64 77 :: cur.toList.drop ((m + 1) * 1) = cur.toList := by
      rw [show izs ws ++ .int .i64 77 :: cur.toList.drop ((m + 1) * 1) = (izs ws ++ [.int .i64 77]) ++ cur.toList.drop ((m + 1) * 1) by simp, ← ht, List.take_append_drop]
    rw [e]
    exact hg
theorem row_sees {w : World} {g : Nat} {ws : Ls} {rest : List Value} (h : Row w g 3 (izs ws ++ rest)) : Sees w w.heap.size (some ⟨g, 0, none⟩) (izs ws) := fun _ => ⟨_, rfl, h.lt, fun j u hu => by
  rw [add_plain, Nat.zero_add, h.cell, List.getElem?_append_left (List.getElem?_eq_some_iff.1 hu).1]
  exact hu⟩
set_option maxRecDepth 100000 in
set_option maxHeartbeats 8000000 in
theorem chains_main {Has : HasT} (HA : Api Has) (acts : List Ac) (A : Option Addr) (n ca : Nat) (t : Int) (ws : Ls) (B : Option Addr) (m cb : Nat) (w : World) (hA : Acs w acts A) (hl : acts.length = n) (hn40 : n ≤ 40) (ht : i64 t) (hB : Sees w w.heap.size B (izs ws)) (hm : ws.length = m) (hm6 : m ≤ 6) (hw : ∀ z ∈ ws, i64 z) :
    Calls Try.prog 4 #[.slice A n ca, .int .i64 t, .slice B m cb] w fun e w' => e = .returned (.bool true) ∧ Below w.heap.size w w' := by
  have hn := Lib.hid (fun n w => num_any n w)
  have hwk := Lib.hid (fun w => works_any HA w)
  have HAC := Lib.hid (fun V (hb : Below w.heap.size w V) i (hi : i < acts.length) => (hA.below hb).at_ i hi)
  have HF := Lib.hid (fun i (hi : i < acts.length) => hA.fits _ (List.getElem_mem hi))
  have HLA := Lib.hid hl
  have HNEW := Lib.hid (HA.new w 6 (by omega))
  have HRN := Lib.hid (fun V => rnew_ok 6 V (by omega))
  have HPA := Lib.hid (fun w V V' v vv l (h : PS Has w v vv l V) (hb : Below V.heap.size V V') => PS.more HA h hb)
  have HACT := Lib.hid (fun w V v vv l (h : PS Has w v vv l V) x hx => PS.act HA h x hx)
  have HRM := Lib.hid (fun V V' {v l} (h : Run Has w v l V) (hb : Below V.heap.size V V') => Run.more HA h hb)
  have HBS := Lib.hid (fun V (hb : Below w.heap.size w V) => (hB.below hb).more hb.size)
  have HCH := Lib.hid (fun V v l u (h : Run Has w v l V) (hs : Sl V u ws) => Run.chain HA h t ws u ht hw hs (by omega))
  have HRC := Lib.hid (fun V v vv l (h : PS Has w v vv l V) => (show Calls Try.prog 16 #[vv, .int .i64 t, .slice B m cb] V (fun e V' => ∃ u, e = .returned (.tuple #[u, .int .i64 (chainE l t ws)]) ∧ Wi V' u (chainR l t ws) ∧ Below V.heap.size V V') from by
    obtain ⟨F, h1, _⟩ := h.1
    exact rchain_any l vv t ws B m cb V (HA.most h1) (HA.ths h1) h.2 hm (HBS.out V h.1.below)))
  have HSM := Lib.hid (fun V u u' l (h1 : Wi V u (chainR l t ws)) (h2 : Wi V u' (chainR l t ws)) (hl : (chainR l t ws).length ≤ 64) => (show Calls Try.prog 17 #[u, u'] V (fun e V' => e = .returned (.bool true) ∧ Below V.heap.size V V') from by
    have := rsame_wi _ _ u u' V hl h1 h2
    simpa using this))
  have HCL : Hid (∀ l, (chainR l t ws).length ≤ 64) := Lib.hid (fun l => by
    unfold chainR
    split
    · have : ∀ f pre u, (chainGo l ws f pre u).length ≤ pre.length + 1 + f := by
        intro f
        induction f with
        | zero => intro pre u; simp [chainGo]
        | succ f ih =>
          intro pre u
          unfold chainGo
          split
          · simp
          · refine Nat.le_trans (ih _ _) ?_
            simp
            omega
      have h5 := this 5 [] t
      unfold chainL
      simp at h5
      omega
    · simp)
  have HMW := Lib.hid (fun V g cap rest (h : Row V g 3 (izs ws ++ rest)) (hb : Below w.heap.size w V) => (show Calls Try.prog 17 #[.slice (some ⟨g, 0, none⟩) m cap, .slice B m cb] V (fun e V' => e = .returned (.bool true) ∧ Below V.heap.size V V') from by
    refine (rsame_any ws ws _ B cap cb m m V hm hm (by omega) (row_sees h) (HBS.out V hb)).mono ?_
    rintro e V' ⟨e1, q, rfl⟩
    exact ⟨by rw [e1]; simp, below_drewN (Below.refl _ _) q⟩))
  have HIZ := Lib.hid (show (izs ws).length = m * 1 by rw [izs_len, hm, Nat.mul_one])
  have HIO := Lib.hid (izs_one (l := ws))
  have H77 := Lib.hid (fun w w7 v h => app77 (w := w) (w7 := w7) (v := v) hm h)
  have HM := Lib.hid hm
  obtain ⟨i0, hi, hz0, hz1, hz2⟩ := info_parts int_info
  have HI := Lib.hid (And.intro hi (And.intro hz0 (And.intro hz1 hz2)))
  have g0 : decide ((40 : Int) < (n : Int)) = false := decide_eq_false (by omega)
  have g1 : decide ((6 : Int) < (m : Int)) = false := decide_eq_false (by omega)
  obtain ⟨L0, hL0⟩ : ∃ L, L = frees 6 := ⟨_, rfl⟩
  rw [← hL0] at HNEW HRN
  clear hL0 hA hl hB hm hw ht HA hi hz0 hz1 hz2
  go_enter Try.func4, Try.ntmps4
  go_wp2_with fail
  refine HNEW.out.mono ?_
  rintro e w1 ⟨v, F, rfl, h1, h2, hb1⟩
  have HR1 := Lib.hid (show Run Has w v L0 w1 from ⟨F, h1, h2, hb1⟩)
  clear h1 h2 hb1 HNEW
  go_wp2_with fail
  refine (HRN.out _).mono ?_
  rintro e w2 ⟨vv, rfl, hwi, hb2, _⟩
  have HPS := Lib.hid (show PS Has w v vv L0 w2 from ⟨HRM.out _ _ HR1.out hb2, hwi⟩)
  clear hwi hb2
  go_wp2_with fail
  go_loopw [7, 9, 11] (fun s5 s7 s9 wr => ∃ (i : Nat) (v vv : Value) (l : Ls), v = s5 ∧ vv = s7 ∧ s9 = .int .i64 (i : Int) ∧ i ≤ n ∧ PS Has w v vv l wr) (fun _ _ s9 _ => n - (_root_.Go.RowKit.intOf s9).toNat)
  case atStart => exact ⟨0, v, vv, L0, rfl, rfl, rfl, Nat.zero_le _, HPS.out⟩
  case round =>
    obtain ⟨i, v2, vv2, l, rfl, rfl, rfl, hi, P⟩ := hrel
    by_cases hlt : i < n
    · have hil : i < acts.length := by rw [HLA.out]; exact hlt
      have i0 : (0 : Int) ≤ (i : Int) := by omega
      have i1 : (i : Int) < (n : Int) := by omega
      have i2 : decide ((i : Int) < (n : Int)) = true := decide_eq_true i1
      obtain ⟨ad0, rfl, a0, _⟩ := HAC.out _ P.1.below i hil
      have HACT1 := Lib.hid (HACT.out _ _ _ _ _ P acts[i] (HF.out i hil))
      obtain ⟨ac, hac⟩ : ∃ ac, ac = acts[i] := ⟨_, rfl⟩
      rw [← hac] at a0 HACT1
      obtain ⟨what, t', r⟩ := ac
      obtain ⟨d0, d1, d2⟩ := a0
      simp only [Ac.cells] at d0 d1 d2 HACT1
      clear hac P
      go_wp2_with fail
      refine HACT1.out.mono ?_
      rintro e u1 ⟨v3, vv3, rfl, P3⟩
      have HP3 := Lib.hid P3
      clear P3 d0 d1 d2
      go_wp2_with fail
      go_roundw
      case rel => exact ⟨i + 1, v3, vv3, _, rfl, rfl, by go_num, by omega, HP3.out⟩
      case measure => simp [_root_.Go.RowKit.intOf]; omega
    · obtain rfl : i = n := by omega
      have i2 : decide ((i : Int) < (i : Int)) = false := decide_eq_false (by omega)
      obtain ⟨w5, hw5⟩ : ∃ x : World, x = wr := ⟨_, rfl⟩
      subst hw5
      have HP := Lib.hid P
      have hown := nil_row w5
      have hr := Lib.hid (show Sees (w5.alloc (.cells #[] 3)) (w5.heap.size + 1) B (izs ws) from by
        have := (HBS.out w5 P.1.below).below (below1 w5 (.cells #[] 3))
        exact this.more (by omega))
      have j0 : (0 : Int) ≤ (m : Int) := by omega
      have ew : IntKind.i64.wrap ((m : Int) + 1) = ((m + 1 : Nat) : Int) := by rw [wrapI _ (by omega) (by omega)]; omega
      obtain ⟨m1, hm1⟩ : ∃ m1, m1 = m + 1 := ⟨_, rfl⟩
      rw [← hm1] at ew
      have j2 : (0 : Int) ≤ (m1 : Int) := by omega
      have j3 : (m : Int) < (m1 : Int) := by omega
      have HM1 := Lib.hid hm1
      obtain ⟨xs, hxs⟩ : ∃ xs, xs = izs ws := ⟨_, rfl⟩
      have HXS := Lib.hid hxs
      rw [← hxs] at hr HIZ HIO
      obtain ⟨hi1, hz0, hz1, hz2⟩ := HI.out
      clear P hm1 hxs
      go_wp2_with (first
        | (at_builtin; refine wpList_append_sees rfl (.tmp 51) (.tmp 52) 28 rfl w5.heap.size 3 i0 _ 1 8 Try.underlying28 hi1 hz0 hz1 hz2 rfl (by decide) _ 0 [] rfl hown (w5.heap.size + 1) B m cb xs rfl HIZ.out hr.out HIO.out (by unfold maxLen; omega) (by omega) (by simp) ?_; intro v6 w6 h1 h2 h3; rw [Nat.zero_add, List.nil_append] at h1; obtain ⟨A6, c6, rfl⟩ := own_slice h1; have hb6 := Lib.hid (show Below w5.heap.size w5 w6 from (below1 w5 _).grown h2 (by simp) (fun k hk => (hown.lt k hk).1)); have hown6 := h1.alloc (.cells #[.int .i64 77] 3); have hs6 := hb6.out.size; have hlt6 := Lib.hid (fun k hk => (h1.lt k hk).1); clear h1 h2 h3)
        | (at_builtin; refine wpList_append_sees rfl (.tmp 53) (.tmp 54) 28 rfl w5.heap.size 3 i0 _ 1 8 Try.underlying28 hi1 hz0 hz1 hz2 rfl (by decide) _ m xs rfl hown6 (w6.heap.size + 1) (some ⟨w6.heap.size, 0, none⟩) 1 1 [.int .i64 77] rfl rfl (fun _ => ⟨_, rfl, by simp, cell_one_at _ _ _⟩) (by simp [Value.oneCell']) (by unfold maxLen; omega) (by omega) (by rw [World.size_alloc]; omega) ?_; intro v7 w7 a1 a2 _; rw [HXS.out] at a1; obtain ⟨g, cap, rest, rfl, hcap, hrow⟩ := H77.out _ _ _ a1; have hb7 := Lib.hid (show Below w5.heap.size w5 w7 from (hb6.out.alloc hb6.out.size _).grown a2 (by rw [World.size_alloc]; omega) (fun k hk => hlt6.out k hk)); have HROW := Lib.hid hrow; rw [← HM1.out] at hcap; have q1 : (m : Int) ≤ (cap : Int) := (by omega); have q2 : (m1 : Int) ≤ (cap : Int) := (by omega); clear a1 a2 hrow))
      have HCHN := Lib.hid (HCH.out w7 v2 l (.slice (some ⟨g, 0, none⟩) m cap) (HRM.out _ _ HP.out.1 hb7.out) ⟨_, cap, by rw [HM.out], row_sees HROW.out⟩)
      have HP7 := Lib.hid (HPA.out _ _ _ _ _ _ HP.out hb7.out)
      clear hown hown6 hr hs6
      refine HCHN.out.mono ?_
      rintro e w8 ⟨u1, rfl, hu1, hr8, _, hb8⟩
      have HU1 := Lib.hid hu1
      have HP8 := Lib.hid (HPA.out _ _ _ _ _ _ HP7.out hb8)
      have HROW8 := Lib.hid (HROW.out.below hb8)
      clear hu1 hr8 hb8
      go_wp2_with fail
      refine (HRC.out _ _ _ _ HP8.out).mono ?_
      rintro e w9 ⟨u2, rfl, hu2, hb9⟩
      have HSAME := Lib.hid (HSM.out w9 u1 u2 l (HU1.out.below hb9) hu2 (HCL.out l))
      have HP9 := Lib.hid (HPA.out _ _ _ _ _ _ HP8.out hb9)
      have HROW9 := Lib.hid (HROW8.out.below hb9)
      obtain ⟨E, hE⟩ : ∃ E, E = chainE l t ws := ⟨_, rfl⟩
      rw [← hE]
      have eE : (E == E) = true := by simp
      clear hu2 hb9 hE
      go_wp2_with fail
      refine (hn.out _ _).mono ?_
      rintro e x0 ⟨rfl, rfl⟩
      go_wp2_with fail
      refine HSAME.out.mono ?_
      rintro e wa ⟨rfl, hba⟩
      have HPA1 := Lib.hid (HPA.out _ _ _ _ _ _ HP9.out hba)
      have HROWA := Lib.hid (HROW9.out.below hba)
      clear hba
      go_wp2_with fail
      refine (hn.out _ _).mono ?_
      rintro e x1 ⟨rfl, rfl⟩
      go_wp2_with fail
      refine (HMW.out wa g cap _ HROWA.out HPA1.out.1.below).mono ?_
      rintro e wb ⟨rfl, hbb⟩
      have HPB := Lib.hid (HPA.out _ _ _ _ _ _ HPA1.out hbb)
      have hrowb := HROWA.out.below hbb
      have hc77 : wb.cell? ⟨g, m, none⟩ = some (.int .i64 77) := by
        rw [hrowb.cell, List.getElem?_append_right (by rw [izs_len, HM.out]; exact Nat.le_refl _), izs_len, HM.out, Nat.sub_self]
        rfl
      clear hbb hrowb
      go_wp2_with fail
      refine (hwk.out _).mono ?_
      rintro e wc ⟨rfl, hb⟩
      have HFIN := Lib.hid (below0 HPB.out.1.below hb)
      clear hb
      go_wp2_with fail
      go_ret
      exact ⟨rfl, HFIN.out⟩
set_option maxRecDepth 100000 in
theorem chains_a {Has : HasT} (H : Api Has) (A : Option Addr) (n ca : Nat) (t : Int) (B : Option Addr) (m cb : Nat) (w : World) (h : 40 < n) :
    Calls Try.prog 4 #[.slice A n ca, .int .i64 t, .slice B m cb] w fun e w' => e = .returned (.bool true) ∧ Below w.heap.size w w' := by
  have hwk := Lib.hid (fun w => works_any H w)
  have g0 : decide ((40 : Int) < (n : Int)) = true := decide_eq_true (by omega)
  clear H
  go_enter Try.func4, Try.ntmps4
  go_wp2_with fail
  refine (hwk.out _).mono ?_
  rintro e v4 ⟨rfl, hb⟩
  have HFIN := Lib.hid hb
  clear hb
  go_wp2_with fail
  go_ret
  exact ⟨rfl, HFIN.out⟩
set_option maxRecDepth 100000 in
theorem chains_b {Has : HasT} (H : Api Has) (A : Option Addr) (n ca : Nat) (t : Int) (B : Option Addr) (m cb : Nat) (w : World) (h0 : n ≤ 40) (h : 6 < m) :
    Calls Try.prog 4 #[.slice A n ca, .int .i64 t, .slice B m cb] w fun e w' => e = .returned (.bool true) ∧ Below w.heap.size w w' := by
  have hwk := Lib.hid (fun w => works_any H w)
  have g0 : decide ((40 : Int) < (n : Int)) = false := decide_eq_false (by omega)
  have g1 : decide ((6 : Int) < (m : Int)) = true := decide_eq_true (by omega)
  clear H
  go_enter Try.func4, Try.ntmps4
  go_wp2_with fail
  refine (hwk.out _).mono ?_
  rintro e v4 ⟨rfl, hb⟩
  have HFIN := Lib.hid hb
  clear hb
  go_wp2_with fail
  go_ret
  exact ⟨rfl, HFIN.out⟩
theorem lockChains_any {Has : HasT} (HA : Api Has) (acts : List Ac) (A : Option Addr) (n ca : Nat) (t : Int) (ws : Ls) (B : Option Addr) (m cb : Nat) (w : World) (hA : Acs w acts A) (hl : acts.length = n) (ht : i64 t) (hB : Sees w w.heap.size B (izs ws)) (hm : ws.length = m) (hw : ∀ z ∈ ws, i64 z) :
    Calls Try.prog 4 #[.slice A n ca, .int .i64 t, .slice B m cb] w fun e w' => e = .returned (.bool true) ∧ Below w.heap.size w w' := by
  by_cases h40 : n ≤ 40
  · by_cases h6 : m ≤ 6
    · exact chains_main HA acts A n ca t ws B m cb w hA hl h40 ht hB hm h6 hw
    · exact chains_b HA A n ca t B m cb w h40 (by omega)
  · exact chains_a HA A n ca t B m cb w (by omega)
end Go.Proofs.Ytodbaahnmmfgiaa.Lk
