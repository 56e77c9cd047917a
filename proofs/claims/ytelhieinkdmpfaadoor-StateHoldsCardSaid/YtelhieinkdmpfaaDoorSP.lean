import Derived.Test.YtelhieinkdmpfaaDoorSO
namespace Go.Proofs.YtelhieinkdmpfaaDoor.Sh
open Go.RowKit Go.Shelf
attribute [local go_sem] Oper.semAt_some

/- STATEPLAYS: A SHEET, CALL BY CALL; OF NONE, TOO. -/
structure PNo (Non : NonT) (w : World) (u : Value) (G : Nat → Prop) (V : World) : Prop where
  non : Non V u G
  below : Below w.heap.size w V
theorem PNo.more {Has : HasT} {Non : NonT} (HN : ApiN Has Non) {w V V' : World} {u : Value} {G : Nat → Prop} (h : PNo Non w u G V) (hb : Below V.heap.size V V') : PNo Non w u G V' := ⟨HN.below h.non hb, below0 h.below hb⟩
set_option maxRecDepth 100000 in
set_option maxHeartbeats 8000000 in
theorem plays_evenOk {Has : HasT} {Non : NonT} (H : Api Has) (HN : ApiN Has Non) (HZ : ∀ w : World, Non w (.pointer none) (fun _ => False)) (k : Nat) (hk : k ≤ 256) (acts : List Ac) (B : Option Addr) (m cb : Nat) (w : World) (hTb : Tb w) (hB : Acs w acts B) (hm : acts.length = m) (hm8 : m ≤ 80) (hodd : m % 2 = 0) :
    Calls Tryd.prog 4 #[.int .i64 (k : Int), .slice B m cb] w fun e w' => e = .returned (.bool true) ∧ Below w.heap.size w w' := by
  have HTB := Lib.hid hTb
  have HW := Lib.hid (fun W (hb : Below w.heap.size w W) => works_any H W (HTB.out.below hb))
  have d1 : decide ((80 : Int) < (m : Int)) = false := decide_eq_false (by omega)
  have g1 : (((m : Int) % 2) == 1) = false := by rw [beq_eq_false_iff_ne]; omega
  have g2 : (((m : Int).tmod 2) == 1) = false := by rw [Int.tmod_eq_emod_of_nonneg (by omega)]; exact g1
  have HNUM := Lib.hid (fun n w => num_any n w)
  have HAC := Lib.hid (fun i (hi : i < acts.length) => hB.at_ i hi)
  have HF := Lib.hid (fun i (hi : i < acts.length) => hB.fits _ (List.getElem_mem hi))
  have HM := Lib.hid hm
  have HNEW := Lib.hid (H.new w k hk)
  have HRN := Lib.hid (fun w => rnew_ok k w hk)
  have HZZ := Lib.hid HZ
  clear hm hodd HZ hk hTb hB
  go_enter Tryd.func4, Tryd.ntmps4
  go_wp2_with fail
  refine HNEW.out.mono ?_
  rintro e w1 ⟨v0, F0, rfl, b1, b2, b3⟩
  obtain ⟨ad0, rfl⟩ := H.ptr b1
  have Q1 := Lib.hid (And.intro b1 (And.intro b2 b3))
  clear b1 b2 b3 HNEW
  go_wp2_with fail
  refine (HRN.out _).mono ?_
  rintro e w2 ⟨vv0, rfl, c1, c2, c3⟩
  have Q2 := Lib.hid (And.intro c1 (And.intro c2 c3))
  clear c1 c2 c3 HRN
  have hb3 : Below w2.heap.size w2 w2 := Below.refl _ _
  have hno := HZZ.out w2
  have PQ := Lib.hid (show PSt Has Non w (.pointer none) (fun _ => False) (.pointer (some ad0)) vv0 (zs k) w2 from ⟨⟨F0, H.below (H.below Q1.out.1 Q2.out.2.1) hb3, Q1.out.2.1, fun _ g hg hf => by
    have h1 := Q2.out.2.2 g hg
    have h2 := H.lt Q1.out.1 g hf
    omega, fun k hk hg => hg⟩, Q2.out.1.below hb3, hno, below0 (below0 Q1.out.2.2 Q2.out.2.1) hb3⟩)
  clear hno hb3 Q1 Q2 HZZ
  have hmv := Lib.hid (HN.move PQ.out.non)
  go_wp2_with fail
  refine hmv.out.mono ?_
  rintro e x1 ⟨rfl, hb⟩
  have PQ := Lib.hid (PSt.more H HN PQ.out hb)
  clear hb hmv
  have hge := Lib.hid (HN.get PQ.out.non)
  go_wp2_with fail
  refine hge.out.mono ?_
  rintro e x2 ⟨rfl, hb⟩
  have PQ := Lib.hid (PSt.more H HN PQ.out hb)
  clear hb hge
  go_wp2_with fail
  refine (HNUM.out _ _).mono ?_
  rintro e x3 ⟨rfl, rfl⟩
  have hle := Lib.hid (HN.len PQ.out.non)
  go_wp2_with fail
  refine hle.out.mono ?_
  rintro e x4 ⟨rfl, hb⟩
  have PQ := Lib.hid (PSt.more H HN PQ.out hb)
  clear hb hle
  have hco := Lib.hid (HN.count PQ.out.non)
  go_wp2_with fail
  refine hco.out.mono ?_
  rintro e x5 ⟨rfl, hb⟩
  have PQ := Lib.hid (PSt.more H HN PQ.out hb)
  clear hb hco
  have hal := Lib.hid (HN.all PQ.out.non)
  go_wp2_with fail
  refine hal.out.mono ?_
  rintro e x6 ⟨Ae, ce, rfl, hb⟩
  have PQ := Lib.hid (PSt.more H HN PQ.out hb)
  clear hb hal
  have htx := Lib.hid (HN.text PQ.out.non)
  go_wp2_with fail
  refine htx.out.mono ?_
  rintro e x7 ⟨rfl, hb⟩
  have PQ := Lib.hid (PSt.more H HN PQ.out hb)
  clear hb htx
  have hcp := Lib.hid (HN.copy PQ.out.non)
  go_wp2_with fail
  refine hcp.out.mono ?_
  rintro e x8 ⟨rfl, hb⟩
  have PQ := Lib.hid (PSt.more H HN PQ.out hb)
  clear hb hcp
  have hsa := Lib.hid (HN.same PQ.out.non)
  go_wp2_with fail
  refine hsa.out.mono ?_
  rintro e x9 ⟨rfl, hb⟩
  have PQ := Lib.hid (PSt.more H HN PQ.out hb)
  clear hb hsa
  go_wp2_with fail
  obtain ⟨v0, hv0⟩ : ∃ v0, v0 = Value.pointer (some ad0) := ⟨_, rfl⟩
  rw [← hv0] at PQ
  rw [← hv0]
  clear hv0
  go_loopw [5, 7, 14] (fun s5 s7 s14 wr => ∃ (i : Nat) (l : Ls), i ≤ m ∧ s14 = .int .i64 (i : Int) ∧ PSt Has Non w (.pointer none) (fun _ => False) s5 s7 l wr) (fun _ _ s14 _ => m - (_root_.Go.RowKit.intOf s14).toNat)
  case atStart => exact ⟨0, _, Nat.zero_le _, rfl, PQ.out⟩
  case round =>
    obtain ⟨i, l, hi2, rfl, P⟩ := hrel
    by_cases hlt2 : i < m
    · have hil : i < acts.length := by rw [HM.out]; exact hlt2
      obtain ⟨ad2, rfl, _, HA2⟩ := HAC.out i hil
      have hfit := HF.out i hil
      obtain ⟨ac, hac⟩ : ∃ ac, ac = acts[i] := ⟨_, rfl⟩
      rw [← hac] at HA2 hfit
      have k0 : (0 : Int) ≤ (i : Int) := by omega
      have k1 : (i : Int) < (m : Int) := by omega
      have k2 : decide ((i : Int) < (m : Int)) = true := decide_eq_true k1
      have k3 : decide (i < m) = true := decide_eq_true hlt2
      have HPL := Lib.hid (fun V (hb : Below w.heap.size w V) => HA2 V hb)
      have hact := Lib.hid (PSt.act H HN HTB.out P ac hfit)
      obtain ⟨l2, hl2⟩ : ∃ l2, l2 = actL l ac := ⟨_, rfl⟩
      rw [← hl2] at hact
      have a0 := (HA2 _ P.below).c0
      have a1 := (HA2 _ P.below).c1
      have a2 := (HA2 _ P.below).c2
      obtain ⟨cp, at_, to⟩ := ac
      clear hac HA2 hfit hl2 P HPL PQ
      go_wp2_with fail
      refine hact.out.mono ?_
      rintro e y1 ⟨v1, vv1, rfl, P⟩
      have P1 := Lib.hid P
      clear P hact a0 a1 a2
      go_wp2_with fail
      go_roundw
      case rel => exact ⟨i + 1, l2, by omega, by go_num, P1.out⟩
      case measure => simp [_root_.Go.RowKit.intOf]; omega
    · obtain rfl : m = i := by omega
      have k2 : decide ((m : Int) < (m : Int)) = false := decide_eq_false (by omega)
      have PQ := Lib.hid P
      obtain ⟨y0, hy0⟩ : ∃ x : World, x = wr := ⟨_, rfl⟩
      subst hy0
      clear P
      go_wp2_with fail
      refine (HNUM.out _ _).mono ?_
      rintro e y1 ⟨rfl, rfl⟩
      have his := Lib.hid (PSt.is H HN PQ.out)
      go_wp2_with fail
      refine his.out.mono ?_
      rintro e y2 ⟨rfl, P⟩
      have PQ := Lib.hid P
      have hs1 := Lib.hid (PSt.same1 H HN P)
      clear P his
      go_wp2_with fail
      refine hs1.out.mono ?_
      rintro e y3 ⟨rfl, P⟩
      have PQ := Lib.hid P
      have hs2 := Lib.hid (PSt.same2 H HN P)
      clear P hs1
      go_wp2_with fail
      refine hs2.out.mono ?_
      rintro e y4 ⟨rfl, P⟩
      have PQ := Lib.hid P
      clear P hs2
      go_wp2_with fail
      refine (HW.out _ PQ.out.below).mono ?_
      rintro e y5 ⟨rfl, hb⟩
      have PQ := Lib.hid (PSt.more H HN PQ.out hb)
      clear hb
      go_wp2_with fail
      go_ret
      exact ⟨rfl, PQ.out.below⟩
set_option maxRecDepth 100000 in
set_option maxHeartbeats 8000000 in
theorem plays_oddOk {Has : HasT} {Non : NonT} (H : Api Has) (HN : ApiN Has Non) (HZ : ∀ w : World, Non (w.alloc (.cells #[.slice none 0 0] 40)) (.pointer (some ⟨w.heap.size, 0, none⟩)) (fun k => k = w.heap.size)) (k : Nat) (hk : k ≤ 256) (acts : List Ac) (B : Option Addr) (m cb : Nat) (w : World) (hTb : Tb w) (hB : Acs w acts B) (hm : acts.length = m) (hm8 : m ≤ 80) (hodd : m % 2 = 1) :
    Calls Tryd.prog 4 #[.int .i64 (k : Int), .slice B m cb] w fun e w' => e = .returned (.bool true) ∧ Below w.heap.size w w' := by
  have HTB := Lib.hid hTb
  have HW := Lib.hid (fun W (hb : Below w.heap.size w W) => works_any H W (HTB.out.below hb))
  have d1 : decide ((80 : Int) < (m : Int)) = false := decide_eq_false (by omega)
  have g1 : (((m : Int) % 2) == 1) = true := by rw [beq_iff_eq]; omega
  have g2 : (((m : Int).tmod 2) == 1) = true := by rw [Int.tmod_eq_emod_of_nonneg (by omega)]; exact g1
  have HNUM := Lib.hid (fun n w => num_any n w)
  have HAC := Lib.hid (fun i (hi : i < acts.length) => hB.at_ i hi)
  have HF := Lib.hid (fun i (hi : i < acts.length) => hB.fits _ (List.getElem_mem hi))
  have HM := Lib.hid hm
  have HNEW := Lib.hid (H.new w k hk)
  have HRN := Lib.hid (fun w => rnew_ok k w hk)
  have HZZ := Lib.hid HZ
  clear hm hodd HZ hk hTb hB
  go_enter Tryd.func4, Tryd.ntmps4
  go_wp2_with fail
  refine HNEW.out.mono ?_
  rintro e w1 ⟨v0, F0, rfl, b1, b2, b3⟩
  obtain ⟨ad0, rfl⟩ := H.ptr b1
  have Q1 := Lib.hid (And.intro b1 (And.intro b2 b3))
  clear b1 b2 b3 HNEW
  go_wp2_with fail
  refine (HRN.out _).mono ?_
  rintro e w2 ⟨vv0, rfl, c1, c2, c3⟩
  have Q2 := Lib.hid (And.intro c1 (And.intro c2 c3))
  clear c1 c2 c3 HRN
  have hb3 : Below w2.heap.size w2 (w2.alloc (.cells #[.slice none 0 0] 40)) := below1 _ _
  have hno := HZZ.out w2
  have PQ := Lib.hid (show PSt Has Non w (.pointer (some ⟨w2.heap.size, 0, none⟩)) (fun k => k = w2.heap.size) (.pointer (some ad0)) vv0 (zs k) (w2.alloc (.cells #[.slice none 0 0] 40)) from ⟨⟨F0, H.below (H.below Q1.out.1 Q2.out.2.1) hb3, Q1.out.2.1, fun _ g hg hf => by
    have h1 := Q2.out.2.2 g hg
    have h2 := H.lt Q1.out.1 g hf
    omega, fun k hk hg => by have h2 := H.lt Q1.out.1 k hk; have h3 := Q2.out.2.1.size; have h4 : k = w2.heap.size := hg; omega⟩, Q2.out.1.below hb3, hno, below0 (below0 Q1.out.2.2 Q2.out.2.1) hb3⟩)
  clear hno hb3 Q1 Q2 HZZ
  obtain ⟨gz, hgz⟩ : ∃ gz, gz = w2.heap.size := ⟨_, rfl⟩
  obtain ⟨W3, hW3⟩ : ∃ W3, W3 = (w2.alloc (.cells #[.slice none 0 0] 40)) := ⟨_, rfl⟩
  rw [← hgz, ← hW3] at PQ
  have HGZ := Lib.hid hgz
  have HW3 := Lib.hid hW3
  clear hgz hW3
  have hmv := Lib.hid (HN.move PQ.out.non)
  go_wp2_with fail
  rw [← HW3.out, ← HGZ.out]
  clear HW3 HGZ
  refine hmv.out.mono ?_
  rintro e x1 ⟨rfl, hb⟩
  have PQ := Lib.hid (PSt.more H HN PQ.out hb)
  clear hb hmv
  have hge := Lib.hid (HN.get PQ.out.non)
  go_wp2_with fail
  refine hge.out.mono ?_
  rintro e x2 ⟨rfl, hb⟩
  have PQ := Lib.hid (PSt.more H HN PQ.out hb)
  clear hb hge
  go_wp2_with fail
  refine (HNUM.out _ _).mono ?_
  rintro e x3 ⟨rfl, rfl⟩
  have hle := Lib.hid (HN.len PQ.out.non)
  go_wp2_with fail
  refine hle.out.mono ?_
  rintro e x4 ⟨rfl, hb⟩
  have PQ := Lib.hid (PSt.more H HN PQ.out hb)
  clear hb hle
  have hco := Lib.hid (HN.count PQ.out.non)
  go_wp2_with fail
  refine hco.out.mono ?_
  rintro e x5 ⟨rfl, hb⟩
  have PQ := Lib.hid (PSt.more H HN PQ.out hb)
  clear hb hco
  have hal := Lib.hid (HN.all PQ.out.non)
  go_wp2_with fail
  refine hal.out.mono ?_
  rintro e x6 ⟨Ae, ce, rfl, hb⟩
  have PQ := Lib.hid (PSt.more H HN PQ.out hb)
  clear hb hal
  have htx := Lib.hid (HN.text PQ.out.non)
  go_wp2_with fail
  refine htx.out.mono ?_
  rintro e x7 ⟨rfl, hb⟩
  have PQ := Lib.hid (PSt.more H HN PQ.out hb)
  clear hb htx
  have hcp := Lib.hid (HN.copy PQ.out.non)
  go_wp2_with fail
  refine hcp.out.mono ?_
  rintro e x8 ⟨rfl, hb⟩
  have PQ := Lib.hid (PSt.more H HN PQ.out hb)
  clear hb hcp
  have hsa := Lib.hid (HN.same PQ.out.non)
  go_wp2_with fail
  refine hsa.out.mono ?_
  rintro e x9 ⟨rfl, hb⟩
  have PQ := Lib.hid (PSt.more H HN PQ.out hb)
  clear hb hsa
  go_wp2_with fail
  obtain ⟨v0, hv0⟩ : ∃ v0, v0 = Value.pointer (some ad0) := ⟨_, rfl⟩
  rw [← hv0] at PQ
  rw [← hv0]
  clear hv0
  go_loopw [5, 7, 14] (fun s5 s7 s14 wr => ∃ (i : Nat) (l : Ls), i ≤ m ∧ s14 = .int .i64 (i : Int) ∧ PSt Has Non w (.pointer (some ⟨gz, 0, none⟩)) (fun k => k = gz) s5 s7 l wr) (fun _ _ s14 _ => m - (_root_.Go.RowKit.intOf s14).toNat)
  case atStart => exact ⟨0, _, Nat.zero_le _, rfl, PQ.out⟩
  case round =>
    obtain ⟨i, l, hi2, rfl, P⟩ := hrel
    by_cases hlt2 : i < m
    · have hil : i < acts.length := by rw [HM.out]; exact hlt2
      obtain ⟨ad2, rfl, _, HA2⟩ := HAC.out i hil
      have hfit := HF.out i hil
      obtain ⟨ac, hac⟩ : ∃ ac, ac = acts[i] := ⟨_, rfl⟩
      rw [← hac] at HA2 hfit
      have k0 : (0 : Int) ≤ (i : Int) := by omega
      have k1 : (i : Int) < (m : Int) := by omega
      have k2 : decide ((i : Int) < (m : Int)) = true := decide_eq_true k1
      have k3 : decide (i < m) = true := decide_eq_true hlt2
      have HPL := Lib.hid (fun V (hb : Below w.heap.size w V) => HA2 V hb)
      have hact := Lib.hid (PSt.act H HN HTB.out P ac hfit)
      obtain ⟨l2, hl2⟩ : ∃ l2, l2 = actL l ac := ⟨_, rfl⟩
      rw [← hl2] at hact
      have a0 := (HA2 _ P.below).c0
      have a1 := (HA2 _ P.below).c1
      have a2 := (HA2 _ P.below).c2
      obtain ⟨cp, at_, to⟩ := ac
      clear hac HA2 hfit hl2 P HPL PQ
      go_wp2_with fail
      refine hact.out.mono ?_
      rintro e y1 ⟨v1, vv1, rfl, P⟩
      have P1 := Lib.hid P
      clear P hact a0 a1 a2
      go_wp2_with fail
      go_roundw
      case rel => exact ⟨i + 1, l2, by omega, by go_num, P1.out⟩
      case measure => simp [_root_.Go.RowKit.intOf]; omega
    · obtain rfl : m = i := by omega
      have k2 : decide ((m : Int) < (m : Int)) = false := decide_eq_false (by omega)
      have PQ := Lib.hid P
      obtain ⟨y0, hy0⟩ : ∃ x : World, x = wr := ⟨_, rfl⟩
      subst hy0
      clear P
      go_wp2_with fail
      refine (HNUM.out _ _).mono ?_
      rintro e y1 ⟨rfl, rfl⟩
      have his := Lib.hid (PSt.is H HN PQ.out)
      go_wp2_with fail
      refine his.out.mono ?_
      rintro e y2 ⟨rfl, P⟩
      have PQ := Lib.hid P
      have hs1 := Lib.hid (PSt.same1 H HN P)
      clear P his
      go_wp2_with fail
      refine hs1.out.mono ?_
      rintro e y3 ⟨rfl, P⟩
      have PQ := Lib.hid P
      have hs2 := Lib.hid (PSt.same2 H HN P)
      clear P hs1
      go_wp2_with fail
      refine hs2.out.mono ?_
      rintro e y4 ⟨rfl, P⟩
      have PQ := Lib.hid P
      clear P hs2
      go_wp2_with fail
      refine (HW.out _ PQ.out.below).mono ?_
      rintro e y5 ⟨rfl, hb⟩
      have PQ := Lib.hid (PSt.more H HN PQ.out hb)
      clear hb
      go_wp2_with fail
      go_ret
      exact ⟨rfl, PQ.out.below⟩
set_option maxRecDepth 100000 in
set_option maxHeartbeats 8000000 in
theorem plays_evenNo {Has : HasT} {Non : NonT} (H : Api Has) (HN : ApiN Has Non) (HZ : ∀ w : World, Non w (.pointer none) (fun _ => False)) (z : Int) (hz : i64 z) (hk : z < 0 ∨ 256 < z) (acts : List Ac) (B : Option Addr) (m cb : Nat) (w : World) (hTb : Tb w) (_hB : Acs w acts B) (hm : acts.length = m) (hm8 : m ≤ 80) (hodd : m % 2 = 0) :
    Calls Tryd.prog 4 #[.int .i64 z, .slice B m cb] w fun e w' => e = .returned (.bool true) ∧ Below w.heap.size w w' := by
  have HTB := Lib.hid hTb
  have HW := Lib.hid (fun W (hb : Below w.heap.size w W) => works_any H W (HTB.out.below hb))
  have d1 : decide ((80 : Int) < (m : Int)) = false := decide_eq_false (by omega)
  have g1 : (((m : Int) % 2) == 1) = false := by rw [beq_eq_false_iff_ne]; omega
  have g2 : (((m : Int).tmod 2) == 1) = false := by rw [Int.tmod_eq_emod_of_nonneg (by omega)]; exact g1
  have HNUM := Lib.hid (fun n w => num_any n w)
  have HNEW := Lib.hid (H.newNo w z hz hk)
  have HRN := Lib.hid (fun w => rnew_no z w hk)
  have HZZ := Lib.hid HZ
  clear hm hodd HZ hk hTb hz
  go_enter Tryd.func4, Tryd.ntmps4
  go_wp2_with fail
  refine HNEW.out.mono ?_
  rintro e w1 ⟨rfl, b3⟩
  have Q1 := Lib.hid b3
  clear b3 HNEW
  go_wp2_with fail
  refine (HRN.out _).mono ?_
  rintro e w2 ⟨rfl, rfl⟩
  clear HRN
  have hb3 : Below w1.heap.size w1 w1 := Below.refl _ _
  have hno := HZZ.out w1
  have PQ := Lib.hid (show PNo Non w (.pointer none) (fun _ => False) w1 from ⟨hno, below0 Q1.out hb3⟩)
  clear hno hb3 Q1 HZZ
  have hmv := Lib.hid (HN.move PQ.out.non)
  go_wp2_with fail
  refine hmv.out.mono ?_
  rintro e x1 ⟨rfl, hb⟩
  have PQ := Lib.hid (PNo.more HN PQ.out hb)
  clear hb hmv
  have hge := Lib.hid (HN.get PQ.out.non)
  go_wp2_with fail
  refine hge.out.mono ?_
  rintro e x2 ⟨rfl, hb⟩
  have PQ := Lib.hid (PNo.more HN PQ.out hb)
  clear hb hge
  go_wp2_with fail
  refine (HNUM.out _ _).mono ?_
  rintro e x3 ⟨rfl, rfl⟩
  have hle := Lib.hid (HN.len PQ.out.non)
  go_wp2_with fail
  refine hle.out.mono ?_
  rintro e x4 ⟨rfl, hb⟩
  have PQ := Lib.hid (PNo.more HN PQ.out hb)
  clear hb hle
  have hco := Lib.hid (HN.count PQ.out.non)
  go_wp2_with fail
  refine hco.out.mono ?_
  rintro e x5 ⟨rfl, hb⟩
  have PQ := Lib.hid (PNo.more HN PQ.out hb)
  clear hb hco
  have hal := Lib.hid (HN.all PQ.out.non)
  go_wp2_with fail
  refine hal.out.mono ?_
  rintro e x6 ⟨Ae, ce, rfl, hb⟩
  have PQ := Lib.hid (PNo.more HN PQ.out hb)
  clear hb hal
  have htx := Lib.hid (HN.text PQ.out.non)
  go_wp2_with fail
  refine htx.out.mono ?_
  rintro e x7 ⟨rfl, hb⟩
  have PQ := Lib.hid (PNo.more HN PQ.out hb)
  clear hb htx
  have hcp := Lib.hid (HN.copy PQ.out.non)
  go_wp2_with fail
  refine hcp.out.mono ?_
  rintro e x8 ⟨rfl, hb⟩
  have PQ := Lib.hid (PNo.more HN PQ.out hb)
  clear hb hcp
  have hsa := Lib.hid (HN.same PQ.out.non)
  go_wp2_with fail
  refine hsa.out.mono ?_
  rintro e x9 ⟨rfl, hb⟩
  have PQ := Lib.hid (PNo.more HN PQ.out hb)
  clear hb hsa
  go_wp2_with fail
  refine (HNUM.out _ _).mono ?_
  rintro e xa ⟨rfl, rfl⟩
  go_wp2_with fail
  refine (HW.out _ PQ.out.below).mono ?_
  rintro e xb ⟨rfl, hb⟩
  have PQ := Lib.hid (PNo.more HN PQ.out hb)
  clear hb
  go_wp2_with fail
  go_ret
  exact ⟨rfl, PQ.out.below⟩
set_option maxRecDepth 100000 in
set_option maxHeartbeats 8000000 in
theorem plays_oddNo {Has : HasT} {Non : NonT} (H : Api Has) (HN : ApiN Has Non) (HZ : ∀ w : World, Non (w.alloc (.cells #[.slice none 0 0] 40)) (.pointer (some ⟨w.heap.size, 0, none⟩)) (fun k => k = w.heap.size)) (z : Int) (hz : i64 z) (hk : z < 0 ∨ 256 < z) (acts : List Ac) (B : Option Addr) (m cb : Nat) (w : World) (hTb : Tb w) (_hB : Acs w acts B) (hm : acts.length = m) (hm8 : m ≤ 80) (hodd : m % 2 = 1) :
    Calls Tryd.prog 4 #[.int .i64 z, .slice B m cb] w fun e w' => e = .returned (.bool true) ∧ Below w.heap.size w w' := by
  have HTB := Lib.hid hTb
  have HW := Lib.hid (fun W (hb : Below w.heap.size w W) => works_any H W (HTB.out.below hb))
  have d1 : decide ((80 : Int) < (m : Int)) = false := decide_eq_false (by omega)
  have g1 : (((m : Int) % 2) == 1) = true := by rw [beq_iff_eq]; omega
  have g2 : (((m : Int).tmod 2) == 1) = true := by rw [Int.tmod_eq_emod_of_nonneg (by omega)]; exact g1
  have HNUM := Lib.hid (fun n w => num_any n w)
  have HNEW := Lib.hid (H.newNo w z hz hk)
  have HRN := Lib.hid (fun w => rnew_no z w hk)
  have HZZ := Lib.hid HZ
  clear hm hodd HZ hk hTb hz
  go_enter Tryd.func4, Tryd.ntmps4
  go_wp2_with fail
  refine HNEW.out.mono ?_
  rintro e w1 ⟨rfl, b3⟩
  have Q1 := Lib.hid b3
  clear b3 HNEW
  go_wp2_with fail
  refine (HRN.out _).mono ?_
  rintro e w2 ⟨rfl, rfl⟩
  clear HRN
  have hb3 : Below w1.heap.size w1 (w1.alloc (.cells #[.slice none 0 0] 40)) := below1 _ _
  have hno := HZZ.out w1
  have PQ := Lib.hid (show PNo Non w (.pointer (some ⟨w1.heap.size, 0, none⟩)) (fun k => k = w1.heap.size) (w1.alloc (.cells #[.slice none 0 0] 40)) from ⟨hno, below0 Q1.out hb3⟩)
  clear hno hb3 Q1 HZZ
  obtain ⟨gz, hgz⟩ : ∃ gz, gz = w1.heap.size := ⟨_, rfl⟩
  obtain ⟨W3, hW3⟩ : ∃ W3, W3 = (w1.alloc (.cells #[.slice none 0 0] 40)) := ⟨_, rfl⟩
  rw [← hgz, ← hW3] at PQ
  have HGZ := Lib.hid hgz
  have HW3 := Lib.hid hW3
  clear hgz hW3
  have hmv := Lib.hid (HN.move PQ.out.non)
  go_wp2_with fail
  rw [← HW3.out, ← HGZ.out]
  clear HW3 HGZ
  refine hmv.out.mono ?_
  rintro e x1 ⟨rfl, hb⟩
  have PQ := Lib.hid (PNo.more HN PQ.out hb)
  clear hb hmv
  have hge := Lib.hid (HN.get PQ.out.non)
  go_wp2_with fail
  refine hge.out.mono ?_
  rintro e x2 ⟨rfl, hb⟩
  have PQ := Lib.hid (PNo.more HN PQ.out hb)
  clear hb hge
  go_wp2_with fail
  refine (HNUM.out _ _).mono ?_
  rintro e x3 ⟨rfl, rfl⟩
  have hle := Lib.hid (HN.len PQ.out.non)
  go_wp2_with fail
  refine hle.out.mono ?_
  rintro e x4 ⟨rfl, hb⟩
  have PQ := Lib.hid (PNo.more HN PQ.out hb)
  clear hb hle
  have hco := Lib.hid (HN.count PQ.out.non)
  go_wp2_with fail
  refine hco.out.mono ?_
  rintro e x5 ⟨rfl, hb⟩
  have PQ := Lib.hid (PNo.more HN PQ.out hb)
  clear hb hco
  have hal := Lib.hid (HN.all PQ.out.non)
  go_wp2_with fail
  refine hal.out.mono ?_
  rintro e x6 ⟨Ae, ce, rfl, hb⟩
  have PQ := Lib.hid (PNo.more HN PQ.out hb)
  clear hb hal
  have htx := Lib.hid (HN.text PQ.out.non)
  go_wp2_with fail
  refine htx.out.mono ?_
  rintro e x7 ⟨rfl, hb⟩
  have PQ := Lib.hid (PNo.more HN PQ.out hb)
  clear hb htx
  have hcp := Lib.hid (HN.copy PQ.out.non)
  go_wp2_with fail
  refine hcp.out.mono ?_
  rintro e x8 ⟨rfl, hb⟩
  have PQ := Lib.hid (PNo.more HN PQ.out hb)
  clear hb hcp
  have hsa := Lib.hid (HN.same PQ.out.non)
  go_wp2_with fail
  refine hsa.out.mono ?_
  rintro e x9 ⟨rfl, hb⟩
  have PQ := Lib.hid (PNo.more HN PQ.out hb)
  clear hb hsa
  go_wp2_with fail
  refine (HNUM.out _ _).mono ?_
  rintro e xa ⟨rfl, rfl⟩
  go_wp2_with fail
  refine (HW.out _ PQ.out.below).mono ?_
  rintro e xb ⟨rfl, hb⟩
  have PQ := Lib.hid (PNo.more HN PQ.out hb)
  clear hb
  go_wp2_with fail
  go_ret
  exact ⟨rfl, PQ.out.below⟩
set_option maxRecDepth 100000 in
theorem plays_far {Has : HasT} (H : Api Has) (z : Int) (B : Option Addr) (m cb : Nat) (w : World) (hTb : Tb w) (h : 80 < m) :
    Calls Tryd.prog 4 #[.int .i64 z, .slice B m cb] w fun e w' => e = .returned (.bool true) ∧ Below w.heap.size w w' := by
  have HW := Lib.hid (works_any H w hTb)
  have d1 : decide ((80 : Int) < (m : Int)) = true := decide_eq_true (by omega)
  clear hTb
  go_enter Tryd.func4, Tryd.ntmps4
  go_wp2_with fail
  refine HW.out.mono ?_
  rintro e W1 ⟨rfl, hb1⟩
  have HB1 := Lib.hid hb1
  clear hb1
  go_wp2_with fail
  go_ret
  exact ⟨rfl, HB1.out⟩
theorem statePlays_any {Has : HasT} {Non : NonT} (H : Api Has) (HN : ApiN Has Non) (HZ0 : ∀ w : World, Non w (.pointer none) (fun _ => False)) (HZ1 : ∀ w : World, Non (w.alloc (.cells #[.slice none 0 0] 40)) (.pointer (some ⟨w.heap.size, 0, none⟩)) (fun k => k = w.heap.size))
    (z : Int) (hz : i64 z) (acts : List Ac) (B : Option Addr) (m cb : Nat) (w : World) (hTb : Tb w) (hB : Acs w acts B) (hm : acts.length = m) :
    Calls Tryd.prog 4 #[.int .i64 z, .slice B m cb] w fun e w' => e = .returned (.bool true) ∧ Below w.heap.size w w' := by
  by_cases h8 : m ≤ 80
  · by_cases hk : z < 0 ∨ 256 < z
    · rcases Nat.mod_two_eq_zero_or_one m with h | h
      · exact plays_evenNo H HN HZ0 z hz hk acts B m cb w hTb hB hm h8 h
      · exact plays_oddNo H HN HZ1 z hz hk acts B m cb w hTb hB hm h8 h
    · obtain ⟨k, rfl⟩ : ∃ k : Nat, z = k := ⟨z.toNat, by omega⟩
      rcases Nat.mod_two_eq_zero_or_one m with h | h
      · exact plays_evenOk H HN HZ0 k (by omega) acts B m cb w hTb hB hm h8 h
      · exact plays_oddOk H HN HZ1 k (by omega) acts B m cb w hTb hB hm h8 h
  · exact plays_far H z B m cb w hTb (by omega)
end Go.Proofs.YtelhieinkdmpfaaDoor.Sh
