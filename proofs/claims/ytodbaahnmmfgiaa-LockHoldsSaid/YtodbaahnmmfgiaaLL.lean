import Derived.Test.YtodbaahnmmfgiaaLK
namespace Go.Proofs.Ytodbaahnmmfgiaa.Lk
open Go.RowKit Go.Shelf
attribute [local go_sem] Oper.semAt_some

/- LOCKPLAYS: LOCKS, CALL BY CALL; OF NONE, TOO. -/
theorem add_off (a : Addr) (m j : Nat) (hj : j ≠ 0) : a.add (m + j) = ⟨(a.add m).block, (a.add m).off + j, none⟩ := by
  unfold Addr.add
  rw [if_neg (by omega)]
  split
  · rename_i h; subst h; simp
  · simp; omega
structure Acs (w : World) (l : List Ac) (A : Option Addr) : Prop where
  sees : Sees w w.heap.size A (l.flatMap Ac.cells)
  fits : ∀ x ∈ l, x.fits
theorem Acs.below {w w' : World} {l : List Ac} {A : Option Addr} (h : Acs w l A) (hb : Below w.heap.size w w') : Acs w' l A := ⟨(h.sees.below hb).more hb.size, h.fits⟩
theorem acs_get : ∀ (l : List Ac) (k j : Nat) (hk : k < l.length), j < 3 → (l.flatMap Ac.cells)[k * 3 + j]? = l[k].cells[j]?
  | [], k, _, h, _ => by simp at h
  | x :: r, 0, j, _, hj => by
    rw [List.flatMap_cons, Nat.zero_mul, Nat.zero_add, List.getElem?_append_left (by show j < 3; exact hj)]
    rfl
  | x :: r, k + 1, j, h, hj => by
    have := acs_get r k j (by simpa using h) hj
    rw [List.flatMap_cons, List.getElem?_append_right (by show 3 ≤ _; omega), show (k + 1) * 3 + j - x.cells.length = k * 3 + j by show (k + 1) * 3 + j - 3 = _; omega]
    exact this
/-- a call's three cells -/
structure AtAc (w : World) (ad : Addr) (x : Ac) : Prop where
  c0 : w.cell? ad = some (.int .i64 x.what)
  c1 : w.cell? ⟨ad.block, ad.off + 1, none⟩ = some (.int .i64 x.thread)
  c2 : w.cell? ⟨ad.block, ad.off + 2, none⟩ = some (.int .i64 x.rank)
theorem Acs.at_ {w : World} {l : List Ac} {A : Option Addr} (h : Acs w l A) (k : Nat) (hk : k < l.length) :
    ∃ ad, A = some ad ∧ AtAc w (ad.add (k * 3)) l[k] ∧ ∀ V, Below w.heap.size w V → AtAc V (ad.add (k * 3)) l[k] := by
  have hne : l.flatMap Ac.cells ≠ [] := fun e => by
    have := acs_get l k 0 hk (by omega)
    rw [e] at this
    simp [Ac.cells] at this
  obtain ⟨ad, hA, hlt, hc⟩ := h.sees hne
  have g : ∀ j, j < 3 → w.cell? (ad.add (k * 3 + j)) = l[k].cells[j]? := fun j hj => by
    have h1 := acs_get l k j hk hj
    rw [← h1]
    cases hx : (l.flatMap Ac.cells)[k * 3 + j]? with
    | some u => exact hc _ _ hx
    | none =>
      rw [h1] at hx
      have : j < l[k].cells.length := hj
      rw [List.getElem?_eq_getElem this] at hx
      cases hx
  have h0 : AtAc w (ad.add (k * 3)) l[k] := by
    refine ⟨g 0 (by omega), ?_, ?_⟩
    · rw [← add_off ad (k * 3) 1 (by decide)]
      exact g 1 (by omega)
    · rw [← add_off ad (k * 3) 2 (by decide)]
      exact g 2 (by omega)
  have hbk : (ad.add (k * 3)).block = ad.block := add_block _ _
  refine ⟨ad, hA, h0, fun V hb => ⟨?_, ?_, ?_⟩⟩
  · exact (hb.cell (by rw [hbk]; exact hlt)).trans h0.c0
  · exact (hb.cell (by show (ad.add (k * 3)).block < _; rw [hbk]; exact hlt)).trans h0.c1
  · exact (hb.cell (by show (ad.add (k * 3)).block < _; rw [hbk]; exact hlt)).trans h0.c2

/-- the law's state: locks, the document's list of the same -/
def PS (Has : HasT) (w : World) (v vv : Value) (l : Ls) (V : World) : Prop := Run Has w v l V ∧ Wi V vv l
section
variable {Has : HasT} (H : Api Has) {w V V' : World} {v vv : Value} {l : Ls}
include H
theorem PS.more (h : PS Has w v vv l V) (hb : Below V.heap.size V V') : PS Has w v vv l V' := ⟨Run.more H h.1 hb, h.2.below hb⟩
theorem PS.act (h : PS Has w v vv l V) (x : Ac) (hx : x.fits) : Calls Try.prog 12 #[v, vv, .agg x.cells.toArray] V fun e V' =>
    ∃ v' vv', e = .returned (.tuple #[v', vv', .bool true]) ∧ PS Has w v' vv' (actL l x.what x.thread x.rank) V' := by
  obtain ⟨⟨F, h1, h2, h3⟩, h4⟩ := h
  refine (act_any H v vv l F x V h1 h4 hx).mono ?_
  rintro e V' ⟨v', F', vv', rfl, a1, a2, a3, a4⟩
  have hs := h3.size
  exact ⟨v', vv', rfl, ⟨F', a1, fun k hk => (a4 k hk).elim (h2 k) (fun h => by omega), h3.trans (a3.below h2 hs)⟩, a2⟩
end
set_option maxRecDepth 100000 in
set_option maxHeartbeats 8000000 in
theorem plays_ok1 {Has : HasT} {gf : Nat} (HA : ApiA Has gf) (HNN : ∀ (z : Bool) (w : World), Calls Try.prog 10 #[.bool z] w fun e w' => e = .returned (.bool true) ∧ Below w.heap.size w w') (acts : List Ac) (A : Option Addr) (n ca : Nat) (many : Nat) (hmany : many ≤ 64) (w : World) (hA : Acs w acts A) (hl : acts.length = n) (hn60 : n ≤ 60) (hodd : n % 2 = 1) :
    Calls Try.prog 3 #[.int .i64 (many : Int), .slice A n ca] w fun e w' => e = .returned (.bool true) ∧ Below w.heap.size w w' := by
  have hn := Lib.hid (fun n w => num_any n w)
  have hwk := Lib.hid (fun w => works_any HA.api w)
  have HNO := Lib.hid (HNN true)
  have g0 : decide ((60 : Int) < (n : Int)) = false := decide_eq_false (by omega)
  have g1 : (((n : Int) % 2) == 1) = true := by rw [beq_iff_eq]; omega
  have g2 : (((n : Int).tmod 2) == 1) = true := by rw [Int.tmod_eq_emod_of_nonneg (by omega)]; exact g1
  have HAC := Lib.hid (fun V (hb : Below w.heap.size w V) i (hi : i < acts.length) => (hA.below hb).at_ i hi)
  have HF := Lib.hid (fun i (hi : i < acts.length) => hA.fits _ (List.getElem_mem hi))
  have HLA := Lib.hid hl
  have HNEW := Lib.hid (HA.api.new w many hmany)
  have HRN := Lib.hid (fun V => rnew_ok many V hmany)
  have HPA := Lib.hid (fun w V V' v vv l (h : PS Has w v vv l V) (hb : Below V.heap.size V V') => PS.more HA.api h hb)
  have HACT := Lib.hid (fun w V v vv l (h : PS Has w v vv l V) x hx => PS.act HA.api h x hx)
  have HIS := Lib.hid (fun w V v vv l (h : PS Has w v vv l V) => (show Calls Try.prog 13 #[v, vv] V (fun e V' => e = .returned (.bool true) ∧ PS Has w v vv l V') from by
    obtain ⟨F, h1, _⟩ := h.1
    exact (is_any HA h1 h.2).mono fun _ _ ⟨e, hb⟩ => ⟨e, PS.more HA.api h hb⟩))
  have HS1 := Lib.hid (fun w V v vv l (h : PS Has w v vv l V) => (show Calls Try.prog 14 #[v, .pointer none] V (fun e V' => e = .returned (.bool false) ∧ PS Has w v vv l V') from by
    obtain ⟨F, h1, _⟩ := h.1
    exact (HA.api.sameN h1).mono fun _ _ ⟨e, hb⟩ => ⟨e, PS.more HA.api h hb⟩))
  have HS2 := Lib.hid (fun w V v vv l (h : PS Has w v vv l V) => (show Calls Try.prog 14 #[.pointer none, v] V (fun e V' => e = .returned (.bool false) ∧ PS Has w v vv l V') from by
    obtain ⟨F, h1, _⟩ := h.1
    exact (HA.api.sameN' h1).mono fun _ _ ⟨e, hb⟩ => ⟨e, PS.more HA.api h hb⟩))
  have HRM := Lib.hid (fun V V' {v l} (h : Run Has w v l V) (hb : Below V.heap.size V V') => Run.more HA.api h hb)
  obtain ⟨L0, hL0⟩ : ∃ L, L = frees many := ⟨_, rfl⟩
  rw [← hL0] at HNEW HRN
  clear hL0 hA hl hmany hodd HNN HA
  go_enter Try.func3, Try.ntmps3
  go_wp2_with fail
  refine HNEW.out.mono ?_
  rintro e w1 ⟨v, F, rfl, h1, h2, hb1⟩
  have HR1 := Lib.hid (show Run Has w v L0 w1 from ⟨F, h1, h2, hb1⟩)
  clear h1 h2 hb1 HNEW
  go_wp2_with fail
  refine (HRN.out _).mono ?_
  rintro e w2 ⟨vv, rfl, hwi, hb2, _⟩
  have HPS := Lib.hid (HPA.out w w2 w2 v vv L0 ⟨HRM.out _ _ HR1.out hb2, hwi⟩ (Below.refl _ _))
  clear hwi hb2
  go_wp2_with fail
  refine (HNO.out _).mono ?_
  rintro e w3 ⟨rfl, hb3⟩
  have HPS3 := Lib.hid (HPA.out _ _ _ _ _ _ HPS.out hb3)
  clear hb3
  go_wp2_with fail
  go_loopw [5, 7, 9] (fun s5 s7 s9 wr => ∃ (i : Nat) (v vv : Value) (l : Ls), v = s5 ∧ vv = s7 ∧ s9 = .int .i64 (i : Int) ∧ i ≤ n ∧ PS Has w v vv l wr) (fun _ _ s9 _ => n - (_root_.Go.RowKit.intOf s9).toNat)
  case atStart => exact ⟨0, v, vv, L0, rfl, rfl, rfl, Nat.zero_le _, HPS3.out⟩
  case round =>
    obtain ⟨i, v2, vv2, l, rfl, rfl, rfl, hi, P⟩ := hrel
    by_cases hlt : i < n
    · have hil : i < acts.length := by rw [HLA.out]; exact hlt
      have i0 : (0 : Int) ≤ (i : Int) := by omega
      have i1 : (i : Int) < (n : Int) := by omega
      have i2 : decide ((i : Int) < (n : Int)) = true := decide_eq_true i1
      obtain ⟨ad0, rfl, a0, _⟩ := HAC.out _ P.1.below i hil
      have HACT1 := Lib.hid (HACT.out _ _ _ _ _ P acts[i] (HF.out i hil))
      obtain ⟨ac, hac⟩ : ∃ ac, ac = acts[i] := ⟨_, rfl⟩
      rw [← hac] at a0 HACT1
      obtain ⟨what, t, r⟩ := ac
      obtain ⟨d0, d1, d2⟩ := a0
      simp only [Ac.cells] at d0 d1 d2 HACT1
      clear hac P
      go_wp2_with fail
      refine HACT1.out.mono ?_
      rintro e u1 ⟨v3, vv3, rfl, P3⟩
      have HP3 := Lib.hid P3
      clear P3 d0 d1 d2
      go_wp2_with fail
      go_roundw
      case rel => exact ⟨i + 1, v3, vv3, _, rfl, rfl, by go_num, by omega, HP3.out⟩
      case measure => simp [_root_.Go.RowKit.intOf]; omega
    · obtain rfl : i = n := by omega
      have i2 : decide ((i : Int) < (i : Int)) = false := decide_eq_false (by omega)
      have HP := Lib.hid P
      clear P
      go_wp2_with fail
      refine (hn.out _ _).mono ?_
      rintro e u0 ⟨rfl, rfl⟩
      go_wp2_with fail
      refine (HIS.out _ _ _ _ _ HP.out).mono ?_
      rintro e u1 ⟨rfl, P1⟩
      have HP1 := Lib.hid P1
      clear P1
      go_wp2_with fail
      refine (HS1.out _ _ _ _ _ HP1.out).mono ?_
      rintro e u2 ⟨rfl, P2⟩
      have HP2 := Lib.hid P2
      clear P2
      go_wp2_with fail
      refine (HS2.out _ _ _ _ _ HP2.out).mono ?_
      rintro e u3 ⟨rfl, P3⟩
      have HP3 := Lib.hid P3
      clear P3
      go_wp2_with fail
      refine (hwk.out _).mono ?_
      rintro e u4 ⟨rfl, hb⟩
      have HFIN := Lib.hid (below0 HP3.out.1.below hb)
      clear hb
      go_wp2_with fail
      go_ret
      exact ⟨rfl, HFIN.out⟩
set_option maxRecDepth 100000 in
set_option maxHeartbeats 8000000 in
theorem plays_ok0 {Has : HasT} {gf : Nat} (HA : ApiA Has gf) (HNN : ∀ (z : Bool) (w : World), Calls Try.prog 10 #[.bool z] w fun e w' => e = .returned (.bool true) ∧ Below w.heap.size w w') (acts : List Ac) (A : Option Addr) (n ca : Nat) (many : Nat) (hmany : many ≤ 64) (w : World) (hA : Acs w acts A) (hl : acts.length = n) (hn60 : n ≤ 60) (hodd : n % 2 = 0) :
    Calls Try.prog 3 #[.int .i64 (many : Int), .slice A n ca] w fun e w' => e = .returned (.bool true) ∧ Below w.heap.size w w' := by
  have hn := Lib.hid (fun n w => num_any n w)
  have hwk := Lib.hid (fun w => works_any HA.api w)
  have HNO := Lib.hid (HNN false)
  have g0 : decide ((60 : Int) < (n : Int)) = false := decide_eq_false (by omega)
  have g1 : (((n : Int) % 2) == 1) = false := by rw [beq_eq_false_iff_ne]; omega
  have g2 : (((n : Int).tmod 2) == 1) = false := by rw [Int.tmod_eq_emod_of_nonneg (by omega)]; exact g1
  have HAC := Lib.hid (fun V (hb : Below w.heap.size w V) i (hi : i < acts.length) => (hA.below hb).at_ i hi)
  have HF := Lib.hid (fun i (hi : i < acts.length) => hA.fits _ (List.getElem_mem hi))
  have HLA := Lib.hid hl
  have HNEW := Lib.hid (HA.api.new w many hmany)
  have HRN := Lib.hid (fun V => rnew_ok many V hmany)
  have HPA := Lib.hid (fun w V V' v vv l (h : PS Has w v vv l V) (hb : Below V.heap.size V V') => PS.more HA.api h hb)
  have HACT := Lib.hid (fun w V v vv l (h : PS Has w v vv l V) x hx => PS.act HA.api h x hx)
  have HIS := Lib.hid (fun w V v vv l (h : PS Has w v vv l V) => (show Calls Try.prog 13 #[v, vv] V (fun e V' => e = .returned (.bool true) ∧ PS Has w v vv l V') from by
    obtain ⟨F, h1, _⟩ := h.1
    exact (is_any HA h1 h.2).mono fun _ _ ⟨e, hb⟩ => ⟨e, PS.more HA.api h hb⟩))
  have HS1 := Lib.hid (fun w V v vv l (h : PS Has w v vv l V) => (show Calls Try.prog 14 #[v, .pointer none] V (fun e V' => e = .returned (.bool false) ∧ PS Has w v vv l V') from by
    obtain ⟨F, h1, _⟩ := h.1
    exact (HA.api.sameN h1).mono fun _ _ ⟨e, hb⟩ => ⟨e, PS.more HA.api h hb⟩))
  have HS2 := Lib.hid (fun w V v vv l (h : PS Has w v vv l V) => (show Calls Try.prog 14 #[.pointer none, v] V (fun e V' => e = .returned (.bool false) ∧ PS Has w v vv l V') from by
    obtain ⟨F, h1, _⟩ := h.1
    exact (HA.api.sameN' h1).mono fun _ _ ⟨e, hb⟩ => ⟨e, PS.more HA.api h hb⟩))
  have HRM := Lib.hid (fun V V' {v l} (h : Run Has w v l V) (hb : Below V.heap.size V V') => Run.more HA.api h hb)
  obtain ⟨L0, hL0⟩ : ∃ L, L = frees many := ⟨_, rfl⟩
  rw [← hL0] at HNEW HRN
  clear hL0 hA hl hmany hodd HNN HA
  go_enter Try.func3, Try.ntmps3
  go_wp2_with fail
  refine HNEW.out.mono ?_
  rintro e w1 ⟨v, F, rfl, h1, h2, hb1⟩
  have HR1 := Lib.hid (show Run Has w v L0 w1 from ⟨F, h1, h2, hb1⟩)
  clear h1 h2 hb1 HNEW
  go_wp2_with fail
  refine (HRN.out _).mono ?_
  rintro e w2 ⟨vv, rfl, hwi, hb2, _⟩
  have HPS := Lib.hid (HPA.out w w2 w2 v vv L0 ⟨HRM.out _ _ HR1.out hb2, hwi⟩ (Below.refl _ _))
  clear hwi hb2
  go_wp2_with fail
  refine (HNO.out _).mono ?_
  rintro e w3 ⟨rfl, hb3⟩
  have HPS3 := Lib.hid (HPA.out _ _ _ _ _ _ HPS.out hb3)
  clear hb3
  go_wp2_with fail
  go_loopw [5, 7, 9] (fun s5 s7 s9 wr => ∃ (i : Nat) (v vv : Value) (l : Ls), v = s5 ∧ vv = s7 ∧ s9 = .int .i64 (i : Int) ∧ i ≤ n ∧ PS Has w v vv l wr) (fun _ _ s9 _ => n - (_root_.Go.RowKit.intOf s9).toNat)
  case atStart => exact ⟨0, v, vv, L0, rfl, rfl, rfl, Nat.zero_le _, HPS3.out⟩
  case round =>
    obtain ⟨i, v2, vv2, l, rfl, rfl, rfl, hi, P⟩ := hrel
    by_cases hlt : i < n
    · have hil : i < acts.length := by rw [HLA.out]; exact hlt
      have i0 : (0 : Int) ≤ (i : Int) := by omega
      have i1 : (i : Int) < (n : Int) := by omega
      have i2 : decide ((i : Int) < (n : Int)) = true := decide_eq_true i1
      obtain ⟨ad0, rfl, a0, _⟩ := HAC.out _ P.1.below i hil
      have HACT1 := Lib.hid (HACT.out _ _ _ _ _ P acts[i] (HF.out i hil))
      obtain ⟨ac, hac⟩ : ∃ ac, ac = acts[i] := ⟨_, rfl⟩
      rw [← hac] at a0 HACT1
      obtain ⟨what, t, r⟩ := ac
      obtain ⟨d0, d1, d2⟩ := a0
      simp only [Ac.cells] at d0 d1 d2 HACT1
      clear hac P
      go_wp2_with fail
      refine HACT1.out.mono ?_
      rintro e u1 ⟨v3, vv3, rfl, P3⟩
      have HP3 := Lib.hid P3
      clear P3 d0 d1 d2
      go_wp2_with fail
      go_roundw
      case rel => exact ⟨i + 1, v3, vv3, _, rfl, rfl, by go_num, by omega, HP3.out⟩
      case measure => simp [_root_.Go.RowKit.intOf]; omega
    · obtain rfl : i = n := by omega
      have i2 : decide ((i : Int) < (i : Int)) = false := decide_eq_false (by omega)
      have HP := Lib.hid P
      clear P
      go_wp2_with fail
      refine (hn.out _ _).mono ?_
      rintro e u0 ⟨rfl, rfl⟩
      go_wp2_with fail
      refine (HIS.out _ _ _ _ _ HP.out).mono ?_
      rintro e u1 ⟨rfl, P1⟩
      have HP1 := Lib.hid P1
      clear P1
      go_wp2_with fail
      refine (HS1.out _ _ _ _ _ HP1.out).mono ?_
      rintro e u2 ⟨rfl, P2⟩
      have HP2 := Lib.hid P2
      clear P2
      go_wp2_with fail
      refine (HS2.out _ _ _ _ _ HP2.out).mono ?_
      rintro e u3 ⟨rfl, P3⟩
      have HP3 := Lib.hid P3
      clear P3
      go_wp2_with fail
      refine (hwk.out _).mono ?_
      rintro e u4 ⟨rfl, hb⟩
      have HFIN := Lib.hid (below0 HP3.out.1.below hb)
      clear hb
      go_wp2_with fail
      go_ret
      exact ⟨rfl, HFIN.out⟩
set_option maxRecDepth 100000 in
set_option maxHeartbeats 8000000 in
theorem plays_no1 {Has : HasT} {gf : Nat} (HA : ApiA Has gf) (HNN : ∀ (z : Bool) (w : World), Calls Try.prog 10 #[.bool z] w fun e w' => e = .returned (.bool true) ∧ Below w.heap.size w w') (A : Option Addr) (n ca : Nat) (many : Int) (hmany : many < 0 ∨ 64 < many) (w : World) (hn60 : n ≤ 60) (hodd : n % 2 = 1) :
    Calls Try.prog 3 #[.int .i64 many, .slice A n ca] w fun e w' => e = .returned (.bool true) ∧ Below w.heap.size w w' := by
  have hn := Lib.hid (fun n w => num_any n w)
  have hwk := Lib.hid (fun w => works_any HA.api w)
  have HNO := Lib.hid (HNN true)
  have g0 : decide ((60 : Int) < (n : Int)) = false := decide_eq_false (by omega)
  have g1 : (((n : Int) % 2) == 1) = true := by rw [beq_iff_eq]; omega
  have g2 : (((n : Int).tmod 2) == 1) = true := by rw [Int.tmod_eq_emod_of_nonneg (by omega)]; exact g1
  have HNEW := Lib.hid (HA.api.newNo w many hmany)
  have HRN := Lib.hid (fun V => rnew_no many V hmany)
  clear hmany hodd HNN HA
  go_enter Try.func3, Try.ntmps3
  go_wp2_with fail
  refine HNEW.out.mono ?_
  rintro e w1 ⟨rfl, hb1⟩
  have HB1 := Lib.hid hb1
  clear hb1
  go_wp2_with fail
  refine (HRN.out _).mono ?_
  rintro e w2 ⟨rfl, rfl⟩
  go_wp2_with fail
  refine (HNO.out _).mono ?_
  rintro e w3 ⟨rfl, hb3⟩
  have HB3 := Lib.hid (below0 HB1.out hb3)
  clear hb3
  go_wp2_with fail
  refine (hn.out _ _).mono ?_
  rintro e u0 ⟨rfl, rfl⟩
  go_wp2_with fail
  refine (hwk.out _).mono ?_
  rintro e u4 ⟨rfl, hb⟩
  have HFIN := Lib.hid (below0 HB3.out hb)
  clear hb
  go_wp2_with fail
  go_ret
  exact ⟨rfl, HFIN.out⟩
set_option maxRecDepth 100000 in
set_option maxHeartbeats 8000000 in
theorem plays_no0 {Has : HasT} {gf : Nat} (HA : ApiA Has gf) (HNN : ∀ (z : Bool) (w : World), Calls Try.prog 10 #[.bool z] w fun e w' => e = .returned (.bool true) ∧ Below w.heap.size w w') (A : Option Addr) (n ca : Nat) (many : Int) (hmany : many < 0 ∨ 64 < many) (w : World) (hn60 : n ≤ 60) (hodd : n % 2 = 0) :
    Calls Try.prog 3 #[.int .i64 many, .slice A n ca] w fun e w' => e = .returned (.bool true) ∧ Below w.heap.size w w' := by
  have hn := Lib.hid (fun n w => num_any n w)
  have hwk := Lib.hid (fun w => works_any HA.api w)
  have HNO := Lib.hid (HNN false)
  have g0 : decide ((60 : Int) < (n : Int)) = false := decide_eq_false (by omega)
  have g1 : (((n : Int) % 2) == 1) = false := by rw [beq_eq_false_iff_ne]; omega
  have g2 : (((n : Int).tmod 2) == 1) = false := by rw [Int.tmod_eq_emod_of_nonneg (by omega)]; exact g1
  have HNEW := Lib.hid (HA.api.newNo w many hmany)
  have HRN := Lib.hid (fun V => rnew_no many V hmany)
  clear hmany hodd HNN HA
  go_enter Try.func3, Try.ntmps3
  go_wp2_with fail
  refine HNEW.out.mono ?_
  rintro e w1 ⟨rfl, hb1⟩
  have HB1 := Lib.hid hb1
  clear hb1
  go_wp2_with fail
  refine (HRN.out _).mono ?_
  rintro e w2 ⟨rfl, rfl⟩
  go_wp2_with fail
  refine (HNO.out _).mono ?_
  rintro e w3 ⟨rfl, hb3⟩
  have HB3 := Lib.hid (below0 HB1.out hb3)
  clear hb3
  go_wp2_with fail
  refine (hn.out _ _).mono ?_
  rintro e u0 ⟨rfl, rfl⟩
  go_wp2_with fail
  refine (hwk.out _).mono ?_
  rintro e u4 ⟨rfl, hb⟩
  have HFIN := Lib.hid (below0 HB3.out hb)
  clear hb
  go_wp2_with fail
  go_ret
  exact ⟨rfl, HFIN.out⟩
set_option maxRecDepth 100000 in
theorem plays_more {Has : HasT} (H : Api Has) (many : Int) (A : Option Addr) (n ca : Nat) (w : World) (hn60 : 60 < n) : Calls Try.prog 3 #[.int .i64 many, .slice A n ca] w fun e w' => e = .returned (.bool true) ∧ Below w.heap.size w w' := by
  have hwk := Lib.hid (fun w => works_any H w)
  have g0 : decide ((60 : Int) < (n : Int)) = true := decide_eq_true (by omega)
  clear H
  go_enter Try.func3, Try.ntmps3
  go_wp2_with fail
  refine (hwk.out _).mono ?_
  rintro e v4 ⟨rfl, hb⟩
  have HFIN := Lib.hid hb
  clear hb
  go_wp2_with fail
  go_ret
  exact ⟨rfl, HFIN.out⟩
theorem lockPlays_any {Has : HasT} {gf : Nat} (HA : ApiA Has gf) (HNN : ∀ (z : Bool) (w : World), Calls Try.prog 10 #[.bool z] w fun e w' => e = .returned (.bool true) ∧ Below w.heap.size w w') (acts : List Ac) (A : Option Addr) (n ca : Nat) (many : Int) (w : World) (hA : Acs w acts A) (hl : acts.length = n) :
    Calls Try.prog 3 #[.int .i64 many, .slice A n ca] w fun e w' => e = .returned (.bool true) ∧ Below w.heap.size w w' := by
  by_cases h60 : n ≤ 60
  · by_cases hm : many < 0 ∨ 64 < many
    · rcases (show n % 2 = 0 ∨ n % 2 = 1 by omega) with h | h
      · exact plays_no0 HA HNN A n ca many hm w h60 h
      · exact plays_no1 HA HNN A n ca many hm w h60 h
    · obtain ⟨M, rfl⟩ : ∃ M : Nat, many = M := ⟨many.toNat, by omega⟩
      rcases (show n % 2 = 0 ∨ n % 2 = 1 by omega) with h | h
      · exact plays_ok0 HA HNN acts A n ca M (by omega) w hA hl h60 h
      · exact plays_ok1 HA HNN acts A n ca M (by omega) w hA hl h60 h
  · exact plays_more HA.api many A n ca w (by omega)
end Go.Proofs.Ytodbaahnmmfgiaa.Lk
