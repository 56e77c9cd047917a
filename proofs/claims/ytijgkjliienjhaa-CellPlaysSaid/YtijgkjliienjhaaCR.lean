import Derived.Test.YtijgkjliienjhaaCQ
import Derived.Test.YtijgkjliienjhaaCM
namespace Go.Proofs.Ytijgkjliienjhaa
open Go.RowKit Go.Shelf
attribute [local go_sem] Oper.semAt_some

/- CELLPLAYS: CELLS, CALL BY CALL; OF NONE, TOO. -/
/-- no cells: nil, or what no call made -/
def NonR (w : World) (v : Value) : Prop := v = .pointer none ∨ ∃ b, v = bx b ∧ Row w b 34 [.slice none 0 0]
theorem NonR.non {w : World} {v : Value} (h : NonR w v) : Non w v := by
  rcases h with h | ⟨b, h1, h2⟩
  · exact .inl h
  · exact .inr ⟨b, h1, h2.cell 0⟩
theorem NonR.below {w w' : World} {v : Value} (h : NonR w v) (hb : Below w.heap.size w w') : NonR w' v := by
  rcases h with h | ⟨b, h1, h2⟩
  · exact .inl h
  · exact .inr ⟨b, h1, h2.below hb⟩
theorem NonR.keep {w w' : World} {v : Value} {b g c : Nat} {l : Cs} (h : NonR w v) (hr : Rep w b g c l) (hk : Keep (· = g) w w') : NonR w' v := by
  rcases h with h | ⟨b1, h1, h2⟩
  · exact .inl h
  · exact .inr ⟨b1, h1, hk.row h2 (hr.row.ne h2 (by decide))⟩
/-- the law's state: cells, the document's list of the same, what is no cells -/
structure PS (w : World) (v : Value) (b g c gv m : Nat) (vv : Value) (l : Cs) (V : World) : Prop where
  rep : Rep V b g c l
  wt : Wt V vv gv l
  non : NonR V v
  ok : Ok m l
  below : Below w.heap.size w V
  hg : w.heap.size ≤ g
section
variable {w V V' : World} {v vv : Value} {b g c gv m : Nat} {l l' : Cs} {e : Ending}
theorem PS.more (h : PS w v b g c gv m vv l V) (hb : Below V.heap.size V V') : PS w v b g c gv m vv l V' :=
  ⟨h.rep.below hb, h.wt.below hb, h.non.below hb, h.ok, below0 h.below hb, h.hg⟩
theorem PS.act (h : PS w v b g c gv m vv l V) (hm : m < 1000000) (x : Ac) (hx : x.fits) : Calls Try.prog 18 #[bx b, vv, .agg x.cells.toArray] V fun e V' =>
    ∃ b' g' c' gv' vv', e = .returned (.tuple #[bx b', vv', .bool true]) ∧ PS w v b' g' c' gv' (m + 1) vv' (actL l x.what x.at_ x.src x.dst) V' := by
  refine (act_any b g gv m c l vv x V h.rep h.wt h.ok hm).mono ?_
  rintro e V' ⟨b', g', c', v', gv', rfl, h1, h2, h3, h4, _⟩
  have hs := h.below.size
  have hg := h.hg
  refine ⟨b', g', c', gv', v', rfl, h1, h2, h.non.keep h.rep h3, actL_ok h.ok _ _ _ hx.2.2, h.below.trans (h3.below (fun k (e : k = g) => by rw [e]; exact hg) hs), ?_⟩
  rcases h4 with ⟨_, rfl⟩ | ⟨_, h⟩ <;> omega
end
/-- what is asked of no cells -/
structure Nil (v : Value) (V0 : World) : Prop where
  ld : ∀ V, Below V0.heap.size V0 V → Calls Try.prog 9 #[v, .int .i64 0] V fun e w' => e = .returned (.tuple #[.int .u64 0, .int .i64 1]) ∧ V = w'
  sw : ∀ V, Below V0.heap.size V0 V → Calls Try.prog 10 #[v, .int .i64 0, .int .u64 0, .int .u64 1] V fun e w' => e = .returned (.tuple #[.bool false, .int .i64 1]) ∧ Below V.heap.size V w'
  ct : ∀ V, Below V0.heap.size V0 V → Calls Try.prog 11 #[v, .int .i64 0] V fun e w' => e = .returned (.tuple #[.int .i64 0, .int .i64 1]) ∧ V = w'
  st : ∀ V, Below V0.heap.size V0 V → Calls Try.prog 13 #[v, .int .i64 0, .int .u64 1] V fun e w' => e = .returned (.int .i64 1) ∧ Below V.heap.size V w'
  ln : ∀ V, Below V0.heap.size V0 V → Calls Try.prog 14 #[v] V fun e w' => e = .returned (.int .i64 0) ∧ V = w'
  al : ∀ V, Below V0.heap.size V0 V → Calls Try.prog 15 #[v, .int .i64 9] V fun e w' => ∃ A c, e = .returned (.slice A 0 c) ∧ Below V.heap.size V w'
  cp : ∀ V, Below V0.heap.size V0 V → Calls Try.prog 16 #[v] V fun e w' => e = .returned (.pointer none) ∧ V = w'
  sm : ∀ V, Below V0.heap.size V0 V → Calls Try.prog 17 #[v, .pointer none] V fun e w' => e = .returned (.bool true) ∧ V = w'
theorem nil_any {v : Value} {V0 : World} (h : NonR V0 v) : Nil v V0 where
  ld V hb := load_non v 0 V (h.below hb).non
  sw V hb := swap_non v 0 0 1 V (h.below hb).non
  ct V hb := count_non v 0 V (h.below hb).non
  st V hb := store_non v 0 1 V (h.below hb).non
  ln V hb := len_non v V (h.below hb).non
  al V hb := (all_non v V (h.below hb).non 9 (by omega) (by omega)).mono fun _ _ ⟨A, c, e, _, h2⟩ => ⟨A, c, e, h2⟩
  cp V hb := copy_non v V (h.below hb).non
  sm V hb := same_nn v (.pointer none) V (h.below hb).non (.inl rfl)
set_option maxRecDepth 100000 in
set_option maxHeartbeats 8000000 in
theorem plays_ok1 (acts : List Ac) (A : Option Addr) (n ca : Nat) (many : Nat) (hmany : many ≤ 1024) (w : World) (hA : Acs w acts A) (hl : acts.length = n) (hn60 : n ≤ 60) (hodd : n % 2 = 1) :
    Calls Try.prog 3 #[.int .i64 (many : Int), .slice A n ca] w fun e w' => e = .returned (.bool true) ∧ Below w.heap.size w w' := by
  have hn := Lib.hid (fun n w => num_any n w)
  have hwk := Lib.hid (fun w => works_any w)
  have g0 : decide ((60 : Int) < (n : Int)) = false := decide_eq_false (by omega)
  have g1 : (((n : Int) % 2) == 1) = true := by rw [beq_iff_eq]; omega
  have g2 : (((n : Int).tmod 2) == 1) = true := by rw [Int.tmod_eq_emod_of_nonneg (by omega)]; exact g1
  have HA := Lib.hid (fun V (hb : Below w.heap.size w V) i (hi : i < acts.length) => (hA.below hb).at_ i hi)
  have HF := Lib.hid (fun i (hi : i < acts.length) => hA.fits _ (List.getElem_mem hi))
  have HLA := Lib.hid hl
  have HNEW := Lib.hid (new_ok many w hmany)
  have HRN := Lib.hid (fun V => rnew_ok many V hmany)
  have HZ := Lib.hid (zeros_ok hmany)
  obtain ⟨L0, hL0⟩ : ∃ L, L = zeros many := ⟨_, rfl⟩
  rw [← hL0] at HNEW HRN HZ
  clear hL0 hA hl hmany hodd
  go_enter Try.func3, Try.ntmps3
  go_wp2_with fail
  refine HNEW.out.mono ?_
  rintro e w1 ⟨b, g, c, rfl, hb1, hg1, hr1, hB1⟩
  have HR1 := Lib.hid hr1
  have HB1 := Lib.hid hB1
  have HG1 := Lib.hid hg1
  clear hb1 hg1 hr1 hB1 HNEW
  go_wp2_with fail
  refine (HRN.out _).mono ?_
  rintro e w2 ⟨vv, gv, rfl, hgv, hwt, hB2⟩
  have hb3 := hB2.alloc hB2.size (.cells #[.slice none 0 0] 34)
  have HNR := Lib.hid (show NonR (w2.alloc (.cells #[.slice none 0 0] 34)) (bx w2.heap.size) from .inr ⟨_, rfl, Row.new w2 _ [.slice none 0 0]⟩)
  have HPS := Lib.hid (show PS w (bx w2.heap.size) b g c gv 0 vv L0 (w2.alloc (.cells #[.slice none 0 0] 34)) from ⟨HR1.out.below hb3, hwt.below (below1 _ _), HNR.out, HZ.out, below0 HB1.out hb3, HG1.out⟩)
  have HNI := Lib.hid (nil_any HNR.out)
  obtain ⟨w3, hw3⟩ : ∃ w3, w3 = w2.alloc (.cells #[.slice none 0 0] 34) := ⟨_, rfl⟩
  rw [← hw3] at HPS HNI HNR
  obtain ⟨bn, hbn⟩ : ∃ bn, bn = w2.heap.size := ⟨_, rfl⟩
  rw [← hbn] at HPS HNI HNR
  have HW3 := Lib.hid hw3
  have HBN := Lib.hid hbn
  clear hb3 hgv hwt hB2 hw3 hbn
  go_wp2_with fail
  rw [← HW3.out, ← HBN.out]
  refine (HNI.out.ld _ (Below.refl _ _)).mono ?_
  rintro e u1 ⟨rfl, rfl⟩
  go_wp2_with fail
  refine (HNI.out.sw _ (Below.refl _ _)).mono ?_
  rintro e u2 ⟨rfl, hb2⟩
  have HB2 := Lib.hid hb2
  clear hb2
  go_wp2_with fail
  refine (HNI.out.ct _ HB2.out).mono ?_
  rintro e u3 ⟨rfl, rfl⟩
  go_wp2_with fail
  refine (hn.out _ _).mono ?_
  rintro e u40 ⟨rfl, rfl⟩
  go_wp2_with fail
  refine (hn.out _ _).mono ?_
  rintro e u41 ⟨rfl, rfl⟩
  go_wp2_with fail
  refine (hn.out _ _).mono ?_
  rintro e u42 ⟨rfl, rfl⟩
  go_wp2_with fail
  refine (HNI.out.st _ HB2.out).mono ?_
  rintro e u5 ⟨rfl, hb2⟩
  have HB5 := Lib.hid (below0 HB2.out hb2)
  clear hb2
  go_wp2_with fail
  refine (hn.out _ _).mono ?_
  rintro e u6 ⟨rfl, rfl⟩
  go_wp2_with fail
  refine (HNI.out.ln _ HB5.out).mono ?_
  rintro e u7 ⟨rfl, rfl⟩
  go_wp2_with fail
  refine (HNI.out.al _ HB5.out).mono ?_
  rintro e u8 ⟨A8, c8, rfl, hb2⟩
  have HB8 := Lib.hid (below0 HB5.out hb2)
  clear hb2
  go_wp2_with fail
  refine (HNI.out.cp _ HB8.out).mono ?_
  rintro e u9 ⟨rfl, rfl⟩
  go_wp2_with fail
  refine (HNI.out.sm _ HB8.out).mono ?_
  rintro e u10 ⟨rfl, rfl⟩
  go_wp2_with fail
  have HPS8 := Lib.hid (HPS.out.more HB8.out)
  go_loopw [5, 7, 16] (fun s5 s7 s16 wr => ∃ (i b g c gv : Nat) (vv : Value) (l : Cs), s5 = bx b ∧ vv = s7 ∧ s16 = .int .i64 (i : Int) ∧ i ≤ n ∧ PS w (bx bn) b g c gv i vv l wr) (fun _ _ s16 _ => n - (_root_.Go.RowKit.intOf s16).toNat)
  case atStart => exact ⟨0, b, g, c, gv, vv, L0, rfl, rfl, rfl, Nat.zero_le _, HPS8.out⟩
  case round =>
    obtain ⟨i, b2, g2', c2, gv2, vv2, l, rfl, rfl, rfl, hi, P⟩ := hrel
    by_cases hlt : i < n
    · have hil : i < acts.length := by rw [HLA.out]; exact hlt
      have i0 : (0 : Int) ≤ (i : Int) := by omega
      have i1 : (i : Int) < (n : Int) := by omega
      have i2 : decide ((i : Int) < (n : Int)) = true := decide_eq_true i1
      obtain ⟨ad0, rfl, a0, _⟩ := HA.out _ P.below i hil
      have HACT := Lib.hid (P.act (by omega) acts[i] (HF.out i hil))
      obtain ⟨ac, hac⟩ : ∃ ac, ac = acts[i] := ⟨_, rfl⟩
      rw [← hac] at a0 HACT
      obtain ⟨what, at_, src, dst⟩ := ac
      obtain ⟨d0, d1, d2, d3⟩ := a0
      simp only [Ac.cells] at d0 d1 d2 d3 HACT
      clear hac P
      go_wp2_with fail
      refine HACT.out.mono ?_
      rintro e v1 ⟨b3, g3, c3, gv3, vv3, rfl, P3⟩
      have HP3 := Lib.hid P3
      clear P3 d0 d1 d2 d3
      go_wp2_with fail
      go_roundw
      case rel => exact ⟨i + 1, b3, g3, c3, gv3, vv3, _, rfl, rfl, by go_num, by omega, HP3.out⟩
      case measure => simp [_root_.Go.RowKit.intOf]; omega
    · obtain rfl : i = n := by omega
      have i2 : decide ((i : Int) < (i : Int)) = false := decide_eq_false (by omega)
      have HIS := Lib.hid (is_any b2 g2' gv2 c2 l _ _ P.rep P.wt P.ok.most)
      have HP := Lib.hid P
      have HS1 := Lib.hid (fun V (h : PS w (bx bn) b2 g2' c2 gv2 i vv2 l V) => same_rn _ b2 g2' c2 l V h.non.non h.rep)
      have HS2 := Lib.hid (fun V (h : PS w (bx bn) b2 g2' c2 gv2 i vv2 l V) => same_nr _ b2 g2' c2 l V h.non.non h.rep)
      clear P
      go_wp2_with fail
      refine (hn.out _ _).mono ?_
      rintro e v0 ⟨rfl, rfl⟩
      go_wp2_with fail
      refine HIS.out.mono ?_
      rintro e v1 ⟨rfl, hb⟩
      have HP1 := Lib.hid (HP.out.more hb)
      clear hb
      go_wp2_with fail
      refine (HS1.out _ HP1.out).mono ?_
      rintro e v2 ⟨rfl, rfl⟩
      go_wp2_with fail
      refine (HS2.out _ HP1.out).mono ?_
      rintro e v3 ⟨rfl, rfl⟩
      go_wp2_with fail
      refine (hwk.out _).mono ?_
      rintro e v4 ⟨rfl, hb⟩
      have HFIN := Lib.hid (below0 HP1.out.below hb)
      clear hb
      go_wp2_with fail
      go_ret
      exact ⟨rfl, HFIN.out⟩
set_option maxRecDepth 100000 in
set_option maxHeartbeats 8000000 in
theorem plays_ok0 (acts : List Ac) (A : Option Addr) (n ca : Nat) (many : Nat) (hmany : many ≤ 1024) (w : World) (hA : Acs w acts A) (hl : acts.length = n) (hn60 : n ≤ 60) (hodd : n % 2 = 0) :
    Calls Try.prog 3 #[.int .i64 (many : Int), .slice A n ca] w fun e w' => e = .returned (.bool true) ∧ Below w.heap.size w w' := by
  have hn := Lib.hid (fun n w => num_any n w)
  have hwk := Lib.hid (fun w => works_any w)
  have g0 : decide ((60 : Int) < (n : Int)) = false := decide_eq_false (by omega)
  have g1 : (((n : Int) % 2) == 1) = false := by rw [beq_eq_false_iff_ne]; omega
  have g2 : (((n : Int).tmod 2) == 1) = false := by rw [Int.tmod_eq_emod_of_nonneg (by omega)]; exact g1
  have HA := Lib.hid (fun V (hb : Below w.heap.size w V) i (hi : i < acts.length) => (hA.below hb).at_ i hi)
  have HF := Lib.hid (fun i (hi : i < acts.length) => hA.fits _ (List.getElem_mem hi))
  have HLA := Lib.hid hl
  have HNEW := Lib.hid (new_ok many w hmany)
  have HRN := Lib.hid (fun V => rnew_ok many V hmany)
  have HZ := Lib.hid (zeros_ok hmany)
  obtain ⟨L0, hL0⟩ : ∃ L, L = zeros many := ⟨_, rfl⟩
  rw [← hL0] at HNEW HRN HZ
  clear hL0 hA hl hmany hodd
  go_enter Try.func3, Try.ntmps3
  go_wp2_with fail
  refine HNEW.out.mono ?_
  rintro e w1 ⟨b, g, c, rfl, hb1, hg1, hr1, hB1⟩
  have HR1 := Lib.hid hr1
  have HB1 := Lib.hid hB1
  have HG1 := Lib.hid hg1
  clear hb1 hg1 hr1 hB1 HNEW
  go_wp2_with fail
  refine (HRN.out _).mono ?_
  rintro e w2 ⟨vv, gv, rfl, hgv, hwt, hB2⟩
  have HNR := Lib.hid (show NonR w2 (.pointer none) from .inl rfl)
  have HPS := Lib.hid (show PS w (.pointer none) b g c gv 0 vv L0 w2 from ⟨HR1.out.below hB2, hwt, HNR.out, HZ.out, below0 HB1.out hB2, HG1.out⟩)
  have HNI := Lib.hid (nil_any HNR.out)
  clear hgv hwt hB2
  go_wp2_with fail
  refine (HNI.out.ld _ (Below.refl _ _)).mono ?_
  rintro e u1 ⟨rfl, rfl⟩
  go_wp2_with fail
  refine (HNI.out.sw _ (Below.refl _ _)).mono ?_
  rintro e u2 ⟨rfl, hb2⟩
  have HB2 := Lib.hid hb2
  clear hb2
  go_wp2_with fail
  refine (HNI.out.ct _ HB2.out).mono ?_
  rintro e u3 ⟨rfl, rfl⟩
  go_wp2_with fail
  refine (hn.out _ _).mono ?_
  rintro e u40 ⟨rfl, rfl⟩
  go_wp2_with fail
  refine (hn.out _ _).mono ?_
  rintro e u41 ⟨rfl, rfl⟩
  go_wp2_with fail
  refine (hn.out _ _).mono ?_
  rintro e u42 ⟨rfl, rfl⟩
  go_wp2_with fail
  refine (HNI.out.st _ HB2.out).mono ?_
  rintro e u5 ⟨rfl, hb2⟩
  have HB5 := Lib.hid (below0 HB2.out hb2)
  clear hb2
  go_wp2_with fail
  refine (hn.out _ _).mono ?_
  rintro e u6 ⟨rfl, rfl⟩
  go_wp2_with fail
  refine (HNI.out.ln _ HB5.out).mono ?_
  rintro e u7 ⟨rfl, rfl⟩
  go_wp2_with fail
  refine (HNI.out.al _ HB5.out).mono ?_
  rintro e u8 ⟨A8, c8, rfl, hb2⟩
  have HB8 := Lib.hid (below0 HB5.out hb2)
  clear hb2
  go_wp2_with fail
  refine (HNI.out.cp _ HB8.out).mono ?_
  rintro e u9 ⟨rfl, rfl⟩
  go_wp2_with fail
  refine (HNI.out.sm _ HB8.out).mono ?_
  rintro e u10 ⟨rfl, rfl⟩
  go_wp2_with fail
  have HPS8 := Lib.hid (HPS.out.more HB8.out)
  go_loopw [5, 7, 16] (fun s5 s7 s16 wr => ∃ (i b g c gv : Nat) (vv : Value) (l : Cs), s5 = bx b ∧ vv = s7 ∧ s16 = .int .i64 (i : Int) ∧ i ≤ n ∧ PS w (.pointer none) b g c gv i vv l wr) (fun _ _ s16 _ => n - (_root_.Go.RowKit.intOf s16).toNat)
  case atStart => exact ⟨0, b, g, c, gv, vv, L0, rfl, rfl, rfl, Nat.zero_le _, HPS8.out⟩
  case round =>
    obtain ⟨i, b2, g2', c2, gv2, vv2, l, rfl, rfl, rfl, hi, P⟩ := hrel
    by_cases hlt : i < n
    · have hil : i < acts.length := by rw [HLA.out]; exact hlt
      have i0 : (0 : Int) ≤ (i : Int) := by omega
      have i1 : (i : Int) < (n : Int) := by omega
      have i2 : decide ((i : Int) < (n : Int)) = true := decide_eq_true i1
      obtain ⟨ad0, rfl, a0, _⟩ := HA.out _ P.below i hil
      have HACT := Lib.hid (P.act (by omega) acts[i] (HF.out i hil))
      obtain ⟨ac, hac⟩ : ∃ ac, ac = acts[i] := ⟨_, rfl⟩
      rw [← hac] at a0 HACT
      obtain ⟨what, at_, src, dst⟩ := ac
      obtain ⟨d0, d1, d2, d3⟩ := a0
      simp only [Ac.cells] at d0 d1 d2 d3 HACT
      clear hac P
      go_wp2_with fail
      refine HACT.out.mono ?_
      rintro e v1 ⟨b3, g3, c3, gv3, vv3, rfl, P3⟩
      have HP3 := Lib.hid P3
      clear P3 d0 d1 d2 d3
      go_wp2_with fail
      go_roundw
      case rel => exact ⟨i + 1, b3, g3, c3, gv3, vv3, _, rfl, rfl, by go_num, by omega, HP3.out⟩
      case measure => simp [_root_.Go.RowKit.intOf]; omega
    · obtain rfl : i = n := by omega
      have i2 : decide ((i : Int) < (i : Int)) = false := decide_eq_false (by omega)
      have HIS := Lib.hid (is_any b2 g2' gv2 c2 l _ _ P.rep P.wt P.ok.most)
      have HP := Lib.hid P
      have HS1 := Lib.hid (fun V (h : PS w (.pointer none) b2 g2' c2 gv2 i vv2 l V) => same_rn _ b2 g2' c2 l V h.non.non h.rep)
      have HS2 := Lib.hid (fun V (h : PS w (.pointer none) b2 g2' c2 gv2 i vv2 l V) => same_nr _ b2 g2' c2 l V h.non.non h.rep)
      clear P
      go_wp2_with fail
      refine (hn.out _ _).mono ?_
      rintro e v0 ⟨rfl, rfl⟩
      go_wp2_with fail
      refine HIS.out.mono ?_
      rintro e v1 ⟨rfl, hb⟩
      have HP1 := Lib.hid (HP.out.more hb)
      clear hb
      go_wp2_with fail
      refine (HS1.out _ HP1.out).mono ?_
      rintro e v2 ⟨rfl, rfl⟩
      go_wp2_with fail
      refine (HS2.out _ HP1.out).mono ?_
      rintro e v3 ⟨rfl, rfl⟩
      go_wp2_with fail
      refine (hwk.out _).mono ?_
      rintro e v4 ⟨rfl, hb⟩
      have HFIN := Lib.hid (below0 HP1.out.below hb)
      clear hb
      go_wp2_with fail
      go_ret
      exact ⟨rfl, HFIN.out⟩
set_option maxRecDepth 100000 in
set_option maxHeartbeats 8000000 in
theorem plays_no1 (A : Option Addr) (n ca : Nat) (many : Int) (hmany : many < 0 ∨ 1024 < many) (w : World) (hn60 : n ≤ 60) (hodd : n % 2 = 1) :
    Calls Try.prog 3 #[.int .i64 many, .slice A n ca] w fun e w' => e = .returned (.bool true) ∧ Below w.heap.size w w' := by
  have hn := Lib.hid (fun n w => num_any n w)
  have hwk := Lib.hid (fun w => works_any w)
  have g0 : decide ((60 : Int) < (n : Int)) = false := decide_eq_false (by omega)
  have g1 : (((n : Int) % 2) == 1) = true := by rw [beq_iff_eq]; omega
  have g2 : (((n : Int).tmod 2) == 1) = true := by rw [Int.tmod_eq_emod_of_nonneg (by omega)]; exact g1
  have HNEW := Lib.hid (new_no many w hmany)
  have HRN := Lib.hid (fun V => rnew_no many V hmany)
  clear hmany hodd
  go_enter Try.func3, Try.ntmps3
  go_wp2_with fail
  refine HNEW.out.mono ?_
  rintro e w1 ⟨rfl, rfl⟩
  go_wp2_with fail
  refine (HRN.out _).mono ?_
  rintro e w2 ⟨rfl, rfl⟩
  have hb3 := below1 w (.cells #[.slice none 0 0] 34)
  have HNR := Lib.hid (show NonR (w.alloc (.cells #[.slice none 0 0] 34)) (bx w.heap.size) from .inr ⟨_, rfl, Row.new w _ [.slice none 0 0]⟩)
  have HNI := Lib.hid (nil_any HNR.out)
  obtain ⟨w3, hw3⟩ : ∃ w3, w3 = w.alloc (.cells #[.slice none 0 0] 34) := ⟨_, rfl⟩
  rw [← hw3] at HNI hb3
  obtain ⟨bn, hbn⟩ : ∃ bn, bn = w.heap.size := ⟨_, rfl⟩
  rw [← hbn] at HNI
  have HW3 := Lib.hid hw3
  have HBN := Lib.hid hbn
  have HB3 := Lib.hid hb3
  clear hb3 hw3 hbn HNR
  go_wp2_with fail
  rw [← HW3.out, ← HBN.out]
  refine (HNI.out.ld _ (Below.refl _ _)).mono ?_
  rintro e u1 ⟨rfl, rfl⟩
  go_wp2_with fail
  refine (HNI.out.sw _ (Below.refl _ _)).mono ?_
  rintro e u2 ⟨rfl, hb2⟩
  have HB2 := Lib.hid hb2
  clear hb2
  go_wp2_with fail
  refine (HNI.out.ct _ HB2.out).mono ?_
  rintro e u3 ⟨rfl, rfl⟩
  go_wp2_with fail
  refine (hn.out _ _).mono ?_
  rintro e u40 ⟨rfl, rfl⟩
  go_wp2_with fail
  refine (hn.out _ _).mono ?_
  rintro e u41 ⟨rfl, rfl⟩
  go_wp2_with fail
  refine (hn.out _ _).mono ?_
  rintro e u42 ⟨rfl, rfl⟩
  go_wp2_with fail
  refine (HNI.out.st _ HB2.out).mono ?_
  rintro e u5 ⟨rfl, hb2⟩
  have HB5 := Lib.hid (below0 HB2.out hb2)
  clear hb2
  go_wp2_with fail
  refine (hn.out _ _).mono ?_
  rintro e u6 ⟨rfl, rfl⟩
  go_wp2_with fail
  refine (HNI.out.ln _ HB5.out).mono ?_
  rintro e u7 ⟨rfl, rfl⟩
  go_wp2_with fail
  refine (HNI.out.al _ HB5.out).mono ?_
  rintro e u8 ⟨A8, c8, rfl, hb2⟩
  have HB8 := Lib.hid (below0 HB5.out hb2)
  clear hb2
  go_wp2_with fail
  refine (HNI.out.cp _ HB8.out).mono ?_
  rintro e u9 ⟨rfl, rfl⟩
  go_wp2_with fail
  refine (HNI.out.sm _ HB8.out).mono ?_
  rintro e u10 ⟨rfl, rfl⟩
  go_wp2_with fail
  refine (hn.out _ _).mono ?_
  rintro e v0 ⟨rfl, rfl⟩
  go_wp2_with fail
  refine (hwk.out _).mono ?_
  rintro e v4 ⟨rfl, hb⟩
  have HFIN := Lib.hid (below0 (below0 HB3.out HB8.out) hb)
  clear hb
  go_wp2_with fail
  go_ret
  exact ⟨rfl, HFIN.out⟩
set_option maxRecDepth 100000 in
set_option maxHeartbeats 8000000 in
theorem plays_no0 (A : Option Addr) (n ca : Nat) (many : Int) (hmany : many < 0 ∨ 1024 < many) (w : World) (hn60 : n ≤ 60) (hodd : n % 2 = 0) :
    Calls Try.prog 3 #[.int .i64 many, .slice A n ca] w fun e w' => e = .returned (.bool true) ∧ Below w.heap.size w w' := by
  have hn := Lib.hid (fun n w => num_any n w)
  have hwk := Lib.hid (fun w => works_any w)
  have g0 : decide ((60 : Int) < (n : Int)) = false := decide_eq_false (by omega)
  have g1 : (((n : Int) % 2) == 1) = false := by rw [beq_eq_false_iff_ne]; omega
  have g2 : (((n : Int).tmod 2) == 1) = false := by rw [Int.tmod_eq_emod_of_nonneg (by omega)]; exact g1
  have HNEW := Lib.hid (new_no many w hmany)
  have HRN := Lib.hid (fun V => rnew_no many V hmany)
  clear hmany hodd
  go_enter Try.func3, Try.ntmps3
  go_wp2_with fail
  refine HNEW.out.mono ?_
  rintro e w1 ⟨rfl, rfl⟩
  go_wp2_with fail
  refine (HRN.out _).mono ?_
  rintro e w2 ⟨rfl, rfl⟩
  have HNI := Lib.hid (nil_any (v := .pointer none) (V0 := w) (.inl rfl))
  have HB3 := Lib.hid (Below.refl w.heap.size w)
  go_wp2_with fail
  refine (HNI.out.ld _ (Below.refl _ _)).mono ?_
  rintro e u1 ⟨rfl, rfl⟩
  go_wp2_with fail
  refine (HNI.out.sw _ (Below.refl _ _)).mono ?_
  rintro e u2 ⟨rfl, hb2⟩
  have HB2 := Lib.hid hb2
  clear hb2
  go_wp2_with fail
  refine (HNI.out.ct _ HB2.out).mono ?_
  rintro e u3 ⟨rfl, rfl⟩
  go_wp2_with fail
  refine (hn.out _ _).mono ?_
  rintro e u40 ⟨rfl, rfl⟩
  go_wp2_with fail
  refine (hn.out _ _).mono ?_
  rintro e u41 ⟨rfl, rfl⟩
  go_wp2_with fail
  refine (hn.out _ _).mono ?_
  rintro e u42 ⟨rfl, rfl⟩
  go_wp2_with fail
  refine (HNI.out.st _ HB2.out).mono ?_
  rintro e u5 ⟨rfl, hb2⟩
  have HB5 := Lib.hid (below0 HB2.out hb2)
  clear hb2
  go_wp2_with fail
  refine (hn.out _ _).mono ?_
  rintro e u6 ⟨rfl, rfl⟩
  go_wp2_with fail
  refine (HNI.out.ln _ HB5.out).mono ?_
  rintro e u7 ⟨rfl, rfl⟩
  go_wp2_with fail
  refine (HNI.out.al _ HB5.out).mono ?_
  rintro e u8 ⟨A8, c8, rfl, hb2⟩
  have HB8 := Lib.hid (below0 HB5.out hb2)
  clear hb2
  go_wp2_with fail
  refine (HNI.out.cp _ HB8.out).mono ?_
  rintro e u9 ⟨rfl, rfl⟩
  go_wp2_with fail
  refine (HNI.out.sm _ HB8.out).mono ?_
  rintro e u10 ⟨rfl, rfl⟩
  go_wp2_with fail
  refine (hn.out _ _).mono ?_
  rintro e v0 ⟨rfl, rfl⟩
  go_wp2_with fail
  refine (hwk.out _).mono ?_
  rintro e v4 ⟨rfl, hb⟩
  have HFIN := Lib.hid (below0 (below0 HB3.out HB8.out) hb)
  clear hb
  go_wp2_with fail
  go_ret
  exact ⟨rfl, HFIN.out⟩
theorem plays_more (many : Int) (A : Option Addr) (n ca : Nat) (w : World) (hn60 : 60 < n) : Calls Try.prog 3 #[.int .i64 many, .slice A n ca] w fun e w' => e = .returned (.bool true) ∧ Below w.heap.size w w' := by
  have hwk := Lib.hid (fun w => works_any w)
  have g0 : decide ((60 : Int) < (n : Int)) = true := decide_eq_true (by omega)
  go_enter Try.func3, Try.ntmps3
  go_wp2_with fail
  refine (hwk.out _).mono ?_
  rintro e v4 ⟨rfl, hb⟩
  have HFIN := Lib.hid hb
  clear hb
  go_wp2_with fail
  go_ret
  exact ⟨rfl, HFIN.out⟩
theorem cellPlays_any (acts : List Ac) (A : Option Addr) (n ca : Nat) (many : Int) (w : World) (hA : Acs w acts A) (hl : acts.length = n) :
    Calls Try.prog 3 #[.int .i64 many, .slice A n ca] w fun e w' => e = .returned (.bool true) ∧ Below w.heap.size w w' := by
  by_cases h60 : n ≤ 60
  · by_cases hm : many < 0 ∨ 1024 < many
    · rcases (show n % 2 = 0 ∨ n % 2 = 1 by omega) with h | h
      · exact plays_no0 A n ca many hm w h60 h
      · exact plays_no1 A n ca many hm w h60 h
    · obtain ⟨M, rfl⟩ : ∃ M : Nat, many = M := ⟨many.toNat, by omega⟩
      rcases (show n % 2 = 0 ∨ n % 2 = 1 by omega) with h | h
      · exact plays_ok0 acts A n ca M (by omega) w hA hl h60 h
      · exact plays_ok1 acts A n ca M (by omega) w hA hl h60 h
  · exact plays_more many A n ca w (by omega)
end Go.Proofs.Ytijgkjliienjhaa
