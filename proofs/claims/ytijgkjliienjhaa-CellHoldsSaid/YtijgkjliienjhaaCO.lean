import Derived.Test.YtijgkjliienjhaaCN
import Derived.Test.YtijgkjliienjhaaCI
namespace Go.Proofs.Ytijgkjliienjhaa
open Go.RowKit Go.Shelf
attribute [local go_sem] Oper.semAt_some

/- CELLHOLDS: OF SEVERAL SWAPS FROM ONE WORD JUST THE FIRST IS DONE; AS LONG AS THE COUNT STAYS, SO DOES THE WORD. -/
def wordAt (l : Cs) (k : Nat) : Nat := (l.getD k (0, 0)).1
def countAt (l : Cs) (k : Nat) : Nat := (l.getD k (0, 0)).2
theorem Run.swap2 {w W : World} {b g c m k x n : Nat} {l : Cs} {d : Bool} (h : Run w b g c m l W) (hk : k < l.length) (hm : m < 1000000) (hn : n < 18446744073709551616) (hnx : n ≠ x) (h0 : d = false → wordAt l k = x) (h1 : d = true → wordAt l k ≠ x) :
    Calls Try.prog 10 #[bx b, .int .i64 (k : Int), .int .u64 (x : Int), .int .u64 (n : Int)] W fun e w' => ∃ l', e = .returned (.tuple #[.bool (!d), .int .i64 0]) ∧ Run w b g c (m + 1) l' w' ∧ Hid (l'.length = l.length) ∧ Hid (wordAt l' k ≠ x) := by
  have e : l.getD k (0, 0) = l[k] := by simp [hk]
  unfold wordAt at h0 h1
  rw [e] at h0 h1
  cases d
  · refine (h.swapY hk (h0 rfl) hm hn).mono fun _ _ ⟨e1, h2⟩ => ⟨_, e1, h2, put_len _ _ _, ?_⟩
    show (Go.Proofs.Ytijgkjliienjhaa.put l k n |>.getD k (0, 0)).1 ≠ x
    rw [put_at hk]
    simp [hk, hnx]
  · refine (h.swapN (n := n) hk (h1 rfl)).mono fun _ _ ⟨e1, h2⟩ => ⟨_, e1, h2.up (by omega), rfl, ?_⟩
    show (l.getD k (0, 0)).1 ≠ x
    rw [e]
    exact h1 rfl
set_option maxRecDepth 100000 in
set_option maxHeartbeats 8000000 in
theorem holds_main (acts : List Ac) (A : Option Addr) (n ca k : Nat) (ws : List Nat) (B : Option Addr) (m cb : Nat) (w : World) (hA : Acs w acts A) (hl : acts.length = n) (hn40 : n ≤ 40) (hk6 : k < 6) (hB : Sees w w.heap.size B (wds ws)) (hm : ws.length = m) (hm10 : m ≤ 10) (hw64 : ∀ x ∈ ws, x < 18446744073709551616) :
    Calls Try.prog 5 #[.slice A n ca, .int .i64 (k : Int), .slice B m cb] w fun e w' => e = .returned (.bool true) ∧ Below w.heap.size w w' := by
  have HA := Lib.hid (fun V (hb : Below w.heap.size w V) i (hi : i < acts.length) => (hA.below hb).at_ i hi)
  have HF := Lib.hid (fun i (hi : i < acts.length) => hA.fits _ (List.getElem_mem hi))
  have HLA := Lib.hid hl
  have HLW := Lib.hid hm
  have HB := Lib.hid (fun V (hb : Below w.heap.size w V) i (hi : i < ws.length) => (show ∃ ad, B = some ad ∧ V.cell? (ad.add i) = some (.int .u64 (ws[i] : Int)) from by
    obtain ⟨ad, e, _, hc⟩ := ((hB.below hb).more hb.size).at_ (k := i) (by rw [wds_len]; exact hi)
    have e1 := wds_get ws hi
    rw [List.getElem?_eq_getElem (by rw [wds_len]; exact hi)] at e1
    rw [Option.some.inj e1] at hc
    exact ⟨ad, e, hc⟩))
  have H64 := Lib.hid (fun i (hi : i < ws.length) => hw64 _ (List.getElem_mem hi))
  have hn := Lib.hid (fun n w => num_any n w)
  have hwk := Lib.hid (fun w => works_any w)
  have HNEW := Lib.hid (Run.new w w (Below.refl _ _) 6 (by omega))
  have HZ := Lib.hid (zeros_len 6)
  obtain ⟨L0, hL0⟩ : ∃ L, L = zeros 6 := ⟨_, rfl⟩
  rw [← hL0] at HNEW HZ
  have g0 : decide ((40 : Int) < (n : Int)) = false := decide_eq_false (by omega)
  have g1 : decide ((10 : Int) < (m : Int)) = false := decide_eq_false (by omega)
  have g2 : decide ((k : Int) < 0) = false := decide_eq_false (by omega)
  have g3 : decide ((5 : Int) < (k : Int)) = false := decide_eq_false (by omega)
  clear hL0 hA hB hl hm hw64
  go_enter Try.func5, Try.ntmps5
  go_wp2_with fail
  refine HNEW.out.mono ?_
  rintro e w1 ⟨b, g, c, rfl, R0⟩
  have HR0 := Lib.hid R0
  clear R0 HNEW
  go_wp2_with fail
  refine (hn.out _ _).mono ?_
  rintro e w1' ⟨rfl, rfl⟩
  go_wp2_with fail
  go_loopw [9] (fun t wr => ∃ (i : Nat) (l : Cs), t = .int .i64 (i : Int) ∧ i ≤ n ∧ Run w b g c i l wr ∧ Hid (l.length = 6)) (fun t _ => n - (_root_.Go.RowKit.intOf t).toNat)
  case atStart => exact ⟨0, L0, rfl, Nat.zero_le _, HR0.out, HZ⟩
  case round =>
    obtain ⟨i, l, rfl, hi, R, hl6⟩ := hrel
    by_cases hlt : i < n
    · have hil : i < acts.length := by rw [HLA.out]; exact hlt
      have i0 : (0 : Int) ≤ (i : Int) := by omega
      have i1 : (i : Int) < (n : Int) := by omega
      have i2 : decide ((i : Int) < (n : Int)) = true := decide_eq_true i1
      have hk2 : k < l.length := by rw [hl6.out]; exact hk6
      obtain ⟨ad0, rfl, a0, a1⟩ := HA.out wr R.below i hil
      obtain ⟨ad, had⟩ : ∃ ad, ad = ad0.add (i * 4) := ⟨_, rfl⟩
      have hfit := HF.out i hil
      obtain ⟨ac, hac⟩ : ∃ ac, ac = acts[i] := ⟨_, rfl⟩
      rw [← had, ← hac] at a0 a1
      rw [← hac] at hfit
      have HAD := Lib.hid had
      have HAC := Lib.hid hac
      have HAT := Lib.hid a1
      have HFT := Lib.hid hfit
      have HL1 := Lib.hid (R.load hk2)
      have HC1 := Lib.hid (R.count hk2)
      obtain ⟨x1, hx1⟩ : ∃ x, x = (l.getD k (0, 0)).1 := ⟨_, rfl⟩
      obtain ⟨y1, hy1⟩ : ∃ y, y = (l.getD k (0, 0)).2 := ⟨_, rfl⟩
      rw [← hx1] at HL1
      rw [← hy1] at HC1
      have HUPX : Hid (∀ l2 : Cs, Up l l2 k → y1 ≤ (l2.getD k (0, 0)).2 ∧ ((l2.getD k (0, 0)).2 = y1 → (l2.getD k (0, 0)).1 = x1)) := Lib.hid (fun l2 hu => by rw [hx1, hy1]; exact ⟨hu.le, hu.eq⟩)
      have c0 := a0.c0
      have HR := Lib.hid R
      obtain ⟨what, at_, src, dst⟩ := ac
      simp only at c0
      rw [had] at c0
      clear hx1 hy1 hac a0 a1 hfit R had hk2
      by_cases hw0 : what = 0
      · subst hw0
        have AT := HAT.out _ (Below.refl _ _)
        rw [HAD.out] at AT
        have c1 := AT.c1
        have c3 := AT.c3
        simp only at c1 c3
        have HS := Lib.hid (HR.out.drew.store at_ (by omega) HFT.out.2.2)
        have HAT3 : Hid (∀ V, Below w.heap.size w V → AtAc V (ad0.add (i * 4)) ⟨0, at_, src, dst⟩) := Lib.hid (fun V hb => by
          obtain ⟨ad5, e5, a5, _⟩ := HA.out V hb i hil
          obtain rfl := Option.some.inj e5
          rw [← HAC.out] at a5
          exact a5)
        have HUPP := Lib.hid (store_up l at_ dst k)
        have HLL := Lib.hid (storeL_len l at_ dst)
        obtain ⟨l2, hle2⟩ : ∃ l2, l2 = storeL l at_ dst := ⟨_, rfl⟩
        rw [← hle2] at HS HUPP HLL
        clear hle2
        go_wp2_with fail
        refine HL1.out.mono ?_
        rintro e v0 ⟨rfl, rfl⟩
        go_wp2_with fail
        refine HC1.out.mono ?_
        rintro e v1 ⟨rfl, rfl⟩
        go_wp2_with fail
        go_region_held3 (fun W => W.cell? ⟨(ad0.add (i * 4)).block, (ad0.add (i * 4)).off + 1, none⟩ = some (.int .i64 at_) ∧ W.cell? ⟨(ad0.add (i * 4)).block, (ad0.add (i * 4)).off + 3, none⟩ = some (.int .u64 (dst : Int))) (first | go_keep | trivial)
          (first | (go_at_call 13; refine (HS.out).mono ?_; rintro e w2 ⟨rfl, R2⟩; have AT2 := HAT3.out _ R2.below; have c1' := AT2.c1; have c3' := AT2.c3; simp only at c1' c3'; have hlast := Lib.hid R2; clear R2 AT2))
        have R2 := hlast.out
        have hup := HUPP.out
        have hl2 : Hid (l2.length = 6) := Lib.hid (by rw [HLL.out, hl6.out])
        clear hlast
        have HUP := Lib.hid (HUPX.out _ hup)
        have hk3 : k < List.length l2 := by rw [hl2.out]; exact hk6
        have HL3 := Lib.hid (R2.load hk3)
        have HC3 := Lib.hid (R2.count hk3)
        obtain ⟨x2, hx2⟩ : ∃ x, x = (l2.getD k (0, 0)).1 := ⟨_, rfl⟩
        obtain ⟨y2, hy2⟩ : ∃ y, y = (l2.getD k (0, 0)).2 := ⟨_, rfl⟩
        rw [← hx2] at HL3
        rw [← hy2] at HC3
        rw [← hx2, ← hy2] at HUP
        have HR2 := Lib.hid R2
        have hlt2 := HUP.out.1
        have d1 : decide ((y2 : Int) < (y1 : Int)) = false := decide_eq_false (by omega)
        clear hup hx2 hy2 hk3 R2
        by_cases he : y2 = y1
        · have hxx := HUP.out.2 he
          subst he
          subst hxx
          have d2 : ((y2 : Int) == (y2 : Int)) = true := by simp
          have d3 : ((x2 : Int) != (x2 : Int)) = false := by simp
          go_wp2_with fail
          refine HL3.out.mono ?_
          rintro e v2 ⟨rfl, rfl⟩
          go_wp2_with fail
          refine HC3.out.mono ?_
          rintro e v3 ⟨rfl, rfl⟩
          go_wp2_with fail
          refine (hn.out _ _).mono ?_
          rintro e u0 ⟨rfl, rfl⟩
          go_wp2_with fail
          refine (hn.out _ _).mono ?_
          rintro e u1 ⟨rfl, rfl⟩
          go_wp2_with fail
          refine (hn.out _ _).mono ?_
          rintro e u2 ⟨rfl, rfl⟩
          go_wp2_with fail
          refine (hn.out _ _).mono ?_
          rintro e u3 ⟨rfl, rfl⟩
          go_wp2_with fail
          go_roundw
          case rel => exact ⟨i + 1, l2, by go_num, by omega, HR2.out, hl2⟩
          case measure => simp [_root_.Go.RowKit.intOf]; omega
        · have d2 : ((y2 : Int) == (y1 : Int)) = false := beq_eq_false_iff_ne.2 (by omega)
          clear he
          go_wp2_with fail
          refine HL3.out.mono ?_
          rintro e v2 ⟨rfl, rfl⟩
          go_wp2_with fail
          refine HC3.out.mono ?_
          rintro e v3 ⟨rfl, rfl⟩
          go_wp2_with fail
          refine (hn.out _ _).mono ?_
          rintro e u0 ⟨rfl, rfl⟩
          go_wp2_with fail
          refine (hn.out _ _).mono ?_
          rintro e u1 ⟨rfl, rfl⟩
          go_wp2_with fail
          refine (hn.out _ _).mono ?_
          rintro e u2 ⟨rfl, rfl⟩
          go_wp2_with fail
          refine (hn.out _ _).mono ?_
          rintro e u3 ⟨rfl, rfl⟩
          go_wp2_with fail
          go_roundw
          case rel => exact ⟨i + 1, l2, by go_num, by omega, HR2.out, hl2⟩
          case measure => simp [_root_.Go.RowKit.intOf]; omega
      · by_cases hw1 : what = 1
        · subst hw1
          have AT := HAT.out _ (Below.refl _ _)
          rw [HAD.out] at AT
          have c1 := AT.c1
          have c2 := AT.c2
          have c3 := AT.c3
          simp only at c1 c2 c3
          have HS := Lib.hid (HR.out.drew.swap at_ src (by omega) HFT.out.2.2)
          have HAT3 : Hid (∀ V, Below w.heap.size w V → AtAc V (ad0.add (i * 4)) ⟨1, at_, src, dst⟩) := Lib.hid (fun V hb => by
            obtain ⟨ad5, e5, a5, _⟩ := HA.out V hb i hil
            obtain rfl := Option.some.inj e5
            rw [← HAC.out] at a5
            exact a5)
          have HUPP := Lib.hid (swap_up l at_ src dst k)
          have HLL := Lib.hid (swapL_len l at_ src dst)
          obtain ⟨l2, hle2⟩ : ∃ l2, l2 = swapL l at_ src dst := ⟨_, rfl⟩
          rw [← hle2] at HS HUPP HLL
          clear hle2
          go_wp2_with fail
          refine HL1.out.mono ?_
          rintro e v0 ⟨rfl, rfl⟩
          go_wp2_with fail
          refine HC1.out.mono ?_
          rintro e v1 ⟨rfl, rfl⟩
          go_wp2_with fail
          go_region_held3 (fun W => W.cell? ⟨(ad0.add (i * 4)).block, (ad0.add (i * 4)).off + 1, none⟩ = some (.int .i64 at_) ∧ W.cell? ⟨(ad0.add (i * 4)).block, (ad0.add (i * 4)).off + 2, none⟩ = some (.int .u64 (src : Int)) ∧ W.cell? ⟨(ad0.add (i * 4)).block, (ad0.add (i * 4)).off + 3, none⟩ = some (.int .u64 (dst : Int))) (first | go_keep | trivial)
            (first | (go_at_call 10; refine (HS.out).mono ?_; rintro e w2 ⟨rfl, R2⟩; have AT2 := HAT3.out _ R2.below; have c1' := AT2.c1; have c2' := AT2.c2; have c3' := AT2.c3; simp only at c1' c2' c3'; have hlast := Lib.hid R2; clear R2 AT2))
          have R2 := hlast.out
          have hup := HUPP.out
          have hl2 : Hid (l2.length = 6) := Lib.hid (by rw [HLL.out, hl6.out])
          clear hlast
          have HUP := Lib.hid (HUPX.out _ hup)
          have hk3 : k < List.length l2 := by rw [hl2.out]; exact hk6
          have HL3 := Lib.hid (R2.load hk3)
          have HC3 := Lib.hid (R2.count hk3)
          obtain ⟨x2, hx2⟩ : ∃ x, x = (l2.getD k (0, 0)).1 := ⟨_, rfl⟩
          obtain ⟨y2, hy2⟩ : ∃ y, y = (l2.getD k (0, 0)).2 := ⟨_, rfl⟩
          rw [← hx2] at HL3
          rw [← hy2] at HC3
          rw [← hx2, ← hy2] at HUP
          have HR2 := Lib.hid R2
          have hlt2 := HUP.out.1
          have d1 : decide ((y2 : Int) < (y1 : Int)) = false := decide_eq_false (by omega)
          clear hup hx2 hy2 hk3 R2
          by_cases he : y2 = y1
          · have hxx := HUP.out.2 he
            subst he
            subst hxx
            have d2 : ((y2 : Int) == (y2 : Int)) = true := by simp
            have d3 : ((x2 : Int) != (x2 : Int)) = false := by simp
            go_wp2_with fail
            refine HL3.out.mono ?_
            rintro e v2 ⟨rfl, rfl⟩
            go_wp2_with fail
            refine HC3.out.mono ?_
            rintro e v3 ⟨rfl, rfl⟩
            go_wp2_with fail
            refine (hn.out _ _).mono ?_
            rintro e u0 ⟨rfl, rfl⟩
            go_wp2_with fail
            refine (hn.out _ _).mono ?_
            rintro e u1 ⟨rfl, rfl⟩
            go_wp2_with fail
            refine (hn.out _ _).mono ?_
            rintro e u2 ⟨rfl, rfl⟩
            go_wp2_with fail
            refine (hn.out _ _).mono ?_
            rintro e u3 ⟨rfl, rfl⟩
            go_wp2_with fail
            go_roundw
            case rel => exact ⟨i + 1, l2, by go_num, by omega, HR2.out, hl2⟩
            case measure => simp [_root_.Go.RowKit.intOf]; omega
          · have d2 : ((y2 : Int) == (y1 : Int)) = false := beq_eq_false_iff_ne.2 (by omega)
            clear he
            go_wp2_with fail
            refine HL3.out.mono ?_
            rintro e v2 ⟨rfl, rfl⟩
            go_wp2_with fail
            refine HC3.out.mono ?_
            rintro e v3 ⟨rfl, rfl⟩
            go_wp2_with fail
            refine (hn.out _ _).mono ?_
            rintro e u0 ⟨rfl, rfl⟩
            go_wp2_with fail
            refine (hn.out _ _).mono ?_
            rintro e u1 ⟨rfl, rfl⟩
            go_wp2_with fail
            refine (hn.out _ _).mono ?_
            rintro e u2 ⟨rfl, rfl⟩
            go_wp2_with fail
            refine (hn.out _ _).mono ?_
            rintro e u3 ⟨rfl, rfl⟩
            go_wp2_with fail
            go_roundw
            case rel => exact ⟨i + 1, l2, by go_num, by omega, HR2.out, hl2⟩
            case measure => simp [_root_.Go.RowKit.intOf]; omega
        · have e0 : (what == (0 : Int)) = false := beq_eq_false_iff_ne.2 hw0
          have e1 : (what == (1 : Int)) = false := beq_eq_false_iff_ne.2 hw1
          clear hw0 hw1
          go_wp2_with fail
          refine HL1.out.mono ?_
          rintro e v0 ⟨rfl, rfl⟩
          go_wp2_with fail
          refine HC1.out.mono ?_
          rintro e v1 ⟨rfl, rfl⟩
          go_wp2_with fail
          obtain ⟨l2, hle2⟩ : ∃ l2, l2 = l := ⟨_, rfl⟩
          have hup : Up l l2 k := hle2 ▸ Up.refl l k
          have hl2 : Hid (l2.length = 6) := hle2 ▸ hl6
          have R2 := hle2 ▸ HR.out.up (m' := i + 1) (by omega)
          clear hle2
          have HUP := Lib.hid (HUPX.out _ hup)
          have hk3 : k < List.length l2 := by rw [hl2.out]; exact hk6
          have HL3 := Lib.hid (R2.load hk3)
          have HC3 := Lib.hid (R2.count hk3)
          obtain ⟨x2, hx2⟩ : ∃ x, x = (l2.getD k (0, 0)).1 := ⟨_, rfl⟩
          obtain ⟨y2, hy2⟩ : ∃ y, y = (l2.getD k (0, 0)).2 := ⟨_, rfl⟩
          rw [← hx2] at HL3
          rw [← hy2] at HC3
          rw [← hx2, ← hy2] at HUP
          have HR2 := Lib.hid R2
          have hlt2 := HUP.out.1
          have d1 : decide ((y2 : Int) < (y1 : Int)) = false := decide_eq_false (by omega)
          clear hup hx2 hy2 hk3 R2
          by_cases he : y2 = y1
          · have hxx := HUP.out.2 he
            subst he
            subst hxx
            have d2 : ((y2 : Int) == (y2 : Int)) = true := by simp
            have d3 : ((x2 : Int) != (x2 : Int)) = false := by simp
            go_wp2_with fail
            refine HL3.out.mono ?_
            rintro e v2 ⟨rfl, rfl⟩
            go_wp2_with fail
            refine HC3.out.mono ?_
            rintro e v3 ⟨rfl, rfl⟩
            go_wp2_with fail
            refine (hn.out _ _).mono ?_
            rintro e u0 ⟨rfl, rfl⟩
            go_wp2_with fail
            refine (hn.out _ _).mono ?_
            rintro e u1 ⟨rfl, rfl⟩
            go_wp2_with fail
            refine (hn.out _ _).mono ?_
            rintro e u2 ⟨rfl, rfl⟩
            go_wp2_with fail
            refine (hn.out _ _).mono ?_
            rintro e u3 ⟨rfl, rfl⟩
            go_wp2_with fail
            go_roundw
            case rel => exact ⟨i + 1, l2, by go_num, by omega, HR2.out, hl2⟩
            case measure => simp [_root_.Go.RowKit.intOf]; omega
          · have d2 : ((y2 : Int) == (y1 : Int)) = false := beq_eq_false_iff_ne.2 (by omega)
            clear he
            go_wp2_with fail
            refine HL3.out.mono ?_
            rintro e v2 ⟨rfl, rfl⟩
            go_wp2_with fail
            refine HC3.out.mono ?_
            rintro e v3 ⟨rfl, rfl⟩
            go_wp2_with fail
            refine (hn.out _ _).mono ?_
            rintro e u0 ⟨rfl, rfl⟩
            go_wp2_with fail
            refine (hn.out _ _).mono ?_
            rintro e u1 ⟨rfl, rfl⟩
            go_wp2_with fail
            refine (hn.out _ _).mono ?_
            rintro e u2 ⟨rfl, rfl⟩
            go_wp2_with fail
            refine (hn.out _ _).mono ?_
            rintro e u3 ⟨rfl, rfl⟩
            go_wp2_with fail
            go_roundw
            case rel => exact ⟨i + 1, l2, by go_num, by omega, HR2.out, hl2⟩
            case measure => simp [_root_.Go.RowKit.intOf]; omega
    · obtain rfl : i = n := by omega
      have i2 : decide ((i : Int) < (i : Int)) = false := decide_eq_false (by omega)
      have hk2 : k < l.length := by rw [hl6.out]; exact hk6
      have HL1 := Lib.hid (R.load hk2)
      have HXX : Hid (wordAt l k = (l.getD k (0, 0)).1) := Lib.hid rfl
      obtain ⟨x1, hx1⟩ : ∃ x, x = (l.getD k (0, 0)).1 := ⟨_, rfl⟩
      rw [← hx1] at HL1 HXX
      have HR := Lib.hid (R.up (m' := 40) (by omega))
      clear hx1 R hk2
      go_wp2_with fail
      refine HL1.out.mono ?_
      rintro e v2 ⟨rfl, rfl⟩
      go_wp2_with fail
      go_loopw [20, 21] (fun s t wr => ∃ (j : Nat) (l : Cs) (d : Bool), s = .bool d ∧ t = .int .i64 (j : Int) ∧ j ≤ m ∧ Run w b g c (40 + j) l wr ∧ Hid (l.length = 6) ∧ Hid ((d = false → wordAt l k = x1) ∧ (d = true → wordAt l k ≠ x1))) (fun _ t _ => m - (_root_.Go.RowKit.intOf t).toNat)
      case atStart => exact ⟨0, l, false, rfl, rfl, Nat.zero_le _, HR.out, hl6, Lib.hid ⟨fun _ => HXX.out, fun h => by cases h⟩⟩
      case round =>
        obtain ⟨j, l3, d, rfl, rfl, hj, R, hl3, hD⟩ := hrel
        by_cases hlt2 : j < m
        · have hjl : j < ws.length := by rw [HLW.out]; exact hlt2
          have j0 : (0 : Int) ≤ (j : Int) := by omega
          have j1 : (j : Int) < (m : Int) := by omega
          have j2 : decide ((j : Int) < (m : Int)) = true := decide_eq_true j1
          have hk2 : k < l3.length := by rw [hl3.out]; exact hk6
          obtain ⟨ad, rfl, c0⟩ := HB.out wr R.below j hjl
          have hx64 := H64.out j hjl
          obtain ⟨x, hx⟩ : ∃ x, x = ws[j] := ⟨_, rfl⟩
          rw [← hx] at c0 hx64
          clear hx
          by_cases he : x = x1
          · subst he
            have e1 : ((x : Int) == (x : Int)) = true := by simp
            have HR := Lib.hid (R.up (m' := 40 + (j + 1)) (by omega))
            clear R hk2
            go_wp2_with fail
            go_roundw
            case rel => exact ⟨j + 1, l3, d, rfl, by go_num, by omega, HR.out, hl3, hD⟩
            case measure => simp [_root_.Go.RowKit.intOf]; omega
          · have e1 : ((x : Int) == (x1 : Int)) = false := beq_eq_false_iff_ne.2 (by omega)
            have HS := Lib.hid (R.swap2 (d := d) hk2 (by omega) hx64 he hD.out.1 hD.out.2)
            clear R hk2 he hD hx64
            cases d
            all_goals
              go_wp2_with fail
              refine HS.out.mono ?_
              rintro e v4 ⟨l4, rfl, R4, hl4, hne⟩
              have HR4 := Lib.hid R4
              clear R4
              go_wp2_with fail
              refine (hn.out _ _).mono ?_
              rintro e v5 ⟨rfl, rfl⟩
              go_wp2_with fail
              go_roundw
              case rel => exact ⟨j + 1, l4, true, rfl, by go_num, by omega, HR4.out, Lib.hid (by rw [hl4.out, hl3.out]), Lib.hid (by simpa using hne.out)⟩
              case measure => simp [_root_.Go.RowKit.intOf]; omega
        · obtain rfl : j = m := by omega
          have j2 : decide ((j : Int) < (j : Int)) = false := decide_eq_false (by omega)
          have HB5 := Lib.hid R.below
          clear R
          go_wp2_with fail
          refine (hn.out _ _).mono ?_
          rintro e v5 ⟨rfl, rfl⟩
          go_wp2_with fail
          refine (hwk.out _).mono ?_
          rintro e v6 ⟨rfl, hb6⟩
          have HB6 := Lib.hid (below0 HB5.out hb6)
          clear hb6
          go_wp2_with fail
          go_ret
          exact ⟨rfl, HB6.out⟩
end Go.Proofs.Ytijgkjliienjhaa
