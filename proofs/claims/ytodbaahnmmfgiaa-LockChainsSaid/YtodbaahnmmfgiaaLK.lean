import Derived.Test.YtodbaahnmmfgiaaLJ
namespace Go.Proofs.Ytodbaahnmmfgiaa.Lk
open Go.RowKit Go.Shelf
attribute [local go_sem] Oper.semAt_some

/- DO LOCKS STAND AS THE DOCUMENT's? -/
set_option maxRecDepth 100000 in
set_option maxHeartbeats 8000000 in
theorem is_any {Has : HasT} {gf : Nat} (HA : ApiA Has gf) {v vv : Value} {l : Ls} {F : Nat → Prop} {w : World} (h : Has w v l F) (hv : Wi w vv l) :
    Calls Try.prog 13 #[v, vv] w fun e w' => e = .returned (.bool true) ∧ Below w.heap.size w w' := by
  obtain ⟨ad, rfl⟩ := HA.api.ptr h
  have hmost := HA.api.most h
  have HH := Lib.hid (fun V (hb : Below w.heap.size w V) r (hr : i64 r) => HA.api.holder r (HA.api.below h hb) hr)
  have HD := Lib.hid (fun V (hb : Below w.heap.size w V) t (ht : i64 t) => HA.api.held t (HA.api.below h hb) ht)
  have HRD := Lib.hid (fun V (hb : Below w.heap.size w V) t => rheld_wi l vv t V hmost (hv.below hb))
  have HAL := Lib.hid (fun V (hb : Below w.heap.size w V) => all_any HA (HA.api.below h hb))
  have HSM := Lib.hid (fun V (hb : Below w.heap.size w V) u (hu : Wi V u l) => (show Calls Try.prog 17 #[u, vv] V (fun e V' => e = .returned (.bool true) ∧ Below V.heap.size V V') from by
    have := rsame_wi l l u vv V hmost hu (hv.below hb)
    simpa using this))
  have HS2 := Lib.hid (fun (V : World) u u' t (h1 : Wi V u (hz (Lk.held l t))) (h2 : Wi V u' (hz (Lk.held l t))) => (show Calls Try.prog 17 #[u, u'] V (fun e V' => e = .returned (.bool true) ∧ Below V.heap.size V V') from by
    have := rsame_wi _ _ u u' V (by rw [hz_len]; exact Nat.le_trans (held_len l t) hmost) h1 h2
    simpa using this))
  have HLC := Lib.hid (fun V (hb : Below w.heap.size w V) => (hv.below hb).sees)
  obtain ⟨A, c, rfl, _, hs0⟩ := hv.sees
  have HC := Lib.hid (fun V (hb : Below w.heap.size w V) i (hi : i < l.length) => (show ∃ bd, A = some bd ∧ V.cell? (bd.add i) = some (.int .i64 l[i]) from by
    obtain ⟨bd, e, _, hc⟩ := sees_int ((hs0.below hb).more hb.size) hi
    exact ⟨bd, e, hc⟩))
  obtain ⟨n, hn⟩ : ∃ n, n = l.length := ⟨_, rfl⟩
  have HN := Lib.hid hn
  rw [← hn] at HRD HAL HSM hmost ⊢
  clear h hv hs0 hn HLC
  go_enter Try.func13, Try.ntmps13
  go_wp2_with fail
  go_loopw [5] (fun s5 wr => ∃ r : Int, s5 = .int .i64 r ∧ -1 ≤ r ∧ r ≤ n + 1 ∧ Below w.heap.size w wr) (fun s5 _ => ((n : Int) + 1 - _root_.Go.RowKit.intOf s5).toNat)
  case atStart => exact ⟨-1, rfl, by omega, by omega, Below.refl _ _⟩
  case round =>
    obtain ⟨r, rfl, hr1, hr2, hb⟩ := hrel
    by_cases hle : r ≤ n
    · have f0 : decide (r ≤ (n : Int)) = true := decide_eq_true hle
      have ew : IntKind.i64.wrap (r + 1) = r + 1 := wrapI _ (by omega) (by omega)
      have HHO := Lib.hid (HH.out wr hb r (by unfold i64; omega))
      have HB := Lib.hid hb
      by_cases hr0 : r < 0
      · have f1 : decide (r < 0) = true := decide_eq_true hr0
        have hq : holdsAt l r = false := by unfold holdsAt; rw [decide_eq_false (by omega)]; rfl
        rw [hq] at HHO
        clear hb hq
        go_wp2_with fail
        refine HHO.out.mono ?_
        rintro e w2 ⟨rfl, hb⟩
        have HB2 := Lib.hid (below0 HB.out hb)
        clear hb
        go_wp2_with fail
        go_roundw
        case rel => exact ⟨r + 1, rfl, by omega, by omega, HB2.out⟩
        case measure => simp [_root_.Go.RowKit.intOf]; omega
      · obtain ⟨k, rfl⟩ : ∃ k : Nat, r = k := ⟨r.toNat, by omega⟩
        have f1 : decide ((k : Int) < 0) = false := decide_eq_false hr0
        by_cases hkn : k < n
        · have f2 : decide ((n : Int) ≤ (k : Int)) = false := decide_eq_false (by omega)
          have f3 : decide (n ≤ k) = false := decide_eq_false (by omega)
          have hkl : k < l.length := by rw [← HN.out]; exact hkn
          have hgd : l.getD (k : Int).toNat (-1) = l[k] := by rw [Int.toNat_natCast]; simp [hkl]
          have hq : holdsAt l (k : Int) = decide (0 ≤ l[k]) := by unfold holdsAt; rw [hgd, decide_eq_true (by omega)]; rfl
          rw [hq, hgd] at HHO
          have HCC := Lib.hid (fun V hb => HC.out V hb k hkl)
          obtain ⟨x, hx⟩ : ∃ x, x = l[k] := ⟨_, rfl⟩
          rw [← hx] at HHO HCC
          have j0 : (0 : Int) ≤ (k : Int) := by omega
          have j1 : (k : Int) < (n : Int) := by omega
          clear hq hgd hx hb hle
          by_cases hx0 : 0 ≤ x
          · have g1 : decide (x < 0) = false := decide_eq_false (by omega)
            have g2 : decide (0 ≤ x) = true := decide_eq_true hx0
            rw [g2] at HHO
            have g3 : (x != x) = false := by simp
            simp only [if_true] at HHO
            clear hx0
            go_wp2_with fail
            refine HHO.out.mono ?_
            rintro e w2 ⟨rfl, hb⟩
            obtain ⟨bd, rfl, hc⟩ := HCC.out _ (below0 HB.out hb)
            have HB2 := Lib.hid (below0 HB.out hb)
            clear hb
            go_wp2_with fail
            go_roundw
            case rel => exact ⟨(k : Int) + 1, rfl, by omega, by omega, HB2.out⟩
            case measure => simp [_root_.Go.RowKit.intOf]; omega
          · have g1 : decide (x < 0) = true := decide_eq_true (by omega)
            have g2 : decide (0 ≤ x) = false := decide_eq_false hx0
            rw [g2] at HHO
            simp only [Bool.false_eq_true, if_false] at HHO
            clear hx0
            go_wp2_with fail
            refine HHO.out.mono ?_
            rintro e w2 ⟨rfl, hb⟩
            obtain ⟨bd, rfl, hc⟩ := HCC.out _ (below0 HB.out hb)
            have HB2 := Lib.hid (below0 HB.out hb)
            clear hb
            go_wp2_with fail
            go_roundw
            case rel => exact ⟨(k : Int) + 1, rfl, by omega, by omega, HB2.out⟩
            case measure => simp [_root_.Go.RowKit.intOf]; omega
        · have f2 : decide ((n : Int) ≤ (k : Int)) = true := decide_eq_true (by omega)
          have f3 : decide (n ≤ k) = true := decide_eq_true (by omega)
          have hq : holdsAt l (k : Int) = false := by unfold holdsAt; rw [decide_eq_false (by have := HN.out; omega)]; rfl
          rw [hq] at HHO
          simp only [Bool.false_eq_true, if_false] at HHO
          clear hb hq
          go_wp2_with fail
          refine HHO.out.mono ?_
          rintro e w2 ⟨rfl, hb⟩
          have HB2 := Lib.hid (below0 HB.out hb)
          clear hb
          go_wp2_with fail
          go_roundw
          case rel => exact ⟨(k : Int) + 1, rfl, by omega, by omega, HB2.out⟩
          case measure => simp [_root_.Go.RowKit.intOf]; omega
    · have f0 : decide (r ≤ (n : Int)) = false := decide_eq_false hle
      have HB := Lib.hid hb
      clear hb
      obtain ⟨w5, hw5⟩ : ∃ x : World, x = wr := ⟨_, rfl⟩
      subst hw5
      go_wp2_with fail
      go_loopw [8] (fun s8 wr => ∃ t : Int, s8 = .int .i64 t ∧ -1 ≤ t ∧ t ≤ 5 ∧ Below w.heap.size w wr) (fun s8 _ => (5 - _root_.Go.RowKit.intOf s8).toNat)
      case atStart => exact ⟨-1, rfl, by omega, by omega, HB.out⟩
      case round =>
        obtain ⟨t, rfl, ht1, ht2, hb⟩ := hrel
        by_cases ht4 : t ≤ 4
        · have f1 : decide (t ≤ 4) = true := decide_eq_true ht4
          have ew : IntKind.i64.wrap (t + 1) = t + 1 := wrapI _ (by omega) (by omega)
          have H1 := Lib.hid (HD.out wr hb t (by unfold i64; omega))
          have HB2 := Lib.hid hb
          clear hb
          go_wp2_with fail
          refine H1.out.mono ?_
          rintro e w6 ⟨u, rfl, hu, hb⟩
          have HU := Lib.hid hu
          have HB3 := Lib.hid (below0 HB2.out hb)
          clear hu hb
          go_wp2_with fail
          refine (HRD.out _ HB3.out t).mono ?_
          rintro e w7 ⟨u', rfl, hu', hb⟩
          have HQ := Lib.hid (HS2.out w7 u u' t (HU.out.below hb) hu')
          have HB4 := Lib.hid (below0 HB3.out hb)
          clear hu' hb
          go_wp2_with fail
          refine HQ.out.mono ?_
          rintro e w8 ⟨rfl, hb⟩
          have HB5 := Lib.hid (below0 HB4.out hb)
          clear hb
          go_wp2_with fail
          go_roundw
          case rel => exact ⟨t + 1, rfl, by omega, by omega, HB5.out⟩
          case measure => simp [_root_.Go.RowKit.intOf]; omega
        · have f1 : decide (t ≤ 4) = false := decide_eq_false ht4
          have HB2 := Lib.hid hb
          clear hb
          go_wp2_with fail
          refine (HAL.out _ HB2.out).mono ?_
          rintro e w6 ⟨u, rfl, hu, hb⟩
          have HQ := Lib.hid (HSM.out w6 (below0 HB2.out hb) u hu)
          have HB3 := Lib.hid (below0 HB2.out hb)
          clear hu hb
          go_wp2_with fail
          refine HQ.out.mono ?_
          rintro e w7 ⟨rfl, hb⟩
          have HB4 := Lib.hid (below0 HB3.out hb)
          clear hb
          go_wp2_with fail
          go_ret
          exact ⟨rfl, HB4.out⟩
end Go.Proofs.Ytodbaahnmmfgiaa.Lk
