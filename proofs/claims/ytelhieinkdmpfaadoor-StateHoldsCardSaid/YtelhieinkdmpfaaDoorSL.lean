import Derived.Test.YtelhieinkdmpfaaDoorSK
namespace Go.Proofs.YtelhieinkdmpfaaDoor.Sh
open Go.RowKit Go.Shelf
attribute [local go_sem] Oper.semAt_some

/- A SHEET STANDS AS THE DOCUMENT's. -/
theorem getV_out {l : Ls} {z : Int} (h : z < 0 ∨ (l.length : Int) ≤ z) : getV l z = 0 ∧ inB l z = false := by
  have h1 : inB l z = false := decide_eq_false (by omega)
  exact ⟨by unfold getV; rw [h1]; rfl, h1⟩
theorem getV_in {l : Ls} {k : Nat} (h : k < l.length) : getV l (k : Int) = l[k] ∧ inB l (k : Int) = true := by
  have h1 : inB l (k : Int) = true := decide_eq_true (by omega)
  exact ⟨by unfold getV; rw [h1, if_pos rfl, Int.toNat_natCast, getD_get h], h1⟩
set_option maxRecDepth 100000 in
set_option maxHeartbeats 4000000 in
theorem is_any {Has : HasT} (H : Api Has) (v vv : Value) (l : Ls) (F : Nat → Prop) (w : World) (h : Has w v l F) (hv : Wi w vv l) :
    Calls Tryd.prog 25 #[v, vv] w fun e w' => e = .returned (.bool true) ∧ Below w.heap.size w w' := by
  have hmost := H.most h
  have hsts := H.sts h
  have HGO := Lib.hid (fun V (hb : Below w.heap.size w V) (z : Int) (hz : z < 0 ∨ (l.length : Int) ≤ z) (hi : i64 z) => by
    have := H.get z (H.below h hb) hi
    rw [(getV_out hz).1, (getV_out hz).2] at this
    exact this)
  have HGI := Lib.hid (fun V (hb : Below w.heap.size w V) (k : Nat) (hk : k < l.length) => by
    have := H.get (k : Int) (H.below h hb) ⟨by omega, by omega⟩
    rw [(getV_in hk).1, (getV_in hk).2] at this
    exact this)
  have HAL := Lib.hid (fun V (hb : Below w.heap.size w V) x (hx : i64 x) => all_any H v l F x 300 V (H.below h hb) hx (by omega) (by omega))
  have HCO := Lib.hid (fun V (hb : Below w.heap.size w V) x (hx : i64 x) => H.count x (H.below h hb) hx)
  have HPL := Lib.hid (fun V (hb : Below w.heap.size w V) x => rplaces_wi l vv x V hmost (hv.below hb))
  have HLE := Lib.hid (fun V (hb : Below w.heap.size w V) => H.len (H.below h hb))
  have HTX := Lib.hid (fun V (hb : Below w.heap.size w V) => H.text (H.below h hb))
  have HRT := Lib.hid (fun V (hb : Below w.heap.size w V) => rtext_wi l vv V hmost hsts (hv.below hb))
  have HPN := Lib.hid (fun x => (places_len l x))
  obtain ⟨A, c, rfl, _, hs⟩ := hv.sees
  have HS := Lib.hid (fun V (hb : Below w.heap.size w V) i (hi : i < l.length) => (show ∃ ad, A = some ad ∧ V.cell? (ad.add i) = some (.int .i64 l[i]) from by
    obtain ⟨ad, e, _, hc⟩ := sees_int ((hs.below hb).more hb.size) hi
    exact ⟨ad, e, hc⟩))
  obtain ⟨n, hn⟩ : ∃ n, n = l.length := ⟨_, rfl⟩
  rw [← hn] at hmost HGO HLE HRT HPL HPN
  rw [← hn]
  have HN := Lib.hid hn
  clear h hv hsts hs hn
  go_enter Tryd.func25, Tryd.ntmps25
  go_wp2_with fail
  go_loopw [5] (fun s5 wr => ∃ z : Int, -1 ≤ z ∧ z ≤ (n : Int) + 1 ∧ s5 = .int .i64 z ∧ Below w.heap.size w wr) (fun s5 _ => ((n : Int) + 1 - _root_.Go.RowKit.intOf s5).toNat)
  case atStart => exact ⟨-1, by omega, by omega, rfl, Below.refl _ _⟩
  case round =>
    obtain ⟨z, hz1, hz2, rfl, hb⟩ := hrel
    by_cases hin : z ≤ (n : Int)
    · have i2 : decide (z ≤ (n : Int)) = true := decide_eq_true hin
      have ew : IntKind.i64.wrap (z + 1) = z + 1 := wrapI _ (by omega) (by omega)
      by_cases hneg : z < 0
      · have i3 : decide (z < 0) = true := decide_eq_true hneg
        have hg := Lib.hid (HGO.out wr hb z (.inl hneg) ⟨by omega, by omega⟩)
        have HB := Lib.hid hb
        clear hb
        go_wp2_with fail
        refine hg.out.mono ?_
        rintro e w1 ⟨rfl, hb1⟩
        have HB := Lib.hid (below0 HB.out hb1)
        clear hb1 hg
        go_wp2_with fail
        go_roundw
        case rel => exact ⟨z + 1, by omega, by omega, rfl, HB.out⟩
        case measure => simp [_root_.Go.RowKit.intOf]; omega
      · have i3 : decide (z < 0) = false := decide_eq_false hneg
        by_cases hend : z = (n : Int)
        · have i4 : (z == (n : Int)) = true := by rw [hend]; simp
          have hg := Lib.hid (HGO.out wr hb z (.inr (by omega)) ⟨by omega, by omega⟩)
          have HB := Lib.hid hb
          clear hb hend
          go_wp2_with fail
          refine hg.out.mono ?_
          rintro e w1 ⟨rfl, hb1⟩
          have HB := Lib.hid (below0 HB.out hb1)
          clear hb1 hg
          go_wp2_with fail
          go_roundw
          case rel => exact ⟨z + 1, by omega, by omega, rfl, HB.out⟩
          case measure => simp [_root_.Go.RowKit.intOf]; omega
        · obtain ⟨k, rfl⟩ : ∃ k : Nat, z = k := ⟨z.toNat, by omega⟩
          have hkl : k < l.length := by rw [← HN.out]; omega
          have i4 : ((k : Int) == (n : Int)) = false := beq_eq_false_iff_ne.2 hend
          have hg := Lib.hid (HGI.out wr hb k hkl)
          have hc := Lib.hid (fun V (hb1 : Below wr.heap.size wr V) => HS.out V (below0 hb hb1) k hkl)
          obtain ⟨x, hx⟩ : ∃ x, x = l[k] := ⟨_, rfl⟩
          rw [← hx] at hg hc
          have hxx : (x != x) = false := by simp
          have j0 : (0 : Int) ≤ (k : Int) := by omega
          have j1 : (k : Int) < (n : Int) := by omega
          have HB := Lib.hid hb
          clear hb hend hx
          go_wp2_with fail
          refine hg.out.mono ?_
          rintro e w1 ⟨rfl, hb1⟩
          obtain ⟨ad, rfl, hcc⟩ := hc.out w1 hb1
          have HB := Lib.hid (below0 HB.out hb1)
          clear hb1 hg hc
          go_wp2_with fail
          go_roundw
          case rel => exact ⟨(k : Int) + 1, by omega, by omega, rfl, HB.out⟩
          case measure => simp [_root_.Go.RowKit.intOf]; omega
    · obtain rfl : z = (n : Int) + 1 := by omega
      have i2 : decide ((n : Int) + 1 ≤ (n : Int)) = false := decide_eq_false (by omega)
      have HB := Lib.hid hb
      obtain ⟨w5, hw5⟩ : ∃ x : World, x = wr := ⟨_, rfl⟩
      subst hw5
      clear hb HGO HGI HS
      obtain ⟨N1, hN1⟩ : ∃ N1, N1 = (n : Int) + 1 := ⟨_, rfl⟩
      rw [← hN1] at i2 ⊢
      clear hN1
      go_wp2_with fail
      go_loopw [8] (fun s8 wr => ∃ z : Int, -1 ≤ z ∧ z ≤ 6 ∧ s8 = .int .i64 z ∧ Below w.heap.size w wr) (fun s8 _ => (6 - _root_.Go.RowKit.intOf s8).toNat)
      case atStart => exact ⟨-1, by omega, by omega, rfl, HB.out⟩
      case round =>
        obtain ⟨z, hz1, hz2, rfl, hb⟩ := hrel
        obtain ⟨w6, hw6⟩ : ∃ x : World, x = wr := ⟨_, rfl⟩
        subst hw6
        by_cases hin : z ≤ 5
        · have i2 : decide (z ≤ 5) = true := decide_eq_true hin
          have ew : IntKind.i64.wrap (z + 1) = z + 1 := wrapI _ (by omega) (by omega)
          have hz3 : i64 z := ⟨by omega, by omega⟩
          have hpl := Lib.hid (HPL.out w6 hb z)
          have HB2 := Lib.hid hb
          clear hb
          go_wp2_with fail
          refine hpl.out.mono ?_
          rintro e w7 ⟨u, rfl, hu, hb7⟩
          have HB7 := Lib.hid (below0 HB2.out hb7)
          have hal := Lib.hid (HAL.out w7 HB7.out z hz3)
          have HU := Lib.hid hu
          clear hb7 hu hpl
          go_wp2_with fail
          refine hal.out.mono ?_
          rintro e w8 ⟨u2, rfl, hu2, hb8⟩
          have hnt := HPN.out z
          rw [List.take_of_length_le (by omega)] at hu2
          have hin := Lib.hid (ints_wi (by rw [hz_len]; omega) hu2 (HU.out.below hb8))
          have HB8 := Lib.hid (below0 HB7.out hb8)
          have HU8 := Lib.hid (HU.out.below hb8)
          clear hal hb8 hu2 HU
          rw [decide_eq_true (show hz (places l z) = hz (places l z) from rfl)] at hin
          go_wp2_with fail
          refine hin.out.mono ?_
          rintro e w9 ⟨rfl, hb9⟩
          have HB9 := Lib.hid (below0 HB8.out hb9)
          have hco := Lib.hid (HCO.out w9 HB9.out z hz3)
          have HU9 := Lib.hid (HU8.out.below hb9)
          clear hin hb9 HU8
          go_wp2_with fail
          refine hco.out.mono ?_
          rintro e wa ⟨rfl, hba⟩
          have HBA := Lib.hid (below0 HB9.out hba)
          obtain ⟨A9, c9, e9, _⟩ := HU9.out
          rw [hz_len] at e9
          obtain ⟨q, hq⟩ : ∃ q, q = (places l z).length := ⟨_, rfl⟩
          rw [← hq] at e9 ⊢
          subst e9
          have hqq : ((q : Int) != (q : Int)) = false := by simp
          clear hba hco hq hnt
          go_wp2_with fail
          go_roundw
          case rel => exact ⟨z + 1, by omega, by omega, rfl, HBA.out⟩
          case measure => simp [_root_.Go.RowKit.intOf]; omega
        · obtain rfl : z = 6 := by omega
          have i2 : decide ((6 : Int) ≤ 5) = false := by decide
          have hle := Lib.hid (HLE.out w6 hb)
          have HB2 := Lib.hid hb
          have hnn : ((n : Int) == (n : Int)) = true := by simp
          clear hb
          go_wp2_with fail
          refine hle.out.mono ?_
          rintro e w7 ⟨rfl, hb7⟩
          have HB7 := Lib.hid (below0 HB2.out hb7)
          have htx := Lib.hid (HTX.out w7 HB7.out)
          obtain ⟨T, hT⟩ : ∃ T, T = str (text l) := ⟨_, rfl⟩
          rw [← hT] at htx HRT
          have htt : (T.toList == T.toList) = true := by simp
          clear hb7 hle hT
          go_wp2_with fail
          refine htx.out.mono ?_
          rintro e w8 ⟨rfl, hb8⟩
          have HB8 := Lib.hid (below0 HB7.out hb8)
          have hrt := Lib.hid (HRT.out w8 HB8.out)
          clear hb8 htx
          go_wp2_with fail
          refine hrt.out.mono ?_
          rintro e w9 ⟨rfl, hb9⟩
          have HB9 := Lib.hid (below0 HB8.out hb9)
          clear hb9 hrt
          go_wp2_with fail
          go_ret
          exact ⟨rfl, HB9.out⟩
end Go.Proofs.YtelhieinkdmpfaaDoor.Sh
