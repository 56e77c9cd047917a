import Derived.Test.YtodbaahnmmfgiaaLO
import Derived.Deep.RegionHeld3
namespace Go.Proofs.Ytodbaahnmmfgiaa.Lk
open Go.RowKit Go.Shelf
attribute [local go_sem] Oper.semAt_some

/- LOCKHOLDS: A CHAIN NAMES NO THREAD TWICE, ITS LAST ONE DOES NOT WAIT; ONE AT LEAST GOES ON. -/
abbrev fourV (fa fb fc fd : Int) : Value := .agg #[.int .i64 fa, .int .i64 fb, .int .i64 fc, .int .i64 fd]
set_option maxRecDepth 100000 in
set_option maxHeartbeats 16000000 in
theorem holds_main {Has : HasT} (HA : Api Has) (acts : List Ac) (A : Option Addr) (n ca : Nat) (fa fb fc fd : Int) (w : World) (hA : Acs w acts A) (hl : acts.length = n) (hn50 : n ≤ 50) (ha : i64 fa) (hb : i64 fb) (hc : i64 fc) (hd : i64 fd) :
    Calls Try.prog 6 #[.slice A n ca, fourV fa fb fc fd] w fun e w' => e = .returned (.bool true) ∧ Below w.heap.size w w' := by
  have hn := Lib.hid (fun n w => num_any n w)
  have hwk := Lib.hid (fun w => works_any HA w)
  obtain ⟨W0, hW0⟩ : ∃ W0, W0 = w.alloc (.cells #[.int .i64 fa, .int .i64 fb, .int .i64 fc, .int .i64 fd] 51) := ⟨_, rfl⟩
  have hz0 : W0.heap.size = w.heap.size + 1 := by rw [hW0]; simp
  have hb0 : Below w.heap.size w W0 := by rw [hW0]; exact below1 _ _
  obtain ⟨four, hfour⟩ : ∃ four : Nat → Int, four = fun k => [fa, fb, fc, fd].getD k 0 := ⟨_, rfl⟩
  have HFC : Hid (∀ V, Below W0.heap.size W0 V → ∀ k, k < 4 → V.cell? ⟨w.heap.size, k, none⟩ = some (.int .i64 (four k))) := Lib.hid (fun V hbv k hk => by
    have h1 : W0.cell? ⟨w.heap.size, k, none⟩ = some (.int .i64 (four k)) := by
      rw [hW0, cell_alloc_new, hfour]
      rcases (show k = 0 ∨ k = 1 ∨ k = 2 ∨ k = 3 by omega) with rfl | rfl | rfl | rfl <;> rfl
    exact (hbv.cell (p := ⟨w.heap.size, k, none⟩) (by simp only; omega)).trans h1)
  have HFI : Hid (∀ k, k < 4 → i64 (four k)) := Lib.hid (fun k hk => by
    rw [hfour]
    rcases (show k = 0 ∨ k = 1 ∨ k = 2 ∨ k = 3 by omega) with rfl | rfl | rfl | rfl
    · exact ha
    · exact hb
    · exact hc
    · exact hd)
  have HWB := Lib.hid (fun V (h : Below W0.heap.size W0 V) => hb0.trans (h.mono hb0.size))
  have HAC := Lib.hid (fun V (hb : Below w.heap.size w V) i (hi : i < acts.length) => (hA.below hb).at_ i hi)
  have HF := Lib.hid (fun i (hi : i < acts.length) => hA.fits _ (List.getElem_mem hi))
  have HLA := Lib.hid hl
  have HNEW := Lib.hid (show Calls Try.prog 8 #[.int .i64 8] W0 (fun e w' => ∃ v, e = .returned (.tuple #[v, .int .i64 0]) ∧ Run Has W0 v (frees 8) w') from (HA.new W0 8 (by omega)).mono fun _ _ ⟨v, F, e, h1, h2, h3⟩ => ⟨v, e, F, h1, h2, h3⟩)
  have g0 : decide ((50 : Int) < (n : Int)) = false := decide_eq_false (by omega)
  obtain ⟨L0, hL0⟩ : ∃ L, L = frees 8 := ⟨_, rfl⟩
  rw [← hL0] at HNEW
  have HW0 := Lib.hid hW0
  have HZ0 := Lib.hid hz0
  clear hL0 hA hl ha hb hc hd hfour hW0 hz0 hb0
  go_enter Try.func6, Try.ntmps6
  go_wp2_with fail
  rw [← HW0.out]
  refine HNEW.out.mono ?_
  rintro e w1 ⟨v, rfl, R⟩
  have HR1 := Lib.hid R
  clear R HNEW
  go_wp2_with fail
  refine (hn.out _ _).mono ?_
  rintro e x0 ⟨rfl, rfl⟩
  go_wp2_with fail
  go_loopw [7] (fun s7 wr => ∃ (i : Nat) (l : Ls), s7 = .int .i64 (i : Int) ∧ i ≤ n ∧ Run Has W0 v l wr) (fun s7 _ => n - (_root_.Go.RowKit.intOf s7).toNat)
  case atStart => exact ⟨0, L0, rfl, Nat.zero_le _, HR1.out⟩
  case round =>
    obtain ⟨i, l, rfl, hi, R⟩ := hrel
    by_cases hlt : i < n
    · have hil : i < acts.length := by rw [HLA.out]; exact hlt
      have i0 : (0 : Int) ≤ (i : Int) := by omega
      have i1 : (i : Int) < (n : Int) := by omega
      have i2 : decide ((i : Int) < (n : Int)) = true := decide_eq_true i1
      obtain ⟨ad0, rfl, a0, _⟩ := HAC.out wr (HWB.out _ R.below) i hil
      have HFT := Lib.hid (HF.out i hil)
      obtain ⟨ac, hac⟩ : ∃ ac, ac = acts[i] := ⟨_, rfl⟩
      rw [← hac] at a0 HFT
      have HACE := Lib.hid hac
      have c0 := a0.c0
      have HR := Lib.hid R
      obtain ⟨what, t, r⟩ := ac
      simp only at c0
      clear hac a0 R
      by_cases hw0 : what = 0
      · subst hw0
        have HS := Lib.hid (Run.try_ HA (Run.drew HA HR.out) t r HFT.out.1 HFT.out.2)
        have HAT3 : Hid (∀ V, Below w.heap.size w V → AtAc V (ad0.add (i * 3)) ⟨0, t, r⟩) := Lib.hid (fun V hb => by
          obtain ⟨ad5, e5, a5, _⟩ := HAC.out V hb i hil
          obtain rfl := Option.some.inj e5
          rw [← HACE.out] at a5
          exact a5)
        have c1 := (HAT3.out _ (HWB.out _ HR.out.below)).c1
        have c2 := (HAT3.out _ (HWB.out _ HR.out.below)).c2
        simp only at c1 c2
        go_wp2_with fail
        go_region_held3 (fun W => W.cell? ⟨(ad0.add (i * 3)).block, (ad0.add (i * 3)).off + 1, none⟩ = some (.int .i64 t) ∧ W.cell? ⟨(ad0.add (i * 3)).block, (ad0.add (i * 3)).off + 2, none⟩ = some (.int .i64 r)) (first | go_keep | trivial)
          (first | (go_at_call 20; refine (HS.out).mono ?_; rintro e w2 ⟨rfl, R2, _⟩; have AT2 := HAT3.out _ (HWB.out _ R2.below); have c1' := AT2.c1; have c2' := AT2.c2; simp only at c1' c2'; have hlast := Lib.hid R2; clear R2 AT2))
        go_wp2_with fail
        go_roundw
        case rel => exact ⟨i + 1, _, by go_num, by omega, hlast.out⟩
        case measure => simp [_root_.Go.RowKit.intOf]; omega
      · by_cases hw1 : what = 1
        · subst hw1
          have HS := Lib.hid (Run.free HA (Run.drew HA HR.out) t r HFT.out.1 HFT.out.2)
          have HAT3 : Hid (∀ V, Below w.heap.size w V → AtAc V (ad0.add (i * 3)) ⟨1, t, r⟩) := Lib.hid (fun V hb => by
            obtain ⟨ad5, e5, a5, _⟩ := HAC.out V hb i hil
            obtain rfl := Option.some.inj e5
            rw [← HACE.out] at a5
            exact a5)
          have c1 := (HAT3.out _ (HWB.out _ HR.out.below)).c1
          have c2 := (HAT3.out _ (HWB.out _ HR.out.below)).c2
          simp only at c1 c2
          go_wp2_with fail
          go_region_held3 (fun W => W.cell? ⟨(ad0.add (i * 3)).block, (ad0.add (i * 3)).off + 1, none⟩ = some (.int .i64 t) ∧ W.cell? ⟨(ad0.add (i * 3)).block, (ad0.add (i * 3)).off + 2, none⟩ = some (.int .i64 r)) (first | go_keep | trivial)
            (first | (go_at_call 21; refine (HS.out).mono ?_; rintro e w2 ⟨rfl, R2, _⟩; have AT2 := HAT3.out _ (HWB.out _ R2.below); have c1' := AT2.c1; have c2' := AT2.c2; simp only at c1' c2'; have hlast := Lib.hid R2; clear R2 AT2))
          go_wp2_with fail
          go_roundw
          case rel => exact ⟨i + 1, _, by go_num, by omega, hlast.out⟩
          case measure => simp [_root_.Go.RowKit.intOf]; omega
        · have e0 : (what == (0 : Int)) = false := beq_eq_false_iff_ne.2 hw0
          have e1 : (what == (1 : Int)) = false := beq_eq_false_iff_ne.2 hw1
          by_cases hw2 : what = 2
          · subst hw2
            have HAT3 : Hid (∀ V, Below w.heap.size w V → AtAc V (ad0.add (i * 3)) ⟨2, t, r⟩) := Lib.hid (fun V hb => by
              obtain ⟨ad5, e5, a5, _⟩ := HAC.out V hb i hil
              obtain rfl := Option.some.inj e5
              rw [← HACE.out] at a5
              exact a5)
            have c1 := (HAT3.out _ (HWB.out _ HR.out.below)).c1
            simp only at c1
            have HS := Lib.hid (Run.drops HA HR.out t HFT.out.1)
            clear hw0 hw1 e0 e1
            go_wp2_with fail
            refine HS.out.mono ?_
            rintro e w2 ⟨da, db, l2, rfl, R2⟩
            have hlast := Lib.hid R2
            clear R2 c0 c1
            go_wp2_with fail
            go_roundw
            case rel => exact ⟨i + 1, _, by go_num, by omega, hlast.out⟩
            case measure => simp [_root_.Go.RowKit.intOf]; omega
          · have e2 : (what == (2 : Int)) = false := beq_eq_false_iff_ne.2 hw2
            have hlast := HR
            clear hw0 hw1 hw2
            go_wp2_with fail
            go_roundw
            case rel => exact ⟨i + 1, _, by go_num, by omega, hlast.out⟩
            case measure => simp [_root_.Go.RowKit.intOf]; omega
    · obtain rfl : i = n := by omega
      have i2 : decide ((i : Int) < (i : Int)) = false := decide_eq_false (by omega)
      obtain ⟨w5, hw5⟩ : ∃ x : World, x = wr := ⟨_, rfl⟩
      subst hw5
      have HR := Lib.hid R
      have HTH := Lib.hid (Run.ths HA R)
      have H5 := Lib.hid R.below.size
      have HST : Hid (GI w5 (.slice none 0 0) 0 [] w5) := Lib.hid (gi_nil w5)
      obtain ⟨i0, hi1, hz0, hz1, hz2⟩ := info_parts int_info
      clear R hi hlt
      go_wp2_with fail
      go_loopw [8, 9, 10] (fun s8 s9 s10 wr => ∃ (t goes : Nat) (pre : Ls), s10 = .int .i64 (t : Int) ∧ s9 = .int .i64 (goes : Int) ∧ t ≤ 4 ∧ Hid (WP l t pre goes) ∧ GI w5 s8 t pre wr ∧ Run Has W0 v l wr) (fun _ _ s10 _ => 4 - (_root_.Go.RowKit.intOf s10).toNat)
      case atStart => exact ⟨0, 0, [], rfl, rfl, by omega, Lib.hid (WP.nil_ l), HST.out, HR.out⟩
      case round =>
        obtain ⟨t, goes, pre, rfl, rfl, ht, HWP, hg, R⟩ := hrel
        have hgm := HWP.out.most
        by_cases ht4 : t < 4
        · have f1 : decide ((t : Int) < 4) = true := decide_eq_true (by omega)
          have j0 : (0 : Int) ≤ (t : Int) := by omega
          have j1 : (t : Int) < 4 := by omega
          have HCP := Lib.hid (Run.copy HA R hg)
          have hgc := hg
          obtain ⟨A8, c8, rfl, _, _⟩ := hgc
          obtain ⟨x, hx⟩ : ∃ x, x = four t := ⟨_, rfl⟩
          have HX := Lib.hid hx
          have hi64 := Lib.hid (HFI.out t ht4)
          rw [← hx] at hi64
          have HFCX := Lib.hid (fun V hb => (HFC.out V hb t ht4))
          rw [← hx] at HFCX
          have wg : IntKind.i64.wrap ((goes : Int) + 1) = ((goes + 1 : Nat) : Int) := by rw [wrapI _ (by omega) (by omega)]; omega
          obtain ⟨g2, hg2⟩ : ∃ g2, g2 = goes + 1 := ⟨_, rfl⟩
          rw [← hg2] at wg
          have HG2 := Lib.hid hg2
          clear hg R hx hg2
          go_wp2_with fail
          refine HCP.out.mono ?_
          rintro e w6 ⟨v', rfl, cp⟩
          have hcx := HFCX.out w6 (by obtain ⟨_, _, _, _, hb, _⟩ := cp; exact hb)
          have HTRY := Lib.hid (Cp.try_ HA cp (t : Int) x (by unfold i64; omega) hi64.out)
          clear cp
          by_cases hE : asksE l (t : Int) x = 0
          · by_cases hQ : l.getD x.toNat (-1) < 0
            · have hq : tryQ l (t : Int) x = true := by unfold tryQ; rw [hE, decide_eq_true hQ]; rfl
              rw [hE, hq] at HTRY
              clear hE hQ hq
              go_wp2_with fail
              refine HTRY.out.mono ?_
              rintro e w8 ⟨rfl, R8, G8⟩
              have HR8 := Lib.hid R8
              obtain ⟨A9, c9, e9, ho, hb9⟩ := G8
              injection e9 with e9 e10 e11
              subst e9
              subst e11
              have HO9 := Lib.hid (And.intro ho hb9)
              have ho1 := ho.alloc (.cells #[.int .i64 (-1)] 3)
              have hs9 := hb9.size
              have HN := Lib.hid (fun v'' w4 (a1 : World.ownsRow w4 w5.heap.size 3 1 v'' (t + 1) (izs pre ++ [.int .i64 (-1)])) a2 => gi_step (ob := .cells #[.int .i64 (-1)] 3) HO9.out.1 HO9.out.2 a1 a2)
              clear R8 ho hb9 e10 hcx
              go_wp2_with fail
              refine (hn.out _ _).mono ?_
              rintro e x1 ⟨rfl, rfl⟩
              go_wp2_with (at_builtin; refine wpList_append_sees rfl (.tmp 107) (.tmp 108) 28 rfl w5.heap.size 3 i0 _ 1 8 Try.underlying28 hi1 hz0 hz1 hz2 rfl (by decide) _ t (izs pre) rfl ho1 (w8.heap.size + 1) (some ⟨w8.heap.size, 0, none⟩) 1 1 [.int .i64 (-1)] rfl rfl (fun _ => ⟨_, rfl, by simp, cell_one_at _ _ _⟩) (by simp [Value.oneCell']) (by unfold maxLen; omega) (by omega) (by rw [World.size_alloc]; omega) ?_; intro v9 w9 a1 a2 _; have HR9 := Lib.hid (Run.app HA HR8.out HO9.out.1 H5.out a2); obtain ⟨A', c', rfl, hri⟩ := HN.out v9 w9 a1 a2; have HGR := Lib.hid hri; clear a1 a2 hri HN)
              go_roundw
              case rel => exact ⟨t + 1, g2, pre ++ [(-1)], by go_num, rfl, by omega, Lib.hid (HWP.out.step (x := -1) (.inl rfl) (g2 := g2) (by rw [if_pos rfl]; exact HG2.out)), HGR.out, HR9.out⟩
              case measure => simp [_root_.Go.RowKit.intOf]; omega
            · have hq : tryQ l (t : Int) x = false := by unfold tryQ; rw [decide_eq_false hQ, Bool.and_false]
              have HXOK := Lib.hid (show 0 ≤ x ∧ asksE l (t : Int) x = 0 ∧ 0 ≤ l.getD x.toNat (-1) from ⟨by obtain ⟨k, e, _⟩ := asks_in hE; omega, hE, by omega⟩)
              rw [hE, hq] at HTRY
              clear hE hQ hq
              go_wp2_with fail
              refine HTRY.out.mono ?_
              rintro e w8 ⟨rfl, R8, G8⟩
              have HR8 := Lib.hid R8
              obtain ⟨A9, c9, e9, ho, hb9⟩ := G8
              injection e9 with e9 e10 e11
              subst e9
              subst e11
              have HO9 := Lib.hid (And.intro ho hb9)
              have ho1 := ho.alloc (.cells #[.int .i64 x] 3)
              have hs9 := hb9.size
              have HN := Lib.hid (fun v'' w4 (a1 : World.ownsRow w4 w5.heap.size 3 1 v'' (t + 1) (izs pre ++ [.int .i64 x])) a2 => gi_step (ob := .cells #[.int .i64 x] 3) HO9.out.1 HO9.out.2 a1 a2)
              have hcx2 := HFCX.out w8 R8.below
              clear R8 ho hb9 e10 hcx
              go_wp2_with fail
              refine (hn.out _ _).mono ?_
              rintro e x1 ⟨rfl, rfl⟩
              go_wp2_with (at_builtin; refine wpList_append_sees rfl (.tmp 101) (.tmp 105) 28 rfl w5.heap.size 3 i0 _ 1 8 Try.underlying28 hi1 hz0 hz1 hz2 rfl (by decide) _ t (izs pre) rfl ho1 (w8.heap.size + 1) (some ⟨w8.heap.size, 0, none⟩) 1 1 [.int .i64 x] rfl rfl (fun _ => ⟨_, rfl, by simp, cell_one_at _ _ _⟩) (by simp [Value.oneCell']) (by unfold maxLen; omega) (by omega) (by rw [World.size_alloc]; omega) ?_; intro v9 w9 a1 a2 _; have HR9 := Lib.hid (Run.app HA HR8.out HO9.out.1 H5.out a2); obtain ⟨A', c', rfl, hri⟩ := HN.out v9 w9 a1 a2; have HGR := Lib.hid hri; clear a1 a2 hri HN)
              go_roundw
              case rel => exact ⟨t + 1, goes, pre ++ [x], by go_num, rfl, by omega, Lib.hid (HWP.out.step (x := x) (.inr HXOK.out) (g2 := goes) (by rw [if_neg (by have := HXOK.out.1; omega)])), HGR.out, HR9.out⟩
              case measure => simp [_root_.Go.RowKit.intOf]; omega
          · have hq : tryQ l (t : Int) x = false := by unfold tryQ; rw [beq_eq_false_iff_ne.2 hE]; rfl
            rw [hq] at HTRY
            obtain ⟨y, hy⟩ : ∃ y, y = asksE l (t : Int) x := ⟨_, rfl⟩
            rw [← hy] at HTRY hE
            have f2 : (y == 0) = false := beq_eq_false_iff_ne.2 hE
            clear hE hq hy
            go_wp2_with fail
            refine HTRY.out.mono ?_
            rintro e w8 ⟨rfl, R8, G8⟩
            have HR8 := Lib.hid R8
            obtain ⟨A9, c9, e9, ho, hb9⟩ := G8
            injection e9 with e9 e10 e11
            subst e9
            subst e11
            have HO9 := Lib.hid (And.intro ho hb9)
            have ho1 := ho.alloc (.cells #[.int .i64 (-1)] 3)
            have hs9 := hb9.size
            have HN := Lib.hid (fun v'' w4 (a1 : World.ownsRow w4 w5.heap.size 3 1 v'' (t + 1) (izs pre ++ [.int .i64 (-1)])) a2 => gi_step (ob := .cells #[.int .i64 (-1)] 3) HO9.out.1 HO9.out.2 a1 a2)
            clear R8 ho hb9 e10 hcx
            go_wp2_with fail
            refine (hn.out _ _).mono ?_
            rintro e x1 ⟨rfl, rfl⟩
            go_wp2_with (at_builtin; refine wpList_append_sees rfl (.tmp 107) (.tmp 108) 28 rfl w5.heap.size 3 i0 _ 1 8 Try.underlying28 hi1 hz0 hz1 hz2 rfl (by decide) _ t (izs pre) rfl ho1 (w8.heap.size + 1) (some ⟨w8.heap.size, 0, none⟩) 1 1 [.int .i64 (-1)] rfl rfl (fun _ => ⟨_, rfl, by simp, cell_one_at _ _ _⟩) (by simp [Value.oneCell']) (by unfold maxLen; omega) (by omega) (by rw [World.size_alloc]; omega) ?_; intro v9 w9 a1 a2 _; have HR9 := Lib.hid (Run.app HA HR8.out HO9.out.1 H5.out a2); obtain ⟨A', c', rfl, hri⟩ := HN.out v9 w9 a1 a2; have HGR := Lib.hid hri; clear a1 a2 hri HN)
            go_roundw
            case rel => exact ⟨t + 1, g2, pre ++ [(-1)], by go_num, rfl, by omega, Lib.hid (HWP.out.step (x := -1) (.inl rfl) (g2 := g2) (by rw [if_pos rfl]; exact HG2.out)), HGR.out, HR9.out⟩
            case measure => simp [_root_.Go.RowKit.intOf]; omega
        · obtain rfl : t = 4 := by omega
          have f1 : decide ((4 : Int) < 4) = false := by decide
          obtain ⟨w7, hw7⟩ : ∃ x : World, x = wr := ⟨_, rfl⟩
          subst hw7
          have HRR := Lib.hid R
          have HGI := Lib.hid hg
          obtain ⟨A8, c8, rfl, _, _⟩ := hg
          have HGO := Lib.hid (HWP.out.goes HTH.out)
          have HOK := Lib.hid HWP.out.wok
          have HCG := Lib.hid (fun t (ht : 0 ≤ t ∧ t < 4) => chain_good (l := l) (ws := pre) HTH.out HWP.out.wok ht)
          have HCE := Lib.hid (fun t (ht : 0 ≤ t ∧ t < 4) => wok_E (l := l) (ws := pre) HWP.out.wok (t := t) ht)
          have HIW := Lib.hid (show ∀ z ∈ pre, i64 z from fun z hz => by
            obtain ⟨q, hq, rfl⟩ := List.getElem_of_mem hz
            have h4 := HWP.out.len
            have := HWP.out.ok q (by omega)
            have hgd : pre.getD q (-1) = pre[q] := by simp [hq]
            rw [hgd] at this
            rcases this with h | ⟨h1, h2, _⟩
            · rw [h]; exact i64_small (by omega)
            · obtain ⟨k, e, hk, _⟩ := asks_in h2
              obtain ⟨F, a1, _⟩ := HRR.out
              have := HA.most a1
              rw [e]
              exact i64_small (by omega))
          have HPL := Lib.hid HWP.out.len
          clear R
          go_wp2_with fail
          go_loopw [14] (fun s14 wr => ∃ t : Nat, s14 = .int .i64 (t : Int) ∧ t ≤ 4 ∧ GI w5 (.slice A8 4 c8) 4 pre wr ∧ Run Has W0 v l wr) (fun s14 _ => 4 - (_root_.Go.RowKit.intOf s14).toNat)
          case atStart => exact ⟨0, rfl, by omega, HGI.out, HRR.out⟩
          case round =>
            obtain ⟨t, rfl, ht, hg, R⟩ := hrel
            by_cases ht4 : t < 4
            · have f1 : decide ((t : Int) < 4) = true := decide_eq_true (by omega)
              have hsl : Sl wr (.slice A8 4 c8) pre := (gi_wi hg).1.sl
              have HCHN := Lib.hid (Run.chain HA R (t : Int) pre (.slice A8 4 c8) (by unfold i64; omega) HIW.out hsl (by rw [HPL.out]; omega))
              have hgood := HCG.out (t : Int) (by omega)
              rw [HCE.out (t : Int) (by omega)] at HCHN
              have HGG := Lib.hid hg
              obtain ⟨C, hC⟩ : ∃ C, C = chainR l (t : Int) pre := ⟨_, rfl⟩
              rw [← hC] at HCHN hgood
              have HGD := Lib.hid hgood
              have hc4 := nodup_len hgood.nodup hgood.rng
              obtain ⟨w9, hw9⟩ : ∃ x : World, x = wr := ⟨_, rfl⟩
              subst hw9
              clear R hsl hC hg
              go_wp2_with fail
              refine HCHN.out.mono ?_
              rintro e wa ⟨u, rfl, hu, hra, _, hba⟩
              have HRA := Lib.hid hra
              have HGA := Lib.hid (GI.more HGG.out hba)
              obtain ⟨A7, c7, rfl, _, hsee⟩ := hu.sees
              obtain ⟨q, hq⟩ : ∃ q, q = C.length := ⟨_, rfl⟩
              rw [← hq] at hc4
              rw [← hq]
              have HQ := Lib.hid hq
              have hq1 : 1 ≤ q := by
                obtain ⟨s, e⟩ := hgood.head
                rw [hq, e]
                simp
              have HCC := Lib.hid (fun V (hb : Below wa.heap.size wa V) k (hk : k < C.length) => (show ∃ bd, A7 = some bd ∧ V.cell? (bd.add k) = some (.int .i64 C[k]) from by
                obtain ⟨bd, e, _, hc⟩ := sees_int ((hsee.below hb).more hb.size) hk
                exact ⟨bd, e, hc⟩))
              obtain ⟨gs, hgs⟩ : ∃ gs, gs = wa.heap.size := ⟨_, rfl⟩
              have hrow0 : Row (wa.alloc (.cells #[.bool false, .bool false, .bool false, .bool false] 57)) gs 57 (seenC C 0) := by
                rw [seenC_zero, hgs]
                exact Row.new wa _ [.bool false, .bool false, .bool false, .bool false]
              have HST2 := Lib.hid (And.intro hrow0 (below1 wa (.cells #[.bool false, .bool false, .bool false, .bool false] 57)))
              have HGS := Lib.hid hgs
              rw [← HGS.out] at HST2
              clear hu hra hba hsee hq hrow0 hgs hgood
              go_wp2_with fail
              rw [← HGS.out]
              go_loopw [18] (fun s18 wr => ∃ i : Nat, s18 = .int .i64 (i : Int) ∧ i ≤ q ∧ Row wr gs 57 (seenC C i) ∧ Below wa.heap.size wa wr) (fun s18 _ => q - (_root_.Go.RowKit.intOf s18).toNat)
              case atStart => exact ⟨0, rfl, Nat.zero_le _, HST2.out.1, by rw [HGS.out] at HST2; exact HST2.out.2⟩
              case round =>
                obtain ⟨i, rfl, hi, hrow, hb⟩ := hrel
                by_cases hlt : i < q
                · have hil : i < C.length := by rw [← HQ.out]; exact hlt
                  have j0 : (0 : Int) ≤ (i : Int) := by omega
                  have j1 : (i : Int) < (q : Int) := by omega
                  have j2 : decide ((i : Int) < (q : Int)) = true := decide_eq_true j1
                  obtain ⟨bd, rfl, hc⟩ := HCC.out wr hb i hil
                  have hrg := HGD.out.rng _ (List.getElem_mem hil)
                  obtain ⟨k, hk⟩ : ∃ k : Nat, C[i] = k := ⟨C[i].toNat, by omega⟩
                  have hfr := take_fresh HGD.out.nodup hil
                  rw [hk] at hc hrg hfr
                  have hstep := seenC_step hil hk
                  have k4 : k < 4 := by omega
                  have hsk : wr.cell? ⟨gs, k, none⟩ = some (.bool false) := by
                    rw [hrow.cell, seenC_get C i k k4, decide_eq_false hfr]
                  have hff := hrow.frozen k
                  have hnx : Row (wr.setCell ⟨gs, k, none⟩ (.bool true)) gs 57 (seenC C (i + 1)) := by
                    rw [← hstep]
                    exact hrow.set _ _
                  have HNX := Lib.hid (And.intro hnx (show Below wa.heap.size wa (wr.setCell ⟨gs, k, none⟩ (.bool true)) from hb.setCell (show wa.heap.size ≤ gs by rw [HGS.out]; exact Nat.le_refl _) _))
                  have p1 : decide ((k : Int) < 0) = false := decide_eq_false (by omega)
                  have p2 : decide ((3 : Int) < (k : Int)) = false := decide_eq_false (by omega)
                  have p3 : (0 : Int) ≤ (k : Int) := by omega
                  have p4 : (k : Int) < 4 := by omega
                  clear hk hrg hfr hstep hnx hrow hb
                  go_wp2_with fail
                  go_roundw
                  case rel => exact ⟨i + 1, by go_num, by omega, HNX.out.1, HNX.out.2⟩
                  case measure => simp [_root_.Go.RowKit.intOf]; omega
                · obtain rfl : i = q := by omega
                  have j2 : decide ((i : Int) < (i : Int)) = false := decide_eq_false (by omega)
                  obtain ⟨s, es⟩ := HGD.out.head
                  obtain ⟨qq, uu, el, hlw⟩ := HGD.out.last
                  have hrl := HGD.out.rng uu (by rw [el]; simp)
                  obtain ⟨bd, rfl, hc0⟩ := HCC.out wr hb 0 (by rw [← HQ.out]; omega)
                  obtain ⟨bd2, e2, hcl⟩ := HCC.out wr hb (i - 1) (by rw [← HQ.out]; omega)
                  obtain rfl := Option.some.inj e2
                  have h00 : C[0]'(by rw [← HQ.out]; omega) = (t : Int) := by simp [es]
                  have hll : C[i - 1]'(by rw [← HQ.out]; omega) = uu := by
                    have : i - 1 = qq.length := by rw [HQ.out, el]; simp
                    simp [el, this]
                  rw [h00] at hc0
                  rw [hll] at hcl
                  have hc00 : wr.cell? bd = some (.int .i64 (t : Int)) := by
                    have e0 : bd.add 0 = bd := by unfold Addr.add; rw [if_pos rfl]
                    rw [e0] at hc0
                    exact hc0
                  obtain ⟨k, rfl⟩ : ∃ k : Nat, uu = k := ⟨uu.toNat, by omega⟩
                  have k4 : k < 4 := by omega
                  have hgb := GI.more HGA.out hb
                  obtain ⟨A9, c9, e9, _, hsee9⟩ := (gi_wi hgb).1.sees
                  injection e9 with e9 e10 e11
                  subst e9
                  obtain ⟨wd, rfl, _, hcw⟩ := sees_int hsee9 (k := k) (by rw [HPL.out]; exact k4)
                  have hwl : pre[k]'(by rw [HPL.out]; exact k4) < 0 := by
                    unfold waitOf at hlw
                    rw [Int.toNat_natCast] at hlw
                    have hkl : k < pre.length := by rw [HPL.out]; exact k4
                    simpa [hkl] using hlw
                  obtain ⟨z, hz⟩ : ∃ z, z = pre[k]'(by rw [HPL.out]; exact k4) := ⟨_, rfl⟩
                  rw [← hz] at hcw hwl
                  have p0 : decide (0 ≤ z) = false := decide_eq_false (by omega)
                  have fw : IntKind.i64.wrap ((i : Int) - 1) = ((i - 1 : Nat) : Int) := by rw [wrapI _ (by omega) (by omega)]; omega
                  obtain ⟨i1, hi1e⟩ : ∃ i1, i1 = i - 1 := ⟨_, rfl⟩
                  rw [← hi1e] at hcl fw
                  have p1 : (0 : Int) ≤ (i1 : Int) := by omega
                  have p2 : (i1 : Int) < (i : Int) := by omega
                  have p3 : (0 : Int) ≤ (k : Int) := by omega
                  have p4 : (k : Int) < 4 := by omega
                  have p5 : ((i : Int) == 0) = false := beq_eq_false_iff_ne.2 (by omega)
                  have p6 : ((t : Int) != (t : Int)) = false := by simp
                  have p7 : (0 : Int) < (i : Int) := by omega
                  have HGB := Lib.hid hgb
                  have HRB := Lib.hid (Run.more HA HRA.out hb)
                  clear hrow hb es el hlw hrl h00 hll hgb e10 e11 hsee9 hwl hz hi1e hc4
                  go_wp2_with fail
                  refine (hn.out _ _).mono ?_
                  rintro e x2 ⟨rfl, rfl⟩
                  go_wp2_with fail
                  go_roundw
                  case rel =>
                    (repeat apply Exists.intro)
                    refine ⟨?rel2, rfl⟩
                    exact ⟨t + 1, by go_num, by omega, HGB.out, HRB.out⟩
                  case measure => simp [_root_.Go.RowKit.intOf]; omega
            · obtain rfl : t = 4 := by omega
              have f1 : decide ((4 : Int) < 4) = false := by decide
              have f2 : decide ((0 : Int) < (goes : Int)) = true := decide_eq_true (by have := HGO.out; omega)
              have f3 : decide (0 < goes) = true := decide_eq_true HGO.out
              have HBF := Lib.hid (HWB.out _ R.below)
              clear R hg
              go_wp2_with fail
              refine (hwk.out _).mono ?_
              rintro e x3 ⟨rfl, hb⟩
              have HFIN := Lib.hid (below0 HBF.out hb)
              clear hb
              go_wp2_with fail
              go_ret
              exact ⟨rfl, HFIN.out⟩
set_option maxRecDepth 100000 in
theorem holds_more {Has : HasT} (H : Api Has) (A : Option Addr) (n ca : Nat) (fa fb fc fd : Int) (w : World) (h50 : 50 < n) :
    Calls Try.prog 6 #[.slice A n ca, fourV fa fb fc fd] w fun e w' => e = .returned (.bool true) ∧ Below w.heap.size w w' := by
  have hwk := Lib.hid (fun w => works_any H w)
  have g0 : decide ((50 : Int) < (n : Int)) = true := decide_eq_true (by omega)
  have HB := Lib.hid (below1 w (.cells #[.int .i64 fa, .int .i64 fb, .int .i64 fc, .int .i64 fd] 51))
  clear H
  go_enter Try.func6, Try.ntmps6
  go_wp2_with fail
  refine (hwk.out _).mono ?_
  rintro e v4 ⟨rfl, hb⟩
  have HFIN := Lib.hid (below0 HB.out hb)
  clear hb
  go_wp2_with fail
  go_ret
  exact ⟨rfl, HFIN.out⟩
theorem lockHolds_any {Has : HasT} (HA : Api Has) (acts : List Ac) (A : Option Addr) (n ca : Nat) (fa fb fc fd : Int) (w : World) (hA : Acs w acts A) (hl : acts.length = n) (ha : i64 fa) (hb : i64 fb) (hc : i64 fc) (hd : i64 fd) :
    Calls Try.prog 6 #[.slice A n ca, fourV fa fb fc fd] w fun e w' => e = .returned (.bool true) ∧ Below w.heap.size w w' := by
  by_cases h50 : n ≤ 50
  · exact holds_main HA acts A n ca fa fb fc fd w hA hl h50 ha hb hc hd
  · exact holds_more HA A n ca fa fb fc fd w (by omega)
end Go.Proofs.Ytodbaahnmmfgiaa.Lk
