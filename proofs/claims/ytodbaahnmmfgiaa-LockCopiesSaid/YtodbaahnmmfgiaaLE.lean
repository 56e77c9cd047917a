import Derived.Test.YtodbaahnmmfgiaaLD
namespace Go.Proofs.Ytodbaahnmmfgiaa.Lk
open Go.RowKit Go.Shelf
attribute [local go_sem] Oper.semAt_some

/- THE DOCUMENT's CHAIN. -/
/-- whom a thread waits for -/
def nextT (l ws : Ls) (t : Int) : Option Int :=
  if (ws.length : Int) ≤ t then none else if ws.getD t.toNat (-1) < 0 then none else if l.getD (ws.getD t.toNat (-1)).toNat (-1) < 0 then none else some (l.getD (ws.getD t.toNat (-1)).toNat (-1))
def chainGo (l ws : Ls) : Nat → Ls → Int → Ls
  | 0, pre, t => pre ++ [t]
  | f + 1, pre, t => match nextT l ws t with
    | none => pre ++ [t]
    | some u => chainGo l ws f (pre ++ [t]) u
def chainL (l : Ls) (t : Int) (ws : Ls) : Ls := chainGo l ws 5 [] t
def rangeAt (l : Ls) (z : Int) : Bool := decide (-1 ≤ z ∧ z < (l.length : Int))
def rangeB (l ws : Ls) : Bool := ws.all (rangeAt l)
def orderAt (l ws : Ls) (i : Nat) : Bool := decide (ws.getD i (-1) < 0) || (asksE l (i : Int) (ws.getD i (-1)) == 0)
def orderB (l ws : Ls) : Bool := (List.range ws.length).all (orderAt l ws)
def chainE (l : Ls) (t : Int) (ws : Ls) : Int := if threadB t = false ∨ 4 < ws.length then 2 else if rangeB l ws = false then 4 else if orderB l ws = false then 220 else 0
def chainR (l : Ls) (t : Int) (ws : Ls) : Ls := if chainE l t ws = 0 then chainL l t ws else []
/-- threads alone stand in the list -/
def Ths (l : Ls) : Prop := ∀ z ∈ l, -1 ≤ z ∧ z < 4
theorem rangeB_iff {l ws : Ls} : rangeB l ws = true ↔ ∀ i (h : i < ws.length), rangeAt l ws[i] = true := by
  unfold rangeB
  rw [List.all_eq_true]
  exact ⟨fun h i hi => h _ (List.getElem_mem hi), fun h z hz => by
    obtain ⟨i, hi, rfl⟩ := List.getElem_of_mem hz
    exact h i hi⟩
theorem orderB_iff {l ws : Ls} : orderB l ws = true ↔ ∀ i, i < ws.length → orderAt l ws i = true := by
  unfold orderB
  rw [List.all_eq_true]
  exact ⟨fun h i hi => h i (List.mem_range.2 hi), fun h i hi => h i (List.mem_range.1 hi)⟩
def ChP (w : World) (l : Ls) (t : Int) (ws : Ls) (e : Ending) (w' : World) : Prop := ∃ v, e = .returned (.tuple #[v, .int .i64 (chainE l t ws)]) ∧ Wi w' v (chainR l t ws) ∧ Below w.heap.size w w'
theorem chp_no {w w' : World} {l : Ls} {t : Int} {ws : Ls} {E : Int} (h : chainE l t ws = E) (hE : E ≠ 0) (hb : Below w.heap.size w w') : ChP w l t ws (.returned (.tuple #[.slice none 0 0, .int .i64 E])) w' := by
  refine ⟨.slice none 0 0, by rw [h], ?_, hb⟩
  unfold chainR
  rw [h, if_neg hE]
  exact Wi.nil_ _
theorem one_row (w : World) (z : Int) {B : Nat} (hB : B ≤ w.heap.size) : (w.alloc (.cells #[.int .i64 z] 3)).ownsRow B 3 1 (.slice (some ⟨w.heap.size, 0, none⟩) 1 1) 1 (izs [z]) :=
  ⟨rfl, .inr ⟨_, _, _, rfl, hB, World.alloc_heap_new w _, Nat.le_refl _, by unfold maxLen; omega, rfl, rfl⟩⟩
set_option maxRecDepth 100000 in
set_option maxHeartbeats 4000000 in
theorem rchain_any (l : Ls) (v : Value) (t : Int) (ws : Ls) (B : Option Addr) (m cb : Nat) (w : World) (hn : l.length ≤ 64) (hv : Ths l) (h : Wi w v l) (hm : ws.length = m) (hs : Sees w w.heap.size B (izs ws)) :
    Calls Try.prog 16 #[v, .int .i64 t, .slice B m cb] w (ChP w l t ws) := by
  obtain ⟨A, c, rfl, _, hl⟩ := h.sees
  have HT := Lib.hid (fun w => rthread_any t w)
  have HNO := Lib.hid (fun w' E h1 h2 hb => chp_no (w := w) (w' := w') (l := l) (t := t) (ws := ws) (E := E) h1 h2 hb)
  cases ht : threadB t
  · have hE := Lib.hid (show chainE l t ws = 2 by unfold chainE; rw [if_pos (.inl ht)])
    rw [ht] at HT
    obtain ⟨n, hnn⟩ : ∃ n, n = l.length := ⟨_, rfl⟩
    rw [← hnn]
    clear h hl hs hnn hm ht hv
    go_enter Try.func16, Try.ntmps16
    go_wp2_with fail
    refine (HT.out _).mono ?_
    rintro e w1 ⟨rfl, rfl⟩
    go_wp2_with fail
    go_ret2
    exact HNO.out _ _ hE.out (by decide) (Below.refl _ _)
  · rw [ht] at HT
    by_cases h4 : 4 < m
    · have hE := Lib.hid (show chainE l t ws = 2 by unfold chainE; rw [if_pos (.inr (by omega))])
      have e1 : decide ((4 : Int) < (m : Int)) = true := decide_eq_true (by omega)
      obtain ⟨n, hnn⟩ : ∃ n, n = l.length := ⟨_, rfl⟩
      rw [← hnn]
      clear h hl hs hnn hm ht hv h4
      go_enter Try.func16, Try.ntmps16
      go_wp2_with fail
      refine (HT.out _).mono ?_
      rintro e w1 ⟨rfl, rfl⟩
      go_wp2_with fail
      go_ret2
      exact HNO.out _ _ hE.out (by decide) (Below.refl _ _)
    · have e1 : decide ((4 : Int) < (m : Int)) = false := decide_eq_false (by omega)
      have HM := Lib.hid hm
      have HE0 := Lib.hid (show chainE l t ws = if rangeB l ws = false then 4 else if orderB l ws = false then 220 else 0 by unfold chainE; rw [if_neg (by rw [ht]; simp; omega)])
      have HWS := Lib.hid (fun V (hb : Below w.heap.size w V) i (hi : i < ws.length) => (show ∃ bd, B = some bd ∧ V.cell? (bd.add i) = some (.int .i64 ws[i]) from by
        obtain ⟨ad, e, _, hc⟩ := sees_int ((hs.below hb).more hb.size) hi
        exact ⟨ad, e, hc⟩))
      have HLS := Lib.hid (fun V (hb : Below w.heap.size w V) i (hi : i < l.length) => (show ∃ ad, A = some ad ∧ V.cell? (ad.add i) = some (.int .i64 l[i]) from by
        obtain ⟨ad, e, _, hc⟩ := sees_int ((hl.below hb).more hb.size) hi
        exact ⟨ad, e, hc⟩))
      have HAS := Lib.hid (fun V (hb : Below w.heap.size w V) t r => rasks_any l A l.length c t r V rfl hn ((hl.below hb).more hb.size))
      have HV := Lib.hid hv
      have HN := Lib.hid hn
      have htb := Lib.hid (of_decide_eq_true ht : 0 ≤ t ∧ t < 4)
      obtain ⟨n, hnn⟩ : ∃ n, n = l.length := ⟨_, rfl⟩
      have HNN := Lib.hid hnn
      rw [← hnn] at HAS
      rw [← hnn]
      clear h hl hs hnn hm ht hv hn
      go_enter Try.func16, Try.ntmps16
      go_wp2_with fail
      refine (HT.out _).mono ?_
      rintro e w1 ⟨rfl, rfl⟩
      go_wp2_with fail
      go_loopw [8] (fun s8 wr => ∃ i : Nat, s8 = .int .i64 (i : Int) ∧ i ≤ m ∧ w = wr ∧ Hid (∀ j (hj : j < ws.length), j < i → rangeAt l ws[j] = true)) (fun s8 _ => m - (_root_.Go.RowKit.intOf s8).toNat)
      case atStart => exact ⟨0, rfl, Nat.zero_le _, rfl, Lib.hid (fun j hj h => absurd h (by omega))⟩
      case round =>
        obtain ⟨i, rfl, him, rfl, HR⟩ := hrel
        by_cases hlt : i < m
        · have hil : i < ws.length := by rw [HM.out]; exact hlt
          have j0 : (0 : Int) ≤ (i : Int) := by omega
          have j1 : (i : Int) < (m : Int) := by omega
          have i2 : decide ((i : Int) < (m : Int)) = true := decide_eq_true j1
          obtain ⟨bd, rfl, hc⟩ := HWS.out _ (Below.refl _ _) i hil
          have hra : rangeAt l ws[i] = decide (-1 ≤ ws[i] ∧ ws[i] < (l.length : Int)) := rfl
          rw [← HNN.out] at hra
          have HBAD := Lib.hid (fun (hq : rangeAt l ws[i] = false) => (show chainE l t ws = 4 by
            rw [HE0.out, if_pos]
            cases hrb : rangeB l ws
            · rfl
            · have := rangeB_iff.1 hrb i hil
              rw [hq] at this
              cases this))
          have HGO := Lib.hid (fun (hq : rangeAt l ws[i] = true) j (hj : j < ws.length) (h : j < i + 1) => (show rangeAt l ws[j] = true by
            by_cases e : j < i
            · exact HR.out j hj e
            · obtain rfl : j = i := by omega
              exact hq))
          obtain ⟨x, hx⟩ : ∃ x, x = ws[i] := ⟨_, rfl⟩
          rw [← hx] at hc hra HBAD HGO
          clear hx
          by_cases h1 : x < -1
          · have f1 : decide (x < -1) = true := decide_eq_true h1
            have HE := Lib.hid (HBAD.out (by rw [hra]; exact decide_eq_false (by omega)))
            clear hra h1
            go_wp2_with fail
            go_ret2
            exact HNO.out _ _ HE.out (by decide) (Below.refl _ _)
          · have f1 : decide (x < -1) = false := decide_eq_false h1
            by_cases h2 : (n : Int) ≤ x
            · have f2 : decide ((n : Int) ≤ x) = true := decide_eq_true h2
              have HE := Lib.hid (HBAD.out (by rw [hra]; exact decide_eq_false (by omega)))
              clear hra h1 h2
              go_wp2_with fail
              go_ret2
              exact HNO.out _ _ HE.out (by decide) (Below.refl _ _)
            · have f2 : decide ((n : Int) ≤ x) = false := decide_eq_false h2
              have HG := Lib.hid (HGO.out (by rw [hra]; exact decide_eq_true (by omega)))
              clear hra h1 h2 HGO HBAD
              go_wp2_with fail
              go_roundw
              case rel => exact ⟨i + 1, by go_num, by omega, trivial, HG⟩
              case measure => simp [_root_.Go.RowKit.intOf]; omega
        · obtain rfl : i = m := by omega
          have i2 : decide ((i : Int) < (i : Int)) = false := decide_eq_false (by omega)
          have HRB := Lib.hid (show rangeB l ws = true from rangeB_iff.2 (fun j hj => HR.out j hj (by rw [← HM.out]; exact hj)))
          have HE1 := Lib.hid (show chainE l t ws = if orderB l ws = false then 220 else 0 by rw [HE0.out, if_neg (by rw [HRB.out]; decide)])
          go_wp2_with fail
          go_loopw [9] (fun s9 wr => ∃ j : Nat, s9 = .int .i64 (j : Int) ∧ j ≤ i ∧ Below w.heap.size w wr ∧ Hid (∀ q, q < j → orderAt l ws q = true)) (fun s9 _ => i - (_root_.Go.RowKit.intOf s9).toNat)
          case atStart => exact ⟨0, rfl, Nat.zero_le _, Below.refl _ _, Lib.hid (fun q h => absurd h (by omega))⟩
          case round =>
            obtain ⟨j, rfl, hji, hb, HO⟩ := hrel
            by_cases hlt2 : j < i
            · have hjl : j < ws.length := by rw [HM.out]; exact hlt2
              have j0 : (0 : Int) ≤ (j : Int) := by omega
              have j1 : (j : Int) < (i : Int) := by omega
              have j2 : decide ((j : Int) < (i : Int)) = true := decide_eq_true j1
              obtain ⟨bd, rfl, hc⟩ := HWS.out _ hb j hjl
              have hgd : ws.getD j (-1) = ws[j] := by simp [hjl]
              have hoa : orderAt l ws j = (decide (ws[j] < 0) || (asksE l (j : Int) ws[j] == 0)) := by unfold orderAt; rw [hgd]
              have HBAD := Lib.hid (fun (hq : orderAt l ws j = false) => (show chainE l t ws = 220 by
                rw [HE1.out, if_pos]
                cases hrb : orderB l ws
                · rfl
                · have := orderB_iff.1 hrb j hjl
                  rw [hq] at this
                  cases this))
              have HGO := Lib.hid (fun (hq : orderAt l ws j = true) q (h : q < j + 1) => (show orderAt l ws q = true by
                by_cases e : q < j
                · exact HO.out q e
                · obtain rfl : q = j := by omega
                  exact hq))
              have HASK := Lib.hid (HAS.out _ hb (j : Int) ws[j])
              have HB := Lib.hid hb
              obtain ⟨x, hx⟩ : ∃ x, x = ws[j] := ⟨_, rfl⟩
              rw [← hx] at hc hoa HASK
              clear hx hgd hb
              by_cases h1 : 0 ≤ x
              · have f1 : decide (0 ≤ x) = true := decide_eq_true h1
                rw [decide_eq_false (by omega : ¬ x < 0), Bool.false_or] at hoa
                by_cases h2 : asksE l (j : Int) x = 0
                · have HG := Lib.hid (HGO.out (by rw [hoa, h2]; rfl))
                  rw [h2] at HASK
                  clear hoa h1 h2 HGO HBAD
                  go_wp2_with fail
                  refine HASK.out.mono ?_
                  rintro e w2 ⟨rfl, hb⟩
                  have HB2 := Lib.hid (below0 HB.out hb)
                  clear hb hc
                  go_wp2_with fail
                  go_roundw
                  case rel => exact ⟨j + 1, by go_num, by omega, HB2.out, HG⟩
                  case measure => simp [_root_.Go.RowKit.intOf]; omega
                · have HE := Lib.hid (HBAD.out (by rw [hoa]; exact beq_eq_false_iff_ne.2 h2))
                  obtain ⟨y, hy⟩ : ∃ y, y = asksE l (j : Int) x := ⟨_, rfl⟩
                  rw [← hy] at HASK h2
                  have f2 : (y != 0) = true := by simp [h2]
                  clear hoa h1 h2 HGO HBAD hy
                  go_wp2_with fail
                  refine HASK.out.mono ?_
                  rintro e w2 ⟨rfl, hb⟩
                  have HB2 := Lib.hid (below0 HB.out hb)
                  clear hb hc
                  go_wp2_with fail
                  go_ret2
                  exact HNO.out _ _ HE.out (by decide) HB2.out
              · have f1 : decide (0 ≤ x) = false := decide_eq_false h1
                have HG := Lib.hid (HGO.out (by rw [hoa, decide_eq_true (by omega : x < 0)]; rfl))
                clear hoa h1 HGO HBAD
                go_wp2_with fail
                go_roundw
                case rel => exact ⟨j + 1, by go_num, by omega, HB.out, HG⟩
                case measure => simp [_root_.Go.RowKit.intOf]; omega
            · obtain rfl : j = i := by omega
              obtain ⟨w5, hw5⟩ : ∃ x : World, x = wr := ⟨_, rfl⟩
              subst hw5
              have j2 : decide ((j : Int) < (j : Int)) = false := decide_eq_false (by omega)
              have HOB := Lib.hid (show orderB l ws = true from orderB_iff.2 (fun q hq => HO.out q (by rw [← HM.out]; exact hq)))
              have HE2 := Lib.hid (show chainE l t ws = 0 by rw [HE1.out, if_neg (by rw [HOB.out]; decide)])
              have HFIN : Hid (∀ V s k, GI w5 s k (chainL l t ws) V → ChP w l t ws (.returned (.tuple #[s, .int .i64 0])) V) := Lib.hid (fun V s k hg => by
                obtain ⟨g1, g2⟩ := gi_wi hg
                refine ⟨s, by rw [HE2.out], ?_, below0 hb g2⟩
                unfold chainR
                rw [if_pos HE2.out]
                exact g1)
              have HB := Lib.hid hb
              have HRNG := Lib.hid (fun q (hq : q < ws.length) => (of_decide_eq_true (rangeB_iff.1 HRB.out q hq) : -1 ≤ ws[q] ∧ ws[q] < (l.length : Int)))
              clear hb
              go_wp2_with fail
              obtain ⟨i0, hi, hz0, hz1, hz2⟩ := info_parts int_info
              obtain ⟨zr, hzr⟩ : ∃ zr, zr = w5.heap.size := ⟨_, rfl⟩
              have HZR := Lib.hid hzr
              have HST : Hid (GI w5 (.slice (some ⟨w5.heap.size, 0, none⟩) 1 1) 1 [t] (w5.alloc (.cells #[.int .i64 t] 3))) := Lib.hid ⟨_, _, rfl, one_row w5 t (Nat.le_refl _), below1 _ _⟩
              clear hzr
              go_loopw [10] (fun s10 wr => ∃ (f k : Nat) (pre : Ls) (u : Int), k + f = 6 ∧ 1 ≤ k ∧ Hid (pre.length + 1 = k) ∧ Hid (0 ≤ u ∧ u < 4) ∧ Hid (chainGo l ws f pre u = chainL l t ws) ∧ GI w5 s10 k (pre ++ [u]) wr) (fun s10 _ => 6 - (match s10 with | .slice _ k _ => k | _ => 0))
              case atStart => exact ⟨5, 1, [], t, rfl, Nat.le_refl _, rfl, htb, rfl, HST.out⟩
              case round =>
                obtain ⟨f, k, pre, u, hkf, hk1, Hpre, Hu, Hch, A2, c2, rfl, ho, hbx⟩ := hrel
                have hw2 := Below.trans HB.out (hbx.mono HB.out.size)
                by_cases hk6 : k < 6
                · obtain ⟨f, rfl⟩ : ∃ f', f = f' + 1 := ⟨f - 1, by omega⟩
                  have hch := Hch.out
                  have hgo : chainGo l ws (f + 1) pre u = match nextT l ws u with | none => pre ++ [u] | some z => chainGo l ws f (pre ++ [u]) z := rfl
                  rw [hgo] at hch
                  obtain ⟨A3, c3, e3, _, hsee⟩ := (wi_own ho).sees
                  have hlen : (pre ++ [u]).length = k := by rw [List.length_append, ← Hpre.out]; rfl
                  injection e3 with e3 e4 e5
                  clear e4 e5
                  subst e3
                  obtain ⟨ad2, rfl, _, hc⟩ := sees_int hsee (k := k - 1) (by rw [hlen]; omega)
                  have hlast : (pre ++ [u])[k - 1]'(by rw [hlen]; omega) = u := by
                    have : k - 1 = pre.length := by have := Hpre.out; omega
                    simp [this]
                  rw [hlast] at hc
                  obtain ⟨uu, rfl⟩ : ∃ uu : Nat, u = uu := ⟨u.toNat, by have := Hu.out; omega⟩
                  have HSTOP := Lib.hid (fun (hq : nextT l ws (uu : Int) = none) => (show ChP w l t ws (.returned (.tuple #[.slice (some ad2) k c2, .int .i64 0])) wr from by
                    rw [hq] at hch
                    exact HFIN.out wr _ k ⟨_, c2, rfl, hch ▸ ho, hbx⟩))
                  have HMORE := Lib.hid (fun z (hq : nextT l ws (uu : Int) = some z) => (show chainGo l ws f (pre ++ [(uu : Int)]) z = chainL l t ws from by
                    rw [hq] at hch
                    exact hch))
                  have fk : decide ((k : Int) < 6) = true := decide_eq_true (by omega)
                  have fk2 : decide (k < 6) = true := decide_eq_true hk6
                  have fw : IntKind.i64.wrap ((k : Int) - 1) = ((k - 1 : Nat) : Int) := by rw [wrapI _ (by omega) (by omega)]; omega
                  obtain ⟨k1, hk1e⟩ : ∃ k1, k1 = k - 1 := ⟨_, rfl⟩
                  rw [← hk1e] at hc fw
                  have q0 : (0 : Int) ≤ (k1 : Int) := by omega
                  have q1 : (k1 : Int) < (k : Int) := by omega
                  have HW2 := Lib.hid hw2
                  have HO3 := Lib.hid (And.intro ho hbx)
                  clear hch hgo hlast hlen hsee ho hbx hw2 hk1e
                  by_cases hju : j ≤ uu
                  · have HS := Lib.hid (HSTOP.out (by unfold nextT; rw [if_pos (by rw [HM.out]; omega)]))
                    have g1 : decide ((j : Int) ≤ (uu : Int)) = true := decide_eq_true (by omega)
                    have g2 : decide (j ≤ uu) = true := decide_eq_true hju
                    clear HSTOP HMORE
                    go_wp2_with fail
                    go_ret2
                    exact HS.out
                  · have g1 : decide ((j : Int) ≤ (uu : Int)) = false := decide_eq_false (by omega)
                    have g2 : decide (j ≤ uu) = false := decide_eq_false hju
                    have huw : uu < ws.length := by rw [HM.out]; omega
                    obtain ⟨bd, rfl, hcw⟩ := HWS.out wr HW2.out uu huw
                    have hgd : ws.getD (uu : Int).toNat (-1) = ws[uu] := by rw [Int.toNat_natCast]; simp [huw]
                    have hrg := HRNG.out uu huw
                    have hnx : nextT l ws (uu : Int) = if ws[uu] < 0 then none else if l.getD ws[uu].toNat (-1) < 0 then none else some (l.getD ws[uu].toNat (-1)) := by
                      unfold nextT
                      rw [if_neg (by rw [HM.out]; omega), hgd]
                    obtain ⟨y, hy⟩ : ∃ y, y = ws[uu] := ⟨_, rfl⟩
                    rw [← hy] at hcw hrg hnx
                    have q2 : (0 : Int) ≤ (uu : Int) := by omega
                    have q3 : (uu : Int) < (j : Int) := by omega
                    clear hgd hy
                    by_cases hy0 : y < 0
                    · have HS := Lib.hid (HSTOP.out (by rw [hnx, if_pos hy0]))
                      have g3 : decide (y < 0) = true := decide_eq_true hy0
                      clear HSTOP HMORE hnx hy0
                      go_wp2_with fail
                      go_ret2
                      exact HS.out
                    · obtain ⟨yy, rfl⟩ : ∃ yy : Nat, y = yy := ⟨y.toNat, by omega⟩
                      have g3 : decide ((yy : Int) < 0) = false := decide_eq_false hy0
                      have hyl : yy < l.length := by omega
                      obtain ⟨ad, rfl, hcl⟩ := HLS.out wr HW2.out yy hyl
                      have hgd : l.getD (yy : Int).toNat (-1) = l[yy] := by rw [Int.toNat_natCast]; simp [hyl]
                      rw [if_neg hy0, hgd] at hnx
                      have hv := HV.out _ (List.getElem_mem hyl)
                      obtain ⟨z, hz⟩ : ∃ z, z = l[yy] := ⟨_, rfl⟩
                      rw [← hz] at hcl hnx hv
                      have q4 : (0 : Int) ≤ (yy : Int) := by omega
                      have q5 : (yy : Int) < (n : Int) := by have := HNN.out; omega
                      clear hgd hz hy0
                      by_cases hz0' : z < 0
                      · have HS := Lib.hid (HSTOP.out (by rw [hnx, if_pos hz0']))
                        have g4 : decide (z < 0) = true := decide_eq_true hz0'
                        clear HSTOP HMORE hnx hz0'
                        go_wp2_with fail
                        go_ret2
                        exact HS.out
                      · have g4 : decide (z < 0) = false := decide_eq_false hz0'
                        have HG := Lib.hid (HMORE.out z (by rw [hnx, if_neg hz0']))
                        have HZ4 := Lib.hid (show 0 ≤ z ∧ z < 4 from ⟨by omega, hv.2⟩)
                        have HN := Lib.hid (fun v' w4 (a1 : World.ownsRow w4 w5.heap.size 3 1 v' (k + 1) (izs (pre ++ [(uu : Int)]) ++ [.int .i64 z])) a2 => gi_step (ob := .cells #[.int .i64 z] 3) HO3.out.1 HO3.out.2 a1 a2)
                        have ho1 := HO3.out.1.alloc (.cells #[.int .i64 z] 3)
                        have hws := HO3.out.2.size
                        obtain ⟨PR, hPR⟩ : ∃ PR, PR = izs (pre ++ [(uu : Int)]) := ⟨_, rfl⟩
                        rw [← hPR] at HN ho1
                        clear HSTOP HMORE hnx hz0' hPR hv
                        go_wp2_with (at_builtin; refine wpList_append_sees rfl (.tmp 93) (.tmp 101) 28 rfl w5.heap.size 3 i0 _ 1 8 Try.underlying28 hi hz0 hz1 hz2 rfl (by decide) _ k PR rfl ho1 (wr.heap.size + 1) (some ⟨wr.heap.size, 0, none⟩) 1 1 [.int .i64 z] rfl rfl (fun _ => ⟨_, rfl, by simp, cell_one_at _ _ _⟩) (by simp [Value.oneCell']) (by unfold maxLen; omega) (by omega) (by simp; omega) ?_; intro v' w4 a1 a2 _; obtain ⟨A', c', rfl, hri⟩ := HN.out v' w4 a1 a2; have HR := Lib.hid hri; clear a1 a2 hri HN)
                        go_roundw
                        case rel => exact ⟨f, k + 1, _, z, by omega, by omega, Lib.hid (by rw [List.length_append, ← Hpre.out]; rfl), HZ4, HG, HR.out⟩
                        case measure => simp; omega
                · have fk : decide ((k : Int) < 6) = false := decide_eq_false (by omega)
                  have fk2 : decide (k < 6) = false := decide_eq_false hk6
                  obtain rfl : f = 0 := by omega
                  have HS := Lib.hid (show ChP w l t ws (.returned (.tuple #[.slice A2 k c2, .int .i64 0])) wr from HFIN.out wr _ k ⟨_, c2, rfl, (show pre ++ [u] = chainL l t ws from Hch.out) ▸ ho, hbx⟩)
                  clear ho hbx hw2
                  go_wp2_with fail
                  go_ret2
                  exact HS.out
end Go.Proofs.Ytodbaahnmmfgiaa.Lk
