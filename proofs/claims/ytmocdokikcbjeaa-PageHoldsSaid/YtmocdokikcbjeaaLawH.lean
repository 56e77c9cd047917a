import Derived.Test.YtmocdokikcbjeaaHoldE
namespace Go.Proofs.Ytmocdokikcbjeaa
open Go.RowKit Go.Shelf Go.Maps Go.Sort Go.ChangeShapes
attribute [local go_sem] Oper.semAt_some

/- PAGEHOLDS. -/

/-- the boxes of the two parameters by value -/
abbrev w2of (w : World) (x : Ac) (a m : Int) : World := (w.alloc (.cells #[.int .i64 x.what, .int .i64 x.page, .int .i64 x.many, .int .i64 x.en.1, .int .i64 x.en.2.1, .int .i64 x.en.2.2] 36)).alloc (.cells #[.int .i64 a, .int .i64 m] 58)
structure Pars (g : Nat) (x : Ac) (a m : Int) (W : World) : Prop where
  x1 : W.cell? ⟨g, 1, none⟩ = some (.int .i64 x.page)
  x3 : W.cell? ⟨g, 3, none⟩ = some (.int .i64 x.en.1)
  x4 : W.cell? ⟨g, 4, none⟩ = some (.int .i64 x.en.2.1)
  x5 : W.cell? ⟨g, 5, none⟩ = some (.int .i64 x.en.2.2)
  r0 : W.cell? ⟨g + 1, 0, none⟩ = some (.int .i64 a)
  r1 : W.cell? ⟨g + 1, 1, none⟩ = some (.int .i64 m)
theorem pars (w : World) (x : Ac) (a m : Int) : ∀ W, Below (w2of w x a m).heap.size (w2of w x a m) W → Pars w.heap.size x a m W := by
  intro W hb
  have h1 : Row (w2of w x a m) w.heap.size 36 [.int .i64 x.what, .int .i64 x.page, .int .i64 x.many, .int .i64 x.en.1, .int .i64 x.en.2.1, .int .i64 x.en.2.2] := (Row.new w _ _).below (below1 _ _)
  have h2 : Row (w2of w x a m) (w.heap.size + 1) 58 [.int .i64 a, .int .i64 m] := Row.new_at _ _ _ (by simp)
  have g1 := h1.below hb
  have g2 := h2.below hb
  exact ⟨g1.cell 1, g1.cell 3, g1.cell 4, g1.cell 5, g2.cell 0, g2.cell 1⟩

set_option maxRecDepth 100000 in
set_option maxHeartbeats 4000000 in
theorem pageHolds_any (l : List Ac) (A : Option Addr) (n c : Nat) (x : Ac) (a m : Int) (w : World) (h : Acs w l A) (hl : l.length = n) (hn : n ≤ 4611686018427387904) (hx : x.fits) :
    Calls Try.prog 6 #[.slice A n c, .agg #[.int .i64 x.what, .int .i64 x.page, .int .i64 x.many, .int .i64 x.en.1, .int .i64 x.en.2.1, .int .i64 x.en.2.2], .agg #[.int .i64 a, .int .i64 m]] w fun e w' => e = .returned (.bool true) ∧ Below w.heap.size w w' := by
  have hmm := @run_makeMap Try.prog
  have hwk := Lib.hid (fun w => works_any w)
  have hnum := Lib.hid (fun n w => num_any n w)
  have HA := Lib.hid h
  have HL := Lib.hid hl
  have HX := Lib.hid hx
  have HP := Lib.hid (pars w x a m)
  have HB := Lib.hid (show ∀ W, Below (w2of w x a m).heap.size (w2of w x a m) W → Below w.heap.size w W from fun W hb => below0 (below2 w _ _) hb)
  have HB0 := Lib.hid (show Below w.heap.size w (w2of w x a m) from below2 w _ _)
  clear h hl hx
  by_cases q0 : 40 < n
  · have e1 : decide ((40 : Int) < (n : Int)) = true := decide_eq_true (by omega)
    clear hn
    go_enter Try.func6, Try.ntmps6
    go_wp2_with fail
    refine (hwk.out _).mono ?_
    rintro e w1 ⟨rfl, hb⟩
    have hf := below0 HB0.out hb
    clear hb
    go_wp2_with fail
    go_ret
    exact ⟨rfl, hf⟩
  have e1 : decide ((40 : Int) < (n : Int)) = false := decide_eq_false (by omega)
  by_cases q1 : a < 0
  · have e2 : decide (a < 0) = true := decide_eq_true (by omega)
    clear hn
    go_enter Try.func6, Try.ntmps6
    go_wp2_with fail
    refine (hwk.out _).mono ?_
    rintro e w1 ⟨rfl, hb⟩
    have hf := below0 HB0.out hb
    clear hb
    go_wp2_with fail
    go_ret
    exact ⟨rfl, hf⟩
  have e2 : decide (a < 0) = false := decide_eq_false (by omega)
  by_cases q2 : 300 < a
  · have e3 : decide ((300 : Int) < a) = true := decide_eq_true (by omega)
    clear hn
    go_enter Try.func6, Try.ntmps6
    go_wp2_with fail
    refine (hwk.out _).mono ?_
    rintro e w1 ⟨rfl, hb⟩
    have hf := below0 HB0.out hb
    clear hb
    go_wp2_with fail
    go_ret
    exact ⟨rfl, hf⟩
  have e3 : decide ((300 : Int) < a) = false := decide_eq_false (by omega)
  by_cases q3 : m < 1
  · have e4 : decide (m < 1) = true := decide_eq_true (by omega)
    clear hn
    go_enter Try.func6, Try.ntmps6
    go_wp2_with fail
    refine (hwk.out _).mono ?_
    rintro e w1 ⟨rfl, hb⟩
    have hf := below0 HB0.out hb
    clear hb
    go_wp2_with fail
    go_ret
    exact ⟨rfl, hf⟩
  have e4 : decide (m < 1) = false := decide_eq_false (by omega)
  by_cases q4 : 100 < m
  · have e5 : decide ((100 : Int) < m) = true := decide_eq_true (by omega)
    clear hn
    go_enter Try.func6, Try.ntmps6
    go_wp2_with fail
    refine (hwk.out _).mono ?_
    rintro e w1 ⟨rfl, hb⟩
    have hf := below0 HB0.out hb
    clear hb
    go_wp2_with fail
    go_ret
    exact ⟨rfl, hf⟩
  have e5 : decide ((100 : Int) < m) = false := decide_eq_false (by omega)
  have hn40 : n ≤ 40 := by omega
  have ha0 : 0 ≤ a := by omega
  have ha3 : a ≤ 300 := by omega
  have hm1 : 1 ≤ m := by omega
  have hm2 : m ≤ 100 := by omega
  clear q0 q1 q2 q3 q4 hn
  go_enter Try.func6, Try.ntmps6
  go_wp2_with fail
  refine (Run.new _).mono ?_
  rintro e w1 ⟨b, rfl, R1⟩
  obtain ⟨W2, hW2⟩ : ∃ W2, W2 = w2of w x a m := ⟨_, rfl⟩
  have R1' : Run W2 b [] w1 := by rw [hW2]; exact R1
  rw [← hW2] at HP HB HB0
  clear R1 hW2
  clear e1 e2 e3 e4 e5
  go_wp2_with fail
  go_loopw [8] (fun t wr => ∃ k l', t = .int .i64 ((k : Nat) : Int) ∧ k ≤ n ∧ l'.length ≤ k ∧ Run W2 b l' wr) (fun t _ => n - (_root_.Go.RowKit.intOf t).toNat)
  case atStart => exact ⟨0, [], rfl, Nat.zero_le _, Nat.le_refl _, R1'⟩
  case round =>
    obtain ⟨k, l', rfl, hk, hlen, hR⟩ := hrel
    clear R1'
    by_cases hlt : k < n
    · have i0 : (0 : Int) ≤ (k : Int) := by omega
      have i1 : (k : Int) < (n : Int) := by omega
      have j1 : decide ((k : Int) < (n : Int)) = true := decide_eq_true i1
      have hkl : k < l.length := by rw [HL.out]; exact hlt
      have HS0 : ∃ ad, A = some ad ∧ ∀ W, Below w.heap.size w W → AcAt W ad k l[k] := by
        obtain ⟨ad, e, _⟩ := HA.out.at_ k hkl
        refine ⟨ad, e, fun W hb => ?_⟩
        obtain ⟨ad', e', h'⟩ := (HA.out.below hb).at_ k hkl
        rw [e] at e'
        obtain rfl := Option.some.inj e'
        exact h'
      obtain ⟨ad, rfl, hS⟩ := HS0
      have hfit := HA.out.fits _ (List.getElem_mem hkl)
      obtain ⟨y, hy⟩ : ∃ y, y = l[k] := ⟨_, rfl⟩
      rw [← hy] at hS hfit
      clear hy
      obtain ⟨wh, pg, mn, en⟩ := y
      obtain ⟨o1, o2, o3⟩ := en
      have hen := hfit.en
      have c0 := (hS _ (HB.out _ hR.below)).c0
      have c1 := (hS _ (HB.out _ hR.below)).c1
      simp only at c0 c1 hen
      have HS := Lib.hid (fun W (hb : Below W2.heap.size W2 W) => hS _ (HB.out _ hb))
      clear hS hfit
      have hl1 := unmapT_len l' pg
      have hl2 := protT_len l' pg o2
      have hl3 := mapT_len l' pg (o1, o2, o3)
      have hR0 := Lib.hid hR
      have ew : IntKind.i64.wrap ((k : Int) + 1) = (k : Int) + 1 := wrapI _ (by omega) (by omega)
      by_cases q1 : wh = 1
      · subst q1
        have HU := Lib.hid (hR.unmap pg)
        clear hR HS
        go_wp2_with fail
        refine (HU.out).mono ?_
        rintro e V ⟨rfl, hV⟩
        go_wp2
        go_roundw
        case rel => exact ⟨k + 1, _, by go_num, by omega, by omega, hV⟩
        case measure => simp [_root_.Go.RowKit.intOf]; omega
      have d1 : (wh == 1) = false := by rw [beq_eq_false_iff_ne]; exact q1
      have HD := Lib.hid hR.drew
      by_cases q2 : wh = 2
      · subst q2
        have HU := Lib.hid (hR.drew.prot pg o2)
        clear hR d1 q1
        go_wp2_with fail
        go_region_held3 (fun W => W.cell? ⟨(ad.add (k * 6)).block, (ad.add (k * 6)).off + 1, none⟩ = some (.int .i64 pg) ∧ W.cell? ⟨(ad.add (k * 6)).block, (ad.add (k * 6)).off + 4, none⟩ = some (.int .i64 o2))
          (first | exact ⟨(HS.out _ HD.out.below).c1, (HS.out _ HD.out.below).c4⟩ | assumption)
          (first | (go_at_call 22; refine (HU.out).mono ?_; rintro e V ⟨rfl, hV⟩; have KV : V.cell? ⟨(ad.add (k * 6)).block, (ad.add (k * 6)).off + 1, none⟩ = some (.int .i64 pg) ∧ V.cell? ⟨(ad.add (k * 6)).block, (ad.add (k * 6)).off + 4, none⟩ = some (.int .i64 o2) := ⟨(HS.out _ hV.below).c1, (HS.out _ hV.below).c4⟩))
        have HV := Lib.hid hV
        clear hV KV
        go_wp2_with fail
        go_roundw
        case rel => exact ⟨k + 1, _, by go_num, by omega, by omega, HV.out⟩
        case measure => simp [_root_.Go.RowKit.intOf]; omega
      · have d2 : (wh == 2) = false := by rw [beq_eq_false_iff_ne]; exact q2
        have HU := Lib.hid (hR.drew.map pg (o1, o2, o3) hen)
        rw [show enV (o1, o2, o3) = .agg #[.int .i64 o1, .int .i64 o2, .int .i64 o3] from rfl] at HU
        clear hR q1 q2
        go_wp2_with fail
        go_region_held3 (fun W => W.cell? ⟨(ad.add (k * 6)).block, (ad.add (k * 6)).off + 1, none⟩ = some (.int .i64 pg) ∧ W.cell? ⟨(ad.add (k * 6)).block, (ad.add (k * 6)).off + 3, none⟩ = some (.int .i64 o1) ∧ W.cell? ⟨(ad.add (k * 6)).block, (ad.add (k * 6)).off + 4, none⟩ = some (.int .i64 o2) ∧ W.cell? ⟨(ad.add (k * 6)).block, (ad.add (k * 6)).off + 5, none⟩ = some (.int .i64 o3))
          (first | exact ⟨(HS.out _ HD.out.below).c1, (HS.out _ HD.out.below).c3, (HS.out _ HD.out.below).c4, (HS.out _ HD.out.below).c5⟩ | assumption)
          (first | (go_at_call 18; refine (HU.out).mono ?_; rintro e V ⟨rfl, hV⟩; have KV : V.cell? ⟨(ad.add (k * 6)).block, (ad.add (k * 6)).off + 1, none⟩ = some (.int .i64 pg) ∧ V.cell? ⟨(ad.add (k * 6)).block, (ad.add (k * 6)).off + 3, none⟩ = some (.int .i64 o1) ∧ V.cell? ⟨(ad.add (k * 6)).block, (ad.add (k * 6)).off + 4, none⟩ = some (.int .i64 o2) ∧ V.cell? ⟨(ad.add (k * 6)).block, (ad.add (k * 6)).off + 5, none⟩ = some (.int .i64 o3) := ⟨(HS.out _ hV.below).c1, (HS.out _ hV.below).c3, (HS.out _ hV.below).c4, (HS.out _ hV.below).c5⟩))
        have HV := Lib.hid hV
        clear hV KV
        go_wp2_with fail
        go_roundw
        case rel => exact ⟨k + 1, _, by go_num, by omega, by omega, HV.out⟩
        case measure => simp [_root_.Go.RowKit.intOf]; omega
    · have j1 : decide ((k : Int) < (n : Int)) = false := decide_eq_false (by omega)
      have hl40 : l'.length ≤ 40 := by omega
      have hH0 := Hl.start hR
      obtain ⟨N, hN⟩ := lst hR.ok hl40 ha0 ha3 hm1 hm2
      have HN := Lib.hid hN
      clear hN hlen hR
      go_wp2_with fail
      obtain ⟨mw, hmw⟩ : ∃ mw, mw = wr.heap.size := ⟨_, rfl⟩
      rw [← hmw] at hH0 ⊢
      obtain ⟨w3, hw3⟩ : ∃ w3, w3 = wr.alloc (.map #[] 0) := ⟨_, rfl⟩
      rw [← hw3] at hH0 ⊢
      clear hw3 hmw hmm j1 hlt hk
      go_loopw [10] (fun t V => ∃ o, t = .int .i64 o ∧ -1 ≤ o ∧ o ≤ 64 ∧ Hl W2 b mw l' o 0 V) (fun t _ => (64 - _root_.Go.RowKit.intOf t).toNat)
      case atStart => exact ⟨-1, rfl, by omega, by omega, hH0⟩
      case round =>
        obtain ⟨o, rfl, ho1, ho2, hH⟩ := hrel
        clear hH0
        by_cases ho : o < 64
        · have j2 : decide (o < 64) = true := decide_eq_true ho
          have HR := Lib.hid (hH.rows hl40)
          clear hH
          go_wp2_with fail
          refine (HR.out).mono ?_
          rintro e V ⟨A3, c3, rfl, hX0⟩
          obtain ⟨B3, hB3⟩ : ∃ B3, B3 = wr.heap.size := ⟨_, rfl⟩
          rw [← hB3] at hX0
          clear hB3 HR
          obtain ⟨R, hRl⟩ : ∃ R, R = (ofO l' o).length := ⟨_, rfl⟩
          have HRL := Lib.hid hRl
          have hR40 : R ≤ 40 := by
            have : (ofO l' o).length ≤ l'.length := List.length_filter_le _ _
            omega
          rw [← hRl]
          clear hRl
          go_wp2_with fail
          go_loopw [12] (fun t V => ∃ j : Nat, t = .int .i64 (j : Int) ∧ j ≤ R ∧ RowsX W2 b mw l' o B3 A3 c3 j V) (fun t _ => R - (_root_.Go.RowKit.intOf t).toNat)
          case atStart => exact ⟨0, rfl, Nat.zero_le _, hX0⟩
          case round =>
            obtain ⟨j, rfl, hj, hX⟩ := hrel
            clear hX0
            by_cases hlt : j < R
            · have i0 : (0 : Int) ≤ (j : Int) := by omega
              have i1 : (j : Int) < (R : Int) := by omega
              have j1 : decide ((j : Int) < (R : Int)) = true := decide_eq_true i1
              obtain ⟨ad, F, D, rfl, c1, c3', hF, hlk, hown, hst⟩ := hX.row hl40 (by rw [← HRL.out]; exact hlt)
              have hkey := keyZ hF
              have hval : plainElem (H := Unit) Try.prog 3 (.int .i64 1) = some (.lit (.int .i64 1), []) := plainElem_int Try.underlying3 (by decide)
              have hne : (o != o) = false := by simp
              have HST := Lib.hid hst
              clear hst hX hlt hF
              go_wp2_with (at_mapUpdate; refine wpList_mapUpdate_own _ rfl _ _ _ 63 rfl 3 3 law Try.underlying63 _ mw 1000 D rfl hown (by decide) _ _ _ rfl rfl hkey _ _ hval ?_; intro V5 hown5 hg5; have hR5 := HST.out V5 hown5 hg5; clear hown5 hg5)
              go_roundw
              case rel => exact ⟨j + 1, by go_num, by omega, hR5⟩
              case measure => simp [_root_.Go.RowKit.intOf]; omega
            · obtain rfl : j = R := by omega
              have j1 : decide ((j : Int) < (j : Int)) = false := decide_eq_false (by omega)
              rw [HRL.out] at hX
              have HN2 := Lib.hid hX.next
              have ew : IntKind.i64.wrap (o + 1) = o + 1 := wrapI _ (by omega) (by omega)
              clear hX
              go_wp2_with fail
              go_roundw
              case rel => exact ⟨o + 1, by go_num, by omega, by omega, HN2.out⟩
              case measure => simp [_root_.Go.RowKit.intOf]; omega
        · obtain rfl : o = 64 := by omega
          have HC := Lib.hid (Tail.copy hH)
          clear hH ho ho1 ho2
          go_wp2_with fail
          refine (HC.out).mono ?_
          rintro e V1 ⟨cc, X, rfl, T1⟩
          clear HC
          have P1 := HP.out _ T1.run.below
          have x1 := P1.x1
          have x3 := P1.x3
          have x4 := P1.x4
          have x5 := P1.x5
          clear P1
          by_cases hE : mapE l' x.page x.en = 0
          · have HM := Lib.hid (T1.map_yes x.page x.en HX.out.en hE)
            rw [show enV x.en = .agg #[.int .i64 x.en.1, .int .i64 x.en.2.1, .int .i64 x.en.2.2] from rfl] at HM
            clear T1 hE
            go_wp2_with fail
            refine (HM.out).mono ?_
            rintro e V2 ⟨rfl, hb2, hU⟩
            have HU := Lib.hid hU
            have x1 := (HP.out _ hb2).x1
            clear HM hb2 hU
            go_wp2_with fail
            refine (hnum.out _ _).mono ?_
            rintro e wn ⟨rfl, rfl⟩
            go_wp2_with fail
            refine (HU.out).mono ?_
            rintro e V3 ⟨rfl, T3⟩
            have T4 := T3.more (below1 V3 (.cells #[.int .i64 x.en.1, .int .i64 x.en.2.1, .int .i64 x.en.2.2] 34))
            have P4 := HP.out _ T4.run.below
            have x3 := P4.x3
            have x4 := P4.x4
            have x5 := P4.x5
            have y3 : (x.en.1 == x.en.1) = true := beq_self_eq_true _
            have y4 : (x.en.2.1 == x.en.2.1) = true := beq_self_eq_true _
            have y5 : (x.en.2.2 == x.en.2.2) = true := beq_self_eq_true _
            clear T3 P4 HU
            go_wp2_with fail
            refine (hnum.out _ _).mono ?_
            rintro e wn ⟨rfl, rfl⟩
            obtain ⟨V4, hV4⟩ : ∃ V4, V4 = V3.alloc (.cells #[.int .i64 x.en.1, .int .i64 x.en.2.1, .int .i64 x.en.2.2] 34) := ⟨_, rfl⟩
            rw [← hV4] at T4 ⊢
            clear hV4 x1 x3 x4 x5 y3 y4 y5
            have P5 := HP.out _ T4.run.below
            have r0 := P5.r0
            have r1 := P5.r1
            have HNX := Lib.hid (T4.nxt HN.out ha0)
            clear P5 T4
            go_wp2_with fail
            refine (HNX.out).mono ?_
            rintro e V5 ⟨rfl, T5⟩
            have r0 := (HP.out _ T5.run.below).r0
            have HSM := Lib.hid T5.same
            clear T5 HNX
            go_wp2_with fail
            refine (HSM.out).mono ?_
            rintro e V6 ⟨rfl, T6⟩
            have r0 := (HP.out _ T6.run.below).r0
            have dN : decide (N < a) = false := decide_eq_false (by have := HN.out.ge; omega)
            have hml := T6.map.len T6.run.ok
            have HLN := Lib.hid T6.len
            have HT6 := Lib.hid T6
            obtain ⟨L, hLe⟩ : ∃ L, L = (l'.length : Int) := ⟨_, rfl⟩
            rw [← hLe] at HLN
            simp only [← hLe] at hml
            have hLL : (L != L) = false := by simp
            clear T6 HSM hLe
            go_wp2_with fail
            refine (HLN.out).mono ?_
            rintro e V7 ⟨rfl, rfl⟩
            go_wp2_with fail
            clear hml HLN r0
            go_loopw [18] (fun t V => ∃ y, t = .int .i64 y ∧ a ≤ y ∧ y ≤ N + 1 ∧ Tail W2 b mw cc l' l' V X) (fun t _ => (4302 - _root_.Go.RowKit.intOf t).toNat)
            case atStart => exact ⟨a, rfl, by omega, by have := HN.out.ge; omega, HT6.out⟩
            case round =>
              obtain ⟨y, rfl, hy1, hy2, TT⟩ := hrel
              clear HT6
              have htop := HN.out.top
              have PP := HP.out _ TT.run.below
              have r0 := PP.r0
              have r1 := PP.r1
              have HE := Lib.hid (HB.out _ TT.run.below)
              have ew : IntKind.i64.wrap (y - a) = y - a := wrapI _ (by omega) (by omega)
              have ew1 : IntKind.i64.wrap (y + 1) = y + 1 := wrapI _ (by omega) (by omega)
              by_cases hyN : y ≤ N
              · have g1 : decide (y ≤ N) = true := decide_eq_true hyN
                by_cases hy4 : y - a < 400
                · have g2 : decide (y - a < 400) = true := decide_eq_true hy4
                  have HF := Lib.hid (TT.free HN.out y hy1 hyN)
                  by_cases hyE : y = N
                  · have g3 : (y == N) = true := by rw [beq_iff_eq]; exact hyE
                    rw [decide_eq_true hyE] at HF
                    clear TT PP hyE
                    go_wp2_with fail
                    refine (HF.out).mono ?_
                    rintro e V8 ⟨rfl, T8⟩
                    go_wp2_with fail
                    refine (hnum.out _ _).mono ?_
                    rintro e wn ⟨rfl, rfl⟩
                    go_wp2_with fail
                    go_roundw
                    case rel => exact ⟨y + 1, by go_num, by omega, by omega, T8⟩
                    case measure => simp [_root_.Go.RowKit.intOf]; omega
                  · have g3 : (y == N) = false := by rw [beq_eq_false_iff_ne]; exact hyE
                    rw [decide_eq_false hyE] at HF
                    clear TT PP hyE
                    go_wp2_with fail
                    refine (HF.out).mono ?_
                    rintro e V8 ⟨rfl, T8⟩
                    go_wp2_with fail
                    refine (hnum.out _ _).mono ?_
                    rintro e wn ⟨rfl, rfl⟩
                    go_wp2_with fail
                    go_roundw
                    case rel => exact ⟨y + 1, by go_num, by omega, by omega, T8⟩
                    case measure => simp [_root_.Go.RowKit.intOf]; omega
                · have g2 : decide (y - a < 400) = false := decide_eq_false hy4
                  clear TT PP
                  go_wp2_with (go_at_call 8; refine (hwk.out _).mono ?_; rintro e w9 ⟨rfl, hb9⟩)
                  go_ret
                  exact ⟨rfl, below0 HE.out hb9⟩
              · have g1 : decide (y ≤ N) = false := decide_eq_false hyN
                clear TT PP
                go_wp2_with (go_at_call 8; refine (hwk.out _).mono ?_; rintro e w9 ⟨rfl, hb9⟩)
                go_ret
                exact ⟨rfl, below0 HE.out hb9⟩
          · have HM := Lib.hid (T1.map_no x.page x.en HX.out.en hE)
            rw [show enV x.en = .agg #[.int .i64 x.en.1, .int .i64 x.en.2.1, .int .i64 x.en.2.2] from rfl] at HM
            obtain ⟨E, hEq⟩ : ∃ E, E = mapE l' x.page x.en := ⟨_, rfl⟩
            rw [← hEq] at hE HM
            have d0 : ((E : Int) == 0) = false := by rw [beq_eq_false_iff_ne]; omega
            clear T1 hE hEq
            go_wp2_with fail
            refine (HM.out).mono ?_
            rintro e V2 ⟨rfl, T2⟩
            clear x1 x3 x4 x5 HM
            go_wp2_with fail
            refine (hnum.out _ _).mono ?_
            rintro e wn ⟨rfl, rfl⟩
            have P5 := HP.out _ T2.run.below
            have r0 := P5.r0
            have r1 := P5.r1
            have HNX := Lib.hid (T2.nxt HN.out ha0)
            clear P5 T2
            go_wp2_with fail
            refine (HNX.out).mono ?_
            rintro e V5 ⟨rfl, T5⟩
            have r0 := (HP.out _ T5.run.below).r0
            have HSM := Lib.hid T5.same
            clear T5 HNX
            go_wp2_with fail
            refine (HSM.out).mono ?_
            rintro e V6 ⟨rfl, T6⟩
            have r0 := (HP.out _ T6.run.below).r0
            have dN : decide (N < a) = false := decide_eq_false (by have := HN.out.ge; omega)
            have hml := T6.map.len T6.run.ok
            have HLN := Lib.hid T6.len
            have HT6 := Lib.hid T6
            obtain ⟨L, hLe⟩ : ∃ L, L = (l'.length : Int) := ⟨_, rfl⟩
            rw [← hLe] at HLN
            simp only [← hLe] at hml
            have hLL : (L != L) = false := by simp
            clear T6 HSM hLe
            go_wp2_with fail
            refine (HLN.out).mono ?_
            rintro e V7 ⟨rfl, rfl⟩
            go_wp2_with fail
            clear hml HLN r0
            go_loopw [18] (fun t V => ∃ y, t = .int .i64 y ∧ a ≤ y ∧ y ≤ N + 1 ∧ Tail W2 b mw cc l' l' V X) (fun t _ => (4302 - _root_.Go.RowKit.intOf t).toNat)
            case atStart => exact ⟨a, rfl, by omega, by have := HN.out.ge; omega, HT6.out⟩
            case round =>
              obtain ⟨y, rfl, hy1, hy2, TT⟩ := hrel
              clear HT6
              have htop := HN.out.top
              have PP := HP.out _ TT.run.below
              have r0 := PP.r0
              have r1 := PP.r1
              have HE := Lib.hid (HB.out _ TT.run.below)
              have ew : IntKind.i64.wrap (y - a) = y - a := wrapI _ (by omega) (by omega)
              have ew1 : IntKind.i64.wrap (y + 1) = y + 1 := wrapI _ (by omega) (by omega)
              by_cases hyN : y ≤ N
              · have g1 : decide (y ≤ N) = true := decide_eq_true hyN
                by_cases hy4 : y - a < 400
                · have g2 : decide (y - a < 400) = true := decide_eq_true hy4
                  have HF := Lib.hid (TT.free HN.out y hy1 hyN)
                  by_cases hyE : y = N
                  · have g3 : (y == N) = true := by rw [beq_iff_eq]; exact hyE
                    rw [decide_eq_true hyE] at HF
                    clear TT PP hyE
                    go_wp2_with fail
                    refine (HF.out).mono ?_
                    rintro e V8 ⟨rfl, T8⟩
                    go_wp2_with fail
                    refine (hnum.out _ _).mono ?_
                    rintro e wn ⟨rfl, rfl⟩
                    go_wp2_with fail
                    go_roundw
                    case rel => exact ⟨y + 1, by go_num, by omega, by omega, T8⟩
                    case measure => simp [_root_.Go.RowKit.intOf]; omega
                  · have g3 : (y == N) = false := by rw [beq_eq_false_iff_ne]; exact hyE
                    rw [decide_eq_false hyE] at HF
                    clear TT PP hyE
                    go_wp2_with fail
                    refine (HF.out).mono ?_
                    rintro e V8 ⟨rfl, T8⟩
                    go_wp2_with fail
                    refine (hnum.out _ _).mono ?_
                    rintro e wn ⟨rfl, rfl⟩
                    go_wp2_with fail
                    go_roundw
                    case rel => exact ⟨y + 1, by go_num, by omega, by omega, T8⟩
                    case measure => simp [_root_.Go.RowKit.intOf]; omega
                · have g2 : decide (y - a < 400) = false := decide_eq_false hy4
                  clear TT PP
                  go_wp2_with (go_at_call 8; refine (hwk.out _).mono ?_; rintro e w9 ⟨rfl, hb9⟩)
                  go_ret
                  exact ⟨rfl, below0 HE.out hb9⟩
              · have g1 : decide (y ≤ N) = false := decide_eq_false hyN
                clear TT PP
                go_wp2_with (go_at_call 8; refine (hwk.out _).mono ?_; rintro e w9 ⟨rfl, hb9⟩)
                go_ret
                exact ⟨rfl, below0 HE.out hb9⟩
end Go.Proofs.Ytmocdokikcbjeaa
