import Derived.Test.YtmocdokikcbjeaaFree
namespace Go.Proofs.Ytmocdokikcbjeaa
open Go.RowKit Go.Shelf Go.Maps
attribute [local go_sem] Oper.semAt_some

/- NEXT. -/
set_option maxHeartbeats 1000000 in
theorem next_non (v : Value) (a m : Int) (w : World) (h : Non w v) : Calls Try.prog 19 #[v, .int .i64 a, .int .i64 m] w fun e w' => e = .returned (.tuple #[.int .i64 0, .bool false]) ∧ w = w' := by
  have h1 := Lib.hid (there_non v w h)
  obtain ⟨pv, rfl⟩ : ∃ pv, v = .pointer pv := by
    rcases h with rfl | ⟨b, rfl, _⟩
    · exact ⟨_, rfl⟩
    · exact ⟨_, rfl⟩
  clear h
  by_cases g : 0 ≤ a
  · skip
    go_enter Try.func19, Try.ntmps19
    go_wp2_with fail
    refine wp_scope_jump 1 fun R hR hJm => ?_
    go_wp2_with fail
    refine h1.out.mono ?_
    rintro e w1 ⟨rfl, rfl⟩
    go_wp2_with fail
    refine wp_goto (hJm.out _ _ _ _ _ rfl ?_)
    go_wp2_with fail
    refine hR.out _ _ _ _ (by simp) ?_
    go_ret2
    exact ⟨rfl, rfl⟩
  · have g : a < 0 := by omega
    go_enter Try.func19, Try.ntmps19
    go_wp2_with fail
    refine wp_scope_jump 1 fun R hR hJm => ?_
    go_wp2_with fail
    refine h1.out.mono ?_
    rintro e w1 ⟨rfl, rfl⟩
    go_wp2_with fail
    refine wp_goto (hJm.out _ _ _ _ _ rfl ?_)
    go_wp2_with fail
    refine hR.out _ _ _ _ (by simp) ?_
    go_ret2
    exact ⟨rfl, rfl⟩
set_option maxHeartbeats 2000000 in
theorem next_any {b bp bf : Nat} {l : Tb} {w : World} (h : Rep w b l bp bf) (a m : Int) : Calls Try.prog 19 #[bx b, .int .i64 a, .int .i64 m] w fun e w' => e = .returned (.tuple #[.int .i64 (if 0 ≤ nextI l a m then nextI l a m else 0), .bool (decide (0 ≤ nextI l a m))]) ∧ Below w.heap.size w w' := by
  have h1 := Lib.hid (there_map b bp w h.c0)
  have HB := Lib.hid (Below.refl w.heap.size w)
  by_cases hm : m < 1
  · have hn : nextI l a m = -1 := by unfold nextI; rw [if_pos (.inl hm)]
    rw [hn, if_neg (by decide), show decide ((0 : Int) ≤ -1) = false from rfl]
    have hd : decide (m < 1) = true := decide_eq_true hm
    clear hn h hm
    by_cases g : 0 ≤ a
    · skip
      go_enter Try.func19, Try.ntmps19
      go_wp2_with fail
      refine wp_scope_jump 1 fun R hR hJm => ?_
      go_wp2_with fail
      refine h1.out.mono ?_
      rintro e w1 ⟨rfl, rfl⟩
      go_wp2_with fail
      refine wp_goto (hJm.out _ _ _ _ _ rfl ?_)
      go_wp2_with fail
      refine hR.out _ _ _ _ (by simp) ?_
      go_ret2
      exact ⟨rfl, HB.out⟩
    · have g : a < 0 := by omega
      go_enter Try.func19, Try.ntmps19
      go_wp2_with fail
      refine wp_scope_jump 1 fun R hR hJm => ?_
      go_wp2_with fail
      refine h1.out.mono ?_
      rintro e w1 ⟨rfl, rfl⟩
      go_wp2_with fail
      refine wp_goto (hJm.out _ _ _ _ _ rfl ?_)
      go_wp2_with fail
      refine hR.out _ _ _ _ (by simp) ?_
      go_ret2
      exact ⟨rfl, HB.out⟩
  · have hd : decide (m < 1) = false := decide_eq_false hm
    have HM := Lib.hid (show 1 ≤ m by omega)
    have hok := Lib.hid h.ok
    have hr := Lib.hid h
    clear hm h
    by_cases g : 0 ≤ a
    · have HST := Lib.hid (show ∃ x : Int, Value.int .i64 a = .int .i64 x ∧ 0 ≤ x ∧ runN l (max 0 a) m = runN l x m ∧ Below w.heap.size w w from ⟨a, rfl, g, by rw [show max 0 a = a by omega], Below.refl _ _⟩)
      go_enter Try.func19, Try.ntmps19
      go_wp2_with fail
      refine wp_scope_jump 1 fun R hR hJm => ?_
      go_wp2_with fail
      refine h1.out.mono ?_
      rintro e w1 ⟨rfl, rfl⟩
      go_wp2_with fail
      go_loopw [8] (fun t wr => ∃ x : Int, t = .int .i64 x ∧ 0 ≤ x ∧ runN l (max 0 a) m = runN l x m ∧ Below w.heap.size w wr) (fun t _ => (65536 - _root_.Go.RowKit.intOf t).toNat)
      case atStart => exact HST.out
      case round =>
        obtain ⟨x, rfl, hx0, hx1, hb⟩ := hrel
        have HX := Lib.hid hx1
        have hwh := Lib.hid (fun w => whole_any x m w)
        cases hq : wholeB x m with
        | false =>
          have HO := Lib.hid (next_out HM.out hx0 hx1 hq)
          rw [hq] at hwh
          clear hx1 hq
          go_wp2_with fail
          refine (hwh.out _).mono ?_
          rintro e w1 ⟨rfl, rfl⟩
          go_wp2_with fail
          refine wp_label ?_
          go_wp2_with fail
          refine hR.out _ _ _ _ (by simp) ?_
          go_ret2
          exact ⟨by rw [HO.out]; rfl, hb⟩
        | true =>
          have HL := Lib.hid (last_any (hr.out.below hb) x m HM.out hq)
          have HQ := Lib.hid hq
          rw [hq] at hwh
          clear hx1 hq
          go_wp2_with fail
          refine (hwh.out _).mono ?_
          rintro e w1 ⟨rfl, rfl⟩
          go_wp2_with fail
          refine HL.out.mono ?_
          rintro e w1 ⟨k, q, rfl, hk, hb1⟩
          cases q with
          | false =>
            have HN := Lib.hid (next_in HM.out HX.out HQ.out hk.free)
            have hb2 := Lib.hid (below0 hb hb1)
            clear hk hb1
            go_wp2_with fail
            refine hR.out _ _ _ _ (by simp) ?_
            go_ret2
            exact ⟨by rw [HN.out.1, if_pos HN.out.2, decide_eq_true HN.out.2]; rfl, hb2.out⟩
          | true =>
            obtain ⟨k1, k2, k3⟩ := hk.yes rfl
            obtain ⟨e, he⟩ := Option.isSome_iff_exists.1 k3
            have hsk := run_skip l x m k hok.out.sorted k1 k2 ⟨e, look_some he⟩
            have hwi := whole_in HQ.out
            have ew : IntKind.i64.wrap (k + 1) = k + 1 := wrapI _ (by omega) (by omega)
            have HR := Lib.hid (show ∃ y : Int, Value.int .i64 (k + 1) = .int .i64 y ∧ 0 ≤ y ∧ runN l (max 0 a) m = runN l y m ∧ Below w.heap.size w w1 from ⟨k + 1, rfl, by omega, HX.out.trans hsk, below0 hb hb1⟩)
            have HME := Lib.hid (show x ≤ k ∧ k < 65536 by omega)
            clear hk hb1 k1 k2 k3 he hsk hwi
            go_wp2_with fail
            go_roundw
            case rel => exact HR.out
            case measure => have := HME.out; simp [_root_.Go.RowKit.intOf]; omega
    · have g : a < 0 := by omega
      have HST := Lib.hid (show ∃ x : Int, Value.int .i64 0 = .int .i64 x ∧ 0 ≤ x ∧ runN l (max 0 a) m = runN l x m ∧ Below w.heap.size w w from ⟨0, rfl, by omega, by rw [show max 0 a = 0 by omega], Below.refl _ _⟩)
      go_enter Try.func19, Try.ntmps19
      go_wp2_with fail
      refine wp_scope_jump 1 fun R hR hJm => ?_
      go_wp2_with fail
      refine h1.out.mono ?_
      rintro e w1 ⟨rfl, rfl⟩
      go_wp2_with fail
      go_loopw [8] (fun t wr => ∃ x : Int, t = .int .i64 x ∧ 0 ≤ x ∧ runN l (max 0 a) m = runN l x m ∧ Below w.heap.size w wr) (fun t _ => (65536 - _root_.Go.RowKit.intOf t).toNat)
      case atStart => exact HST.out
      case round =>
        obtain ⟨x, rfl, hx0, hx1, hb⟩ := hrel
        have HX := Lib.hid hx1
        have hwh := Lib.hid (fun w => whole_any x m w)
        cases hq : wholeB x m with
        | false =>
          have HO := Lib.hid (next_out HM.out hx0 hx1 hq)
          rw [hq] at hwh
          clear hx1 hq
          go_wp2_with fail
          refine (hwh.out _).mono ?_
          rintro e w1 ⟨rfl, rfl⟩
          go_wp2_with fail
          refine wp_label ?_
          go_wp2_with fail
          refine hR.out _ _ _ _ (by simp) ?_
          go_ret2
          exact ⟨by rw [HO.out]; rfl, hb⟩
        | true =>
          have HL := Lib.hid (last_any (hr.out.below hb) x m HM.out hq)
          have HQ := Lib.hid hq
          rw [hq] at hwh
          clear hx1 hq
          go_wp2_with fail
          refine (hwh.out _).mono ?_
          rintro e w1 ⟨rfl, rfl⟩
          go_wp2_with fail
          refine HL.out.mono ?_
          rintro e w1 ⟨k, q, rfl, hk, hb1⟩
          cases q with
          | false =>
            have HN := Lib.hid (next_in HM.out HX.out HQ.out hk.free)
            have hb2 := Lib.hid (below0 hb hb1)
            clear hk hb1
            go_wp2_with fail
            refine hR.out _ _ _ _ (by simp) ?_
            go_ret2
            exact ⟨by rw [HN.out.1, if_pos HN.out.2, decide_eq_true HN.out.2]; rfl, hb2.out⟩
          | true =>
            obtain ⟨k1, k2, k3⟩ := hk.yes rfl
            obtain ⟨e, he⟩ := Option.isSome_iff_exists.1 k3
            have hsk := run_skip l x m k hok.out.sorted k1 k2 ⟨e, look_some he⟩
            have hwi := whole_in HQ.out
            have ew : IntKind.i64.wrap (k + 1) = k + 1 := wrapI _ (by omega) (by omega)
            have HR := Lib.hid (show ∃ y : Int, Value.int .i64 (k + 1) = .int .i64 y ∧ 0 ≤ y ∧ runN l (max 0 a) m = runN l y m ∧ Below w.heap.size w w1 from ⟨k + 1, rfl, by omega, HX.out.trans hsk, below0 hb hb1⟩)
            have HME := Lib.hid (show x ≤ k ∧ k < 65536 by omega)
            clear hk hb1 k1 k2 k3 he hsk hwi
            go_wp2_with fail
            go_roundw
            case rel => exact HR.out
            case measure => have := HME.out; simp [_root_.Go.RowKit.intOf]; omega
end Go.Proofs.Ytmocdokikcbjeaa
