import Derived.Test.YtmocdokikcbjeaaRA
namespace Go.Proofs.Ytmocdokikcbjeaa
open Go.RowKit Go.Shelf Go.Maps Go.Sort
attribute [local go_sem] Oper.semAt_some

/- THE DOCUMENT's NEXT, OF, SAME. -/
theorem run_take {l : Tb} {i : Nat} (hi : i < l.length) (a m : Int) : runN (l.take (i + 1)) a m = stepR m (runN (l.take i) a m) l[i] := by
  rw [List.take_succ_eq_append_getElem hi, run_snoc]
theorem run_top : ∀ (l : Tb) (a m : Int), (∀ r ∈ l, r.1 < 65536) → runN l a m ≤ max a 65536
  | [], a, m, _ => by show a ≤ _; omega
  | r :: t, a, m, h => by
    have h1 := run_top t (stepR m a r) m fun q hq => h q (by simp [hq])
    have h2 : stepR m a r ≤ max a 65536 := by
      have := h r (by simp)
      unfold stepR
      split <;> omega
    show runN t (stepR m a r) m ≤ _
    omega
set_option maxHeartbeats 2000000 in
theorem rnext_any (l : Tb) (A : Option Addr) (n c : Nat) (a m : Int) (w : World) (hok : Tok l) (hl : l.length = n) (ha : I64 a) (hA : Lies w A l) :
    Calls Try.prog 20 #[.agg #[.slice A n c], .int .i64 a, .int .i64 m] w fun e w' => e = .returned (.int .i64 (nextI l a m)) ∧ Below w.heap.size w w' := by
  have hn : n ≤ 65536 := hl ▸ hok.len
  obtain ⟨w1, hw1⟩ : ∃ w1, w1 = w.alloc (.cells #[.slice A n c] 29) := ⟨_, rfl⟩
  have hb1 : Below w.heap.size w w1 := hw1 ▸ below1 w _
  have hc0 : w1.cell? ⟨w.heap.size, 0, none⟩ = some (.slice A n c) := by rw [hw1]; exact cell_alloc_new _ _ _ _
  have HA := Lib.hid (hA.below hb1)
  have HL := Lib.hid hl
  have HB := Lib.hid hb1
  have HX := Lib.hid hw1
  have HM := Lib.hid hn
  have HOK := Lib.hid hok
  have hN : nextI l a m = if m < 1 ∨ 65536 < m then -1 else if 65536 - m < runN l (max 0 a) m then -1 else runN l (max 0 a) m := rfl
  have hA64 := ha
  unfold I64 at hA64
  clear hb1 hw1 hA hl hn hok ha
  by_cases hm : m < 1
  · rw [if_pos (.inl hm)] at hN
    have HN := Lib.hid hN
    rw [hN]
    have d1 : decide (m < 1) = true := decide_eq_true hm
    clear hN hm
    by_cases g : 0 < a
    · have g2 : 0 ≤ a := by omega
      have g3 : ¬ (a ≤ 0) := by omega
      have g4 : ¬ (a < 0) := by omega
      have hmx : max 0 a = a := by omega
      go_enter Try.func20, Try.ntmps20
      go_wp2_with fail
      go_ret
      exact ⟨rfl, below1 w _⟩
    · have g2 : a ≤ 0 := by omega
      have hmx : max 0 a = 0 := by omega
      by_cases g3 : a = 0
      · subst g3
        go_enter Try.func20, Try.ntmps20
        go_wp2_with fail
        go_ret
        exact ⟨rfl, below1 w _⟩
      · have g4 : a < 0 := by omega
        have g5 : ¬ (0 ≤ a) := by omega
        go_enter Try.func20, Try.ntmps20
        go_wp2_with fail
        go_ret
        exact ⟨rfl, below1 w _⟩
  · have d1 : decide (m < 1) = false := decide_eq_false hm
    by_cases hm2 : 65536 < m
    · rw [if_pos (.inr hm2)] at hN
      have HN := Lib.hid hN
      rw [hN]
      have d2 : decide (65536 < m) = true := decide_eq_true hm2
      clear hN hm hm2
      by_cases g : 0 < a
      · have g2 : 0 ≤ a := by omega
        have g3 : ¬ (a ≤ 0) := by omega
        have g4 : ¬ (a < 0) := by omega
        have hmx : max 0 a = a := by omega
        go_enter Try.func20, Try.ntmps20
        go_wp2_with fail
        go_ret
        exact ⟨rfl, below1 w _⟩
      · have g2 : a ≤ 0 := by omega
        have hmx : max 0 a = 0 := by omega
        by_cases g3 : a = 0
        · subst g3
          go_enter Try.func20, Try.ntmps20
          go_wp2_with fail
          go_ret
          exact ⟨rfl, below1 w _⟩
        · have g4 : a < 0 := by omega
          have g5 : ¬ (0 ≤ a) := by omega
          go_enter Try.func20, Try.ntmps20
          go_wp2_with fail
          go_ret
          exact ⟨rfl, below1 w _⟩
    · have d2 : decide (65536 < m) = false := decide_eq_false hm2
      rw [if_neg (by omega)] at hN
      have HMM := Lib.hid (show 1 ≤ m ∧ m ≤ 65536 by omega)
      have HN := Lib.hid hN
      clear hN hm hm2
      by_cases g : 0 < a
      · have g2 : 0 ≤ a := by omega
        have g3 : ¬ (a ≤ 0) := by omega
        have g4 : ¬ (a < 0) := by omega
        have hmx : max 0 a = a := by omega
        rw [hmx] at HN
        go_enter Try.func20, Try.ntmps20
        go_wp2_with fail
        go_loopw [7, 8] (fun s7 s8 wr => ∃ i : Nat, i ≤ n ∧ s8 = .int .i64 (i : Int) ∧ s7 = .int .i64 (runN (l.take i) a m) ∧ wr = w1) (fun _ s8 _ => n - (_root_.Go.RowKit.intOf s8).toNat)
        case atStart => exact ⟨0, Nat.zero_le _, rfl, rfl, HX.out.symm⟩
        case round =>
          obtain ⟨i, hi, rfl, rfl, rfl⟩ := hrel
          have hg0 := run_ge (l.take i) a m
          have hg1 := run_top (l.take i) a m (fun r hr => (pageB_iff.1 (HOK.out.page r (List.mem_of_mem_take hr))).2)
          by_cases hlt : i < n
          · have hil : i < l.length := by rw [HL.out]; exact hlt
            obtain ⟨ad, rfl, hrow⟩ := HA.out.at_ i hil
            have k0 := hrow.c0
            have hpg := pageB_iff.1 (HOK.out.page _ (List.getElem_mem hil))
            have i0 : (0 : Int) ≤ (i : Int) := by omega
            have i1 : (i : Int) < (n : Int) := by omega
            have i2 : i < 65536 := by have := HM.out; omega
            have e0 : decide ((i : Int) < (n : Int)) = true := decide_eq_true i1
            have htk := run_take hil a m
            have hst : stepR m (runN (l.take i) a m) l[i] = if (decide (runN (l.take i) a m ≤ l[i].1) && decide (l[i].1 - runN (l.take i) a m < m)) = true then l[i].1 + 1 else runN (l.take i) a m := rfl
            rw [hst] at htk
            obtain ⟨x, hx⟩ : ∃ x, x = l[i].1 := ⟨_, rfl⟩
            obtain ⟨y, hy⟩ : ∃ y, y = runN (l.take i) a m := ⟨_, rfl⟩
            rw [← hx] at k0 hpg htk
            rw [← hy] at htk hg0 hg1 ⊢
            clear hx hy hrow hst
            by_cases hq : y ≤ x
            · have q1 : decide (y ≤ x) = true := decide_eq_true hq
              have ew : IntKind.i64.wrap (x - y) = x - y := wrapI _ (by omega) (by omega)
              have ew2 : IntKind.i64.wrap (x + 1) = x + 1 := wrapI _ (by omega) (by omega)
              by_cases hr : x - y < m
              · have q2 : decide (x - y < m) = true := decide_eq_true hr
                rw [q1, q2, Bool.and_self, if_pos rfl] at htk
                have HF := Lib.hid htk
                clear htk hq hr hpg hg0 hg1
                go_wp2_with fail
                go_roundw
                case rel => exact ⟨i + 1, by omega, by go_num, by rw [HF.out], trivial⟩
                case measure => simp [_root_.Go.RowKit.intOf]; omega
              · have q2 : decide (x - y < m) = false := decide_eq_false hr
                rw [q1, q2, if_neg (by decide)] at htk
                have HF := Lib.hid htk
                clear htk hq hr hpg hg0 hg1
                go_wp2_with fail
                go_roundw
                case rel => exact ⟨i + 1, by omega, by go_num, by rw [HF.out], trivial⟩
                case measure => simp [_root_.Go.RowKit.intOf]; omega
            · have q1 : decide (y ≤ x) = false := decide_eq_false hq
              rw [q1, Bool.false_and, if_neg (by decide)] at htk
              have HF := Lib.hid htk
              clear htk hq hpg hg0 hg1
              go_wp2_with fail
              go_roundw
              case rel => exact ⟨i + 1, by omega, by go_num, by rw [HF.out], trivial⟩
              case measure => simp [_root_.Go.RowKit.intOf]; omega
          · obtain rfl : i = n := by omega
            have he : l.take i = l := List.take_of_length_le (by rw [HL.out]; exact Nat.le_refl _)
            have hN := HN.out
            have hm1 := HMM.out
            rw [he] at hg0 hg1 ⊢
            obtain ⟨y, hy⟩ : ∃ y, y = runN l a m := ⟨_, rfl⟩
            rw [← hy] at hN hg0 hg1 ⊢
            have ew : IntKind.i64.wrap (65536 - m) = 65536 - m := wrapI _ (by omega) (by omega)
            by_cases hq : 65536 - m < y
            · have q1 : decide (65536 - m < y) = true := decide_eq_true hq
              rw [if_pos hq] at hN
              have HF := Lib.hid hN
              clear hN hq hy he hg0 hg1 hm1
              go_wp2_with fail
              go_ret
              exact ⟨by rw [HF.out]; rfl, HB.out⟩
            · have q1 : decide (65536 - m < y) = false := decide_eq_false hq
              rw [if_neg hq] at hN
              have HF := Lib.hid hN
              clear hN hq hy he hg0 hg1 hm1
              go_wp2_with fail
              go_ret
              exact ⟨by rw [HF.out]; rfl, HB.out⟩
      · have g2 : a ≤ 0 := by omega
        have hmx : max 0 a = 0 := by omega
        rw [hmx] at HN
        by_cases g3 : a = 0
        · subst g3
          go_enter Try.func20, Try.ntmps20
          go_wp2_with fail
          go_loopw [7, 8] (fun s7 s8 wr => ∃ i : Nat, i ≤ n ∧ s8 = .int .i64 (i : Int) ∧ s7 = .int .i64 (runN (l.take i) 0 m) ∧ wr = w1) (fun _ s8 _ => n - (_root_.Go.RowKit.intOf s8).toNat)
          case atStart => exact ⟨0, Nat.zero_le _, rfl, rfl, HX.out.symm⟩
          case round =>
            obtain ⟨i, hi, rfl, rfl, rfl⟩ := hrel
            have hg0 := run_ge (l.take i) 0 m
            have hg1 := run_top (l.take i) 0 m (fun r hr => (pageB_iff.1 (HOK.out.page r (List.mem_of_mem_take hr))).2)
            by_cases hlt : i < n
            · have hil : i < l.length := by rw [HL.out]; exact hlt
              obtain ⟨ad, rfl, hrow⟩ := HA.out.at_ i hil
              have k0 := hrow.c0
              have hpg := pageB_iff.1 (HOK.out.page _ (List.getElem_mem hil))
              have i0 : (0 : Int) ≤ (i : Int) := by omega
              have i1 : (i : Int) < (n : Int) := by omega
              have i2 : i < 65536 := by have := HM.out; omega
              have e0 : decide ((i : Int) < (n : Int)) = true := decide_eq_true i1
              have htk := run_take hil 0 m
              have hst : stepR m (runN (l.take i) 0 m) l[i] = if (decide (runN (l.take i) 0 m ≤ l[i].1) && decide (l[i].1 - runN (l.take i) 0 m < m)) = true then l[i].1 + 1 else runN (l.take i) 0 m := rfl
              rw [hst] at htk
              obtain ⟨x, hx⟩ : ∃ x, x = l[i].1 := ⟨_, rfl⟩
              obtain ⟨y, hy⟩ : ∃ y, y = runN (l.take i) 0 m := ⟨_, rfl⟩
              rw [← hx] at k0 hpg htk
              rw [← hy] at htk hg0 hg1 ⊢
              clear hx hy hrow hst
              by_cases hq : y ≤ x
              · have q1 : decide (y ≤ x) = true := decide_eq_true hq
                have ew : IntKind.i64.wrap (x - y) = x - y := wrapI _ (by omega) (by omega)
                have ew2 : IntKind.i64.wrap (x + 1) = x + 1 := wrapI _ (by omega) (by omega)
                by_cases hr : x - y < m
                · have q2 : decide (x - y < m) = true := decide_eq_true hr
                  rw [q1, q2, Bool.and_self, if_pos rfl] at htk
                  have HF := Lib.hid htk
                  clear htk hq hr hpg hg0 hg1
                  go_wp2_with fail
                  go_roundw
                  case rel => exact ⟨i + 1, by omega, by go_num, by rw [HF.out], trivial⟩
                  case measure => simp [_root_.Go.RowKit.intOf]; omega
                · have q2 : decide (x - y < m) = false := decide_eq_false hr
                  rw [q1, q2, if_neg (by decide)] at htk
                  have HF := Lib.hid htk
                  clear htk hq hr hpg hg0 hg1
                  go_wp2_with fail
                  go_roundw
                  case rel => exact ⟨i + 1, by omega, by go_num, by rw [HF.out], trivial⟩
                  case measure => simp [_root_.Go.RowKit.intOf]; omega
              · have q1 : decide (y ≤ x) = false := decide_eq_false hq
                rw [q1, Bool.false_and, if_neg (by decide)] at htk
                have HF := Lib.hid htk
                clear htk hq hpg hg0 hg1
                go_wp2_with fail
                go_roundw
                case rel => exact ⟨i + 1, by omega, by go_num, by rw [HF.out], trivial⟩
                case measure => simp [_root_.Go.RowKit.intOf]; omega
            · obtain rfl : i = n := by omega
              have he : l.take i = l := List.take_of_length_le (by rw [HL.out]; exact Nat.le_refl _)
              have hN := HN.out
              have hm1 := HMM.out
              rw [he] at hg0 hg1 ⊢
              obtain ⟨y, hy⟩ : ∃ y, y = runN l 0 m := ⟨_, rfl⟩
              rw [← hy] at hN hg0 hg1 ⊢
              have ew : IntKind.i64.wrap (65536 - m) = 65536 - m := wrapI _ (by omega) (by omega)
              by_cases hq : 65536 - m < y
              · have q1 : decide (65536 - m < y) = true := decide_eq_true hq
                rw [if_pos hq] at hN
                have HF := Lib.hid hN
                clear hN hq hy he hg0 hg1 hm1
                go_wp2_with fail
                go_ret
                exact ⟨by rw [HF.out]; rfl, HB.out⟩
              · have q1 : decide (65536 - m < y) = false := decide_eq_false hq
                rw [if_neg hq] at hN
                have HF := Lib.hid hN
                clear hN hq hy he hg0 hg1 hm1
                go_wp2_with fail
                go_ret
                exact ⟨by rw [HF.out]; rfl, HB.out⟩
        · have g4 : a < 0 := by omega
          have g5 : ¬ (0 ≤ a) := by omega
          go_enter Try.func20, Try.ntmps20
          go_wp2_with fail
          go_loopw [7, 8] (fun s7 s8 wr => ∃ i : Nat, i ≤ n ∧ s8 = .int .i64 (i : Int) ∧ s7 = .int .i64 (runN (l.take i) 0 m) ∧ wr = w1) (fun _ s8 _ => n - (_root_.Go.RowKit.intOf s8).toNat)
          case atStart => exact ⟨0, Nat.zero_le _, rfl, rfl, HX.out.symm⟩
          case round =>
            obtain ⟨i, hi, rfl, rfl, rfl⟩ := hrel
            have hg0 := run_ge (l.take i) 0 m
            have hg1 := run_top (l.take i) 0 m (fun r hr => (pageB_iff.1 (HOK.out.page r (List.mem_of_mem_take hr))).2)
            by_cases hlt : i < n
            · have hil : i < l.length := by rw [HL.out]; exact hlt
              obtain ⟨ad, rfl, hrow⟩ := HA.out.at_ i hil
              have k0 := hrow.c0
              have hpg := pageB_iff.1 (HOK.out.page _ (List.getElem_mem hil))
              have i0 : (0 : Int) ≤ (i : Int) := by omega
              have i1 : (i : Int) < (n : Int) := by omega
              have i2 : i < 65536 := by have := HM.out; omega
              have e0 : decide ((i : Int) < (n : Int)) = true := decide_eq_true i1
              have htk := run_take hil 0 m
              have hst : stepR m (runN (l.take i) 0 m) l[i] = if (decide (runN (l.take i) 0 m ≤ l[i].1) && decide (l[i].1 - runN (l.take i) 0 m < m)) = true then l[i].1 + 1 else runN (l.take i) 0 m := rfl
              rw [hst] at htk
              obtain ⟨x, hx⟩ : ∃ x, x = l[i].1 := ⟨_, rfl⟩
              obtain ⟨y, hy⟩ : ∃ y, y = runN (l.take i) 0 m := ⟨_, rfl⟩
              rw [← hx] at k0 hpg htk
              rw [← hy] at htk hg0 hg1 ⊢
              clear hx hy hrow hst
              by_cases hq : y ≤ x
              · have q1 : decide (y ≤ x) = true := decide_eq_true hq
                have ew : IntKind.i64.wrap (x - y) = x - y := wrapI _ (by omega) (by omega)
                have ew2 : IntKind.i64.wrap (x + 1) = x + 1 := wrapI _ (by omega) (by omega)
                by_cases hr : x - y < m
                · have q2 : decide (x - y < m) = true := decide_eq_true hr
                  rw [q1, q2, Bool.and_self, if_pos rfl] at htk
                  have HF := Lib.hid htk
                  clear htk hq hr hpg hg0 hg1
                  go_wp2_with fail
                  go_roundw
                  case rel => exact ⟨i + 1, by omega, by go_num, by rw [HF.out], trivial⟩
                  case measure => simp [_root_.Go.RowKit.intOf]; omega
                · have q2 : decide (x - y < m) = false := decide_eq_false hr
                  rw [q1, q2, if_neg (by decide)] at htk
                  have HF := Lib.hid htk
                  clear htk hq hr hpg hg0 hg1
                  go_wp2_with fail
                  go_roundw
                  case rel => exact ⟨i + 1, by omega, by go_num, by rw [HF.out], trivial⟩
                  case measure => simp [_root_.Go.RowKit.intOf]; omega
              · have q1 : decide (y ≤ x) = false := decide_eq_false hq
                rw [q1, Bool.false_and, if_neg (by decide)] at htk
                have HF := Lib.hid htk
                clear htk hq hpg hg0 hg1
                go_wp2_with fail
                go_roundw
                case rel => exact ⟨i + 1, by omega, by go_num, by rw [HF.out], trivial⟩
                case measure => simp [_root_.Go.RowKit.intOf]; omega
            · obtain rfl : i = n := by omega
              have he : l.take i = l := List.take_of_length_le (by rw [HL.out]; exact Nat.le_refl _)
              have hN := HN.out
              have hm1 := HMM.out
              rw [he] at hg0 hg1 ⊢
              obtain ⟨y, hy⟩ : ∃ y, y = runN l 0 m := ⟨_, rfl⟩
              rw [← hy] at hN hg0 hg1 ⊢
              have ew : IntKind.i64.wrap (65536 - m) = 65536 - m := wrapI _ (by omega) (by omega)
              by_cases hq : 65536 - m < y
              · have q1 : decide (65536 - m < y) = true := decide_eq_true hq
                rw [if_pos hq] at hN
                have HF := Lib.hid hN
                clear hN hq hy he hg0 hg1 hm1
                go_wp2_with fail
                go_ret
                exact ⟨by rw [HF.out]; rfl, HB.out⟩
              · have q1 : decide (65536 - m < y) = false := decide_eq_false hq
                rw [if_neg hq] at hN
                have HF := Lib.hid hN
                clear hN hq hy he hg0 hg1 hm1
                go_wp2_with fail
                go_ret
                exact ⟨by rw [HF.out]; rfl, HB.out⟩
end Go.Proofs.Ytmocdokikcbjeaa
