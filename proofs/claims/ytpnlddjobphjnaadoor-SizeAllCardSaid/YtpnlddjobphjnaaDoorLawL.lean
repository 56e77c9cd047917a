import Derived.Test.YtpnlddjobphjnaaDoorCollect
import Derived.Test.YtpnlddjobphjnaaDoorKWorks
namespace Go.Proofs.YtpnlddjobphjnaaDoor
open Go.RowKit

theorem flat_get : ∀ (m k : Nat), k < m → (flat (List.range m))[k * 2]? = some (.int .i64 (k : Int)) ∧ (flat (List.range m))[k * 2 + 1]? = some (.int .i64 (pay k : Int))
  | 0, _, h => absurd h (Nat.not_lt_zero _)
  | m + 1, k, h => by
    rw [List.range_succ, flat_snoc]
    have hl : (flat (List.range m)).length = m * 2 := by rw [flat_length, List.length_range]
    by_cases hk : k < m
    · obtain ⟨h1, h2⟩ := flat_get m k hk
      rw [List.getElem?_append_left (by omega), List.getElem?_append_left (by omega)]
      exact ⟨h1, h2⟩
    · obtain rfl : k = m := by omega
      rw [List.getElem?_append_right (by omega), List.getElem?_append_right (by omega), hl]
      simp

/-- two pairs of numbers are compared -/
theorem eq_pair (a b c d : Int) (w : World) : (Op.equalIn 10000 45 (.agg #[.int .i64 a, .int .i64 b]) (.agg #[.int .i64 c, .int .i64 d])).run Tryd.prog w = .ok (a == c && b == d) w := by
  have u3 := Tryd.underlying3
  have a3 := Tryd.isAgg3
  have z3 := Tryd.sizeOf3
  rw [show (10000 : Nat) = 9999 + 1 from rfl, Op.equalIn]
  simp only [Sem.run_bind, run_underlying Tryd.underlying45, Result.andThen_ok]
  simp only [Std.Legacy.Range.forIn_eq_forIn_range', Std.Legacy.Range.size, Nat.sub_zero, Nat.add_sub_cancel, Nat.div_one, List.range'_succ, List.range'_zero, List.forIn_cons, List.forIn_nil]
  go_simp
  by_cases h1 : a = c <;> by_cases h2 : b = d <;> simp [h1, h2]

set_option maxRecDepth 100000 in
set_option maxHeartbeats 1000000 in
theorem sizeAll_far (many : Int) (w : World) (ht : Tab w) (hm : many < 1 ∨ 20 < many) :
    Calls Tryd.prog 7 #[.int .i64 many] w fun e w' => e = .returned (.bool true) ∧ Below w.heap.size w w' := by
  by_cases h1 : many < 1
  · have e1 : decide (many < 1) = true := decide_eq_true h1
    clear hm h1
    go_enter Tryd.func7, Tryd.ntmps7
    go_wp2_with fail
    refine (works_any _ ht).mono ?_
    rintro r w1 ⟨rfl, hb1⟩
    go_wp2_with fail
    go_ret
    exact ⟨rfl, hb1⟩
  · have e1 : decide (many < 1) = false := decide_eq_false h1
    have e2 : decide (20 < many) = true := decide_eq_true (by omega)
    clear hm h1
    go_enter Tryd.func7, Tryd.ntmps7
    go_wp2_with fail
    refine (works_any _ ht).mono ?_
    rintro r w1 ⟨rfl, hb1⟩
    go_wp2_with fail
    go_ret
    exact ⟨rfl, hb1⟩

set_option maxRecDepth 100000 in
set_option maxHeartbeats 2000000 in
theorem sizeAll_near (many : Nat) (w : World) (ht : Tab w) (hm1 : 1 ≤ many) (hm : many ≤ 20) :
    Calls Tryd.prog 7 #[.int .i64 (many : Int)] w fun e w' => e = .returned (.bool true) ∧ Below w.heap.size w w' := by
  have hcl := Lib.hid (classes_any many w ht hm1 hm)
  have e1 : decide ((many : Int) < 1) = false := decide_eq_false (by omega)
  have e2 : decide (20 < (many : Int)) = false := decide_eq_false (by omega)
  have e1' : decide (many < 1) = false := decide_eq_false (by omega)
  have e2' : decide (20 < many) = false := decide_eq_false (by omega)
  have hmin : (if (many : Int) < 8 then (many : Int) else 8) = ((min 8 many : Nat) : Int) := by split <;> omega
  have hmm : min 8 many ≤ 8 := by omega
  have HT := Lib.hid ht
  obtain ⟨m, hmd⟩ : ∃ m, m = min 8 many := ⟨_, rfl⟩
  have HM := Lib.hid hmd
  rw [← hmd] at hmin hmm
  clear hmd hm1 hm ht
  go_enter Tryd.func7, Tryd.ntmps7
  go_wp2_with fail
  refine (hcl.out).mono ?_
  rintro r w1 ⟨v, xs, rfl, hgot, hown, hB1⟩
  have hx : xs = List.range m := by rw [HM.out]; exact hgot
  subst hx
  rw [List.length_range] at hown
  have ht1 := HT.out.below hB1
  obtain ⟨A, c, rfl⟩ := own_slice hown
  clear hgot hcl e1 e2 e1' e2'
  go_wp2_with fail
  go_loopw [4] (fun i wr => ∃ k : Nat, k ≤ m ∧ i = .int .i64 k ∧ Below w1.heap.size w1 wr) (fun i _ => m - (intOf i).toNat)
  case atStart => exact ⟨0, Nat.zero_le _, rfl, Below.refl _ _⟩
  case round =>
    obtain ⟨k, hk, rfl, hb⟩ := hrel
    by_cases hlt : k < m
    · have hownr := own_below hown hb (Nat.le_refl _)
      obtain ⟨g, cap, hv, _, hgl⟩ := hownr.form (by omega)
      injection hv with hA _ hc
      clear hc
      subst hA
      have c0 := (hownr.cellAt (k * 2) (by omega)).trans (flat_get m k hlt).1
      have c1 := (hownr.cellAt (k * 2 + 1) (by omega)).trans (flat_get m k hlt).2
      have hr := Lib.hid (fun w => refpay_yes k w (by omega))
      have hl1 : decide (k < m) = true := decide_eq_true hlt
      have hl2 : decide ((k : Int) < (m : Int)) = true := decide_eq_true (by omega)
      have hl3 : (k : Int) < (m : Int) := by omega
      have wk : IntKind.i64.wrap ((k : Int) + 1) = ((k + 1 : Nat) : Int) := wrapI ((k + 1 : Nat) : Int) (by omega) (by omega)
      obtain ⟨p, hp⟩ : ∃ p, p = pay k := ⟨_, rfl⟩
      rw [← hp] at hr c1
      have heq := fun w => eq_pair (k : Int) (p : Int) (k : Int) (p : Int) w
      simp only [BEq.rfl, Bool.and_self] at heq
      clear hp hownr
      go_wp2_with fail
      go_quiet ((go_at_call 12; exact quiet_l (hr.out _)))
      go_wp2_with fail
      go_roundw
      case rel => exact ⟨k + 1, by omega, by go_num, below_drewN hb _⟩
      case measure => simp [intOf]; omega
    · obtain rfl : k = m := by omega
      have hBr := hB1.trans (hb.mono hB1.size)
      go_wp2_with fail
      refine (works_any _ (ht1.below hb)).mono ?_
      rintro r w2 ⟨rfl, hb2⟩
      go_wp2_with fail
      go_ret
      exact ⟨rfl, below0 hBr hb2⟩

theorem sizeAll_any (n : Int) (w : World) (ht : Tab w) : Calls Tryd.prog 7 #[.int .i64 n] w fun e w' => e = .returned (.bool true) ∧ Below w.heap.size w w' := by
  by_cases h : n < 1 ∨ 20 < n
  · exact sizeAll_far n w ht h
  · obtain ⟨m, rfl⟩ : ∃ m : Nat, n = m := ⟨n.toNat, by omega⟩
    exact sizeAll_near m w ht (by omega) (by omega)
end Go.Proofs.YtpnlddjobphjnaaDoor
