import Derived.Test.YtpnlddjobphjnaaDoorFirst
import Derived.LoopTactic
namespace Go.Proofs.YtpnlddjobphjnaaDoor
open Go.RowKit

/- the document's answers: classes -/
theorem refpay_yes (k : Nat) (w : World) (hk : k < 8) : Calls Tryd.prog 12 #[.int .i64 (k : Int)] w fun e w' => e = .returned (.int .i64 (pay k : Int)) ∧ w = w' := by
  rcases (show k = 0 ∨ k = 1 ∨ k = 2 ∨ k = 3 ∨ k = 4 ∨ k = 5 ∨ k = 6 ∨ k = 7 by omega) with rfl | rfl | rfl | rfl | rfl | rfl | rfl | rfl
  all_goals
    go_enter Tryd.func12, Tryd.ntmps12
    go_wp2
    go_ret
    exact ⟨rfl, rfl⟩
theorem refpay_no (n : Int) (w : World) (hk : isK n = false) : Calls Tryd.prog 12 #[.int .i64 n] w fun e w' => e = .returned (.int .i64 (-1)) ∧ w = w' := by
  have hn : n < 0 ∨ 8 ≤ n := by simp [isK] at hk; omega
  have h0 : (n == 0) = false := beq_eq_false_iff_ne.2 (by omega)
  have h1 : (n == 1) = false := beq_eq_false_iff_ne.2 (by omega)
  have h2 : (n == 2) = false := beq_eq_false_iff_ne.2 (by omega)
  have h3 : (n == 3) = false := beq_eq_false_iff_ne.2 (by omega)
  have h4 : (n == 4) = false := beq_eq_false_iff_ne.2 (by omega)
  have h5 : (n == 5) = false := beq_eq_false_iff_ne.2 (by omega)
  have h6 : (n == 6) = false := beq_eq_false_iff_ne.2 (by omega)
  have h7 : (n == 7) = false := beq_eq_false_iff_ne.2 (by omega)
  clear hn hk
  go_enter Tryd.func12, Tryd.ntmps12
  go_wp2
  go_ret
  exact ⟨rfl, rfl⟩
theorem refslot_yes (k : Nat) (w : World) (hk : k < 8) : Calls Tryd.prog 15 #[.int .i64 (k : Int)] w fun e w' => e = .returned (.int .i64 ((pay k + 32 : Nat) : Int)) ∧ w = w' := by
  have hr := Lib.hid (fun w => refpay_yes k w hk)
  have hp := (pay_bound hk).2.1
  obtain ⟨p, hpp⟩ : ∃ p, p = pay k := ⟨_, rfl⟩
  rw [← hpp] at hr hp ⊢
  have h1 : IntKind.i64.wrap (16 + (p : Int)) = ((16 + p : Nat) : Int) := wrapI ((16 + p : Nat) : Int) (by omega) (by omega)
  have h2 : IntKind.i64.wrap (((16 + p : Nat) : Int) + 16) = ((p + 32 : Nat) : Int) := by rw [wrapI _ (by omega) (by omega)]; omega
  obtain ⟨a, ha⟩ : ∃ a, a = 16 + p := ⟨_, rfl⟩
  obtain ⟨b, hb⟩ : ∃ b, b = p + 32 := ⟨_, rfl⟩
  rw [← ha] at h1 h2
  rw [← hb] at h2 ⊢
  clear ha hb hp hpp hk
  go_enter Tryd.func15, Tryd.ntmps15
  go_wp2_with fail
  refine (hr.out _).mono ?_
  rintro e w1 ⟨rfl, rfl⟩
  go_wp2
  go_ret
  exact ⟨rfl, rfl⟩

set_option maxHeartbeats 1000000 in
theorem refcount_yes (k : Nat) (w : World) (hk : k < 8) : Calls Tryd.prog 16 #[.int .i64 (k : Int)] w fun e w' => e = .returned (.int .i64 ((4096 / (pay k + 32) : Nat) : Int)) ∧ w = w' := by
  have hr := Lib.hid (fun w => refslot_yes k w hk)
  have hp := pay_bound hk
  obtain ⟨p, hpp⟩ : ∃ p, p = pay k + 32 := ⟨_, rfl⟩
  have hp1 : 48 ≤ p ∧ p ≤ 288 := by omega
  rw [← hpp] at hr ⊢
  have HP := Lib.hid hp1
  clear hpp hp hp1 hk
  go_enter Tryd.func16, Tryd.ntmps16
  go_wp2_with fail
  go_loop [3] (fun i => ∃ j : Nat, i = .int .i64 (j : Int) ∧ Hid (j * p ≤ 4096)) (fun i => 4096 - (intOf i).toNat)
  case atStart => exact ⟨0, rfl, Lib.hid (by omega)⟩
  case round =>
    obtain ⟨j, rfl, H⟩ := hrel
    have hj : j ≤ 85 := by
      have h1 := H.out
      have h2 := HP.out
      have h3 : j * 48 ≤ j * p := Nat.mul_le_mul_left _ h2.1
      omega
    have w1 : IntKind.i64.wrap ((j : Int) + 1) = ((j + 1 : Nat) : Int) := wrapI ((j + 1 : Nat) : Int) (by omega) (by omega)
    have hm : (j + 1) * p ≤ 86 * 288 := Nat.mul_le_mul (by omega) HP.out.2
    have w2 : IntKind.i64.wrap (((j + 1 : Nat) : Int) * (p : Int)) = (((j + 1) * p : Nat) : Int) := by
      rw [← Int.natCast_mul]; exact wrapI _ (by omega) (by omega)
    obtain ⟨m, hmm⟩ : ∃ m, m = (j + 1) * p := ⟨_, rfl⟩
    rw [← hmm] at w2 hm
    have HM := Lib.hid hmm
    have hj1 : j < 4096 := by omega
    obtain ⟨j1, hj2⟩ : ∃ j1, j1 = j + 1 := ⟨_, rfl⟩
    rw [← hj2] at w1 w2
    have HJ := Lib.hid hj2
    clear hmm hj2 hj
    by_cases hle : m ≤ 4096
    · have hl : decide (m ≤ 4096) = true := decide_eq_true hle
      have hl2 : decide ((m : Int) ≤ 4096) = true := decide_eq_true (by omega)
      have HL := Lib.hid hle
      clear hle hm
      go_wp2_with fail
      refine (hr.out _).mono ?_
      rintro e w' ⟨rfl, rfl⟩
      go_wp2
      go_round
      case rel => exact ⟨j1, by go_num, Lib.hid (by rw [HJ.out, ← HM.out]; exact HL.out)⟩
      case measure => have := HJ.out; simp [intOf]; omega
    · have hl : decide (m ≤ 4096) = false := decide_eq_false hle
      have hl2 : decide ((m : Int) ≤ 4096) = false := decide_eq_false (by omega)
      have HL := Lib.hid hle
      clear hle hm
      go_wp2_with fail
      refine (hr.out _).mono ?_
      rintro e w' ⟨rfl, rfl⟩
      go_wp2
      go_ret
      refine ⟨?_, rfl⟩
      have h1 := H.out
      have h2 := HM.out
      have h3 := HL.out
      have h4 := HP.out
      have : 4096 / p = j := by
        rw [Nat.div_eq_iff (by omega)]
        rw [h2, Nat.add_mul] at h3
        omega
      rw [this]
      rfl

/-- the class that the document answers -/
def clsR (n : Int) : Int := match cls n with | some k => (k : Int) | none => -1
theorem cls_neg {n : Int} (h : n < 0) : cls n = none := by
  unfold cls
  rw [List.find?_eq_none]
  intro x _
  simp [hold]
  omega
set_option maxHeartbeats 1000000 in
theorem refclass_any (n : Int) (w : World) : Calls Tryd.prog 18 #[.int .i64 n] w fun e w' => e = .returned (.int .i64 (clsR n)) ∧ w = w' := by
  by_cases h0 : 0 ≤ n
  · have e0 : decide (0 ≤ n) = true := decide_eq_true h0
    have H0 := Lib.hid h0
    clear h0
    go_enter Tryd.func18, Tryd.ntmps18
    go_wp2_with fail
    go_loop [3] (fun i => ∃ k : Nat, k ≤ 8 ∧ i = .int .i64 (k : Int) ∧ Hid (∀ y ∈ List.range k, hold n y = false)) (fun i => 8 - (intOf i).toNat)
    case atStart => exact ⟨0, by omega, rfl, Lib.hid (by simp)⟩
    case round =>
      obtain ⟨k, hk, rfl, H⟩ := hrel
      by_cases hlt : k < 8
      · have hr := Lib.hid (fun w => refpay_yes k w hlt)
        have hd8 : decide ((k : Int) < 8) = true := decide_eq_true (by omega)
        have w1 : IntKind.i64.wrap ((k : Int) + 1) = ((k + 1 : Nat) : Int) := wrapI ((k + 1 : Nat) : Int) (by omega) (by omega)
        by_cases hh : n ≤ (pay k : Int)
        · have hl : decide (n ≤ (pay k : Int)) = true := decide_eq_true hh
          have Hc : Hid (cls n = some k) := Lib.hid (cls_some (pre := List.range k) (by rw [List.length_range, List.range_succ]) (by simpa using hlt) H.out (by simp [hold, hh, H0.out]))
          obtain ⟨p, hp⟩ : ∃ p, p = pay k := ⟨_, rfl⟩
          rw [← hp] at hr hl
          clear hp hh
          go_wp2_with fail
          refine (hr.out _).mono ?_
          rintro e w' ⟨rfl, rfl⟩
          go_wp2
          go_ret
          exact ⟨by rw [clsR, Hc.out]; rfl, rfl⟩
        · have hl : decide (n ≤ (pay k : Int)) = false := decide_eq_false hh
          have Hn : Hid (∀ y ∈ List.range (k + 1), hold n y = false) := Lib.hid fun y hy => by
            rw [List.range_succ, List.mem_append, List.mem_singleton] at hy
            rcases hy with h | h
            · exact H.out y h
            · rw [h]; simp [hold]; omega
          obtain ⟨p, hp⟩ : ∃ p, p = pay k := ⟨_, rfl⟩
          rw [← hp] at hr hl
          clear hp hh
          go_wp2_with fail
          refine (hr.out _).mono ?_
          rintro e w' ⟨rfl, rfl⟩
          go_wp2
          go_round
          case rel => exact ⟨k + 1, by omega, by go_num, Hn⟩
          case measure => simp [intOf]; omega
      · obtain rfl : k = 8 := by omega
        go_wp2
        go_ret
        exact ⟨by rw [clsR, cls_none rfl H.out]; rfl, rfl⟩
  · have e0 : decide (0 ≤ n) = false := decide_eq_false h0
    have H0 := Lib.hid h0
    clear h0
    go_enter Tryd.func18, Tryd.ntmps18
    go_wp2_with fail
    go_loop [3] (fun i => i = .int .i64 0) (fun _ => 0)
    case atStart => exact rfl
    case round =>
      subst hrel
      go_wp2
      go_ret
      exact ⟨by rw [clsR, cls_neg (by have := H0.out; omega)]; rfl, rfl⟩
end Go.Proofs.YtpnlddjobphjnaaDoor
