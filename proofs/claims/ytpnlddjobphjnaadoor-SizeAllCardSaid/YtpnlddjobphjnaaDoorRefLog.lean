import Derived.Test.YtpnlddjobphjnaaDoorRef
namespace Go.Proofs.YtpnlddjobphjnaaDoor
open Go.RowKit

theorem wrap_pow (k : Nat) : IntKind.u64.wrap (((2 ^ k % big : Nat) : Int) * 2) = ((2 ^ (k + 1) % big : Nat) : Int) := by
  rw [IntKind.wrap_u64, Nat.pow_succ, big]
  omega
theorem pow_big {k : Nat} (hk : k < 64) : 2 ^ k % big = 2 ^ k := Nat.mod_eq_of_lt (pow64 hk)

set_option maxHeartbeats 1000000 in
theorem reflog_yes (m : Nat) (w : World) (hm : m < 64) : Calls Tryd.prog 34 #[.int .u64 ((2 ^ m : Nat) : Int)] w fun e w' => e = .returned (.int .i64 (m : Int)) ∧ w = w' := by
  obtain ⟨n, hn⟩ : ∃ n, n = 2 ^ m := ⟨_, rfl⟩
  rw [← hn]
  have HN := Lib.hid hn
  clear hn
  go_enter Tryd.func34, Tryd.ntmps34
  go_wp2_with fail
  go_loop [3, 4] (fun p i => ∃ k : Nat, k ≤ m ∧ i = .int .i64 k ∧ ∃ P : Nat, p = .int .u64 (P : Int) ∧ Hid (P = 2 ^ k % big)) (fun _ i => m + 1 - (intOf i).toNat)
  case atStart => exact ⟨0, Nat.zero_le _, rfl, 1, rfl, Lib.hid (by simp [big])⟩
  case round =>
    obtain ⟨k, hk, rfl, P, rfl, H⟩ := hrel
    have hk64 : k < 64 := by omega
    by_cases he : k = m
    · subst he
      have hP : P = n := by rw [H.out, HN.out, pow_big hm]
      subst hP
      go_wp2
      go_ret
      exact ⟨rfl, rfl⟩
    · have hne : ((P : Int) == (n : Int)) = false := by
        rw [beq_eq_false_iff_ne, H.out, HN.out, pow_big hk64]
        have : 2 ^ k < 2 ^ m := Nat.pow_lt_pow_right (by omega) (by omega)
        omega
      have hne2 : ((P : Nat) == n) = false := by
        rw [beq_eq_false_iff_ne] at hne ⊢
        omega
      have hw : IntKind.u64.wrap ((P : Int) * 2) = ((2 ^ (k + 1) % big : Nat) : Int) := by rw [H.out]; exact wrap_pow k
      obtain ⟨P', hP'⟩ : ∃ P', P' = 2 ^ (k + 1) % big := ⟨_, rfl⟩
      rw [← hP'] at hw
      have HP' := Lib.hid hP'
      clear hP'
      have hlt : k < m := by omega
      clear he
      go_wp2
      go_round
      case rel => exact ⟨k + 1, by omega, by go_num, P', by go_num, HP'⟩
      case measure => simp [intOf]; omega

set_option maxHeartbeats 1000000 in
theorem reflog_no (n : Nat) (w : World) (hno : ∀ k, k < 64 → n ≠ 2 ^ k) : Calls Tryd.prog 34 #[.int .u64 (n : Int)] w fun e w' => e = .returned (.int .i64 (-1)) ∧ w = w' := by
  have HN := Lib.hid hno
  clear hno
  go_enter Tryd.func34, Tryd.ntmps34
  go_wp2_with fail
  go_loop [3, 4] (fun p i => ∃ k : Nat, k ≤ 64 ∧ i = .int .i64 k ∧ ∃ P : Nat, p = .int .u64 (P : Int) ∧ Hid (P = 2 ^ k % big)) (fun _ i => 65 - (intOf i).toNat)
  case atStart => exact ⟨0, Nat.zero_le _, rfl, 1, rfl, Lib.hid (by simp [big])⟩
  case round =>
    obtain ⟨k, hk, rfl, P, rfl, H⟩ := hrel
    by_cases he : k < 64
    · have hne : ((P : Int) == (n : Int)) = false := by
        rw [beq_eq_false_iff_ne, H.out, pow_big he]
        have := HN.out k he
        omega
      have hne2 : ((P : Nat) == n) = false := by
        rw [beq_eq_false_iff_ne] at hne ⊢
        omega
      have hw : IntKind.u64.wrap ((P : Int) * 2) = ((2 ^ (k + 1) % big : Nat) : Int) := by rw [H.out]; exact wrap_pow k
      obtain ⟨P', hP'⟩ : ∃ P', P' = 2 ^ (k + 1) % big := ⟨_, rfl⟩
      rw [← hP'] at hw
      have HP' := Lib.hid hP'
      clear hP'
      go_wp2
      go_round
      case rel => exact ⟨k + 1, by omega, by go_num, P', by go_num, HP'⟩
      case measure => simp [intOf]; omega
    · obtain rfl : k = 64 := by omega
      go_wp2
      go_ret
      exact ⟨rfl, rfl⟩
end Go.Proofs.YtpnlddjobphjnaaDoor
