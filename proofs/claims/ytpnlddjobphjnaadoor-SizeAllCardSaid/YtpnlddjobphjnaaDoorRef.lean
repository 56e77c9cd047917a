import Derived.Test.YtpnlddjobphjnaaDoorSum
namespace Go.Proofs.YtpnlddjobphjnaaDoor
open Go.RowKit

/- the document's answers: sums, products, logarithms -/
set_option maxHeartbeats 400000 in
theorem reftimes_zero (b : Nat) (w : World) : Calls Tryd.prog 45 #[.int .u64 0, .int .u64 (b : Int)] w fun e w' => e = .returned (.tuple #[.int .u64 0, .bool true]) ∧ w = w' := by
  go_enter Tryd.func45, Tryd.ntmps45
  go_wp2
  go_ret2
  exact ⟨rfl, rfl⟩
theorem div_bound {a b : Nat} (ha : 0 < a) : (18446744073709551615 / a < b) ↔ big ≤ a * b := by
  rw [Nat.div_lt_iff_lt_mul ha, big, Nat.mul_comm]
  omega
set_option maxHeartbeats 400000 in
theorem reftimes_ok (a b : Nat) (w : World) (ha : 0 < a) (h : a * b < big) : Calls Tryd.prog 45 #[.int .u64 (a : Int), .int .u64 (b : Int)] w fun e w' => e = .returned (.tuple #[.int .u64 ((a * b : Nat) : Int), .bool true]) ∧ w = w' := by
  have h0 : ((a : Int) != 0) = true := by simp; omega
  have h00 : ¬ (a : Int) = 0 := by omega
  have h1 : (18446744073709551615 : Int) / (a : Int) = ((18446744073709551615 / a : Nat) : Int) := rfl
  have h2 : decide ((18446744073709551615 : Int) / (a : Int) < (b : Int)) = false := by
    rw [h1, decide_eq_false_iff_not]
    intro h4
    have := (div_bound (b := b) ha).1 (by omega)
    omega
  clear h1
  have h3 : IntKind.u64.wrap ((a : Int) * (b : Int)) = ((a * b : Nat) : Int) := wrapN (a * b) h
  obtain ⟨c, hc⟩ : ∃ c, c = a * b := ⟨_, rfl⟩
  rw [← hc] at h3 ⊢
  clear hc h ha
  go_enter Tryd.func45, Tryd.ntmps45
  go_wp2
  go_ret2
  exact ⟨rfl, rfl⟩
set_option maxHeartbeats 400000 in
theorem reftimes_over (a b : Nat) (w : World) (ha : 0 < a) (h : big ≤ a * b) : Calls Tryd.prog 45 #[.int .u64 (a : Int), .int .u64 (b : Int)] w fun e w' => e = .returned (.tuple #[.int .u64 0, .bool false]) ∧ w = w' := by
  have h0 : ((a : Int) != 0) = true := by simp; omega
  have h00 : ¬ (a : Int) = 0 := by omega
  have h1 : (18446744073709551615 : Int) / (a : Int) = ((18446744073709551615 / a : Nat) : Int) := rfl
  have h2 : decide ((18446744073709551615 : Int) / (a : Int) < (b : Int)) = true := by
    rw [h1, decide_eq_true_eq]
    have := (div_bound (b := b) ha).2 h
    omega
  clear h1 h ha
  go_enter Tryd.func45, Tryd.ntmps45
  go_wp2
  go_ret2
  exact ⟨rfl, rfl⟩

set_option maxHeartbeats 1000000 in
theorem refmul_any (l : List Nat) (n c : Nat) (A : Option Addr) (B : Nat) (w : World) (hn : l.length = n) (hm : n ≤ 9223372036854775807) (hr : Sees w B A (nums l)) :
    Calls Tryd.prog 35 #[.slice A n c] w fun e w' => e = .returned (.tuple #[.int .u64 (tellN (prodL l) : Int), .int .i64 (tellE (prodL l))]) ∧ w = w' := by
  subst hn
  go_enter Tryd.func35, Tryd.ntmps35
  go_wp2_with fail
  go_loop [4] (fun i => ∃ k : Nat, k ≤ l.length ∧ i = .int .i64 k ∧ Hid (∀ j (h : j < l.length), j < k → 0 < l[j])) (fun i => l.length - (intOf i).toNat)
  case atStart => exact ⟨0, Nat.zero_le _, rfl, Lib.hid fun _ _ h => absurd h (by omega)⟩
  case round =>
    obtain ⟨k, hk, rfl, H⟩ := hrel
    by_cases hlt : k < l.length
    · obtain ⟨ad, rfl, hadb, hcell⟩ := hr.num hlt
      obtain ⟨x, hx⟩ : ∃ x, x = l[k] := ⟨_, rfl⟩
      have HX := Lib.hid hx
      rw [← hx] at hcell
      clear hx
      by_cases h0 : x = 0
      · subst h0
        go_wp2_with fail
        go_ret2
        have hp : prodL l = 0 := prodL_zero l k hlt HX.out.symm
        exact ⟨by rw [hp]; rfl, rfl⟩
      · have hb : ((x : Int) == 0) = false := beq_eq_false_iff_ne.2 (by omega)
        have HZ := Lib.hid h0
        clear h0
        go_wp2_with fail
        go_round
        case rel => exact ⟨k + 1, by omega, by go_num, Lib.hid fun j hj hjk => by
          by_cases e : j = k
          · subst e
            have h1 := HX.out
            have h2 := HZ.out
            omega
          · exact H.out j hj (by omega)⟩
        case measure => simp [intOf]; omega
    · obtain rfl : k = l.length := by omega
      have HP : Hid (∀ x ∈ l, 0 < x) := Lib.hid fun x hx => by
        obtain ⟨j, hj, rfl⟩ := List.mem_iff_getElem.1 hx
        exact H.out j hj hj
      go_wp2_with fail
      go_loop [5, 6] (fun s i => ∃ k : Nat, k ≤ l.length ∧ i = .int .i64 k ∧ ∃ S : Nat, s = .int .u64 (S : Int) ∧ Hid (S = prodL (l.take k) ∧ S < big)) (fun _ i => l.length - (intOf i).toNat)
      case atStart => exact ⟨0, Nat.zero_le _, rfl, 1, rfl, Lib.hid ⟨by simp [prodL], by simp [big]⟩⟩
      case round =>
        obtain ⟨k, hk, rfl, S, rfl, H⟩ := hrel
        by_cases hlt : k < l.length
        · obtain ⟨ad, rfl, hadb, hcell⟩ := hr.num hlt
          have hsucc := Lib.hid (prodL_succ hlt)
          have HS : Hid (0 < S) := Lib.hid (by
            rw [H.out.1]
            exact prodL_pos _ fun x hx => HP.out x (List.mem_of_mem_take hx))
          obtain ⟨x, hx⟩ : ∃ x, x = l[k] := ⟨_, rfl⟩
          rw [← hx] at hcell hsucc
          clear hx
          by_cases ho : S * x < big
          · have HO := Lib.hid ho
            clear ho
            go_wp2_with fail
            refine (reftimes_ok S x _ HS.out HO.out).mono ?_
            rintro e w1 ⟨rfl, rfl⟩
            go_wp2_with fail
            go_round
            case rel => exact ⟨k + 1, by omega, by go_num, S * x, by go_num, Lib.hid ⟨by rw [hsucc.out, ← H.out.1], HO.out⟩⟩
            case measure => simp [intOf]; omega
          · have HO := Lib.hid ho
            clear ho
            go_wp2_with fail
            refine (reftimes_over S x _ HS.out (by have := HO.out; omega)).mono ?_
            rintro e w1 ⟨rfl, rfl⟩
            go_wp2_with fail
            go_ret2
            have hle : ¬ prodL l < big := by
              have h1 := prodL_le l (k + 1) HP.out
              have h2 := hsucc.out
              have h4 := HO.out
              rw [h2, ← H.out.1] at h1
              omega
            exact ⟨by rw [tellN, tellE, if_neg hle, if_neg hle]; rfl, rfl⟩
        · obtain rfl : k = l.length := by omega
          go_wp2_with fail
          go_ret2
          have h1 := H.out
          rw [List.take_length] at h1
          exact ⟨by rw [tellN, tellE, ← h1.1, if_pos h1.2, if_pos h1.2]; rfl, rfl⟩
end Go.Proofs.YtpnlddjobphjnaaDoor
