import Derived.Test.YtcbaocnhaabgaaaDoorWorks
import Derived.Test.YtcbaocnhaabgaaaDoorRefGet
import Derived.Test.YtcbaocnhaabgaaaDoorLent
namespace Go.Proofs.YtcbaocnhaabgaaaDoor
open Go.RowKit

theorem topOf_pow {k : Nat} (h : wid k = true) : topOf k = (256 ^ k : Nat) - 1 := by
  rcases wid_cases h with h | h | h | h
  · obtain rfl : k = 1 := by omega
    rfl
  · obtain rfl : k = 2 := by omega
    rfl
  · obtain rfl : k = 4 := by omega
    rfl
  · obtain rfl : k = 8 := by omega
    rfl
theorem div_zero_of {n k : Nat} (h : wid k = true) (hn : (n : Int) ≤ topOf k) : n / 256 ^ k = 0 := by
  rw [topOf_pow h] at hn
  exact Nat.div_eq_of_lt (by omega)
theorem div_pos_of {n k : Nat} (h : wid k = true) (hn : topOf k < (n : Int)) : ¬ n / 256 ^ k = 0 := by
  rw [topOf_pow h] at hn
  intro h0
  have := (Nat.div_eq_zero_iff_lt (Nat.pow_pos (by omega))).1 h0
  omega
theorem leVal_le : ∀ (k n : Nat), n < 256 ^ k → leVal (le k n) = n
  | 0, n, h => by simp at h; simp [le, leVal, h]
  | k + 1, n, h => by
    have hd : n / 256 < 256 ^ k := by
      rw [Nat.pow_succ] at h
      exact Nat.div_lt_of_lt_mul (by omega)
    simp only [le, leVal, leVal_le k (n / 256) hd]
    have : (UInt8.ofNat (n % 256)).toNat = n % 256 := by simp
    omega
theorem le_leVal : ∀ (l : List UInt8), le l.length (leVal l) = l
  | [] => rfl
  | b :: l => by
    have hb := b.toNat_lt
    simp only [List.length_cons, leVal, le]
    rw [show (b.toNat + 256 * leVal l) % 256 = b.toNat by omega, show (b.toNat + 256 * leVal l) / 256 = leVal l by omega, le_leVal l]
    simp
theorem leVal_lt256 (l : List UInt8) : leVal l < 256 ^ l.length := by
  have := leVal_lt l
  rw [show (256 : Nat) = 2 ^ 8 from rfl, ← Nat.pow_mul]
  exact this

theorem conv_nil (w : World) : (convert 23 9 (.slice none 0 0)).run Tryd.prog w = .ok (.string (str [])) w :=
  run_conv_sees w Tryd.underlying23 Tryd.underlying5 Tryd.underlying9 (B := 0) (l := []) rfl Sees.nil_

set_option maxHeartbeats 1000000 in
theorem wordPuts_arg (n : Nat) (k : Int) (w : World) (ht : Tab w) (hk : wid k = false) : Calls Tryd.prog 3 #[.int .u64 n, .int .i64 k] w fun e w' => e = .returned (.bool true) ∧ Below w.heap.size w w' := by
  go_enter Tryd.func3, Tryd.ntmps3
  have hk0 := Lib.hid hk
  clear hk
  go_wp2_with fail
  refine (put_arg _ _ _ ht hk0.out).mono ?_
  rintro e w1 ⟨rfl, hb1⟩
  have ht1 := ht.below hb1
  go_wp2_with fail
  refine (refput_arg _ _ _ hk0.out).mono ?_
  rintro e w2 ⟨rfl, hb2⟩
  have ht2 := ht1.below hb2
  have hB2 := hb1.trans (hb2.mono hb1.size)
  have hc := conv_nil w2
  have hstr := str_toList []
  go_wp2_with fail
  refine (num_any _ _).mono ?_
  rintro e w' ⟨rfl, rfl⟩
  go_wp2_with fail
  refine (works_any _ ht2).mono ?_
  rintro e w3 ⟨rfl, hb3⟩
  go_wp2_with fail
  go_ret
  exact ⟨rfl, hB2.trans (hb3.mono hB2.size)⟩

set_option maxHeartbeats 1000000 in
theorem wordPuts_range (n k : Nat) (w : World) (ht : Tab w) (hk : wid k = true) (hn : topOf k < (n : Int)) (h64 : n < 18446744073709551616) : Calls Tryd.prog 3 #[.int .u64 n, .int .i64 k] w fun e w' => e = .returned (.bool true) ∧ Below w.heap.size w w' := by
  have hk0 := Lib.hid hk
  have hn0 := Lib.hid hn
  have h640 := Lib.hid h64
  clear hk hn h64
  go_enter Tryd.func3, Tryd.ntmps3
  go_wp2_with fail
  refine (put_range _ _ _ ht hk0.out hn0.out).mono ?_
  rintro e w1 ⟨rfl, hb1⟩
  have ht1 := ht.below hb1
  go_wp2_with fail
  refine (refput_ok _ _ _ hk0.out h640.out).mono ?_
  rintro e w2 ⟨v, _, rfl, hb2⟩
  rw [show rpv n k v = .tuple #[.slice none 0 0, .int .i64 4] from if_neg (div_pos_of hk0.out hn0.out)]
  have ht2 := ht1.below hb2
  have hB2 := hb1.trans (hb2.mono hb1.size)
  have hc := conv_nil w2
  have hstr := str_toList []
  go_wp2_with fail
  refine (num_any _ _).mono ?_
  rintro e w' ⟨rfl, rfl⟩
  go_wp2_with fail
  refine (works_any _ ht2).mono ?_
  rintro e w3 ⟨rfl, hb3⟩
  go_wp2_with fail
  go_ret
  exact ⟨rfl, hB2.trans (hb3.mono hB2.size)⟩

set_option maxHeartbeats 1000000 in
theorem wordPuts_ok (n k : Nat) (w : World) (ht : Tab w) (hk : wid k = true) (hn : (n : Int) ≤ topOf k) (h64 : n < 18446744073709551616) : Calls Tryd.prog 3 #[.int .u64 n, .int .i64 k] w fun e w' => e = .returned (.bool true) ∧ Below w.heap.size w w' := by
  have hk0 := Lib.hid hk
  have hn0 := Lib.hid hn
  have h640 := Lib.hid h64
  clear hk hn h64
  go_enter Tryd.func3, Tryd.ntmps3
  go_wp2_with fail
  refine (put_ok _ _ _ ht hk0.out hn0.out).mono ?_
  rintro e w1 ⟨g, cap, rfl, hown1, hb1⟩
  have ht1 := ht.below hb1
  go_wp2_with fail
  refine (refput_ok _ _ _ hk0.out h640.out).mono ?_
  rintro e w2 ⟨v, hown2, rfl, hb2⟩
  rw [show rpv n k v = .tuple #[v, .int .i64 0] from if_pos (div_zero_of hk0.out hn0.out)]
  have hk1 : 0 < k := by have := wid_cases hk0.out; omega
  obtain ⟨g2, cap2, rfl, _, _⟩ := hown2.form hk1
  have ht2 := ht1.below hb2
  have hB2 := hb1.trans (hb2.mono hb1.size)
  have hs1 := (Sees.of_own hown1).below hb2
  have hs2 := Sees.of_own hown2
  have hc1 := run_conv_sees (P := Tryd.prog) w2 Tryd.underlying23 Tryd.underlying5 Tryd.underlying9 (c := cap) (le_length k n) hs1
  have hc2 := run_conv_sees (P := Tryd.prog) w2 Tryd.underlying23 Tryd.underlying5 Tryd.underlying9 (c := cap2) (le_length k n) hs2
  clear hown1 hown2 hs2 hb1
  go_wp2_with fail
  refine (num_any _ _).mono ?_
  rintro e w' ⟨rfl, rfl⟩
  clear hc1 hc2
  go_wp2_with fail
  refine (get_ok (le k n) _ _ _ _ _ ht2 (le_length k n) hk0.out hs1 hb2.size).mono ?_
  rintro e w3 ⟨rfl, hb3⟩
  rw [leVal_le k n (by have := hn0.out; rw [topOf_pow hk0.out] at this; omega)]
  have ht3 := ht2.below hb3
  have hB3 := hB2.trans (hb3.mono hB2.size)
  go_wp2_with fail
  refine (num_any _ _).mono ?_
  rintro e w' ⟨rfl, rfl⟩
  go_wp2_with fail
  refine (works_any _ ht3).mono ?_
  rintro e w4 ⟨rfl, hb4⟩
  go_wp2_with fail
  go_ret
  exact ⟨rfl, hB3.trans (hb4.mono hB3.size)⟩

theorem wordPuts_any (n : Nat) (k : Int) (w : World) (ht : Tab w) (h64 : n < 18446744073709551616) : Calls Tryd.prog 3 #[.int .u64 n, .int .i64 k] w fun e w' => e = .returned (.bool true) ∧ Below w.heap.size w w' := by
  by_cases hk : wid k = true
  · obtain ⟨j, rfl⟩ : ∃ j : Nat, k = j := ⟨k.toNat, by have := wid_cases hk; omega⟩
    by_cases hn : (n : Int) ≤ topOf j
    · exact wordPuts_ok n j w ht hk hn h64
    · exact wordPuts_range n j w ht hk (by omega) h64
  · exact wordPuts_arg n k w ht (by simpa using hk)
end Go.Proofs.YtcbaocnhaabgaaaDoor
