import Derived.Test.YtpnlddjobphjnaaDoorStep
namespace Go.Proofs.YtpnlddjobphjnaaDoor
open Go.RowKit

/-- the multiple next above, and the error's number -/
def upN (s n : Nat) : Nat := if n % s = 0 then n else if n - n % s + s < 18446744073709551616 then n - n % s + s else 0
def upE (s n : Nat) : Int := if n % s = 0 then 0 else if n - n % s + s < 18446744073709551616 then 0 else 120
/-- how many steps it takes -/
def manyN (s n : Nat) : Nat := if n % s = 0 then n / s else n / s + 1

theorem up_arg (n : Nat) (w : World) : Calls Tryd.prog 53 #[.int .u64 (n : Int), .int .u64 0] w fun e w' => e = .returned (.tuple #[.int .u64 0, .int .i64 2]) ∧ Below w.heap.size w w' := by
  have hN := Lib.hid (fun w => numberOf_any n 0 w)
  go_enter Tryd.func53, Tryd.ntmps53
  go_wp2_with fail
  refine (hN.out _).mono ?_
  rintro e w1 ⟨rfl, hb1⟩
  have hz := hb1.size
  go_wp2_with fail
  refine (none_zero _).mono ?_
  rintro e w2 ⟨rfl, rfl⟩
  go_wp2_with fail
  go_ret2
  exact ⟨rfl, hb1.alloc hz _⟩
theorem many_arg (n : Nat) (w : World) : Calls Tryd.prog 52 #[.int .u64 (n : Int), .int .u64 0] w fun e w' => e = .returned (.tuple #[.int .u64 0, .int .i64 2]) ∧ Below w.heap.size w w' := by
  have hN := Lib.hid (fun w => numberOf_any n 0 w)
  go_enter Tryd.func52, Tryd.ntmps52
  go_wp2_with fail
  refine (hN.out _).mono ?_
  rintro e w1 ⟨rfl, hb1⟩
  have hz := hb1.size
  go_wp2_with fail
  refine (none_zero _).mono ?_
  rintro e w2 ⟨rfl, rfl⟩
  go_wp2_with fail
  go_ret2
  exact ⟨rfl, hb1.alloc hz _⟩

set_option maxHeartbeats 400000 in
theorem many_ok (n s : Nat) (w : World) (hs : 0 < s) (hn : n < 18446744073709551616) : Calls Tryd.prog 52 #[.int .u64 (n : Int), .int .u64 (s : Int)] w fun e w' => e = .returned (.tuple #[.int .u64 (manyN s n : Int), .int .i64 0]) ∧ Below w.heap.size w w' := by
  have hN := Lib.hid (fun w => numberOf_any n s w)
  have h0 := Lib.hid (fun w => none_pos s w hs)
  have hd : Hid (∀ w : World, Calls Tryd.prog 59 #[hv s n] w fun e w' => e = .returned (.int .u64 (manyN s n : Int)) ∧ Below w.heap.size w w') := Lib.hid fun w => by
    unfold manyN
    split
    · exact many_yes s n w hs hn ‹_›
    · exact many_no s n w hs hn ‹_›
  obtain ⟨d, hdd⟩ : ∃ d, d = manyN s n := ⟨_, rfl⟩
  rw [← hdd] at hd ⊢
  clear hs hn hdd
  go_enter Tryd.func52, Tryd.ntmps52
  go_wp2_with fail
  refine (hN.out _).mono ?_
  rintro e w1 ⟨rfl, hb1⟩
  have hz := hb1.size
  go_wp2_with fail
  refine (h0.out _).mono ?_
  rintro e w2 ⟨rfl, rfl⟩
  go_wp2_with fail
  refine (hd.out _).mono ?_
  rintro e w3 ⟨rfl, hb3⟩
  go_wp2_with fail
  go_ret2
  exact ⟨rfl, (hb1.alloc hz _).trans (hb3.mono (by simp; omega))⟩

set_option maxHeartbeats 400000 in
theorem up_ok (n s : Nat) (w : World) (hs : 0 < s) (hs2 : s < 18446744073709551616) (hn : n < 18446744073709551616) : Calls Tryd.prog 53 #[.int .u64 (n : Int), .int .u64 (s : Int)] w fun e w' => e = .returned (.tuple #[.int .u64 (upN s n : Int), .int .i64 (upE s n)]) ∧ Below w.heap.size w w' := by
  have hN := Lib.hid (fun w => numberOf_any n s w)
  have h0 := Lib.hid (fun w => none_pos s w hs)
  obtain ⟨x, y, hd, ht⟩ : ∃ x y : Nat, Hid (∀ w : World, Calls Tryd.prog 60 #[hv s n] w fun e w' => e = .returned (hv x y) ∧ Below w.heap.size w w') ∧
      Hid (∀ w : World, Calls Tryd.prog 54 #[hv x y] w fun e w' => e = .returned (.tuple #[.int .u64 (upN s n : Int), .int .i64 (upE s n)]) ∧ Below w.heap.size w w') := by
    unfold upN upE
    by_cases h1 : n % s = 0
    · refine ⟨0, n, Lib.hid fun w => up_yes s n w hs hn h1, Lib.hid fun w => ?_⟩
      rw [if_pos h1, if_pos h1]
      exact number_ok n w
    · refine ⟨_, _, Lib.hid fun w => up_no s n w hs hs2 hn h1, Lib.hid fun w => ?_⟩
      rw [if_neg h1, if_neg h1]
      by_cases h2 : n - n % s + s < 18446744073709551616
      · rw [if_pos h2, if_pos h2, Nat.div_eq_of_lt h2, Nat.mod_eq_of_lt h2]
        exact number_ok _ w
      · rw [if_neg h2, if_neg h2]
        exact number_over _ _ w (by omega)
  obtain ⟨u, hu⟩ : ∃ u, u = upN s n := ⟨_, rfl⟩
  obtain ⟨v, hv'⟩ : ∃ v, v = upE s n := ⟨_, rfl⟩
  rw [← hu, ← hv'] at ht ⊢
  clear hs hs2 hn hu hv'
  go_enter Tryd.func53, Tryd.ntmps53
  go_wp2_with fail
  refine (hN.out _).mono ?_
  rintro e w1 ⟨rfl, hb1⟩
  have hz := hb1.size
  go_wp2_with fail
  refine (h0.out _).mono ?_
  rintro e w2 ⟨rfl, rfl⟩
  go_wp2_with fail
  refine (hd.out _).mono ?_
  rintro e w3 ⟨rfl, hb3⟩
  go_wp2_with fail
  refine (ht.out _).mono ?_
  rintro e w4 ⟨rfl, hb4⟩
  go_wp2_with fail
  go_ret2
  have hb13 := (hb1.alloc hz _).trans (hb3.mono (by simp; omega))
  exact ⟨rfl, hb13.trans (hb4.mono hb13.size)⟩

/- the document's answers -/
theorem many_lt {n s : Nat} (hs : 0 < s) (hn : n < 18446744073709551616) (h0 : ¬ n % s = 0) : n / s < 18446744073709551615 := by
  rcases Nat.lt_or_ge s 2 with h | h
  · obtain rfl : s = 1 := by omega
    exact absurd (Nat.mod_one n) h0
  · have := Nat.div_le_div_left h (by omega : 0 < 2) (a := n)
    omega
theorem wrap_sub_top (a : Nat) (ha : a < 18446744073709551616) : IntKind.u64.wrap (18446744073709551615 - (a : Int)) = ((18446744073709551615 - a : Nat) : Int) := by
  rw [IntKind.wrap_u64]; omega
end Go.Proofs.YtpnlddjobphjnaaDoor
