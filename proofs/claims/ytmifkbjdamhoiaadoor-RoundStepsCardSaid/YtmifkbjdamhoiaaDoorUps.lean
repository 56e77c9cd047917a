import Derived.Test.YtmifkbjdamhoiaaDoorStep
namespace Go.Proofs.YtmifkbjdamhoiaaDoor
open Go.RowKit

/-- the multiple next above, and the error's number -/
def upN (s n : Nat) : Nat := if n % s = 0 then n else if n - n % s + s < 18446744073709551616 then n - n % s + s else 0
def upE (s n : Nat) : Int := if n % s = 0 then 0 else if n - n % s + s < 18446744073709551616 then 0 else 120
/-- how many steps it takes -/
def manyN (s n : Nat) : Nat := if n % s = 0 then n / s else n / s + 1

theorem up_arg (n : Nat) (w : World) : Calls Tryd.prog 14 #[.int .u64 (n : Int), .int .u64 0] w fun e w' => e = .returned (.tuple #[.int .u64 0, .int .i64 2]) ∧ Below w.heap.size w w' := by
  have hN := Lib.hid (fun w => numberOf_any n 0 w)
  go_enter Tryd.func14, Tryd.ntmps14
  go_wp2_with fail
  refine (hN.out _).mono ?_
  rintro e w1 ⟨rfl, hb1⟩
  have hz := hb1.size
  go_wp2_with fail
  refine (none_zero _).mono ?_
  rintro e w2 ⟨rfl, rfl⟩
  go_wp2_with fail
  go_ret2
  exact ⟨rfl, hb1.alloc hz _⟩
theorem down_arg (n : Nat) (w : World) : Calls Tryd.prog 15 #[.int .u64 (n : Int), .int .u64 0] w fun e w' => e = .returned (.tuple #[.int .u64 0, .int .i64 2]) ∧ Below w.heap.size w w' := by
  have hN := Lib.hid (fun w => numberOf_any n 0 w)
  go_enter Tryd.func15, Tryd.ntmps15
  go_wp2_with fail
  refine (hN.out _).mono ?_
  rintro e w1 ⟨rfl, hb1⟩
  have hz := hb1.size
  go_wp2_with fail
  refine (none_zero _).mono ?_
  rintro e w2 ⟨rfl, rfl⟩
  go_wp2_with fail
  go_ret2
  exact ⟨rfl, hb1.alloc hz _⟩
theorem many_arg (n : Nat) (w : World) : Calls Tryd.prog 16 #[.int .u64 (n : Int), .int .u64 0] w fun e w' => e = .returned (.tuple #[.int .u64 0, .int .i64 2]) ∧ Below w.heap.size w w' := by
  have hN := Lib.hid (fun w => numberOf_any n 0 w)
  go_enter Tryd.func16, Tryd.ntmps16
  go_wp2_with fail
  refine (hN.out _).mono ?_
  rintro e w1 ⟨rfl, hb1⟩
  have hz := hb1.size
  go_wp2_with fail
  refine (none_zero _).mono ?_
  rintro e w2 ⟨rfl, rfl⟩
  go_wp2_with fail
  go_ret2
  exact ⟨rfl, hb1.alloc hz _⟩

set_option maxHeartbeats 400000 in
theorem down_ok (n s : Nat) (w : World) (hs : 0 < s) (hn : n < 18446744073709551616) : Calls Tryd.prog 15 #[.int .u64 (n : Int), .int .u64 (s : Int)] w fun e w' => e = .returned (.tuple #[.int .u64 ((n - n % s : Nat) : Int), .int .i64 0]) ∧ Below w.heap.size w w' := by
  have hN := Lib.hid (fun w => numberOf_any n s w)
  have h0 := Lib.hid (fun w => none_pos s w hs)
  have hd := Lib.hid (fun w => down_any s n w hs hn)
  obtain ⟨d, hdd⟩ : ∃ d, d = n - n % s := ⟨_, rfl⟩
  rw [← hdd] at hd ⊢
  clear hs hn hdd
  go_enter Tryd.func15, Tryd.ntmps15
  go_wp2_with fail
  refine (hN.out _).mono ?_
  rintro e w1 ⟨rfl, hb1⟩
  have hz := hb1.size
  go_wp2_with fail
  refine (h0.out _).mono ?_
  rintro e w2 ⟨rfl, rfl⟩
  go_wp2_with fail
  refine (hd.out _).mono ?_
  rintro e w3 ⟨rfl, hb3⟩
  go_wp2_with fail
  go_ret2
  exact ⟨rfl, (hb1.alloc hz _).trans (hb3.mono (by simp; omega))⟩

set_option maxHeartbeats 400000 in
theorem many_ok (n s : Nat) (w : World) (hs : 0 < s) (hn : n < 18446744073709551616) : Calls Tryd.prog 16 #[.int .u64 (n : Int), .int .u64 (s : Int)] w fun e w' => e = .returned (.tuple #[.int .u64 (manyN s n : Int), .int .i64 0]) ∧ Below w.heap.size w w' := by
  have hN := Lib.hid (fun w => numberOf_any n s w)
  have h0 := Lib.hid (fun w => none_pos s w hs)
  have hd : Hid (∀ w : World, Calls Tryd.prog 36 #[hv s n] w fun e w' => e = .returned (.int .u64 (manyN s n : Int)) ∧ Below w.heap.size w w') := Lib.hid fun w => by
    unfold manyN
    split
    · exact many_yes s n w hs hn ‹_›
    · exact many_no s n w hs hn ‹_›
  obtain ⟨d, hdd⟩ : ∃ d, d = manyN s n := ⟨_, rfl⟩
  rw [← hdd] at hd ⊢
  clear hs hn hdd
  go_enter Tryd.func16, Tryd.ntmps16
  go_wp2_with fail
  refine (hN.out _).mono ?_
  rintro e w1 ⟨rfl, hb1⟩
  have hz := hb1.size
  go_wp2_with fail
  refine (h0.out _).mono ?_
  rintro e w2 ⟨rfl, rfl⟩
  go_wp2_with fail
  refine (hd.out _).mono ?_
  rintro e w3 ⟨rfl, hb3⟩
  go_wp2_with fail
  go_ret2
  exact ⟨rfl, (hb1.alloc hz _).trans (hb3.mono (by simp; omega))⟩

set_option maxHeartbeats 400000 in
theorem up_ok (n s : Nat) (w : World) (hs : 0 < s) (hs2 : s < 18446744073709551616) (hn : n < 18446744073709551616) : Calls Tryd.prog 14 #[.int .u64 (n : Int), .int .u64 (s : Int)] w fun e w' => e = .returned (.tuple #[.int .u64 (upN s n : Int), .int .i64 (upE s n)]) ∧ Below w.heap.size w w' := by
  have hN := Lib.hid (fun w => numberOf_any n s w)
  have h0 := Lib.hid (fun w => none_pos s w hs)
  obtain ⟨x, y, hd, ht⟩ : ∃ x y : Nat, Hid (∀ w : World, Calls Tryd.prog 33 #[hv s n] w fun e w' => e = .returned (hv x y) ∧ Below w.heap.size w w') ∧
      Hid (∀ w : World, Calls Tryd.prog 34 #[hv x y] w fun e w' => e = .returned (.tuple #[.int .u64 (upN s n : Int), .int .i64 (upE s n)]) ∧ Below w.heap.size w w') := by
    unfold upN upE
    by_cases h1 : n % s = 0
    · refine ⟨0, n, Lib.hid fun w => up_yes s n w hs hn h1, Lib.hid fun w => ?_⟩
      rw [if_pos h1, if_pos h1]
      exact number_ok n w
    · refine ⟨_, _, Lib.hid fun w => up_no s n w hs hs2 hn h1, Lib.hid fun w => ?_⟩
      rw [if_neg h1, if_neg h1]
      by_cases h2 : n - n % s + s < 18446744073709551616
      · rw [if_pos h2, if_pos h2, Nat.div_eq_of_lt h2, Nat.mod_eq_of_lt h2]
        exact number_ok _ w
      · rw [if_neg h2, if_neg h2]
        exact number_over _ _ w (by omega)
  obtain ⟨u, hu⟩ : ∃ u, u = upN s n := ⟨_, rfl⟩
  obtain ⟨v, hv'⟩ : ∃ v, v = upE s n := ⟨_, rfl⟩
  rw [← hu, ← hv'] at ht ⊢
  clear hs hs2 hn hu hv'
  go_enter Tryd.func14, Tryd.ntmps14
  go_wp2_with fail
  refine (hN.out _).mono ?_
  rintro e w1 ⟨rfl, hb1⟩
  have hz := hb1.size
  go_wp2_with fail
  refine (h0.out _).mono ?_
  rintro e w2 ⟨rfl, rfl⟩
  go_wp2_with fail
  refine (hd.out _).mono ?_
  rintro e w3 ⟨rfl, hb3⟩
  go_wp2_with fail
  refine (ht.out _).mono ?_
  rintro e w4 ⟨rfl, hb4⟩
  go_wp2_with fail
  go_ret2
  have hb13 := (hb1.alloc hz _).trans (hb3.mono (by simp; omega))
  exact ⟨rfl, hb13.trans (hb4.mono hb13.size)⟩

/- the document's answers -/
theorem many_lt {n s : Nat} (hs : 0 < s) (hn : n < 18446744073709551616) (h0 : ¬ n % s = 0) : n / s < 18446744073709551615 := by
  rcases Nat.lt_or_ge s 2 with h | h
  · obtain rfl : s = 1 := by omega
    exact absurd (Nat.mod_one n) h0
  · have := Nat.div_le_div_left h (by omega : 0 < 2) (a := n)
    omega
theorem wrap_sub_top (a : Nat) (ha : a < 18446744073709551616) : IntKind.u64.wrap (18446744073709551615 - (a : Int)) = ((18446744073709551615 - a : Nat) : Int) := by
  rw [IntKind.wrap_u64]; omega
set_option maxHeartbeats 400000 in
theorem refplus_ok (a b : Nat) (w : World) (h : a + b < 18446744073709551616) : Calls Tryd.prog 29 #[.int .u64 (a : Int), .int .u64 (b : Int)] w fun e w' => e = .returned (.tuple #[.int .u64 ((a + b : Nat) : Int), .bool true]) ∧ w = w' := by
  have h1 := wrap_sub_top a (by omega)
  have h2 : decide (18446744073709551615 - a < b) = false := by simp; omega
  have h3 : IntKind.u64.wrap ((a : Int) + b) = ((a + b : Nat) : Int) := wrapN (a + b) h
  obtain ⟨c, hc⟩ : ∃ c, c = a + b := ⟨_, rfl⟩
  obtain ⟨d, hd⟩ : ∃ d, d = 18446744073709551615 - a := ⟨_, rfl⟩
  rw [← hc] at h3 ⊢
  rw [← hd] at h1 h2
  clear hc hd h
  go_enter Tryd.func29, Tryd.ntmps29
  go_wp2
  go_ret2
  exact ⟨rfl, rfl⟩
set_option maxHeartbeats 400000 in
theorem refplus_over (a b : Nat) (w : World) (ha : a < 18446744073709551616) (h : 18446744073709551616 ≤ a + b) : Calls Tryd.prog 29 #[.int .u64 (a : Int), .int .u64 (b : Int)] w fun e w' => e = .returned (.tuple #[.int .u64 0, .bool false]) ∧ w = w' := by
  have h1 := wrap_sub_top a (by omega)
  have h2 : decide (18446744073709551615 - a < b) = true := by simp; omega
  obtain ⟨d, hd⟩ : ∃ d, d = 18446744073709551615 - a := ⟨_, rfl⟩
  rw [← hd] at h1 h2
  clear hd h ha
  go_enter Tryd.func29, Tryd.ntmps29
  go_wp2
  go_ret2
  exact ⟨rfl, rfl⟩
set_option maxHeartbeats 400000 in
theorem refdown_any (n s : Nat) (w : World) (hs : 0 < s) (hn : n < 18446744073709551616) : Calls Tryd.prog 18 #[.int .u64 (n : Int), .int .u64 (s : Int)] w fun e w' => e = .returned (.int .u64 ((n - n % s : Nat) : Int)) ∧ w = w' := by
  have hb : ((s : Int) == 0) = false := by simp; omega
  have hb2 : ¬ (s : Int) = 0 := by omega
  go_enter Tryd.func18, Tryd.ntmps18
  go_wp2
  go_ret
  refine ⟨?_, rfl⟩
  have e1 := wrap_div (n := n) (s := s) hn
  have hq : n / s * s = n - n % s := by have := Nat.div_add_mod n s; rw [Nat.mul_comm] at this; omega
  show Ending.returned (.int .u64 (IntKind.u64.wrap (IntKind.u64.wrap ((n : Int) / (s : Int)) * (s : Int)))) = _
  rw [← Int.natCast_ediv, wrapN (n / s) (by have := Nat.div_le_self n s; omega), ← Int.natCast_mul, hq, wrapN _ (by omega)]
set_option maxHeartbeats 400000 in
theorem refmany_any (n s : Nat) (w : World) (hs : 0 < s) (hn : n < 18446744073709551616) : Calls Tryd.prog 19 #[.int .u64 (n : Int), .int .u64 (s : Int)] w fun e w' => e = .returned (.int .u64 (manyN s n : Int)) ∧ w = w' := by
  have hb : ((s : Int) == 0) = false := by simp; omega
  have hb2 : ¬ (s : Int) = 0 := by omega
  by_cases h0 : n % s = 0
  · have hm : (((n : Int) % (s : Int)) == 0) = true := by rw [← Int.natCast_emod, h0]; rfl
    go_enter Tryd.func19, Tryd.ntmps19
    go_wp2
    go_ret
    refine ⟨?_, rfl⟩
    show Ending.returned (.int .u64 (IntKind.u64.wrap ((n : Int) / (s : Int)))) = _
    rw [← Int.natCast_ediv, wrapN (n / s) (by have := Nat.div_le_self n s; omega), manyN, if_pos h0]
  · have hm : (((n : Int) % (s : Int)) == 0) = false := by rw [← Int.natCast_emod]; simp; omega
    have hlt := many_lt hs hn h0
    have HH := Lib.hid h0
    have HL := Lib.hid hlt
    clear h0 hlt
    go_enter Tryd.func19, Tryd.ntmps19
    go_wp2
    go_ret
    refine ⟨?_, rfl⟩
    show Ending.returned (.int .u64 (IntKind.u64.wrap (IntKind.u64.wrap ((n : Int) / (s : Int)) + 1))) = _
    have := HL.out
    rw [← Int.natCast_ediv, wrapN (n / s) (by omega), show ((n / s : Nat) : Int) + 1 = ((n / s + 1 : Nat) : Int) from rfl, wrapN _ (by omega), manyN, if_neg HH.out]

set_option maxHeartbeats 400000 in
theorem refup_any (n s : Nat) (w : World) (hs : 0 < s) (_hs2 : s < 18446744073709551616) (hn : n < 18446744073709551616) : Calls Tryd.prog 17 #[.int .u64 (n : Int), .int .u64 (s : Int)] w fun e w' => e = .returned (.tuple #[.int .u64 (upN s n : Int), .int .i64 (upE s n)]) ∧ w = w' := by
  have hd := Lib.hid (fun w => refdown_any n s w hs hn)
  have hle : n - n % s < 18446744073709551616 := by omega
  have hmle := Nat.mod_le n s
  by_cases h0 : n % s = 0
  · rw [upN, if_pos h0, upE, if_pos h0]
    rw [h0, Nat.sub_zero] at hd
    clear hs hn hle hmle h0
    go_enter Tryd.func17, Tryd.ntmps17
    go_wp2_with fail
    refine (hd.out _).mono ?_
    rintro e w1 ⟨rfl, rfl⟩
    go_wp2
    go_ret2
    exact ⟨rfl, rfl⟩
  · have hq : (((n - n % s : Nat) : Int) == (n : Int)) = false := by simp; omega
    have hq2 : ((n - n % s) == n) = false := by simp; omega
    by_cases h1 : n - n % s + s < 18446744073709551616
    · have hp := Lib.hid (fun w => refplus_ok (n - n % s) s w h1)
      rw [upN, if_neg h0, if_pos h1, upE, if_neg h0, if_pos h1]
      obtain ⟨u, hu⟩ : ∃ u, u = n - n % s + s := ⟨_, rfl⟩
      rw [← hu] at hp ⊢
      obtain ⟨d, hdd⟩ : ∃ d, d = n - n % s := ⟨_, rfl⟩
      rw [← hdd] at hp hd hq hq2
      clear hu hdd hs hn hle hmle h0 h1
      go_enter Tryd.func17, Tryd.ntmps17
      go_wp2_with fail
      refine (hd.out _).mono ?_
      rintro e w1 ⟨rfl, rfl⟩
      go_wp2_with fail
      refine (hp.out _).mono ?_
      rintro e w1 ⟨rfl, rfl⟩
      go_wp2
      go_ret2
      exact ⟨rfl, rfl⟩
    · have hp := Lib.hid (fun w => refplus_over (n - n % s) s w hle (by omega))
      rw [upN, if_neg h0, if_neg h1, upE, if_neg h0, if_neg h1]
      obtain ⟨d, hdd⟩ : ∃ d, d = n - n % s := ⟨_, rfl⟩
      rw [← hdd] at hp hd hq hq2
      clear hdd hs hn hle hmle h0 h1
      go_enter Tryd.func17, Tryd.ntmps17
      go_wp2_with fail
      refine (hd.out _).mono ?_
      rintro e w1 ⟨rfl, rfl⟩
      go_wp2_with fail
      refine (hp.out _).mono ?_
      rintro e w1 ⟨rfl, rfl⟩
      go_wp2
      go_ret2
      exact ⟨rfl, rfl⟩
end Go.Proofs.YtmifkbjdamhoiaaDoor
