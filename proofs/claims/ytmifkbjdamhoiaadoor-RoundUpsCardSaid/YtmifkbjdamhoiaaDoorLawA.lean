import Derived.Test.YtmifkbjdamhoiaaDoorWorks
import Derived.Test.YtmifkbjdamhoiaaDoorRefLog
namespace Go.Proofs.YtmifkbjdamhoiaaDoor
open Go.RowKit

set_option maxRecDepth 100000 in
set_option maxHeartbeats 1000000 in
theorem roundUps_zero (n : Nat) (w : World) (ht : Tab w) : Calls Tryd.prog 4 #[.int .u64 (n : Int), .int .u64 0] w fun e w' => e = .returned (.bool true) ∧ Below w.heap.size w w' := by
  go_enter Tryd.func4, Tryd.ntmps4
  go_wp2_with fail
  refine (up_arg n _).mono ?_
  rintro e w1 ⟨rfl, hB1⟩
  go_wp2_with fail
  refine (down_arg n _).mono ?_
  rintro e w2 ⟨rfl, hb2⟩
  have hB2 := hB1.trans (hb2.mono hB1.size)
  go_wp2_with fail
  refine (many_arg n _).mono ?_
  rintro e w3 ⟨rfl, hb3⟩
  have hB3 := hB2.trans (hb3.mono hB2.size)
  clear hB1 hb2 hB2 hb3
  go_wp2_with ((with_reducible refine (num_any _ _).mono ?_); rintro e w' ⟨rfl, rfl⟩)
  refine (works_any _ (ht.below hB3)).mono ?_
  rintro e w4 ⟨rfl, hb4⟩
  go_wp2_with fail
  go_ret
  exact ⟨rfl, hB3.trans (hb4.mono hB3.size)⟩

set_option maxRecDepth 100000 in
set_option maxHeartbeats 1000000 in
theorem roundUps_pos (n s : Nat) (w : World) (ht : Tab w) (hs : 0 < s) (hs2 : s < 18446744073709551616) (hn : n < 18446744073709551616) : Calls Tryd.prog 4 #[.int .u64 (n : Int), .int .u64 (s : Int)] w fun e w' => e = .returned (.bool true) ∧ Below w.heap.size w w' := by
  have hs0 : ((s : Int) == 0) = false := beq_eq_false_iff_ne.2 (by omega)
  have h1 := Lib.hid (fun w => up_ok n s w hs hs2 hn)
  have h2 := Lib.hid (fun w => down_ok n s w hs hn)
  have h3 := Lib.hid (fun w => many_ok n s w hs hn)
  have h4 := Lib.hid (fun w => refup_any n s w hs hs2 hn)
  have h5 := Lib.hid (fun w => refdown_any n s w hs hn)
  have h6 := Lib.hid (fun w => refmany_any n s w hs hn)
  obtain ⟨u, hu⟩ : ∃ u, u = upN s n := ⟨_, rfl⟩
  obtain ⟨v, hv'⟩ : ∃ v, v = upE s n := ⟨_, rfl⟩
  obtain ⟨d, hd⟩ : ∃ d, d = n - n % s := ⟨_, rfl⟩
  obtain ⟨m, hm⟩ : ∃ m, m = manyN s n := ⟨_, rfl⟩
  rw [← hu, ← hv'] at h1 h4
  rw [← hd] at h2 h5
  rw [← hm] at h3 h6
  clear hu hv' hd hm hs hs2 hn
  go_enter Tryd.func4, Tryd.ntmps4
  go_wp2_with fail
  refine (h1.out _).mono ?_
  rintro e w1 ⟨rfl, hB1⟩
  go_wp2_with fail
  refine (h2.out _).mono ?_
  rintro e w2 ⟨rfl, hb2⟩
  have hB2 := hB1.trans (hb2.mono hB1.size)
  go_wp2_with fail
  refine (h3.out _).mono ?_
  rintro e w3 ⟨rfl, hb3⟩
  have hB3 := hB2.trans (hb3.mono hB2.size)
  clear hB1 hb2 hB2 hb3
  go_wp2_with (first | ((with_reducible refine (num_any _ _).mono ?_); rintro e w' ⟨rfl, rfl⟩) | ((with_reducible refine (h4.out _).mono ?_); rintro e w' ⟨rfl, rfl⟩) | ((with_reducible refine (h5.out _).mono ?_); rintro e w' ⟨rfl, rfl⟩) | ((with_reducible refine (h6.out _).mono ?_); rintro e w' ⟨rfl, rfl⟩))
  refine (works_any _ (ht.below hB3)).mono ?_
  rintro e w4 ⟨rfl, hb4⟩
  go_wp2_with fail
  go_ret
  exact ⟨rfl, hB3.trans (hb4.mono hB3.size)⟩

set_option maxRecDepth 100000 in
set_option maxHeartbeats 1000000 in
theorem roundPowers_yes (k : Nat) (w : World) (ht : Tab w) (hk : k < 64) : Calls Tryd.prog 5 #[.int .u64 ((2 ^ k : Nat) : Int)] w fun e w' => e = .returned (.bool true) ∧ Below w.heap.size w w' := by
  have h1 := Lib.hid (log_yes k w hk ht)
  have h2 := Lib.hid (fun w => reflog_yes k w hk)
  have h3 := Lib.hid (fun w => power_any (2 ^ k) w (pow64 hk))
  rw [(isPow_iff (pow64 hk)).2 ⟨k, hk, rfl⟩] at h3
  have hk0 : ¬ (k : Int) < 0 := by omega
  obtain ⟨n, hn⟩ : ∃ n, n = 2 ^ k := ⟨_, rfl⟩
  rw [← hn] at h1 h2 h3 ⊢
  clear hn hk
  go_enter Tryd.func5, Tryd.ntmps5
  go_wp2_with fail
  refine (h1.out).mono ?_
  rintro e w1 ⟨rfl, rfl⟩
  go_wp2_with fail
  refine (h2.out _).mono ?_
  rintro e w1 ⟨rfl, rfl⟩
  go_wp2_with (first | ((with_reducible refine (num_any _ _).mono ?_); rintro e w' ⟨rfl, rfl⟩) | ((with_reducible refine (h3.out _).mono ?_); rintro e w' ⟨rfl, rfl⟩))
  refine (works_any _ ht).mono ?_
  rintro e w4 ⟨rfl, hb4⟩
  go_wp2_with fail
  go_ret
  exact ⟨rfl, hb4⟩

set_option maxRecDepth 100000 in
set_option maxHeartbeats 1000000 in
theorem roundPowers_no (n : Nat) (w : World) (ht : Tab w) (hn : n < 18446744073709551616) (hp : isPow n = false) : Calls Tryd.prog 5 #[.int .u64 (n : Int)] w fun e w' => e = .returned (.bool true) ∧ Below w.heap.size w w' := by
  have h1 := Lib.hid (log_no n w hn hp)
  have h2 := Lib.hid (fun w => reflog_no n w (fun k hk e => by
    have := (isPow_iff hn).2 ⟨k, hk, e⟩
    rw [hp] at this
    cases this))
  have h3 := Lib.hid (fun w => power_any n w hn)
  rw [hp] at h3
  clear hn hp
  go_enter Tryd.func5, Tryd.ntmps5
  go_wp2_with fail
  refine (h1.out).mono ?_
  rintro e w1 ⟨rfl, rfl⟩
  go_wp2_with fail
  refine (h2.out _).mono ?_
  rintro e w1 ⟨rfl, rfl⟩
  go_wp2_with (first | ((with_reducible refine (num_any _ _).mono ?_); rintro e w' ⟨rfl, rfl⟩) | ((with_reducible refine (h3.out _).mono ?_); rintro e w' ⟨rfl, rfl⟩))
  refine (works_any _ ht).mono ?_
  rintro e w4 ⟨rfl, hb4⟩
  go_wp2_with fail
  go_ret
  exact ⟨rfl, hb4⟩

theorem roundUps_any (n s : Nat) (w : World) (ht : Tab w) (hs2 : s < 18446744073709551616) (hn : n < 18446744073709551616) : Calls Tryd.prog 4 #[.int .u64 (n : Int), .int .u64 (s : Int)] w fun e w' => e = .returned (.bool true) ∧ Below w.heap.size w w' := by
  rcases Nat.eq_zero_or_pos s with rfl | h
  · exact roundUps_zero n w ht
  · exact roundUps_pos n s w ht h hs2 hn
theorem roundPowers_any (n : Nat) (w : World) (ht : Tab w) (hn : n < 18446744073709551616) : Calls Tryd.prog 5 #[.int .u64 (n : Int)] w fun e w' => e = .returned (.bool true) ∧ Below w.heap.size w w' := by
  by_cases h : isPow n = true
  · obtain ⟨k, hk, rfl⟩ := (isPow_iff hn).1 h
    exact roundPowers_yes k w ht hk
  · exact roundPowers_no n w ht hn (by simpa using h)
end Go.Proofs.YtmifkbjdamhoiaaDoor
