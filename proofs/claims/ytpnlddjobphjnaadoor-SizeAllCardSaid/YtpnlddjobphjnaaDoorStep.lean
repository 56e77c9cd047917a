import Derived.Test.YtpnlddjobphjnaaDoorNum
import Derived.IntWalk
namespace Go.Proofs.YtpnlddjobphjnaaDoor
open Go.RowKit

theorem numberOf_any (n s : Nat) (w : World) : Calls Tryd.prog 57 #[.int .u64 (n : Int), .int .u64 (s : Int)] w fun e w' => e = .returned (hv s n) ∧ Below w.heap.size w w' := by
  go_enter Tryd.func57, Tryd.ntmps57
  go_wp2
  exact bodyPost_ret (v := hv s n) (by simp [results, Tryd.results57, go_sem]) rfl ⟨rfl, below1 _ _⟩

theorem none_zero (w : World) : Calls Tryd.prog 58 #[.int .u64 0] w fun e w' => e = .returned (.bool true) ∧ w = w' := by
  go_enter Tryd.func58, Tryd.ntmps58
  go_wp2
  go_ret
  exact ⟨rfl, rfl⟩
theorem none_pos (s : Nat) (w : World) (hs : 0 < s) : Calls Tryd.prog 58 #[.int .u64 (s : Int)] w fun e w' => e = .returned (.bool false) ∧ w = w' := by
  have hb : ((s : Int) == 0) = false := by simp; omega
  go_enter Tryd.func58, Tryd.ntmps58
  go_wp2
  go_ret
  exact ⟨rfl, rfl⟩

theorem wrap_mod {n s : Nat} (hn : n < 18446744073709551616) : IntKind.u64.wrap ((n : Int).tmod (s : Int)) = ((n % s : Nat) : Int) := by
  rw [show (n : Int).tmod (s : Int) = ((n % s : Nat) : Int) from rfl]
  exact wrapN _ (by have := Nat.mod_le n s; omega)
theorem wrap_div {n s : Nat} (hn : n < 18446744073709551616) : IntKind.u64.wrap ((n : Int).tdiv (s : Int)) = ((n / s : Nat) : Int) := by
  rw [show (n : Int).tdiv (s : Int) = ((n / s : Nat) : Int) from rfl]
  exact wrapN _ (by have := Nat.div_le_self n s; omega)

set_option maxHeartbeats 400000 in
theorem past_any (s n : Nat) (w : World) (hs : 0 < s) (hn : n < 18446744073709551616) : Calls Tryd.prog 65 #[.int .u64 (s : Int), .int .u64 (n : Int)] w fun e w' => e = .returned (.int .u64 ((n % s : Nat) : Int)) ∧ w = w' := by
  have hb : ((s : Int) == 0) = false := by simp; omega
  have hb2 : ¬ (s : Int) = 0 := by omega
  go_enter Tryd.func65, Tryd.ntmps65
  go_wp2
  go_ret
  exact ⟨rfl, rfl⟩
set_option maxHeartbeats 400000 in
theorem whole_any (s n : Nat) (w : World) (hs : 0 < s) (hn : n < 18446744073709551616) : Calls Tryd.prog 61 #[.int .u64 (s : Int), .int .u64 (n : Int)] w fun e w' => e = .returned (.int .u64 ((n / s : Nat) : Int)) ∧ w = w' := by
  have hb : ((s : Int) == 0) = false := by simp; omega
  have hb2 : ¬ (s : Int) = 0 := by omega
  go_enter Tryd.func61, Tryd.ntmps61
  go_wp2
  go_ret
  exact ⟨by show Ending.returned (.int .u64 (IntKind.u64.wrap ((n : Int) / (s : Int)))) = _; rw [← Int.natCast_ediv, wrapN _ (by have := Nat.div_le_self n s; omega)], rfl⟩

set_option maxHeartbeats 400000 in
theorem multiple_any (s n : Nat) (w : World) (hs : 0 < s) (hn : n < 18446744073709551616) (b : Bool) (hb : decide (n % s = 0) = b) : Calls Tryd.prog 62 #[hv s n] w fun e w' => e = .returned (.bool b) ∧ Below w.heap.size w w' := by
  obtain ⟨r, hr⟩ : ∃ r, r = n % s := ⟨_, rfl⟩
  have hp := Lib.hid (fun w => past_any s n w hs hn)
  rw [← hr] at hb hp
  have hb2 : (((r : Nat) : Int) == 0) = b := by rw [← hb]; by_cases h : r = 0 <;> simp [h]
  clear hr hs hn hb
  go_enter Tryd.func62, Tryd.ntmps62
  go_wp2_with ((with_reducible refine (hp.out _).mono ?_); rintro e w' ⟨rfl, rfl⟩)
  go_ret
  exact ⟨rfl, below1 _ _⟩

set_option maxHeartbeats 400000 in
theorem down_any (s n : Nat) (w : World) (hs : 0 < s) (hn : n < 18446744073709551616) : Calls Tryd.prog 63 #[hv s n] w fun e w' => e = .returned (.int .u64 ((n - n % s : Nat) : Int)) ∧ Below w.heap.size w w' := by
  have hw : IntKind.u64.wrap ((n : Int) - ((n % s : Nat) : Int)) = ((n - n % s : Nat) : Int) := by
    have := Nat.mod_le n s
    rw [← Int.ofNat_sub this, wrapN _ (by omega)]
  obtain ⟨d, hd⟩ : ∃ d, d = n - n % s := ⟨_, rfl⟩
  rw [← hd] at hw ⊢
  obtain ⟨r, hr⟩ : ∃ r, r = n % s := ⟨_, rfl⟩
  have hp := Lib.hid (fun w => past_any s n w hs hn)
  rw [← hr] at hp hw
  clear hr hd hs hn
  go_enter Tryd.func63, Tryd.ntmps63
  go_wp2
  go_quiet ((go_at_call 65; exact quiet_l (hp.out _)))
  go_wp2
  go_ret
  exact ⟨rfl, below_drewN (below1 _ _) _⟩

set_option maxHeartbeats 400000 in
theorem up_yes (s n : Nat) (w : World) (hs : 0 < s) (hn : n < 18446744073709551616) (h0 : n % s = 0) : Calls Tryd.prog 60 #[hv s n] w fun e w' => e = .returned (hv 0 n) ∧ Below w.heap.size w w' := by
  have hd := Lib.hid (fun w => down_any s n w hs hn)
  have hm := Lib.hid (fun w => multiple_any s n w hs hn true (by simp [h0]))
  rw [h0, Nat.sub_zero] at hd
  clear hs hn h0
  go_enter Tryd.func60, Tryd.ntmps60
  go_wp2_with fail
  refine (hd.out _).mono ?_
  rintro e w1 ⟨rfl, hb1⟩
  obtain ⟨hc, hf⟩ := bcell hb1
  have hz : w.heap.size + 1 < w1.heap.size := by have := hb1.size; simp at this; omega
  have hz0 : w.heap.size < w1.heap.size := by omega
  go_wp2_with fail
  refine (hm.out _).mono ?_
  rintro e w2 ⟨rfl, hb2⟩
  obtain ⟨hc2, hf2⟩ := bcell hb2
  have hz2 : w1.heap.size < w2.heap.size := by have := hb2.size; simp at this; omega
  have hz20 : w.heap.size < w2.heap.size := by omega
  have hz21 : w.heap.size + 1 < w2.heap.size := by omega
  go_wp2
  exact bodyPost_ret (v := hv 0 n) (by simp [results, Tryd.results60, go_sem, hc, hc2, hz0, hz]) rfl ⟨rfl, (((((below2 _ _ _).trans (hb1.mono (by simp; omega))).alloc (by omega) _).trans (hb2.mono (by simp; omega))).setCell (by simp) _).setCell (by simp) _⟩

set_option maxHeartbeats 400000 in
theorem up_no (s n : Nat) (w : World) (hs : 0 < s) (hs2 : s < 18446744073709551616) (hn : n < 18446744073709551616) (h0 : ¬ n % s = 0) : Calls Tryd.prog 60 #[hv s n] w fun e w' => e = .returned (hv ((n - n % s + s) / 18446744073709551616) ((n - n % s + s) % 18446744073709551616)) ∧ Below w.heap.size w w' := by
  have hd := Lib.hid (fun w => down_any s n w hs hn)
  have hm := Lib.hid (fun w => multiple_any s n w hs hn false (by simp [h0]))
  obtain ⟨d, hdd⟩ : ∃ d, d = n - n % s := ⟨_, rfl⟩
  have hp := Lib.hid (fun w => plus_any 0 d s w (by omega) (by omega) hs2)
  rw [← hdd] at hd ⊢
  rw [Nat.zero_add] at hp
  obtain ⟨x, hx⟩ : ∃ x, x = (d + s) / 18446744073709551616 := ⟨_, rfl⟩
  obtain ⟨y, hy⟩ : ∃ y, y = (d + s) % 18446744073709551616 := ⟨_, rfl⟩
  rw [← hx, ← hy] at hp ⊢
  clear hs hn h0 hs2 hx hy hdd
  go_enter Tryd.func60, Tryd.ntmps60
  go_wp2_with fail
  refine (hd.out _).mono ?_
  rintro e w1 ⟨rfl, hb1⟩
  obtain ⟨hc, hf⟩ := bcell hb1
  have hz : w.heap.size + 1 < w1.heap.size := by have := hb1.size; simp at this; omega
  have hz0 : w.heap.size < w1.heap.size := by omega
  go_wp2_with fail
  refine (hm.out _).mono ?_
  rintro e w2 ⟨rfl, hb2⟩
  obtain ⟨hc2, hf2⟩ := bcell hb2
  have hz2 : w1.heap.size < w2.heap.size := by have := hb2.size; simp at this; omega
  have hz20 : w.heap.size < w2.heap.size := by omega
  have hz21 : w.heap.size + 1 < w2.heap.size := by omega
  go_wp2_with fail
  refine (hp.out _).mono ?_
  rintro e w3 ⟨rfl, hb3⟩
  obtain ⟨hc3, hf3⟩ := bcell hb3
  have hz3 := hb3.size
  go_wp2
  exact bodyPost_ret (v := hv x y) (by simp [results, Tryd.results60, go_sem, hc, hc2, hc3, hz0, hz, hz21]) rfl ⟨rfl, (((((((below2 _ _ _).trans (hb1.mono (by simp; omega))).alloc (by omega) _).trans (hb2.mono (by simp; omega))).trans (hb3.mono (by omega)))).setCell (by simp) _).setCell (by simp) _⟩

set_option maxHeartbeats 400000 in
theorem many_yes (s n : Nat) (w : World) (hs : 0 < s) (hn : n < 18446744073709551616) (h0 : n % s = 0) : Calls Tryd.prog 59 #[hv s n] w fun e w' => e = .returned (.int .u64 ((n / s : Nat) : Int)) ∧ Below w.heap.size w w' := by
  have hd := Lib.hid (fun w => whole_any s n w hs hn)
  have hm := Lib.hid (fun w => multiple_any s n w hs hn true (by simp [h0]))
  obtain ⟨q, hq⟩ : ∃ q, q = n / s := ⟨_, rfl⟩
  rw [← hq] at hd ⊢
  clear hs hn h0 hq
  go_enter Tryd.func59, Tryd.ntmps59
  go_wp2_with fail
  refine (hd.out _).mono ?_
  rintro e w1 ⟨rfl, rfl⟩
  go_wp2_with fail
  refine (hm.out _).mono ?_
  rintro e w2 ⟨rfl, hb2⟩
  go_wp2
  go_ret
  exact ⟨rfl, (below1 _ _).trans (hb2.mono (by simp))⟩
set_option maxHeartbeats 400000 in
theorem many_no (s n : Nat) (w : World) (hs : 0 < s) (hn : n < 18446744073709551616) (h0 : ¬ n % s = 0) : Calls Tryd.prog 59 #[hv s n] w fun e w' => e = .returned (.int .u64 ((n / s + 1 : Nat) : Int)) ∧ Below w.heap.size w w' := by
  have hd := Lib.hid (fun w => whole_any s n w hs hn)
  have hm := Lib.hid (fun w => multiple_any s n w hs hn false (by simp [h0]))
  have hw : IntKind.u64.wrap (((n / s : Nat) : Int) + 1) = ((n / s + 1 : Nat) : Int) := by
    have : n / s < 18446744073709551615 := by
      rcases Nat.lt_or_ge s 2 with h | h
      · obtain rfl : s = 1 := by omega
        exact absurd (Nat.mod_one n) h0
      · have := Nat.div_le_div_left h (by omega : 0 < 2) (a := n)
        omega
    exact wrapN (n / s + 1) (by omega)
  obtain ⟨q, hq⟩ : ∃ q, q = n / s := ⟨_, rfl⟩
  rw [← hq] at hd hw ⊢
  clear hs hn h0 hq
  go_enter Tryd.func59, Tryd.ntmps59
  go_wp2_with fail
  refine (hd.out _).mono ?_
  rintro e w1 ⟨rfl, rfl⟩
  go_wp2_with fail
  refine (hm.out _).mono ?_
  rintro e w2 ⟨rfl, hb2⟩
  go_wp2
  go_ret
  exact ⟨rfl, (below1 _ _).trans (hb2.mono (by simp))⟩
end Go.Proofs.YtpnlddjobphjnaaDoor
