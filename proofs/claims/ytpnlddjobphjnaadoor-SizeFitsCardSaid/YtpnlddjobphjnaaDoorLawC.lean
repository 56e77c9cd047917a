import Derived.Test.YtpnlddjobphjnaaDoorKWorks
namespace Go.Proofs.YtpnlddjobphjnaaDoor
open Go.RowKit

set_option maxRecDepth 100000 in
set_option maxHeartbeats 1000000 in
theorem sizeClasses_no (n : Int) (w : World) (ht : Tab w) (hk : isK n = false) : Calls Tryd.prog 3 #[.int .i64 n] w fun e w' => e = .returned (.bool true) ∧ Below w.heap.size w w' := by
  have h1 := Lib.hid (fun w => payload_no n w hk)
  have h2 := Lib.hid (fun w => slot_no n w hk)
  have h3 := Lib.hid (fun w => count_no n w hk)
  have h4 := Lib.hid (fun w => refpay_no n w hk)
  clear hk
  go_enter Tryd.func3, Tryd.ntmps3
  go_wp2_with fail
  refine (h1.out _).mono ?_
  rintro e w1 ⟨rfl, hB1⟩
  go_wp2_with fail
  refine (h2.out _).mono ?_
  rintro e w2 ⟨rfl, hb2⟩
  have hB2 := below0 hB1 hb2
  clear hB1 hb2
  go_wp2_with fail
  refine (h3.out _).mono ?_
  rintro e w3 ⟨rfl, hb3⟩
  have hB3 := below0 hB2 hb3
  clear hB2 hb3
  go_wp2_with (first | ((with_reducible refine (h4.out _).mono ?_); rintro e w' ⟨rfl, rfl⟩) | ((with_reducible refine (num_any _ _).mono ?_); rintro e w' ⟨rfl, rfl⟩))
  refine (works_any _ (ht.below hB3)).mono ?_
  rintro e w4 ⟨rfl, hb4⟩
  go_wp2_with fail
  go_ret
  exact ⟨rfl, below0 hB3 hb4⟩

set_option maxRecDepth 100000 in
set_option maxHeartbeats 1000000 in
theorem sizeClasses_yes (k : Nat) (w : World) (ht : Tab w) (hk : k < 8) : Calls Tryd.prog 3 #[.int .i64 (k : Int)] w fun e w' => e = .returned (.bool true) ∧ Below w.heap.size w w' := by
  have h1 := Lib.hid (fun w ht => payload_yes k w ht hk)
  have h2 := Lib.hid (fun w ht => slot_yes k w ht hk)
  have h3 := Lib.hid (fun w ht => count_yes k w ht hk)
  have h4 := Lib.hid (fun w => refpay_yes k w hk)
  have h5 := Lib.hid (fun w => refslot_yes k w hk)
  have h6 := Lib.hid (fun w => refcount_yes k w hk)
  have hpb := pay_bound hk
  have hneg : decide ((pay k : Int) < 0) = false := decide_eq_false (by omega)
  have hrem : IntKind.i64.wrap (((pay k + 32 : Nat) : Int).tmod 16) = 0 := by
    rw [show ((pay k + 32 : Nat) : Int).tmod 16 = (((pay k + 32) % 16 : Nat) : Int) from rfl, show (pay k + 32) % 16 = 0 by omega]
    rfl
  obtain ⟨b, hb⟩ : ∃ b, b = pay k + 32 := ⟨_, rfl⟩
  have hrem2 : (b : Int) % 16 = 0 := by rw [hb]; omega
  have hrem3 : b % 16 = 0 := by rw [hb]; omega
  obtain ⟨c, hc⟩ : ∃ c, c = 4096 / (pay k + 32) := ⟨_, rfl⟩
  obtain ⟨a, ha⟩ : ∃ a, a = pay k := ⟨_, rfl⟩
  rw [← hc] at h3 h6
  rw [← hb] at h2 h5 hrem
  rw [← ha] at h1 h4 hneg
  have HT := Lib.hid ht
  clear hc hb ha hpb hk ht
  go_enter Tryd.func3, Tryd.ntmps3
  go_wp2_with fail
  refine (h1.out _ HT.out).mono ?_
  rintro e w1 ⟨rfl, hB1⟩
  go_wp2_with fail
  refine (h2.out _ (HT.out.below hB1)).mono ?_
  rintro e w2 ⟨rfl, hb2⟩
  have hB2 := below0 hB1 hb2
  clear hB1 hb2
  go_wp2_with fail
  refine (h3.out _ (HT.out.below hB2)).mono ?_
  rintro e w3 ⟨rfl, hb3⟩
  have hB3 := below0 hB2 hb3
  clear hB2 hb3
  go_wp2_with (first | ((with_reducible refine (h4.out _).mono ?_); rintro e w' ⟨rfl, rfl⟩) | ((with_reducible refine (h5.out _).mono ?_); rintro e w' ⟨rfl, rfl⟩) | ((with_reducible refine (h6.out _).mono ?_); rintro e w' ⟨rfl, rfl⟩) | ((with_reducible refine (num_any _ _).mono ?_); rintro e w' ⟨rfl, rfl⟩))
  refine (works_any _ (HT.out.below hB3)).mono ?_
  rintro e w4 ⟨rfl, hb4⟩
  go_wp2_with fail
  go_ret
  exact ⟨rfl, below0 hB3 hb4⟩

theorem sizeClasses_any (n : Int) (w : World) (ht : Tab w) : Calls Tryd.prog 3 #[.int .i64 n] w fun e w' => e = .returned (.bool true) ∧ Below w.heap.size w w' := by
  cases h : isK n with
  | false => exact sizeClasses_no n w ht h
  | true =>
    simp [isK] at h
    obtain ⟨k, rfl⟩ : ∃ k : Nat, n = k := ⟨n.toNat, by omega⟩
    exact sizeClasses_yes k w ht (by omega)

set_option maxRecDepth 100000 in
set_option maxHeartbeats 1000000 in
theorem sizeFits_any (n : Int) (w : World) (ht : Tab w) : Calls Tryd.prog 4 #[.int .i64 n] w fun e w' => e = .returned (.bool true) ∧ Below w.heap.size w w' := by
  have h1 := Lib.hid (class_any n w ht)
  have h2 := Lib.hid (fun w => refclass_any n w)
  have HT := Lib.hid ht
  clear ht
  cases hc : cls n with
  | none =>
    obtain ⟨c1, c2, c3, c4⟩ := clsB_none hc
    rw [c1, c2] at h1
    rw [c4] at h2
    clear c1 c2 c3 c4 hc
    go_enter Tryd.func4, Tryd.ntmps4
    go_wp2_with fail
    refine (h1.out).mono ?_
    rintro e w1 ⟨rfl, hB1⟩
    go_wp2_with fail
    refine (h2.out _).mono ?_
    rintro e w' ⟨rfl, rfl⟩
    go_wp2_with fail
    refine (works_any _ (HT.out.below hB1)).mono ?_
    rintro e w4 ⟨rfl, hb4⟩
    go_wp2_with fail
    go_ret
    exact ⟨rfl, below0 hB1 hb4⟩
  | some k =>
    obtain ⟨c1, c2, c3, c4, _⟩ := clsB_some hc
    rw [c1, c2] at h1
    rw [c4] at h2
    have hmax : (if (0 : Int) < (k : Int) then (k : Int) else 0) = (k : Int) := by split <;> omega
    have hmax2 : (if 0 < k then (k : Int) else 0) = (k : Int) := by split <;> omega
    clear c1 c2 c3 c4 hc
    go_enter Tryd.func4, Tryd.ntmps4
    go_wp2_with fail
    refine (h1.out).mono ?_
    rintro e w1 ⟨rfl, hB1⟩
    go_wp2_with fail
    refine (h2.out _).mono ?_
    rintro e w' ⟨rfl, rfl⟩
    go_wp2_with fail
    refine (works_any _ (HT.out.below hB1)).mono ?_
    rintro e w4 ⟨rfl, hb4⟩
    go_wp2_with fail
    go_ret
    exact ⟨rfl, below0 hB1 hb4⟩

set_option maxRecDepth 100000 in
set_option maxHeartbeats 1000000 in
theorem sizeTotals_any (a b : Nat) (w : World) (ht : Tab w) (ha : a < 18446744073709551616) (hb : b < 18446744073709551616) : Calls Tryd.prog 6 #[.int .u64 (a : Int), .int .u64 (b : Int)] w fun e w' => e = .returned (.bool true) ∧ Below w.heap.size w w' := by
  have h1 := Lib.hid (total_any a b w ha hb)
  have h2 := Lib.hid (fun w => reftotal_any a b w)
  obtain ⟨x, hx⟩ : ∃ x, x = bdN (a * b) := ⟨_, rfl⟩
  obtain ⟨y, hy⟩ : ∃ y, y = bdE (a * b) := ⟨_, rfl⟩
  rw [← hx, ← hy] at h1 h2
  have HT := Lib.hid ht
  clear ht hx hy ha hb
  go_enter Tryd.func6, Tryd.ntmps6
  go_wp2_with fail
  refine (h1.out).mono ?_
  rintro e w1 ⟨rfl, hB1⟩
  go_wp2_with fail
  refine (h2.out _).mono ?_
  rintro e w2 ⟨rfl, hb2⟩
  have hB2 := below0 hB1 hb2
  clear hB1 hb2
  go_wp2_with ((with_reducible refine (num_any _ _).mono ?_); rintro e w' ⟨rfl, rfl⟩)
  refine (works_any _ (HT.out.below hB2)).mono ?_
  rintro e w4 ⟨rfl, hb4⟩
  go_wp2_with fail
  go_ret
  exact ⟨rfl, below0 hB2 hb4⟩

set_option maxRecDepth 100000 in
set_option maxHeartbeats 1000000 in
theorem sizeNeeds_any (s m : Nat) (w : World) (ht : Tab w) (hs : s < 18446744073709551616) (hm : m < 18446744073709551616) : Calls Tryd.prog 5 #[.int .u64 (s : Int), .int .u64 (m : Int)] w fun e w' => e = .returned (.bool true) ∧ Below w.heap.size w w' := by
  have h1 := Lib.hid (of_any s m w ht hs hm)
  have h2 := Lib.hid (fun w => refof_any s m w hs hm)
  obtain ⟨b, hb⟩ : ∃ x, x = ofB s m := ⟨_, rfl⟩
  obtain ⟨c, hc⟩ : ∃ x, x = ofC s m := ⟨_, rfl⟩
  obtain ⟨p, hp⟩ : ∃ x, x = ofP s m := ⟨_, rfl⟩
  obtain ⟨h, hh⟩ : ∃ x, x = ofH s m := ⟨_, rfl⟩
  obtain ⟨e0, he⟩ : ∃ x, x = ofE s m := ⟨_, rfl⟩
  rw [← hb, ← hc, ← hp, ← hh, ← he] at h1 h2
  have HT := Lib.hid ht
  clear ht hb hc hp hh he hs hm
  go_enter Tryd.func5, Tryd.ntmps5
  go_wp2_with fail
  refine (h1.out).mono ?_
  rintro e w1 ⟨rfl, hB1⟩
  have hn1 := Nd.new w1 (.bool b) (.int .i64 c) (.int .i64 p) (.int .i64 h)
  have hB2 := hB1.alloc hB1.size (.cells #[.bool b, .int .i64 c, .int .i64 p, .int .i64 h] 33)
  go_wp2_with fail
  refine (h2.out _).mono ?_
  rintro e w2 ⟨rfl, hb2⟩
  have hB3 := below0 hB2 hb2
  obtain ⟨hl, k0, k1, k2, k3, _, _, _, _⟩ := (hn1.below hb2).facts
  clear hb2 hB1 hn1 hB2
  have hB4 := hB3.alloc hB3.size (.cells #[.bool b, .int .i64 c, .int .i64 p, .int .i64 h] 33)
  go_wp2_with ((with_reducible refine (num_any _ _).mono ?_); rintro e w' ⟨rfl, rfl⟩)
  refine (works_any _ (HT.out.below hB4)).mono ?_
  rintro e w4 ⟨rfl, hb4⟩
  go_wp2_with fail
  go_ret
  exact ⟨rfl, below0 hB4 hb4⟩
end Go.Proofs.YtpnlddjobphjnaaDoor
