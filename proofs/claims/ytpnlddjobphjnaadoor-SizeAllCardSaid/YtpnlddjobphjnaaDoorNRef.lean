import Derived.Test.YtpnlddjobphjnaaDoorKRef
import Derived.Test.YtpnlddjobphjnaaDoorNeed
import Derived.Test.YtpnlddjobphjnaaDoorRefLog
namespace Go.Proofs.YtpnlddjobphjnaaDoor
open Go.RowKit

theorem log_any (m : Nat) (hm : m < 18446744073709551616) : ∃ k : Int, Hid (∀ w : World, Calls Tryd.prog 34 #[.int .u64 (m : Int)] w fun e w' => e = .returned (.int .i64 k) ∧ w = w') ∧ mayB m = (decide (0 ≤ k) && decide (k ≤ 8)) := by
  by_cases h : isPow m = true
  · obtain ⟨j, hj, rfl⟩ := (isPow_iff hm).1 h
    refine ⟨(j : Int), Lib.hid fun w => reflog_yes j w hj, ?_⟩
    rw [mayB, h, Bool.true_and, Bool.eq_iff_iff]
    simp only [decide_eq_true_eq, Bool.and_eq_true]
    rw [show (256 : Nat) = 2 ^ 8 from rfl, Nat.pow_le_pow_iff_right (by omega)]
    omega
  · have h' : isPow m = false := by simpa using h
    refine ⟨-1, Lib.hid fun w => reflog_no m w (fun k hk e => ?_), ?_⟩
    · have := (isPow_iff hm).2 ⟨k, hk, e⟩
      rw [h'] at this
      cases this
    · rw [mayB, h']; rfl

theorem clsB_none {n : Int} (h : cls n = none) : clsB n = false ∧ clsN n = 0 ∧ payN n = 0 ∧ clsR n = -1 := by
  refine ⟨?_, ?_, ?_, ?_⟩ <;> simp [clsB, clsN, payN, clsR, h]
theorem clsB_some {n : Int} {k : Nat} (h : cls n = some k) : clsB n = true ∧ clsN n = k ∧ payN n = pay k ∧ clsR n = k ∧ k < 8 := by
  have := List.mem_of_find?_eq_some h
  rw [List.mem_range] at this
  refine ⟨?_, ?_, ?_, ?_, this⟩ <;> simp [clsB, clsN, payN, clsR, h]

set_option maxHeartbeats 1000000 in
theorem refof_no (s m : Nat) (w : World) (hs : s < 18446744073709551616) (hm : m < 18446744073709551616) (hno : okB s m = false) :
    Calls Tryd.prog 20 #[.int .u64 (s : Int), .int .u64 (m : Int)] w fun e w' => e = .returned (.tuple #[nv false 0 0 0, .int .i64 2]) ∧ Below w.heap.size w w' := by
  obtain ⟨k, hk, hb⟩ := log_any m hm
  by_cases h1 : s ≤ 262144
  · have e1 : decide (262144 < s) = false := decide_eq_false (by omega)
    have e2 : decide (262144 < (s : Int)) = false := decide_eq_false (by omega)
    rw [okB, decide_eq_true h1, Bool.true_and, hb] at hno
    clear h1 hs hm hb
    by_cases h2 : k < 0
    · have e3 : decide (k < 0) = true := decide_eq_true h2
      clear h2 hno
      go_enter Tryd.func20, Tryd.ntmps20
      go_wp2_with fail
      refine (hk.out _).mono ?_
      rintro e w' ⟨rfl, rfl⟩
      go_wp2
      exact bodyPost_ret (v := .tuple #[nv false 0 0 0, .int .i64 2]) (by simp [results, Tryd.results20, go_sem]) rfl ⟨rfl, below1 _ _⟩
    · have e3 : decide (k < 0) = false := decide_eq_false h2
      have h4 : ¬ k ≤ 8 := by
        intro h
        rw [decide_eq_true (by omega : 0 ≤ k), decide_eq_true h] at hno
        cases hno
      have e4 : decide (8 < k) = true := decide_eq_true (by omega)
      clear h2 hno h4
      go_enter Tryd.func20, Tryd.ntmps20
      go_wp2_with fail
      refine (hk.out _).mono ?_
      rintro e w' ⟨rfl, rfl⟩
      go_wp2
      exact bodyPost_ret (v := .tuple #[nv false 0 0 0, .int .i64 2]) (by simp [results, Tryd.results20, go_sem]) rfl ⟨rfl, below1 _ _⟩
  · have e1 : decide (262144 < s) = true := decide_eq_true (by omega)
    have e2 : decide (262144 < (s : Int)) = true := decide_eq_true (by omega)
    clear h1 hs hm hb hno
    go_enter Tryd.func20, Tryd.ntmps20
    go_wp2_with fail
    refine (hk.out _).mono ?_
    rintro e w' ⟨rfl, rfl⟩
    go_wp2
    exact bodyPost_ret (v := .tuple #[nv false 0 0 0, .int .i64 2]) (by simp [results, Tryd.results20, go_sem]) rfl ⟨rfl, below1 _ _⟩

set_option maxHeartbeats 1000000 in
theorem refof_yes (s m : Nat) (w : World) (hm : m < 18446744073709551616) (hok : okB s m = true) :
    Calls Tryd.prog 20 #[.int .u64 (s : Int), .int .u64 (m : Int)] w fun e w' => e = .returned (.tuple #[nv (ndB (sz s) m) (ndC (sz s) m) (ndP (sz s) m) (ndH (sz s) m), .int .i64 0]) ∧ Below w.heap.size w w' := by
  obtain ⟨k, hk, hb⟩ := log_any m hm
  rw [okB, hb, Bool.and_eq_true, Bool.and_eq_true, decide_eq_true_eq, decide_eq_true_eq, decide_eq_true_eq] at hok
  obtain ⟨h1, h2, h3⟩ := hok
  have e1 : decide (262144 < s) = false := decide_eq_false (by omega)
  have e2 : decide (262144 < (s : Int)) = false := decide_eq_false (by omega)
  have e3 : decide (k < 0) = false := decide_eq_false (by omega)
  have e4 : decide (8 < k) = false := decide_eq_false (by omega)
  have hcv := convN s (by omega)
  have hmax : (if (1 : Int) < (s : Int) then (s : Int) else 1) = ((sz s : Nat) : Int) := by unfold sz; split <;> omega
  have hzz : 1 ≤ sz s ∧ sz s ≤ 262144 := by unfold sz; omega
  clear hb h1 h2 h3 hm
  have hcl := Lib.hid (fun w => refclass_any ((sz s : Nat) : Int) w)
  have hnb : ndB (sz s) m = (clsB ((sz s : Nat) : Int) && decide (m ≤ 16)) := rfl
  obtain ⟨n, hn⟩ : ∃ n, n = sz s := ⟨_, rfl⟩
  unfold ndC ndP ndH
  rw [← hn] at hmax hcl hnb hzz ⊢
  clear hn
  obtain ⟨z, hz⟩ : ∃ z, z = decide (m ≤ 16) := ⟨_, rfl⟩
  have hz2 : decide ((m : Int) ≤ 16) = z := by rw [hz]; congr 1; exact propext (by omega)
  have hz1 : decide (m ≤ 16) = z := hz.symm
  rw [hz1] at hnb
  rw [hnb]
  clear hz hnb
  cases hc : cls (n : Int) with
  | none =>
    obtain ⟨c1, c2, c3, c4⟩ := clsB_none hc
    rw [c1, c2, c3]
    rw [c4] at hcl
    show Calls _ _ _ _ fun e w' => e = .returned (.tuple #[nv false 0 (pg n) (256 * pg n : Nat), .int .i64 0]) ∧ Below w.heap.size w w'
    clear c1 c2 c3 c4 hc
    go_enter Tryd.func20, Tryd.ntmps20
    go_wp2_with fail
    refine (hk.out _).mono ?_
    rintro e w' ⟨rfl, rfl⟩
    go_wp2_with fail
    refine (hcl.out _).mono ?_
    rintro e w' ⟨rfl, rfl⟩
    go_wp2_with fail
    go_loop [9] (fun i => ∃ p : Nat, i = .int .i64 (p : Int) ∧ Hid (1 ≤ p ∧ p ≤ pg n)) (fun i => 1024 - (intOf i).toNat)
    case atStart => exact ⟨1, rfl, Lib.hid ⟨Nat.le_refl _, by unfold pg; omega⟩⟩
    case round =>
      obtain ⟨p, rfl, H⟩ := hrel
      have hp := H.out
      have hg := pg_le hzz.2
      have w1 : IntKind.i64.wrap ((p : Int) * 256) = ((p * 256 : Nat) : Int) := wrapI ((p * 256 : Nat) : Int) (by omega) (by omega)
      by_cases hlt : p < pg n
      · have hd : decide (p * 256 < n) = true := decide_eq_true (by unfold pg at hlt; omega)
        have hd2 : decide (((p * 256 : Nat) : Int) < (n : Int)) = true := decide_eq_true (by unfold pg at hlt; omega)
        have w2 : IntKind.i64.wrap ((p : Int) + 1) = ((p + 1 : Nat) : Int) := wrapI ((p + 1 : Nat) : Int) (by omega) (by omega)
        have Hn : Hid (1 ≤ p + 1 ∧ p + 1 ≤ pg n) := Lib.hid ⟨by omega, by omega⟩
        have hm : 1024 - (p + 1) < 1024 - p := by omega
        obtain ⟨q, hq⟩ : ∃ q, q = p * 256 := ⟨_, rfl⟩
        rw [← hq] at w1 hd hd2
        clear hq hlt hp hg
        go_wp2
        go_round
        case rel => exact ⟨p + 1, by go_num, Hn⟩
        case measure => simp [intOf]; omega
      · have hpe : p = pg n := by omega
        have hd : decide (p * 256 < n) = false := decide_eq_false (by rw [hpe]; unfold pg; omega)
        have hd2 : decide (((p * 256 : Nat) : Int) < (n : Int)) = false := decide_eq_false (by rw [hpe]; unfold pg; omega)
        have w2 : IntKind.i64.wrap (256 * (p : Int)) = ((256 * p : Nat) : Int) := wrapI ((256 * p : Nat) : Int) (by omega) (by omega)
        obtain ⟨a, ha⟩ : ∃ a, a = p * 256 := ⟨_, rfl⟩
        obtain ⟨b, hb⟩ : ∃ b, b = 256 * p := ⟨_, rfl⟩
        rw [← ha] at w1 hd hd2
        rw [← hb] at w2
        have HB := Lib.hid hb
        have HP := Lib.hid hpe
        clear ha hb hpe hlt hp hg H
        go_wp2
        exact bodyPost_ret (v := .tuple #[nv false 0 p b, .int .i64 0]) (by simp [results, Tryd.results20, go_sem]) rfl ⟨by rw [HB.out, HP.out]; rfl, below1 _ _⟩
  | some c =>
    obtain ⟨c1, c2, c3, c4, c5⟩ := clsB_some hc
    rw [c1, c2, c3]
    rw [c4] at hcl
    cases z
    · show Calls _ _ _ _ fun e w' => e = .returned (.tuple #[nv false 0 (pg n) (256 * pg n : Nat), .int .i64 0]) ∧ Below w.heap.size w w'
      clear c1 c2 c3 c4 hc
      go_enter Tryd.func20, Tryd.ntmps20
      go_wp2_with fail
      refine (hk.out _).mono ?_
      rintro e w' ⟨rfl, rfl⟩
      go_wp2_with fail
      refine (hcl.out _).mono ?_
      rintro e w' ⟨rfl, rfl⟩
      go_wp2_with fail
      go_loop [9] (fun i => ∃ p : Nat, i = .int .i64 (p : Int) ∧ Hid (1 ≤ p ∧ p ≤ pg n)) (fun i => 1024 - (intOf i).toNat)
      case atStart => exact ⟨1, rfl, Lib.hid ⟨Nat.le_refl _, by unfold pg; omega⟩⟩
      case round =>
        obtain ⟨p, rfl, H⟩ := hrel
        have hp := H.out
        have hg := pg_le hzz.2
        have w1 : IntKind.i64.wrap ((p : Int) * 256) = ((p * 256 : Nat) : Int) := wrapI ((p * 256 : Nat) : Int) (by omega) (by omega)
        by_cases hlt : p < pg n
        · have hd : decide (p * 256 < n) = true := decide_eq_true (by unfold pg at hlt; omega)
          have hd2 : decide (((p * 256 : Nat) : Int) < (n : Int)) = true := decide_eq_true (by unfold pg at hlt; omega)
          have w2 : IntKind.i64.wrap ((p : Int) + 1) = ((p + 1 : Nat) : Int) := wrapI ((p + 1 : Nat) : Int) (by omega) (by omega)
          have Hn : Hid (1 ≤ p + 1 ∧ p + 1 ≤ pg n) := Lib.hid ⟨by omega, by omega⟩
          have hm : 1024 - (p + 1) < 1024 - p := by omega
          obtain ⟨q, hq⟩ : ∃ q, q = p * 256 := ⟨_, rfl⟩
          rw [← hq] at w1 hd hd2
          clear hq hlt hp hg
          go_wp2
          go_round
          case rel => exact ⟨p + 1, by go_num, Hn⟩
          case measure => simp [intOf]; omega
        · have hpe : p = pg n := by omega
          have hd : decide (p * 256 < n) = false := decide_eq_false (by rw [hpe]; unfold pg; omega)
          have hd2 : decide (((p * 256 : Nat) : Int) < (n : Int)) = false := decide_eq_false (by rw [hpe]; unfold pg; omega)
          have w2 : IntKind.i64.wrap (256 * (p : Int)) = ((256 * p : Nat) : Int) := wrapI ((256 * p : Nat) : Int) (by omega) (by omega)
          obtain ⟨a, ha⟩ : ∃ a, a = p * 256 := ⟨_, rfl⟩
          obtain ⟨b, hb⟩ : ∃ b, b = 256 * p := ⟨_, rfl⟩
          rw [← ha] at w1 hd hd2
          rw [← hb] at w2
          have HB := Lib.hid hb
          have HP := Lib.hid hpe
          clear ha hb hpe hlt hp hg H
          go_wp2
          exact bodyPost_ret (v := .tuple #[nv false 0 p b, .int .i64 0]) (by simp [results, Tryd.results20, go_sem]) rfl ⟨by rw [HB.out, HP.out]; rfl, below1 _ _⟩
    · have hr := Lib.hid (fun w => refpay_yes c w c5)
      show Calls _ _ _ _ fun e w' => e = .returned (.tuple #[nv true c 0 (pay c), .int .i64 0]) ∧ Below w.heap.size w w'
      obtain ⟨p, hp⟩ : ∃ p, p = pay c := ⟨_, rfl⟩
      rw [← hp] at hr ⊢
      clear c1 c2 c3 c4 c5 hc hp
      go_enter Tryd.func20, Tryd.ntmps20
      go_wp2_with fail
      refine (hk.out _).mono ?_
      rintro e w' ⟨rfl, rfl⟩
      go_wp2_with fail
      refine (hcl.out _).mono ?_
      rintro e w' ⟨rfl, rfl⟩
      go_wp2_with fail
      refine (hr.out _).mono ?_
      rintro e w' ⟨rfl, rfl⟩
      go_wp2
      exact bodyPost_ret (v := .tuple #[nv true c 0 p, .int .i64 0]) (by simp [results, Tryd.results20, go_sem]) rfl ⟨rfl, below1 _ _⟩

theorem refof_any (s m : Nat) (w : World) (hs : s < 18446744073709551616) (hm : m < 18446744073709551616) :
    Calls Tryd.prog 20 #[.int .u64 (s : Int), .int .u64 (m : Int)] w fun e w' => e = .returned (.tuple #[nv (ofB s m) (ofC s m) (ofP s m) (ofH s m), .int .i64 (ofE s m)]) ∧ Below w.heap.size w w' := by
  unfold ofB ofC ofP ofH ofE
  cases h : okB s m with
  | true => exact refof_yes s m w hm h
  | false => exact refof_no s m w hs hm h

set_option maxHeartbeats 400000 in
theorem reftotal_any (a b : Nat) (w : World) : Calls Tryd.prog 22 #[.int .u64 (a : Int), .int .u64 (b : Int)] w fun e w' => e = .returned (.tuple #[.int .u64 (bdN (a * b) : Int), .int .i64 (bdE (a * b))]) ∧ Below w.heap.size w w' := by
  have hc := Lib.hid (fun w => refmul_any [a, b] 2 2 (some ⟨w.heap.size, 0, none⟩) (w.heap.size + 1) (w.alloc (.cells #[.int .u64 (a : Int), .int .u64 (b : Int)] 31)) rfl (by omega) (sees_nums w [a, b] 31 rfl))
  rw [show prodL [a, b] = a * b by simp [prodL]] at hc
  obtain ⟨P, hP⟩ : ∃ P, P = a * b := ⟨_, rfl⟩
  rw [← hP] at hc ⊢
  clear hP
  by_cases h1 : P < big
  · rw [tellN, tellE, if_pos h1, if_pos h1] at hc
    by_cases h2 : P ≤ 262144
    · have e2 : decide (262144 < P) = false := decide_eq_false (by omega)
      have e3 : decide (262144 < (P : Int)) = false := decide_eq_false (by omega)
      rw [bdN, bdE, if_pos h2, if_pos h2]
      clear h1 h2
      go_enter Tryd.func22, Tryd.ntmps22
      go_wp2_with fail
      refine (hc.out w).mono ?_
      rintro e w1 ⟨rfl, rfl⟩
      go_wp2
      go_ret2
      exact ⟨rfl, below1 _ _⟩
    · have e2 : decide (262144 < P) = true := decide_eq_true (by omega)
      have e3 : decide (262144 < (P : Int)) = true := decide_eq_true (by omega)
      rw [bdN, bdE, if_neg h2, if_neg h2]
      clear h1 h2
      go_enter Tryd.func22, Tryd.ntmps22
      go_wp2_with fail
      refine (hc.out w).mono ?_
      rintro e w1 ⟨rfl, rfl⟩
      go_wp2
      go_ret2
      exact ⟨rfl, below1 _ _⟩
  · have h2 : ¬ P ≤ 262144 := by rw [big] at h1; omega
    rw [tellN, tellE, if_neg h1, if_neg h1] at hc
    rw [bdN, bdE, if_neg h2, if_neg h2]
    clear h1 h2
    go_enter Tryd.func22, Tryd.ntmps22
    go_wp2_with fail
    refine (hc.out w).mono ?_
    rintro e w1 ⟨rfl, rfl⟩
    go_wp2
    go_ret2
    exact ⟨rfl, below1 _ _⟩
end Go.Proofs.YtpnlddjobphjnaaDoor
