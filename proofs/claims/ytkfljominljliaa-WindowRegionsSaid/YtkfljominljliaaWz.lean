import Derived.Test.YtkfljominljliaaWy
import Derived.BigQuiet
namespace Go.Proofs.Ytkfljominljliaa
open Go.RowKit Go.Shelf
attribute [local go_sem] Oper.semAt_some

theorem flat_len (f s : Nat) (l : List Nat) : (l.flatMap (encL f s)).length = l.length * 2 := by
  induction l with
  | nil => rfl
  | cons x l ih => simp only [List.flatMap_cons, List.length_append, List.length_cons, ih]; simp only [encL, List.length_cons, List.length_nil]; omega
theorem flat_get (f s : Nat) : ∀ (m k : Nat), k < m → ((List.range m).flatMap (encL f s))[k * 2]? = some (.int .i64 (k : Int)) ∧ ((List.range m).flatMap (encL f s))[k * 2 + 1]? = some (.int .i64 ((f + s * k : Nat) : Int))
  | 0, _, h => absurd h (Nat.not_lt_zero _)
  | m + 1, k, h => by
    rw [List.range_succ, List.flatMap_append]
    have hl : ((List.range m).flatMap (encL f s)).length = m * 2 := by rw [flat_len, List.length_range]
    by_cases hk : k < m
    · obtain ⟨h1, h2⟩ := flat_get f s m k hk
      rw [List.getElem?_append_left (by omega), List.getElem?_append_left (by omega)]
      exact ⟨h1, h2⟩
    · obtain rfl : k = m := by omega
      rw [List.getElem?_append_right (by omega), List.getElem?_append_right (by omega), hl]
      simp [encL]
/-- two pairs of numbers are compared -/
theorem eq_pair (a b c d : Int) (w : World) : (Op.equalIn 10000 49 (.agg #[.int .i64 a, .int .i64 b]) (.agg #[.int .i64 c, .int .i64 d])).run Try.prog w = .ok (a == c && b == d) w := by
  have u3 := Try.underlying3
  have a3 := Try.isAgg3
  have z3 := Try.sizeOf3
  rw [show (10000 : Nat) = 9999 + 1 from rfl, Op.equalIn]
  simp only [Sem.run_bind, run_underlying Try.underlying49, Result.andThen_ok]
  simp only [Std.Legacy.Range.forIn_eq_forIn_range', Std.Legacy.Range.size, Nat.sub_zero, Nat.add_sub_cancel, Nat.div_one, List.range'_succ, List.range'_zero, List.forIn_cons, List.forIn_nil]
  go_simp
  by_cases h1 : a = c <;> by_cases h2 : b = d <;> simp [h1, h2]

set_option maxRecDepth 100000 in
set_option maxHeartbeats 1000000 in
theorem regions_far (n many : Int) (w : World) (hm : many < 1 ∨ 20 < many) :
    Calls Try.prog 6 #[.int .i64 n, .int .i64 many] w fun e w' => e = .returned (.bool true) ∧ Below w.heap.size w w' := by
  by_cases h1 : many < 1
  · have e1 : decide (many < 1) = true := decide_eq_true h1
    clear hm h1
    go_enter Try.func6, Try.ntmps6
    go_wp2_with fail
    refine (works_any _).mono ?_
    rintro r w1 ⟨rfl, hb1⟩
    go_wp2_with fail
    go_ret
    exact ⟨rfl, hb1⟩
  · have e1 : decide (many < 1) = false := decide_eq_false h1
    have e2 : decide (20 < many) = true := decide_eq_true (by omega)
    clear hm h1
    go_enter Try.func6, Try.ntmps6
    go_wp2_with fail
    refine (works_any _).mono ?_
    rintro r w1 ⟨rfl, hb1⟩
    go_wp2_with fail
    go_ret
    exact ⟨rfl, hb1⟩
set_option maxRecDepth 100000 in
set_option maxHeartbeats 2000000 in
theorem regions_no (n : Int) (many : Nat) (w : World) (hn : isB n 4 = false) (hm1 : 1 ≤ many) (hm : many ≤ 20) :
    Calls Try.prog 6 #[.int .i64 n, .int .i64 (many : Int)] w fun e w' => e = .returned (.bool true) ∧ Below w.heap.size w w' := by
  have hcl := Lib.hid (regions_any n 0 0 0 0 (by omega) (by omega) (by omega) many hm1 hm w (fun W => regs_no n W hn))
  rw [show min 0 many = 0 by omega] at hcl
  have e1 : decide ((many : Int) < 1) = false := decide_eq_false (by omega)
  have e2 : decide (20 < (many : Int)) = false := decide_eq_false (by omega)
  have e1' : decide (many < 1) = false := decide_eq_false (by omega)
  have e2' : decide (20 < many) = false := decide_eq_false (by omega)
  have h5 := Lib.hid (fun w => rslot_any n w)
  rw [hn] at h5
  have hwk := Lib.hid works_any
  clear hn hm1 hm
  go_enter Try.func6, Try.ntmps6
  go_wp2_with fail
  refine (hcl.out).mono ?_
  rintro r w1 ⟨A, c, rfl, _, hB1⟩
  have hl0 : (List.range 0).length = 0 := rfl
  go_wp2_with (first
    | (go_at_call 12; refine (h5.out _).mono ?_; rintro e wn ⟨rfl, rfl⟩))
  refine (hwk.out _).mono ?_
  rintro r w2 ⟨rfl, hb2⟩
  go_wp2
  go_ret
  exact ⟨rfl, below0 hB1 hb2⟩
set_option maxRecDepth 100000 in
set_option maxHeartbeats 2000000 in
theorem regions_yes (q many : Nat) (w : World) (hq : q < 4) (hm1 : 1 ≤ many) (hm : many ≤ 20) :
    Calls Try.prog 6 #[.int .i64 (q : Int), .int .i64 (many : Int)] w fun e w' => e = .returned (.bool true) ∧ Below w.heap.size w w' := by
  have hcl := Lib.hid (regions_any (q : Int) (4096 * q + 4097) 17 16 8 (by omega) (by omega) (by omega) many hm1 hm w (fun W => regs_yes q W hq))
  have e1 : decide ((many : Int) < 1) = false := decide_eq_false (by omega)
  have e2 : decide (20 < (many : Int)) = false := decide_eq_false (by omega)
  have e1' : decide (many < 1) = false := decide_eq_false (by omega)
  have e2' : decide (20 < many) = false := decide_eq_false (by omega)
  have h5 := Lib.hid (fun w => rslot_any (q : Int) w)
  rw [show isB (q : Int) 4 = true from isB_yes (n := 4) hq] at h5
  have hrr := Lib.hid (fun (k : Nat) w (hk : k < 8) => rregion_any q k w (by omega) (by omega))
  have hmin : (if (many : Int) < 8 then (many : Int) else 8) = ((min 8 many : Nat) : Int) := by split <;> omega
  have hmm : min 8 many ≤ 8 := by omega
  have hwk := Lib.hid works_any
  obtain ⟨m, hmd⟩ : ∃ m, m = min 8 many := ⟨_, rfl⟩
  rw [← hmd] at hmin hmm hcl
  obtain ⟨f, hf⟩ : ∃ f, f = 4096 * q + 4097 := ⟨_, rfl⟩
  rw [← hf] at hcl hrr
  clear hmd hm1 hm hf hq
  go_enter Try.func6, Try.ntmps6
  go_wp2_with fail
  refine (hcl.out).mono ?_
  rintro r w1 ⟨A, c, rfl, hown, hB1⟩
  rw [List.length_range] at hown ⊢
  clear hcl e1 e2 e1' e2'
  go_wp2_with (first
    | (go_at_call 12; refine (h5.out _).mono ?_; rintro e wn ⟨rfl, rfl⟩))
  go_loopw [6] (fun i wr => ∃ k : Nat, k ≤ m ∧ i = .int .i64 k ∧ Below w1.heap.size w1 wr) (fun i _ => m - (intOf i).toNat)
  case atStart => exact ⟨0, Nat.zero_le _, rfl, Below.refl _ _⟩
  case round =>
    obtain ⟨k, hk, rfl, hb⟩ := hrel
    by_cases hlt : k < m
    · have hownr := own_below hown hb (Nat.le_refl _)
      obtain ⟨g, cap, hv, _, hgl⟩ := hownr.form (by omega)
      injection hv with hA _ hc
      clear hc
      subst hA
      have c0 := (hownr.cellAt (k * 2) (by omega)).trans (flat_get f 17 m k hlt).1
      have c1 := (hownr.cellAt (k * 2 + 1) (by omega)).trans (flat_get f 17 m k hlt).2
      have hr := Lib.hid (fun w => hrr.out k w (by omega))
      have hl1 : decide (k < m) = true := decide_eq_true hlt
      have hl2 : decide ((k : Int) < (m : Int)) = true := decide_eq_true (by omega)
      have hl3 : (k : Int) < (m : Int) := by omega
      have wk : IntKind.i64.wrap ((k : Int) + 1) = ((k + 1 : Nat) : Int) := wrapI ((k + 1 : Nat) : Int) (by omega) (by omega)
      obtain ⟨p, hp⟩ : ∃ p, p = f + 17 * k := ⟨_, rfl⟩
      rw [← hp] at hr c1
      have heq := fun w => eq_pair (k : Int) (p : Int) (k : Int) (p : Int) w
      simp only [BEq.rfl, Bool.and_self] at heq
      clear hp hownr
      go_wp2_with fail
      go_quiet ((go_at_call 18; exact quiet_l (hr.out _)))
      go_wp2_with fail
      go_roundw
      case rel => exact ⟨k + 1, by omega, by go_num, below_drewN hb _⟩
      case measure => simp [intOf]; omega
    · obtain rfl : k = m := by omega
      have hl2 : decide ((k : Int) < (k : Int)) = false := decide_eq_false (by omega)
      have hBr := hB1.trans (hb.mono hB1.size)
      go_wp2_with fail
      refine (hwk.out _).mono ?_
      rintro r w2 ⟨rfl, hb2⟩
      go_wp2_with fail
      go_ret
      exact ⟨rfl, below0 hBr hb2⟩
theorem windowRegions_any (n many : Int) (w : World) : Calls Try.prog 6 #[.int .i64 n, .int .i64 many] w fun e w' => e = .returned (.bool true) ∧ Below w.heap.size w w' := by
  by_cases h : many < 1 ∨ 20 < many
  · exact regions_far n many w h
  · obtain ⟨m, rfl⟩ : ∃ m : Nat, many = m := ⟨many.toNat, by omega⟩
    rcases h2 : isB n 4 with _ | _
    · exact regions_no n m w h2 (by omega) (by omega)
    · obtain ⟨q, rfl, hq⟩ := isB_nat (b := 4) h2
      exact regions_yes q m w hq (by omega) (by omega)
end Go.Proofs.Ytkfljominljliaa
