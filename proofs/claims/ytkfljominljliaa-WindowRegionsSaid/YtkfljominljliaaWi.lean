import Derived.Test.YtkfljominljliaaWg
namespace Go.Proofs.Ytkfljominljliaa
open Go.RowKit
attribute [local go_sem] Oper.semAt_some

/-- where a page is in a row of runs -/
def fnd (f s p r n : Nat) : Option (Nat × Nat) := if f ≤ n ∧ n - f < r * s ∧ (n - f) % s < p then some ((n - f) / s, (n - f) % s) else none
def spotV : Option (Nat × Nat) → Value
  | some (a, b) => .agg #[.int .i64 (a : Int), .int .i64 (b : Int), .bool true]
  | none => .agg #[.int .i64 0, .int .i64 0, .bool false]

set_option maxHeartbeats 2000000 in
theorem find_far (f s p r n : Nat) (w : World) (hf : f < 1000000) (hn : n < 1000000) (hs : 0 < s ∧ s < 1000000) (hr : r < 1000) (h : ¬ (f ≤ n ∧ n - f < r * s)) :
    Calls Try.prog 47 #[rw4 f s p r, .int .i64 (n : Int)] w fun e w' => e = .returned (spotV none) ∧ Below w.heap.size w w' := by
  have hm : r * s ≤ 1000 * 1000000 := Nat.mul_le_mul (by omega) (by omega)
  obtain ⟨m, hmm⟩ : ∃ m, m = r * s := ⟨_, rfl⟩
  rw [← hmm] at h hm
  obtain ⟨d, hd⟩ : ∃ d : Int, d = (n : Int) - (f : Int) := ⟨_, rfl⟩
  have e0 : IntKind.i64.wrap ((n : Int) - (f : Int)) = d := (wrapI _ (by omega) (by omega)).trans hd.symm
  have e1 : IntKind.i64.wrap ((r : Int) * (s : Int)) = (m : Int) := by rw [hmm, Int.natCast_mul]; exact wrapI _ (by rw [← Int.natCast_mul, ← hmm]; omega) (by rw [← Int.natCast_mul, ← hmm]; omega)
  have hb := Lib.hid (fun w => below_any d (m : Int) w)
  have hno : isB d (m : Int) = false := by
    unfold isB
    by_cases h0 : 0 ≤ d
    · rw [decide_eq_false (show ¬ d < (m : Int) by omega), Bool.and_false]
    · rw [decide_eq_false h0, Bool.false_and]
  rw [hno] at hb
  clear hno hmm hm hd h hf hn hs hr
  go_enter Try.func47, Try.ntmps47
  go_wp2_with fail
  refine wp_scope_jump 1 fun R hR hG => ?_
  go_wp2_with fail
  go_quiet ((go_at_call 26; exact quiet_l (hb.out _)))
  go_wp2_with fail
  refine wp_goto (hG.out _ _ _ _ _ rfl ?_)
  go_wp2
  refine hR.out _ _ _ _ (by simp) ?_
  exact bodyPost_ret (v := spotV none) (by simp [results, Try.results47, go_sem, spotV]) rfl ⟨rfl, (((below_drewN (below2 _ _ _) _).setCell (by simp) _).setCell (by simp) _).setCell (by simp) _⟩

set_option maxHeartbeats 2000000 in
theorem find_near (f s p r n : Nat) (w : World) (hf : f < 1000000) (hn : n < 1000000) (hs : 0 < s ∧ s < 1000000) (hr : r < 1000) (h : f ≤ n ∧ n - f < r * s) (hp : ¬ (n - f) % s < p) :
    Calls Try.prog 47 #[rw4 f s p r, .int .i64 (n : Int)] w fun e w' => e = .returned (spotV none) ∧ Below w.heap.size w w' := by
  have hm : r * s ≤ 1000 * 1000000 := Nat.mul_le_mul (by omega) (by omega)
  obtain ⟨m, hmm⟩ : ∃ m, m = r * s := ⟨_, rfl⟩
  rw [← hmm] at h hm
  obtain ⟨d, hd⟩ : ∃ d : Nat, d = n - f := ⟨_, rfl⟩
  have e0 : IntKind.i64.wrap ((n : Int) - (f : Int)) = (d : Int) := (wrapI _ (by omega) (by omega)).trans (by omega)
  have e1 : IntKind.i64.wrap ((r : Int) * (s : Int)) = (m : Int) := by rw [hmm, Int.natCast_mul]; exact wrapI _ (by rw [← Int.natCast_mul, ← hmm]; omega) (by rw [← Int.natCast_mul, ← hmm]; omega)
  have hb := Lib.hid (fun w => below_any (d : Int) (m : Int) w)
  rw [isB_yes (by omega)] at hb
  rw [← hd] at hp
  have hq := Nat.mod_lt d hs.1
  obtain ⟨q, hqq⟩ : ∃ q, q = d % s := ⟨_, rfl⟩
  rw [← hqq] at hp hq
  have e2 : (d : Int) % (s : Int) = (q : Int) := by rw [show (d : Int) % (s : Int) = ((d % s : Nat) : Int) from rfl, ← hqq]
  have e3 : decide ((p : Int) ≤ (q : Int)) = true := decide_eq_true (by omega)
  have e5 : decide (p ≤ q) = true := decide_eq_true (by omega)
  have hne : ¬ (s : Int) = 0 := by omega
  have hne2 : ((s : Int) == 0) = false := beq_eq_false_iff_ne.2 hne
  clear hmm hm hd h hf hn hs hr hqq hp hq
  go_enter Try.func47, Try.ntmps47
  go_wp2_with fail
  refine wp_scope_jump 1 fun R hR hG => ?_
  go_wp2_with fail
  go_quiet ((go_at_call 26; exact quiet_l (hb.out _)))
  go_wp2_with fail
  refine wp_goto (hG.out _ _ _ _ _ rfl ?_)
  go_wp2
  refine hR.out _ _ _ _ (by simp) ?_
  exact bodyPost_ret (v := spotV none) (by simp [results, Try.results47, go_sem, spotV]) rfl ⟨rfl, (((below_drewN (below2 _ _ _) _).setCell (by simp) _).setCell (by simp) _).setCell (by simp) _⟩

set_option maxHeartbeats 2000000 in
theorem find_yes (f s p r n : Nat) (w : World) (hf : f < 1000000) (hn : n < 1000000) (hs : 0 < s ∧ s < 1000000) (hr : r < 1000) (h : f ≤ n ∧ n - f < r * s) (hp : (n - f) % s < p) :
    Calls Try.prog 47 #[rw4 f s p r, .int .i64 (n : Int)] w fun e w' => e = .returned (spotV (some ((n - f) / s, (n - f) % s))) ∧ Below w.heap.size w w' := by
  have hm : r * s ≤ 1000 * 1000000 := Nat.mul_le_mul (by omega) (by omega)
  obtain ⟨m, hmm⟩ : ∃ m, m = r * s := ⟨_, rfl⟩
  rw [← hmm] at h hm
  obtain ⟨d, hd⟩ : ∃ d : Nat, d = n - f := ⟨_, rfl⟩
  have e0 : IntKind.i64.wrap ((n : Int) - (f : Int)) = (d : Int) := (wrapI _ (by omega) (by omega)).trans (by omega)
  have e1 : IntKind.i64.wrap ((r : Int) * (s : Int)) = (m : Int) := by rw [hmm, Int.natCast_mul]; exact wrapI _ (by rw [← Int.natCast_mul, ← hmm]; omega) (by rw [← Int.natCast_mul, ← hmm]; omega)
  have hb := Lib.hid (fun w => below_any (d : Int) (m : Int) w)
  rw [isB_yes (by omega)] at hb
  rw [← hd] at hp ⊢
  have hq := Nat.mod_lt d hs.1
  have hu := Nat.div_le_self d s
  obtain ⟨q, hqq⟩ : ∃ q, q = d % s := ⟨_, rfl⟩
  obtain ⟨u, huu⟩ : ∃ u, u = d / s := ⟨_, rfl⟩
  rw [← hqq] at hp hq ⊢
  rw [← huu] at hu ⊢
  have e2 : (d : Int) % (s : Int) = (q : Int) := by rw [show (d : Int) % (s : Int) = ((d % s : Nat) : Int) from rfl, ← hqq]
  have e4 : IntKind.i64.wrap ((d : Int) / (s : Int)) = (u : Int) := by
    rw [show (d : Int) / (s : Int) = ((d / s : Nat) : Int) from rfl, ← huu]
    exact wrapI _ (by omega) (by omega)
  have e3 : decide ((p : Int) ≤ (q : Int)) = false := decide_eq_false (by omega)
  have e5 : decide (p ≤ q) = false := decide_eq_false (by omega)
  have hne : ¬ (s : Int) = 0 := by omega
  have e6 : (d : Int).tmod (s : Int) = (q : Int) := by rw [Int.tmod_eq_emod_of_nonneg (by omega), e2]
  have e7 : (d : Int).tdiv (s : Int) = (u : Int) := by rw [Int.tdiv_eq_ediv_of_nonneg (by omega), show (d : Int) / (s : Int) = ((d / s : Nat) : Int) from rfl, ← huu]
  have i0 : (0 : Int) ≤ (d : Int) := by omega
  have i1 : (0 : Int) ≤ (s : Int) := by omega
  have i2 : (0 : Int) < (s : Int) := by omega
  have i3 : IntKind.i64.wrap (u : Int) = (u : Int) := wrapI _ (by omega) (by omega)
  have hne2 : ((s : Int) == 0) = false := beq_eq_false_iff_ne.2 hne
  obtain ⟨w0, hw0⟩ : ∃ w0, w0 = (w.alloc (.cells #[.int .i64 (f : Int), .int .i64 (s : Int), .int .i64 (p : Int), .int .i64 (r : Int)] 58)).alloc (.cells #[.int .i64 0, .int .i64 0, .bool false] 72) := ⟨_, rfl⟩
  have hR0 : Row w0 w.heap.size 58 [.int .i64 (f : Int), .int .i64 (s : Int), .int .i64 (p : Int), .int .i64 (r : Int)] := by rw [hw0]; exact (Row.new w 58 [.int .i64 (f : Int), .int .i64 (s : Int), .int .i64 (p : Int), .int .i64 (r : Int)]).below (below1 _ _)
  have hR1 : Row w0 (w.heap.size + 1) 72 [.int .i64 0, .int .i64 0, .bool false] := by rw [hw0]; exact Row.new_at _ 72 [.int .i64 0, .int .i64 0, .bool false] (by simp)
  have hB : Below w.heap.size w w0 := by rw [hw0]; exact below2 _ _ _
  have k0 : w0.cell? ⟨w.heap.size, 0, none⟩ = some (.int .i64 (f : Int)) := hR0.cell 0
  have k1 : w0.cell? ⟨w.heap.size, 1, none⟩ = some (.int .i64 (s : Int)) := hR0.cell 1
  have k2 : w0.cell? ⟨w.heap.size, 2, none⟩ = some (.int .i64 (p : Int)) := hR0.cell 2
  have k3 : w0.cell? ⟨w.heap.size, 3, none⟩ = some (.int .i64 (r : Int)) := hR0.cell 3
  have l0 : w0.cell? ⟨w.heap.size + 1, 0, none⟩ = some (.int .i64 0) := hR1.cell 0
  have l1 : w0.cell? ⟨w.heap.size + 1, 1, none⟩ = some (.int .i64 0) := hR1.cell 1
  have l2 : w0.cell? ⟨w.heap.size + 1, 2, none⟩ = some (.bool false) := hR1.cell 2
  have f0 := hR1.frozen 0
  have f1 := hR1.frozen 1
  have f2 := hR1.frozen 2
  have HS := Lib.hid (show ∀ (k : Nat) (v v' v'' : Value), ((((w0.drewN k).setCell ⟨w.heap.size + 1, 0, none⟩ v).setCell ⟨w.heap.size + 1, 1, none⟩ v').setCell ⟨w.heap.size + 1, 2, none⟩ v'').cell? ⟨w.heap.size, 1, none⟩ = some (.int .i64 (s : Int)) from fun k v v' v'' =>
    ((World.cell?_setCell_other _ _ _ _ (fun e => by injection e; omega)).trans ((World.cell?_setCell_other _ _ _ _ (fun e => by injection e; omega)).trans (World.cell?_setCell_other _ _ _ _ (fun e => by injection e; omega)))).trans k1)
  have HB := Lib.hid hB
  have HR := Lib.hid hR1
  have HKd := Lib.hid (show ∀ k : Nat, (w0.drewN k).drew.cell? ⟨w.heap.size, 1, none⟩ = some (.int .i64 (s : Int)) from fun _ => k1)
  have HSd := Lib.hid (show ∀ (k : Nat) (v v' v'' : Value), ((((w0.drewN k).drew.setCell ⟨w.heap.size + 1, 0, none⟩ v).setCell ⟨w.heap.size + 1, 1, none⟩ v').setCell ⟨w.heap.size + 1, 2, none⟩ v'').cell? ⟨w.heap.size, 1, none⟩ = some (.int .i64 (s : Int)) from fun k v v' v'' => HS.out k v v' v'')
  have HK := Lib.hid (show ∀ k : Nat, (w0.drewN k).cell? ⟨w.heap.size, 1, none⟩ = some (.int .i64 (s : Int)) from fun _ => k1)
  clear hmm hm hd h hf hn hs hr hqq hp hq huu hu hR0 hR1 hB
  go_enter Try.func47, Try.ntmps47
  go_wp2_with fail
  refine wp_scope_jump 1 fun R hR hG => ?_
  rw [← hw0]
  clear hw0
  go_wp2_with fail
  go_quiet ((go_at_call 26; exact quiet_l (hb.out _)))
  go_wp2_with fail
  refine wp_region_noPanic ?_
  go_region_with (fail)
  all_goals
    obtain ⟨W', hW'⟩ : ∃ W', W' = (((w0.drewN (nq + 1)).setCell ⟨w.heap.size + 1, 0, none⟩ (.int .i64 (u : Int))).setCell ⟨w.heap.size + 1, 1, none⟩ (.int .i64 (q : Int))).setCell ⟨w.heap.size + 1, 2, none⟩ (.bool true) := ⟨_, rfl⟩
    have hR2 : Row W' (w.heap.size + 1) 72 [.int .i64 (u : Int), .int .i64 (q : Int), .bool true] := by rw [hW']; exact (((show Row (w0.drewN (nq + 1)) _ _ _ from HR.out).set 0 (.int .i64 (u : Int))).set 1 (.int .i64 (q : Int))).set 2 (.bool true)
    have hB2 : Below w.heap.size w W' := by rw [hW']; exact (((below_drewN HB.out _).setCell (by simp) _).setCell (by simp) _).setCell (by simp) _
    rw [← hW']
    clear hW'
    have d0 : W'.cell? ⟨w.heap.size + 1, 0, none⟩ = _ := hR2.cell 0
    have d1 : W'.cell? ⟨w.heap.size + 1, 1, none⟩ = _ := hR2.cell 1
    have d2 : W'.cell? ⟨w.heap.size + 1, 2, none⟩ = _ := hR2.cell 2
    clear hR2 k0 k1 k2 k3 l0 l1 l2 f0 f1 f2
    refine NoPanic.normal ?_
    go_wp2
    refine hR.out _ _ _ _ (by simp) ?_
    exact bodyPost_ret (v := spotV (some (u, q))) (by simp [results, Try.results47, go_sem, spotV, d0, d1, d2]) rfl ⟨rfl, hB2⟩
theorem find_any (f s p r n : Nat) (w : World) (hf : f < 1000000) (hn : n < 1000000) (hs : 0 < s ∧ s < 1000000) (hr : r < 1000) :
    Calls Try.prog 47 #[rw4 f s p r, .int .i64 (n : Int)] w fun e w' => e = .returned (spotV (fnd f s p r n)) ∧ Below w.heap.size w w' := by
  by_cases h : f ≤ n ∧ n - f < r * s
  · by_cases hp : (n - f) % s < p
    · rw [fnd, if_pos ⟨h.1, h.2, hp⟩]
      exact find_yes f s p r n w hf hn hs hr h hp
    · rw [fnd, if_neg fun h9 => hp h9.2.2]
      exact find_near f s p r n w hf hn hs hr h hp
  · rw [fnd, if_neg fun h9 => h ⟨h9.1, h9.2.1⟩]
    exact find_far f s p r n w hf hn hs hr h
end Go.Proofs.Ytkfljominljliaa
