import Derived.Test.YtiahmccchpmdgaaGreatDoorFAA
import Derived.BigQuiet
namespace Go.Proofs.YtiahmccchpmdgaaGreatDoor.Wn
open Go.RowKit
attribute [local go_sem] Oper.semAt_some

theorem book_no (n : Int) (w : World) (hk : isB n 4 = false) : Calls Tryz.prog 95 #[.int .i64 n] w fun e w' => e = .returned (.tuple #[.int .i64 0, .int .i64 2]) ∧ Below w.heap.size w w' := by
  have hg := Lib.hid (fun g => told_no n g #[] w hk)
  clear hk
  go_enter Tryz.func95, Tryz.ntmps95
  go_wp2_with fail
  refine (hg.out _).mono ?_
  rintro e w1 ⟨rfl, hb1⟩
  go_wp2
  go_ret2
  exact ⟨rfl, hb1⟩
theorem book_yes (k : Nat) (w : World) (hk : k < 4) : Calls Tryz.prog 95 #[.int .i64 (k : Int)] w fun e w' => e = .returned (.tuple #[.int .i64 ((64 * k + 1 : Nat) : Int), .int .i64 0]) ∧ Below w.heap.size w w' := by
  have hg := Lib.hid (told_yes k 184 #[] ((64 * k + 1 : Nat) : Int) w hk (enters_of Tryz.func184 (by kernel_rfl) rfl) (fun W _ => tbook_any k W hk))
  obtain ⟨x, hx⟩ : ∃ x, x = 64 * k + 1 := ⟨_, rfl⟩
  rw [← hx] at hg ⊢
  clear hk hx
  go_enter Tryz.func95, Tryz.ntmps95
  go_wp2_with fail
  refine (hg.out).mono ?_
  rintro e w1 ⟨rfl, hb1⟩
  go_wp2
  go_ret2
  exact ⟨rfl, hb1⟩

set_option maxHeartbeats 1000000 in
theorem region1_any (k c b : Nat) (w : World) (hk : k < 4) (hc : c < 8) (hb : w.cell? ⟨b, 0, none⟩ = some (.int .i64 (c : Int))) :
    Calls Tryz.prog 170 #[tn k, .pointer (some ⟨b, 0, none⟩)] w fun e w' => e = .returned (.int .i64 ((4096 * k + 4097 + 17 * c : Nat) : Int)) ∧ Below w.heap.size w w' := by
  have hbl := lt_of_cell hb
  simp only at hbl
  obtain ⟨w0, hw0⟩ : ∃ w0, w0 = w.alloc (.cells #[.int .i64 (k : Int)] 246) := ⟨_, rfl⟩
  have q0 : w0.cell? ⟨w.heap.size, 0, none⟩ = some (.int .i64 (k : Int)) := by rw [hw0]; exact cell_alloc_new _ _ _ _
  have hB : Below w.heap.size w w0 := by rw [hw0]; exact below1 _ _
  have q1 : w0.cell? ⟨b, 0, none⟩ = some (.int .i64 (c : Int)) := (hB.cell (p := ⟨b, 0, none⟩) hbl).trans hb
  have hz : w.heap.size < w0.heap.size := by rw [hw0]; simp
  have HB := Lib.hid (And.intro hB hz)
  have HSA := Lib.hid (show ∀ V : World, Below w0.heap.size w0 V → V.cell? ⟨b, 0, none⟩ = some (.int .i64 (c : Int)) ∧ V.cell? ⟨w.heap.size, 0, none⟩ = some (.int .i64 (k : Int)) ∧ Below w0.heap.size w0 V from fun V h => ⟨(h.cell (p := ⟨b, 0, none⟩) (by show b < _; omega)).trans q1, (h.cell (p := ⟨w.heap.size, 0, none⟩) hz).trans q0, h⟩)
  have hrefl := Lib.hid (Below.refl w0.heap.size w0)
  have hin := Lib.hid (fun w hb => beside (w0 := w0) (in_any (c : Int) ((4096 * k + 4097 : Nat) : Int) 17 16 8 ((17 * c : Nat) : Int) ((4096 * k + 4097 + 17 * c : Nat) : Int) w (by omega) ((wrapI _ (by omega) (by omega)).trans (by omega)) ((wrapI _ (by omega) (by omega)).trans (by omega))) hb)
  have hr := Lib.hid (fun w hb => beside (w0 := w0) (tregions_any k w hk) hb)
  obtain ⟨x, hx⟩ : ∃ x, x = 4096 * k + 4097 + 17 * c := ⟨_, rfl⟩
  obtain ⟨y, hy⟩ : ∃ y, y = 4096 * k + 4097 := ⟨_, rfl⟩
  rw [← hx] at hin ⊢
  rw [← hy] at hin hr
  clear hx hy hk hc hB hz hb hbl
  go_enter Tryz.func170, Tryz.ntmps170
  go_wp2_with fail
  rw [← hw0]
  clear hw0
  go_region_held3 (fun W => W.cell? ⟨b, 0, none⟩ = some (.int .i64 (c : Int)) ∧ W.cell? ⟨w.heap.size, 0, none⟩ = some (.int .i64 (k : Int)) ∧ Below w0.heap.size w0 W)
    (first | exact HSA.out _ hrefl.out.drew | exact HSA.out _ (by assumption) | exact HSA.out _ (Below.drew (by assumption)) | (go_split_ands; exact HSA.out _ (by assumption)))
    (first | (go_at_call 172; refine (hr.out _ (by go_split_ands; assumption)).mono ?_; rintro e w2 ⟨rfl, hb2⟩) | (go_at_call 171; refine (hin.out _ (by go_split_ands; assumption)).mono ?_; rintro e w3 ⟨rfl, hb3⟩))
  all_goals
    go_wp2
    go_ret
    exact ⟨rfl, HB.out.1.trans (hb3.mono HB.out.1.size)⟩

theorem region_noc (n m : Int) (w : World) (hm : isB m 8 = false) : Calls Tryz.prog 86 #[.int .i64 n, .int .i64 m] w fun e w' => e = .returned (.tuple #[.int .i64 0, .int .i64 2]) ∧ Below w.heap.size w w' := by
  have hb := Lib.hid (fun w => below_any m 8 w)
  rw [hm] at hb
  clear hm
  go_enter Tryz.func86, Tryz.ntmps86
  go_wp2_with fail
  refine wp_scope_jump 1 fun R hR hG => ?_
  go_wp2_with fail
  refine (hb.out _).mono ?_
  rintro e w1 ⟨rfl, rfl⟩
  go_wp2_with fail
  refine wp_goto (hG.out _ _ _ _ _ rfl ?_)
  go_wp2
  refine hR.out _ _ _ _ (by simp) ?_
  go_ret2
  exact ⟨rfl, below1 _ _⟩
theorem region_nos (n : Int) (c : Nat) (w : World) (hc : c < 8) (hn : isB n 4 = false) : Calls Tryz.prog 86 #[.int .i64 n, .int .i64 (c : Int)] w fun e w' => e = .returned (.tuple #[.int .i64 0, .int .i64 2]) ∧ Below w.heap.size w w' := by
  have hb := Lib.hid (fun w => below_any (c : Int) 8 w)
  rw [show ((8 : Int)) = ((8 : Nat) : Int) from rfl, isB_yes hc] at hb
  have hg := Lib.hid (fun g lb w => told_no n g lb w hn)
  clear hc hn
  go_enter Tryz.func86, Tryz.ntmps86
  go_wp2_with fail
  refine wp_scope_jump 1 fun R hR hG => ?_
  go_wp2_with fail
  refine (hb.out _).mono ?_
  rintro e w1 ⟨rfl, rfl⟩
  go_wp2_with fail
  refine (hg.out _ _ _).mono ?_
  rintro e w1 ⟨rfl, hb1⟩
  go_wp2
  refine hR.out _ _ _ _ (by simp) ?_
  go_ret2
  exact ⟨rfl, (below1 _ _).trans (hb1.mono (by simp))⟩
theorem region_yes (k c : Nat) (w : World) (hk : k < 4) (hc : c < 8) : Calls Tryz.prog 86 #[.int .i64 (k : Int), .int .i64 (c : Int)] w fun e w' => e = .returned (.tuple #[.int .i64 ((4096 * k + 4097 + 17 * c : Nat) : Int), .int .i64 0]) ∧ Below w.heap.size w w' := by
  have hb := Lib.hid (fun w => below_any (c : Int) 8 w)
  rw [show ((8 : Int)) = ((8 : Nat) : Int) from rfl, isB_yes hc] at hb
  obtain ⟨w0, hw0⟩ : ∃ w0, w0 = w.alloc (.cells #[.int .i64 (c : Int)] 176) := ⟨_, rfl⟩
  have q0 : w0.cell? ⟨w.heap.size, 0, none⟩ = some (.int .i64 (c : Int)) := by rw [hw0]; exact cell_alloc_new _ _ _ _
  have hz : w.heap.size < w0.heap.size := by rw [hw0]; simp
  have hB : Below w.heap.size w w0 := by rw [hw0]; exact below1 _ _
  have hg := Lib.hid (told_yes k 170 #[.pointer (some ⟨w.heap.size, 0, none⟩)] ((4096 * k + 4097 + 17 * c : Nat) : Int) w0 hk (enters_of Tryz.func170 (by kernel_rfl) rfl)
    (fun W hW => region1_any k c w.heap.size W hk hc ((hW.cell (p := ⟨w.heap.size, 0, none⟩) hz).trans q0)))
  have HB := Lib.hid hB
  obtain ⟨x, hx⟩ : ∃ x, x = 4096 * k + 4097 + 17 * c := ⟨_, rfl⟩
  rw [← hx] at hg ⊢
  have c0 := q0
  rw [hw0] at c0
  clear hk hx hc hB hz q0
  go_enter Tryz.func86, Tryz.ntmps86
  go_wp2_with fail
  refine wp_scope_jump 1 fun R hR hG => ?_
  go_wp2_with fail
  refine (hb.out _).mono ?_
  rintro e w1 ⟨rfl, rfl⟩
  go_wp2_with fail
  rw [← hw0]
  refine (hg.out).mono ?_
  rintro e w1 ⟨rfl, hb1⟩
  go_wp2
  refine hR.out _ _ _ _ (by simp) ?_
  go_ret2
  exact ⟨rfl, HB.out.trans (hb1.mono HB.out.size)⟩
end Go.Proofs.YtiahmccchpmdgaaGreatDoor.Wn

namespace Go.Proofs.YtiahmccchpmdgaaGreatDoor.Wn
open Go.RowKit
attribute [local go_sem] Oper.semAt_some

/-- where a page is in a row of runs -/
def fnd (f s p r n : Nat) : Option (Nat × Nat) := if f ≤ n ∧ n - f < r * s ∧ (n - f) % s < p then some ((n - f) / s, (n - f) % s) else none
def spotV : Option (Nat × Nat) → Value
  | some (a, b) => .agg #[.int .i64 (a : Int), .int .i64 (b : Int), .bool true]
  | none => .agg #[.int .i64 0, .int .i64 0, .bool false]

set_option maxHeartbeats 2000000 in
theorem find_far (f s p r n : Nat) (w : World) (hf : f < 1000000) (hn : n < 1000000) (hs : 0 < s ∧ s < 1000000) (hr : r < 1000) (h : ¬ (f ≤ n ∧ n - f < r * s)) :
    Calls Tryz.prog 249 #[rw4 f s p r, .int .i64 (n : Int)] w fun e w' => e = .returned (spotV none) ∧ Below w.heap.size w w' := by
  have hm : r * s ≤ 1000 * 1000000 := Nat.mul_le_mul (by omega) (by omega)
  obtain ⟨m, hmm⟩ : ∃ m, m = r * s := ⟨_, rfl⟩
  rw [← hmm] at h hm
  obtain ⟨d, hd⟩ : ∃ d : Int, d = (n : Int) - (f : Int) := ⟨_, rfl⟩
  have e0 : IntKind.i64.wrap ((n : Int) - (f : Int)) = d := (wrapI _ (by omega) (by omega)).trans hd.symm
  have e1 : IntKind.i64.wrap ((r : Int) * (s : Int)) = (m : Int) := by rw [hmm, Int.natCast_mul]; exact wrapI _ (by rw [← Int.natCast_mul, ← hmm]; omega) (by rw [← Int.natCast_mul, ← hmm]; omega)
  have hb := Lib.hid (fun w => below_any d (m : Int) w)
  have hno : isB d (m : Int) = false := by
    unfold isB
    by_cases h0 : 0 ≤ d
    · rw [decide_eq_false (show ¬ d < (m : Int) by omega), Bool.and_false]
    · rw [decide_eq_false h0, Bool.false_and]
  rw [hno] at hb
  clear hno hmm hm hd h hf hn hs hr
  go_enter Tryz.func249, Tryz.ntmps249
  go_wp2_with fail
  refine wp_scope_jump 1 fun R hR hG => ?_
  go_wp2_with fail
  go_quiet ((go_at_call 92; exact quiet_l (hb.out _)))
  go_wp2_with fail
  refine wp_goto (hG.out _ _ _ _ _ rfl ?_)
  go_wp2
  refine hR.out _ _ _ _ (by simp) ?_
  exact bodyPost_ret (v := spotV none) (by simp [results, Tryz.results249, go_sem, spotV]) rfl ⟨rfl, (((below_drewN (below2 _ _ _) _).setCell (by simp) _).setCell (by simp) _).setCell (by simp) _⟩

set_option maxHeartbeats 2000000 in
theorem find_near (f s p r n : Nat) (w : World) (hf : f < 1000000) (hn : n < 1000000) (hs : 0 < s ∧ s < 1000000) (hr : r < 1000) (h : f ≤ n ∧ n - f < r * s) (hp : ¬ (n - f) % s < p) :
    Calls Tryz.prog 249 #[rw4 f s p r, .int .i64 (n : Int)] w fun e w' => e = .returned (spotV none) ∧ Below w.heap.size w w' := by
  have hm : r * s ≤ 1000 * 1000000 := Nat.mul_le_mul (by omega) (by omega)
  obtain ⟨m, hmm⟩ : ∃ m, m = r * s := ⟨_, rfl⟩
  rw [← hmm] at h hm
  obtain ⟨d, hd⟩ : ∃ d : Nat, d = n - f := ⟨_, rfl⟩
  have e0 : IntKind.i64.wrap ((n : Int) - (f : Int)) = (d : Int) := (wrapI _ (by omega) (by omega)).trans (by omega)
  have e1 : IntKind.i64.wrap ((r : Int) * (s : Int)) = (m : Int) := by rw [hmm, Int.natCast_mul]; exact wrapI _ (by rw [← Int.natCast_mul, ← hmm]; omega) (by rw [← Int.natCast_mul, ← hmm]; omega)
  have hb := Lib.hid (fun w => below_any (d : Int) (m : Int) w)
  rw [isB_yes (by omega)] at hb
  rw [← hd] at hp
  have hq := Nat.mod_lt d hs.1
  obtain ⟨q, hqq⟩ : ∃ q, q = d % s := ⟨_, rfl⟩
  rw [← hqq] at hp hq
  have e2 : (d : Int) % (s : Int) = (q : Int) := by rw [show (d : Int) % (s : Int) = ((d % s : Nat) : Int) from rfl, ← hqq]
  have e3 : decide ((p : Int) ≤ (q : Int)) = true := decide_eq_true (by omega)
  have e5 : decide (p ≤ q) = true := decide_eq_true (by omega)
  have hne : ¬ (s : Int) = 0 := by omega
  have hne2 : ((s : Int) == 0) = false := beq_eq_false_iff_ne.2 hne
  clear hmm hm hd h hf hn hs hr hqq hp hq
  go_enter Tryz.func249, Tryz.ntmps249
  go_wp2_with fail
  refine wp_scope_jump 1 fun R hR hG => ?_
  go_wp2_with fail
  go_quiet ((go_at_call 92; exact quiet_l (hb.out _)))
  go_wp2_with fail
  refine wp_goto (hG.out _ _ _ _ _ rfl ?_)
  go_wp2
  refine hR.out _ _ _ _ (by simp) ?_
  exact bodyPost_ret (v := spotV none) (by simp [results, Tryz.results249, go_sem, spotV]) rfl ⟨rfl, (((below_drewN (below2 _ _ _) _).setCell (by simp) _).setCell (by simp) _).setCell (by simp) _⟩

set_option maxHeartbeats 2000000 in
theorem find_yes (f s p r n : Nat) (w : World) (hf : f < 1000000) (hn : n < 1000000) (hs : 0 < s ∧ s < 1000000) (hr : r < 1000) (h : f ≤ n ∧ n - f < r * s) (hp : (n - f) % s < p) :
    Calls Tryz.prog 249 #[rw4 f s p r, .int .i64 (n : Int)] w fun e w' => e = .returned (spotV (some ((n - f) / s, (n - f) % s))) ∧ Below w.heap.size w w' := by
  have hm : r * s ≤ 1000 * 1000000 := Nat.mul_le_mul (by omega) (by omega)
  obtain ⟨m, hmm⟩ : ∃ m, m = r * s := ⟨_, rfl⟩
  rw [← hmm] at h hm
  obtain ⟨d, hd⟩ : ∃ d : Nat, d = n - f := ⟨_, rfl⟩
  have e0 : IntKind.i64.wrap ((n : Int) - (f : Int)) = (d : Int) := (wrapI _ (by omega) (by omega)).trans (by omega)
  have e1 : IntKind.i64.wrap ((r : Int) * (s : Int)) = (m : Int) := by rw [hmm, Int.natCast_mul]; exact wrapI _ (by rw [← Int.natCast_mul, ← hmm]; omega) (by rw [← Int.natCast_mul, ← hmm]; omega)
  have hb := Lib.hid (fun w => below_any (d : Int) (m : Int) w)
  rw [isB_yes (by omega)] at hb
  rw [← hd] at hp ⊢
  have hq := Nat.mod_lt d hs.1
  have hu := Nat.div_le_self d s
  obtain ⟨q, hqq⟩ : ∃ q, q = d % s := ⟨_, rfl⟩
  obtain ⟨u, huu⟩ : ∃ u, u = d / s := ⟨_, rfl⟩
  rw [← hqq] at hp hq ⊢
  rw [← huu] at hu ⊢
  have e2 : (d : Int) % (s : Int) = (q : Int) := by rw [show (d : Int) % (s : Int) = ((d % s : Nat) : Int) from rfl, ← hqq]
  have e4 : IntKind.i64.wrap ((d : Int) / (s : Int)) = (u : Int) := by
    rw [show (d : Int) / (s : Int) = ((d / s : Nat) : Int) from rfl, ← huu]
    exact wrapI _ (by omega) (by omega)
  have e3 : decide ((p : Int) ≤ (q : Int)) = false := decide_eq_false (by omega)
  have e5 : decide (p ≤ q) = false := decide_eq_false (by omega)
  have hne : ¬ (s : Int) = 0 := by omega
  have e6 : (d : Int).tmod (s : Int) = (q : Int) := by rw [Int.tmod_eq_emod_of_nonneg (by omega), e2]
  have e7 : (d : Int).tdiv (s : Int) = (u : Int) := by rw [Int.tdiv_eq_ediv_of_nonneg (by omega), show (d : Int) / (s : Int) = ((d / s : Nat) : Int) from rfl, ← huu]
  have i0 : (0 : Int) ≤ (d : Int) := by omega
  have i1 : (0 : Int) ≤ (s : Int) := by omega
  have i2 : (0 : Int) < (s : Int) := by omega
  have i3 : IntKind.i64.wrap (u : Int) = (u : Int) := wrapI _ (by omega) (by omega)
  have hne2 : ((s : Int) == 0) = false := beq_eq_false_iff_ne.2 hne
  obtain ⟨w0, hw0⟩ : ∃ w0, w0 = (w.alloc (.cells #[.int .i64 (f : Int), .int .i64 (s : Int), .int .i64 (p : Int), .int .i64 (r : Int)] 249)).alloc (.cells #[.int .i64 0, .int .i64 0, .bool false] 259) := ⟨_, rfl⟩
  have hR0 : Row w0 w.heap.size 249 [.int .i64 (f : Int), .int .i64 (s : Int), .int .i64 (p : Int), .int .i64 (r : Int)] := by rw [hw0]; exact (Row.new w 249 [.int .i64 (f : Int), .int .i64 (s : Int), .int .i64 (p : Int), .int .i64 (r : Int)]).below (below1 _ _)
  have hR1 : Row w0 (w.heap.size + 1) 259 [.int .i64 0, .int .i64 0, .bool false] := by rw [hw0]; exact Row.new_at _ 259 [.int .i64 0, .int .i64 0, .bool false] (by simp)
  have hB : Below w.heap.size w w0 := by rw [hw0]; exact below2 _ _ _
  have k0 : w0.cell? ⟨w.heap.size, 0, none⟩ = some (.int .i64 (f : Int)) := hR0.cell 0
  have k1 : w0.cell? ⟨w.heap.size, 1, none⟩ = some (.int .i64 (s : Int)) := hR0.cell 1
  have k2 : w0.cell? ⟨w.heap.size, 2, none⟩ = some (.int .i64 (p : Int)) := hR0.cell 2
  have k3 : w0.cell? ⟨w.heap.size, 3, none⟩ = some (.int .i64 (r : Int)) := hR0.cell 3
  have l0 : w0.cell? ⟨w.heap.size + 1, 0, none⟩ = some (.int .i64 0) := hR1.cell 0
  have l1 : w0.cell? ⟨w.heap.size + 1, 1, none⟩ = some (.int .i64 0) := hR1.cell 1
  have l2 : w0.cell? ⟨w.heap.size + 1, 2, none⟩ = some (.bool false) := hR1.cell 2
  have f0 := hR1.frozen 0
  have f1 := hR1.frozen 1
  have f2 := hR1.frozen 2
  have HS := Lib.hid (show ∀ (k : Nat) (v v' v'' : Value), ((((w0.drewN k).setCell ⟨w.heap.size + 1, 0, none⟩ v).setCell ⟨w.heap.size + 1, 1, none⟩ v').setCell ⟨w.heap.size + 1, 2, none⟩ v'').cell? ⟨w.heap.size, 1, none⟩ = some (.int .i64 (s : Int)) from fun k v v' v'' =>
    ((World.cell?_setCell_other _ _ _ _ (fun e => by injection e; omega)).trans ((World.cell?_setCell_other _ _ _ _ (fun e => by injection e; omega)).trans (World.cell?_setCell_other _ _ _ _ (fun e => by injection e; omega)))).trans k1)
  have HB := Lib.hid hB
  have HR := Lib.hid hR1
  have HKd := Lib.hid (show ∀ k : Nat, (w0.drewN k).drew.cell? ⟨w.heap.size, 1, none⟩ = some (.int .i64 (s : Int)) from fun _ => k1)
  have HSd := Lib.hid (show ∀ (k : Nat) (v v' v'' : Value), ((((w0.drewN k).drew.setCell ⟨w.heap.size + 1, 0, none⟩ v).setCell ⟨w.heap.size + 1, 1, none⟩ v').setCell ⟨w.heap.size + 1, 2, none⟩ v'').cell? ⟨w.heap.size, 1, none⟩ = some (.int .i64 (s : Int)) from fun k v v' v'' => HS.out k v v' v'')
  have HK := Lib.hid (show ∀ k : Nat, (w0.drewN k).cell? ⟨w.heap.size, 1, none⟩ = some (.int .i64 (s : Int)) from fun _ => k1)
  clear hmm hm hd h hf hn hs hr hqq hp hq huu hu hR0 hR1 hB
  go_enter Tryz.func249, Tryz.ntmps249
  go_wp2_with fail
  refine wp_scope_jump 1 fun R hR hG => ?_
  rw [← hw0]
  clear hw0
  go_wp2_with fail
  go_quiet ((go_at_call 92; exact quiet_l (hb.out _)))
  go_wp2_with fail
  refine wp_region_noPanic ?_
  go_region_with (fail)
  all_goals
    obtain ⟨W', hW'⟩ : ∃ W', W' = (((w0.drewN (nq + 1)).setCell ⟨w.heap.size + 1, 0, none⟩ (.int .i64 (u : Int))).setCell ⟨w.heap.size + 1, 1, none⟩ (.int .i64 (q : Int))).setCell ⟨w.heap.size + 1, 2, none⟩ (.bool true) := ⟨_, rfl⟩
    have hR2 : Row W' (w.heap.size + 1) 259 [.int .i64 (u : Int), .int .i64 (q : Int), .bool true] := by rw [hW']; exact (((show Row (w0.drewN (nq + 1)) _ _ _ from HR.out).set 0 (.int .i64 (u : Int))).set 1 (.int .i64 (q : Int))).set 2 (.bool true)
    have hB2 : Below w.heap.size w W' := by rw [hW']; exact (((below_drewN HB.out _).setCell (by simp) _).setCell (by simp) _).setCell (by simp) _
    rw [← hW']
    clear hW'
    have d0 : W'.cell? ⟨w.heap.size + 1, 0, none⟩ = _ := hR2.cell 0
    have d1 : W'.cell? ⟨w.heap.size + 1, 1, none⟩ = _ := hR2.cell 1
    have d2 : W'.cell? ⟨w.heap.size + 1, 2, none⟩ = _ := hR2.cell 2
    clear hR2 k0 k1 k2 k3 l0 l1 l2 f0 f1 f2
    refine NoPanic.normal ?_
    go_wp2
    refine hR.out _ _ _ _ (by simp) ?_
    exact bodyPost_ret (v := spotV (some (u, q))) (by simp [results, Tryz.results249, go_sem, spotV, d0, d1, d2]) rfl ⟨rfl, hB2⟩
theorem find_any (f s p r n : Nat) (w : World) (hf : f < 1000000) (hn : n < 1000000) (hs : 0 < s ∧ s < 1000000) (hr : r < 1000) :
    Calls Tryz.prog 249 #[rw4 f s p r, .int .i64 (n : Int)] w fun e w' => e = .returned (spotV (fnd f s p r n)) ∧ Below w.heap.size w w' := by
  by_cases h : f ≤ n ∧ n - f < r * s
  · by_cases hp : (n - f) % s < p
    · rw [fnd, if_pos ⟨h.1, h.2, hp⟩]
      exact find_yes f s p r n w hf hn hs hr h hp
    · rw [fnd, if_neg fun h9 => hp h9.2.2]
      exact find_near f s p r n w hf hn hs hr h hp
  · rw [fnd, if_neg fun h9 => h ⟨h9.1, h9.2.1⟩]
    exact find_far f s p r n w hf hn hs hr h
end Go.Proofs.YtiahmccchpmdgaaGreatDoor.Wn

namespace Go.Proofs.YtiahmccchpmdgaaGreatDoor.Wn
open Go.RowKit
attribute [local go_sem] Oper.semAt_some

abbrev spV (a b : Int) (c : Bool) : Value := .agg #[.int .i64 a, .int .i64 b, .bool c]
def sA (o : Option (Nat × Nat)) : Nat := (o.getD (0, 0)).1
def sB (o : Option (Nat × Nat)) : Nat := (o.getD (0, 0)).2
theorem spotV_eq (o : Option (Nat × Nat)) : spotV o = spV (sA o : Int) (sB o : Int) o.isSome := by cases o <;> rfl
def bookO (n : Nat) : Option (Nat × Nat) := fnd 1 64 48 4 n
def windO (n : Nat) : Option (Nat × Nat) := fnd 4096 4096 4096 4 n
def regiO (n : Nat) : Option (Nat × Nat) := match windO n with | some (k, _) => fnd (4096 * k + 4097) 17 16 8 n | none => none
theorem wind_lt {n k q : Nat} (h : windO n = some (k, q)) : k < 4 ∧ n = 4096 * k + 4096 + q ∧ q < 4096 := by
  unfold windO fnd at h
  split at h
  · rename_i hc
    injection h with h
    injection h with h1 h2
    omega
  · cases h
/-- the cells of a look -/
abbrev lkC (a b : Int) (c : Bool) (d e : Int) (f : Bool) (g h : Int) (i : Bool) : List Value := [.int .i64 a, .int .i64 b, .bool c, .int .i64 d, .int .i64 e, .bool f, .int .i64 g, .int .i64 h, .bool i]
abbrev lkV (a b : Int) (c : Bool) (d e : Int) (f : Bool) (g h : Int) (i : Bool) : Value := .agg #[.int .i64 a, .int .i64 b, .bool c, .int .i64 d, .int .i64 e, .bool f, .int .i64 g, .int .i64 h, .bool i]
def lookV (n : Nat) : Value := lkV (sA (bookO n) : Int) (sB (bookO n) : Int) (bookO n).isSome (sA (windO n) : Int) (sB (windO n) : Int) (windO n).isSome (sA (regiO n) : Int) (sB (regiO n) : Int) (regiO n).isSome

theorem row_set9 {V : World} {b : Nat} {t : TypeId} {x0 x1 x2 x3 x4 x5 x6 x7 x8 : Value} (y0 y1 y2 y3 y4 y5 y6 y7 y8 : Value) (h : Row V b t [x0, x1, x2, x3, x4, x5, x6, x7, x8]) : Row (((((((((V.setCell ⟨b, 0, none⟩ y0).setCell ⟨b, 1, none⟩ y1).setCell ⟨b, 2, none⟩ y2).setCell ⟨b, 3, none⟩ y3).setCell ⟨b, 4, none⟩ y4).setCell ⟨b, 5, none⟩ y5).setCell ⟨b, 6, none⟩ y6).setCell ⟨b, 7, none⟩ y7).setCell ⟨b, 8, none⟩ y8) b t [y0, y1, y2, y3, y4, y5, y6, y7, y8] := (((((((((h.set 0 y0).set 1 y1).set 2 y2).set 3 y3).set 4 y4).set 5 y5).set 6 y6).set 7 y7).set 8 y8)
theorem below_set9 {B : Nat} {w V : World} {b : Nat} (y0 y1 y2 y3 y4 y5 y6 y7 y8 : Value) (h : Below B w V) (hb : B ≤ b) : Below B w (((((((((V.setCell ⟨b, 0, none⟩ y0).setCell ⟨b, 1, none⟩ y1).setCell ⟨b, 2, none⟩ y2).setCell ⟨b, 3, none⟩ y3).setCell ⟨b, 4, none⟩ y4).setCell ⟨b, 5, none⟩ y5).setCell ⟨b, 6, none⟩ y6).setCell ⟨b, 7, none⟩ y7).setCell ⟨b, 8, none⟩ y8) := (((((((((h.setCell (p := ⟨b, 0, none⟩) hb _).setCell (p := ⟨b, 1, none⟩) hb _).setCell (p := ⟨b, 2, none⟩) hb _).setCell (p := ⟨b, 3, none⟩) hb _).setCell (p := ⟨b, 4, none⟩) hb _).setCell (p := ⟨b, 5, none⟩) hb _).setCell (p := ⟨b, 6, none⟩) hb _).setCell (p := ⟨b, 7, none⟩) hb _).setCell (p := ⟨b, 8, none⟩) hb _)
theorem row_set4 {V : World} {b : Nat} {t : TypeId} {x0 x1 x2 x3 : Value} (y0 y1 y2 y3 : Value) (h : Row V b t [x0, x1, x2, x3]) : Row ((((V.setCell ⟨b, 0, none⟩ y0).setCell ⟨b, 1, none⟩ y1).setCell ⟨b, 2, none⟩ y2).setCell ⟨b, 3, none⟩ y3) b t [y0, y1, y2, y3] := ((((h.set 0 y0).set 1 y1).set 2 y2).set 3 y3)
theorem below_set4 {B : Nat} {w V : World} {b : Nat} (y0 y1 y2 y3 : Value) (h : Below B w V) (hb : B ≤ b) : Below B w ((((V.setCell ⟨b, 0, none⟩ y0).setCell ⟨b, 1, none⟩ y1).setCell ⟨b, 2, none⟩ y2).setCell ⟨b, 3, none⟩ y3) := ((((h.setCell (p := ⟨b, 0, none⟩) hb _).setCell (p := ⟨b, 1, none⟩) hb _).setCell (p := ⟨b, 2, none⟩) hb _).setCell (p := ⟨b, 3, none⟩) hb _)
set_option maxHeartbeats 2000000 in
theorem lookAt_none (n : Nat) (w : World) (hn : n < 1000000) (h : windO n = none) : Calls Tryz.prog 179 #[.int .i64 (n : Int)] w fun e w' => e = .returned (lookV n) ∧ Below w.heap.size w w' := by
  have hb := Lib.hid (fun w => find_any 1 64 48 4 n w (by omega) hn (by omega) (by omega))
  have hw := Lib.hid (fun w => find_any 4096 4096 4096 4 n w (by omega) hn (by omega) (by omega))
  have hbk := Lib.hid books_any
  have hwk := Lib.hid windows_any
  rw [show fnd 4096 4096 4096 4 n = none from h, show spotV none = spV 0 0 false from rfl] at hw
  rw [show fnd 1 64 48 4 n = bookO n from rfl, spotV_eq] at hb
  rw [lookV, h, show regiO n = none by unfold regiO; rw [h]]
  rw [show sA none = 0 from rfl, show sB none = 0 from rfl, show (none : Option (Nat × Nat)).isSome = false from rfl]
  obtain ⟨a, ha⟩ : ∃ a, a = sA (bookO n) := ⟨_, rfl⟩
  obtain ⟨b, hb'⟩ : ∃ b, b = sB (bookO n) := ⟨_, rfl⟩
  obtain ⟨c, hc⟩ : ∃ c, c = (bookO n).isSome := ⟨_, rfl⟩
  rw [← ha, ← hb', ← hc] at hb ⊢
  clear ha hb' hc h hn
  go_enter Tryz.func179, Tryz.ntmps179
  go_wp2_with fail
  refine (hbk.out _).mono ?_
  rintro e w1 ⟨rfl, hb1⟩
  have B1 : Below w.heap.size w w1 := (below1 _ _).trans (hb1.mono (by simp))
  have R1 : Row w1 w.heap.size 261 (lkC 0 0 false 0 0 false 0 0 false) := (Row.new w 261 (lkC 0 0 false 0 0 false 0 0 false)).below hb1
  clear hb1
  go_wp2_with fail
  refine (hb.out _).mono ?_
  rintro e w2 ⟨rfl, hb2⟩
  have B2 := B1.trans (hb2.mono B1.size)
  have R2 := R1.below hb2
  clear B1 R1 hb2
  go_wp2_with fail
  refine (hwk.out _).mono ?_
  rintro e w3 ⟨rfl, hb3⟩
  have B3 := B2.trans (hb3.mono B2.size)
  have R3 := R2.below hb3
  clear B2 R2 hb3
  go_wp2_with fail
  refine (hw.out _).mono ?_
  rintro e w4 ⟨rfl, hb4⟩
  have B4 := B3.trans (hb4.mono B3.size)
  have R4 := R3.below hb4
  clear B3 R3 hb4
  have hlt := R4.lt
  obtain ⟨w5, hw5⟩ : ∃ w5, w5 = w4.alloc (.cells #[.int .i64 (a : Int), .int .i64 (b : Int), .bool c, .int .i64 0, .int .i64 0, .bool false, .int .i64 0, .int .i64 0, .bool false] 261) := ⟨_, rfl⟩
  have B5 : Below w.heap.size w w5 := by rw [hw5]; exact B4.alloc B4.size _
  have R5 : Row w5 w.heap.size 261 (lkC 0 0 false 0 0 false 0 0 false) := by rw [hw5]; exact R4.below (below1 _ _)
  have c0 : w5.cell? ⟨w.heap.size, 0, none⟩ = _ := R5.cell 0
  have c1 : w5.cell? ⟨w.heap.size, 1, none⟩ = _ := R5.cell 1
  have c2 : w5.cell? ⟨w.heap.size, 2, none⟩ = _ := R5.cell 2
  have c3 : w5.cell? ⟨w.heap.size, 3, none⟩ = _ := R5.cell 3
  have c4 : w5.cell? ⟨w.heap.size, 4, none⟩ = _ := R5.cell 4
  have c5 : w5.cell? ⟨w.heap.size, 5, none⟩ = _ := R5.cell 5
  have c6 : w5.cell? ⟨w.heap.size, 6, none⟩ = _ := R5.cell 6
  have c7 : w5.cell? ⟨w.heap.size, 7, none⟩ = _ := R5.cell 7
  have c8 : w5.cell? ⟨w.heap.size, 8, none⟩ = _ := R5.cell 8
  have f0 : w5.frozen? ⟨w.heap.size, 0, none⟩ = false := R5.frozen 0
  have f1 : w5.frozen? ⟨w.heap.size, 1, none⟩ = false := R5.frozen 1
  have f2 : w5.frozen? ⟨w.heap.size, 2, none⟩ = false := R5.frozen 2
  have f3 : w5.frozen? ⟨w.heap.size, 3, none⟩ = false := R5.frozen 3
  have f4 : w5.frozen? ⟨w.heap.size, 4, none⟩ = false := R5.frozen 4
  have f5 : w5.frozen? ⟨w.heap.size, 5, none⟩ = false := R5.frozen 5
  have f6 : w5.frozen? ⟨w.heap.size, 6, none⟩ = false := R5.frozen 6
  have f7 : w5.frozen? ⟨w.heap.size, 7, none⟩ = false := R5.frozen 7
  have f8 : w5.frozen? ⟨w.heap.size, 8, none⟩ = false := R5.frozen 8
  rw [hw5] at c0 c1 c2 c3 c4 c5 c6 c7 c8 f0 f1 f2 f3 f4 f5 f6 f7 f8
  have HR := Lib.hid R5
  have HB := Lib.hid B5
  have HW := Lib.hid hw5
  clear B4 R4 R5 B5 hw5 hlt
  go_wp2
  rw [← HW.out]
  have R6 := row_set9 (.int .i64 (a : Int)) (.int .i64 (b : Int)) (.bool c) (.int .i64 0) (.int .i64 0) (.bool false) (.int .i64 0) (.int .i64 0) (.bool false) HR.out
  have B6 := below_set9 (b := w.heap.size) (.int .i64 (a : Int)) (.int .i64 (b : Int)) (.bool c) (.int .i64 0) (.int .i64 0) (.bool false) (.int .i64 0) (.int .i64 0) (.bool false) HB.out (Nat.le_refl _)
  obtain ⟨W, hW⟩ : ∃ W, W = (((((((((w5.setCell ⟨w.heap.size, 0, none⟩ (.int .i64 (a : Int))).setCell ⟨w.heap.size, 1, none⟩ (.int .i64 (b : Int))).setCell ⟨w.heap.size, 2, none⟩ (.bool c)).setCell ⟨w.heap.size, 3, none⟩ (.int .i64 0)).setCell ⟨w.heap.size, 4, none⟩ (.int .i64 0)).setCell ⟨w.heap.size, 5, none⟩ (.bool false)).setCell ⟨w.heap.size, 6, none⟩ (.int .i64 0)).setCell ⟨w.heap.size, 7, none⟩ (.int .i64 0)).setCell ⟨w.heap.size, 8, none⟩ (.bool false)) := ⟨_, rfl⟩
  rw [← hW] at R6 B6 ⊢
  clear c0 c1 c2 c3 c4 c5 c6 c7 c8 f0 f1 f2 f3 f4 f5 f6 f7 f8 HR HB HW hW
  have d0 : W.cell? ⟨w.heap.size, 0, none⟩ = _ := R6.cell 0
  have d1 : W.cell? ⟨w.heap.size, 1, none⟩ = _ := R6.cell 1
  have d2 : W.cell? ⟨w.heap.size, 2, none⟩ = _ := R6.cell 2
  have d3 : W.cell? ⟨w.heap.size, 3, none⟩ = _ := R6.cell 3
  have d4 : W.cell? ⟨w.heap.size, 4, none⟩ = _ := R6.cell 4
  have d5 : W.cell? ⟨w.heap.size, 5, none⟩ = _ := R6.cell 5
  have d6 : W.cell? ⟨w.heap.size, 6, none⟩ = _ := R6.cell 6
  have d7 : W.cell? ⟨w.heap.size, 7, none⟩ = _ := R6.cell 7
  have d8 : W.cell? ⟨w.heap.size, 8, none⟩ = _ := R6.cell 8
  exact bodyPost_ret (v := lkV a b c 0 0 false 0 0 false) (by simp [results, Tryz.results179, go_sem, d0, d1, d2, d3, d4, d5, d6, d7, d8]) rfl ⟨rfl, B6⟩
end Go.Proofs.YtiahmccchpmdgaaGreatDoor.Wn

namespace Go.Proofs.YtiahmccchpmdgaaGreatDoor.Wn
open Go.RowKit
attribute [local go_sem] Oper.semAt_some

set_option maxHeartbeats 4000000 in
theorem lookAt_some (n k q : Nat) (w : World) (hn : n < 1000000) (hx : windO n = some (k, q)) : Calls Tryz.prog 179 #[.int .i64 (n : Int)] w fun e w' => e = .returned (lookV n) ∧ Below w.heap.size w w' := by
  have hk := (wind_lt hx).1
  have hb := Lib.hid (fun w => find_any 1 64 48 4 n w (by omega) hn (by omega) (by omega))
  have hw := Lib.hid (fun w => find_any 4096 4096 4096 4 n w (by omega) hn (by omega) (by omega))
  have hr := Lib.hid (fun w => find_any (4096 * k + 4097) 17 16 8 n w (by omega) hn (by omega) (by omega))
  have hbk := Lib.hid books_any
  have hwk := Lib.hid windows_any
  have hrk := Lib.hid (fun w => tregions_any k w hk)
  rw [show fnd 4096 4096 4096 4 n = some (k, q) from hx, show spotV (some (k, q)) = spV (k : Int) (q : Int) true from rfl] at hw
  rw [show fnd 1 64 48 4 n = bookO n from rfl, spotV_eq] at hb
  rw [show fnd (4096 * k + 4097) 17 16 8 n = regiO n by unfold regiO; rw [hx], spotV_eq] at hr
  rw [lookV, hx]
  rw [show sA (some (k, q)) = k from rfl, show sB (some (k, q)) = q from rfl, show (some (k, q) : Option (Nat × Nat)).isSome = true from rfl]
  obtain ⟨a, ha⟩ : ∃ a, a = sA (bookO n) := ⟨_, rfl⟩
  obtain ⟨b, hb'⟩ : ∃ b, b = sB (bookO n) := ⟨_, rfl⟩
  obtain ⟨c, hc⟩ : ∃ c, c = (bookO n).isSome := ⟨_, rfl⟩
  obtain ⟨g, hg⟩ : ∃ a, a = sA (regiO n) := ⟨_, rfl⟩
  obtain ⟨h, hh⟩ : ∃ b, b = sB (regiO n) := ⟨_, rfl⟩
  obtain ⟨i, hi⟩ : ∃ c, c = (regiO n).isSome := ⟨_, rfl⟩
  obtain ⟨f, hf⟩ : ∃ f, f = 4096 * k + 4097 := ⟨_, rfl⟩
  rw [← ha, ← hb', ← hc] at hb ⊢
  rw [← hg, ← hh, ← hi] at hr ⊢
  rw [← hf] at hr hrk
  clear ha hb' hc hx hn hg hh hi hf hk
  go_enter Tryz.func179, Tryz.ntmps179
  go_wp2_with fail
  refine (hbk.out _).mono ?_
  rintro e w1 ⟨rfl, hb1⟩
  have B1 : Below w.heap.size w w1 := (below1 _ _).trans (hb1.mono (by simp))
  have R1 : Row w1 w.heap.size 261 (lkC 0 0 false 0 0 false 0 0 false) := (Row.new w 261 (lkC 0 0 false 0 0 false 0 0 false)).below hb1
  clear hb1
  go_wp2_with fail
  refine (hb.out _).mono ?_
  rintro e w2 ⟨rfl, hb2⟩
  have B2 := B1.trans (hb2.mono B1.size)
  have R2 := R1.below hb2
  clear B1 R1 hb2
  go_wp2_with fail
  refine (hwk.out _).mono ?_
  rintro e w3 ⟨rfl, hb3⟩
  have B3 := B2.trans (hb3.mono B2.size)
  have R3 := R2.below hb3
  clear B2 R2 hb3
  go_wp2_with fail
  refine (hw.out _).mono ?_
  rintro e w4 ⟨rfl, hb4⟩
  have B4 := B3.trans (hb4.mono B3.size)
  have R4 := R3.below hb4
  clear B3 R3 hb4
  have hlt := R4.lt
  obtain ⟨w5, hw5⟩ : ∃ w5, w5 = w4.alloc (.cells #[.int .i64 (a : Int), .int .i64 (b : Int), .bool c, .int .i64 (k : Int), .int .i64 (q : Int), .bool true, .int .i64 0, .int .i64 0, .bool false] 261) := ⟨_, rfl⟩
  have B5 : Below w.heap.size w w5 := by rw [hw5]; exact B4.alloc B4.size _
  have R5 : Row w5 w.heap.size 261 (lkC 0 0 false 0 0 false 0 0 false) := by rw [hw5]; exact R4.below (below1 _ _)
  have L5 : Row w5 w4.heap.size 261 [.int .i64 (a : Int), .int .i64 (b : Int), .bool c, .int .i64 (k : Int), .int .i64 (q : Int), .bool true, .int .i64 0, .int .i64 0, .bool false] := by rw [hw5]; exact Row.new _ _ _
  have z5 : w5.heap.size = w4.heap.size + 1 := by rw [hw5]; simp
  have HLT := Lib.hid hlt
  clear hlt
  go_wp2_with fail
  refine (hrk.out _).mono ?_
  rintro e w6 ⟨rfl, hb6⟩
  rw [← hw5] at hb6
  have B6 := B5.trans (hb6.mono B5.size)
  have R6 := R5.below hb6
  have L6 := L5.below hb6
  clear B5 R5 L5 hb6 hw5 B4 R4
  go_wp2_with fail
  refine (hr.out _).mono ?_
  rintro e w7 ⟨rfl, hb7⟩
  have B7 := B6.trans (hb7.mono B6.size)
  have R7 := R6.below hb7
  have L7 := L6.below hb7
  clear B6 R6 L6 hb7
  have p0 : w7.cell? ⟨w4.heap.size, 0, none⟩ = _ := L7.cell 0
  have p1 : w7.cell? ⟨w4.heap.size, 1, none⟩ = _ := L7.cell 1
  have p2 : w7.cell? ⟨w4.heap.size, 2, none⟩ = _ := L7.cell 2
  have p3 : w7.cell? ⟨w4.heap.size, 3, none⟩ = _ := L7.cell 3
  have p4 : w7.cell? ⟨w4.heap.size, 4, none⟩ = _ := L7.cell 4
  have p5 : w7.cell? ⟨w4.heap.size, 5, none⟩ = _ := L7.cell 5
  have p6 : w7.cell? ⟨w4.heap.size, 6, none⟩ = _ := L7.cell 6
  have p7 : w7.cell? ⟨w4.heap.size, 7, none⟩ = _ := L7.cell 7
  have p8 : w7.cell? ⟨w4.heap.size, 8, none⟩ = _ := L7.cell 8
  have o0 : w7.frozen? ⟨w4.heap.size, 0, none⟩ = false := L7.frozen 0
  have o1 : w7.frozen? ⟨w4.heap.size, 1, none⟩ = false := L7.frozen 1
  have o2 : w7.frozen? ⟨w4.heap.size, 2, none⟩ = false := L7.frozen 2
  have o3 : w7.frozen? ⟨w4.heap.size, 3, none⟩ = false := L7.frozen 3
  have o4 : w7.frozen? ⟨w4.heap.size, 4, none⟩ = false := L7.frozen 4
  have o5 : w7.frozen? ⟨w4.heap.size, 5, none⟩ = false := L7.frozen 5
  have o6 : w7.frozen? ⟨w4.heap.size, 6, none⟩ = false := L7.frozen 6
  have o7 : w7.frozen? ⟨w4.heap.size, 7, none⟩ = false := L7.frozen 7
  have o8 : w7.frozen? ⟨w4.heap.size, 8, none⟩ = false := L7.frozen 8
  have c0 : w7.cell? ⟨w.heap.size, 0, none⟩ = _ := R7.cell 0
  have c1 : w7.cell? ⟨w.heap.size, 1, none⟩ = _ := R7.cell 1
  have c2 : w7.cell? ⟨w.heap.size, 2, none⟩ = _ := R7.cell 2
  have c3 : w7.cell? ⟨w.heap.size, 3, none⟩ = _ := R7.cell 3
  have c4 : w7.cell? ⟨w.heap.size, 4, none⟩ = _ := R7.cell 4
  have c5 : w7.cell? ⟨w.heap.size, 5, none⟩ = _ := R7.cell 5
  have c6 : w7.cell? ⟨w.heap.size, 6, none⟩ = _ := R7.cell 6
  have c7 : w7.cell? ⟨w.heap.size, 7, none⟩ = _ := R7.cell 7
  have c8 : w7.cell? ⟨w.heap.size, 8, none⟩ = _ := R7.cell 8
  have f0 : w7.frozen? ⟨w.heap.size, 0, none⟩ = false := R7.frozen 0
  have f1 : w7.frozen? ⟨w.heap.size, 1, none⟩ = false := R7.frozen 1
  have f2 : w7.frozen? ⟨w.heap.size, 2, none⟩ = false := R7.frozen 2
  have f3 : w7.frozen? ⟨w.heap.size, 3, none⟩ = false := R7.frozen 3
  have f4 : w7.frozen? ⟨w.heap.size, 4, none⟩ = false := R7.frozen 4
  have f5 : w7.frozen? ⟨w.heap.size, 5, none⟩ = false := R7.frozen 5
  have f6 : w7.frozen? ⟨w.heap.size, 6, none⟩ = false := R7.frozen 6
  have f7 : w7.frozen? ⟨w.heap.size, 7, none⟩ = false := R7.frozen 7
  have f8 : w7.frozen? ⟨w.heap.size, 8, none⟩ = false := R7.frozen 8
  have hw4lt := HLT.out
  have hne : ¬ w4.heap.size = w.heap.size := by omega
  have hne2 : ¬ w.heap.size = w4.heap.size := by omega
  have HR := Lib.hid R7
  have HL := Lib.hid L7
  have HB := Lib.hid B7
  have HN := Lib.hid hw4lt
  clear B7 R7 L7 hw4lt HLT z5
  go_wp2
  obtain ⟨V, hV⟩ : ∃ V, V = ((w7.setCell ⟨w4.heap.size, 6, none⟩ (.int .i64 (g : Int))).setCell ⟨w4.heap.size, 7, none⟩ (.int .i64 (h : Int))).setCell ⟨w4.heap.size, 8, none⟩ (.bool i) := ⟨_, rfl⟩
  have hRV : Row V w.heap.size 261 (lkC 0 0 false 0 0 false 0 0 false) := by rw [hV]; exact HR.out.same ((heap_set hne2).trans ((heap_set hne2).trans (heap_set hne2)))
  have hBV : Below w.heap.size w V := by rw [hV]; exact ((HB.out.setCell (p := ⟨w4.heap.size, 6, none⟩) (Nat.le_of_lt HN.out) _).setCell (p := ⟨w4.heap.size, 7, none⟩) (Nat.le_of_lt HN.out) _).setCell (p := ⟨w4.heap.size, 8, none⟩) (Nat.le_of_lt HN.out) _
  rw [← hV]
  have R6 := row_set9 (.int .i64 (a : Int)) (.int .i64 (b : Int)) (.bool c) (.int .i64 (k : Int)) (.int .i64 (q : Int)) (.bool true) (.int .i64 (g : Int)) (.int .i64 (h : Int)) (.bool i) hRV
  have B6 := below_set9 (b := w.heap.size) (.int .i64 (a : Int)) (.int .i64 (b : Int)) (.bool c) (.int .i64 (k : Int)) (.int .i64 (q : Int)) (.bool true) (.int .i64 (g : Int)) (.int .i64 (h : Int)) (.bool i) hBV (Nat.le_refl _)
  obtain ⟨W, hW⟩ : ∃ W, W = (((((((((V.setCell ⟨w.heap.size, 0, none⟩ (.int .i64 (a : Int))).setCell ⟨w.heap.size, 1, none⟩ (.int .i64 (b : Int))).setCell ⟨w.heap.size, 2, none⟩ (.bool c)).setCell ⟨w.heap.size, 3, none⟩ (.int .i64 (k : Int))).setCell ⟨w.heap.size, 4, none⟩ (.int .i64 (q : Int))).setCell ⟨w.heap.size, 5, none⟩ (.bool true)).setCell ⟨w.heap.size, 6, none⟩ (.int .i64 (g : Int))).setCell ⟨w.heap.size, 7, none⟩ (.int .i64 (h : Int))).setCell ⟨w.heap.size, 8, none⟩ (.bool i)) := ⟨_, rfl⟩
  rw [← hW] at R6 B6 ⊢
  clear HR HL HB HN hW hV hRV hBV
  have d0 : W.cell? ⟨w.heap.size, 0, none⟩ = _ := R6.cell 0
  have d1 : W.cell? ⟨w.heap.size, 1, none⟩ = _ := R6.cell 1
  have d2 : W.cell? ⟨w.heap.size, 2, none⟩ = _ := R6.cell 2
  have d3 : W.cell? ⟨w.heap.size, 3, none⟩ = _ := R6.cell 3
  have d4 : W.cell? ⟨w.heap.size, 4, none⟩ = _ := R6.cell 4
  have d5 : W.cell? ⟨w.heap.size, 5, none⟩ = _ := R6.cell 5
  have d6 : W.cell? ⟨w.heap.size, 6, none⟩ = _ := R6.cell 6
  have d7 : W.cell? ⟨w.heap.size, 7, none⟩ = _ := R6.cell 7
  have d8 : W.cell? ⟨w.heap.size, 8, none⟩ = _ := R6.cell 8
  exact bodyPost_ret (v := lkV a b c k q true g h i) (by simp [results, Tryz.results179, go_sem, d0, d1, d2, d3, d4, d5, d6, d7, d8]) rfl ⟨rfl, B6⟩
theorem lookAt_any (n : Nat) (w : World) (hn : n < 1000000) : Calls Tryz.prog 179 #[.int .i64 (n : Int)] w fun e w' => e = .returned (lookV n) ∧ Below w.heap.size w w' := by
  rcases h : windO n with _ | ⟨k, q⟩
  · exact lookAt_none n w hn h
  · exact lookAt_some n k q w hn h
end Go.Proofs.YtiahmccchpmdgaaGreatDoor.Wn

namespace Go.Proofs.YtiahmccchpmdgaaGreatDoor.Wn
open Go.RowKit
attribute [local go_sem] Oper.semAt_some

abbrev siV (a b c d : Int) : Value := .agg #[.int .i64 a, .int .i64 b, .int .i64 c, .int .i64 d]
section
variable (a b : Int) (c : Bool) (d e : Int) (f : Bool) (g h : Int) (i : Bool) (w : World)
theorem fits1_any : Calls Tryz.prog 252 #[lkV a b c d e f g h i] w fun en w' => en = .returned (.bool c) ∧ Below w.heap.size w w' := by
  go_enter Tryz.func252, Tryz.ntmps252
  go_wp2
  go_ret
  exact ⟨rfl, below1 _ _⟩
theorem fits3_any : Calls Tryz.prog 254 #[lkV a b c d e f g h i] w fun en w' => en = .returned (.bool i) ∧ Below w.heap.size w w' := by
  go_enter Tryz.func254, Tryz.ntmps254
  go_wp2
  go_ret
  exact ⟨rfl, below1 _ _⟩
theorem fits7_any : Calls Tryz.prog 259 #[lkV a b c d e f g h i] w fun en w' => en = .returned (.bool f) ∧ Below w.heap.size w w' := by
  go_enter Tryz.func259, Tryz.ntmps259
  go_wp2
  go_ret
  exact ⟨rfl, below1 _ _⟩
theorem fits5_any : Calls Tryz.prog 256 #[lkV a b c d e f g h i] w fun en w' => en = .returned (.bool (f && decide (256 ≤ e))) ∧ Below w.heap.size w w' := by
  cases f
  · go_enter Tryz.func256, Tryz.ntmps256
    go_wp2
    go_ret
    exact ⟨rfl, below1 _ _⟩
  · obtain ⟨q, hq⟩ : ∃ q, decide (256 ≤ e) = q := ⟨_, rfl⟩
    rw [hq]
    go_enter Tryz.func256, Tryz.ntmps256
    go_wp2
    go_ret
    exact ⟨rfl, below1 _ _⟩
theorem site2_any : Calls Tryz.prog 253 #[lkV a b c d e f g h i] w fun en w' => en = .returned (siV 1 a 0 b) ∧ Below w.heap.size w w' := by
  go_enter Tryz.func253, Tryz.ntmps253
  go_wp2
  exact bodyPost_ret (v := siV 1 a 0 b) (by simp [results, Tryz.results253, go_sem]) rfl ⟨rfl, below2 _ _ _⟩
theorem site4_any : Calls Tryz.prog 255 #[lkV a b c d e f g h i] w fun en w' => en = .returned (siV 2 d g h) ∧ Below w.heap.size w w' := by
  go_enter Tryz.func255, Tryz.ntmps255
  go_wp2
  exact bodyPost_ret (v := siV 2 d g h) (by simp [results, Tryz.results255, go_sem]) rfl ⟨rfl, below2 _ _ _⟩
theorem inW_any (k : Int) : Calls Tryz.prog 258 #[lkV a b c d e f g h i, .int .i64 k] w fun en w' => en = .returned (siV k d 0 e) ∧ Below w.heap.size w w' := by
  go_enter Tryz.func258, Tryz.ntmps258
  go_wp2
  exact bodyPost_ret (v := siV k d 0 e) (by simp [results, Tryz.results258, go_sem]) rfl ⟨rfl, below2 _ _ _⟩
theorem site6_any : Calls Tryz.prog 257 #[lkV a b c d e f g h i] w fun en w' => en = .returned (siV 3 d 0 e) ∧ Below w.heap.size w w' := by
  have hi := Lib.hid (fun w => inW_any a b c d e f g h i w 3)
  go_enter Tryz.func257, Tryz.ntmps257
  go_wp2_with fail
  refine (hi.out _).mono ?_
  rintro en w1 ⟨rfl, hb1⟩
  have hz := hb1.size
  simp at hz
  have hR : Row w1 (w.heap.size + 1) 111 [.int .i64 0, .int .i64 0, .int .i64 0, .int .i64 0] := (Row.new_at _ _ _ (by simp)).below hb1
  have c0 : w1.cell? ⟨w.heap.size + 1, 0, none⟩ = _ := hR.cell 0
  have c1 : w1.cell? ⟨w.heap.size + 1, 1, none⟩ = _ := hR.cell 1
  have c2 : w1.cell? ⟨w.heap.size + 1, 2, none⟩ = _ := hR.cell 2
  have c3 : w1.cell? ⟨w.heap.size + 1, 3, none⟩ = _ := hR.cell 3
  have f0 := hR.frozen 0
  have f1 := hR.frozen 1
  have f2 := hR.frozen 2
  have f3 := hR.frozen 3
  have HR := Lib.hid hR
  have HB := Lib.hid (show Below w.heap.size w w1 from (below2 _ _ _).trans (hb1.mono (by simp; omega)))
  clear hR hb1 hz
  go_wp2
  have R6 := row_set4 (.int .i64 3) (.int .i64 d) (.int .i64 0) (.int .i64 e) HR.out
  have B6 := below_set4 (b := w.heap.size + 1) (.int .i64 3) (.int .i64 d) (.int .i64 0) (.int .i64 e) HB.out (by omega)
  clear c0 c1 c2 c3 f0 f1 f2 f3
  have d0 : World.cell? _ ⟨w.heap.size + 1, 0, none⟩ = _ := R6.cell 0
  have d1 : World.cell? _ ⟨w.heap.size + 1, 1, none⟩ = _ := R6.cell 1
  have d2 : World.cell? _ ⟨w.heap.size + 1, 2, none⟩ = _ := R6.cell 2
  have d3 : World.cell? _ ⟨w.heap.size + 1, 3, none⟩ = _ := R6.cell 3
  exact bodyPost_ret (v := siV 3 d 0 e) (by simp [results, Tryz.results257, go_sem, d0, d1, d2, d3]) rfl ⟨rfl, B6⟩
theorem site8_any : Calls Tryz.prog 260 #[lkV a b c d e f g h i] w fun en w' => en = .returned (siV 4 d 0 e) ∧ Below w.heap.size w w' := by
  have hi := Lib.hid (fun w => inW_any a b c d e f g h i w 4)
  go_enter Tryz.func260, Tryz.ntmps260
  go_wp2_with fail
  refine (hi.out _).mono ?_
  rintro en w1 ⟨rfl, hb1⟩
  have hz := hb1.size
  simp at hz
  have hR : Row w1 (w.heap.size + 1) 111 [.int .i64 0, .int .i64 0, .int .i64 0, .int .i64 0] := (Row.new_at _ _ _ (by simp)).below hb1
  have c0 : w1.cell? ⟨w.heap.size + 1, 0, none⟩ = _ := hR.cell 0
  have c1 : w1.cell? ⟨w.heap.size + 1, 1, none⟩ = _ := hR.cell 1
  have c2 : w1.cell? ⟨w.heap.size + 1, 2, none⟩ = _ := hR.cell 2
  have c3 : w1.cell? ⟨w.heap.size + 1, 3, none⟩ = _ := hR.cell 3
  have f0 := hR.frozen 0
  have f1 := hR.frozen 1
  have f2 := hR.frozen 2
  have f3 := hR.frozen 3
  have HR := Lib.hid hR
  have HB := Lib.hid (show Below w.heap.size w w1 from (below2 _ _ _).trans (hb1.mono (by simp; omega)))
  clear hR hb1 hz
  go_wp2
  have R6 := row_set4 (.int .i64 4) (.int .i64 d) (.int .i64 0) (.int .i64 e) HR.out
  have B6 := below_set4 (b := w.heap.size + 1) (.int .i64 4) (.int .i64 d) (.int .i64 0) (.int .i64 e) HB.out (by omega)
  clear c0 c1 c2 c3 f0 f1 f2 f3
  have d0 : World.cell? _ ⟨w.heap.size + 1, 0, none⟩ = _ := R6.cell 0
  have d1 : World.cell? _ ⟨w.heap.size + 1, 1, none⟩ = _ := R6.cell 1
  have d2 : World.cell? _ ⟨w.heap.size + 1, 2, none⟩ = _ := R6.cell 2
  have d3 : World.cell? _ ⟨w.heap.size + 1, 3, none⟩ = _ := R6.cell 3
  exact bodyPost_ret (v := siV 4 d 0 e) (by simp [results, Tryz.results260, go_sem, d0, d1, d2, d3]) rfl ⟨rfl, B6⟩
end
end Go.Proofs.YtiahmccchpmdgaaGreatDoor.Wn

namespace Go.Proofs.YtiahmccchpmdgaaGreatDoor
open Go.RowKit

theorem putObj_alloc (W : World) (l : Nat) (b o : Obj) (h : l < W.heap.size) : (W.alloc o).putObj l b = (W.putObj l b).alloc o := by
  unfold World.putObj World.alloc
  simp [Array.setIfInBounds, h, Array.set_push, Nat.lt_succ_of_lt h]

/-- THE STATEMENT 'for x := range g { .. }' over such an iterator, in a function's own frame, where x lies in a block of its own in each round. -/
theorem wpIn_range_box {α : Type} {P : Program} {g : Operand} {ps : Array Tmp} {assign body : Code} {Q : Exit → Act → World → Prop} {a : Act} {w : World}
    {gf : Nat} {lb : Array Value} (hg : a.eval g = .func (.func gf) #[] lb) (eg : ∀ args w, (callFunc gf args).run P w = .ok (.enter gf args) w)
    {encs : α → Array Value} {M : α → Nat → Prop} {Pre : List α → α → World → Prop} {Priv : Nat → Prop} {S Sp : List α → Prop} (hit : It P gf lb encs M Pre Priv S Sp w)
    (hpv : ∀ k, Priv k → k < w.heap.size) (hps : ∀ x, (encs x).size = ps.size) (hPre : ∀ pre x V V', (∀ k, M x k → V'.heap[k]? = V.heap[k]?) → Pre pre x V → Pre pre x V')
    (I : List α → (Nat → Prop) → World → Prop) (Ix : Code → List α → (Nat → Prop) → World → Prop) (hI : Abid w.heap.size I) (hIx : ∀ c, Abid w.heap.size (Ix c)) (h0 : I [] (fun _ => False) w) (a₁ : Nat → α → Act) (ob : α → Obj)
    (hassign : ∀ (l : Nat) (x : α) (W : World) (K : Act → World → Prop), K (a₁ W.heap.size x) (W.alloc (ob x)) →
      assign.wpIn (Fence.wide.inRound l) 0 P (Exit.then K (fun _ _ _ => False)) { tmps := (ps.zip (encs x)).foldl (fun t (p, v) => t.setIfInBounds p v) a.tmps, defers := [] } W)
    (hbody : ∀ (l : Nat) (pre : List α) (x : α) (O : Nat → Prop) (W : World), w.heap.size + 2 ≤ W.heap.size → (∀ k, O k → w.heap.size + 2 ≤ k ∧ k < W.heap.size) → I pre O W → Pre pre x W → (∀ k, M x k → w.heap.size + 2 ≤ k ∧ k < W.heap.size ∧ ¬ O k) →
      body.wpIn (Fence.wide.inRound l) 0 P (itPost Priv w.heap.size M I Ix pre x O W) (a₁ W.heap.size x) (W.alloc (ob x)))
    (hdone : ∀ (xs : List α) (O : Nat → Prop) (W : World), S xs → I xs O W → W.heap[w.heap.size]? = some (.deferred (some [])) → Q .normal { a with defers := { target := .collected w.heap.size, args := #[] } :: a.defers } W)
    (hstop : ∀ (c : Code) (pre : List α) (O : Nat → Prop) (W : World), Sp pre → Ix c pre O W → W.heap[w.heap.size]? = some (.deferred (some [])) → c.wpIn Fence.wide 2 P Q { a with defers := { target := .collected w.heap.size, args := #[] } :: a.defers } W) :
    (Code.rangeFunc g ps assign body).wpIn Fence.wide 2 P Q a w := by
  refine wpIn_rangeFunc ?_
  intro fn hfn
  obtain ⟨rec, hrec⟩ : ∃ rec : LoopState → Option Code → Loop, rec = fun st pe => { state := st, pending := pe, fn, tmps := a.tmps, params := ps, assign, body, defers := w.heap.size } := ⟨_, rfl⟩
  obtain ⟨W1, hW1⟩ : ∃ W1, (w.alloc (.deferred (some []))).alloc (.loop (rec .ready none)) = W1 := ⟨_, rfl⟩
  have hsz : W1.heap.size = w.heap.size + 2 := by rw [← hW1]; simp
  have hL1 : W1.heap[w.heap.size + 1]? = some (.loop (rec .ready none)) := by
    rw [← hW1]; have := World.alloc_heap_new (w.alloc (.deferred (some []))) (.loop (rec .ready none)); rwa [World.size_alloc] at this
  have hD1 : W1.heap[w.heap.size]? = some (.deferred (some [])) := by
    rw [← hW1]; exact (Below.heap_alloc _ _ _ (by simp)).trans (World.alloc_heap_new w _)
  have hI1 : I [] (fun _ => False) W1 := by
    rw [← hW1]
    exact hI _ _ _ _ none (hI _ _ _ _ none h0 (World.grownBy_alloc w _ none) (fun r e => by cases e)) (World.grownBy_alloc _ _ none) (fun r e => by cases e)
  have hlow : ∀ k, k < w.heap.size → W1.heap[k]? = w.heap[k]? := fun k hk => by
    rw [← hW1]; exact (Below.heap_alloc _ _ _ (by simp; omega)).trans (Below.heap_alloc _ _ _ hk)
  refine ⟨w.heap.size + 1, [{ target := .collected w.heap.size, args := #[] }], W1, { target := .fn (.func gf) lb, args := #[.func (.yield (w.heap.size + 1)) #[] #[]] }, W1, gf,
    #[.func (.yield (w.heap.size + 1)) #[] #[]] ++ lb, W1, ?_, ?_, ?_, ?_, (fun h => by cases h), ?_⟩
  · rw [← hW1, hrec]; exact run_enterLoop_outer _ _ _ _ _
  · simp only [resolve, hg]
    simp [go_sem]
  · intro f' hf'; exact trivial
  · simp [invoke, go_sem, eg]
  · refine callsIn_wide.2 ((hit (w.heap.size + 1)
      (fun pre O W => I pre O W ∧ W.heap[w.heap.size + 1]? = some (.loop (rec .ready none)) ∧ W.heap[w.heap.size]? = some (.deferred (some [])) ∧ ∀ k, O k → w.heap.size + 2 ≤ k)
      (fun pre O W => ∃ c, Ix c pre O W ∧ W.heap[w.heap.size + 1]? = some (.loop (rec .done (some c))) ∧ W.heap[w.heap.size]? = some (.deferred (some [])) ∧ ∀ k, O k → w.heap.size + 2 ≤ k)
      W1 (fun k hk => hlow k (hpv k hk)) (by omega) ?_ ?_ ?_ ⟨hI1, hL1, hD1, fun _ h => h.elim⟩).mono ?_)
    · intro s O A B row hs hg' hr
      have hlt := (Array.getElem?_eq_some_iff.1 hs.2.1).1
      refine ⟨hI s O A B row hs.1 hg' (fun r e => ⟨by have := (hr r e).1; omega, (hr r e).2⟩), (hg'.block _ hlt (fun e => by have := (hr _ e.symm).1; omega)).trans hs.2.1, (hg'.block _ (by omega) (fun e => by have := (hr _ e.symm).1; omega)).trans hs.2.2.1, hs.2.2.2⟩
    · intro s O A B row hs hg' hr
      obtain ⟨c, hc, hl, hk, hOb⟩ := hs
      have hlt := (Array.getElem?_eq_some_iff.1 hl).1
      refine ⟨c, hIx c s O A B row hc hg' (fun r e => ⟨by have := (hr r e).1; omega, (hr r e).2⟩), (hg'.block _ hlt (fun e => by have := (hr _ e.symm).1; omega)).trans hl, (hg'.block _ (by omega) (fun e => by have := (hr _ e.symm).1; omega)).trans hk, hOb⟩
    · -- a round
      rintro pre x O W hWs hO ⟨hi, hl, hk, hOb⟩ hpre hM
      have hlt : w.heap.size + 1 < W.heap.size := (Array.getElem?_eq_some_iff.1 hl).1
      have hy := run_yield (P := P) (args := encs x) hl (by rw [hrec]; exact hps x)
      rw [hrec] at hy
      refine ⟨fn, _, assign, body, hy, roundIn_of_wpIn hfn (hassign _ x W _ ⟨_, run_beginRound ((Below.heap_alloc _ _ _ hlt).trans hl) (by rw [hrec]), ?_⟩)⟩
      rw [putObj_alloc _ _ _ _ hlt]
      obtain ⟨V, hV⟩ : ∃ V, V = W.putObj (w.heap.size + 1) (.loop { rec .ready none with state := .busy }) := ⟨_, rfl⟩
      rw [← hV]
      have hVs : V.heap.size = W.heap.size := by rw [hV]; simp
      rw [← hVs]
      have hl2 : V.heap[w.heap.size + 1]? = some (.loop { rec .ready none with state := .busy }) := by rw [hV]; exact World.putObj_heap_same hlt
      have hVo : ∀ k, k ≠ w.heap.size + 1 → V.heap[k]? = W.heap[k]? := fun k hk => by rw [hV]; exact World.putObj_heap_other hk
      have hk2 : V.heap[w.heap.size]? = some (.deferred (some [])) := (hVo _ (by omega)).trans hk
      have hiV : I pre O V := by rw [hV]; exact hI _ _ _ _ _ hi (putObj_grown W _ _) (fun r e => by cases e; exact ⟨by omega, fun ho => by have := (hO _ ho).1; omega⟩)
      have hpV : Pre pre x V := hPre pre x W V (fun k hkm => hVo k (by have := (hM k hkm).1; omega)) hpre
      refine wpIn_mono (hbody _ pre x O V (by omega) (fun k ho => by have := hO k ho; omega) hiV hpV (fun k hm => by have := hM k hm; exact ⟨by omega, by omega, this.2.2⟩)) ?_
      have hnO : ¬ O (w.heap.size + 1) := fun ho => by have := (hO _ ho).1; omega
      have hnM : ¬ M x (w.heap.size + 1) := fun ho => by have := (hM _ ho).1; omega
      have hnO' : ¬ O w.heap.size := fun ho => by have := (hO _ ho).1; omega
      have hnM' : ¬ M x w.heap.size := fun ho => by have := (hM _ ho).1; omega
      have hOn : ∀ W3 : World, ∀ k, nextO O (M x) V W3 k → w.heap.size + 2 ≤ k := by
        rintro W3 k (h | h | h)
        · exact hOb k h
        · have := (hM k h).1; omega
        · omega
      have fin : ∀ (jump : Option Code) (W3 : World), Keeps Priv w.heap.size O (M x) V W3 →
          (Instr.endRound (w.heap.size + 1) jump).run P W3 = .ok (.bool jump.isNone) (W3.putObj (w.heap.size + 1) (.loop (rec (if jump.isNone then .ready else .done) jump))) ∧
          (W3.putObj (w.heap.size + 1) (.loop (rec (if jump.isNone then .ready else .done) jump))).heap[w.heap.size + 1]? = some (.loop (rec (if jump.isNone then .ready else .done) jump)) ∧
          (W3.putObj (w.heap.size + 1) (.loop (rec (if jump.isNone then .ready else .done) jump))).heap[w.heap.size]? = some (.deferred (some [])) ∧
          Keeps Priv W1.heap.size O (M x) W (W3.putObj (w.heap.size + 1) (.loop (rec (if jump.isNone then .ready else .done) jump))) ∧
          nextO O (M x) V W3 = nextO O (M x) W (W3.putObj (w.heap.size + 1) (.loop (rec (if jump.isNone then .ready else .done) jump))) ∧
          (∀ s, (∀ k, nextO O (M x) V W3 k → ¬ k = w.heap.size + 1) ∧ (I s (nextO O (M x) V W3) W3 → I s (nextO O (M x) V W3) (W3.putObj (w.heap.size + 1) (.loop (rec (if jump.isNone then .ready else .done) jump))))) ∧
          (∀ c s, Ix c s (nextO O (M x) V W3) W3 → Ix c s (nextO O (M x) V W3) (W3.putObj (w.heap.size + 1) (.loop (rec (if jump.isNone then .ready else .done) jump)))) := fun jump W3 hk3 => by
        have hl3 := (hk3.same _ (by omega) (.inr ⟨by omega, hnO, hnM⟩)).trans hl2
        have hd3 := (hk3.same _ (by omega) (.inr ⟨Nat.le_refl _, hnO', hnM'⟩)).trans hk2
        have hlt3 : w.heap.size + 1 < W3.heap.size := (Array.getElem?_eq_some_iff.1 hl3).1
        have hr := run_endRound (P := P) jump hl3
        rw [hrec] at hr ⊢
        have hnn : ∀ k, nextO O (M x) V W3 k → ¬ k = w.heap.size + 1 := by
          rintro k (h | h | h) rfl
          · exact hnO h
          · exact hnM h
          · omega
        refine ⟨hr, World.putObj_heap_same hlt3, (World.putObj_heap_other (by omega)).trans hd3, ⟨by have := hk3.size; simp; omega, fun k hkl hp => ?_⟩, nextO_size hVs (by simp), fun s => ⟨hnn, fun h => hI _ _ _ _ _ h (putObj_grown W3 _ _) (fun r e => by cases e; exact ⟨by omega, fun ho => hnn _ ho rfl⟩)⟩,
          fun c s h => hIx c _ _ _ _ _ h (putObj_grown W3 _ _) (fun r e => by cases e; exact ⟨by omega, fun ho => hnn _ ho rfl⟩)⟩
        have hne : k ≠ w.heap.size + 1 := by
          rcases hp with hp | ⟨hp, _⟩
          · have := hpv k hp; omega
          · omega
        exact (World.putObj_heap_other hne).trans ((hk3.same k (by omega) (by rcases hp with hp | ⟨h1, h2⟩; exact .inl hp; exact .inr ⟨by omega, h2⟩)).trans (hVo k hne))
      rintro e a3 W3 hp
      cases e with
      | normal =>
        obtain ⟨hk3, hi3⟩ := hp
        obtain ⟨hr, hl4, hk4, hkk, hn, hi4, _⟩ := fin none W3 hk3
        exact ⟨_, _, hr, hkk, .inl ⟨rfl, by rw [← hn]; exact (hi4 _).2 hi3, hl4, hk4, by rw [← hn]; exact hOn _⟩⟩
      | ret =>
        obtain ⟨hk3, hi3⟩ := hp
        obtain ⟨hr, hl4, hk4, hkk, hn, _, hi4⟩ := fin (some .ret) W3 hk3
        exact ⟨_, _, hr, hkk, .inr ⟨rfl, .ret, by rw [← hn]; exact hi4 _ _ hi3, hl4, hk4, by rw [← hn]; exact hOn _⟩⟩
      | exit id =>
        obtain ⟨hk3, hi3⟩ := hp
        obtain ⟨hr, hl4, hk4, hkk, hn, _, hi4⟩ := fin (some (.exit id)) W3 hk3
        exact ⟨_, _, hr, hkk, .inr ⟨rfl, .exit id, by rw [← hn]; exact hi4 _ _ hi3, hl4, hk4, by rw [← hn]; exact hOn _⟩⟩
      | goto t =>
        obtain ⟨hk3, hi3⟩ := hp
        obtain ⟨hr, hl4, hk4, hkk, hn, _, hi4⟩ := fin (some (.goto t)) W3 hk3
        exact ⟨_, _, hr, hkk, .inr ⟨rfl, .goto t, by rw [← hn]; exact hi4 _ _ hi3, hl4, hk4, by rw [← hn]; exact hOn _⟩⟩
      | panic ch => exact hp.elim
      | outgrown => exact hp.elim
    · -- behind the iterator
      rintro e W2 ⟨⟨v, rfl⟩, (⟨xs, O, hS, hi, hl, hk, hOb⟩ | ⟨pre, O, hSp, c, hi, hl, hk, hOb⟩)⟩
      · have he := run_endLoop (P := P) hl (by rw [hrec]; simp)
        rw [hrec] at he
        exact ⟨none, _, he, hdone xs O _ hS (hI _ _ _ _ _ hi (putObj_grown W2 _ _) (fun r e => by cases e; exact ⟨by omega, fun ho => by have := hOb _ ho; omega⟩)) ((World.putObj_heap_other (by omega)).trans hk)⟩
      · have he := run_endLoop (P := P) hl (by rw [hrec]; simp)
        rw [hrec] at he
        exact ⟨some c, _, he, hstop c pre O _ hSp (hIx c _ _ _ _ _ hi (putObj_grown W2 _ _) (fun r e => by cases e; exact ⟨by omega, fun ho => by have := hOb _ ho; omega⟩)) ((World.putObj_heap_other (by omega)).trans hk)⟩
end Go.Proofs.YtiahmccchpmdgaaGreatDoor
