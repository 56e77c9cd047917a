import Derived.Test.YtfmbfojlopibnaaDoorTag
import Derived.Test.YtfmbfojlopibnaaDoorRnd
namespace Go.Proofs.YtfmbfojlopibnaaDoor
open Go.RowKit Go.Shelf
attribute [local go_sem] Oper.semAt_some

/- TWO WORDS. -/

/-- what a closure does with a word: its key stands in block g -/
def Doing (cf g K : Nat) (F : Nat → Nat) : Prop :=
  ∀ (x : Nat) (W : World), x < 18446744073709551616 → W.cell? ⟨g, 0, none⟩ = some (.int .u64 (K : Int)) → Calls Tryd.prog cf #[.int .u64 (x : Int), .pointer (some ⟨g, 0, none⟩)] W fun e W' => e = .returned (.int .u64 (F x : Int)) ∧ Below W.heap.size W W'
theorem sealing11_does (g K : Nat) (hK : K < 18446744073709551616) : Doing 50 g K (mixN K) := by
  intro x W hx hc
  have h1 := Lib.hid (fun W => mix_any K x W hK hx)
  obtain ⟨y, hy⟩ : ∃ y, y = mixN K x := ⟨_, rfl⟩
  rw [← hy] at h1 ⊢
  clear hy hx hK
  go_enter Tryd.func50, Tryd.ntmps50
  go_wp2_with fail
  refine (h1.out _).mono ?_
  rintro e w1 ⟨rfl, hb1⟩
  go_wp2_with fail
  go_ret
  exact ⟨rfl, hb1⟩
theorem opening11_does (g K : Nat) (hK : K < 18446744073709551616) : Doing 42 g K (undoN K) := by
  intro x W hx hc
  have h1 := Lib.hid (fun W => undo_any K x W hK hx)
  obtain ⟨y, hy⟩ : ∃ y, y = undoN K x := ⟨_, rfl⟩
  rw [← hy] at h1 ⊢
  clear hy hx hK
  go_enter Tryd.func42, Tryd.ntmps42
  go_wp2_with fail
  refine (h1.out _).mono ?_
  rintro e w1 ⟨rfl, hb1⟩
  go_wp2_with fail
  go_ret
  exact ⟨rfl, hb1⟩

set_option maxHeartbeats 2000000 in
theorem each_any (a b g K cf : Nat) (F : Nat → Nat) (w : World) (ha : a < 18446744073709551616) (hb : b < 18446744073709551616) (hg : w.cell? ⟨g, 0, none⟩ = some (.int .u64 (K : Int)))
    (eg : ∀ args w, (callFunc cf args).run Tryd.prog w = .ok (.enter cf args) w) (hd : Doing cf g K F) :
    Calls Tryd.prog 41 #[.agg #[.int .u64 (a : Int), .int .u64 (b : Int)], .func (.func cf) #[] #[.pointer (some ⟨g, 0, none⟩)]] w fun e w' =>
      e = .returned (.agg #[.int .u64 (F a : Int), .int .u64 (F b : Int)]) ∧ Below w.heap.size w w' := by
  have hgl : g < w.heap.size := lt_of_cell hg
  obtain ⟨w0, hw0⟩ : ∃ w0, w0 = (w.alloc (.cells #[.int .u64 (a : Int), .int .u64 (b : Int)] 66)).alloc (.cells #[.int .u64 0, .int .u64 0] 66) := ⟨_, rfl⟩
  have hz0 : w0.heap.size = w.heap.size + 2 := by rw [hw0]; simp
  have hw : Below w.heap.size w w0 := by rw [hw0]; exact below2 _ _ _
  have hr0 : Row w0 w.heap.size 66 [.int .u64 (a : Int), .int .u64 (b : Int)] := by rw [hw0]; exact (Row.new _ _ _).below (below1 _ _)
  have hr1 : Row w0 (w.heap.size + 1) 66 [.int .u64 0, .int .u64 0] := by rw [hw0]; exact Row.new_at _ _ _ (by simp)
  have x0 : w0.cell? ⟨w.heap.size, 0, none⟩ = some (.int .u64 (a : Int)) := hr0.cell 0
  have x1 : w0.cell? ⟨w.heap.size, 1, none⟩ = some (.int .u64 (b : Int)) := hr0.cell 1
  have hgo : w0.cell? ⟨g, 0, none⟩ = some (.int .u64 (K : Int)) := (hw.cell (p := ⟨g, 0, none⟩) hgl).trans hg
  have HC := Lib.hid (fun (y : Nat) (hy : y < 18446744073709551616) (W : World) (hB : Below (w.heap.size + 1) w0 W) (hR : Row W (w.heap.size + 1) 66 [.int .u64 0, .int .u64 0]) =>
    (show Calls Tryd.prog cf #[.int .u64 (y : Int), .pointer (some ⟨g, 0, none⟩)] W (fun e W' => e = .returned (.int .u64 (F y : Int)) ∧ Below (w.heap.size + 1) w0 W' ∧ Row W' (w.heap.size + 1) 66 [.int .u64 0, .int .u64 0] ∧
      W'.cell? ⟨w.heap.size + 1, 0, none⟩ = some (.int .u64 0) ∧ W'.cell? ⟨w.heap.size + 1, 1, none⟩ = some (.int .u64 0) ∧ W'.frozen? ⟨w.heap.size + 1, 0, none⟩ = false ∧ W'.frozen? ⟨w.heap.size + 1, 1, none⟩ = false) from
    (hd y W hy ((hB.cell (p := ⟨g, 0, none⟩) (by simp; omega)).trans hgo)).mono fun e W' ⟨h1, h2⟩ =>
      have hR' := hR.below h2
      ⟨h1, hB.trans (h2.mono (by have := hB.size; omega)), hR', hR'.cell 0, hR'.cell 1, hR'.frozen 0, hR'.frozen 1⟩))
  have h1 := Lib.hid (fun W hB hR => HC.out a ha W hB hR)
  have h2 := Lib.hid (fun W hB hR => HC.out b hb W hB hR)
  have HSA := Lib.hid (fun W (hB : Below (w.heap.size + 1) w0 W) => (show W.cell? ⟨w.heap.size, 0, none⟩ = some (.int .u64 (a : Int)) ∧ W.cell? ⟨w.heap.size, 1, none⟩ = some (.int .u64 (b : Int)) ∧ Below (w.heap.size + 1) w0 W from
    ⟨(hB.cell (p := ⟨w.heap.size, 0, none⟩) (by simp)).trans x0, (hB.cell (p := ⟨w.heap.size, 1, none⟩) (by simp)).trans x1, hB⟩))
  have hdr := Lib.hid (show Below (w.heap.size + 1) w0 w0.drew from (Below.refl _ _).drew)
  have hrd := Lib.hid (show Row w0.drew (w.heap.size + 1) 66 [.int .u64 0, .int .u64 0] from hr1)
  have HSS := Lib.hid (fun W (hB : Below (w.heap.size + 1) w0 W) (u v : Value) => (show Below (w.heap.size + 1) w0 ((W.setCell ⟨w.heap.size + 1, 0, none⟩ u).setCell ⟨w.heap.size + 1, 1, none⟩ v) from (hB.setCell (by simp) _).setCell (by simp) _))
  have hfin := Lib.hid (fun (W : World) (hB : Below (w.heap.size + 1) w0 W) => (show Below w.heap.size w W from hw.trans (hB.mono (by omega))))
  obtain ⟨x, hx⟩ : ∃ x, x = F a := ⟨_, rfl⟩
  obtain ⟨y, hy⟩ : ∃ y, y = F b := ⟨_, rfl⟩
  rw [← hx] at h1 ⊢
  rw [← hy] at h2 ⊢
  clear hx hy HC hr0 hr1 hw hgo hg hd
  go_enter Tryd.func41, Tryd.ntmps41
  go_wp2_with fail
  rw [← hw0]
  clear hw0
  go_region_held3 (fun W => W.cell? ⟨w.heap.size, 0, none⟩ = some (.int .u64 (a : Int)) ∧ W.cell? ⟨w.heap.size, 1, none⟩ = some (.int .u64 (b : Int)) ∧ Below (w.heap.size + 1) w0 W)
    (first | exact HSA.out _ hdr.out | (exact HSA.out _ (by assumption)) | (exact HSA.out _ (HSS.out _ (by assumption) _ _)) | (go_split_ands; exact HSA.out _ (by assumption)))
    (first
      | (refine (h1.out _ (by first | exact hdr.out | assumption) (by first | exact hrd.out | assumption)).mono ?_; rintro e w2 ⟨rfl, hb2, hR2, c0, c1, f0, f1⟩)
      | (refine (h2.out _ (by first | exact hdr.out | assumption) (by first | exact hrd.out | assumption)).mono ?_; rintro e w2 ⟨rfl, hb2, hR2, c0, c1, f0, f1⟩))
  all_goals
    have hR3 := (hR2.set 0 (.int .u64 (x : Int))).set 1 (.int .u64 (y : Int))
    have hB3 := HSS.out _ hb2 (.int .u64 (x : Int)) (.int .u64 (y : Int))
    obtain ⟨W', hW'⟩ : ∃ W', W' = (w2.setCell ⟨w.heap.size + 1, 0, none⟩ (.int .u64 (x : Int))).setCell ⟨w.heap.size + 1, 1, none⟩ (.int .u64 (y : Int)) := ⟨_, rfl⟩
    rw [← hW'] at hR3 hB3 ⊢
    have d0 : W'.cell? ⟨w.heap.size + 1, 0, none⟩ = some (.int .u64 (x : Int)) := hR3.cell 0
    have d1 : W'.cell? ⟨w.heap.size + 1, 1, none⟩ = some (.int .u64 (y : Int)) := hR3.cell 1
    have HB := hfin.out _ hB3
    clear hW' hR3 hB3 h1 h2 HSA hdr hrd HSS hfin
    go_wp2
    exact bodyPost_ret (v := .agg #[.int .u64 (x : Int), .int .u64 (y : Int)]) (by simp [results, Tryd.results41, go_sem, d0, d1]) rfl ⟨rfl, HB⟩

theorem eq_pair (a b c d : Int) (w : World) : (Op.equalIn 10000 66 (.agg #[.int .u64 a, .int .u64 b]) (.agg #[.int .u64 c, .int .u64 d])).run Tryd.prog w = .ok (a == c && b == d) w := by
  have u3 := Tryd.underlying22
  have a3 := Tryd.isAgg22
  have z3 := Tryd.sizeOf22
  rw [show (10000 : Nat) = 9999 + 1 from rfl, Op.equalIn]
  simp only [Sem.run_bind, run_underlying Tryd.underlying66, Result.andThen_ok]
  simp only [Std.Legacy.Range.forIn_eq_forIn_range', Std.Legacy.Range.size, Nat.sub_zero, Nat.add_sub_cancel, Nat.div_one, List.range'_succ, List.range'_zero, List.forIn_cons, List.forIn_nil]
  go_simp
  by_cases h1 : a = c <;> by_cases h2 : b = d <;> simp [h1, h2]

set_option maxHeartbeats 2000000 in
theorem matched_any (a b : Nat) (w : World) (ha : a < 18446744073709551616) : Calls Tryd.prog 29 #[.agg #[.int .u64 (a : Int), .int .u64 (b : Int)]] w fun e w' =>
    e = .returned (.bool (decide (b = 18446744073709551615 - a))) ∧ Below w.heap.size w w' := by
  obtain ⟨w0, hw0⟩ : ∃ w0, w0 = w.alloc (.cells #[.int .u64 (a : Int), .int .u64 (b : Int)] 66) := ⟨_, rfl⟩
  have hz0 : w0.heap.size = w.heap.size + 1 := by rw [hw0]; simp
  have hw : Below w.heap.size w w0 := by rw [hw0]; exact below1 _ _
  have hr0 : Row w0 w.heap.size 66 [.int .u64 (a : Int), .int .u64 (b : Int)] := by rw [hw0]; exact Row.new _ _ _
  have x0 : w0.cell? ⟨w.heap.size, 0, none⟩ = some (.int .u64 (a : Int)) := hr0.cell 0
  have x1 : w0.cell? ⟨w.heap.size, 1, none⟩ = some (.int .u64 (b : Int)) := hr0.cell 1
  have h1 := Lib.hid (fun W (hB : Below w0.heap.size w0 W) => (show Calls Tryd.prog 44 #[.int .u64 (a : Int)] W (fun e W' => e = .returned (.agg #[.int .u64 (a : Int), .int .u64 ((18446744073709551615 - a : Nat) : Int)]) ∧ Below w0.heap.size w0 W') from (pairOf_any a W ha).mono fun e W' ⟨h1, h2⟩ => ⟨h1, hB.trans (h2.mono hB.size)⟩))
  have HSA := Lib.hid (fun W (hB : Below w0.heap.size w0 W) => (show W.cell? ⟨w.heap.size, 0, none⟩ = some (.int .u64 (a : Int)) ∧ W.cell? ⟨w.heap.size, 1, none⟩ = some (.int .u64 (b : Int)) ∧ Below w0.heap.size w0 W from
    ⟨(hB.cell (p := ⟨w.heap.size, 0, none⟩) (by simp; omega)).trans x0, (hB.cell (p := ⟨w.heap.size, 1, none⟩) (by simp; omega)).trans x1, hB⟩))
  have hdr := Lib.hid (show Below w0.heap.size w0 w0.drew from (Below.refl _ _).drew)
  have hfin := Lib.hid (fun (W : World) (hB : Below w0.heap.size w0 W) => (show Below w.heap.size w W from hw.trans (hB.mono (by omega))))
  obtain ⟨y, hy⟩ : ∃ y, y = 18446744073709551615 - a := ⟨_, rfl⟩
  rw [← hy] at h1 ⊢
  have heq := fun w => eq_pair (a : Int) (b : Int) (a : Int) (y : Int) w
  have hde : ((a : Int) == (a : Int) && (b : Int) == (y : Int)) = decide (b = y) := by
    by_cases h : b = y
    · simp [h]
    · simp [h]; omega
  rw [hde] at heq
  clear hy hr0 hw ha hde
  go_enter Tryd.func29, Tryd.ntmps29
  go_wp2_with fail
  rw [← hw0]
  clear hw0
  go_region_held3 (fun W => W.cell? ⟨w.heap.size, 0, none⟩ = some (.int .u64 (a : Int)) ∧ W.cell? ⟨w.heap.size, 1, none⟩ = some (.int .u64 (b : Int)) ∧ Below w0.heap.size w0 W)
    (first | exact HSA.out _ hdr.out | (exact HSA.out _ (by assumption)) | (go_split_ands; exact HSA.out _ (by assumption)))
    (first | (refine (h1.out _ (by first | exact hdr.out | assumption)).mono ?_; rintro e w2 ⟨rfl, hb2⟩))
  all_goals
    have HB := hfin.out _ ‹Below w0.heap.size w0 _›
    clear h1 HSA hdr hfin
    go_wp2
    go_ret
    exact ⟨rfl, HB⟩
end Go.Proofs.YtfmbfojlopibnaaDoor
