import Derived.Test.YtkfljominljliaaWb
namespace Go.Proofs.Ytkfljominljliaa
open Go.RowKit
attribute [local go_sem] Oper.semAt_some

set_option maxHeartbeats 1000000 in
theorem tregions_any (k : Nat) (w : World) (hk : k < 4) : Calls Try.prog 29 #[tn k] w fun e w' => e = .returned (rw4 ((4096 * k + 4097 : Nat) : Int) 17 16 8) ∧ Below w.heap.size w w' := by
  have ht := Lib.hid (fun w => twindow_any k w hk)
  have hs := Lib.hid (fun g w h => sum_any ((4096 * k + 4096 : Nat) : Int) 1 ((4096 * k + 4097 : Nat) : Int) g w h (by omega) ((wrapI _ (by omega) (by omega)).trans (by omega)))
  obtain ⟨y, hy⟩ : ∃ y : Nat, y = 4096 * k + 4096 := ⟨_, rfl⟩
  obtain ⟨x, hx⟩ : ∃ x : Nat, x = 4096 * k + 4097 := ⟨_, rfl⟩
  rw [← hy] at ht hs
  rw [← hx] at hs ⊢
  clear hx hy hk
  go_enter Try.func29, Try.ntmps29
  go_wp2_with fail
  refine (ht.out _).mono ?_
  rintro e w1 ⟨rfl, hb1⟩
  have hz1 := hb1.size
  simp at hz1
  have hR : Row w1 (w.heap.size + 1) 58 [.int .i64 0, .int .i64 0, .int .i64 0, .int .i64 0] := (Row.new_at _ _ _ (by simp)).below hb1
  go_wp2_with fail
  refine (hs.out _ _ (Row.new_at _ 3 [.int .i64 (y : Int), .int .i64 1] rfl)).mono ?_
  rintro e w2 ⟨rfl, rfl⟩
  obtain ⟨w3, hw3⟩ : ∃ w3, w3 = w1.alloc (.cells #[.int .i64 (y : Int), .int .i64 1] 3) := ⟨_, rfl⟩
  have hR3 : Row w3 (w.heap.size + 1) 58 [.int .i64 0, .int .i64 0, .int .i64 0, .int .i64 0] := by rw [hw3]; exact hR.below (below1 _ _)
  have hB : Below w.heap.size w w3 := by rw [hw3]; exact ((below2 _ _ _).trans (hb1.mono (by simp; omega))).alloc (by omega) _
  have c0 : w3.cell? ⟨w.heap.size + 1, 0, none⟩ = some (.int .i64 0) := hR3.cell 0
  have c1 : w3.cell? ⟨w.heap.size + 1, 1, none⟩ = some (.int .i64 0) := hR3.cell 1
  have c2 : w3.cell? ⟨w.heap.size + 1, 2, none⟩ = some (.int .i64 0) := hR3.cell 2
  have c3 : w3.cell? ⟨w.heap.size + 1, 3, none⟩ = some (.int .i64 0) := hR3.cell 3
  have f0 : w3.frozen? ⟨w.heap.size + 1, 0, none⟩ = false := hR3.frozen 0
  have f1 : w3.frozen? ⟨w.heap.size + 1, 1, none⟩ = false := hR3.frozen 1
  have f2 : w3.frozen? ⟨w.heap.size + 1, 2, none⟩ = false := hR3.frozen 2
  have f3 : w3.frozen? ⟨w.heap.size + 1, 3, none⟩ = false := hR3.frozen 3
  have HB := Lib.hid hB
  clear hR hb1 hs ht hR3 hB
  rw [hw3] at c0 c1 c2 c3 f0 f1 f2 f3
  go_wp2
  rw [← hw3] at c0 c1 c2 c3 f0 f1 f2 f3
  exact bodyPost_ret (v := rw4 x 17 16 8) (by rw [← hw3]; simp [results, Try.results29, go_sem, c0, c1, c2, c3]) rfl ⟨rfl, by rw [← hw3]; exact (((HB.out.setCell (by simp) _).setCell (by simp) _).setCell (by simp) _).setCell (by simp) _⟩
end Go.Proofs.Ytkfljominljliaa
