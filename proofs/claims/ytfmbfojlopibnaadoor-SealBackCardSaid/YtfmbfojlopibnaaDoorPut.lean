import Derived.Test.YtfmbfojlopibnaaDoorNum
namespace Go.Proofs.YtfmbfojlopibnaaDoor
open Go.RowKit

set_option maxHeartbeats 1000000 in
theorem put_arg (n k : Int) (w : World) (ht : Tab w) (hk : wid k = false) : Calls Tryd.prog 80 #[.int .u64 n, .int .i64 k] w fun e w' => e = .returned (.tuple #[.slice none 0 0, .int .i64 2]) ∧ Below w.heap.size w w' := by
  have Hk := Lib.hid hk
  clear hk
  go_enter Tryd.func80, Tryd.ntmps80
  go_wp2_with fail
  refine wp_scope_jump 1 fun R hR hJ => ?_
  go_wp2_with fail
  refine (numberOf_any _ _ _).mono ?_
  rintro e w1 ⟨rfl, hb1⟩
  have ht1 := ht.below hb1
  go_wp2_with fail
  refine (wknown_any _ _ (ht1.alloc _)).mono ?_
  rintro e w2 ⟨rfl, rfl⟩
  rw [Hk.out]
  go_wp2_with fail
  refine wp_goto (hJ.out _ _ _ _ _ rfl ?_)
  go_wp2
  refine hR.out _ _ _ _ (by simp) ?_
  go_ret2
  exact ⟨rfl, hb1.alloc hb1.size _⟩

set_option maxHeartbeats 1000000 in
theorem put_range (n k : Int) (w : World) (ht : Tab w) (hk : wid k = true) (hn : topOf k < n) : Calls Tryd.prog 80 #[.int .u64 n, .int .i64 k] w fun e w' => e = .returned (.tuple #[.slice none 0 0, .int .i64 4]) ∧ Below w.heap.size w w' := by
  have Hk := Lib.hid hk
  clear hk
  have Hn := Lib.hid (show decide (n ≤ topOf k) = false by simpa using hn)
  clear hn
  go_enter Tryd.func80, Tryd.ntmps80
  go_wp2_with fail
  refine wp_scope_jump 1 fun R hR hJ => ?_
  go_wp2_with fail
  refine (numberOf_any _ _ _).mono ?_
  rintro e w1 ⟨rfl, hb1⟩
  have ht1 := ht.below hb1
  go_wp2_with fail
  refine (wknown_any _ _ (ht1.alloc _)).mono ?_
  rintro e w2 ⟨rfl, rfl⟩
  rw [Hk.out]
  go_wp2_with fail
  refine (fits_any _ _ _ Hk.out).mono ?_
  rintro e w2 ⟨rfl, hb2⟩
  rw [Hn.out]
  go_wp2_with fail
  refine wp_goto (hJ.out _ _ _ _ _ rfl ?_)
  go_wp2
  refine hR.out _ _ _ _ (by simp) ?_
  go_ret2
  exact ⟨rfl, (hb1.alloc hb1.size _).trans (hb2.mono (by simp; have := hb1.size; omega))⟩

set_option maxHeartbeats 1000000 in
theorem put_ok (n k : Nat) (w : World) (ht : Tab w) (hk : wid k = true) (hn : (n : Int) ≤ topOf k) : Calls Tryd.prog 80 #[.int .u64 n, .int .i64 k] w fun e w' => ∃ g cap, e = .returned (.tuple #[.slice (some ⟨g, 0, none⟩) k cap, .int .i64 0]) ∧ w'.ownsRow w.heap.size 5 1 (.slice (some ⟨g, 0, none⟩) k cap) k (byt (le k n)) ∧ Below w.heap.size w w' := by
  have hk8 : k ≤ 8 := by have := wid_cases hk; omega
  have Hk := Lib.hid hk
  clear hk
  have Hn := Lib.hid (show decide ((n : Int) ≤ topOf k) = true by simpa using hn)
  clear hn
  go_enter Tryd.func80, Tryd.ntmps80
  go_wp2_with fail
  refine wp_scope_jump 1 fun R hR hJ => ?_
  go_wp2_with fail
  refine (numberOf_any _ _ _).mono ?_
  rintro e w1 ⟨rfl, hb1⟩
  have ht1 := ht.below hb1
  go_wp2_with fail
  refine (wknown_any _ _ (ht1.alloc _)).mono ?_
  rintro e w2 ⟨rfl, rfl⟩
  rw [Hk.out]
  go_wp2_with fail
  refine (fits_any _ _ _ Hk.out).mono ?_
  rintro e w2 ⟨rfl, hb2⟩
  rw [Hn.out]
  have hc0 : w2.cell? ⟨w1.heap.size, 0, none⟩ = some (.int .i64 k) := (hb2.cell (by simp)).trans (cell_alloc_new _ _ _ _)
  have hc1 : w2.cell? ⟨w1.heap.size, 1, none⟩ = some (.int .u64 n) := (hb2.cell (by simp)).trans (cell_alloc_new _ _ _ _)
  go_wp2_with fail
  refine (bytes_any _ _ _ hk8).mono ?_
  rintro e w3 ⟨g, cap, rfl, ho, hb3⟩
  go_wp2
  refine hR.out _ _ _ _ (by simp) ?_
  go_ret2
  have hs := hb1.size
  have hs2 := hb2.size
  simp at hs2
  refine ⟨g, cap, rfl, own_mono ho (by omega), (hb1.alloc hb1.size _).trans ((hb2.mono (by simp; omega)).trans (hb3.mono (by omega)))⟩
end Go.Proofs.YtfmbfojlopibnaaDoor
