import Derived.Test.YtkfljominljliaaWc
namespace Go.Proofs.Ytkfljominljliaa
open Go.RowKit
attribute [local go_sem] Oper.semAt_some

set_option maxHeartbeats 2000000 in
theorem tgreat_any (k : Nat) (w : World) (hk : k < 4) : Calls Try.prog 31 #[tn k] w fun e w' => e = .returned (.agg #[.int .i64 ((4096 * k + 4352 : Nat) : Int), .int .i64 ((4096 * k + 8192 : Nat) : Int)]) ∧ Below w.heap.size w w' := by
  obtain ⟨w0, hw0⟩ : ∃ w0, w0 = (w.alloc (.cells #[.int .i64 (k : Int)] 55)).alloc (.cells #[.int .i64 0, .int .i64 0] 61) := ⟨_, rfl⟩
  have hz : w0.heap.size = w.heap.size + 2 := by rw [hw0]; simp
  have q0 : w0.cell? ⟨w.heap.size, 0, none⟩ = some (.int .i64 (k : Int)) := by rw [hw0]; exact (World.cell?_alloc_lt _ _ _ (by simp)).trans (cell_alloc_new _ _ _ _)
  have hR : Row w0 (w.heap.size + 1) 61 [.int .i64 0, .int .i64 0] := by rw [hw0]; exact Row.new_at _ _ _ (by simp)
  have hB : Below w.heap.size w w0 := by rw [hw0]; exact below2 _ _ _
  have HB := Lib.hid (And.intro hB hz)
  have HSA := Lib.hid (show ∀ V : World, Below w0.heap.size w0 V → V.cell? ⟨w.heap.size, 0, none⟩ = some (.int .i64 (k : Int)) from fun V h => (h.cell (p := ⟨w.heap.size, 0, none⟩) (by show w.heap.size < _; omega)).trans q0)
  have HSB := Lib.hid (show ∀ (V : World) (v v' : Value), Below w0.heap.size w0 V → ((V.setCell ⟨w.heap.size + 1, 0, none⟩ v).setCell ⟨w.heap.size + 1, 1, none⟩ v').cell? ⟨w.heap.size, 0, none⟩ = some (.int .i64 (k : Int)) from fun V v v' h => ((World.cell?_setCell_other _ _ _ _ (fun e => by injection e; omega)).trans (World.cell?_setCell_other _ _ _ _ (fun e => by injection e; omega))).trans ((h.cell (p := ⟨w.heap.size, 0, none⟩) (by show w.heap.size < _; omega)).trans q0))
  have HR := Lib.hid (show ∀ V : World, Below w0.heap.size w0 V → Row V (w.heap.size + 1) 61 [.int .i64 0, .int .i64 0] from fun V h => hR.below h)
  have hrefl := Lib.hid (Below.refl w0.heap.size w0)
  have ht := Lib.hid (fun w hb => beside (w0 := w0) (twindow_any k w hk) hb)
  have hs := Lib.hid (fun g w h => sum_any ((4096 * k + 4096 : Nat) : Int) 256 ((4096 * k + 4352 : Nat) : Int) g w h (by omega) ((wrapI _ (by omega) (by omega)).trans (by omega)))
  have hs2 := Lib.hid (fun g w h => sum_any ((4096 * k + 4096 : Nat) : Int) 4096 ((4096 * k + 8192 : Nat) : Int) g w h (by omega) ((wrapI _ (by omega) (by omega)).trans (by omega)))
  obtain ⟨y, hy⟩ : ∃ y : Nat, y = 4096 * k + 4096 := ⟨_, rfl⟩
  obtain ⟨x, hx⟩ : ∃ x : Nat, x = 4096 * k + 4352 := ⟨_, rfl⟩
  obtain ⟨z, hzz⟩ : ∃ z : Nat, z = 4096 * k + 8192 := ⟨_, rfl⟩
  rw [← hy] at ht hs hs2
  rw [← hx] at hs ⊢
  rw [← hzz] at hs2 ⊢
  clear hx hy hzz hk hB hz hR
  go_enter Try.func31, Try.ntmps31
  go_wp2_with fail
  rw [← hw0]
  clear hw0
  go_region_held3 (fun W => W.cell? ⟨w.heap.size, 0, none⟩ = some (.int .i64 (k : Int)))
    (first | exact HSA.out _ hrefl.out.drew | exact HSA.out _ (by assumption) | exact HSA.out _ (Below.alloc (by assumption) (Below.size (by assumption)) _) | exact HSB.out _ _ _ (Below.alloc (by assumption) (Below.size (by assumption)) _))
    (first | (go_at_call 25; first | (refine (ht.out _ hrefl.out.drew).mono ?_; rintro e w2 ⟨rfl, hb2⟩) | (refine (ht.out _ (hb2.alloc hb2.size _)).mono ?_; rintro e w4 ⟨rfl, hb4⟩)) | (go_at_call 34; first | (refine (hs.out _ _ (Row.new_at _ 3 [.int .i64 (y : Int), .int .i64 256] rfl)).mono ?_; rintro e w3 ⟨rfl, rfl⟩) | (refine (hs2.out _ _ (Row.new_at _ 3 [.int .i64 (y : Int), .int .i64 4096] rfl)).mono ?_; rintro e w3 ⟨rfl, rfl⟩; have hr := HR.out _ (hb4.alloc hb4.size (.cells #[.int .i64 (y : Int), .int .i64 4096] 3)); have c0 : _ = some (Value.int .i64 0) := hr.cell 0; have c1 : _ = some (Value.int .i64 0) := hr.cell 1; have f0 := hr.frozen 0; have f1 := hr.frozen 1; clear hr)))
  all_goals
    obtain ⟨W', hW'⟩ : ∃ W', W' = ((w4.alloc (.cells #[.int .i64 (y : Int), .int .i64 4096] 3)).setCell ⟨w.heap.size + 1, 0, none⟩ (.int .i64 (x : Int))).setCell ⟨w.heap.size + 1, 1, none⟩ (.int .i64 (z : Int)) := ⟨_, rfl⟩
    have hr := HR.out _ (hb4.alloc hb4.size (.cells #[.int .i64 (y : Int), .int .i64 4096] 3))
    have hR2 : Row W' (w.heap.size + 1) 61 [.int .i64 (x : Int), .int .i64 (z : Int)] := by rw [hW']; exact (hr.set 0 (.int .i64 (x : Int))).set 1 (.int .i64 (z : Int))
    have hB2 : Below w.heap.size w W' := by rw [hW']; exact ((HB.out.1.trans ((hb4.alloc hb4.size _).mono (by have := HB.out.2; omega))).setCell (by simp) _).setCell (by simp) _
    rw [← hW']
    have d0 : W'.cell? ⟨w.heap.size + 1, 0, none⟩ = _ := hR2.cell 0
    have d1 : W'.cell? ⟨w.heap.size + 1, 1, none⟩ = _ := hR2.cell 1
    clear hW' hR2 hr c0 c1 f0 f1
    go_wp2
    exact bodyPost_ret (v := .agg #[.int .i64 (x : Int), .int .i64 (z : Int)]) (by simp [results, Try.results31, go_sem, d0, d1]) rfl ⟨rfl, hB2⟩
end Go.Proofs.Ytkfljominljliaa
