import Derived.Test.YtkfljominljliaaWe
namespace Go.Proofs.Ytkfljominljliaa
open Go.RowKit
attribute [local go_sem] Oper.semAt_some

theorem base_no (n : Int) (w : World) (hk : isB n 4 = false) : Calls Try.prog 8 #[.int .i64 n] w fun e w' => e = .returned (.tuple #[.int .i64 0, .int .i64 2]) ∧ Below w.heap.size w w' := by
  have hg := Lib.hid (fun g => told_no n g #[] w hk)
  clear hk
  go_enter Try.func8, Try.ntmps8
  go_wp2_with fail
  refine (hg.out _).mono ?_
  rintro e w1 ⟨rfl, hb1⟩
  go_wp2
  go_ret2
  exact ⟨rfl, hb1⟩
theorem book_no (n : Int) (w : World) (hk : isB n 4 = false) : Calls Try.prog 11 #[.int .i64 n] w fun e w' => e = .returned (.tuple #[.int .i64 0, .int .i64 2]) ∧ Below w.heap.size w w' := by
  have hg := Lib.hid (fun g => told_no n g #[] w hk)
  clear hk
  go_enter Try.func11, Try.ntmps11
  go_wp2_with fail
  refine (hg.out _).mono ?_
  rintro e w1 ⟨rfl, hb1⟩
  go_wp2
  go_ret2
  exact ⟨rfl, hb1⟩
theorem base_yes (k : Nat) (w : World) (hk : k < 4) : Calls Try.prog 8 #[.int .i64 (k : Int)] w fun e w' => e = .returned (.tuple #[.int .i64 ((4096 * k + 4096 : Nat) : Int), .int .i64 0]) ∧ Below w.heap.size w w' := by
  have hg := Lib.hid (told_yes k 25 #[] ((4096 * k + 4096 : Nat) : Int) w hk (enters_of Try.func25 (by kernel_rfl) rfl) (fun W _ => twindow_any k W hk))
  obtain ⟨x, hx⟩ : ∃ x, x = 4096 * k + 4096 := ⟨_, rfl⟩
  rw [← hx] at hg ⊢
  clear hk hx
  go_enter Try.func8, Try.ntmps8
  go_wp2_with fail
  refine (hg.out).mono ?_
  rintro e w1 ⟨rfl, hb1⟩
  go_wp2
  go_ret2
  exact ⟨rfl, hb1⟩
theorem book_yes (k : Nat) (w : World) (hk : k < 4) : Calls Try.prog 11 #[.int .i64 (k : Int)] w fun e w' => e = .returned (.tuple #[.int .i64 ((64 * k + 1 : Nat) : Int), .int .i64 0]) ∧ Below w.heap.size w w' := by
  have hg := Lib.hid (told_yes k 32 #[] ((64 * k + 1 : Nat) : Int) w hk (enters_of Try.func32 (by kernel_rfl) rfl) (fun W _ => tbook_any k W hk))
  obtain ⟨x, hx⟩ : ∃ x, x = 64 * k + 1 := ⟨_, rfl⟩
  rw [← hx] at hg ⊢
  clear hk hx
  go_enter Try.func11, Try.ntmps11
  go_wp2_with fail
  refine (hg.out).mono ?_
  rintro e w1 ⟨rfl, hb1⟩
  go_wp2
  go_ret2
  exact ⟨rfl, hb1⟩

set_option maxHeartbeats 1000000 in
theorem region1_any (k c b : Nat) (w : World) (hk : k < 4) (hc : c < 8) (hb : w.cell? ⟨b, 0, none⟩ = some (.int .i64 (c : Int))) :
    Calls Try.prog 27 #[tn k, .pointer (some ⟨b, 0, none⟩)] w fun e w' => e = .returned (.int .i64 ((4096 * k + 4097 + 17 * c : Nat) : Int)) ∧ Below w.heap.size w w' := by
  have hbl := lt_of_cell hb
  simp only at hbl
  obtain ⟨w0, hw0⟩ : ∃ w0, w0 = w.alloc (.cells #[.int .i64 (k : Int)] 55) := ⟨_, rfl⟩
  have q0 : w0.cell? ⟨w.heap.size, 0, none⟩ = some (.int .i64 (k : Int)) := by rw [hw0]; exact cell_alloc_new _ _ _ _
  have hB : Below w.heap.size w w0 := by rw [hw0]; exact below1 _ _
  have q1 : w0.cell? ⟨b, 0, none⟩ = some (.int .i64 (c : Int)) := (hB.cell (p := ⟨b, 0, none⟩) hbl).trans hb
  have hz : w.heap.size < w0.heap.size := by rw [hw0]; simp
  have HB := Lib.hid (And.intro hB hz)
  have HSA := Lib.hid (show ∀ V : World, Below w0.heap.size w0 V → V.cell? ⟨b, 0, none⟩ = some (.int .i64 (c : Int)) ∧ V.cell? ⟨w.heap.size, 0, none⟩ = some (.int .i64 (k : Int)) ∧ Below w0.heap.size w0 V from fun V h => ⟨(h.cell (p := ⟨b, 0, none⟩) (by show b < _; omega)).trans q1, (h.cell (p := ⟨w.heap.size, 0, none⟩) hz).trans q0, h⟩)
  have hrefl := Lib.hid (Below.refl w0.heap.size w0)
  have hin := Lib.hid (fun w hb => beside (w0 := w0) (in_any (c : Int) ((4096 * k + 4097 : Nat) : Int) 17 16 8 ((17 * c : Nat) : Int) ((4096 * k + 4097 + 17 * c : Nat) : Int) w (by omega) ((wrapI _ (by omega) (by omega)).trans (by omega)) ((wrapI _ (by omega) (by omega)).trans (by omega))) hb)
  have hr := Lib.hid (fun w hb => beside (w0 := w0) (tregions_any k w hk) hb)
  obtain ⟨x, hx⟩ : ∃ x, x = 4096 * k + 4097 + 17 * c := ⟨_, rfl⟩
  obtain ⟨y, hy⟩ : ∃ y, y = 4096 * k + 4097 := ⟨_, rfl⟩
  rw [← hx] at hin ⊢
  rw [← hy] at hin hr
  clear hx hy hk hc hB hz hb hbl
  go_enter Try.func27, Try.ntmps27
  go_wp2_with fail
  rw [← hw0]
  clear hw0
  go_region_held3 (fun W => W.cell? ⟨b, 0, none⟩ = some (.int .i64 (c : Int)) ∧ W.cell? ⟨w.heap.size, 0, none⟩ = some (.int .i64 (k : Int)) ∧ Below w0.heap.size w0 W)
    (first | exact HSA.out _ hrefl.out.drew | exact HSA.out _ (by assumption) | exact HSA.out _ (Below.drew (by assumption)) | (go_split_ands; exact HSA.out _ (by assumption)))
    (first | (go_at_call 29; refine (hr.out _ (by go_split_ands; assumption)).mono ?_; rintro e w2 ⟨rfl, hb2⟩) | (go_at_call 28; refine (hin.out _ (by go_split_ands; assumption)).mono ?_; rintro e w3 ⟨rfl, hb3⟩))
  all_goals
    go_wp2
    go_ret
    exact ⟨rfl, HB.out.1.trans (hb3.mono HB.out.1.size)⟩

theorem region_noc (n m : Int) (w : World) (hm : isB m 8 = false) : Calls Try.prog 9 #[.int .i64 n, .int .i64 m] w fun e w' => e = .returned (.tuple #[.int .i64 0, .int .i64 2]) ∧ Below w.heap.size w w' := by
  have hb := Lib.hid (fun w => below_any m 8 w)
  rw [hm] at hb
  clear hm
  go_enter Try.func9, Try.ntmps9
  go_wp2_with fail
  refine wp_scope_jump 1 fun R hR hG => ?_
  go_wp2_with fail
  refine (hb.out _).mono ?_
  rintro e w1 ⟨rfl, rfl⟩
  go_wp2_with fail
  refine wp_goto (hG.out _ _ _ _ _ rfl ?_)
  go_wp2
  refine hR.out _ _ _ _ (by simp) ?_
  go_ret2
  exact ⟨rfl, below1 _ _⟩
theorem region_nos (n : Int) (c : Nat) (w : World) (hc : c < 8) (hn : isB n 4 = false) : Calls Try.prog 9 #[.int .i64 n, .int .i64 (c : Int)] w fun e w' => e = .returned (.tuple #[.int .i64 0, .int .i64 2]) ∧ Below w.heap.size w w' := by
  have hb := Lib.hid (fun w => below_any (c : Int) 8 w)
  rw [show ((8 : Int)) = ((8 : Nat) : Int) from rfl, isB_yes hc] at hb
  have hg := Lib.hid (fun g lb w => told_no n g lb w hn)
  clear hc hn
  go_enter Try.func9, Try.ntmps9
  go_wp2_with fail
  refine wp_scope_jump 1 fun R hR hG => ?_
  go_wp2_with fail
  refine (hb.out _).mono ?_
  rintro e w1 ⟨rfl, rfl⟩
  go_wp2_with fail
  refine (hg.out _ _ _).mono ?_
  rintro e w1 ⟨rfl, hb1⟩
  go_wp2
  refine hR.out _ _ _ _ (by simp) ?_
  go_ret2
  exact ⟨rfl, (below1 _ _).trans (hb1.mono (by simp))⟩
theorem region_yes (k c : Nat) (w : World) (hk : k < 4) (hc : c < 8) : Calls Try.prog 9 #[.int .i64 (k : Int), .int .i64 (c : Int)] w fun e w' => e = .returned (.tuple #[.int .i64 ((4096 * k + 4097 + 17 * c : Nat) : Int), .int .i64 0]) ∧ Below w.heap.size w w' := by
  have hb := Lib.hid (fun w => below_any (c : Int) 8 w)
  rw [show ((8 : Int)) = ((8 : Nat) : Int) from rfl, isB_yes hc] at hb
  obtain ⟨w0, hw0⟩ : ∃ w0, w0 = w.alloc (.cells #[.int .i64 (c : Int)] 53) := ⟨_, rfl⟩
  have q0 : w0.cell? ⟨w.heap.size, 0, none⟩ = some (.int .i64 (c : Int)) := by rw [hw0]; exact cell_alloc_new _ _ _ _
  have hz : w.heap.size < w0.heap.size := by rw [hw0]; simp
  have hB : Below w.heap.size w w0 := by rw [hw0]; exact below1 _ _
  have hg := Lib.hid (told_yes k 27 #[.pointer (some ⟨w.heap.size, 0, none⟩)] ((4096 * k + 4097 + 17 * c : Nat) : Int) w0 hk (enters_of Try.func27 (by kernel_rfl) rfl)
    (fun W hW => region1_any k c w.heap.size W hk hc ((hW.cell (p := ⟨w.heap.size, 0, none⟩) hz).trans q0)))
  have HB := Lib.hid hB
  obtain ⟨x, hx⟩ : ∃ x, x = 4096 * k + 4097 + 17 * c := ⟨_, rfl⟩
  rw [← hx] at hg ⊢
  have c0 := q0
  rw [hw0] at c0
  clear hk hx hc hB hz q0
  go_enter Try.func9, Try.ntmps9
  go_wp2_with fail
  refine wp_scope_jump 1 fun R hR hG => ?_
  go_wp2_with fail
  refine (hb.out _).mono ?_
  rintro e w1 ⟨rfl, rfl⟩
  go_wp2_with fail
  rw [← hw0]
  refine (hg.out).mono ?_
  rintro e w1 ⟨rfl, hb1⟩
  go_wp2
  refine hR.out _ _ _ _ (by simp) ?_
  go_ret2
  exact ⟨rfl, HB.out.trans (hb1.mono HB.out.size)⟩
end Go.Proofs.Ytkfljominljliaa
