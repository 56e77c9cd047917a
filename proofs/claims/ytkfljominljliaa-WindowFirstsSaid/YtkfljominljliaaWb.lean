import Derived.Test.YtkfljominljliaaWa
namespace Go.Proofs.Ytkfljominljliaa
open Go.RowKit
attribute [local go_sem] Oper.semAt_some

set_option maxHeartbeats 1000000 in
theorem in_any (n f s p r m x : Int) (w : World) (hf : -9223372036854775808 ≤ f ∧ f ≤ 9223372036854775807) (hm : IntKind.i64.wrap (n * s) = m) (hx : IntKind.i64.wrap (f + m) = x) :
    Calls Try.prog 28 #[.int .i64 n, rw4 f s p r] w fun e w' => e = .returned (.int .i64 x) ∧ Below w.heap.size w w' := by
  have hs := Lib.hid (fun g w h => sum_any f m x g w h hf hx)
  clear hf hx
  go_enter Try.func28, Try.ntmps28
  go_wp2_with fail
  refine (hs.out _ _ (Row.new_at _ 3 [.int .i64 f, .int .i64 m] (by simp))).mono ?_
  rintro e w1 ⟨rfl, rfl⟩
  go_wp2
  go_ret
  exact ⟨rfl, below2 _ _ _⟩
theorem windows_any (w : World) : Calls Try.prog 37 #[] w fun e w' => e = .returned (rw4 4096 4096 4096 4) ∧ Below w.heap.size w w' := by
  go_enter Try.func37, Try.ntmps37
  go_wp2
  exact bodyPost_ret (v := rw4 4096 4096 4096 4) (by simp [results, Try.results37, go_sem]) rfl ⟨rfl, below1 _ _⟩
theorem books_any (w : World) : Calls Try.prog 38 #[] w fun e w' => e = .returned (rw4 1 64 48 4) ∧ Below w.heap.size w w' := by
  go_enter Try.func38, Try.ntmps38
  go_wp2
  exact bodyPost_ret (v := rw4 1 64 48 4) (by simp [results, Try.results38, go_sem]) rfl ⟨rfl, below1 _ _⟩
/-- a contract of a call beside what lies in a world -/
theorem beside {f : FuncId} {args : Array Value} {w0 W : World} {v : Value} (h : Calls Try.prog f args W fun e w' => e = .returned v ∧ Below W.heap.size W w') (hb : Below w0.heap.size w0 W) :
    Calls Try.prog f args W fun e w' => e = .returned v ∧ Below w0.heap.size w0 w' := h.mono fun _ _ hp => ⟨hp.1, hb.trans (hp.2.mono hb.size)⟩

theorem there_any (n : Int) (w : World) : Calls Try.prog 36 #[tn n] w fun e w' => e = .returned (.bool (isB n 4)) ∧ Below w.heap.size w w' := by
  have hb := Lib.hid (fun w => below_any n 4 w)
  obtain ⟨c, hc⟩ : ∃ c, isB n 4 = c := ⟨_, rfl⟩
  rw [hc] at hb ⊢
  go_enter Try.func36, Try.ntmps36
  go_wp2_with fail
  refine (hb.out _).mono ?_
  rintro e w1 ⟨rfl, rfl⟩
  go_wp2
  go_ret
  exact ⟨rfl, below1 _ _⟩

set_option maxHeartbeats 1000000 in
theorem twindow_any (k : Nat) (w : World) (hk : k < 4) : Calls Try.prog 25 #[tn k] w fun e w' => e = .returned (.int .i64 ((4096 * k + 4096 : Nat) : Int)) ∧ Below w.heap.size w w' := by
  obtain ⟨w0, hw0⟩ : ∃ w0, w0 = w.alloc (.cells #[.int .i64 (k : Int)] 55) := ⟨_, rfl⟩
  have q0 : w0.cell? ⟨w.heap.size, 0, none⟩ = some (.int .i64 (k : Int)) := by rw [hw0]; exact cell_alloc_new _ _ _ _
  have hB : Below w.heap.size w w0 := by rw [hw0]; exact below1 _ _
  have hz : w.heap.size < w0.heap.size := by rw [hw0]; simp
  have HB := Lib.hid (And.intro hB hz)
  have HSA := Lib.hid (show ∀ V : World, Below w0.heap.size w0 V → V.cell? ⟨w.heap.size, 0, none⟩ = some (.int .i64 (k : Int)) ∧ Below w0.heap.size w0 V from fun V h => ⟨(h.cell (p := ⟨w.heap.size, 0, none⟩) hz).trans q0, h⟩)
  have hrefl := Lib.hid (Below.refl w0.heap.size w0)
  have hin := Lib.hid (fun w hb => beside (w0 := w0) (in_any (k : Int) 4096 4096 4096 4 ((4096 * k : Nat) : Int) ((4096 * k + 4096 : Nat) : Int) w (by omega) ((wrapI _ (by omega) (by omega)).trans (by omega)) ((wrapI _ (by omega) (by omega)).trans (by omega))) hb)
  have hw := Lib.hid (fun w hb => beside (w0 := w0) (windows_any w) hb)
  obtain ⟨x, hx⟩ : ∃ x, x = 4096 * k + 4096 := ⟨_, rfl⟩
  rw [← hx] at hin ⊢
  clear hx hk hB hz
  go_enter Try.func25, Try.ntmps25
  go_wp2_with fail
  rw [← hw0]
  clear hw0
  go_region_held3 (fun W => W.cell? ⟨w.heap.size, 0, none⟩ = some (.int .i64 (k : Int)) ∧ Below w0.heap.size w0 W)
    (first | exact HSA.out _ hrefl.out.drew | exact HSA.out _ (by assumption) | exact HSA.out _ (Below.drew (by assumption)) | (go_split_ands; exact HSA.out _ (by assumption)))
    (first | (go_at_call 37; refine (hw.out _ (by go_split_ands; assumption)).mono ?_; rintro e w2 ⟨rfl, hb2⟩) | (go_at_call 28; refine (hin.out _ (by go_split_ands; assumption)).mono ?_; rintro e w3 ⟨rfl, hb3⟩))
  all_goals
    go_wp2
    go_ret
    exact ⟨rfl, HB.out.1.trans (hb3.mono HB.out.1.size)⟩
set_option maxHeartbeats 1000000 in
theorem tbook_any (k : Nat) (w : World) (hk : k < 4) : Calls Try.prog 32 #[tn k] w fun e w' => e = .returned (.int .i64 ((64 * k + 1 : Nat) : Int)) ∧ Below w.heap.size w w' := by
  obtain ⟨w0, hw0⟩ : ∃ w0, w0 = w.alloc (.cells #[.int .i64 (k : Int)] 55) := ⟨_, rfl⟩
  have q0 : w0.cell? ⟨w.heap.size, 0, none⟩ = some (.int .i64 (k : Int)) := by rw [hw0]; exact cell_alloc_new _ _ _ _
  have hB : Below w.heap.size w w0 := by rw [hw0]; exact below1 _ _
  have hz : w.heap.size < w0.heap.size := by rw [hw0]; simp
  have HB := Lib.hid (And.intro hB hz)
  have HSA := Lib.hid (show ∀ V : World, Below w0.heap.size w0 V → V.cell? ⟨w.heap.size, 0, none⟩ = some (.int .i64 (k : Int)) ∧ Below w0.heap.size w0 V from fun V h => ⟨(h.cell (p := ⟨w.heap.size, 0, none⟩) hz).trans q0, h⟩)
  have hrefl := Lib.hid (Below.refl w0.heap.size w0)
  have hin := Lib.hid (fun w hb => beside (w0 := w0) (in_any (k : Int) 1 64 48 4 ((64 * k : Nat) : Int) ((64 * k + 1 : Nat) : Int) w (by omega) ((wrapI _ (by omega) (by omega)).trans (by omega)) ((wrapI _ (by omega) (by omega)).trans (by omega))) hb)
  have hw := Lib.hid (fun w hb => beside (w0 := w0) (books_any w) hb)
  obtain ⟨x, hx⟩ : ∃ x, x = 64 * k + 1 := ⟨_, rfl⟩
  rw [← hx] at hin ⊢
  clear hx hk hB hz
  go_enter Try.func32, Try.ntmps32
  go_wp2_with fail
  rw [← hw0]
  clear hw0
  go_region_held3 (fun W => W.cell? ⟨w.heap.size, 0, none⟩ = some (.int .i64 (k : Int)) ∧ Below w0.heap.size w0 W)
    (first | exact HSA.out _ hrefl.out.drew | exact HSA.out _ (by assumption) | exact HSA.out _ (Below.drew (by assumption)) | (go_split_ands; exact HSA.out _ (by assumption)))
    (first | (go_at_call 38; refine (hw.out _ (by go_split_ands; assumption)).mono ?_; rintro e w2 ⟨rfl, hb2⟩) | (go_at_call 28; refine (hin.out _ (by go_split_ands; assumption)).mono ?_; rintro e w3 ⟨rfl, hb3⟩))
  all_goals
    go_wp2
    go_ret
    exact ⟨rfl, HB.out.1.trans (hb3.mono HB.out.1.size)⟩
end Go.Proofs.Ytkfljominljliaa
