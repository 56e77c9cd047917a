import Derived.Test.YtfmbfojlopibnaaDoorRead
namespace Go.Proofs.YtfmbfojlopibnaaDoor
open Go.RowKit Go.Shelf
attribute [local go_sem] Oper.semAt_some

/- THE TAG OF A HEAD. -/

set_option maxHeartbeats 1000000 in
theorem opening1_any (l : List UInt8) (A : Option Addr) (c K g : Nat) (w : World) (ht : Tab w) (hl : l.length = 16) (hr : Sees w w.heap.size A (byt l)) (hK : K < 18446744073709551616) (hg : w.cell? ⟨g, 0, none⟩ = some (.int .u64 (K : Int))) :
    Calls Tryd.prog 39 #[.slice A 16 c, .pointer (some ⟨g, 0, none⟩)] w fun e w' =>
      e = .returned (.agg #[.int .u64 (undoN K (leVal (l.take 8)) : Int), .int .u64 (undoN K (leVal (l.drop 8)) : Int)]) ∧ Below w.heap.size w w' := by
  have hx : leVal (l.take 8) < 18446744073709551616 := Nat.lt_of_lt_of_le (leVal_lt _) (by rw [List.length_take, hl]; decide)
  have hy : leVal (l.drop 8) < 18446744073709551616 := Nat.lt_of_lt_of_le (leVal_lt _) (by rw [List.length_drop, hl]; decide)
  obtain ⟨w0, hw0⟩ : ∃ w0, w0 = w.alloc (.cells #[.int .u64 0, .int .u64 0] 66) := ⟨_, rfl⟩
  have hB0 : Below w.heap.size w w0 := by rw [hw0]; exact below1 _ _
  have hr0 : Row w0 w.heap.size 66 [.int .u64 0, .int .u64 0] := by rw [hw0]; exact Row.new _ _ _
  have h1 := Lib.hid (read_any l A c w0 (ht.below hB0) hl ((hr.below hB0).more hB0.size))
  obtain ⟨a, ha⟩ : ∃ a, a = leVal (l.take 8) := ⟨_, rfl⟩
  obtain ⟨b, hb⟩ : ∃ b, b = leVal (l.drop 8) := ⟨_, rfl⟩
  rw [← ha] at h1 hx ⊢
  rw [← hb] at h1 hy ⊢
  have h2 := Lib.hid (fun W hg => each_any a b g K 42 (undoN K) W hx hy hg (enters_of Tryd.func42 (by kernel_rfl) rfl) (opening11_does g K hK))
  obtain ⟨x, hxx⟩ : ∃ x, x = undoN K a := ⟨_, rfl⟩
  obtain ⟨y, hyy⟩ : ∃ y, y = undoN K b := ⟨_, rfl⟩
  rw [← hxx, ← hyy] at h2 ⊢
  have hgl := lt_of_cell hg
  clear ha hb hxx hyy hx hy hK ht hl hr
  go_enter Tryd.func39, Tryd.ntmps39
  go_wp2_with fail
  rw [← hw0]
  clear hw0
  refine (h1.out).mono ?_
  rintro e w1 ⟨rfl, hb⟩
  have hB1 := below0 hB0 hb
  have hr1 := hr0.below hb
  have hg1 := (hB1.cell (p := ⟨g, 0, none⟩) hgl).trans hg
  clear hB0 hb hr0
  go_wp2_with fail
  refine (h2.out _ hg1).mono ?_
  rintro e w2 ⟨rfl, hb⟩
  have hB2 := below0 hB1 hb
  have hr2 := hr1.below hb
  clear hB1 hb hr1
  have d0 : w2.cell? ⟨w.heap.size, 0, none⟩ = some (.int .u64 0) := hr2.cell 0
  have d1 : w2.cell? ⟨w.heap.size, 1, none⟩ = some (.int .u64 0) := hr2.cell 1
  have f0 := hr2.frozen 0
  have f1 := hr2.frozen 1
  have hr3 := Lib.hid ((hr2.set 0 (.int .u64 (x : Int))).set 1 (.int .u64 (y : Int)))
  have hB3 := Lib.hid ((hB2.setCell (p := ⟨w.heap.size, 0, none⟩) (by simp) (.int .u64 (x : Int))).setCell (p := ⟨w.heap.size, 1, none⟩) (by simp) (.int .u64 (y : Int)))
  clear hr2 hB2 h1 h2
  go_wp2_with fail
  obtain ⟨W', hW'⟩ : ∃ W', W' = (w2.setCell ⟨w.heap.size, 0, none⟩ (.int .u64 (x : Int))).setCell ⟨w.heap.size, 1, none⟩ (.int .u64 (y : Int)) := ⟨_, rfl⟩
  rw [← hW'] at hr3 hB3 ⊢
  have e0 : W'.cell? ⟨w.heap.size, 0, none⟩ = some (.int .u64 (x : Int)) := hr3.out.cell 0
  have e1 : W'.cell? ⟨w.heap.size, 1, none⟩ = some (.int .u64 (y : Int)) := hr3.out.cell 1
  exact bodyPost_ret (v := .agg #[.int .u64 (x : Int), .int .u64 (y : Int)]) (by simp [results, Tryd.results39, go_sem, e0, e1]) rfl ⟨rfl, hB3.out⟩

/-- what a head's closure is: its key stands in a block of its own -/
def Opener (w : World) (K : Nat) (v : Value) (w' : World) : Prop := ∃ g, v = .func (.func 39) #[] #[.pointer (some ⟨g, 0, none⟩)] ∧ w.heap.size ≤ g ∧ w'.cell? ⟨g, 0, none⟩ = some (.int .u64 (K : Int))
theorem opening_any (a b g : Nat) (c : Nat) (w : World) (ha : a < 18446744073709551616) (hb : b < 18446744073709551616) (t : TypeId) (hr : Row w g t [.int .u64 (a : Int), .int .u64 (b : Int)]) :
    Calls Tryd.prog 27 #[.slice (some ⟨g, 0, none⟩) 2 c] w fun e w' => ∃ v, e = .returned v ∧ Opener w (foldN [a, b]) v w' ∧ Below w.heap.size w w' := by
  have h1 := Lib.hid (fold_any [a, b] (some ⟨g, 0, none⟩) c w (fun x hx => by simp at hx; omega) (by simp) hr.sees)
  obtain ⟨K, hK⟩ : ∃ K, K = foldN [a, b] := ⟨_, rfl⟩
  rw [← hK] at h1 ⊢
  clear hK ha hb hr
  go_enter Tryd.func27, Tryd.ntmps27
  go_wp2_with fail
  refine (h1.out).mono ?_
  rintro e w1 ⟨rfl, hb1⟩
  have hs := hb1.size
  go_wp2_with fail
  go_ret
  exact ⟨_, rfl, ⟨w1.heap.size, rfl, hs, cell_alloc_new _ _ _ _⟩, hb1.alloc hs _⟩

set_option maxHeartbeats 1000000 in
theorem open_arg (k at_ : Int) (A : Option Addr) (n c : Nat) (w : World) (hn : n ≠ 16) :
    Calls Tryd.prog 15 #[.int .u64 k, .int .u32 at_, .slice A n c] w fun e w' => e = .returned (.tuple #[.agg #[.int .i64 0, .int .i64 0, .int .u32 0], .int .i64 2]) ∧ Below w.heap.size w w' := by
  have e0 : ((n : Int) != 16) = true := by simp; omega
  obtain ⟨w0, hw0⟩ : ∃ w0, w0 = ((w.alloc (.cells #[.int .i64 0, .int .i64 0, .int .u32 0] 27)).alloc (.cells #[.int .u64 0, .int .u64 0] 66)).alloc (.cells #[.int .i64 0, .int .i64 0, .int .u32 0] 60) := ⟨_, rfl⟩
  have hB0 : Below w.heap.size w w0 := by rw [hw0]; exact below3 _ _ _ _
  have hr0 : Row w0 w.heap.size 27 [.int .i64 0, .int .i64 0, .int .u32 0] := by rw [hw0]; exact ((Row.new _ _ _).below (below1 _ _)).below (below1 _ _)
  have d0 : w0.cell? ⟨w.heap.size, 0, none⟩ = some (.int .i64 0) := hr0.cell 0
  have d1 : w0.cell? ⟨w.heap.size, 1, none⟩ = some (.int .i64 0) := hr0.cell 1
  have d2 : w0.cell? ⟨w.heap.size, 2, none⟩ = some (.int .u32 0) := hr0.cell 2
  have f0 := hr0.frozen 0
  have f1 := hr0.frozen 1
  have f2 := hr0.frozen 2
  have hr3 := Lib.hid (((hr0.set 0 (.int .i64 0)).set 1 (.int .i64 0)).set 2 (.int .u32 0))
  have hB3 := Lib.hid (((hB0.setCell (p := ⟨w.heap.size, 0, none⟩) (by simp) (.int .i64 0)).setCell (p := ⟨w.heap.size, 1, none⟩) (by simp) (.int .i64 0)).setCell (p := ⟨w.heap.size, 2, none⟩) (by simp) (.int .u32 0))
  clear hn hr0 hB0
  go_enter Tryd.func15, Tryd.ntmps15
  go_wp2_with fail
  refine wp_scope_jump 1 fun R hR hJm => ?_
  go_wp2_with fail
  rw [← hw0]
  clear hw0
  refine wp_goto (hJm.out _ _ _ _ _ rfl ?_)
  go_wp2_with fail
  refine hR.out _ _ _ _ (by simp) ?_
  obtain ⟨W', hW'⟩ : ∃ W', W' = ((w0.setCell ⟨w.heap.size, 0, none⟩ (.int .i64 0)).setCell ⟨w.heap.size, 1, none⟩ (.int .i64 0)).setCell ⟨w.heap.size, 2, none⟩ (.int .u32 0) := ⟨_, rfl⟩
  rw [← hW'] at hr3 hB3 ⊢
  have e0 : W'.cell? ⟨w.heap.size, 0, none⟩ = some (.int .i64 0) := hr3.out.cell 0
  have e1 : W'.cell? ⟨w.heap.size, 1, none⟩ = some (.int .i64 0) := hr3.out.cell 1
  have e2 : W'.cell? ⟨w.heap.size, 2, none⟩ = some (.int .u32 0) := hr3.out.cell 2
  exact bodyPost_ret (v := .tuple #[.agg #[.int .i64 0, .int .i64 0, .int .u32 0], .int .i64 2]) (by simp [results, Tryd.results15, go_sem, e0, e1, e2]) rfl ⟨rfl, hB3.out⟩
end Go.Proofs.YtfmbfojlopibnaaDoor
