import Derived.Test.YtiahmccchpmdgaaGreatDoorFAR
import Derived.Test.YtiahmccchpmdgaaGreatDoorFAV
namespace Go.Proofs.YtiahmccchpmdgaaGreatDoor.Me
open Go.RowKit Go.Shelf
attribute [local go_sem] Oper.semAt_some

/- A RECORD TOLD. -/
set_option maxRecDepth 100000 in
set_option maxHeartbeats 8000000 in
theorem told_small_no (p : Option Addr) (t f k m i : Int) (kn : Bool) (g c : Nat) (E : Int) (hE : E ≠ 0) (w : World) (HR : ∀ W, Below w.heap.size w W → Calls Tryz.prog 76 #[liV p t f k m kn i, .bool true] W fun e w' => e = .returned (.int .i64 E) ∧ Below W.heap.size W w') :
    Calls Tryz.prog 63 #[liV p t f k m kn i, .slice (some ⟨g, 0, none⟩) 4 c] w fun e w' => e = .returned (.tuple #[.agg #[.int .i64 0, .int .i64 0, .int .u32 0], .int .i64 E]) ∧ Below w.heap.size w w' := by
  obtain ⟨W1, hW1⟩ : ∃ W1, W1 = ((w.alloc (.cells #[.pointer p, .int .i64 t, .int .u32 f, .int .i64 k, .int .i64 m, .bool kn, .int .i64 i] 134)).alloc (.cells #[.int .i64 0, .int .i64 0, .int .u32 0] 41)).alloc (.cells #[.int .i64 0, .int .i64 0, .int .u32 0] 41) := ⟨_, rfl⟩
  have hb1 : Below w.heap.size w W1 := by rw [hW1]; exact (((Below.refl _ _).alloc (Nat.le_refl _) _).alloc (by simp) _).alloc (by simp; omega) _
  have hrl : Row W1 w.heap.size 134 (liC p t f k m kn i) := by rw [hW1]; exact ((Row.new w _ _).below (below1 _ _)).below (below1 _ _)
  have hrr : Row W1 (w.heap.size + 1) 41 [.int .i64 0, .int .i64 0, .int .u32 0] := by rw [hW1]; exact (Row.new_at _ _ _ (by simp)).below (below1 _ _)
  have hrx : Row W1 (w.heap.size + 1 + 1) 41 [.int .i64 0, .int .i64 0, .int .u32 0] := by rw [hW1]; exact Row.new_at _ _ _ (by simp)
  have l0 : World.cell? W1 ⟨w.heap.size, 0, none⟩ = _ := hrl.cell 0
  have l1 : World.cell? W1 ⟨w.heap.size, 1, none⟩ = _ := hrl.cell 1
  have l2 : World.cell? W1 ⟨w.heap.size, 2, none⟩ = _ := hrl.cell 2
  have l3 : World.cell? W1 ⟨w.heap.size, 3, none⟩ = _ := hrl.cell 3
  have l4 : World.cell? W1 ⟨w.heap.size, 4, none⟩ = _ := hrl.cell 4
  have l5 : World.cell? W1 ⟨w.heap.size, 5, none⟩ = _ := hrl.cell 5
  have l6 : World.cell? W1 ⟨w.heap.size, 6, none⟩ = _ := hrl.cell 6
  have HB1 := Lib.hid hb1
  have HRL := Lib.hid hrl
  have HRR := Lib.hid hrr
  have HRX := Lib.hid hrx
  have HW1 := Lib.hid hW1
  have HREF := Lib.hid (HR W1 hb1)
  have e0 : (E == 0) = false := by rw [beq_eq_false_iff_ne]; exact hE
  clear HR hb1 hrl hrr hrx hW1
  go_enter Tryz.func63, Tryz.ntmps63
  go_wp2_with fail
  refine wp_scope_jump 1 fun R hR hJm => ?_
  go_wp2_with fail
  rw [← HW1.out]
  refine HREF.out.mono ?_
  rintro e w2 ⟨rfl, hb2⟩
  have rr := HRR.out.below hb2
  have rx := HRX.out.below hb2
  have bb := below0 HB1.out hb2
  clear hb2 HREF HB1 HRL HRR HRX HW1 l0 l1 l2 l3 l4 l5 l6
  have x0 : World.cell? w2 ⟨w.heap.size + 1 + 1, 0, none⟩ = _ := rx.cell 0
  have x1 : World.cell? w2 ⟨w.heap.size + 1 + 1, 1, none⟩ = _ := rx.cell 1
  have x2 : World.cell? w2 ⟨w.heap.size + 1 + 1, 2, none⟩ = _ := rx.cell 2
  have y0 : World.cell? w2 ⟨w.heap.size + 1, 0, none⟩ = _ := rr.cell 0
  have y1 : World.cell? w2 ⟨w.heap.size + 1, 1, none⟩ = _ := rr.cell 1
  have y2 : World.cell? w2 ⟨w.heap.size + 1, 2, none⟩ = _ := rr.cell 2
  have g0 := rr.frozen 0
  have g1 := rr.frozen 1
  have g2 := rr.frozen 2
  have HRR9 := Lib.hid rr
  have HB9 := Lib.hid bb
  clear rr rx bb
  go_wp2_with fail
  refine wp_goto (hJm.out _ _ _ _ _ rfl ?_)
  go_wp2
  refine hR.out _ _ _ _ (by simp) ?_
  have R8 := row_set3 (.int .i64 0) (.int .i64 0) (.int .u32 0) HRR9.out
  have B8 := below_set3 (b := w.heap.size + 1) (.int .i64 0) (.int .i64 0) (.int .u32 0) HB9.out (by omega)
  clear x0 y0 g0 x1 y1 g1 x2 y2 g2
  have d0 : World.cell? _ ⟨w.heap.size + 1, 0, none⟩ = _ := R8.cell 0
  have d1 : World.cell? _ ⟨w.heap.size + 1, 1, none⟩ = _ := R8.cell 1
  have d2 : World.cell? _ ⟨w.heap.size + 1, 2, none⟩ = _ := R8.cell 2
  exact bodyPost_ret (v := .tuple #[.agg #[.int .i64 0, .int .i64 0, .int .u32 0], .int .i64 E]) (by simp [results, Tryz.results63, go_sem, d0, d1, d2]) rfl ⟨rfl, B8⟩
set_option maxRecDepth 100000 in
set_option maxHeartbeats 8000000 in
theorem told_small_bad (p : Option Addr) (t f k m i : Int) (kn : Bool) (g c : Nat) (a : Int) (tt : TypeId) (bs : List UInt8) (w : World) (hT : Tabs w) (hrow : Row w g tt (prtCells smallP)) (hc : 4 ≤ c) (hbs : bs.length = 8) (hrd : ¬ readL smallP (nvOf bs smallP)) (HR : ∀ W, Below w.heap.size w W → Calls Tryz.prog 76 #[liV p t f k m kn i, .bool true] W fun e w' => e = .returned (.int .i64 0) ∧ Below W.heap.size W w')
    (HAT : ∀ W, Calls Tryz.prog 43 #[roV f k m, .int .i64 i] W fun e w' => e = .returned (.int .u32 a) ∧ Below W.heap.size W w') (HPK : ∀ W, Below w.heap.size w W → Calls Tryz.prog 94 #[.pointer p, .int .u32 a, .int .i64 k] W (Vm.RdA W 0 bs)) :
    Calls Tryz.prog 63 #[liV p t f k m kn i, .slice (some ⟨g, 0, none⟩) 4 c] w fun e w' => e = .returned (.tuple #[.agg #[.int .i64 0, .int .i64 0, .int .u32 0], .int .i64 251]) ∧ Below w.heap.size w w' := by
  obtain ⟨W1, hW1⟩ : ∃ W1, W1 = ((w.alloc (.cells #[.pointer p, .int .i64 t, .int .u32 f, .int .i64 k, .int .i64 m, .bool kn, .int .i64 i] 134)).alloc (.cells #[.int .i64 0, .int .i64 0, .int .u32 0] 41)).alloc (.cells #[.int .i64 0, .int .i64 0, .int .u32 0] 41) := ⟨_, rfl⟩
  have hb1 : Below w.heap.size w W1 := by rw [hW1]; exact (((Below.refl _ _).alloc (Nat.le_refl _) _).alloc (by simp) _).alloc (by simp; omega) _
  have hrl : Row W1 w.heap.size 134 (liC p t f k m kn i) := by rw [hW1]; exact ((Row.new w _ _).below (below1 _ _)).below (below1 _ _)
  have hrr : Row W1 (w.heap.size + 1) 41 [.int .i64 0, .int .i64 0, .int .u32 0] := by rw [hW1]; exact (Row.new_at _ _ _ (by simp)).below (below1 _ _)
  have hrx : Row W1 (w.heap.size + 1 + 1) 41 [.int .i64 0, .int .i64 0, .int .u32 0] := by rw [hW1]; exact Row.new_at _ _ _ (by simp)
  have l0 : World.cell? W1 ⟨w.heap.size, 0, none⟩ = _ := hrl.cell 0
  have l1 : World.cell? W1 ⟨w.heap.size, 1, none⟩ = _ := hrl.cell 1
  have l2 : World.cell? W1 ⟨w.heap.size, 2, none⟩ = _ := hrl.cell 2
  have l3 : World.cell? W1 ⟨w.heap.size, 3, none⟩ = _ := hrl.cell 3
  have l4 : World.cell? W1 ⟨w.heap.size, 4, none⟩ = _ := hrl.cell 4
  have l5 : World.cell? W1 ⟨w.heap.size, 5, none⟩ = _ := hrl.cell 5
  have l6 : World.cell? W1 ⟨w.heap.size, 6, none⟩ = _ := hrl.cell 6
  have HB1 := Lib.hid hb1
  have HRL := Lib.hid hrl
  have HRR := Lib.hid hrr
  have HRX := Lib.hid hrx
  have HW1 := Lib.hid hW1
  have HREF := Lib.hid (HR W1 hb1)
  have HATT := Lib.hid HAT
  have HPKK := Lib.hid HPK
  have HUN := Lib.hid (fun (W : World) (gb cb : Nat) (hW : Below w.heap.size w W) (hs : Sees W W.heap.size (some ⟨gb, 0, none⟩) (byt bs)) (hcb : 8 ≤ cb) => (unpacked_small bs gb cb g c tt W (hT.below hW) hs hbs hcb (hrow.below hW) hc).mono fun e w' ⟨e1, e2⟩ => (show e = Ending.returned (.tuple #[.agg #[.int .i64 0, .int .i64 0, .int .u32 0], .bool false]) ∧ Below W.heap.size W w' from ⟨by
    rcases e1 with ⟨h, h2⟩ | ⟨h, h2⟩
    · exact h
    · exact absurd h2 hrd, e2⟩))
  have HSP := Lib.hid (fun W (hw : Below W1.heap.size W1 W) => (show W.cell? ⟨w.heap.size, 0, none⟩ = some (.pointer p) ∧ W.cell? ⟨w.heap.size, 1, none⟩ = some (.int .i64 t) ∧ W.cell? ⟨w.heap.size, 2, none⟩ = some (.int .u32 f) ∧ W.cell? ⟨w.heap.size, 3, none⟩ = some (.int .i64 k) ∧ W.cell? ⟨w.heap.size, 4, none⟩ = some (.int .i64 m) ∧ W.cell? ⟨w.heap.size, 5, none⟩ = some (.bool kn) ∧ W.cell? ⟨w.heap.size, 6, none⟩ = some (.int .i64 i) from ⟨(hrl.below hw).cell 0, (hrl.below hw).cell 1, (hrl.below hw).cell 2, (hrl.below hw).cell 3, (hrl.below hw).cell 4, (hrl.below hw).cell 5, (hrl.below hw).cell 6⟩))
  have HBS := Lib.hid hbs
  clear HR HAT HPK hb1 hrl hrr hrx hW1 hT hrow hc hbs hrd
  go_enter Tryz.func63, Tryz.ntmps63
  go_wp2_with fail
  refine wp_scope_jump 1 fun R hR hJm => ?_
  go_wp2_with fail
  rw [← HW1.out]
  refine HREF.out.mono ?_
  rintro e w2 ⟨rfl, hb2⟩
  have HB2 := Lib.hid hb2
  have hd2 : Below W1.heap.size W1 w2.drew := hb2.drew
  clear hb2 HREF HRL HW1 l0 l1 l2 l3 l4 l5 l6
  go_wp2_with fail
  refine wp_region_noPanic ?_
  refine wp_region_held_drew (S := fun W => W.cell? ⟨w.heap.size, 0, none⟩ = some (.pointer p) ∧ W.cell? ⟨w.heap.size, 1, none⟩ = some (.int .i64 t) ∧ W.cell? ⟨w.heap.size, 2, none⟩ = some (.int .u32 f) ∧ W.cell? ⟨w.heap.size, 3, none⟩ = some (.int .i64 k) ∧ W.cell? ⟨w.heap.size, 4, none⟩ = some (.int .i64 m) ∧ W.cell? ⟨w.heap.size, 5, none⟩ = some (.bool kn) ∧ W.cell? ⟨w.heap.size, 6, none⟩ = some (.int .i64 i)) (by kernel_rfl) (HSP.out _ hd2) (fun hHeld => ?_)
  refine wpAnyH_take (i := 0) (v := ?_) rfl (by kernel_rfl) (by kernel_rfl) (by kernel_rfl) (fun _ _ _ h => h) (Or.inl ⟨by kernel_rfl, ?_⟩) hHeld ?_
  rotate_left
  focus (intro w hSw; (try dsimp only at hSw); go_simp; try with_reducible rfl)
  simp only [Act.put]
  refine wpAnyH_take (i := 1) (v := ?_) rfl (by kernel_rfl) (by kernel_rfl) (by kernel_rfl) (fun _ _ _ h => h) (Or.inl ⟨by kernel_rfl, ?_⟩) hHeld ?_
  rotate_left
  focus (intro w hSw; (try dsimp only at hSw); go_simp; try with_reducible rfl)
  simp only [Act.put]
  refine wpAnyH_take (i := 2) (v := ?_) rfl (by kernel_rfl) (by kernel_rfl) (by kernel_rfl) (fun _ _ _ h => h) (Or.inl ⟨by kernel_rfl, ?_⟩) hHeld ?_
  rotate_left
  focus (intro w hSw; (try dsimp only at hSw); go_simp; try with_reducible rfl)
  simp only [Act.put]
  refine wpAnyH_take (i := 3) (v := ?_) rfl (by kernel_rfl) (by kernel_rfl) (by kernel_rfl) (fun _ _ _ h => h) (Or.inl ⟨by kernel_rfl, ?_⟩) hHeld ?_
  rotate_left
  focus (intro w hSw; (try dsimp only at hSw); go_simp; try with_reducible rfl)
  simp only [Act.put]
  refine wpAnyH_take (i := 4) (v := ?_) rfl (by kernel_rfl) (by kernel_rfl) (by kernel_rfl) (fun _ _ _ h => h) (Or.inl ⟨by kernel_rfl, ?_⟩) hHeld ?_
  rotate_left
  focus (intro w hSw; (try dsimp only at hSw); go_simp; try with_reducible rfl)
  simp only [Act.put]
  refine wpAnyH_take (i := 5) (v := ?_) rfl (by kernel_rfl) (by kernel_rfl) (by kernel_rfl) (fun _ _ _ h => h) (Or.inl ⟨by kernel_rfl, ?_⟩) hHeld ?_
  rotate_left
  focus (intro w hSw; (try dsimp only at hSw); go_simp; try with_reducible rfl)
  simp only [Act.put]
  refine wpAnyH_take (i := 6) (v := ?_) rfl (by kernel_rfl) (by kernel_rfl) (by kernel_rfl) (fun _ _ _ h => h) (Or.inl ⟨by kernel_rfl, ?_⟩) hHeld ?_
  rotate_left
  focus (intro w hSw; (try dsimp only at hSw); go_simp; try with_reducible rfl)
  simp only [Act.put]
  refine wpAnyH_take (i := 8) (v := ?_) rfl (by kernel_rfl) (by kernel_rfl) (by kernel_rfl) (fun _ _ _ h => h) (Or.inl ⟨by kernel_rfl, ?_⟩) hHeld ?_
  rotate_left
  focus (intro w hSw; (try dsimp only at hSw); go_simp; try with_reducible rfl)
  simp only [Act.put]
  refine wpAnyH_take (i := 9) (v := ?_) rfl (by kernel_rfl) (by kernel_rfl) (by kernel_rfl) (fun _ _ _ h => h) (Or.inl ⟨by kernel_rfl, ?_⟩) hHeld ?_
  rotate_left
  focus (intro w hSw; (try dsimp only at hSw); go_simp; try with_reducible rfl)
  simp only [Act.put]
  refine wpAnyH_take (i := 10) (v := ?_) rfl (by kernel_rfl) (by kernel_rfl) (by kernel_rfl) (fun _ _ _ h => h) (Or.inl ⟨by kernel_rfl, ?_⟩) hHeld ?_
  rotate_left
  focus (intro w hSw; (try dsimp only at hSw); go_simp; try with_reducible rfl)
  simp only [Act.put]
  refine wpAnyH_ready (rs := [7]) (by kernel_rfl) (by simp) ?_
  refine AllReadyH.cons rfl (fun K hK => ?_) (AllReadyH.nil)
  go_simp
  refine (HATT.out _).mono ?_
  rintro e w3 ⟨rfl, hb3⟩
  have hd3 := below0 hd2 hb3
  refine hK.out _ _ (HSP.out _ hd3) (fun hHeld => ?_)
  clear hK K
  try simp only [Act.put]
  refine wpAnyH_ready (rs := [11]) (by kernel_rfl) (by simp) ?_
  refine AllReadyH.cons rfl (fun K hK => ?_) (AllReadyH.nil)
  go_simp
  refine (HPKK.out _ (below0 HB1.out hd3)).mono ?_
  rintro e w4 ⟨A, mm, cc, rfl, hmm, hown, hb4⟩
  have hd4 := below0 hd3 hb4
  have h8 : 0 < mm := by rw [hmm, HBS.out]; omega
  obtain ⟨gb, cb, hAA, _, _⟩ := hown.form h8
  injection hAA with hA1 hA2 hA3
  subst hA1 hA3
  have hcb := (own_cap hown).1
  rw [hmm, HBS.out] at hcb hown
  rw [HBS.out] at hmm
  subst hmm
  refine hK.out _ _ (HSP.out _ hd4) (fun hHeld => ?_)
  clear hK K
  try simp only [Act.put]
  refine wpAnyH_take (i := 12) (v := ?_) rfl (by kernel_rfl) (by kernel_rfl) (by kernel_rfl) (fun _ _ _ h => h) (Or.inl ⟨by kernel_rfl, ?_⟩) hHeld ?_
  rotate_left
  focus (intro w hSw; (try dsimp only at hSw); go_simp; try with_reducible rfl)
  simp only [Act.put]
  refine wpAnyH_take (i := 13) (v := ?_) rfl (by kernel_rfl) (by kernel_rfl) (by kernel_rfl) (fun _ _ _ h => h) (Or.inl ⟨by kernel_rfl, ?_⟩) hHeld ?_
  rotate_left
  focus (intro w hSw; (try dsimp only at hSw); go_simp; try with_reducible rfl)
  simp only [Act.put]
  refine wpAnyH_take (i := 14) (v := ?_) rfl (by kernel_rfl) (by kernel_rfl) (by kernel_rfl) (fun _ _ _ h => h) (Or.inl ⟨by kernel_rfl, ?_⟩) hHeld ?_
  rotate_left
  focus (intro w hSw; (try dsimp only at hSw); go_simp; try with_reducible rfl)
  simp only [Act.put]
  refine wpAnyH_ready (rs := [15]) (by kernel_rfl) (by simp) ?_
  refine AllReadyH.cons rfl (fun K hK => ?_) (AllReadyH.nil)
  go_simp
  refine hK.out _ _ (HSP.out _ hd4) (fun hHeld => ?_)
  clear hK K
  try simp only [Act.put]
  refine wpAnyH_done (by kernel_rfl) ?_ _
  have hBw4 := below0 HB1.out hd4
  have HU := Lib.hid (HUN.out w4 gb _ hBw4 ((Vm.sees_own hown)) hcb)
  refine NoPanic.normal ?_
  have HRR4 := Lib.hid (HRR.out.below hd4)
  have HRX4 := Lib.hid (HRX.out.below hd4)
  have HB4 := Lib.hid hBw4
  clear hown hd2 hd3 hd4 hb3 hb4 hBw4 HATT HPKK HUN HSP HRR HRX HB1 HB2 hHeld
  go_wp2_with fail
  refine HU.out.mono ?_
  rintro e w5 ⟨rfl, hb5⟩
  have HRR5 := Lib.hid (HRR4.out.below hb5)
  have hrx5 := HRX4.out.below hb5
  have HRX5 := Lib.hid hrx5
  have HB5 := Lib.hid (below0 HB4.out hb5)
  have x0 : World.cell? w5 ⟨w.heap.size + 1 + 1, 0, none⟩ = _ := hrx5.cell 0
  have x1 : World.cell? w5 ⟨w.heap.size + 1 + 1, 1, none⟩ = _ := hrx5.cell 1
  have x2 : World.cell? w5 ⟨w.heap.size + 1 + 1, 2, none⟩ = _ := hrx5.cell 2
  have g0 := hrx5.frozen 0
  have g1 := hrx5.frozen 1
  have g2 := hrx5.frozen 2
  have rx6 := row_set3 (.int .i64 0) (.int .i64 0) (.int .u32 0) hrx5
  have rr6 : Row (((w5.setCell ⟨w.heap.size + 1 + 1, 0, none⟩ (.int .i64 0)).setCell ⟨w.heap.size + 1 + 1, 1, none⟩ (.int .i64 0)).setCell ⟨w.heap.size + 1 + 1, 2, none⟩ (.int .u32 0)) (w.heap.size + 1) 41 [.int .i64 0, .int .i64 0, .int .u32 0] := HRR5.out.same ((heap_set (by omega)).trans ((heap_set (by omega)).trans ((heap_set (by omega)).trans rfl)))
  have hb6 := below_set3 (b := w.heap.size + 1 + 1) (.int .i64 0) (.int .i64 0) (.int .u32 0) HB5.out (by omega)
  have HX6 := Lib.hid rx6
  have HRR6 := Lib.hid rr6
  have HB6 := Lib.hid hb6
  have a0 : World.cell? _ ⟨w.heap.size + 1 + 1, 0, none⟩ = _ := rx6.cell 0
  have a1 : World.cell? _ ⟨w.heap.size + 1 + 1, 1, none⟩ = _ := rx6.cell 1
  have a2 : World.cell? _ ⟨w.heap.size + 1 + 1, 2, none⟩ = _ := rx6.cell 2
  have y0 : World.cell? _ ⟨w.heap.size + 1, 0, none⟩ = _ := rr6.cell 0
  have y1 : World.cell? _ ⟨w.heap.size + 1, 1, none⟩ = _ := rr6.cell 1
  have y2 : World.cell? _ ⟨w.heap.size + 1, 2, none⟩ = _ := rr6.cell 2
  have h0 := rr6.frozen 0
  have h1 := rr6.frozen 1
  have h2 := rr6.frozen 2
  clear rx6 rr6 hb6 hrx5 hb5 HU HRR4 HRX4 HB4 HRR5 HRX5 HB5
  go_wp2_with fail
  refine wp_goto (hJm.out _ _ _ _ _ rfl ?_)
  go_wp2
  refine hR.out _ _ _ _ (by simp) ?_
  have R8 := row_set3 (.int .i64 0) (.int .i64 0) (.int .u32 0) HRR6.out
  have B8 := below_set3 (b := w.heap.size + 1) (.int .i64 0) (.int .i64 0) (.int .u32 0) HB6.out (by omega)
  clear x0 y0 g0 h0 a0 x1 y1 g1 h1 a1 x2 y2 g2 h2 a2
  have d0 : World.cell? _ ⟨w.heap.size + 1, 0, none⟩ = _ := R8.cell 0
  have d1 : World.cell? _ ⟨w.heap.size + 1, 1, none⟩ = _ := R8.cell 1
  have d2 : World.cell? _ ⟨w.heap.size + 1, 2, none⟩ = _ := R8.cell 2
  exact bodyPost_ret (v := .tuple #[.agg #[.int .i64 0, .int .i64 0, .int .u32 0], .int .i64 251]) (by simp [results, Tryz.results63, go_sem, d0, d1, d2]) rfl ⟨rfl, B8⟩
set_option maxRecDepth 100000 in
set_option maxHeartbeats 8000000 in
theorem told_small_yes (p : Option Addr) (t f k m i : Int) (kn : Bool) (g c : Nat) (a : Int) (tt : TypeId) (bs : List UInt8) (w : World) (hT : Tabs w) (hrow : Row w g tt (prtCells smallP)) (hc : 4 ≤ c) (hbs : bs.length = 8) (hrd : readL smallP (nvOf bs smallP)) (HR : ∀ W, Below w.heap.size w W → Calls Tryz.prog 76 #[liV p t f k m kn i, .bool true] W fun e w' => e = .returned (.int .i64 0) ∧ Below W.heap.size W w')
    (HAT : ∀ W, Calls Tryz.prog 43 #[roV f k m, .int .i64 i] W fun e w' => e = .returned (.int .u32 a) ∧ Below W.heap.size W w') (HPK : ∀ W, Below w.heap.size w W → Calls Tryz.prog 94 #[.pointer p, .int .u32 a, .int .i64 k] W (Vm.RdA W 0 bs)) :
    Calls Tryz.prog 63 #[liV p t f k m kn i, .slice (some ⟨g, 0, none⟩) 4 c] w fun e w' => e = .returned (.tuple #[.agg (stRec (nvOf bs smallP) 4).toArray, .int .i64 0]) ∧ Below w.heap.size w w' := by
  obtain ⟨W1, hW1⟩ : ∃ W1, W1 = ((w.alloc (.cells #[.pointer p, .int .i64 t, .int .u32 f, .int .i64 k, .int .i64 m, .bool kn, .int .i64 i] 134)).alloc (.cells #[.int .i64 0, .int .i64 0, .int .u32 0] 41)).alloc (.cells #[.int .i64 0, .int .i64 0, .int .u32 0] 41) := ⟨_, rfl⟩
  have hb1 : Below w.heap.size w W1 := by rw [hW1]; exact (((Below.refl _ _).alloc (Nat.le_refl _) _).alloc (by simp) _).alloc (by simp; omega) _
  have hrl : Row W1 w.heap.size 134 (liC p t f k m kn i) := by rw [hW1]; exact ((Row.new w _ _).below (below1 _ _)).below (below1 _ _)
  have hrr : Row W1 (w.heap.size + 1) 41 [.int .i64 0, .int .i64 0, .int .u32 0] := by rw [hW1]; exact (Row.new_at _ _ _ (by simp)).below (below1 _ _)
  have hrx : Row W1 (w.heap.size + 1 + 1) 41 [.int .i64 0, .int .i64 0, .int .u32 0] := by rw [hW1]; exact Row.new_at _ _ _ (by simp)
  have l0 : World.cell? W1 ⟨w.heap.size, 0, none⟩ = _ := hrl.cell 0
  have l1 : World.cell? W1 ⟨w.heap.size, 1, none⟩ = _ := hrl.cell 1
  have l2 : World.cell? W1 ⟨w.heap.size, 2, none⟩ = _ := hrl.cell 2
  have l3 : World.cell? W1 ⟨w.heap.size, 3, none⟩ = _ := hrl.cell 3
  have l4 : World.cell? W1 ⟨w.heap.size, 4, none⟩ = _ := hrl.cell 4
  have l5 : World.cell? W1 ⟨w.heap.size, 5, none⟩ = _ := hrl.cell 5
  have l6 : World.cell? W1 ⟨w.heap.size, 6, none⟩ = _ := hrl.cell 6
  have HB1 := Lib.hid hb1
  have HRL := Lib.hid hrl
  have HRR := Lib.hid hrr
  have HRX := Lib.hid hrx
  have HW1 := Lib.hid hW1
  have HREF := Lib.hid (HR W1 hb1)
  have HATT := Lib.hid HAT
  have HPKK := Lib.hid HPK
  have HUN := Lib.hid (fun (W : World) (gb cb : Nat) (hW : Below w.heap.size w W) (hs : Sees W W.heap.size (some ⟨gb, 0, none⟩) (byt bs)) (hcb : 8 ≤ cb) => (unpacked_small bs gb cb g c tt W (hT.below hW) hs hbs hcb (hrow.below hW) hc).mono fun e w' ⟨e1, e2⟩ => (show e = Ending.returned (.tuple #[.agg (stRec (nvOf bs smallP) 4).toArray, .bool true]) ∧ Below W.heap.size W w' from ⟨by
    rcases e1 with ⟨h, h2⟩ | ⟨h, h2⟩
    · exact absurd hrd h2
    · exact h, e2⟩))
  have hcs : ∃ v0 v1 v2 : Int, stRec (nvOf bs smallP) 4 = [.int .i64 v0, .int .i64 v1, .int .u32 v2] := ⟨_, _, _, rfl⟩
  obtain ⟨v0, v1, v2, hcs⟩ := hcs
  rw [hcs] at HUN ⊢
  have HSP := Lib.hid (fun W (hw : Below W1.heap.size W1 W) => (show W.cell? ⟨w.heap.size, 0, none⟩ = some (.pointer p) ∧ W.cell? ⟨w.heap.size, 1, none⟩ = some (.int .i64 t) ∧ W.cell? ⟨w.heap.size, 2, none⟩ = some (.int .u32 f) ∧ W.cell? ⟨w.heap.size, 3, none⟩ = some (.int .i64 k) ∧ W.cell? ⟨w.heap.size, 4, none⟩ = some (.int .i64 m) ∧ W.cell? ⟨w.heap.size, 5, none⟩ = some (.bool kn) ∧ W.cell? ⟨w.heap.size, 6, none⟩ = some (.int .i64 i) from ⟨(hrl.below hw).cell 0, (hrl.below hw).cell 1, (hrl.below hw).cell 2, (hrl.below hw).cell 3, (hrl.below hw).cell 4, (hrl.below hw).cell 5, (hrl.below hw).cell 6⟩))
  have HBS := Lib.hid hbs
  clear HR HAT HPK hb1 hrl hrr hrx hW1 hT hrow hc hbs hrd hcs
  go_enter Tryz.func63, Tryz.ntmps63
  go_wp2_with fail
  refine wp_scope_jump 1 fun R hR hJm => ?_
  go_wp2_with fail
  rw [← HW1.out]
  refine HREF.out.mono ?_
  rintro e w2 ⟨rfl, hb2⟩
  have HB2 := Lib.hid hb2
  have hd2 : Below W1.heap.size W1 w2.drew := hb2.drew
  clear hb2 HREF HRL HW1 l0 l1 l2 l3 l4 l5 l6
  go_wp2_with fail
  refine wp_region_noPanic ?_
  refine wp_region_held_drew (S := fun W => W.cell? ⟨w.heap.size, 0, none⟩ = some (.pointer p) ∧ W.cell? ⟨w.heap.size, 1, none⟩ = some (.int .i64 t) ∧ W.cell? ⟨w.heap.size, 2, none⟩ = some (.int .u32 f) ∧ W.cell? ⟨w.heap.size, 3, none⟩ = some (.int .i64 k) ∧ W.cell? ⟨w.heap.size, 4, none⟩ = some (.int .i64 m) ∧ W.cell? ⟨w.heap.size, 5, none⟩ = some (.bool kn) ∧ W.cell? ⟨w.heap.size, 6, none⟩ = some (.int .i64 i)) (by kernel_rfl) (HSP.out _ hd2) (fun hHeld => ?_)
  refine wpAnyH_take (i := 0) (v := ?_) rfl (by kernel_rfl) (by kernel_rfl) (by kernel_rfl) (fun _ _ _ h => h) (Or.inl ⟨by kernel_rfl, ?_⟩) hHeld ?_
  rotate_left
  focus (intro w hSw; (try dsimp only at hSw); go_simp; try with_reducible rfl)
  simp only [Act.put]
  refine wpAnyH_take (i := 1) (v := ?_) rfl (by kernel_rfl) (by kernel_rfl) (by kernel_rfl) (fun _ _ _ h => h) (Or.inl ⟨by kernel_rfl, ?_⟩) hHeld ?_
  rotate_left
  focus (intro w hSw; (try dsimp only at hSw); go_simp; try with_reducible rfl)
  simp only [Act.put]
  refine wpAnyH_take (i := 2) (v := ?_) rfl (by kernel_rfl) (by kernel_rfl) (by kernel_rfl) (fun _ _ _ h => h) (Or.inl ⟨by kernel_rfl, ?_⟩) hHeld ?_
  rotate_left
  focus (intro w hSw; (try dsimp only at hSw); go_simp; try with_reducible rfl)
  simp only [Act.put]
  refine wpAnyH_take (i := 3) (v := ?_) rfl (by kernel_rfl) (by kernel_rfl) (by kernel_rfl) (fun _ _ _ h => h) (Or.inl ⟨by kernel_rfl, ?_⟩) hHeld ?_
  rotate_left
  focus (intro w hSw; (try dsimp only at hSw); go_simp; try with_reducible rfl)
  simp only [Act.put]
  refine wpAnyH_take (i := 4) (v := ?_) rfl (by kernel_rfl) (by kernel_rfl) (by kernel_rfl) (fun _ _ _ h => h) (Or.inl ⟨by kernel_rfl, ?_⟩) hHeld ?_
  rotate_left
  focus (intro w hSw; (try dsimp only at hSw); go_simp; try with_reducible rfl)
  simp only [Act.put]
  refine wpAnyH_take (i := 5) (v := ?_) rfl (by kernel_rfl) (by kernel_rfl) (by kernel_rfl) (fun _ _ _ h => h) (Or.inl ⟨by kernel_rfl, ?_⟩) hHeld ?_
  rotate_left
  focus (intro w hSw; (try dsimp only at hSw); go_simp; try with_reducible rfl)
  simp only [Act.put]
  refine wpAnyH_take (i := 6) (v := ?_) rfl (by kernel_rfl) (by kernel_rfl) (by kernel_rfl) (fun _ _ _ h => h) (Or.inl ⟨by kernel_rfl, ?_⟩) hHeld ?_
  rotate_left
  focus (intro w hSw; (try dsimp only at hSw); go_simp; try with_reducible rfl)
  simp only [Act.put]
  refine wpAnyH_take (i := 8) (v := ?_) rfl (by kernel_rfl) (by kernel_rfl) (by kernel_rfl) (fun _ _ _ h => h) (Or.inl ⟨by kernel_rfl, ?_⟩) hHeld ?_
  rotate_left
  focus (intro w hSw; (try dsimp only at hSw); go_simp; try with_reducible rfl)
  simp only [Act.put]
  refine wpAnyH_take (i := 9) (v := ?_) rfl (by kernel_rfl) (by kernel_rfl) (by kernel_rfl) (fun _ _ _ h => h) (Or.inl ⟨by kernel_rfl, ?_⟩) hHeld ?_
  rotate_left
  focus (intro w hSw; (try dsimp only at hSw); go_simp; try with_reducible rfl)
  simp only [Act.put]
  refine wpAnyH_take (i := 10) (v := ?_) rfl (by kernel_rfl) (by kernel_rfl) (by kernel_rfl) (fun _ _ _ h => h) (Or.inl ⟨by kernel_rfl, ?_⟩) hHeld ?_
  rotate_left
  focus (intro w hSw; (try dsimp only at hSw); go_simp; try with_reducible rfl)
  simp only [Act.put]
  refine wpAnyH_ready (rs := [7]) (by kernel_rfl) (by simp) ?_
  refine AllReadyH.cons rfl (fun K hK => ?_) (AllReadyH.nil)
  go_simp
  refine (HATT.out _).mono ?_
  rintro e w3 ⟨rfl, hb3⟩
  have hd3 := below0 hd2 hb3
  refine hK.out _ _ (HSP.out _ hd3) (fun hHeld => ?_)
  clear hK K
  try simp only [Act.put]
  refine wpAnyH_ready (rs := [11]) (by kernel_rfl) (by simp) ?_
  refine AllReadyH.cons rfl (fun K hK => ?_) (AllReadyH.nil)
  go_simp
  refine (HPKK.out _ (below0 HB1.out hd3)).mono ?_
  rintro e w4 ⟨A, mm, cc, rfl, hmm, hown, hb4⟩
  have hd4 := below0 hd3 hb4
  have h8 : 0 < mm := by rw [hmm, HBS.out]; omega
  obtain ⟨gb, cb, hAA, _, _⟩ := hown.form h8
  injection hAA with hA1 hA2 hA3
  subst hA1 hA3
  have hcb := (own_cap hown).1
  rw [hmm, HBS.out] at hcb hown
  rw [HBS.out] at hmm
  subst hmm
  refine hK.out _ _ (HSP.out _ hd4) (fun hHeld => ?_)
  clear hK K
  try simp only [Act.put]
  refine wpAnyH_take (i := 12) (v := ?_) rfl (by kernel_rfl) (by kernel_rfl) (by kernel_rfl) (fun _ _ _ h => h) (Or.inl ⟨by kernel_rfl, ?_⟩) hHeld ?_
  rotate_left
  focus (intro w hSw; (try dsimp only at hSw); go_simp; try with_reducible rfl)
  simp only [Act.put]
  refine wpAnyH_take (i := 13) (v := ?_) rfl (by kernel_rfl) (by kernel_rfl) (by kernel_rfl) (fun _ _ _ h => h) (Or.inl ⟨by kernel_rfl, ?_⟩) hHeld ?_
  rotate_left
  focus (intro w hSw; (try dsimp only at hSw); go_simp; try with_reducible rfl)
  simp only [Act.put]
  refine wpAnyH_take (i := 14) (v := ?_) rfl (by kernel_rfl) (by kernel_rfl) (by kernel_rfl) (fun _ _ _ h => h) (Or.inl ⟨by kernel_rfl, ?_⟩) hHeld ?_
  rotate_left
  focus (intro w hSw; (try dsimp only at hSw); go_simp; try with_reducible rfl)
  simp only [Act.put]
  refine wpAnyH_ready (rs := [15]) (by kernel_rfl) (by simp) ?_
  refine AllReadyH.cons rfl (fun K hK => ?_) (AllReadyH.nil)
  go_simp
  refine hK.out _ _ (HSP.out _ hd4) (fun hHeld => ?_)
  clear hK K
  try simp only [Act.put]
  refine wpAnyH_done (by kernel_rfl) ?_ _
  have hBw4 := below0 HB1.out hd4
  have HU := Lib.hid (HUN.out w4 gb _ hBw4 ((Vm.sees_own hown)) hcb)
  refine NoPanic.normal ?_
  have HRR4 := Lib.hid (HRR.out.below hd4)
  have HRX4 := Lib.hid (HRX.out.below hd4)
  have HB4 := Lib.hid hBw4
  clear hown hd2 hd3 hd4 hb3 hb4 hBw4 HATT HPKK HUN HSP HRR HRX HB1 HB2 hHeld
  go_wp2_with fail
  refine HU.out.mono ?_
  rintro e w5 ⟨rfl, hb5⟩
  have HRR5 := Lib.hid (HRR4.out.below hb5)
  have hrx5 := HRX4.out.below hb5
  have HRX5 := Lib.hid hrx5
  have HB5 := Lib.hid (below0 HB4.out hb5)
  have x0 : World.cell? w5 ⟨w.heap.size + 1 + 1, 0, none⟩ = _ := hrx5.cell 0
  have x1 : World.cell? w5 ⟨w.heap.size + 1 + 1, 1, none⟩ = _ := hrx5.cell 1
  have x2 : World.cell? w5 ⟨w.heap.size + 1 + 1, 2, none⟩ = _ := hrx5.cell 2
  have g0 := hrx5.frozen 0
  have g1 := hrx5.frozen 1
  have g2 := hrx5.frozen 2
  have rx6 := row_set3 (.int .i64 v0) (.int .i64 v1) (.int .u32 v2) hrx5
  have rr6 : Row (((w5.setCell ⟨w.heap.size + 1 + 1, 0, none⟩ (.int .i64 v0)).setCell ⟨w.heap.size + 1 + 1, 1, none⟩ (.int .i64 v1)).setCell ⟨w.heap.size + 1 + 1, 2, none⟩ (.int .u32 v2)) (w.heap.size + 1) 41 [.int .i64 0, .int .i64 0, .int .u32 0] := HRR5.out.same ((heap_set (by omega)).trans ((heap_set (by omega)).trans ((heap_set (by omega)).trans rfl)))
  have hb6 := below_set3 (b := w.heap.size + 1 + 1) (.int .i64 v0) (.int .i64 v1) (.int .u32 v2) HB5.out (by omega)
  have HX6 := Lib.hid rx6
  have HRR6 := Lib.hid rr6
  have HB6 := Lib.hid hb6
  have a0 : World.cell? _ ⟨w.heap.size + 1 + 1, 0, none⟩ = _ := rx6.cell 0
  have a1 : World.cell? _ ⟨w.heap.size + 1 + 1, 1, none⟩ = _ := rx6.cell 1
  have a2 : World.cell? _ ⟨w.heap.size + 1 + 1, 2, none⟩ = _ := rx6.cell 2
  have y0 : World.cell? _ ⟨w.heap.size + 1, 0, none⟩ = _ := rr6.cell 0
  have y1 : World.cell? _ ⟨w.heap.size + 1, 1, none⟩ = _ := rr6.cell 1
  have y2 : World.cell? _ ⟨w.heap.size + 1, 2, none⟩ = _ := rr6.cell 2
  have h0 := rr6.frozen 0
  have h1 := rr6.frozen 1
  have h2 := rr6.frozen 2
  clear rx6 rr6 hb6 hrx5 hb5 HU HRR4 HRX4 HB4 HRR5 HRX5 HB5
  go_wp2
  refine hR.out _ _ _ _ (by simp) ?_
  have R8 := row_set3 (.int .i64 v0) (.int .i64 v1) (.int .u32 v2) HRR6.out
  have B8 := below_set3 (b := w.heap.size + 1) (.int .i64 v0) (.int .i64 v1) (.int .u32 v2) HB6.out (by omega)
  clear x0 y0 g0 h0 a0 x1 y1 g1 h1 a1 x2 y2 g2 h2 a2
  have d0 : World.cell? _ ⟨w.heap.size + 1, 0, none⟩ = _ := R8.cell 0
  have d1 : World.cell? _ ⟨w.heap.size + 1, 1, none⟩ = _ := R8.cell 1
  have d2 : World.cell? _ ⟨w.heap.size + 1, 2, none⟩ = _ := R8.cell 2
  exact bodyPost_ret (v := .tuple #[.agg #[.int .i64 v0, .int .i64 v1, .int .u32 v2], .int .i64 0]) (by simp [results, Tryz.results63, go_sem, d0, d1, d2]) rfl ⟨rfl, B8⟩
set_option maxRecDepth 100000 in
set_option maxHeartbeats 8000000 in
theorem told_great_no (p : Option Addr) (t f k m i : Int) (kn : Bool) (g c : Nat) (E : Int) (hE : E ≠ 0) (w : World) (HR : ∀ W, Below w.heap.size w W → Calls Tryz.prog 76 #[liV p t f k m kn i, .bool true] W fun e w' => e = .returned (.int .i64 E) ∧ Below W.heap.size W w') :
    Calls Tryz.prog 66 #[liV p t f k m kn i, .slice (some ⟨g, 0, none⟩) 6 c] w fun e w' => e = .returned (.tuple #[.agg #[.int .i64 0, .int .i64 0, .int .i64 0, .int .i64 0], .int .i64 E]) ∧ Below w.heap.size w w' := by
  obtain ⟨W1, hW1⟩ : ∃ W1, W1 = ((w.alloc (.cells #[.pointer p, .int .i64 t, .int .u32 f, .int .i64 k, .int .i64 m, .bool kn, .int .i64 i] 134)).alloc (.cells #[.int .i64 0, .int .i64 0, .int .i64 0, .int .i64 0] 43)).alloc (.cells #[.int .i64 0, .int .i64 0, .int .i64 0, .int .i64 0] 43) := ⟨_, rfl⟩
  have hb1 : Below w.heap.size w W1 := by rw [hW1]; exact (((Below.refl _ _).alloc (Nat.le_refl _) _).alloc (by simp) _).alloc (by simp; omega) _
  have hrl : Row W1 w.heap.size 134 (liC p t f k m kn i) := by rw [hW1]; exact ((Row.new w _ _).below (below1 _ _)).below (below1 _ _)
  have hrr : Row W1 (w.heap.size + 1) 43 [.int .i64 0, .int .i64 0, .int .i64 0, .int .i64 0] := by rw [hW1]; exact (Row.new_at _ _ _ (by simp)).below (below1 _ _)
  have hrx : Row W1 (w.heap.size + 1 + 1) 43 [.int .i64 0, .int .i64 0, .int .i64 0, .int .i64 0] := by rw [hW1]; exact Row.new_at _ _ _ (by simp)
  have l0 : World.cell? W1 ⟨w.heap.size, 0, none⟩ = _ := hrl.cell 0
  have l1 : World.cell? W1 ⟨w.heap.size, 1, none⟩ = _ := hrl.cell 1
  have l2 : World.cell? W1 ⟨w.heap.size, 2, none⟩ = _ := hrl.cell 2
  have l3 : World.cell? W1 ⟨w.heap.size, 3, none⟩ = _ := hrl.cell 3
  have l4 : World.cell? W1 ⟨w.heap.size, 4, none⟩ = _ := hrl.cell 4
  have l5 : World.cell? W1 ⟨w.heap.size, 5, none⟩ = _ := hrl.cell 5
  have l6 : World.cell? W1 ⟨w.heap.size, 6, none⟩ = _ := hrl.cell 6
  have HB1 := Lib.hid hb1
  have HRL := Lib.hid hrl
  have HRR := Lib.hid hrr
  have HRX := Lib.hid hrx
  have HW1 := Lib.hid hW1
  have HREF := Lib.hid (HR W1 hb1)
  have e0 : (E == 0) = false := by rw [beq_eq_false_iff_ne]; exact hE
  clear HR hb1 hrl hrr hrx hW1
  go_enter Tryz.func66, Tryz.ntmps66
  go_wp2_with fail
  refine wp_scope_jump 1 fun R hR hJm => ?_
  go_wp2_with fail
  rw [← HW1.out]
  refine HREF.out.mono ?_
  rintro e w2 ⟨rfl, hb2⟩
  have rr := HRR.out.below hb2
  have rx := HRX.out.below hb2
  have bb := below0 HB1.out hb2
  clear hb2 HREF HB1 HRL HRR HRX HW1 l0 l1 l2 l3 l4 l5 l6
  have x0 : World.cell? w2 ⟨w.heap.size + 1 + 1, 0, none⟩ = _ := rx.cell 0
  have x1 : World.cell? w2 ⟨w.heap.size + 1 + 1, 1, none⟩ = _ := rx.cell 1
  have x2 : World.cell? w2 ⟨w.heap.size + 1 + 1, 2, none⟩ = _ := rx.cell 2
  have x3 : World.cell? w2 ⟨w.heap.size + 1 + 1, 3, none⟩ = _ := rx.cell 3
  have y0 : World.cell? w2 ⟨w.heap.size + 1, 0, none⟩ = _ := rr.cell 0
  have y1 : World.cell? w2 ⟨w.heap.size + 1, 1, none⟩ = _ := rr.cell 1
  have y2 : World.cell? w2 ⟨w.heap.size + 1, 2, none⟩ = _ := rr.cell 2
  have y3 : World.cell? w2 ⟨w.heap.size + 1, 3, none⟩ = _ := rr.cell 3
  have g0 := rr.frozen 0
  have g1 := rr.frozen 1
  have g2 := rr.frozen 2
  have g3 := rr.frozen 3
  have HRR9 := Lib.hid rr
  have HB9 := Lib.hid bb
  clear rr rx bb
  go_wp2_with fail
  refine wp_goto (hJm.out _ _ _ _ _ rfl ?_)
  go_wp2
  refine hR.out _ _ _ _ (by simp) ?_
  have R8 := row_set4 (.int .i64 0) (.int .i64 0) (.int .i64 0) (.int .i64 0) HRR9.out
  have B8 := below_set4 (b := w.heap.size + 1) (.int .i64 0) (.int .i64 0) (.int .i64 0) (.int .i64 0) HB9.out (by omega)
  clear x0 y0 g0 x1 y1 g1 x2 y2 g2 x3 y3 g3
  have d0 : World.cell? _ ⟨w.heap.size + 1, 0, none⟩ = _ := R8.cell 0
  have d1 : World.cell? _ ⟨w.heap.size + 1, 1, none⟩ = _ := R8.cell 1
  have d2 : World.cell? _ ⟨w.heap.size + 1, 2, none⟩ = _ := R8.cell 2
  have d3 : World.cell? _ ⟨w.heap.size + 1, 3, none⟩ = _ := R8.cell 3
  exact bodyPost_ret (v := .tuple #[.agg #[.int .i64 0, .int .i64 0, .int .i64 0, .int .i64 0], .int .i64 E]) (by simp [results, Tryz.results66, go_sem, d0, d1, d2, d3]) rfl ⟨rfl, B8⟩
set_option maxRecDepth 100000 in
set_option maxHeartbeats 8000000 in
theorem told_great_bad (p : Option Addr) (t f k m i : Int) (kn : Bool) (g c : Nat) (a : Int) (tt : TypeId) (bs : List UInt8) (w : World) (hT : Tabs w) (hrow : Row w g tt (prtCells greatP)) (hc : 6 ≤ c) (hbs : bs.length = 16) (hrd : ¬ readL greatP (nvOf bs greatP)) (HR : ∀ W, Below w.heap.size w W → Calls Tryz.prog 76 #[liV p t f k m kn i, .bool true] W fun e w' => e = .returned (.int .i64 0) ∧ Below W.heap.size W w')
    (HAT : ∀ W, Calls Tryz.prog 43 #[roV f k m, .int .i64 i] W fun e w' => e = .returned (.int .u32 a) ∧ Below W.heap.size W w') (HPK : ∀ W, Below w.heap.size w W → Calls Tryz.prog 94 #[.pointer p, .int .u32 a, .int .i64 k] W (Vm.RdA W 0 bs)) :
    Calls Tryz.prog 66 #[liV p t f k m kn i, .slice (some ⟨g, 0, none⟩) 6 c] w fun e w' => e = .returned (.tuple #[.agg #[.int .i64 0, .int .i64 0, .int .i64 0, .int .i64 0], .int .i64 251]) ∧ Below w.heap.size w w' := by
  obtain ⟨W1, hW1⟩ : ∃ W1, W1 = ((w.alloc (.cells #[.pointer p, .int .i64 t, .int .u32 f, .int .i64 k, .int .i64 m, .bool kn, .int .i64 i] 134)).alloc (.cells #[.int .i64 0, .int .i64 0, .int .i64 0, .int .i64 0] 43)).alloc (.cells #[.int .i64 0, .int .i64 0, .int .i64 0, .int .i64 0] 43) := ⟨_, rfl⟩
  have hb1 : Below w.heap.size w W1 := by rw [hW1]; exact (((Below.refl _ _).alloc (Nat.le_refl _) _).alloc (by simp) _).alloc (by simp; omega) _
  have hrl : Row W1 w.heap.size 134 (liC p t f k m kn i) := by rw [hW1]; exact ((Row.new w _ _).below (below1 _ _)).below (below1 _ _)
  have hrr : Row W1 (w.heap.size + 1) 43 [.int .i64 0, .int .i64 0, .int .i64 0, .int .i64 0] := by rw [hW1]; exact (Row.new_at _ _ _ (by simp)).below (below1 _ _)
  have hrx : Row W1 (w.heap.size + 1 + 1) 43 [.int .i64 0, .int .i64 0, .int .i64 0, .int .i64 0] := by rw [hW1]; exact Row.new_at _ _ _ (by simp)
  have l0 : World.cell? W1 ⟨w.heap.size, 0, none⟩ = _ := hrl.cell 0
  have l1 : World.cell? W1 ⟨w.heap.size, 1, none⟩ = _ := hrl.cell 1
  have l2 : World.cell? W1 ⟨w.heap.size, 2, none⟩ = _ := hrl.cell 2
  have l3 : World.cell? W1 ⟨w.heap.size, 3, none⟩ = _ := hrl.cell 3
  have l4 : World.cell? W1 ⟨w.heap.size, 4, none⟩ = _ := hrl.cell 4
  have l5 : World.cell? W1 ⟨w.heap.size, 5, none⟩ = _ := hrl.cell 5
  have l6 : World.cell? W1 ⟨w.heap.size, 6, none⟩ = _ := hrl.cell 6
  have HB1 := Lib.hid hb1
  have HRL := Lib.hid hrl
  have HRR := Lib.hid hrr
  have HRX := Lib.hid hrx
  have HW1 := Lib.hid hW1
  have HREF := Lib.hid (HR W1 hb1)
  have HATT := Lib.hid HAT
  have HPKK := Lib.hid HPK
  have HUN := Lib.hid (fun (W : World) (gb cb : Nat) (hW : Below w.heap.size w W) (hs : Sees W W.heap.size (some ⟨gb, 0, none⟩) (byt bs)) (hcb : 16 ≤ cb) => (unpacked_great bs gb cb g c tt W (hT.below hW) hs hbs hcb (hrow.below hW) hc).mono fun e w' ⟨e1, e2⟩ => (show e = Ending.returned (.tuple #[.agg #[.int .i64 0, .int .i64 0, .int .i64 0, .int .i64 0], .bool false]) ∧ Below W.heap.size W w' from ⟨by
    rcases e1 with ⟨h, h2⟩ | ⟨h, h2⟩
    · exact h
    · exact absurd h2 hrd, e2⟩))
  have HSP := Lib.hid (fun W (hw : Below W1.heap.size W1 W) => (show W.cell? ⟨w.heap.size, 0, none⟩ = some (.pointer p) ∧ W.cell? ⟨w.heap.size, 1, none⟩ = some (.int .i64 t) ∧ W.cell? ⟨w.heap.size, 2, none⟩ = some (.int .u32 f) ∧ W.cell? ⟨w.heap.size, 3, none⟩ = some (.int .i64 k) ∧ W.cell? ⟨w.heap.size, 4, none⟩ = some (.int .i64 m) ∧ W.cell? ⟨w.heap.size, 5, none⟩ = some (.bool kn) ∧ W.cell? ⟨w.heap.size, 6, none⟩ = some (.int .i64 i) from ⟨(hrl.below hw).cell 0, (hrl.below hw).cell 1, (hrl.below hw).cell 2, (hrl.below hw).cell 3, (hrl.below hw).cell 4, (hrl.below hw).cell 5, (hrl.below hw).cell 6⟩))
  have HBS := Lib.hid hbs
  clear HR HAT HPK hb1 hrl hrr hrx hW1 hT hrow hc hbs hrd
  go_enter Tryz.func66, Tryz.ntmps66
  go_wp2_with fail
  refine wp_scope_jump 1 fun R hR hJm => ?_
  go_wp2_with fail
  rw [← HW1.out]
  refine HREF.out.mono ?_
  rintro e w2 ⟨rfl, hb2⟩
  have HB2 := Lib.hid hb2
  have hd2 : Below W1.heap.size W1 w2.drew := hb2.drew
  clear hb2 HREF HRL HW1 l0 l1 l2 l3 l4 l5 l6
  go_wp2_with fail
  refine wp_region_noPanic ?_
  refine wp_region_held_drew (S := fun W => W.cell? ⟨w.heap.size, 0, none⟩ = some (.pointer p) ∧ W.cell? ⟨w.heap.size, 1, none⟩ = some (.int .i64 t) ∧ W.cell? ⟨w.heap.size, 2, none⟩ = some (.int .u32 f) ∧ W.cell? ⟨w.heap.size, 3, none⟩ = some (.int .i64 k) ∧ W.cell? ⟨w.heap.size, 4, none⟩ = some (.int .i64 m) ∧ W.cell? ⟨w.heap.size, 5, none⟩ = some (.bool kn) ∧ W.cell? ⟨w.heap.size, 6, none⟩ = some (.int .i64 i)) (by kernel_rfl) (HSP.out _ hd2) (fun hHeld => ?_)
  refine wpAnyH_take (i := 0) (v := ?_) rfl (by kernel_rfl) (by kernel_rfl) (by kernel_rfl) (fun _ _ _ h => h) (Or.inl ⟨by kernel_rfl, ?_⟩) hHeld ?_
  rotate_left
  focus (intro w hSw; (try dsimp only at hSw); go_simp; try with_reducible rfl)
  simp only [Act.put]
  refine wpAnyH_take (i := 1) (v := ?_) rfl (by kernel_rfl) (by kernel_rfl) (by kernel_rfl) (fun _ _ _ h => h) (Or.inl ⟨by kernel_rfl, ?_⟩) hHeld ?_
  rotate_left
  focus (intro w hSw; (try dsimp only at hSw); go_simp; try with_reducible rfl)
  simp only [Act.put]
  refine wpAnyH_take (i := 2) (v := ?_) rfl (by kernel_rfl) (by kernel_rfl) (by kernel_rfl) (fun _ _ _ h => h) (Or.inl ⟨by kernel_rfl, ?_⟩) hHeld ?_
  rotate_left
  focus (intro w hSw; (try dsimp only at hSw); go_simp; try with_reducible rfl)
  simp only [Act.put]
  refine wpAnyH_take (i := 3) (v := ?_) rfl (by kernel_rfl) (by kernel_rfl) (by kernel_rfl) (fun _ _ _ h => h) (Or.inl ⟨by kernel_rfl, ?_⟩) hHeld ?_
  rotate_left
  focus (intro w hSw; (try dsimp only at hSw); go_simp; try with_reducible rfl)
  simp only [Act.put]
  refine wpAnyH_take (i := 4) (v := ?_) rfl (by kernel_rfl) (by kernel_rfl) (by kernel_rfl) (fun _ _ _ h => h) (Or.inl ⟨by kernel_rfl, ?_⟩) hHeld ?_
  rotate_left
  focus (intro w hSw; (try dsimp only at hSw); go_simp; try with_reducible rfl)
  simp only [Act.put]
  refine wpAnyH_take (i := 5) (v := ?_) rfl (by kernel_rfl) (by kernel_rfl) (by kernel_rfl) (fun _ _ _ h => h) (Or.inl ⟨by kernel_rfl, ?_⟩) hHeld ?_
  rotate_left
  focus (intro w hSw; (try dsimp only at hSw); go_simp; try with_reducible rfl)
  simp only [Act.put]
  refine wpAnyH_take (i := 6) (v := ?_) rfl (by kernel_rfl) (by kernel_rfl) (by kernel_rfl) (fun _ _ _ h => h) (Or.inl ⟨by kernel_rfl, ?_⟩) hHeld ?_
  rotate_left
  focus (intro w hSw; (try dsimp only at hSw); go_simp; try with_reducible rfl)
  simp only [Act.put]
  refine wpAnyH_take (i := 8) (v := ?_) rfl (by kernel_rfl) (by kernel_rfl) (by kernel_rfl) (fun _ _ _ h => h) (Or.inl ⟨by kernel_rfl, ?_⟩) hHeld ?_
  rotate_left
  focus (intro w hSw; (try dsimp only at hSw); go_simp; try with_reducible rfl)
  simp only [Act.put]
  refine wpAnyH_take (i := 9) (v := ?_) rfl (by kernel_rfl) (by kernel_rfl) (by kernel_rfl) (fun _ _ _ h => h) (Or.inl ⟨by kernel_rfl, ?_⟩) hHeld ?_
  rotate_left
  focus (intro w hSw; (try dsimp only at hSw); go_simp; try with_reducible rfl)
  simp only [Act.put]
  refine wpAnyH_take (i := 10) (v := ?_) rfl (by kernel_rfl) (by kernel_rfl) (by kernel_rfl) (fun _ _ _ h => h) (Or.inl ⟨by kernel_rfl, ?_⟩) hHeld ?_
  rotate_left
  focus (intro w hSw; (try dsimp only at hSw); go_simp; try with_reducible rfl)
  simp only [Act.put]
  refine wpAnyH_ready (rs := [7]) (by kernel_rfl) (by simp) ?_
  refine AllReadyH.cons rfl (fun K hK => ?_) (AllReadyH.nil)
  go_simp
  refine (HATT.out _).mono ?_
  rintro e w3 ⟨rfl, hb3⟩
  have hd3 := below0 hd2 hb3
  refine hK.out _ _ (HSP.out _ hd3) (fun hHeld => ?_)
  clear hK K
  try simp only [Act.put]
  refine wpAnyH_ready (rs := [11]) (by kernel_rfl) (by simp) ?_
  refine AllReadyH.cons rfl (fun K hK => ?_) (AllReadyH.nil)
  go_simp
  refine (HPKK.out _ (below0 HB1.out hd3)).mono ?_
  rintro e w4 ⟨A, mm, cc, rfl, hmm, hown, hb4⟩
  have hd4 := below0 hd3 hb4
  have h8 : 0 < mm := by rw [hmm, HBS.out]; omega
  obtain ⟨gb, cb, hAA, _, _⟩ := hown.form h8
  injection hAA with hA1 hA2 hA3
  subst hA1 hA3
  have hcb := (own_cap hown).1
  rw [hmm, HBS.out] at hcb hown
  rw [HBS.out] at hmm
  subst hmm
  refine hK.out _ _ (HSP.out _ hd4) (fun hHeld => ?_)
  clear hK K
  try simp only [Act.put]
  refine wpAnyH_take (i := 12) (v := ?_) rfl (by kernel_rfl) (by kernel_rfl) (by kernel_rfl) (fun _ _ _ h => h) (Or.inl ⟨by kernel_rfl, ?_⟩) hHeld ?_
  rotate_left
  focus (intro w hSw; (try dsimp only at hSw); go_simp; try with_reducible rfl)
  simp only [Act.put]
  refine wpAnyH_take (i := 13) (v := ?_) rfl (by kernel_rfl) (by kernel_rfl) (by kernel_rfl) (fun _ _ _ h => h) (Or.inl ⟨by kernel_rfl, ?_⟩) hHeld ?_
  rotate_left
  focus (intro w hSw; (try dsimp only at hSw); go_simp; try with_reducible rfl)
  simp only [Act.put]
  refine wpAnyH_take (i := 14) (v := ?_) rfl (by kernel_rfl) (by kernel_rfl) (by kernel_rfl) (fun _ _ _ h => h) (Or.inl ⟨by kernel_rfl, ?_⟩) hHeld ?_
  rotate_left
  focus (intro w hSw; (try dsimp only at hSw); go_simp; try with_reducible rfl)
  simp only [Act.put]
  refine wpAnyH_ready (rs := [15]) (by kernel_rfl) (by simp) ?_
  refine AllReadyH.cons rfl (fun K hK => ?_) (AllReadyH.nil)
  go_simp
  refine hK.out _ _ (HSP.out _ hd4) (fun hHeld => ?_)
  clear hK K
  try simp only [Act.put]
  refine wpAnyH_done (by kernel_rfl) ?_ _
  have hBw4 := below0 HB1.out hd4
  have HU := Lib.hid (HUN.out w4 gb _ hBw4 ((Vm.sees_own hown)) hcb)
  refine NoPanic.normal ?_
  have HRR4 := Lib.hid (HRR.out.below hd4)
  have HRX4 := Lib.hid (HRX.out.below hd4)
  have HB4 := Lib.hid hBw4
  clear hown hd2 hd3 hd4 hb3 hb4 hBw4 HATT HPKK HUN HSP HRR HRX HB1 HB2 hHeld
  go_wp2_with fail
  refine HU.out.mono ?_
  rintro e w5 ⟨rfl, hb5⟩
  have HRR5 := Lib.hid (HRR4.out.below hb5)
  have hrx5 := HRX4.out.below hb5
  have HRX5 := Lib.hid hrx5
  have HB5 := Lib.hid (below0 HB4.out hb5)
  have x0 : World.cell? w5 ⟨w.heap.size + 1 + 1, 0, none⟩ = _ := hrx5.cell 0
  have x1 : World.cell? w5 ⟨w.heap.size + 1 + 1, 1, none⟩ = _ := hrx5.cell 1
  have x2 : World.cell? w5 ⟨w.heap.size + 1 + 1, 2, none⟩ = _ := hrx5.cell 2
  have x3 : World.cell? w5 ⟨w.heap.size + 1 + 1, 3, none⟩ = _ := hrx5.cell 3
  have g0 := hrx5.frozen 0
  have g1 := hrx5.frozen 1
  have g2 := hrx5.frozen 2
  have g3 := hrx5.frozen 3
  have rx6 := row_set4 (.int .i64 0) (.int .i64 0) (.int .i64 0) (.int .i64 0) hrx5
  have rr6 : Row ((((w5.setCell ⟨w.heap.size + 1 + 1, 0, none⟩ (.int .i64 0)).setCell ⟨w.heap.size + 1 + 1, 1, none⟩ (.int .i64 0)).setCell ⟨w.heap.size + 1 + 1, 2, none⟩ (.int .i64 0)).setCell ⟨w.heap.size + 1 + 1, 3, none⟩ (.int .i64 0)) (w.heap.size + 1) 43 [.int .i64 0, .int .i64 0, .int .i64 0, .int .i64 0] := HRR5.out.same ((heap_set (by omega)).trans ((heap_set (by omega)).trans ((heap_set (by omega)).trans ((heap_set (by omega)).trans rfl))))
  have hb6 := below_set4 (b := w.heap.size + 1 + 1) (.int .i64 0) (.int .i64 0) (.int .i64 0) (.int .i64 0) HB5.out (by omega)
  have HX6 := Lib.hid rx6
  have HRR6 := Lib.hid rr6
  have HB6 := Lib.hid hb6
  have a0 : World.cell? _ ⟨w.heap.size + 1 + 1, 0, none⟩ = _ := rx6.cell 0
  have a1 : World.cell? _ ⟨w.heap.size + 1 + 1, 1, none⟩ = _ := rx6.cell 1
  have a2 : World.cell? _ ⟨w.heap.size + 1 + 1, 2, none⟩ = _ := rx6.cell 2
  have a3 : World.cell? _ ⟨w.heap.size + 1 + 1, 3, none⟩ = _ := rx6.cell 3
  have y0 : World.cell? _ ⟨w.heap.size + 1, 0, none⟩ = _ := rr6.cell 0
  have y1 : World.cell? _ ⟨w.heap.size + 1, 1, none⟩ = _ := rr6.cell 1
  have y2 : World.cell? _ ⟨w.heap.size + 1, 2, none⟩ = _ := rr6.cell 2
  have y3 : World.cell? _ ⟨w.heap.size + 1, 3, none⟩ = _ := rr6.cell 3
  have h0 := rr6.frozen 0
  have h1 := rr6.frozen 1
  have h2 := rr6.frozen 2
  have h3 := rr6.frozen 3
  clear rx6 rr6 hb6 hrx5 hb5 HU HRR4 HRX4 HB4 HRR5 HRX5 HB5
  go_wp2_with fail
  refine wp_goto (hJm.out _ _ _ _ _ rfl ?_)
  go_wp2
  refine hR.out _ _ _ _ (by simp) ?_
  have R8 := row_set4 (.int .i64 0) (.int .i64 0) (.int .i64 0) (.int .i64 0) HRR6.out
  have B8 := below_set4 (b := w.heap.size + 1) (.int .i64 0) (.int .i64 0) (.int .i64 0) (.int .i64 0) HB6.out (by omega)
  clear x0 y0 g0 h0 a0 x1 y1 g1 h1 a1 x2 y2 g2 h2 a2 x3 y3 g3 h3 a3
  have d0 : World.cell? _ ⟨w.heap.size + 1, 0, none⟩ = _ := R8.cell 0
  have d1 : World.cell? _ ⟨w.heap.size + 1, 1, none⟩ = _ := R8.cell 1
  have d2 : World.cell? _ ⟨w.heap.size + 1, 2, none⟩ = _ := R8.cell 2
  have d3 : World.cell? _ ⟨w.heap.size + 1, 3, none⟩ = _ := R8.cell 3
  exact bodyPost_ret (v := .tuple #[.agg #[.int .i64 0, .int .i64 0, .int .i64 0, .int .i64 0], .int .i64 251]) (by simp [results, Tryz.results66, go_sem, d0, d1, d2, d3]) rfl ⟨rfl, B8⟩
set_option maxRecDepth 100000 in
set_option maxHeartbeats 8000000 in
theorem told_great_yes (p : Option Addr) (t f k m i : Int) (kn : Bool) (g c : Nat) (a : Int) (tt : TypeId) (bs : List UInt8) (w : World) (hT : Tabs w) (hrow : Row w g tt (prtCells greatP)) (hc : 6 ≤ c) (hbs : bs.length = 16) (hrd : readL greatP (nvOf bs greatP)) (HR : ∀ W, Below w.heap.size w W → Calls Tryz.prog 76 #[liV p t f k m kn i, .bool true] W fun e w' => e = .returned (.int .i64 0) ∧ Below W.heap.size W w')
    (HAT : ∀ W, Calls Tryz.prog 43 #[roV f k m, .int .i64 i] W fun e w' => e = .returned (.int .u32 a) ∧ Below W.heap.size W w') (HPK : ∀ W, Below w.heap.size w W → Calls Tryz.prog 94 #[.pointer p, .int .u32 a, .int .i64 k] W (Vm.RdA W 0 bs)) :
    Calls Tryz.prog 66 #[liV p t f k m kn i, .slice (some ⟨g, 0, none⟩) 6 c] w fun e w' => e = .returned (.tuple #[.agg (stGre (nvOf bs greatP) 6).toArray, .int .i64 0]) ∧ Below w.heap.size w w' := by
  obtain ⟨W1, hW1⟩ : ∃ W1, W1 = ((w.alloc (.cells #[.pointer p, .int .i64 t, .int .u32 f, .int .i64 k, .int .i64 m, .bool kn, .int .i64 i] 134)).alloc (.cells #[.int .i64 0, .int .i64 0, .int .i64 0, .int .i64 0] 43)).alloc (.cells #[.int .i64 0, .int .i64 0, .int .i64 0, .int .i64 0] 43) := ⟨_, rfl⟩
  have hb1 : Below w.heap.size w W1 := by rw [hW1]; exact (((Below.refl _ _).alloc (Nat.le_refl _) _).alloc (by simp) _).alloc (by simp; omega) _
  have hrl : Row W1 w.heap.size 134 (liC p t f k m kn i) := by rw [hW1]; exact ((Row.new w _ _).below (below1 _ _)).below (below1 _ _)
  have hrr : Row W1 (w.heap.size + 1) 43 [.int .i64 0, .int .i64 0, .int .i64 0, .int .i64 0] := by rw [hW1]; exact (Row.new_at _ _ _ (by simp)).below (below1 _ _)
  have hrx : Row W1 (w.heap.size + 1 + 1) 43 [.int .i64 0, .int .i64 0, .int .i64 0, .int .i64 0] := by rw [hW1]; exact Row.new_at _ _ _ (by simp)
  have l0 : World.cell? W1 ⟨w.heap.size, 0, none⟩ = _ := hrl.cell 0
  have l1 : World.cell? W1 ⟨w.heap.size, 1, none⟩ = _ := hrl.cell 1
  have l2 : World.cell? W1 ⟨w.heap.size, 2, none⟩ = _ := hrl.cell 2
  have l3 : World.cell? W1 ⟨w.heap.size, 3, none⟩ = _ := hrl.cell 3
  have l4 : World.cell? W1 ⟨w.heap.size, 4, none⟩ = _ := hrl.cell 4
  have l5 : World.cell? W1 ⟨w.heap.size, 5, none⟩ = _ := hrl.cell 5
  have l6 : World.cell? W1 ⟨w.heap.size, 6, none⟩ = _ := hrl.cell 6
  have HB1 := Lib.hid hb1
  have HRL := Lib.hid hrl
  have HRR := Lib.hid hrr
  have HRX := Lib.hid hrx
  have HW1 := Lib.hid hW1
  have HREF := Lib.hid (HR W1 hb1)
  have HATT := Lib.hid HAT
  have HPKK := Lib.hid HPK
  have HUN := Lib.hid (fun (W : World) (gb cb : Nat) (hW : Below w.heap.size w W) (hs : Sees W W.heap.size (some ⟨gb, 0, none⟩) (byt bs)) (hcb : 16 ≤ cb) => (unpacked_great bs gb cb g c tt W (hT.below hW) hs hbs hcb (hrow.below hW) hc).mono fun e w' ⟨e1, e2⟩ => (show e = Ending.returned (.tuple #[.agg (stGre (nvOf bs greatP) 6).toArray, .bool true]) ∧ Below W.heap.size W w' from ⟨by
    rcases e1 with ⟨h, h2⟩ | ⟨h, h2⟩
    · exact absurd hrd h2
    · exact h, e2⟩))
  have hcs : ∃ v0 v1 v2 v3 : Int, stGre (nvOf bs greatP) 6 = [.int .i64 v0, .int .i64 v1, .int .i64 v2, .int .i64 v3] := ⟨_, _, _, _, rfl⟩
  obtain ⟨v0, v1, v2, v3, hcs⟩ := hcs
  rw [hcs] at HUN ⊢
  have HSP := Lib.hid (fun W (hw : Below W1.heap.size W1 W) => (show W.cell? ⟨w.heap.size, 0, none⟩ = some (.pointer p) ∧ W.cell? ⟨w.heap.size, 1, none⟩ = some (.int .i64 t) ∧ W.cell? ⟨w.heap.size, 2, none⟩ = some (.int .u32 f) ∧ W.cell? ⟨w.heap.size, 3, none⟩ = some (.int .i64 k) ∧ W.cell? ⟨w.heap.size, 4, none⟩ = some (.int .i64 m) ∧ W.cell? ⟨w.heap.size, 5, none⟩ = some (.bool kn) ∧ W.cell? ⟨w.heap.size, 6, none⟩ = some (.int .i64 i) from ⟨(hrl.below hw).cell 0, (hrl.below hw).cell 1, (hrl.below hw).cell 2, (hrl.below hw).cell 3, (hrl.below hw).cell 4, (hrl.below hw).cell 5, (hrl.below hw).cell 6⟩))
  have HBS := Lib.hid hbs
  clear HR HAT HPK hb1 hrl hrr hrx hW1 hT hrow hc hbs hrd hcs
  go_enter Tryz.func66, Tryz.ntmps66
  go_wp2_with fail
  refine wp_scope_jump 1 fun R hR hJm => ?_
  go_wp2_with fail
  rw [← HW1.out]
  refine HREF.out.mono ?_
  rintro e w2 ⟨rfl, hb2⟩
  have HB2 := Lib.hid hb2
  have hd2 : Below W1.heap.size W1 w2.drew := hb2.drew
  clear hb2 HREF HRL HW1 l0 l1 l2 l3 l4 l5 l6
  go_wp2_with fail
  refine wp_region_noPanic ?_
  refine wp_region_held_drew (S := fun W => W.cell? ⟨w.heap.size, 0, none⟩ = some (.pointer p) ∧ W.cell? ⟨w.heap.size, 1, none⟩ = some (.int .i64 t) ∧ W.cell? ⟨w.heap.size, 2, none⟩ = some (.int .u32 f) ∧ W.cell? ⟨w.heap.size, 3, none⟩ = some (.int .i64 k) ∧ W.cell? ⟨w.heap.size, 4, none⟩ = some (.int .i64 m) ∧ W.cell? ⟨w.heap.size, 5, none⟩ = some (.bool kn) ∧ W.cell? ⟨w.heap.size, 6, none⟩ = some (.int .i64 i)) (by kernel_rfl) (HSP.out _ hd2) (fun hHeld => ?_)
  refine wpAnyH_take (i := 0) (v := ?_) rfl (by kernel_rfl) (by kernel_rfl) (by kernel_rfl) (fun _ _ _ h => h) (Or.inl ⟨by kernel_rfl, ?_⟩) hHeld ?_
  rotate_left
  focus (intro w hSw; (try dsimp only at hSw); go_simp; try with_reducible rfl)
  simp only [Act.put]
  refine wpAnyH_take (i := 1) (v := ?_) rfl (by kernel_rfl) (by kernel_rfl) (by kernel_rfl) (fun _ _ _ h => h) (Or.inl ⟨by kernel_rfl, ?_⟩) hHeld ?_
  rotate_left
  focus (intro w hSw; (try dsimp only at hSw); go_simp; try with_reducible rfl)
  simp only [Act.put]
  refine wpAnyH_take (i := 2) (v := ?_) rfl (by kernel_rfl) (by kernel_rfl) (by kernel_rfl) (fun _ _ _ h => h) (Or.inl ⟨by kernel_rfl, ?_⟩) hHeld ?_
  rotate_left
  focus (intro w hSw; (try dsimp only at hSw); go_simp; try with_reducible rfl)
  simp only [Act.put]
  refine wpAnyH_take (i := 3) (v := ?_) rfl (by kernel_rfl) (by kernel_rfl) (by kernel_rfl) (fun _ _ _ h => h) (Or.inl ⟨by kernel_rfl, ?_⟩) hHeld ?_
  rotate_left
  focus (intro w hSw; (try dsimp only at hSw); go_simp; try with_reducible rfl)
  simp only [Act.put]
  refine wpAnyH_take (i := 4) (v := ?_) rfl (by kernel_rfl) (by kernel_rfl) (by kernel_rfl) (fun _ _ _ h => h) (Or.inl ⟨by kernel_rfl, ?_⟩) hHeld ?_
  rotate_left
  focus (intro w hSw; (try dsimp only at hSw); go_simp; try with_reducible rfl)
  simp only [Act.put]
  refine wpAnyH_take (i := 5) (v := ?_) rfl (by kernel_rfl) (by kernel_rfl) (by kernel_rfl) (fun _ _ _ h => h) (Or.inl ⟨by kernel_rfl, ?_⟩) hHeld ?_
  rotate_left
  focus (intro w hSw; (try dsimp only at hSw); go_simp; try with_reducible rfl)
  simp only [Act.put]
  refine wpAnyH_take (i := 6) (v := ?_) rfl (by kernel_rfl) (by kernel_rfl) (by kernel_rfl) (fun _ _ _ h => h) (Or.inl ⟨by kernel_rfl, ?_⟩) hHeld ?_
  rotate_left
  focus (intro w hSw; (try dsimp only at hSw); go_simp; try with_reducible rfl)
  simp only [Act.put]
  refine wpAnyH_take (i := 8) (v := ?_) rfl (by kernel_rfl) (by kernel_rfl) (by kernel_rfl) (fun _ _ _ h => h) (Or.inl ⟨by kernel_rfl, ?_⟩) hHeld ?_
  rotate_left
  focus (intro w hSw; (try dsimp only at hSw); go_simp; try with_reducible rfl)
  simp only [Act.put]
  refine wpAnyH_take (i := 9) (v := ?_) rfl (by kernel_rfl) (by kernel_rfl) (by kernel_rfl) (fun _ _ _ h => h) (Or.inl ⟨by kernel_rfl, ?_⟩) hHeld ?_
  rotate_left
  focus (intro w hSw; (try dsimp only at hSw); go_simp; try with_reducible rfl)
  simp only [Act.put]
  refine wpAnyH_take (i := 10) (v := ?_) rfl (by kernel_rfl) (by kernel_rfl) (by kernel_rfl) (fun _ _ _ h => h) (Or.inl ⟨by kernel_rfl, ?_⟩) hHeld ?_
  rotate_left
  focus (intro w hSw; (try dsimp only at hSw); go_simp; try with_reducible rfl)
  simp only [Act.put]
  refine wpAnyH_ready (rs := [7]) (by kernel_rfl) (by simp) ?_
  refine AllReadyH.cons rfl (fun K hK => ?_) (AllReadyH.nil)
  go_simp
  refine (HATT.out _).mono ?_
  rintro e w3 ⟨rfl, hb3⟩
  have hd3 := below0 hd2 hb3
  refine hK.out _ _ (HSP.out _ hd3) (fun hHeld => ?_)
  clear hK K
  try simp only [Act.put]
  refine wpAnyH_ready (rs := [11]) (by kernel_rfl) (by simp) ?_
  refine AllReadyH.cons rfl (fun K hK => ?_) (AllReadyH.nil)
  go_simp
  refine (HPKK.out _ (below0 HB1.out hd3)).mono ?_
  rintro e w4 ⟨A, mm, cc, rfl, hmm, hown, hb4⟩
  have hd4 := below0 hd3 hb4
  have h8 : 0 < mm := by rw [hmm, HBS.out]; omega
  obtain ⟨gb, cb, hAA, _, _⟩ := hown.form h8
  injection hAA with hA1 hA2 hA3
  subst hA1 hA3
  have hcb := (own_cap hown).1
  rw [hmm, HBS.out] at hcb hown
  rw [HBS.out] at hmm
  subst hmm
  refine hK.out _ _ (HSP.out _ hd4) (fun hHeld => ?_)
  clear hK K
  try simp only [Act.put]
  refine wpAnyH_take (i := 12) (v := ?_) rfl (by kernel_rfl) (by kernel_rfl) (by kernel_rfl) (fun _ _ _ h => h) (Or.inl ⟨by kernel_rfl, ?_⟩) hHeld ?_
  rotate_left
  focus (intro w hSw; (try dsimp only at hSw); go_simp; try with_reducible rfl)
  simp only [Act.put]
  refine wpAnyH_take (i := 13) (v := ?_) rfl (by kernel_rfl) (by kernel_rfl) (by kernel_rfl) (fun _ _ _ h => h) (Or.inl ⟨by kernel_rfl, ?_⟩) hHeld ?_
  rotate_left
  focus (intro w hSw; (try dsimp only at hSw); go_simp; try with_reducible rfl)
  simp only [Act.put]
  refine wpAnyH_take (i := 14) (v := ?_) rfl (by kernel_rfl) (by kernel_rfl) (by kernel_rfl) (fun _ _ _ h => h) (Or.inl ⟨by kernel_rfl, ?_⟩) hHeld ?_
  rotate_left
  focus (intro w hSw; (try dsimp only at hSw); go_simp; try with_reducible rfl)
  simp only [Act.put]
  refine wpAnyH_ready (rs := [15]) (by kernel_rfl) (by simp) ?_
  refine AllReadyH.cons rfl (fun K hK => ?_) (AllReadyH.nil)
  go_simp
  refine hK.out _ _ (HSP.out _ hd4) (fun hHeld => ?_)
  clear hK K
  try simp only [Act.put]
  refine wpAnyH_done (by kernel_rfl) ?_ _
  have hBw4 := below0 HB1.out hd4
  have HU := Lib.hid (HUN.out w4 gb _ hBw4 ((Vm.sees_own hown)) hcb)
  refine NoPanic.normal ?_
  have HRR4 := Lib.hid (HRR.out.below hd4)
  have HRX4 := Lib.hid (HRX.out.below hd4)
  have HB4 := Lib.hid hBw4
  clear hown hd2 hd3 hd4 hb3 hb4 hBw4 HATT HPKK HUN HSP HRR HRX HB1 HB2 hHeld
  go_wp2_with fail
  refine HU.out.mono ?_
  rintro e w5 ⟨rfl, hb5⟩
  have HRR5 := Lib.hid (HRR4.out.below hb5)
  have hrx5 := HRX4.out.below hb5
  have HRX5 := Lib.hid hrx5
  have HB5 := Lib.hid (below0 HB4.out hb5)
  have x0 : World.cell? w5 ⟨w.heap.size + 1 + 1, 0, none⟩ = _ := hrx5.cell 0
  have x1 : World.cell? w5 ⟨w.heap.size + 1 + 1, 1, none⟩ = _ := hrx5.cell 1
  have x2 : World.cell? w5 ⟨w.heap.size + 1 + 1, 2, none⟩ = _ := hrx5.cell 2
  have x3 : World.cell? w5 ⟨w.heap.size + 1 + 1, 3, none⟩ = _ := hrx5.cell 3
  have g0 := hrx5.frozen 0
  have g1 := hrx5.frozen 1
  have g2 := hrx5.frozen 2
  have g3 := hrx5.frozen 3
  have rx6 := row_set4 (.int .i64 v0) (.int .i64 v1) (.int .i64 v2) (.int .i64 v3) hrx5
  have rr6 : Row ((((w5.setCell ⟨w.heap.size + 1 + 1, 0, none⟩ (.int .i64 v0)).setCell ⟨w.heap.size + 1 + 1, 1, none⟩ (.int .i64 v1)).setCell ⟨w.heap.size + 1 + 1, 2, none⟩ (.int .i64 v2)).setCell ⟨w.heap.size + 1 + 1, 3, none⟩ (.int .i64 v3)) (w.heap.size + 1) 43 [.int .i64 0, .int .i64 0, .int .i64 0, .int .i64 0] := HRR5.out.same ((heap_set (by omega)).trans ((heap_set (by omega)).trans ((heap_set (by omega)).trans ((heap_set (by omega)).trans rfl))))
  have hb6 := below_set4 (b := w.heap.size + 1 + 1) (.int .i64 v0) (.int .i64 v1) (.int .i64 v2) (.int .i64 v3) HB5.out (by omega)
  have HX6 := Lib.hid rx6
  have HRR6 := Lib.hid rr6
  have HB6 := Lib.hid hb6
  have a0 : World.cell? _ ⟨w.heap.size + 1 + 1, 0, none⟩ = _ := rx6.cell 0
  have a1 : World.cell? _ ⟨w.heap.size + 1 + 1, 1, none⟩ = _ := rx6.cell 1
  have a2 : World.cell? _ ⟨w.heap.size + 1 + 1, 2, none⟩ = _ := rx6.cell 2
  have a3 : World.cell? _ ⟨w.heap.size + 1 + 1, 3, none⟩ = _ := rx6.cell 3
  have y0 : World.cell? _ ⟨w.heap.size + 1, 0, none⟩ = _ := rr6.cell 0
  have y1 : World.cell? _ ⟨w.heap.size + 1, 1, none⟩ = _ := rr6.cell 1
  have y2 : World.cell? _ ⟨w.heap.size + 1, 2, none⟩ = _ := rr6.cell 2
  have y3 : World.cell? _ ⟨w.heap.size + 1, 3, none⟩ = _ := rr6.cell 3
  have h0 := rr6.frozen 0
  have h1 := rr6.frozen 1
  have h2 := rr6.frozen 2
  have h3 := rr6.frozen 3
  clear rx6 rr6 hb6 hrx5 hb5 HU HRR4 HRX4 HB4 HRR5 HRX5 HB5
  go_wp2
  refine hR.out _ _ _ _ (by simp) ?_
  have R8 := row_set4 (.int .i64 v0) (.int .i64 v1) (.int .i64 v2) (.int .i64 v3) HRR6.out
  have B8 := below_set4 (b := w.heap.size + 1) (.int .i64 v0) (.int .i64 v1) (.int .i64 v2) (.int .i64 v3) HB6.out (by omega)
  clear x0 y0 g0 h0 a0 x1 y1 g1 h1 a1 x2 y2 g2 h2 a2 x3 y3 g3 h3 a3
  have d0 : World.cell? _ ⟨w.heap.size + 1, 0, none⟩ = _ := R8.cell 0
  have d1 : World.cell? _ ⟨w.heap.size + 1, 1, none⟩ = _ := R8.cell 1
  have d2 : World.cell? _ ⟨w.heap.size + 1, 2, none⟩ = _ := R8.cell 2
  have d3 : World.cell? _ ⟨w.heap.size + 1, 3, none⟩ = _ := R8.cell 3
  exact bodyPost_ret (v := .tuple #[.agg #[.int .i64 v0, .int .i64 v1, .int .i64 v2, .int .i64 v3], .int .i64 0]) (by simp [results, Tryz.results66, go_sem, d0, d1, d2, d3]) rfl ⟨rfl, B8⟩
end Go.Proofs.YtiahmccchpmdgaaGreatDoor.Me
