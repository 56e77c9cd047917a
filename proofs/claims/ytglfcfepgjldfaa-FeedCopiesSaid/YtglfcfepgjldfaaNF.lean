import Derived.Test.YtglfcfepgjldfaaNE
namespace Go.Proofs.Ytglfcfepgjldfaa.Fe
open Go.RowKit Go.Shelf
attribute [local go_sem] Oper.semAt_some

/- SEEK; PICKS: THE ITERATORS. -/
section
variable {w : World} {v : Value} {l : List UInt8} {p : Nat} {F : Nat → Prop}
def seekB (v : Value) (z : Int) : List (Value × TypeId) := [(v, 25), (.int .i64 z, 3)]
theorem seek_asked {b g : Nat} (h : FRep w b g l p) (z : Int) :
    Calls Try.prog 29 #[.slice (some ⟨w.heap.size + 2, 0, none⟩) 2 2] (askW w (seekB (pb b) z) [⟨26, #[pb b], #[], 1, true⟩, ⟨34, #[], #[pb w.heap.size, pb (w.heap.size + 1)], 4, true⟩]) fun e w' => e = .returned (.int .i64 (if decide (0 ≤ z ∧ z ≤ (l.length : Int)) = true then 0 else 4)) ∧ Boxes w [pb b, .int .i64 z] w' :=
  ask_two h (seekB (pb b) z) (w.heap.size + 2) rfl 34 #[pb w.heap.size, pb (w.heap.size + 1)] 4 (decide (0 ≤ z ∧ z ≤ (l.length : Int))) (enters_of Try.func34 (by kernel_rfl) rfl) (fun V hV => seek1_any (h.below hV.below) _ _ z (hV.cell 0 _ rfl) (hV.cell 1 _ rfl))
theorem fseek_no (z : Int) (h : HasF w v l p F) (hz : z < 0 ∨ (l.length : Int) < z) : Calls Try.prog 18 #[v, .int .i64 z] w fun e w' => e = .returned (.tuple #[.int .i64 0, .int .i64 4]) ∧ Nx HasF w v l p F w' := by
  obtain ⟨b, g, rfl, h, rfl⟩ := h
  have hA := seek_asked h z
  rw [decide_eq_false (show ¬ (0 ≤ z ∧ z ≤ (l.length : Int)) by omega), if_neg (by simp)] at hA
  have hA := Lib.hid hA
  have hN := Lib.hid (fun w' hb => nx_low (w' := w') h hb)
  clear h hz
  go_enter Try.func18, Try.ntmps18
  go_wp2_with fail
  refine wp_scope_jump 1 fun R hR hJm => ?_
  go_wp2_with fail
  refine hA.out.mono ?_
  rintro e w1 ⟨rfl, hB⟩
  have hfin := Lib.hid (hN.out w1 hB.below)
  clear hB hN hA
  go_wp2_with fail
  refine wp_goto (hJm.out _ _ _ _ _ rfl ?_)
  go_wp2_with fail
  refine hR.out _ _ _ _ (by simp) ?_
  go_ret2
  exact ⟨rfl, hfin.out⟩
theorem seek_non (h : NonF w v) (z : Int) : Calls Try.prog 18 #[v, .int .i64 z] w fun e w' => e = .returned (.tuple #[.int .i64 0, .int .i64 1]) ∧ Below w.heap.size w w' := by
  have hA := Lib.hid (ask_non h (seekB v z) (w.heap.size + 2) rfl [⟨34, #[], #[pb w.heap.size, pb (w.heap.size + 1)], 4, true⟩] 2 rfl (by omega))
  obtain ⟨pv, rfl⟩ := h.ptr
  clear h
  go_enter Try.func18, Try.ntmps18
  go_wp2_with fail
  refine wp_scope_jump 1 fun R hR hJm => ?_
  go_wp2_with fail
  refine hA.out.mono ?_
  rintro e w1 ⟨rfl, hB⟩
  have hfin := Lib.hid hB.below
  clear hB hA
  go_wp2_with fail
  refine wp_goto (hJm.out _ _ _ _ _ rfl ?_)
  go_wp2_with fail
  refine hR.out _ _ _ _ (by simp) ?_
  go_ret2
  exact ⟨rfl, hfin.out⟩
set_option maxHeartbeats 1000000 in
theorem fseek (q : Nat) (h : HasF w v l p F) (hq : q ≤ l.length) : Calls Try.prog 18 #[v, .int .i64 (q : Int)] w fun e w' => e = .returned (.tuple #[.int .i64 (p : Int), .int .i64 0]) ∧ Nx HasF w v l q F w' := by
  obtain ⟨b, g, rfl, h, rfl⟩ := h
  have hA := seek_asked h (q : Int)
  rw [decide_eq_true (show 0 ≤ (q : Int) ∧ (q : Int) ≤ (l.length : Int) by omega), if_pos rfl] at hA
  have hA := Lib.hid hA
  have hN := Lib.hid (fun w1 (hB : Boxes w [pb b, .int .i64 (q : Int)] w1) => (show (w1.drew.cell? ⟨w.heap.size, 0, none⟩ = some (pb b) ∧ w1.drew.cell? ⟨w.heap.size + 1, 0, none⟩ = some (.int .i64 (q : Int)) ∧ w1.drew.cell? ⟨b, 1, none⟩ = some (.int .i64 (p : Int)) ∧ w1.drew.frozen? ⟨b, 1, none⟩ = false) ∧
      Nx HasF w (pb b) l q (fun k => k = b ∨ k = g) (w1.drew.setCell ⟨b, 1, none⟩ (.int .i64 (q : Int))) ∧
      (w1.drew.setCell ⟨b, 1, none⟩ (.int .i64 (q : Int))).cell? ⟨w.heap.size, 0, none⟩ = some (pb b) ∧ (w1.drew.setCell ⟨b, 1, none⟩ (.int .i64 (q : Int))).cell? ⟨w.heap.size + 1, 0, none⟩ = some (.int .i64 (q : Int)) from
    ⟨⟨hB.cell 0 _ rfl, hB.cell 1 _ rfl, (h.below hB.below).c1, (h.below hB.below).obj.frozen 1⟩, nx_of ((h.below hB.below.drew).at_ hq) ((Keep.of_below hB.below.drew).set _ (.inl rfl)),
      (World.cell?_of_block (heap_set (by have := h.obj.lt; simp only; omega))).trans (hB.cell 0 _ rfl), (World.cell?_of_block (heap_set (by have := h.obj.lt; simp only; omega))).trans (hB.cell 1 _ rfl)⟩))
  clear h hq
  go_enter Try.func18, Try.ntmps18
  go_wp2_with fail
  refine wp_scope_jump 1 fun R hR hJm => ?_
  go_wp2_with fail
  refine hA.out.mono ?_
  rintro e w1 ⟨rfl, hB⟩
  obtain ⟨⟨c1, c2, c3, c4⟩, hfin, hd2⟩ := hN.out w1 hB
  have hfin := Lib.hid hfin
  have hd2 := Lib.hid hd2
  have hdr := And.intro c1 c2
  clear hB hN hA
  go_wp2_with fail
  refine wp_region_noPanic ?_
  refine wp_region_held_drew (S := fun W => W.cell? ⟨w.heap.size, 0, none⟩ = some (pb b) ∧ W.cell? ⟨w.heap.size + 1, 0, none⟩ = some (.int .i64 (q : Int))) (by kernel_rfl) hdr (fun hHeld => ?_)
  refine wpAnyH_take (i := 0) (v := ?_) rfl (by kernel_rfl) (by kernel_rfl) (by kernel_rfl) (fun _ _ _ h => h) (Or.inl ⟨by kernel_rfl, ?_⟩) hHeld ?_
  rotate_left
  focus (intro w hSw; (try dsimp only at hSw); go_simp; try with_reducible rfl)
  simp only [Act.put]
  refine wpAnyH_take (i := 1) (v := ?_) rfl (by kernel_rfl) (by kernel_rfl) (by kernel_rfl) (fun _ _ _ h => h) (Or.inl ⟨by kernel_rfl, ?_⟩) hHeld ?_
  rotate_left
  focus (intro w hSw; (try dsimp only at hSw); go_simp; try with_reducible rfl)
  simp only [Act.put]
  refine wpAnyH_take (i := 2) (v := ?_) rfl (by kernel_rfl) (by kernel_rfl) (by kernel_rfl) (fun _ _ _ h => h) (Or.inl ⟨by kernel_rfl, ?_⟩) hHeld ?_
  rotate_left
  focus (intro w hSw; (try dsimp only at hSw); go_simp; try with_reducible rfl)
  simp only [Act.put]
  refine wpAnyH_take (i := 3) (v := ?_) rfl (by kernel_rfl) (by kernel_rfl) (by kernel_rfl) (fun _ _ _ h => h) (Or.inl ⟨by kernel_rfl, ?_⟩) hHeld ?_
  rotate_left
  focus (intro w hSw; (try dsimp only at hSw); go_simp; try with_reducible rfl)
  simp only [Act.put]
  refine wpAnyH_take (i := 5) (v := ?_) rfl (by kernel_rfl) (by kernel_rfl) (by kernel_rfl) (fun _ _ _ h => h) (Or.inl ⟨by kernel_rfl, ?_⟩) hHeld ?_
  rotate_left
  focus (intro w hSw; (try dsimp only at hSw); go_simp; try with_reducible rfl)
  simp only [Act.put]
  refine wpAnyH_ready (rs := [4]) (by kernel_rfl) (by simp) ?_
  refine AllReadyH.cons rfl (fun K hK => ?_) (AllReadyH.nil)
  go_simp
  refine hK.out _ _ hdr (fun hHeld => ?_)
  clear hK K
  try simp only [Act.put]
  refine wpAnyH_ready (rs := [6]) (by kernel_rfl) (by simp) ?_
  refine AllReadyH.cons rfl (fun K hK => ?_) (AllReadyH.nil)
  go_simp
  refine hK.out _ _ hdr (fun hHeld => ?_)
  clear hK K
  try simp only [Act.put]
  refine wpAnyH_take (i := 7) (v := ?_) rfl (by kernel_rfl) (by kernel_rfl) (by kernel_rfl) (fun _ _ _ h => h) (Or.inl ⟨by kernel_rfl, ?_⟩) hHeld ?_
  rotate_left
  focus (intro w hSw; (try dsimp only at hSw); go_simp; try with_reducible rfl)
  simp only [Act.put]
  refine wpAnyH_take (i := 8) (v := ?_) rfl (by kernel_rfl) (by kernel_rfl) (by kernel_rfl) (fun _ _ _ h => h) (Or.inl ⟨by kernel_rfl, ?_⟩) hHeld ?_
  rotate_left
  focus (intro w hSw; (try dsimp only at hSw); go_simp; try with_reducible rfl)
  simp only [Act.put]
  refine wpAnyH_ready (rs := [9]) (by kernel_rfl) (by simp) ?_
  refine AllReadyH.cons rfl (fun K hK => ?_) (AllReadyH.nil)
  go_simp
  refine hK.out _ _ hd2.out (fun hHeld => ?_)
  clear hK K
  try simp only [Act.put]
  refine wpAnyH_done (by kernel_rfl) (NoPanic.normal ?_) _
  go_wp2
  refine hR.out _ _ _ _ (by simp) ?_
  go_ret2
  exact ⟨rfl, hfin.out⟩

end
end Go.Proofs.Ytglfcfepgjldfaa.Fe
