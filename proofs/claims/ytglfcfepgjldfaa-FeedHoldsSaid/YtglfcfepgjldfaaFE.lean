import Derived.Test.YtglfcfepgjldfaaFD
namespace Go.Proofs.Ytglfcfepgjldfaa.Fe
open Go.RowKit Go.Shelf
attribute [local go_sem] Oper.semAt_some

/- A CALL BY BOTH: A COPY THAT GOES ON. -/
theorem AM.drew {Has : HasT} (H : Api Has) {w V : World} {F : Nat → Prop} {v : Value} {l : List UInt8} {p p' : Nat} {what n : Int} (h : AM Has w F v l p p' what n V) : AM Has w F v l p p' what n V.drew :=
  ⟨H.keep h.has (fun _ _ => rfl), ⟨h.keep.os, h.keep.tape, h.keep.output, h.keep.size, h.keep.block⟩, h.box, h.act, h.res, h.fl⟩
set_option maxRecDepth 100000 in
set_option maxHeartbeats 4000000 in
theorem act_copy {Has : HasT} (H : Api Has) (v : Value) (l : List UInt8) (p : Nat) (F : Nat → Prop) (what n : Int) (w : World) (h : Has w v l p F) (_hf : i64 n) (hw : ¬ (0 ≤ what ∧ what ≤ 4)) :
    Calls Try.prog 8 #[v, fv l p, .agg #[.int .i64 what, .int .i64 n]] w (ActP Has w F l p) := by
  have hn := Lib.hid (fun n w => num_any n w)
  obtain ⟨W0, hW0⟩ : ∃ W0, W0 = ((w.alloc (.cells #[.string (str l), .int .i64 (p : Int)] 28)).alloc (.cells #[.int .i64 what, .int .i64 n] 32)).alloc (.cells #[.string { data := #[] }, .int .i64 0] 28) := ⟨_, rfl⟩
  have hM : AM Has w F v l p p what n W0 := by rw [hW0]; exact AM.start H h
  have HM := Lib.hid hM
  have HW0 := Lib.hid hW0
  clear hW0 hM h
  have q0 : (what == 0) = false := by rw [beq_eq_false_iff_ne]; omega
  have q1 : (what == 1) = false := by rw [beq_eq_false_iff_ne]; omega
  have q2 : (what == 2) = false := by rw [beq_eq_false_iff_ne]; omega
  have q3 : (what == 3) = false := by rw [beq_eq_false_iff_ne]; omega
  have q4 : (what == 4) = false := by rw [beq_eq_false_iff_ne]; omega
  have HC := Lib.hid (fun (V : World) (hV : Has V v l p F) => H.copy hV)
  clear hw
  go_enter Try.func8, Try.ntmps8
  go_wp2_with fail
  rw [← HW0.out]
  have HMD := Lib.hid (AM.drew H HM.out)
  have hlt0 : w.heap.size + 3 ≤ W0.heap.size := by have := HM.out.res.lt; omega
  have HL0 := Lib.hid hlt0
  clear hlt0
  refine wp_region_noPanic ?_
  refine wp_region_held_drew (S := fun W => W.cell? ⟨w.heap.size, 0, none⟩ = some (.string (str l)) ∧ W.cell? ⟨w.heap.size, 1, none⟩ = some (.int .i64 (p : Int))) (by kernel_rfl) ?_ (fun hHeld => ?_)
  · exact ⟨HMD.out.box.cell 0, HMD.out.box.cell 1⟩
  refine wpAnyH_take (i := 0) (v := ?_) rfl (by kernel_rfl) (by kernel_rfl) (by kernel_rfl) (fun _ _ _ h => h) (Or.inl ⟨by kernel_rfl, ?_⟩) hHeld ?_
  rotate_left
  focus (intro w hSw; (try dsimp only at hSw); go_simp; try with_reducible rfl)
  try simp only [Act.put]
  refine wpAnyH_take (i := 2) (v := ?_) rfl (by kernel_rfl) (by kernel_rfl) (by kernel_rfl) (fun _ _ _ h => h) (Or.inl ⟨by kernel_rfl, ?_⟩) hHeld ?_
  rotate_left
  focus (intro w hSw; (try dsimp only at hSw); go_simp; try with_reducible rfl)
  try simp only [Act.put]
  refine wpAnyH_ready (rs := [1]) (by kernel_rfl) (by simp) ?_
  refine AllReadyH.cons rfl (fun K hK => ?_) (AllReadyH.nil)
  go_simp
  go_at_call 12
  refine (HC.out _ HMD.out.has).mono ?_
  rintro e V1 ⟨v2, F2, rfl, y1, y2, y3⟩
  have HY1 := Lib.hid y1
  have HY2 := Lib.hid y2
  have HM1 := Lib.hid (AM.more H HMD.out y3)
  clear y1 y2 y3
  go_simp
  refine hK.out _ _ ?_ (fun hHeld => ?_)
  · exact ⟨HM1.out.box.cell 0, HM1.out.box.cell 1⟩
  clear hK K
  try simp only [Act.put]
  have c0 : V1.cell? ⟨w.heap.size + 1 + 1, 0, none⟩ = some (.string (str [])) := HM1.out.res.cell 0
  have c1 : V1.cell? ⟨w.heap.size + 1 + 1, 1, none⟩ = some (.int .i64 0) := HM1.out.res.cell 1
  have f0 : V1.frozen? ⟨w.heap.size + 1 + 1, 0, none⟩ = false := HM1.out.res.frozen 0
  have f1 : V1.frozen? ⟨w.heap.size + 1 + 1, 1, none⟩ = false := HM1.out.res.frozen 1
  have hlt : w.heap.size + 1 + 1 < V1.heap.size := HM1.out.res.lt
  have HBZ := Lib.hid (show ((V1.setCell ⟨w.heap.size + 1 + 1, 0, none⟩ (.string (str l))).setCell ⟨w.heap.size + 1 + 1, 1, none⟩ (.int .i64 (p : Int))).cell? ⟨w.heap.size, 0, none⟩ = some (.string (str l)) ∧ ((V1.setCell ⟨w.heap.size + 1 + 1, 0, none⟩ (.string (str l))).setCell ⟨w.heap.size + 1 + 1, 1, none⟩ (.int .i64 (p : Int))).cell? ⟨w.heap.size, 1, none⟩ = some (.int .i64 (p : Int)) from by
    have hz : Row ((V1.setCell ⟨w.heap.size + 1 + 1, 0, none⟩ (.string (str l))).setCell ⟨w.heap.size + 1 + 1, 1, none⟩ (.int .i64 (p : Int))) w.heap.size 28 (fc l p) := HM1.out.box.same ((heap_set (by omega)).trans (heap_set (by omega)))
    exact ⟨hz.cell 0, hz.cell 1⟩)
  refine wpAnyH_take (i := 3) (v := ?_) rfl (by kernel_rfl) (by kernel_rfl) (by kernel_rfl) (fun _ _ _ h => h) (Or.inl ⟨by kernel_rfl, ?_⟩) hHeld ?_
  rotate_left
  focus (intro w hSw; (try dsimp only at hSw); go_simp; try with_reducible rfl)
  try simp only [Act.put]
  refine wpAnyH_ready (rs := [4]) (by kernel_rfl) (by simp) ?_
  refine AllReadyH.cons rfl (fun K hK => ?_) (AllReadyH.nil)
  go_simp
  refine hK.out _ _ ?_ (fun hHeld => ?_)
  · exact HBZ.out
  clear hK K
  try simp only [Act.put]
  refine wpAnyH_ready (rs := [5]) (by kernel_rfl) (by simp) ?_
  refine AllReadyH.cons rfl (fun K hK => ?_) (AllReadyH.nil)
  go_simp
  refine hK.out _ _ ?_ (fun hHeld => ?_)
  · exact HBZ.out
  clear hK K
  try simp only [Act.put]
  refine wpAnyH_done (by kernel_rfl) ?_ _
  refine NoPanic.normal ?_
  go_wp2_with fail
  obtain ⟨Z, hZ⟩ : ∃ Z, Z = (V1.setCell ⟨w.heap.size + 1 + 1, 0, none⟩ (.string (str l))).setCell ⟨w.heap.size + 1 + 1, 1, none⟩ (.int .i64 (p : Int)) := ⟨_, rfl⟩
  have k : Has Z v2 l p F2 ∧ Keep F w Z ∧ Z.cell? ⟨w.heap.size + 1 + 1, 0, none⟩ = some (.string (str l)) ∧ Z.cell? ⟨w.heap.size + 1 + 1, 1, none⟩ = some (.int .i64 (p : Int)) := by
    rw [hZ]
    have kk := AM.fin H (q := p) HM1.out ((V1.setCell ⟨w.heap.size + 1 + 1, 0, none⟩ (.string (str l))).setCell ⟨w.heap.size + 1 + 1, 1, none⟩ (.int .i64 (p : Int))) rfl rfl rfl rfl
    refine ⟨H.keep HY1.out (fun k hk => ?_), kk.2.1, kk.2.2.1, kk.2.2.2⟩
    have h1 : W0.heap.size ≤ k := HY2.out k hk
    have h2 := HL0.out
    exact (heap_set (by omega)).trans (heap_set (by omega))
  rw [← hZ]
  obtain ⟨z1, z2, k0, k1⟩ := k
  exact bodyPost_ret (v := .tuple #[v2, fv l p, .bool true]) (by simp [results, Try.results8, go_sem, k0, k1]) rfl ⟨v2, F2, rfl, z1, z2, fun k hk => .inr (by have h1 : W0.heap.size ≤ k := HY2.out k hk; have h2 := HL0.out; omega)⟩
end Go.Proofs.Ytglfcfepgjldfaa.Fe
