import Derived.Test.YtmocdokikcbjeaaQues
import Derived.Test.YtmocdokikcbjeaaEntry
namespace Go.Proofs.Ytmocdokikcbjeaa
open Go.RowKit Go.Shelf Go.Maps
attribute [local go_sem] Oper.semAt_some

/- A PAGE THAT IS NOT MAPPED IS MAPPED. -/
/-- what the two stores make of the world, step by step -/
structure Ent (w : World) (b bp bf : Nat) (l : Tb) (p : Int) (x : En) (V : World) (st1 st2 : Nat) (v1 v2 : Value) (w2 w3 w4 w5 : World) : Prop where
  r2 : (Instr.mapEntry 70 (.map (some bp)) (.int .i64 p)).run Try.prog V = .ok (.tuple #[v1, .int .i64 (st1 : Int)]) w2
  r3 : (Instr.entryStore 70 (.map (some bp)) (.int .i64 (st1 : Int)) (enV x)).run Try.prog w2 = .ok () w3
  r4 : (Instr.mapEntry 71 (.map (some bf)) (.int .i64 x.2.2)).run Try.prog w3 = .ok (.tuple #[v2, .int .i64 (st2 : Int)]) w4
  r5 : (Instr.entryStore 71 (.map (some bf)) (.int .i64 (st2 : Int)) (.agg #[])).run Try.prog w4 = .ok () w5
  k2 : ∀ k, k ≠ bp → k ≠ bf → w2.heap[k]? = V.heap[k]?
  k3 : ∀ k, k ≠ bp → k ≠ bf → w3.heap[k]? = V.heap[k]?
  k4 : ∀ k, k ≠ bp → k ≠ bf → w4.heap[k]? = V.heap[k]?
  k5 : ∀ k, k ≠ bp → k ≠ bf → w5.heap[k]? = V.heap[k]?
  rep : Rep w5 b (ins l p x) bp bf
  keep : Keep (blocks b bp bf) w w5
theorem grown_heap {w w' : World} {b : Nat} (h : w.grownBy w' (some b)) (hs : w'.heap.size = w.heap.size) (k : Nat) (hk : k ≠ b) : w'.heap[k]? = w.heap[k]? := by
  rcases Nat.lt_or_ge k w.heap.size with h1 | h1
  · exact h.block k h1 (fun e => hk (Option.some.inj e))
  · rw [Array.getElem?_eq_none h1, Array.getElem?_eq_none (by omega)]
theorem enter_steps {b bp bf : Nat} {l : Tb} {w V : World} (h : Rep w b l bp bf) (p : Int) (x : En) (hE : mapE l p x = 0) (hx : En64 x) (hV : Below w.heap.size w V) :
    ∃ st1 st2 v1 v2 w2 w3 w4 w5, Ent w b bp bf l p x V st1 st2 v1 v2 w2 w3 w4 w5 := by
  obtain ⟨g1, g2, g3, g4⟩ := mapE_0 hE
  have hok := map_ok h.ok p x hx
  have hT : mapT l p x = ins l p x := by unfold mapT; rw [if_pos hE]
  rw [hT] at hok
  have hr := h.below hV
  have hll := h.ok.len
  have hll2 := hok.len
  obtain ⟨D, hD, hF⟩ := hr.frames
  have np := h.ne_p
  have nf := h.ne_f
  have ne := h.ne
  obtain ⟨v1, st1, w2, a1, a2, a3, a4⟩ := entry_own (t := 70) hr.pages law Try.underlying70 zeroP (by decide) (keyZ (page64 g2))
  obtain ⟨w3, b1, b2, b3, b4⟩ := a4 w2 (enV x) (entD x) [] rfl (entR_en x)
  have f2 : w2.heap[bf]? = V.heap[bf]? := grown_heap a2 a3 bf ne.symm
  have f3 : w3.heap[bf]? = V.heap[bf]? := (grown_heap b3 b4 bf ne.symm).trans f2
  obtain ⟨v2, st2, w4, c1, c2, c3, c4⟩ := entry_own (t := 71) (owns_same hD f3) law Try.underlying71 zeroU (by decide) (keyZ hx.2.2)
  obtain ⟨w5, d1, d2, d3, d4⟩ := c4 w4 (.agg #[]) unitD [] rfl rfl
  rw [mapP_put x g3] at b2
  refine ⟨st1, st2, v1, v2, w2, w3, w4, w5, a1, b1, c1, d1, fun k h1 h2 => grown_heap a2 a3 k h1, fun k h1 h2 => (grown_heap b3 b4 k h1).trans (grown_heap a2 a3 k h1), fun k h1 h2 => (grown_heap c2 c3 k h2).trans ((grown_heap b3 b4 k h1).trans (grown_heap a2 a3 k h1)), fun k h1 h2 => (grown_heap d3 d4 k h2).trans ((grown_heap c2 c3 k h2).trans ((grown_heap b3 b4 k h1).trans (grown_heap a2 a3 k h1))), ⟨hok, ?_, ?_, ⟨_, ?_, hF.put p x g4⟩, ne⟩, ?_⟩
  · refine hr.obj.same ?_
    rw [grown_heap d3 d4 b nf, grown_heap c2 c3 b nf, grown_heap b3 b4 b np, grown_heap a2 a3 b np]
  · refine owns_tight (owns_same b2 ?_) (by rw [mapP_size]; exact hll2)
    rw [grown_heap d3 d4 bp ne, grown_heap c2 c3 bp ne]
  · exact owns_tight d2 (by rw [(hF.put p x g4).size]; exact hll2)
  · have kV : Keep (blocks b bp bf) w V := Keep.of_below hV
    exact (((kV.grown a2 (fun r e => by cases e; exact .inr (.inr (.inl rfl)))).grown b3 (fun r e => by cases e; exact .inr (.inr (.inl rfl)))).grown c2 (fun r e => by cases e; exact .inr (.inr (.inr rfl)))).grown d3 (fun r e => by cases e; exact .inr (.inr (.inr rfl)))
set_option maxHeartbeats 2000000 in
theorem enter_any {b bp bf : Nat} {l : Tb} {w : World} (h : Rep w b l bp bf) (p : Int) (x : En) (hE : mapE l p x = 0) (hx : En64 x) :
    Calls Try.prog 49 #[bx b, .int .i64 p, enV x] w fun e w' => (∃ v, e = .returned v) ∧ Rep w' b (ins l p x) bp bf ∧ Keep (blocks b bp bf) w w' := by
  obtain ⟨w1, hw1⟩ : ∃ w1, w1 = w.alloc (.cells #[.int .i64 x.1, .int .i64 x.2.1, .int .i64 x.2.2] 34) := ⟨_, rfl⟩
  have hb1 : Below w.heap.size w w1 := hw1 ▸ below1 w _
  obtain ⟨st1, st2, v1, v2, w2, w3, w4, w5, hN⟩ := enter_steps h p x hE hx hb1.drew
  have hr1 := h.below hb1
  have c0 := hr1.c0
  have c1 := hr1.c1
  have hbl := h.obj.lt
  have hpl := h.pages.lt
  have hfl := h.frames.lt
  have s0 : w1.cell? ⟨w.heap.size, 0, none⟩ = some (.int .i64 x.1) := by rw [hw1]; exact cell_alloc_new _ _ _ _
  have s1 : w1.cell? ⟨w.heap.size, 1, none⟩ = some (.int .i64 x.2.1) := by rw [hw1]; exact cell_alloc_new _ _ _ _
  have s2 : w1.cell? ⟨w.heap.size, 2, none⟩ = some (.int .i64 x.2.2) := by rw [hw1]; exact cell_alloc_new _ _ _ _
  have np := h.ne_p
  have nf := h.ne_f
  have HSA := Lib.hid (fun (W : World) (hW : ∀ k, k ≠ bp → k ≠ bf → W.heap[k]? = w1.heap[k]?) => (show W.cell? ⟨b, 0, none⟩ = some (.map (some bp)) ∧ W.cell? ⟨b, 1, none⟩ = some (.map (some bf)) ∧ W.cell? ⟨w.heap.size, 0, none⟩ = some (.int .i64 x.1) ∧ W.cell? ⟨w.heap.size, 1, none⟩ = some (.int .i64 x.2.1) ∧ W.cell? ⟨w.heap.size, 2, none⟩ = some (.int .i64 x.2.2) from
    ⟨(World.cell?_of_block (hW b np nf)).trans c0, (World.cell?_of_block (hW b np nf)).trans c1, (World.cell?_of_block (hW w.heap.size (by omega) (by omega))).trans s0, (World.cell?_of_block (hW w.heap.size (by omega) (by omega))).trans s1, (World.cell?_of_block (hW w.heap.size (by omega) (by omega))).trans s2⟩))
  have H1 := Lib.hid (HSA.out w1.drew (fun _ _ _ => rfl))
  have H2 := Lib.hid (HSA.out w2 hN.k2)
  have H3 := Lib.hid (HSA.out w3 hN.k3)
  have H4 := Lib.hid (HSA.out w4 hN.k4)
  have H5 := Lib.hid (HSA.out w5 hN.k5)
  have r2 := hN.r2
  have r3 : (Instr.entryStore 70 (.map (some bp)) (.int .i64 (st1 : Int)) (.agg #[.int .i64 x.1, .int .i64 x.2.1, .int .i64 x.2.2])).run Try.prog w2 = .ok () w3 := hN.r3
  have r4 := hN.r4
  have r5 := hN.r5
  have HF := Lib.hid (And.intro hN.rep hN.keep)
  have HW := Lib.hid hw1
  have mixed : Try.prog.follows .mixedOrders = true := by kernel_rfl
  rw [show enV x = .agg #[.int .i64 x.1, .int .i64 x.2.1, .int .i64 x.2.2] from rfl]
  obtain ⟨x1, x2, x3⟩ := x
  simp only at r2 r3 r4 r5 s0 s1 s2 H1 H2 H3 H4 H5 HF HW ⊢
  clear hN hr1 HSA hb1 hw1 hE hx h
  go_enter Try.func49, Try.ntmps49
  go_wp2_with fail
  rw [← HW.out]
  go_region_held3 (fun W => W.cell? ⟨b, 0, none⟩ = some (.map (some bp)) ∧ W.cell? ⟨b, 1, none⟩ = some (.map (some bf)) ∧ W.cell? ⟨w.heap.size, 0, none⟩ = some (.int .i64 x1) ∧ W.cell? ⟨w.heap.size, 1, none⟩ = some (.int .i64 x2) ∧ W.cell? ⟨w.heap.size, 2, none⟩ = some (.int .i64 x3))
    (first | exact H1.out | exact H2.out | exact H3.out | exact H4.out | exact H5.out)
    (fail)
  go_end0
  exact ⟨⟨_, rfl⟩, HF.out⟩
end Go.Proofs.Ytmocdokikcbjeaa
