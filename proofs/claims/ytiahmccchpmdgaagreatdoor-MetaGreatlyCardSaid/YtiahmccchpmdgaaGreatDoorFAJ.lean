import Derived.Test.YtiahmccchpmdgaaGreatDoorFAI
import Derived.Deep.RegionHeld3
import Derived.Test.YtiahmccchpmdgaaGreatDoorFAF
import Derived.Test.YtiahmccchpmdgaaGreatDoorFAH
namespace Go.Proofs.YtiahmccchpmdgaaGreatDoor.Pg
open Go.RowKit Go.Shelf Go.Maps
attribute [local go_sem] Oper.semAt_some

/- THE QUESTIONS. -/
theorem map2_any (g : Nat) (z : Int) (w : World) (hc : w.cell? ⟨g, 0, none⟩ = some (.int .i64 z)) : Calls Tryz.prog 195 #[bx g] w fun e w' => e = .returned (.bool (pageB z)) ∧ Below w.heap.size w w' := by
  have h1 := Lib.hid (fun w => known_any z w)
  obtain ⟨q, hq⟩ : ∃ q, q = pageB z := ⟨_, rfl⟩
  rw [← hq] at h1 ⊢
  clear hq
  go_enter Tryz.func195, Tryz.ntmps195
  go_wp2_with fail
  refine (h1.out _).mono ?_
  rintro e w1 ⟨rfl, rfl⟩
  go_wp2
  go_ret
  exact ⟨rfl, Below.refl _ _⟩
theorem unmap1_any (g : Nat) (z : Int) (w : World) (hc : w.cell? ⟨g, 0, none⟩ = some (.int .i64 z)) : Calls Tryz.prog 232 #[bx g] w fun e w' => e = .returned (.bool (pageB z)) ∧ Below w.heap.size w w' := by
  have h1 := Lib.hid (fun w => known_any z w)
  obtain ⟨q, hq⟩ : ∃ q, q = pageB z := ⟨_, rfl⟩
  rw [← hq] at h1 ⊢
  clear hq
  go_enter Tryz.func232, Tryz.ntmps232
  go_wp2_with fail
  refine (h1.out _).mono ?_
  rintro e w1 ⟨rfl, rfl⟩
  go_wp2
  go_ret
  exact ⟨rfl, Below.refl _ _⟩
theorem map1_any (g : Nat) (x : En) (w : World) (hc : ∀ (j : Nat) v, (enC x)[j]? = some v → w.cell? ⟨g, j, none⟩ = some v) : Calls Tryz.prog 193 #[bx g] w fun e w' => e = .returned (.bool (rightB x)) ∧ Below w.heap.size w w' := by
  have h1 := Lib.hid (show ∀ V, Calls Tryz.prog 194 #[.agg #[.int .i64 x.1, .int .i64 x.2.1, .int .i64 x.2.2]] V (fun e w' => e = .returned (.bool (rightB x)) ∧ Below V.heap.size V w') from fun V => proper_any x V)
  have c0 := hc 0 _ rfl
  have c1 := hc 1 _ rfl
  have c2 := hc 2 _ rfl
  obtain ⟨q, hq⟩ : ∃ q, q = rightB x := ⟨_, rfl⟩
  rw [← hq] at h1 ⊢
  clear hq hc
  obtain ⟨o, m, f⟩ := x
  simp only at c0 c1 c2 h1
  go_enter Tryz.func193, Tryz.ntmps193
  go_wp2_with fail
  refine (h1.out _).mono ?_
  rintro e w1 ⟨rfl, hb⟩
  go_wp2
  go_ret
  exact ⟨rfl, hb⟩
set_option maxHeartbeats 1000000 in
theorem map3_any {b bp bf : Nat} {l : Tb} {w : World} (h : Rep w b l bp bf) (gt gp : Nat) (z : Int) (hz : I64 z) (ht : w.cell? ⟨gt, 0, none⟩ = some (bx b)) (hp : w.cell? ⟨gp, 0, none⟩ = some (.int .i64 z)) :
    Calls Tryz.prog 197 #[bx gt, bx gp] w fun e w' => e = .returned (.bool (!(look l z).isSome)) ∧ Below w.heap.size w w' := by
  have hh := Lib.hid (fun V (hb : Below w.heap.size w V) => (show Calls Tryz.prog 198 #[bx b, .int .i64 z] V (fun e w' => e = .returned (.bool (look l z).isSome) ∧ Below w.heap.size w w') from
    (mapped_any b bp l z V hz (h.below hb).c0 (h.below hb).pages).mono fun e w' ⟨e1, e2⟩ => ⟨e1, below0 hb e2⟩))
  have l1 := lt_of_cell ht
  have l2 := lt_of_cell hp
  obtain ⟨q, hq⟩ : ∃ q, q = (look l z).isSome := ⟨_, rfl⟩
  rw [← hq] at hh ⊢
  have HSA := Lib.hid (fun W (hB : Below w.heap.size w W) => (show W.cell? ⟨gt, 0, none⟩ = some (bx b) ∧ W.cell? ⟨gp, 0, none⟩ = some (.int .i64 z) ∧ Below w.heap.size w W from
    ⟨(hB.cell (p := ⟨gt, 0, none⟩) l1).trans ht, (hB.cell (p := ⟨gp, 0, none⟩) l2).trans hp, hB⟩))
  have hdr := Lib.hid (show Below w.heap.size w w.drew from (Below.refl _ _).drew)
  clear hq h
  go_enter Tryz.func197, Tryz.ntmps197
  go_wp2_with fail
  go_region_held3 (fun W => W.cell? ⟨gt, 0, none⟩ = some (bx b) ∧ W.cell? ⟨gp, 0, none⟩ = some (.int .i64 z) ∧ Below w.heap.size w W)
    (first | exact HSA.out _ hdr.out | exact HSA.out _ (by assumption) | (go_split_ands; exact HSA.out _ (by assumption)))
    (first | (go_at_call 198; refine (hh.out _ (by go_split_ands; assumption)).mono ?_; rintro e w2 ⟨rfl, hb2⟩))
  go_wp2
  go_ret
  exact ⟨rfl, hb2⟩
set_option maxHeartbeats 1000000 in
theorem unmap2_any {b bp bf : Nat} {l : Tb} {w : World} (h : Rep w b l bp bf) (gt gp : Nat) (z : Int) (hz : I64 z) (ht : w.cell? ⟨gt, 0, none⟩ = some (bx b)) (hp : w.cell? ⟨gp, 0, none⟩ = some (.int .i64 z)) :
    Calls Tryz.prog 233 #[bx gt, bx gp] w fun e w' => e = .returned (.bool ((look l z).isSome)) ∧ Below w.heap.size w w' := by
  have hh := Lib.hid (fun V (hb : Below w.heap.size w V) => (show Calls Tryz.prog 198 #[bx b, .int .i64 z] V (fun e w' => e = .returned (.bool (look l z).isSome) ∧ Below w.heap.size w w') from
    (mapped_any b bp l z V hz (h.below hb).c0 (h.below hb).pages).mono fun e w' ⟨e1, e2⟩ => ⟨e1, below0 hb e2⟩))
  have l1 := lt_of_cell ht
  have l2 := lt_of_cell hp
  obtain ⟨q, hq⟩ : ∃ q, q = (look l z).isSome := ⟨_, rfl⟩
  rw [← hq] at hh ⊢
  have HSA := Lib.hid (fun W (hB : Below w.heap.size w W) => (show W.cell? ⟨gt, 0, none⟩ = some (bx b) ∧ W.cell? ⟨gp, 0, none⟩ = some (.int .i64 z) ∧ Below w.heap.size w W from
    ⟨(hB.cell (p := ⟨gt, 0, none⟩) l1).trans ht, (hB.cell (p := ⟨gp, 0, none⟩) l2).trans hp, hB⟩))
  have hdr := Lib.hid (show Below w.heap.size w w.drew from (Below.refl _ _).drew)
  clear hq h
  go_enter Tryz.func233, Tryz.ntmps233
  go_wp2_with fail
  go_region_held3 (fun W => W.cell? ⟨gt, 0, none⟩ = some (bx b) ∧ W.cell? ⟨gp, 0, none⟩ = some (.int .i64 z) ∧ Below w.heap.size w W)
    (first | exact HSA.out _ hdr.out | exact HSA.out _ (by assumption) | (go_split_ands; exact HSA.out _ (by assumption)))
    (first | (go_at_call 198; refine (hh.out _ (by go_split_ands; assumption)).mono ?_; rintro e w2 ⟨rfl, hb2⟩))
  go_wp2
  go_ret
  exact ⟨rfl, hb2⟩
set_option maxHeartbeats 1000000 in
theorem map4_any {b bp bf : Nat} {l : Tb} {w : World} (h : Rep w b l bp bf) (gt gx : Nat) (z : Int) (hz : I64 z) (ht : w.cell? ⟨gt, 0, none⟩ = some (bx b)) (hp : w.cell? ⟨gx, 2, none⟩ = some (.int .i64 z)) :
    Calls Tryz.prog 199 #[bx gt, bx gx] w fun e w' => e = .returned (.bool (!framed l z)) ∧ Below w.heap.size w w' := by
  have hh := Lib.hid (fun V (hb : Below w.heap.size w V) => (show Calls Tryz.prog 200 #[bx b, .int .i64 z] V (fun e w' => e = .returned (.bool (framed l z)) ∧ Below w.heap.size w w') from
    (framed_any b bf l z V hz (h.below hb).c1 (h.below hb).frames).mono fun e w' ⟨e1, e2⟩ => ⟨e1, below0 hb e2⟩))
  have l1 := lt_of_cell ht
  have l2 := lt_of_cell hp
  obtain ⟨q, hq⟩ : ∃ q, q = framed l z := ⟨_, rfl⟩
  rw [← hq] at hh ⊢
  have HSA := Lib.hid (fun W (hB : Below w.heap.size w W) => (show W.cell? ⟨gt, 0, none⟩ = some (bx b) ∧ W.cell? ⟨gx, 2, none⟩ = some (.int .i64 z) ∧ Below w.heap.size w W from
    ⟨(hB.cell (p := ⟨gt, 0, none⟩) l1).trans ht, (hB.cell (p := ⟨gx, 2, none⟩) l2).trans hp, hB⟩))
  have hdr := Lib.hid (show Below w.heap.size w w.drew from (Below.refl _ _).drew)
  clear hq h
  go_enter Tryz.func199, Tryz.ntmps199
  go_wp2_with fail
  go_region_held3 (fun W => W.cell? ⟨gt, 0, none⟩ = some (bx b) ∧ W.cell? ⟨gx, 2, none⟩ = some (.int .i64 z) ∧ Below w.heap.size w W)
    (first | exact HSA.out _ hdr.out | exact HSA.out _ (by assumption) | (go_split_ands; exact HSA.out _ (by assumption)))
    (first | (go_at_call 200; refine (hh.out _ (by go_split_ands; assumption)).mono ?_; rintro e w2 ⟨rfl, hb2⟩))
  go_wp2
  go_ret
  exact ⟨rfl, hb2⟩
end Go.Proofs.YtiahmccchpmdgaaGreatDoor.Pg

namespace Go.Proofs.YtiahmccchpmdgaaGreatDoor.Pg
open Go.RowKit Go.Shelf Go.Maps
attribute [local go_sem] Oper.semAt_some

/- A PAGE THAT IS NOT MAPPED IS MAPPED. -/
/-- what the two stores make of the world, step by step -/
structure Ent (w : World) (b bp bf : Nat) (l : Tb) (p : Int) (x : En) (V : World) (st1 st2 : Nat) (v1 v2 : Value) (w2 w3 w4 w5 : World) : Prop where
  r2 : (Instr.mapEntry 225 (.map (some bp)) (.int .i64 p)).run Tryz.prog V = .ok (.tuple #[v1, .int .i64 (st1 : Int)]) w2
  r3 : (Instr.entryStore 225 (.map (some bp)) (.int .i64 (st1 : Int)) (enV x)).run Tryz.prog w2 = .ok () w3
  r4 : (Instr.mapEntry 226 (.map (some bf)) (.int .i64 x.2.2)).run Tryz.prog w3 = .ok (.tuple #[v2, .int .i64 (st2 : Int)]) w4
  r5 : (Instr.entryStore 226 (.map (some bf)) (.int .i64 (st2 : Int)) (.agg #[])).run Tryz.prog w4 = .ok () w5
  k2 : ∀ k, k ≠ bp → k ≠ bf → w2.heap[k]? = V.heap[k]?
  k3 : ∀ k, k ≠ bp → k ≠ bf → w3.heap[k]? = V.heap[k]?
  k4 : ∀ k, k ≠ bp → k ≠ bf → w4.heap[k]? = V.heap[k]?
  k5 : ∀ k, k ≠ bp → k ≠ bf → w5.heap[k]? = V.heap[k]?
  rep : Rep w5 b (ins l p x) bp bf
  keep : Keep (blocks b bp bf) w w5
theorem grown_heap {w w' : World} {b : Nat} (h : w.grownBy w' (some b)) (hs : w'.heap.size = w.heap.size) (k : Nat) (hk : k ≠ b) : w'.heap[k]? = w.heap[k]? := by
  rcases Nat.lt_or_ge k w.heap.size with h1 | h1
  · exact h.block k h1 (fun e => hk (Option.some.inj e))
  · rw [Array.getElem?_eq_none h1, Array.getElem?_eq_none (by omega)]
theorem enter_steps {b bp bf : Nat} {l : Tb} {w V : World} (h : Rep w b l bp bf) (p : Int) (x : En) (hE : mapE l p x = 0) (hx : En64 x) (hV : Below w.heap.size w V) :
    ∃ st1 st2 v1 v2 w2 w3 w4 w5, Ent w b bp bf l p x V st1 st2 v1 v2 w2 w3 w4 w5 := by
  obtain ⟨g1, g2, g3, g4⟩ := mapE_0 hE
  have hok := map_ok h.ok p x hx
  have hT : mapT l p x = ins l p x := by unfold mapT; rw [if_pos hE]
  rw [hT] at hok
  have hr := h.below hV
  have hll := h.ok.len
  have hll2 := hok.len
  obtain ⟨D, hD, hF⟩ := hr.frames
  have np := h.ne_p
  have nf := h.ne_f
  have ne := h.ne
  obtain ⟨v1, st1, w2, a1, a2, a3, a4⟩ := entry_own (t := 225) hr.pages law Tryz.underlying225 zeroP (by decide) (keyZ (page64 g2))
  obtain ⟨w3, b1, b2, b3, b4⟩ := a4 w2 (enV x) (entD x) [] rfl (entR_en x)
  have f2 : w2.heap[bf]? = V.heap[bf]? := grown_heap a2 a3 bf ne.symm
  have f3 : w3.heap[bf]? = V.heap[bf]? := (grown_heap b3 b4 bf ne.symm).trans f2
  obtain ⟨v2, st2, w4, c1, c2, c3, c4⟩ := entry_own (t := 226) (owns_same hD f3) law Tryz.underlying226 zeroU (by decide) (keyZ hx.2.2)
  obtain ⟨w5, d1, d2, d3, d4⟩ := c4 w4 (.agg #[]) unitD [] rfl rfl
  rw [mapP_put x g3] at b2
  refine ⟨st1, st2, v1, v2, w2, w3, w4, w5, a1, b1, c1, d1, fun k h1 h2 => grown_heap a2 a3 k h1, fun k h1 h2 => (grown_heap b3 b4 k h1).trans (grown_heap a2 a3 k h1), fun k h1 h2 => (grown_heap c2 c3 k h2).trans ((grown_heap b3 b4 k h1).trans (grown_heap a2 a3 k h1)), fun k h1 h2 => (grown_heap d3 d4 k h2).trans ((grown_heap c2 c3 k h2).trans ((grown_heap b3 b4 k h1).trans (grown_heap a2 a3 k h1))), ⟨hok, ?_, ?_, ⟨_, ?_, hF.put p x g4⟩, ne⟩, ?_⟩
  · refine hr.obj.same ?_
    rw [grown_heap d3 d4 b nf, grown_heap c2 c3 b nf, grown_heap b3 b4 b np, grown_heap a2 a3 b np]
  · refine owns_tight (owns_same b2 ?_) (by rw [mapP_size]; exact hll2)
    rw [grown_heap d3 d4 bp ne, grown_heap c2 c3 bp ne]
  · exact owns_tight d2 (by rw [(hF.put p x g4).size]; exact hll2)
  · have kV : Keep (blocks b bp bf) w V := Keep.of_below hV
    exact (((kV.grown a2 (fun r e => by cases e; exact .inr (.inr (.inl rfl)))).grown b3 (fun r e => by cases e; exact .inr (.inr (.inl rfl)))).grown c2 (fun r e => by cases e; exact .inr (.inr (.inr rfl)))).grown d3 (fun r e => by cases e; exact .inr (.inr (.inr rfl)))
set_option maxHeartbeats 2000000 in
theorem enter_any {b bp bf : Nat} {l : Tb} {w : World} (h : Rep w b l bp bf) (p : Int) (x : En) (hE : mapE l p x = 0) (hx : En64 x) :
    Calls Tryz.prog 201 #[bx b, .int .i64 p, enV x] w fun e w' => (∃ v, e = .returned v) ∧ Rep w' b (ins l p x) bp bf ∧ Keep (blocks b bp bf) w w' := by
  obtain ⟨w1, hw1⟩ : ∃ w1, w1 = w.alloc (.cells #[.int .i64 x.1, .int .i64 x.2.1, .int .i64 x.2.2] 181) := ⟨_, rfl⟩
  have hb1 : Below w.heap.size w w1 := hw1 ▸ below1 w _
  obtain ⟨st1, st2, v1, v2, w2, w3, w4, w5, hN⟩ := enter_steps h p x hE hx hb1.drew
  have hr1 := h.below hb1
  have c0 := hr1.c0
  have c1 := hr1.c1
  have hbl := h.obj.lt
  have hpl := h.pages.lt
  have hfl := h.frames.lt
  have s0 : w1.cell? ⟨w.heap.size, 0, none⟩ = some (.int .i64 x.1) := by rw [hw1]; exact cell_alloc_new _ _ _ _
  have s1 : w1.cell? ⟨w.heap.size, 1, none⟩ = some (.int .i64 x.2.1) := by rw [hw1]; exact cell_alloc_new _ _ _ _
  have s2 : w1.cell? ⟨w.heap.size, 2, none⟩ = some (.int .i64 x.2.2) := by rw [hw1]; exact cell_alloc_new _ _ _ _
  have np := h.ne_p
  have nf := h.ne_f
  have HSA := Lib.hid (fun (W : World) (hW : ∀ k, k ≠ bp → k ≠ bf → W.heap[k]? = w1.heap[k]?) => (show W.cell? ⟨b, 0, none⟩ = some (.map (some bp)) ∧ W.cell? ⟨b, 1, none⟩ = some (.map (some bf)) ∧ W.cell? ⟨w.heap.size, 0, none⟩ = some (.int .i64 x.1) ∧ W.cell? ⟨w.heap.size, 1, none⟩ = some (.int .i64 x.2.1) ∧ W.cell? ⟨w.heap.size, 2, none⟩ = some (.int .i64 x.2.2) from
    ⟨(World.cell?_of_block (hW b np nf)).trans c0, (World.cell?_of_block (hW b np nf)).trans c1, (World.cell?_of_block (hW w.heap.size (by omega) (by omega))).trans s0, (World.cell?_of_block (hW w.heap.size (by omega) (by omega))).trans s1, (World.cell?_of_block (hW w.heap.size (by omega) (by omega))).trans s2⟩))
  have H1 := Lib.hid (HSA.out w1.drew (fun _ _ _ => rfl))
  have H2 := Lib.hid (HSA.out w2 hN.k2)
  have H3 := Lib.hid (HSA.out w3 hN.k3)
  have H4 := Lib.hid (HSA.out w4 hN.k4)
  have H5 := Lib.hid (HSA.out w5 hN.k5)
  have r2 := hN.r2
  have r3 : (Instr.entryStore 225 (.map (some bp)) (.int .i64 (st1 : Int)) (.agg #[.int .i64 x.1, .int .i64 x.2.1, .int .i64 x.2.2])).run Tryz.prog w2 = .ok () w3 := hN.r3
  have r4 := hN.r4
  have r5 := hN.r5
  have HF := Lib.hid (And.intro hN.rep hN.keep)
  have HW := Lib.hid hw1
  have mixed : Tryz.prog.follows .mixedOrders = true := by kernel_rfl
  rw [show enV x = .agg #[.int .i64 x.1, .int .i64 x.2.1, .int .i64 x.2.2] from rfl]
  obtain ⟨x1, x2, x3⟩ := x
  simp only at r2 r3 r4 r5 s0 s1 s2 H1 H2 H3 H4 H5 HF HW ⊢
  clear hN hr1 HSA hb1 hw1 hE hx h
  go_enter Tryz.func201, Tryz.ntmps201
  go_wp2_with fail
  rw [← HW.out]
  go_region_held3 (fun W => W.cell? ⟨b, 0, none⟩ = some (.map (some bp)) ∧ W.cell? ⟨b, 1, none⟩ = some (.map (some bf)) ∧ W.cell? ⟨w.heap.size, 0, none⟩ = some (.int .i64 x1) ∧ W.cell? ⟨w.heap.size, 1, none⟩ = some (.int .i64 x2) ∧ W.cell? ⟨w.heap.size, 2, none⟩ = some (.int .i64 x3))
    (first | exact H1.out | exact H2.out | exact H3.out | exact H4.out | exact H5.out)
    (fail)
  go_end0
  exact ⟨⟨_, rfl⟩, HF.out⟩
end Go.Proofs.YtiahmccchpmdgaaGreatDoor.Pg

namespace Go.Proofs.YtiahmccchpmdgaaGreatDoor.Pg
open Go.RowKit Go.Shelf Go.Maps
attribute [local go_sem] Oper.semAt_some

/- MAP. -/
def mapL (v : Value) (s : Nat) (a1 a2 a3 a4 a5 : Bool) : List Ask :=
  [⟨192, #[v], #[], 1, a1⟩, ⟨193, #[], #[bx (s + 2)], 2, a2⟩, ⟨195, #[], #[bx (s + 1)], 4, a3⟩, ⟨197, #[], #[bx s, bx (s + 1)], 180, a4⟩, ⟨199, #[], #[bx s, bx (s + 2)], 181, a5⟩]
def mapB (v : Value) (p : Int) (x : En) : List (List Value × TypeId) := [([v], 153), ([.int .i64 p], 3), (enC x, 181)]
theorem map_asked {b bp bf : Nat} {l : Tb} {w : World} (h : Rep w b l bp bf) (p : Int) (x : En) (hx : En64 x) :
    Calls Tryz.prog 191 #[.slice (some ⟨w.heap.size + 3, 0, none⟩) 5 5] (askW w (mapB (bx b) p x) (mapL (bx b) w.heap.size true true true true true)) fun e w' => e = .returned (.int .i64 (mapE l p x : Int)) ∧ Boxes w [[bx b], [.int .i64 p], enC x] w' := by
  obtain ⟨a2, ha2⟩ : ∃ a2, a2 = rightB x := ⟨_, rfl⟩
  obtain ⟨a3, ha3⟩ : ∃ a3, a3 = pageB p := ⟨_, rfl⟩
  obtain ⟨a4, ha4⟩ : ∃ a4, a4 = !(look l p).isSome := ⟨_, rfl⟩
  obtain ⟨a5, ha5⟩ : ∃ a5, a5 = !framed l x.2.2 := ⟨_, rfl⟩
  have hE : askE (mapL (bx b) w.heap.size true a2 a3 a4 a5) = (mapE l p x : Int) := by
    unfold mapE
    have e4 : (look l p).isSome = !a4 := by rw [ha4]; simp
    have e5 : framed l x.2.2 = !a5 := by rw [ha5]; simp
    rw [← ha2, ← ha3, e4, e5]
    cases a2 <;> cases a3 <;> cases a4 <;> cases a5 <;> rfl
  refine (asked_box (mapB (bx b) p x) (mapL (bx b) w.heap.size true a2 a3 a4 a5) 5 5 _ rfl rfl (by omega) fun k hk hall => ?_).mono fun e w' ⟨e1, e2, _⟩ => ⟨by rw [e1, hE], e2⟩
  rcases k with _ | _ | _ | _ | _ | k
  · refine ⟨enters_of Tryz.func192 (by kernel_rfl) rfl, fun V hV => ?_⟩
    exact (there_map b bp V (hV.rep h).c0).mono fun e w' ⟨e1, e2⟩ => ⟨e1, e2 ▸ Below.refl _ _⟩
  · refine ⟨enters_of Tryz.func193 (by kernel_rfl) rfl, fun V hV => ?_⟩
    have := map1_any (w.heap.size + 2) x V (fun j v hv => hV.cell 2 _ rfl j v hv)
    rw [← ha2] at this
    exact this
  · refine ⟨enters_of Tryz.func195 (by kernel_rfl) rfl, fun V hV => ?_⟩
    have := map2_any (w.heap.size + 1) p V (hV.cell 1 _ rfl 0 _ rfl)
    rw [← ha3] at this
    exact this
  · have t3 : a3 = true := hall 2 (by simp [mapL]) (by omega)
    rw [ha3] at t3
    refine ⟨enters_of Tryz.func197 (by kernel_rfl) rfl, fun V hV => ?_⟩
    have := map3_any (hV.rep h) w.heap.size (w.heap.size + 1) p (page64 t3) (hV.cell 0 _ rfl 0 _ rfl) (hV.cell 1 _ rfl 0 _ rfl)
    rw [← ha4] at this
    exact this
  · refine ⟨enters_of Tryz.func199 (by kernel_rfl) rfl, fun V hV => ?_⟩
    have := map4_any (hV.rep h) w.heap.size (w.heap.size + 2) x.2.2 hx.2.2 (hV.cell 0 _ rfl 0 _ rfl) (hV.cell 2 _ rfl 2 _ rfl)
    rw [← ha5] at this
    exact this
  · simp [mapL] at hk
    omega

set_option maxHeartbeats 1000000 in
theorem map_no {b : Nat} {l : Tb} {F : Nat → Prop} {w : World} (h : Has w b l F) (p : Int) (x : En) (hx : En64 x) (hE : mapE l p x ≠ 0) :
    Calls Tryz.prog 110 #[bx b, .int .i64 p, enV x] w fun e w' => e = .returned (.int .i64 (mapE l p x : Int)) ∧ Next w b (mapT l p x) F w' := by
  have hN := Lib.hid (fun w' (hb : Below w.heap.size w w') => (show Next w b (mapT l p x) F w' from by
    unfold mapT
    rw [if_neg hE]
    exact Next.same h hb))
  obtain ⟨bp, bf, hr, rfl⟩ := h
  have h1 := Lib.hid ((map_asked hr p x hx).mono fun e w' ⟨e1, e2⟩ => (show e = Ending.returned (Value.int .i64 (mapE l p x : Int)) ∧ Below w.heap.size w w' from ⟨e1, e2.below⟩))
  obtain ⟨E, hE2⟩ : ∃ E, E = mapE l p x := ⟨_, rfl⟩
  rw [← hE2] at h1 hE ⊢
  have e0 : (((E : Int)) == 0) = false := by rw [beq_eq_false_iff_ne]; omega
  have e1 : ¬ ((E : Int) = 0) := by omega
  clear hE2 hr hE
  rw [show enV x = .agg #[.int .i64 x.1, .int .i64 x.2.1, .int .i64 x.2.2] from rfl]
  go_enter Tryz.func110, Tryz.ntmps110
  go_wp2_with fail
  refine wp_scope_jump 1 fun R hR hJm => ?_
  go_wp2_with fail
  refine (h1.out).mono ?_
  rintro e w1 ⟨rfl, hb⟩
  go_wp2_with fail
  refine wp_goto (hJm.out _ _ _ _ _ rfl ?_)
  go_wp2_with fail
  refine hR.out _ _ _ _ (by simp) ?_
  go_ret
  exact ⟨rfl, hN.out _ hb⟩
set_option maxHeartbeats 2000000 in
theorem map_yes {b : Nat} {l : Tb} {F : Nat → Prop} {w : World} (h : Has w b l F) (p : Int) (x : En) (hx : En64 x) (hE : mapE l p x = 0) :
    Calls Tryz.prog 110 #[bx b, .int .i64 p, enV x] w fun e w' => e = .returned (.int .i64 0) ∧ Next w b (mapT l p x) F w' := by
  have hT : mapT l p x = ins l p x := by unfold mapT; rw [if_pos hE]
  rw [hT]
  obtain ⟨bp, bf, hr, rfl⟩ := h
  have h1 := Lib.hid ((map_asked hr p x hx).mono fun e w' ⟨e1, e2⟩ => (show e = Ending.returned (Value.int .i64 (mapE l p x : Int)) ∧ Boxes w [[bx b], [.int .i64 p], enC x] w' from ⟨e1, e2⟩))
  rw [hE] at h1
  have HS := Lib.hid (fun w1 (hB : Boxes w [[bx b], [.int .i64 p], enC x] w1) W (hb : Keep (blocks b bp bf) w1 W) => (show W.cell? ⟨w.heap.size, 0, none⟩ = some (bx b) ∧ W.cell? ⟨w.heap.size + 1, 0, none⟩ = some (.int .i64 p) ∧ W.cell? ⟨w.heap.size + 1 + 1, 0, none⟩ = some (.int .i64 x.1) ∧ W.cell? ⟨w.heap.size + 1 + 1, 1, none⟩ = some (.int .i64 x.2.1) ∧ W.cell? ⟨w.heap.size + 1 + 1, 2, none⟩ = some (.int .i64 x.2.2) ∧ Keep (blocks b bp bf) w1 W from
    ⟨hB.keep hb hr.lt 0 _ rfl 0 _ rfl, hB.keep hb hr.lt 1 _ rfl 0 _ rfl, hB.keep hb hr.lt 2 _ rfl 0 _ rfl, hB.keep hb hr.lt 2 _ rfl 1 _ rfl, hB.keep hb hr.lt 2 _ rfl 2 _ rfl, hb⟩))
  have HC := Lib.hid (fun w1 (hB : Boxes w [[bx b], [.int .i64 p], enC x] w1) V (hb : Below w1.heap.size w1 V) => (show Calls Tryz.prog 201 #[bx b, .int .i64 p, .agg #[.int .i64 x.1, .int .i64 x.2.1, .int .i64 x.2.2]] V (fun e w' => (∃ v, e = .returned v) ∧ Next w b (ins l p x) (blocks b bp bf) w' ∧ Keep (blocks b bp bf) w1 w') from
    (enter_any (hr.below (below0 hB.below hb)) p x hE hx).mono fun e w' ⟨e1, e2, e3⟩ => ⟨e1, ⟨⟨_, _, e2, rfl⟩, (Keep.of_below (below0 hB.below hb)).trans e3 fun _ _ h => h⟩, (Keep.of_below hb).trans e3 fun _ _ h => h⟩))
  rw [show enV x = .agg #[.int .i64 x.1, .int .i64 x.2.1, .int .i64 x.2.2] from rfl]
  clear hr hE hT
  go_enter Tryz.func110, Tryz.ntmps110
  go_wp2_with fail
  refine wp_scope_jump 1 fun R hR hJm => ?_
  go_wp2_with fail
  refine (h1.out).mono ?_
  rintro e w1 ⟨rfl, hB⟩
  have H0 := Lib.hid (HS.out w1 hB)
  have H1 := Lib.hid (HC.out w1 hB)
  have hdr := Lib.hid (show Below w1.heap.size w1 w1.drew from (Below.refl _ _).drew)
  obtain ⟨x1, x2, x3⟩ := x
  simp only at H0 H1
  clear hB h1 HS HC
  go_wp2_with fail
  go_region_held3 (fun W => W.cell? ⟨w.heap.size, 0, none⟩ = some (bx b) ∧ W.cell? ⟨w.heap.size + 1, 0, none⟩ = some (.int .i64 p) ∧ W.cell? ⟨w.heap.size + 1 + 1, 0, none⟩ = some (.int .i64 x1) ∧ W.cell? ⟨w.heap.size + 1 + 1, 1, none⟩ = some (.int .i64 x2) ∧ W.cell? ⟨w.heap.size + 1 + 1, 2, none⟩ = some (.int .i64 x3) ∧ Keep (blocks b bp bf) w1 W)
    (first | exact H0.out _ (Keep.of_below hdr.out) | exact H0.out _ (by assumption))
    (first | (go_at_call 201; refine (H1.out _ hdr.out).mono ?_; rintro e w2 ⟨⟨v2, rfl⟩, hN, hk2⟩))
  go_wp2_with fail
  refine hR.out _ _ _ _ (by simp) ?_
  go_ret
  exact ⟨rfl, hN⟩
end Go.Proofs.YtiahmccchpmdgaaGreatDoor.Pg

namespace Go.Proofs.YtiahmccchpmdgaaGreatDoor.Pg
open Go.RowKit Go.Shelf Go.Maps Go.ChangeMaps Go.MapKept
attribute [local go_sem] Oper.semAt_some

/- A PAGE THAT IS MAPPED IS UNMAPPED; WHAT MAY BE DONE THERE IS CHANGED. -/
theorem turned_heap {w w' : World} {b : Nat} (h : w.mapTurned w' b) (k : Nat) (hk : k ≠ b) : w'.heap[k]? = w.heap[k]? := by
  refine grown_heap h.grown ?_ k hk
  obtain ⟨es, clock, es', clock', hb, rfl⟩ := h
  simp [setBlock]
theorem keep_set3 {w w3 : World} {F : Nat → Prop} (hk : Keep F w w3) (x y z : Value) : Keep F w (((w3.setCell ⟨w.heap.size, 0, none⟩ x).setCell ⟨w.heap.size, 1, none⟩ y).setCell ⟨w.heap.size, 2, none⟩ z) :=
  ((hk.set _ (.inr (Nat.le_refl _))).set _ (.inr (Nat.le_refl _))).set _ (.inr (Nat.le_refl _))
theorem rep_set3 {w3 : World} {b bp bf n : Nat} {l : Tb} (h : Rep w3 b l bp bf) (h1 : b < n) (h2 : bp < n) (h3 : bf < n) (x y z : Value) : Rep (((w3.setCell ⟨n, 0, none⟩ x).setCell ⟨n, 1, none⟩ y).setCell ⟨n, 2, none⟩ z) b l bp bf := by
  refine h.keep fun k hk => ?_
  have : k ≠ n := by rcases hk with rfl | rfl | rfl <;> omega
  rw [heap_set this, heap_set this, heap_set this]
theorem lookup_at {w : World} {bp n : Nat} {l : Tb} {p : Int} {e : En} (hown : w.ownsMap Tryz.prog 3 entR bp n (mapP l)) (hp : I64 p) (he : look l p = some e) :
    (Instr.lookup 225 (.map (some bp)) (.int .i64 p) false).run Tryz.prog w = .ok (.agg #[.int .i64 e.1, .int .i64 e.2.1, .int .i64 e.2.2]) w := by
  obtain ⟨v, ps, hrun, hv⟩ := hown.lookup law Tryz.underlying225 (zeroP w) (entR_en zeroEn) (keyZ hp)
  rw [hrun, look_en hv]
  unfold getX
  rw [he]
  rfl
set_option maxRecDepth 100000 in
set_option maxHeartbeats 2000000 in
theorem leave_any {b bp bf : Nat} {l : Tb} {w : World} (h : Rep w b l bp bf) (p : Int) (hp : I64 p) (e : En) (he : look l p = some e) :
    Calls Tryz.prog 234 #[bx b, .int .i64 p] w fun e' w' => e' = .returned (enV e) ∧ Rep w' b (del l p) bp bf ∧ Keep (blocks b bp bf) w w' := by
  obtain ⟨w1, hw1⟩ : ∃ w1, w1 = (w.alloc (.cells #[.int .i64 0, .int .i64 0, .int .i64 0] 181)).alloc (.cells #[.int .i64 e.1, .int .i64 e.2.1, .int .i64 e.2.2] 181) := ⟨_, rfl⟩
  have hb1 : Below w.heap.size w w1 := hw1 ▸ below2 w _ _
  have hlk := lookup_at (w := w.alloc (.cells #[.int .i64 0, .int .i64 0, .int .i64 0] 181)) (h.below (below1 w _)).pages hp he
  have hr1 := h.below hb1
  have hkey := keyZ hp
  have hx : En64 e := h.ok.big _ (look_some he)
  have hkey2 := keyZ hx.2.2
  have hbl := h.obj.lt
  have hpl := h.pages.lt
  have hfl := h.frames.lt
  have np := h.ne_p
  have nf := h.ne_f
  have ne := h.ne
  have c0 := h.c0
  have g0 : Row w1 w.heap.size 181 [.int .i64 0, .int .i64 0, .int .i64 0] := by
    rw [hw1]
    exact (Row.new w _ _).below (below1 _ _)
  have g1 : Row w1 (w.heap.size + 1) 181 [.int .i64 e.1, .int .i64 e.2.1, .int .i64 e.2.2] := by
    rw [hw1]
    exact Row.new_at _ _ _ (by simp)
  have hpm : w1.ownsMap Tryz.prog 3 entR bp 65536 (mapP l) := hr1.pages
  have HM := Lib.hid (fun (w2 : World) (ho : w2.ownsMap Tryz.prog 3 entR bp 65536 ((mapP l).del (.int .i64 p))) (ht : w1.mapTurned w2 bp) =>
    (show w2.cell? ⟨b, 0, none⟩ = some (.map (some bp)) ∧ w2.cell? ⟨b, 1, none⟩ = some (.map (some bf)) ∧ w2.cell? ⟨w.heap.size + 1, 0, none⟩ = some (.int .i64 e.1) ∧ w2.cell? ⟨w.heap.size + 1, 1, none⟩ = some (.int .i64 e.2.1) ∧ w2.cell? ⟨w.heap.size + 1, 2, none⟩ = some (.int .i64 e.2.2) ∧
      ∃ w3, (Builtin.delete_ #[226, 3] 0 #[.map (some bf), .int .i64 e.2.2]).run Tryz.prog w2.drew = .ok (.tuple #[]) w3 ∧
        (w3.cell? ⟨b, 1, none⟩ = some (.map (some bf)) ∧ w3.cell? ⟨w.heap.size + 1, 2, none⟩ = some (.int .i64 e.2.2)) ∧
        (w3.cell? ⟨w.heap.size + 1, 0, none⟩ = some (.int .i64 e.1) ∧ w3.cell? ⟨w.heap.size + 1, 1, none⟩ = some (.int .i64 e.2.1) ∧ w3.cell? ⟨w.heap.size + 1, 2, none⟩ = some (.int .i64 e.2.2)) ∧
        Row w3 w.heap.size 181 [.int .i64 0, .int .i64 0, .int .i64 0] ∧ Rep w3 b (del l p) bp bf ∧ Keep (blocks b bp bf) w w3 from by
    have k2 := fun k hk => turned_heap ht k hk
    obtain ⟨D, hD, hF⟩ := hr1.frames
    obtain ⟨w3, hrun, hD3, ht3⟩ := World.ownsMap.drop (w := w2.drew) (owns_same hD (show w2.drew.heap[bf]? = w1.heap[bf]? from k2 bf ne.symm)) law Tryz.underlying226 hkey2 0
    have k3 : ∀ k, k ≠ bf → w3.heap[k]? = w2.heap[k]? := fun k hk => turned_heap ht3 k hk
    have hb2 := (hr1.obj.same (k2 b np))
    have hb3 := (hb2.same (k3 b nf))
    have q2 := g1.same (k2 (w.heap.size + 1) (by omega))
    have q3 := q2.same (k3 (w.heap.size + 1) (by omega))
    refine ⟨hb2.cell 0, hb2.cell 1, q2.cell 0, q2.cell 1, q2.cell 2, w3, hrun, ⟨hb3.cell 1, q3.cell 2⟩, ⟨q3.cell 0, q3.cell 1, q3.cell 2⟩, (g0.same (k2 w.heap.size (by omega))).same (k3 w.heap.size (by omega)), ⟨del_ok h.ok p, hb3, ?_, ⟨_, hD3, hF.del h.ok he⟩, ne⟩, ?_⟩
    · rw [mapP_del] at ho
      exact owns_same ho (k3 bp ne)
    · exact (((Keep.of_below hb1).grown ht.grown (fun r e => by cases e; exact .inr (.inr (.inl rfl)))).drewN 1).grown ht3.grown (fun r e => by cases e; exact .inr (.inr (.inr rfl)))))
  obtain ⟨w2, hrun2, ho2, ht2⟩ := World.ownsMap.drop hpm law Tryz.underlying225 hkey 0
  obtain ⟨s0, s1, s2, s3, s4, w3, hrun3, hS3, hQ, hg3, hfin⟩ := HM.out w2 ho2 ht2
  have HF := Lib.hid hfin
  have HS2 := Lib.hid (And.intro s1 s4)
  have HS3 := Lib.hid hS3
  obtain ⟨q0, q1, q2⟩ := hQ
  have f0 := hg3.cell 0
  have f1 := hg3.cell 1
  have f2 := hg3.cell 2
  have z0 := hg3.frozen 0
  have z1 := hg3.frozen 1
  have z2 := hg3.frozen 2
  have HG := Lib.hid hg3
  have HL := Lib.hid (And.intro hbl (And.intro hpl hfl))
  rw [hw1] at hrun2
  have d0 : w1.cell? ⟨b, 0, none⟩ = some (.map (some bp)) := hr1.c0
  rw [hw1] at d0
  clear hr1 g0 g1 hb1 hx np nf ne hpl hfl h he HM ho2 ht2 hpm hw1 hfin hS3 hg3
  obtain ⟨x1, x2, x3⟩ := e
  simp only [List.getElem?_cons_zero, List.getElem?_cons_succ] at hlk hkey2 hrun2 hrun3 d0 s2 s3 s4 q0 q1 q2 HS2 HS3 f0 f1 f2
  go_enter Tryz.func234, Tryz.ntmps234
  go_wp2_with fail
  go_region_held3 (fun W => W.cell? ⟨b, 1, none⟩ = some (.map (some bf)) ∧ W.cell? ⟨w.heap.size + 1, 2, none⟩ = some (.int .i64 x3))
    (first | exact HS2.out | exact HS3.out)
    (fail)
  go_wp2_with fail
  have hR := ((HG.out.set 0 (.int .i64 x1)).set 1 (.int .i64 x2)).set 2 (.int .i64 x3)
  exact bodyPost_ret (res_cell1 Tryz.results234 rfl (load_en (x := (x1, x2, x3)) fun j v hj => (hR.cell j).trans hj)) rfl ⟨rfl, rep_set3 HF.out.1 HL.out.1 HL.out.2.1 HL.out.2.2 _ _ _, keep_set3 HF.out.2 _ _ _⟩
end Go.Proofs.YtiahmccchpmdgaaGreatDoor.Pg

namespace Go.Proofs.YtiahmccchpmdgaaGreatDoor.Pg
open Go.RowKit Go.Shelf Go.Maps
attribute [local go_sem] Oper.semAt_some

/- UNMAP. -/
def unmL (v : Value) (s : Nat) (a1 a2 a3 : Bool) : List Ask :=
  [⟨192, #[v], #[], 1, a1⟩, ⟨232, #[], #[bx (s + 1)], 4, a2⟩, ⟨233, #[], #[bx s, bx (s + 1)], 5, a3⟩]
def unmB (v : Value) (p : Int) : List (List Value × TypeId) := [([v], 153), ([.int .i64 p], 3), (enC zeroEn, 181)]
theorem unm_asked {b bp bf : Nat} {l : Tb} {w : World} (h : Rep w b l bp bf) (p : Int) :
    Calls Tryz.prog 191 #[.slice (some ⟨w.heap.size + 3, 0, none⟩) 3 3] (askW w (unmB (bx b) p) (unmL (bx b) w.heap.size true true true)) fun e w' => e = .returned (.int .i64 (unmapE l p : Int)) ∧ Boxes w [[bx b], [.int .i64 p], enC zeroEn] w' := by
  obtain ⟨a3, ha3⟩ : ∃ a3, a3 = pageB p := ⟨_, rfl⟩
  obtain ⟨a4, ha4⟩ : ∃ a4, a4 = (look l p).isSome := ⟨_, rfl⟩
  have hE : askE (unmL (bx b) w.heap.size true a3 a4) = (unmapE l p : Int) := by
    unfold unmapE
    rw [← ha3, ← ha4]
    cases a3 <;> cases a4 <;> rfl
  refine (asked_box (unmB (bx b) p) (unmL (bx b) w.heap.size true a3 a4) 3 3 _ rfl rfl (by omega) fun k hk hall => ?_).mono fun e w' ⟨e1, e2, _⟩ => ⟨by rw [e1, hE], e2⟩
  rcases k with _ | _ | _ | k
  · refine ⟨enters_of Tryz.func192 (by kernel_rfl) rfl, fun V hV => ?_⟩
    exact (there_map b bp V (hV.rep h).c0).mono fun e w' ⟨e1, e2⟩ => ⟨e1, e2 ▸ Below.refl _ _⟩
  · refine ⟨enters_of Tryz.func232 (by kernel_rfl) rfl, fun V hV => ?_⟩
    have := unmap1_any (w.heap.size + 1) p V (hV.cell 1 _ rfl 0 _ rfl)
    rw [← ha3] at this
    exact this
  · have t3 : a3 = true := hall 1 (by simp [unmL]) (by omega)
    rw [ha3] at t3
    refine ⟨enters_of Tryz.func233 (by kernel_rfl) rfl, fun V hV => ?_⟩
    have := unmap2_any (hV.rep h) w.heap.size (w.heap.size + 1) p (page64 t3) (hV.cell 0 _ rfl 0 _ rfl) (hV.cell 1 _ rfl 0 _ rfl)
    rw [← ha4] at this
    exact this
  · simp [unmL] at hk
    omega
theorem below_set3 {w w1 : World} {n : Nat} (h : Below w.heap.size w w1) (hn : w.heap.size ≤ n) (x y z : Value) : Below w.heap.size w (((w1.setCell ⟨n, 0, none⟩ x).setCell ⟨n, 1, none⟩ y).setCell ⟨n, 2, none⟩ z) :=
  ((h.setCell hn x).setCell hn y).setCell hn z
/-- what an entry's cells hold behind a store -/
theorem set3_ld {w1 : World} {n : Nat} {t : TypeId} {x y z : Value} (h : Row w1 n t [x, y, z]) (a b c : Int) : (loadVar 181 ⟨n, 0, none⟩).run Tryz.prog (((w1.setCell ⟨n, 0, none⟩ (.int .i64 a)).setCell ⟨n, 1, none⟩ (.int .i64 b)).setCell ⟨n, 2, none⟩ (.int .i64 c)) = .ok (enV (a, b, c)) (((w1.setCell ⟨n, 0, none⟩ (.int .i64 a)).setCell ⟨n, 1, none⟩ (.int .i64 b)).setCell ⟨n, 2, none⟩ (.int .i64 c)) :=
  load_en (x := (a, b, c)) fun j _ hj => ((((h.set 0 _).set 1 _).set 2 _).cell j).trans hj

set_option maxHeartbeats 1000000 in
theorem unmap_no {b : Nat} {l : Tb} {F : Nat → Prop} {w : World} (h : Has w b l F) (p : Int) (hE : unmapE l p ≠ 0) :
    Calls Tryz.prog 164 #[bx b, .int .i64 p] w fun e w' => e = .returned (.tuple #[enV (unmapX l p), .int .i64 (unmapE l p : Int)]) ∧ Next w b (unmapT l p) F w' := by
  have hN := Lib.hid (fun w' (hb : Below w.heap.size w w') => (show Next w b (unmapT l p) F w' from by
    unfold unmapT
    rw [if_neg hE]
    exact Next.same h hb))
  have hX : unmapX l p = (0, 0, 0) := by unfold unmapX; rw [if_neg hE]; rfl
  rw [hX]
  obtain ⟨bp, bf, hr, rfl⟩ := h
  have h1 := Lib.hid (unm_asked hr p)
  obtain ⟨E, hE2⟩ : ∃ E, E = unmapE l p := ⟨_, rfl⟩
  rw [← hE2] at h1 hE ⊢
  have e0 : (((E : Int)) == 0) = false := by rw [beq_eq_false_iff_ne]; omega
  have e1 : ¬ ((E : Int) = 0) := by omega
  clear hE2 hr hE hX
  go_enter Tryz.func164, Tryz.ntmps164
  go_wp2_with fail
  refine wp_scope_jump 1 fun R hR hJm => ?_
  go_wp2_with fail
  refine (h1.out).mono ?_
  rintro e w1 ⟨rfl, hB⟩
  obtain ⟨t, hr⟩ := hB.row 2 _ rfl
  have f0 : w1.cell? ⟨w.heap.size + 1 + 1, 0, none⟩ = some (.int .i64 0) := hr.cell 0
  have f1 : w1.cell? ⟨w.heap.size + 1 + 1, 1, none⟩ = some (.int .i64 0) := hr.cell 1
  have f2 : w1.cell? ⟨w.heap.size + 1 + 1, 2, none⟩ = some (.int .i64 0) := hr.cell 2
  have z0 : w1.frozen? ⟨w.heap.size + 1 + 1, 0, none⟩ = false := hr.frozen 0
  have z1 : w1.frozen? ⟨w.heap.size + 1 + 1, 1, none⟩ = false := hr.frozen 1
  have z2 : w1.frozen? ⟨w.heap.size + 1 + 1, 2, none⟩ = false := hr.frozen 2
  have HB := Lib.hid hB.below
  have HR := Lib.hid (show Row w1 (w.heap.size + 1 + 1) t [.int .i64 0, .int .i64 0, .int .i64 0] from hr)
  clear hr hB
  go_wp2_with fail
  refine wp_goto (hJm.out _ _ _ _ _ rfl ?_)
  go_wp2_with fail
  refine hR.out _ _ _ _ (by simp) ?_
  exact bodyPost_ret (res_cell2 Tryz.results164 rfl (set3_ld HR.out 0 0 0)) rfl ⟨rfl, hN.out _ (below_set3 HB.out (by omega) _ _ _)⟩
theorem unmapE_0 {l : Tb} {p : Int} (h : unmapE l p = 0) : pageB p = true ∧ ∃ e, look l p = some e := by
  unfold unmapE at h
  split at h
  · cases h
  split at h
  · cases h
  next h1 h2 => exact ⟨by simpa using h1, by
    cases hl : look l p with
    | none => rw [hl] at h2; exact absurd rfl h2
    | some e => exact ⟨e, rfl⟩⟩
set_option maxHeartbeats 2000000 in
theorem unmap_yes {b : Nat} {l : Tb} {F : Nat → Prop} {w : World} (h : Has w b l F) (p : Int) (hE : unmapE l p = 0) :
    Calls Tryz.prog 164 #[bx b, .int .i64 p] w fun e w' => e = .returned (.tuple #[enV (unmapX l p), .int .i64 0]) ∧ Next w b (unmapT l p) F w' := by
  obtain ⟨hpg, e, he⟩ := unmapE_0 hE
  have hT : unmapT l p = del l p := by unfold unmapT; rw [if_pos hE]
  have hX : unmapX l p = e := by unfold unmapX; rw [if_pos hE, he]; rfl
  rw [hT, hX]
  obtain ⟨bp, bf, hr, rfl⟩ := h
  have h1 := Lib.hid (unm_asked hr p)
  rw [hE] at h1
  have HS := Lib.hid (fun w1 (hB : Boxes w [[bx b], [.int .i64 p], enC zeroEn] w1) => (show w1.cell? ⟨w.heap.size, 0, none⟩ = some (bx b) ∧ w1.cell? ⟨w.heap.size + 1, 0, none⟩ = some (.int .i64 p) from
    ⟨hB.cell 0 _ rfl 0 _ rfl, hB.cell 1 _ rfl 0 _ rfl⟩))
  have HST := Lib.hid (fun (W : World) (x y z : Value) (h : W.cell? ⟨w.heap.size, 0, none⟩ = some (bx b) ∧ W.cell? ⟨w.heap.size + 1, 0, none⟩ = some (.int .i64 p)) => (show (((W.setCell ⟨w.heap.size + 1 + 1, 0, none⟩ x).setCell ⟨w.heap.size + 1 + 1, 1, none⟩ y).setCell ⟨w.heap.size + 1 + 1, 2, none⟩ z).cell? ⟨w.heap.size, 0, none⟩ = some (bx b) ∧ (((W.setCell ⟨w.heap.size + 1 + 1, 0, none⟩ x).setCell ⟨w.heap.size + 1 + 1, 1, none⟩ y).setCell ⟨w.heap.size + 1 + 1, 2, none⟩ z).cell? ⟨w.heap.size + 1, 0, none⟩ = some (.int .i64 p) from by
    have e : ∀ k, k ≠ w.heap.size + 1 + 1 → (((W.setCell ⟨w.heap.size + 1 + 1, 0, none⟩ x).setCell ⟨w.heap.size + 1 + 1, 1, none⟩ y).setCell ⟨w.heap.size + 1 + 1, 2, none⟩ z).heap[k]? = W.heap[k]? := fun k hk => by rw [heap_set hk, heap_set hk, heap_set hk]
    exact ⟨(World.cell?_of_block (e w.heap.size (by omega))).trans h.1, (World.cell?_of_block (e (w.heap.size + 1) (by omega))).trans h.2⟩))
  have HC := Lib.hid (fun w1 (hB : Boxes w [[bx b], [.int .i64 p], enC zeroEn] w1) V (hb : Below w1.heap.size w1 V) => (show Calls Tryz.prog 234 #[bx b, .int .i64 p] V (fun e' w' => e' = .returned (.agg #[.int .i64 e.1, .int .i64 e.2.1, .int .i64 e.2.2]) ∧ (w'.cell? ⟨w.heap.size, 0, none⟩ = some (bx b) ∧ w'.cell? ⟨w.heap.size + 1, 0, none⟩ = some (.int .i64 p)) ∧
      (w'.cell? ⟨w.heap.size + 1 + 1, 0, none⟩ = some (.int .i64 0) ∧ w'.cell? ⟨w.heap.size + 1 + 1, 1, none⟩ = some (.int .i64 0) ∧ w'.cell? ⟨w.heap.size + 1 + 1, 2, none⟩ = some (.int .i64 0)) ∧
      (w'.frozen? ⟨w.heap.size + 1 + 1, 0, none⟩ = false ∧ w'.frozen? ⟨w.heap.size + 1 + 1, 1, none⟩ = false ∧ w'.frozen? ⟨w.heap.size + 1 + 1, 2, none⟩ = false) ∧
      (∀ x y z, Next w b (del l p) (blocks b bp bf) (((w'.setCell ⟨w.heap.size + 1 + 1, 0, none⟩ x).setCell ⟨w.heap.size + 1 + 1, 1, none⟩ y).setCell ⟨w.heap.size + 1 + 1, 2, none⟩ z)) ∧ ∃ t, Row w' (w.heap.size + 1 + 1) t [.int .i64 0, .int .i64 0, .int .i64 0]) from
    (leave_any (hr.below (below0 hB.below hb)) p (page64 hpg) e he).mono fun e' w' ⟨e1, e2, e3⟩ => by
      have hk : Keep (blocks b bp bf) w1 w' := (Keep.of_below hb).trans e3 fun _ _ h => h
      have hk0 : Keep (blocks b bp bf) w w' := (Keep.of_below (below0 hB.below hb)).trans e3 fun _ _ h => h
      obtain ⟨t, hrow⟩ := hB.keepRow hk hr.lt 2 _ rfl
      have hl1 := hr.obj.lt
      have hl2 := hr.pages.lt
      have hl3 := hr.frames.lt
      refine ⟨e1, ⟨hB.keep hk hr.lt 0 _ rfl 0 _ rfl, hB.keep hk hr.lt 1 _ rfl 0 _ rfl⟩, ⟨hrow.cell 0, hrow.cell 1, hrow.cell 2⟩, ⟨hrow.frozen 0, hrow.frozen 1, hrow.frozen 2⟩, fun x y z => ?_, t, hrow⟩
      exact ⟨⟨_, _, rep_set3 e2 (by omega) (by omega) (by omega) _ _ _, rfl⟩, ((hk0.set _ (.inr (by omega))).set _ (.inr (by omega))).set _ (.inr (by omega))⟩))
  clear hr hE hT hX he hpg
  go_enter Tryz.func164, Tryz.ntmps164
  go_wp2_with fail
  refine wp_scope_jump 1 fun R hR hJm => ?_
  go_wp2_with fail
  refine (h1.out).mono ?_
  rintro e w1 ⟨rfl, hB⟩
  have H0 := Lib.hid (HS.out w1 hB)
  have H1 := Lib.hid (HC.out w1 hB)
  have hdr := Lib.hid (show Below w1.heap.size w1 w1.drew from (Below.refl _ _).drew)
  obtain ⟨x1, x2, x3⟩ := e
  simp only at H1
  clear hB h1 HS HC
  go_wp2_with fail
  go_region_held3 (fun W => W.cell? ⟨w.heap.size, 0, none⟩ = some (bx b) ∧ W.cell? ⟨w.heap.size + 1, 0, none⟩ = some (.int .i64 p))
    (first | exact H0.out | exact HST.out _ _ _ _ hS2 | exact hS2)
    (first | (go_at_call 234; refine (H1.out _ hdr.out).mono ?_; rintro e w2 ⟨rfl, hS2, ⟨f0, f1, f2⟩, ⟨z0, z1, z2⟩, hN, t, hrow⟩))
  go_wp2_with fail
  refine hR.out _ _ _ _ (by simp) ?_
  exact bodyPost_ret (res_cell2 Tryz.results164 rfl (set3_ld hrow x1 x2 x3)) rfl ⟨rfl, hN _ _ _⟩
end Go.Proofs.YtiahmccchpmdgaaGreatDoor.Pg

namespace Go.Proofs.YtiahmccchpmdgaaGreatDoor
open Go.RowKit

theorem byte_info : (Tryz.prog.info? 5).map (fun i => (i.zero, i.size, i.bytes)) = some (some (.int .u8 0), 1, 1) := by kernel_rfl
/-- a slice of slices of bytes: the slice that begins at A shows ls -/
def Rowz (w : World) (B : Nat) (A : Option Addr) (ls : List (List UInt8)) : Prop :=
  ∃ vs : List Value, vs.length = ls.length ∧ Sees w B A vs ∧ ∀ i (h : i < ls.length), ∃ Ai ni ci, vs[i]? = some (.slice Ai ni ci) ∧ ls[i].length = ni ∧ ni ≤ 140737488351232 ∧ Sees w B Ai (byt ls[i])

section
variable {w w' : World} {B B' : Nat} {A : Option Addr} {ls : List (List UInt8)}
theorem Rowz.at_ {k : Nat} (h : Rowz w B A ls) (hk : k < ls.length) : ∃ ad Ai ni ci, A = some ad ∧ ad.block < B ∧ w.cell? (ad.add k) = some (.slice Ai ni ci) ∧ ls[k].length = ni ∧ ni ≤ 140737488351232 ∧ Sees w B Ai (byt ls[k]) := by
  obtain ⟨vs, hl, hs, hi⟩ := h
  obtain ⟨Ai, ni, ci, h1, h2, h3, h4⟩ := hi k hk
  obtain ⟨ad, e, hb, hc⟩ := hs.at_ (k := k) (by omega)
  obtain ⟨hk', e'⟩ := List.getElem?_eq_some_iff.1 h1
  exact ⟨ad, Ai, ni, ci, e, hb, by rw [hc, e'], h2, h3, h4⟩
theorem Rowz.keep (h : Rowz w B A ls) (hk : ∀ p : Addr, p.block < B → w'.cell? p = w.cell? p) : Rowz w' B A ls := by
  obtain ⟨vs, hl, hs, hi⟩ := h
  exact ⟨vs, hl, hs.keep hk, fun i hil => by
    obtain ⟨Ai, ni, ci, h1, h2, h3, h4⟩ := hi i hil
    exact ⟨Ai, ni, ci, h1, h2, h3, h4.keep hk⟩⟩
theorem Rowz.below (h : Rowz w B A ls) (hb : Below B w w') : Rowz w' B A ls := h.keep fun _ hp => hb.cell hp
theorem Rowz.more (h : Rowz w B A ls) (hB : B ≤ B') : Rowz w B' A ls := by
  obtain ⟨vs, hl, hs, hi⟩ := h
  exact ⟨vs, hl, hs.more hB, fun i hil => by
    obtain ⟨Ai, ni, ci, h1, h2, h3, h4⟩ := hi i hil
    exact ⟨Ai, ni, ci, h1, h2, h3, h4.more hB⟩⟩
end

/-- all, one behind the other -/
def flat : List (List UInt8) → List UInt8
  | [] => []
  | l :: r => l ++ flat r
theorem flat_snoc : ∀ (ls : List (List UInt8)) (l : List UInt8), flat (ls ++ [l]) = flat ls ++ l
  | [], l => by simp [flat]
  | x :: ls, l => by simp [flat, flat_snoc ls l]
theorem flat_take {ls : List (List UInt8)} {k : Nat} (h : k < ls.length) : flat (ls.take (k + 1)) = flat (ls.take k) ++ ls[k] := by
  rw [List.take_succ_eq_append_getElem h, flat_snoc]
theorem flat_take_le (ls : List (List UInt8)) (k : Nat) : (flat (ls.take k)).length ≤ (flat ls).length := by
  induction ls generalizing k with
  | nil => simp [flat]
  | cons x ls ih =>
    cases k with
    | zero => simp [flat]
    | succ k => simp only [List.take_succ_cons, flat, List.length_append]; have := ih k; omega
theorem flat_step {ls : List (List UInt8)} {k : Nat} (h : k < ls.length) : (flat (ls.take k)).length + ls[k].length ≤ (flat ls).length := by
  have := flat_take_le ls (k + 1)
  rw [flat_take h, List.length_append] at this
  exact this

set_option maxHeartbeats 1000000 in
theorem joined_any (ls : List (List UInt8)) (n c B : Nat) (A : Option Addr) (w : World) (hn : ls.length = n) (hm : n ≤ 140737488351232) (hf : (flat ls).length ≤ 140737488351232) (hr : Rowz w B A ls) (hB : B ≤ w.heap.size) :
    Calls Tryz.prog 146 #[.slice A n c] w fun e w' => ∃ v, e = .returned v ∧ w'.ownsRow w.heap.size 5 1 v (flat ls).length (byt (flat ls)) ∧ Below w.heap.size w w' := by
  obtain ⟨i0, hi, hz0, hz1, hz2⟩ := info_parts byte_info
  subst hn
  go_enter Tryz.func146, Tryz.ntmps146
  go_wp2
  go_loopw [3, 8] (fun v i wr => ∃ k : Nat, k ≤ ls.length ∧ i = .int .i64 k ∧ wr.ownsRow w.heap.size 5 1 v (flat (ls.take k)).length (byt (flat (ls.take k))) ∧ Rowz wr B A ls ∧ Below w.heap.size w wr) (fun _ i _ => ls.length - (_root_.Go.RowKit.intOf i).toNat)
  case atStart => exact ⟨0, Nat.zero_le _, rfl, World.ownsRow_nil _ _ _ _, hr, Below.refl _ _⟩
  case round =>
    obtain ⟨k, hk, rfl, hown, hr, hb⟩ := hrel
    by_cases hlt : k < ls.length
    · obtain ⟨ad, Ai, ni, ci, rfl, hab, hc, hln, hni, hsi⟩ := hr.at_ hlt
      have hfs := flat_step hlt
      have Hf := Lib.hid (flat_take hlt)
      have hs := hb.size
      have hbl : (byt ls[k]).length = ni * 1 := by rw [byt_length]; omega
      go_wp2_with (at_builtin; go_must (refine wpList_append_sees rfl (.tmp 12) (.tmp 13) 62 rfl w.heap.size 5 i0 _ 1 1 Tryz.underlying62 hi hz0 hz1 hz2 rfl (by decide) _ _ _ rfl hown B Ai ni ci (byt ls[k]) rfl hbl hsi byt_one (by unfold maxLen; omega) (by omega) (by omega) ?_; intro v' w1 hown' hg1 _))
      go_roundw
      case rel =>
        have hb1 := hb.grown hg1 hs (fun k e => (hown.lt k e).1)
        refine ⟨k + 1, by omega, by go_num, ?_, hr.keep fun p hp => World.cell?_of_block (hg1.block p.block (by omega) (fun e => by have := (hown.lt _ e.symm).1; omega)), hb1⟩
        rw [Hf.out, byt_append, List.length_append, hln]
        exact hown'
      case measure => simp [_root_.Go.RowKit.intOf]; omega
    · have Ht : Hid (ls.take k = ls) := Lib.hid (List.take_of_length_le (by omega))
      go_wp2
      go_ret
      rw [Ht.out] at hown
      exact ⟨_, rfl, hown, hb⟩
end Go.Proofs.YtiahmccchpmdgaaGreatDoor

namespace Go.Proofs.YtiahmccchpmdgaaGreatDoor.Vm
open Go.RowKit Go.Shelf Go.Maps Go.Sort
attribute [local go_sem] Oper.semAt_some

/- WHAT IS WRONG: THE FIRST QUESTION THAT IS ANSWERED NO. -/

structure Ask where
  cf : Nat
  first : Array Value
  cap : Array Value
  e : Int
  ans : Bool
def Ask.val (q : Ask) : Value := .func (.func q.cf) q.first q.cap
def askCells (qs : List Ask) : List Value := qs.flatMap fun q => [q.val, .int .i64 q.e]
def askE : List Ask → Int
  | [] => 0
  | q :: r => if q.ans then askE r else q.e
theorem ask_cells : ∀ (qs : List Ask) (k : Nat) (h : k < qs.length), (askCells qs)[k * 2]? = some qs[k].val ∧ (askCells qs)[k * 2 + 1]? = some (.int .i64 qs[k].e)
  | q :: r, 0, _ => ⟨rfl, rfl⟩
  | q :: r, k + 1, h => by
    have := ask_cells r k (by simpa using h)
    rw [show (k + 1) * 2 = k * 2 + 1 + 1 by omega]
    exact this
theorem askE_at : ∀ (qs : List Ask) (k : Nat) (h : k < qs.length), (∀ j (hj : j < qs.length), j < k → qs[j].ans = true) → qs[k].ans = false → askE qs = qs[k].e
  | q :: r, 0, _, _, h => by simp at h; simp [askE, h]
  | q :: r, k + 1, hk, ha, h => by
    have h0 : q.ans = true := ha 0 (by simp) (by omega)
    rw [askE, if_pos h0]
    exact askE_at r k (by simpa using hk) (fun j hj hjk => ha (j + 1) (by simpa using hj) (by omega)) h
theorem askE_end : ∀ (qs : List Ask), (∀ j (hj : j < qs.length), qs[j].ans = true) → askE qs = 0
  | [], _ => rfl
  | q :: r, ha => by
    have h0 : q.ans = true := ha 0 (by simp)
    rw [askE, if_pos h0]
    exact askE_end r fun j hj => ha (j + 1) (by simpa using hj)

def Asks (w : World) (qs : List Ask) : Prop :=
  ∀ k (hk : k < qs.length), (∀ j (hj : j < qs.length), j < k → qs[j].ans = true) → (∀ args V, (callFunc qs[k].cf args).run Tryz.prog V = .ok (.enter qs[k].cf args) V) ∧
    ∀ V, Below w.heap.size w V → Calls Tryz.prog qs[k].cf (qs[k].first ++ qs[k].cap) V fun e V' => e = .returned (.bool qs[k].ans) ∧ Below V.heap.size V V'

set_option maxHeartbeats 1000000 in
theorem asked_any (qs : List Ask) (g n c : Nat) (w : World) (hn : qs.length = n) (hm : n ≤ 100) (hr : Row w g 187 (askCells qs)) (hq : Asks w qs) :
    Calls Tryz.prog 99 #[.slice (some ⟨g, 0, none⟩) n c] w fun e w' => e = .returned (.int .i64 (askE qs)) ∧ Below w.heap.size w w' := by
  have hgl := hr.lt
  have HC := Lib.hid (fun k hk => ask_cells qs k hk)
  have HA := Lib.hid (fun k h1 h2 h3 => askE_at qs k h1 h2 h3)
  have HE := Lib.hid (askE_end qs)
  have HQ := Lib.hid hq
  have HR := Lib.hid hr
  obtain ⟨E, hE⟩ : ∃ E, E = askE qs := ⟨_, rfl⟩
  rw [← hE] at HA HE ⊢
  clear hE hq hr
  go_enter Tryz.func99, Tryz.ntmps99
  go_wp2_with fail
  go_loopw [7] (fun s wr => ∃ k : Nat, k ≤ n ∧ s = .int .i64 (k : Int) ∧ Hid (∀ j (hj : j < qs.length), j < k → qs[j].ans = true) ∧ Below w.heap.size w wr) (fun s _ => n - (_root_.Go.RowKit.intOf s).toNat)
  case atStart => exact ⟨0, by omega, rfl, Lib.hid (fun j hj h => absurd h (by omega)), Below.refl _ _⟩
  case round =>
    obtain ⟨k, hk, rfl, hall, hb⟩ := hrel
    by_cases hlt : k < n
    · have hkl : k < qs.length := by omega
      have e0 : decide ((k : Int) < (n : Int)) = true := decide_eq_true (by omega)
      have i0 : (0 : Int) ≤ (k : Int) := by omega
      have i1 : (k : Int) < (n : Int) := by omega
      obtain ⟨c0, c1⟩ := HC.out k hkl
      have hc0 : wr.cell? ⟨g, k * 2, none⟩ = some qs[k].val := ((hb.cell (p := ⟨g, k * 2, none⟩) hgl).trans (HR.out.cell _)).trans c0
      have hc1 : wr.cell? ⟨g, k * 2 + 1, none⟩ = some (.int .i64 qs[k].e) := ((hb.cell (p := ⟨g, k * 2 + 1, none⟩) hgl).trans (HR.out.cell _)).trans c1
      obtain ⟨hent, hcall⟩ := HQ.out k hkl hall.out
      have HCALL := Lib.hid hcall
      obtain ⟨q, hqe⟩ : ∃ q, q = qs[k] := ⟨_, rfl⟩
      have HQE := Lib.hid hqe
      rw [← hqe] at hc0 hc1 hent HCALL
      obtain ⟨cf, first, cap, ee, ans⟩ := q
      simp only [Ask.val] at hc0 hc1 hent HCALL
      clear hcall c0 c1 hqe
      go_wp2_with fail
      have hb1 := Lib.hid (hb.alloc hb.size (.cells #[.func (.func cf) first cap, .int .i64 ee] 187))
      refine (HCALL.out _ hb1.out).mono ?_
      rintro e w1 ⟨rfl, hb2⟩
      have hd1 : w1.cell? ⟨wr.heap.size, 1, none⟩ = some (.int .i64 ee) := (hb2.cell (p := ⟨wr.heap.size, 1, none⟩) (by simp)).trans (cell_alloc_new _ _ _ _)
      have hb3 := Lib.hid (show Below w.heap.size w w1 from hb1.out.trans (hb2.mono (by have := hb1.out.size; exact this)))
      clear hb2 hb1 hc0 hc1 hent HCALL
      cases ans
      · have hfin := Lib.hid (HA.out k hkl hall.out (by rw [← HQE.out]))
        rw [← HQE.out] at hfin
        go_wp2
        go_ret
        exact ⟨by rw [hfin.out]; rfl, hb3.out⟩
      · have hall2 : Hid (∀ j (hj : j < qs.length), j < k + 1 → qs[j].ans = true) := Lib.hid fun j hj hjk => by
          rcases Nat.lt_or_ge j k with h | h
          · exact hall.out j hj h
          · obtain rfl : j = k := by omega
            rw [← HQE.out]
        go_wp2
        go_roundw
        case rel => exact ⟨k + 1, by omega, by go_num, hall2, hb3.out⟩
        case measure => simp [_root_.Go.RowKit.intOf]; omega
    · obtain rfl : k = n := by omega
      have hfin := Lib.hid (HE.out (fun j hj => hall.out j hj (by omega)))
      go_wp2
      go_ret
      exact ⟨by rw [hfin.out]; rfl, hb⟩
/- QUESTIONS OVER BOXES. -/

def boxW (w : World) : List (List Value × TypeId) → World
  | [] => w
  | x :: r => boxW (w.alloc (.cells x.1.toArray x.2)) r
/-- each box holds its thing -/
structure Boxes (w : World) (l : List (List Value)) (V : World) : Prop where
  below : Below w.heap.size w V
  row : ∀ k cs, l[k]? = some cs → ∃ t, Row V (w.heap.size + k) t cs
  size : w.heap.size + l.length ≤ V.heap.size
theorem Boxes.cell {w V : World} {l : List (List Value)} (h : Boxes w l V) (k : Nat) (cs : List Value) (hk : l[k]? = some cs) (j : Nat) (v : Value) (hv : cs[j]? = some v) : V.cell? ⟨w.heap.size + k, j, none⟩ = some v := by
  obtain ⟨t, hr⟩ := h.row k cs hk
  exact (hr.cell j).trans hv
theorem Boxes.frozen {w V : World} {l : List (List Value)} (h : Boxes w l V) (k : Nat) (cs : List Value) (hk : l[k]? = some cs) (j : Nat) : V.frozen? ⟨w.heap.size + k, j, none⟩ = false := by
  obtain ⟨t, hr⟩ := h.row k cs hk
  exact hr.frozen j
theorem box_size : ∀ (l : List (List Value × TypeId)) (w : World), (boxW w l).heap.size = w.heap.size + l.length
  | [], w => rfl
  | x :: r, w => by rw [boxW, box_size r]; simp; omega
theorem box_below : ∀ (l : List (List Value × TypeId)) (w V : World), Below w.heap.size w V → Below w.heap.size w (boxW V l)
  | [], w, V, h => h
  | x :: r, w, V, h => by rw [boxW]; exact box_below r w _ (h.alloc h.size _)
theorem box_keep : ∀ (l : List (List Value × TypeId)) (V : World) (k : Nat), k < V.heap.size → (boxW V l).heap[k]? = V.heap[k]?
  | [], V, k, h => rfl
  | x :: r, V, k, h => by
    rw [boxW, box_keep r _ k (by simp; omega)]
    exact Below.heap_alloc _ _ _ h
theorem box_row : ∀ (l : List (List Value × TypeId)) (w : World) (k : Nat) (x : List Value × TypeId), l[k]? = some x → Row (boxW w l) (w.heap.size + k) x.2 x.1
  | [], w, k, x, h => by simp at h
  | y :: r, w, 0, x, h => by
    simp at h
    subst h
    exact (Row.new w y.2 y.1).same (box_keep r _ _ (by simp))
  | y :: r, w, k + 1, x, h => by
    have := box_row r (w.alloc (.cells y.1.toArray y.2)) k x (by simpa using h)
    rw [World.size_alloc] at this
    rw [boxW, show w.heap.size + (k + 1) = w.heap.size + 1 + k by omega]
    exact this
def askW (w : World) (l : List (List Value × TypeId)) (qs : List Ask) : World := (boxW w l).alloc (.cells (askCells qs).toArray 187)
theorem Boxes.more {w V V' : World} {l : List (List Value)} (h : Boxes w l V) (hb : Below V.heap.size V V') : Boxes w l V' :=
  ⟨below0 h.below hb, fun k cs hk => by
    obtain ⟨t, hr⟩ := h.row k cs hk
    exact ⟨t, hr.below hb⟩, Nat.le_trans h.size hb.size⟩
theorem Boxes.keepRow {w V V' : World} {l : List (List Value)} {F : Nat → Prop} (h : Boxes w l V) (hb : Keep F V V') (hF : ∀ k, F k → k < w.heap.size) (k : Nat) (cs : List Value) (hk : l[k]? = some cs) : ∃ t, Row V' (w.heap.size + k) t cs := by
  obtain ⟨t, hr⟩ := h.row k cs hk
  exact ⟨t, hb.row hr fun hf => by have := hF _ hf; omega⟩
theorem Boxes.keep {w V V' : World} {l : List (List Value)} {F : Nat → Prop} (h : Boxes w l V) (hb : Keep F V V') (hF : ∀ k, F k → k < w.heap.size) (k : Nat) (cs : List Value) (hk : l[k]? = some cs) (j : Nat) (v : Value) (hv : cs[j]? = some v) : V'.cell? ⟨w.heap.size + k, j, none⟩ = some v := by
  obtain ⟨t, hr⟩ := h.keepRow hb hF k cs hk
  exact (hr.cell j).trans hv
theorem askW_boxes (w : World) (l : List (List Value × TypeId)) (qs : List Ask) : Boxes w (l.map Prod.fst) (askW w l qs) ∧ Row (askW w l qs) (w.heap.size + l.length) 187 (askCells qs) ∧ (askW w l qs).heap.size = w.heap.size + l.length + 1 := by
  have hs := box_size l w
  refine ⟨⟨(box_below l w w (Below.refl _ _)).alloc (by omega) _, fun k cs hk => ?_, by simp [askW, hs]⟩, Row.new_at _ _ _ hs, by simp [askW, hs]⟩
  rw [List.getElem?_map, Option.map_eq_some_iff] at hk
  obtain ⟨x, hx, rfl⟩ := hk
  exact ⟨_, (box_row l w k x hx).below (below1 _ _)⟩
theorem asked_box {w : World} (l : List (List Value × TypeId)) (qs : List Ask) (n c s : Nat) (hs : s = w.heap.size + l.length) (hn : qs.length = n) (hm : n ≤ 100)
    (HQ : ∀ k (hk : k < qs.length), (∀ j (hj : j < qs.length), j < k → qs[j].ans = true) → (∀ args V, (callFunc qs[k].cf args).run Tryz.prog V = .ok (.enter qs[k].cf args) V) ∧
      ∀ V, Boxes w (l.map Prod.fst) V → Calls Tryz.prog qs[k].cf (qs[k].first ++ qs[k].cap) V fun e V' => e = .returned (.bool qs[k].ans) ∧ Below V.heap.size V V') :
    Calls Tryz.prog 99 #[.slice (some ⟨s, 0, none⟩) n c] (askW w l qs) fun e w' => e = .returned (.int .i64 (askE qs)) ∧ Boxes w (l.map Prod.fst) w' ∧ s < w'.heap.size := by
  obtain ⟨h1, h2, h3⟩ := askW_boxes w l qs
  subst hs
  refine (asked_any qs (w.heap.size + l.length) n c _ hn hm h2 fun k hk hall => ⟨(HQ k hk hall).1, fun V hV => (HQ k hk hall).2 V (h1.more hV)⟩).mono fun e w' ⟨e1, e2⟩ => ⟨e1, h1.more e2, ?_⟩
  have := e2.size
  omega
end Go.Proofs.YtiahmccchpmdgaaGreatDoor.Vm
