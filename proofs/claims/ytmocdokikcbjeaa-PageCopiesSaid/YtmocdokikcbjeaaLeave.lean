import Derived.Test.YtmocdokikcbjeaaMap
namespace Go.Proofs.Ytmocdokikcbjeaa
open Go.RowKit Go.Shelf Go.Maps Go.ChangeMaps Go.MapKept
attribute [local go_sem] Oper.semAt_some

/- A PAGE THAT IS MAPPED IS UNMAPPED; WHAT MAY BE DONE THERE IS CHANGED. -/
theorem turned_heap {w w' : World} {b : Nat} (h : w.mapTurned w' b) (k : Nat) (hk : k ≠ b) : w'.heap[k]? = w.heap[k]? := by
  refine grown_heap h.grown ?_ k hk
  obtain ⟨es, clock, es', clock', hb, rfl⟩ := h
  simp [setBlock]
theorem keep_set3 {w w3 : World} {F : Nat → Prop} (hk : Keep F w w3) (x y z : Value) : Keep F w (((w3.setCell ⟨w.heap.size, 0, none⟩ x).setCell ⟨w.heap.size, 1, none⟩ y).setCell ⟨w.heap.size, 2, none⟩ z) :=
  ((hk.set _ (.inr (Nat.le_refl _))).set _ (.inr (Nat.le_refl _))).set _ (.inr (Nat.le_refl _))
theorem rep_set3 {w3 : World} {b bp bf n : Nat} {l : Tb} (h : Rep w3 b l bp bf) (h1 : b < n) (h2 : bp < n) (h3 : bf < n) (x y z : Value) : Rep (((w3.setCell ⟨n, 0, none⟩ x).setCell ⟨n, 1, none⟩ y).setCell ⟨n, 2, none⟩ z) b l bp bf := by
  refine h.keep fun k hk => ?_
  have : k ≠ n := by rcases hk with rfl | rfl | rfl <;> omega
  rw [heap_set this, heap_set this, heap_set this]
theorem lookup_at {w : World} {bp n : Nat} {l : Tb} {p : Int} {e : En} (hown : w.ownsMap Try.prog 3 entR bp n (mapP l)) (hp : I64 p) (he : look l p = some e) :
    (Instr.lookup 70 (.map (some bp)) (.int .i64 p) false).run Try.prog w = .ok (.agg #[.int .i64 e.1, .int .i64 e.2.1, .int .i64 e.2.2]) w := by
  obtain ⟨v, ps, hrun, hv⟩ := hown.lookup law Try.underlying70 (zeroP w) (entR_en zeroEn) (keyZ hp)
  rw [hrun, look_en hv]
  unfold getX
  rw [he]
  rfl
set_option maxRecDepth 100000 in
set_option maxHeartbeats 2000000 in
theorem leave_any {b bp bf : Nat} {l : Tb} {w : World} (h : Rep w b l bp bf) (p : Int) (hp : I64 p) (e : En) (he : look l p = some e) :
    Calls Try.prog 54 #[bx b, .int .i64 p] w fun e' w' => e' = .returned (enV e) ∧ Rep w' b (del l p) bp bf ∧ Keep (blocks b bp bf) w w' := by
  obtain ⟨w1, hw1⟩ : ∃ w1, w1 = (w.alloc (.cells #[.int .i64 0, .int .i64 0, .int .i64 0] 34)).alloc (.cells #[.int .i64 e.1, .int .i64 e.2.1, .int .i64 e.2.2] 34) := ⟨_, rfl⟩
  have hb1 : Below w.heap.size w w1 := hw1 ▸ below2 w _ _
  have hlk := lookup_at (w := w.alloc (.cells #[.int .i64 0, .int .i64 0, .int .i64 0] 34)) (h.below (below1 w _)).pages hp he
  have hr1 := h.below hb1
  have hkey := keyZ hp
  have hx : En64 e := h.ok.big _ (look_some he)
  have hkey2 := keyZ hx.2.2
  have hbl := h.obj.lt
  have hpl := h.pages.lt
  have hfl := h.frames.lt
  have np := h.ne_p
  have nf := h.ne_f
  have ne := h.ne
  have c0 := h.c0
  have g0 : Row w1 w.heap.size 34 [.int .i64 0, .int .i64 0, .int .i64 0] := by
    rw [hw1]
    exact (Row.new w _ _).below (below1 _ _)
  have g1 : Row w1 (w.heap.size + 1) 34 [.int .i64 e.1, .int .i64 e.2.1, .int .i64 e.2.2] := by
    rw [hw1]
    exact Row.new_at _ _ _ (by simp)
  have hpm : w1.ownsMap Try.prog 3 entR bp 65536 (mapP l) := hr1.pages
  have HM := Lib.hid (fun (w2 : World) (ho : w2.ownsMap Try.prog 3 entR bp 65536 ((mapP l).del (.int .i64 p))) (ht : w1.mapTurned w2 bp) =>
    (show w2.cell? ⟨b, 0, none⟩ = some (.map (some bp)) ∧ w2.cell? ⟨b, 1, none⟩ = some (.map (some bf)) ∧ w2.cell? ⟨w.heap.size + 1, 0, none⟩ = some (.int .i64 e.1) ∧ w2.cell? ⟨w.heap.size + 1, 1, none⟩ = some (.int .i64 e.2.1) ∧ w2.cell? ⟨w.heap.size + 1, 2, none⟩ = some (.int .i64 e.2.2) ∧
      ∃ w3, (Builtin.delete_ #[71, 3] 0 #[.map (some bf), .int .i64 e.2.2]).run Try.prog w2.drew = .ok (.tuple #[]) w3 ∧
        (w3.cell? ⟨b, 1, none⟩ = some (.map (some bf)) ∧ w3.cell? ⟨w.heap.size + 1, 2, none⟩ = some (.int .i64 e.2.2)) ∧
        (w3.cell? ⟨w.heap.size + 1, 0, none⟩ = some (.int .i64 e.1) ∧ w3.cell? ⟨w.heap.size + 1, 1, none⟩ = some (.int .i64 e.2.1) ∧ w3.cell? ⟨w.heap.size + 1, 2, none⟩ = some (.int .i64 e.2.2)) ∧
        Row w3 w.heap.size 34 [.int .i64 0, .int .i64 0, .int .i64 0] ∧ Rep w3 b (del l p) bp bf ∧ Keep (blocks b bp bf) w w3 from by
    have k2 := fun k hk => turned_heap ht k hk
    obtain ⟨D, hD, hF⟩ := hr1.frames
    obtain ⟨w3, hrun, hD3, ht3⟩ := World.ownsMap.drop (w := w2.drew) (owns_same hD (show w2.drew.heap[bf]? = w1.heap[bf]? from k2 bf ne.symm)) law Try.underlying71 hkey2 0
    have k3 : ∀ k, k ≠ bf → w3.heap[k]? = w2.heap[k]? := fun k hk => turned_heap ht3 k hk
    have hb2 := (hr1.obj.same (k2 b np))
    have hb3 := (hb2.same (k3 b nf))
    have q2 := g1.same (k2 (w.heap.size + 1) (by omega))
    have q3 := q2.same (k3 (w.heap.size + 1) (by omega))
    refine ⟨hb2.cell 0, hb2.cell 1, q2.cell 0, q2.cell 1, q2.cell 2, w3, hrun, ⟨hb3.cell 1, q3.cell 2⟩, ⟨q3.cell 0, q3.cell 1, q3.cell 2⟩, (g0.same (k2 w.heap.size (by omega))).same (k3 w.heap.size (by omega)), ⟨del_ok h.ok p, hb3, ?_, ⟨_, hD3, hF.del h.ok he⟩, ne⟩, ?_⟩
    · rw [mapP_del] at ho
      exact owns_same ho (k3 bp ne)
    · exact (((Keep.of_below hb1).grown ht.grown (fun r e => by cases e; exact .inr (.inr (.inl rfl)))).drewN 1).grown ht3.grown (fun r e => by cases e; exact .inr (.inr (.inr rfl)))))
  obtain ⟨w2, hrun2, ho2, ht2⟩ := World.ownsMap.drop hpm law Try.underlying70 hkey 0
  obtain ⟨s0, s1, s2, s3, s4, w3, hrun3, hS3, hQ, hg3, hfin⟩ := HM.out w2 ho2 ht2
  have HF := Lib.hid hfin
  have HS2 := Lib.hid (And.intro s1 s4)
  have HS3 := Lib.hid hS3
  obtain ⟨q0, q1, q2⟩ := hQ
  have f0 := hg3.cell 0
  have f1 := hg3.cell 1
  have f2 := hg3.cell 2
  have z0 := hg3.frozen 0
  have z1 := hg3.frozen 1
  have z2 := hg3.frozen 2
  have HG := Lib.hid hg3
  have HL := Lib.hid (And.intro hbl (And.intro hpl hfl))
  rw [hw1] at hrun2
  have d0 : w1.cell? ⟨b, 0, none⟩ = some (.map (some bp)) := hr1.c0
  rw [hw1] at d0
  clear hr1 g0 g1 hb1 hx np nf ne hpl hfl h he HM ho2 ht2 hpm hw1 hfin hS3 hg3
  obtain ⟨x1, x2, x3⟩ := e
  simp only [List.getElem?_cons_zero, List.getElem?_cons_succ] at hlk hkey2 hrun2 hrun3 d0 s2 s3 s4 q0 q1 q2 HS2 HS3 f0 f1 f2
  go_enter Try.func54, Try.ntmps54
  go_wp2_with fail
  go_region_held3 (fun W => W.cell? ⟨b, 1, none⟩ = some (.map (some bf)) ∧ W.cell? ⟨w.heap.size + 1, 2, none⟩ = some (.int .i64 x3))
    (first | exact HS2.out | exact HS3.out)
    (fail)
  go_wp2_with fail
  have hR := ((HG.out.set 0 (.int .i64 x1)).set 1 (.int .i64 x2)).set 2 (.int .i64 x3)
  exact bodyPost_ret (res_cell1 Try.results54 rfl (load_en (x := (x1, x2, x3)) fun j v hj => (hR.cell j).trans hj)) rfl ⟨rfl, rep_set3 HF.out.1 HL.out.1 HL.out.2.1 HL.out.2.2 _ _ _, keep_set3 HF.out.2 _ _ _⟩
set_option maxRecDepth 100000 in
set_option maxHeartbeats 2000000 in
theorem allow_any {b bp bf : Nat} {l : Tb} {w : World} (h : Rep w b l bp bf) (p m : Int) (hp : I64 p) (hm : mayB m = true) (e : En) (he : look l p = some e) :
    Calls Try.prog 59 #[bx b, .int .i64 p, .int .i64 m] w fun e' w' => e' = .returned (.int .i64 e.2.1) ∧ Rep w' b (setM l p m) bp bf ∧ Keep (blocks b bp bf) w w' := by
  obtain ⟨w1, hw1⟩ : ∃ w1, w1 = w.alloc (.cells #[.int .i64 e.1, .int .i64 m, .int .i64 e.2.2] 34) := ⟨_, rfl⟩
  have hb1 : Below w.heap.size w w1 := hw1 ▸ below1 w _
  have hlk := lookup_at h.pages hp he
  have hr1 := h.below hb1
  have hkey := keyZ hp
  have np := h.ne_p
  have ne := h.ne
  have c0 := h.c0
  have hbl := h.obj.lt
  have hpl := h.pages.lt
  have g1 : Row w1 w.heap.size 34 [.int .i64 e.1, .int .i64 m, .int .i64 e.2.2] := by
    rw [hw1]
    exact Row.new _ _ _
  have hok := setM_ok h.ok p m hm
  obtain ⟨w2, hrun2, ho2, hg2⟩ := World.ownsMap.update (w := w1.drew) (key := .int .i64 p) (val := enV (e.1, m, e.2.2)) (show w1.drew.ownsMap Try.prog 3 entR bp 65536 (mapP l) from hr1.pages) law Try.underlying70 (by decide) hkey (entR_en (e.1, m, e.2.2))
  have hs2 : w2.heap.size = w1.heap.size := by
    obtain ⟨w2', hrun2', _, ht2⟩ := World.ownsMap.store (w := w1.drew) (key := .int .i64 p) (val := enV (e.1, m, e.2.2)) (show w1.drew.ownsMap Try.prog 3 entR bp 65536 (mapP l) from hr1.pages) law Try.underlying70 (by decide) hkey (entR_en (e.1, m, e.2.2))
    rw [hrun2] at hrun2'
    injection hrun2' with _ e2
    subst e2
    obtain ⟨es, clock, es', clock', hb, rfl⟩ := ht2
    simp [setBlock]
  rw [mapP_set m h.ok.sorted he] at ho2
  have k2 : ∀ k, k ≠ bp → w2.heap[k]? = w1.heap[k]? := fun k hk => grown_heap hg2 hs2 k hk
  have HF := Lib.hid (show Rep w2 b (setM l p m) bp bf ∧ Keep (blocks b bp bf) w w2 from by
    obtain ⟨D, hD, hF⟩ := hr1.frames
    refine ⟨⟨hok, hr1.obj.same (k2 b np), owns_tight ho2 (by rw [mapP_size, setM_len]; exact h.ok.len), ⟨D, owns_same hD (k2 bf ne.symm), hF.set p m⟩, ne⟩, ?_⟩
    exact ((Keep.of_below hb1).drewN 1).grown hg2 (fun r e => by cases e; exact .inr (.inr (.inl rfl))))
  have HS1 := Lib.hid (show w1.cell? ⟨b, 0, none⟩ = some (.map (some bp)) ∧ w1.cell? ⟨w.heap.size, 0, none⟩ = some (.int .i64 e.1) ∧ w1.cell? ⟨w.heap.size, 1, none⟩ = some (.int .i64 m) ∧ w1.cell? ⟨w.heap.size, 2, none⟩ = some (.int .i64 e.2.2) from ⟨hr1.c0, g1.cell 0, g1.cell 1, g1.cell 2⟩)
  have HS2 := Lib.hid (show w2.cell? ⟨b, 0, none⟩ = some (.map (some bp)) ∧ w2.cell? ⟨w.heap.size, 0, none⟩ = some (.int .i64 e.1) ∧ w2.cell? ⟨w.heap.size, 1, none⟩ = some (.int .i64 m) ∧ w2.cell? ⟨w.heap.size, 2, none⟩ = some (.int .i64 e.2.2) from
    ⟨(World.cell?_of_block (k2 b np)).trans hr1.c0, (World.cell?_of_block (k2 w.heap.size (by omega))).trans (g1.cell 0), (World.cell?_of_block (k2 w.heap.size (by omega))).trans (g1.cell 1), (World.cell?_of_block (k2 w.heap.size (by omega))).trans (g1.cell 2)⟩)
  have HW := Lib.hid hw1
  have hrun2 : (Instr.mapUpdate 70 (.map (some bp)) (.int .i64 p) (.agg #[.int .i64 e.1, .int .i64 m, .int .i64 e.2.2])).run Try.prog w1.drew = .ok () w2 := hrun2
  obtain ⟨x1, x2, x3⟩ := e
  simp only at hlk hrun2 HS1 HS2 HW ⊢
  clear hr1 g1 hb1 np ne hpl h he hok ho2 hg2 hs2 k2 hw1 hkey hm
  go_enter Try.func59, Try.ntmps59
  go_wp2_with fail
  rw [← HW.out]
  go_region_held3 (fun W => W.cell? ⟨b, 0, none⟩ = some (.map (some bp)) ∧ W.cell? ⟨w.heap.size, 0, none⟩ = some (.int .i64 x1) ∧ W.cell? ⟨w.heap.size, 1, none⟩ = some (.int .i64 m) ∧ W.cell? ⟨w.heap.size, 2, none⟩ = some (.int .i64 x3))
    (first | exact HS1.out | exact HS2.out)
    (fail)
  go_wp2_with fail
  go_ret
  exact ⟨rfl, HF.out⟩
end Go.Proofs.Ytmocdokikcbjeaa
