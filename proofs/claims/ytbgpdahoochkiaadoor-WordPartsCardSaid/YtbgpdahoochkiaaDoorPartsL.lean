import Derived.Test.YtbgpdahoochkiaaDoorRowsP
import Derived.RangeFuncBox
namespace Go.Proofs.YtbgpdahoochkiaaDoor
open Go.RowKit Go.Shelf

/-- what holds between two parts -/
def PLI (w : World) (B2 : Nat) (many : Int) (pre : List PX) (O : Nat → Prop) (V : World) : Prop :=
  ∃ v cells, Boxed V (w.heap.size + 1) 41 v ∧ Boxed V w.heap.size 3 (.int .i64 many) ∧ V.ownsRow B2 45 2 v pre.length cells ∧ (∀ k, v.ownBlock = some k → O k) ∧ PRow O V (pre.map PX.prj) cells ∧ Below w.heap.size w V

theorem PLI.abid {w : World} {B2 : Nat} {many : Int} (h : w.heap.size + 2 ≤ B2) : Abid B2 (PLI w B2 many) := by
  rintro pre O V V' row ⟨v, cells, h1, h2, h3, h4, h5, h6⟩ hg hr
  have hne : ∀ k, (k < B2 ∨ O k) → some k ≠ row := fun k hk e => by
    have := hr k e.symm
    rcases hk with hk | hk
    · omega
    · exact this.2 hk
  exact ⟨v, cells, h1.kept hg (hne _ (.inl (by omega))), h2.kept hg (hne _ (.inl (by omega))), own_same h3 (fun k hk => hg.block k (own_lt h3 hk) (hne k (.inr (h4 k hk)))), h4, h5.keep (fun _ h => h) (fun k n c ys hk ho => hg.block k (own_lt ho rfl) (hne k (.inr hk))),
    h6.grown hg (by have := h1.lt; omega) (fun k e => by have := hr k e; omega)⟩
theorem PLI.drew {w V : World} {B2 : Nat} {many : Int} {pre : List PX} {O : Nat → Prop} (h : PLI w B2 many pre O V) : PLI w B2 many pre O V.drew := by
  obtain ⟨v, cells, h1, h2, h3, h4, h5, h6⟩ := h
  exact ⟨v, cells, h1, h2, h3, h4, h5, below_drewN h6 1⟩

/-- what a round does -/
theorem PLI.round {w V : World} {B2 : Nat} {many : Int} {pre : List PX} {O Priv : Nat → Prop} {x : PX} (h : PLI w B2 many pre O V) (hB : w.heap.size + 2 ≤ B2) (hV : B2 ≤ V.heap.size) (hO : ∀ k, O k → B2 ≤ k ∧ k < V.heap.size)
    (hxo : V.ownsRow 0 5 1 (.slice (some ⟨x.blk, 0, none⟩) x.bytes.length x.cap) x.bytes.length (byt x.bytes)) (hx0 : 0 < x.bytes.length) (hx1 : x.bytes.length ≤ 1000000) (hn : pre.length ≤ 1000000) (hxB : B2 ≤ x.blk) (hxO : ¬ O x.blk)
    (hP : ∀ k, Priv k → k < B2 ∧ k ≠ w.heap.size + 1) :
    ∃ v w1 w3 g1 c1 g2 c2, Boxed V (w.heap.size + 1) 41 v ∧ Boxed (V.alloc (.cells #[] 5)) (w.heap.size + 1) 41 v ∧ Boxed w1 (w.heap.size + 1) 41 v ∧ Boxed (w1.alloc (.cells #[.int .i64 x.at_, .slice (some ⟨g1, 0, none⟩) x.bytes.length c1] 45)) (w.heap.size + 1) 41 v ∧
      (Builtin.append_ #[23, 23] 23 #[.slice (some ⟨V.heap.size, 0, none⟩) 0 0, .slice (some ⟨x.blk, 0, none⟩) x.bytes.length x.cap]).run Tryd.prog (V.alloc (.cells #[] 5)) = .ok (.slice (some ⟨g1, 0, none⟩) x.bytes.length c1) w1 ∧
      (Builtin.append_ #[41, 41] 41 #[v, .slice (some ⟨w1.heap.size, 0, none⟩) 1 1]).run Tryd.prog (w1.alloc (.cells #[.int .i64 x.at_, .slice (some ⟨g1, 0, none⟩) x.bytes.length c1] 45)) = .ok (.slice (some ⟨g2, 0, none⟩) (pre.length + 1) c2) w3 ∧
      Boxed w3 (w.heap.size + 1) 41 v ∧ ∃ b0 : Nat,
      (w3.setCell ⟨w.heap.size + 1, 0, none⟩ (.slice (some ⟨g2, 0, none⟩) (pre.length + 1) c2)).cell? ⟨x.blk, 0, none⟩ = some (.int .u8 b0) ∧
      (w3.setCell ⟨w.heap.size + 1, 0, none⟩ (.slice (some ⟨g2, 0, none⟩) (pre.length + 1) c2)).frozen? ⟨x.blk, 0, none⟩ = false ∧
      ∀ u w5, w5 = (w3.setCell ⟨w.heap.size + 1, 0, none⟩ (.slice (some ⟨g2, 0, none⟩) (pre.length + 1) c2)).setCell ⟨x.blk, 0, none⟩ u →
        w5.cell? ⟨w.heap.size + 1, 0, none⟩ = some (.slice (some ⟨g2, 0, none⟩) (pre.length + 1) c2) ∧ w5.cell? ⟨w.heap.size, 0, none⟩ = some (.int .i64 many) ∧
        Hid (Keeps Priv B2 O (memPart x) V w5 ∧ PLI w B2 many (pre ++ [x]) (nextO O (memPart x) V w5) w5) := by
  obtain ⟨v, cells, h1, h2, h3, h4, h5, h6⟩ := h
  obtain ⟨v1, w1, v2, w3, g1, c1, hr1, rfl, hg1, hg1u, hr2, ho2, ho1, hs3, hw1, hvb, hsame, hgr⟩ := part_step V B2 pre.length x.bytes.length x.cap x.at_ v cells x.bytes x.blk hV h3 hxo hx0 hx1 hn
  obtain ⟨g2, c2, rfl⟩ := ownsRow_succ ho2
  have hb1 := h1.not_row (by decide) h3
  have hb2 := h2.not_row (by decide) h3
  have hxv : some x.blk ≠ v.ownBlock := by
    rcases own_apart hxo h3 (by decide) with h | h
    · simp [Value.ownBlock] at h
    · exact h
  have hxlt : x.blk < V.heap.size := own_lt hxo rfl
  have hone : w1.heap[w.heap.size + 1]? = V.heap[w.heap.size + 1]? := hw1 _ h1.lt
  have hB3 : Boxed w3 (w.heap.size + 1) 41 v := (hsame _ h1.lt hb1).trans h1
  have hB3m : Boxed w3 w.heap.size 3 (.int .i64 many) := (hsame _ h2.lt hb2).trans h2
  have hx3 : w3.ownsRow 0 5 1 (.slice (some ⟨x.blk, 0, none⟩) x.bytes.length x.cap) x.bytes.length (byt x.bytes) := own_same hxo (fun k e => by simp only [Value.ownBlock, Option.some.injEq] at e; subst e; exact hsame _ hxlt hxv)
  obtain ⟨w4, hw4⟩ : ∃ w4, w4 = w3.setCell ⟨w.heap.size + 1, 0, none⟩ (.slice (some ⟨g2, 0, none⟩) (pre.length + 1) c2) := ⟨_, rfl⟩
  have hs4 : w4.heap.size = w3.heap.size := by rw [hw4]; simp [World.setCell]
  have hk4 : ∀ k, k ≠ w.heap.size + 1 → w4.heap[k]? = w3.heap[k]? := fun k hk => by rw [hw4]; exact Below.heap_setCell _ _ _ _ hk
  have hx4 : w4.ownsRow 0 5 1 (.slice (some ⟨x.blk, 0, none⟩) x.bytes.length x.cap) x.bytes.length (byt x.bytes) := own_same hx3 (fun k e => by simp only [Value.ownBlock, Option.some.injEq] at e; subst e; exact hk4 _ (by omega))
  have hB4 : Boxed w4 (w.heap.size + 1) 41 (.slice (some ⟨g2, 0, none⟩) (pre.length + 1) c2) := by rw [hw4]; exact hB3.set _
  have hB4m : Boxed w4 w.heap.size 3 (.int .i64 many) := (hk4 _ (by omega)).trans hB3m
  refine ⟨v, w1, w3, g1, c1, g2, c2, h1, h1.alloc _, hone.trans h1, (show Boxed w1 (w.heap.size + 1) 41 v from hone.trans h1).alloc _, hr1, hr2, hB3, x.bytes[0].toNat, ?_, ?_, ?_⟩
  · rw [← hw4, hx4.cellAt 0 (by omega), byt_get hx0]
  · rw [← hw4]; exact hx4.frozenAt 0
  · rw [← hw4]
    rintro u w5 hw5
    have hs5 : w5.heap.size = w3.heap.size := by rw [hw5]; simp [World.setCell, hs4]
    have hk5 : ∀ k, k ≠ w.heap.size + 1 → k ≠ x.blk → w5.heap[k]? = w3.heap[k]? := fun k hk hk' => by rw [hw5]; exact (Below.heap_setCell _ _ _ _ hk').trans (hk4 k hk)
    have hB5 : Boxed w5 (w.heap.size + 1) 41 (.slice (some ⟨g2, 0, none⟩) (pre.length + 1) c2) := by
      have : w5.heap[w.heap.size + 1]? = w4.heap[w.heap.size + 1]? := by rw [hw5]; exact Below.heap_setCell _ _ _ _ (by simp; omega)
      exact this.trans hB4
    have hB5m : Boxed w5 w.heap.size 3 (.int .i64 many) := (hk5 _ (by omega) (by omega)).trans hB3m
    have hall : ∀ k, k < V.heap.size → k ≠ w.heap.size + 1 → some k ≠ v.ownBlock → k ≠ x.blk → w5.heap[k]? = V.heap[k]? := fun k hk ha hb hc => (hk5 k ha hc).trans (hsame k hk hb)
    have hvlt : ∀ k, v.ownBlock = some k → B2 ≤ k := fun k hk => (h3.lt k hk).1
    refine ⟨hB5.cell, hB5m.cell, ⟨by omega, fun k hk hp => ?_⟩, _, cells ++ [.int .i64 x.at_, .slice (some ⟨g1, 0, none⟩) x.bytes.length c1], hB5, hB5m, ?_, ?_, ?_, ?_⟩
    · rcases hp with hp | ⟨hp1, hp2, hp3⟩
      · obtain ⟨ha, hb⟩ := hP k hp
        exact hall k hk hb (fun e => by have := hvlt k e.symm; omega) (by omega)
      · exact hall k hk (by omega) (fun e => hp2 (h4 k e.symm)) hp3
    · rw [List.length_append, List.length_singleton]
      refine own_same ho2 (fun k e => ?_)
      have hkB := (ho2.lt k e).1
      refine hk5 k (by omega) (fun e' => ?_)
      have hap := own_apart hx3 ho2 (by decide)
      subst e'
      rcases hap with h | h
      · simp [Value.ownBlock] at h
      · exact h e.symm
    · intro k hk
      rcases hvb with hb | ⟨k', hb, hb1, hb2⟩
      · exact .inl (h4 k (hb ▸ hk))
      · rw [hk] at hb
        injection hb with hb
        subst hb
        exact .inr (.inr ⟨hb1, by omega⟩)
    · rw [List.map_append]
      have hcl : cells.length = (pre.map PX.prj).length * 2 := by rw [List.length_map]; exact h3.1
      refine PRow.snoc (x := x.prj) (PRow.keep h5 (fun k hk => .inl hk) (fun k n c ys hk ho => ?_)) hcl rfl ?_ ?_ hx0
      · have hov : some k ≠ v.ownBlock := by
          rcases own_apart ho h3 (by decide) with h | h
          · simp [Value.ownBlock] at h
          · exact h
        have hkO := hO k hk
        exact hall k hkO.2 (by omega) hov (fun e => hxO (e ▸ hk))
      · exact .inr (.inr ⟨hg1, by omega⟩)
      · refine own_same ho1 (fun k e => ?_)
        simp only [Value.ownBlock, Option.some.injEq] at e
        subst e
        exact hk5 _ (by omega) (by omega)
    · refine ⟨?_, ?_, ?_, by have := h6.size; omega, fun k hk => ?_⟩
      · rw [hw5, hw4]; exact hgr.os.trans h6.os
      · rw [hw5, hw4]; exact hgr.tape.trans h6.tape
      · rw [hw5, hw4]; exact hgr.output.trans h6.output
      · exact (hall k (by have := h1.lt; omega) (by omega) (fun e => by have := hvlt k e.symm; omega) (by omega)).trans (h6.block k hk)
end Go.Proofs.YtbgpdahoochkiaaDoor
