import Derived.Test.YtbgpdahoochkiaaDoorParts1
import Derived.Test.YtbgpdahoochkiaaDoorLaw3
namespace Go.Proofs.YtbgpdahoochkiaaDoor
open Go.RowKit Go.Shelf

theorem part_info : (Tryd.prog.info? 45).map (fun i => (i.zero, i.size, i.bytes)) = some (some (.agg #[.int .i64 0, .slice none 0 0]), 2, 32) := by kernel_rfl

/-- append, whatever it is appended to, its answer known -/
theorem operIn_app {P : Program} {n : Nat} {w w' : World} {o : Oper} {a : Act} {next : Act → World → Prop} {Q : Exit → Act → World → Prop} (s x : Operand) (t : TypeId)
    (ho : o.op = .call { callee := .builtin .append, args := #[s, x], argTypes := #[t, t] }) {v u v' : Value} (hs : a.eval s = v) (hx : a.eval x = u)
    (hrun : (Builtin.append_ #[t, t] o.type #[v, u]).run P w = .ok v' w') (h : next (a.put o.dst v') w') : o.wpIn Fence.wide n P a w next Q := by
  refine ⟨fun _ _ => trivial, ?_⟩
  have e : (Oper.semAt Fence.wide.round a.eval o).run P w = .ok (.value v') w' := by
    rw [Oper.semAt_eq _ _ _ (by intro c hc; rw [ho] at hc; cases hc)]
    unfold execOp
    simp only [ho, resolve, invoke, builtin, Sem.run_bind, Sem.run_pure, Result.andThen_ok, List.map_toArray, List.map_cons, List.map_nil, hs, hx, hrun]
  rw [e]
  exact h

/-- the cells are parts: where each begins, and its bytes in a block of O -/
def PRow (O : Nat → Prop) (V : World) (xs : List (Nat × List UInt8)) (cells : List Value) : Prop :=
  ∀ i (h : i < xs.length), cells[2 * i]? = some (.int .i64 (xs[i].1 : Int)) ∧ ∃ g c, cells[2 * i + 1]? = some (.slice (some ⟨g, 0, none⟩) xs[i].2.length c) ∧ O g ∧
    V.ownsRow 0 5 1 (.slice (some ⟨g, 0, none⟩) xs[i].2.length c) xs[i].2.length (byt xs[i].2) ∧ 0 < xs[i].2.length

section
variable {O O' : Nat → Prop} {V V' : World} {xs : List (Nat × List UInt8)} {cells : List Value}
theorem PRow.nil_ : PRow O V [] cells := fun _ h => absurd h (by simp)
theorem PRow.keep (h : PRow O V xs cells) (hO : ∀ k, O k → O' k) (hk : ∀ k n c ys, O k → V.ownsRow 0 5 1 (.slice (some ⟨k, 0, none⟩) n c) n ys → V'.heap[k]? = V.heap[k]?) : PRow O' V' xs cells := fun i hi => by
  obtain ⟨h1, g, c, h2, h3, h4, h5⟩ := h i hi
  exact ⟨h1, g, c, h2, hO g h3, own_same h4 (fun k e => by simp only [Value.ownBlock, Option.some.injEq] at e; subst e; exact hk _ _ _ _ h3 h4), h5⟩
theorem PRow.snoc (h : PRow O V xs cells) (hl : cells.length = xs.length * 2) {x : Nat × List UInt8} {g c n : Nat} (hn : x.2.length = n) (hg : O g)
    (ho : V.ownsRow 0 5 1 (.slice (some ⟨g, 0, none⟩) n c) n (byt x.2)) (h0 : 0 < n) : PRow O V (xs ++ [x]) (cells ++ [.int .i64 (x.1 : Int), .slice (some ⟨g, 0, none⟩) n c]) := fun i hi => by
  subst hn
  by_cases hlt : i < xs.length
  · obtain ⟨h1, g', c', h2, h3, h4, h5⟩ := h i hlt
    rw [List.getElem_append_left hlt, List.getElem?_append_left (by omega), List.getElem?_append_left (by omega)]
    exact ⟨h1, g', c', h2, h3, h4, h5⟩
  · have : i = xs.length := by simp at hi; omega
    subst this
    rw [List.getElem?_append_right (by omega), List.getElem?_append_right (by omega), show 2 * xs.length - cells.length = 0 by omega, show 2 * xs.length + 1 - cells.length = 1 by omega]
    simp only [List.getElem_append_right (Nat.le_refl _), Nat.sub_self, List.getElem_singleton, List.getElem?_cons_zero, List.getElem?_cons_succ]
    exact ⟨trivial, g, c, rfl, hg, ho, h0⟩
end

/-- WHAT A ROUND DOES TO MEMORY: the part is copied, and put behind the others. -/
theorem part_step (V : World) (B n m c f : Nat) (v : Value) (cells : List Value) (bytes : List UInt8) (g : Nat) (hB : B ≤ V.heap.size) (hown : V.ownsRow B 45 2 v n cells)
    (hx : V.ownsRow 0 5 1 (.slice (some ⟨g, 0, none⟩) m c) m (byt bytes)) (hm : 0 < m) (hm2 : m ≤ 1000000) (hn : n ≤ 1000000) :
    ∃ v1 w1 v2 w3 g1 c1, (Builtin.append_ #[23, 23] 23 #[.slice (some ⟨V.heap.size, 0, none⟩) 0 0, .slice (some ⟨g, 0, none⟩) m c]).run Tryd.prog (V.alloc (.cells #[] 5)) = .ok v1 w1 ∧
      v1 = .slice (some ⟨g1, 0, none⟩) m c1 ∧ V.heap.size ≤ g1 ∧ g1 < w3.heap.size ∧
      (Builtin.append_ #[41, 41] 41 #[v, .slice (some ⟨w1.heap.size, 0, none⟩) 1 1]).run Tryd.prog (w1.alloc (.cells #[.int .i64 f, v1] 45)) = .ok v2 w3 ∧
      w3.ownsRow B 45 2 v2 (n + 1) (cells ++ [.int .i64 f, v1]) ∧ w3.ownsRow 0 5 1 v1 m (byt bytes) ∧ V.heap.size ≤ w3.heap.size ∧
      (∀ k, k < V.heap.size → w1.heap[k]? = V.heap[k]?) ∧ (v2.ownBlock = v.ownBlock ∨ ∃ k, v2.ownBlock = some k ∧ V.heap.size ≤ k ∧ k < w3.heap.size) ∧ (∀ k, k < V.heap.size → some k ≠ v.ownBlock → w3.heap[k]? = V.heap[k]?) ∧ V.grownBy w3 v.ownBlock := by
  obtain ⟨i0, hi, hz0, hz1, hz2⟩ := info_parts byte_info
  obtain ⟨i1, hj, hy0, hy1, hy2⟩ := info_parts part_info
  have hbl : (byt bytes).length = m * 1 := hx.1
  have hown0 : (V.alloc (.cells #[] 5)).ownsRow V.heap.size 5 1 (.slice (some ⟨V.heap.size, 0, none⟩) 0 0) 0 [] := World.ownsRow_lit V #[] 0 (Nat.le_refl _) (Nat.zero_le _) rfl
  have hs0 := (Sees.of_own hx).alloc (Nat.le_refl _) (.cells #[] 5)
  obtain ⟨v1, w1, hr1, ho1, hg1, hb1⟩ := run_append_sees (P := Tryd.prog) (V.alloc (.cells #[] 5)) V.heap.size 23 23 5 i0 _ 1 1 Tryd.underlying23 hi hz0 hz1 hz2 rfl (by decide) _ 0 [] hown0 V.heap.size (some ⟨g, 0, none⟩) m c (byt bytes) hbl hs0 byt_one (by unfold maxLen; omega) (by omega) (by simp)
  rw [Nat.zero_add, List.nil_append] at ho1
  obtain ⟨g1, c1, rfl, hg1l, hg1u⟩ := ho1.form hm
  have hsz1 : V.heap.size + 1 ≤ w1.heap.size := by have := hg1.size; simpa using this
  have hV1 : ∀ k, k < V.heap.size → w1.heap[k]? = V.heap[k]? := fun k hk => (hg1.block k (by simp; omega) (fun e => by simp only [Value.ownBlock, Option.some.injEq] at e; omega)).trans (Below.heap_alloc _ _ _ hk)
  have hownV1 : w1.ownsRow B 45 2 v n cells := own_same hown (fun k hk => hV1 k (own_lt hown hk))
  have hownV2 := hownV1.alloc (.cells #[.int .i64 f, .slice (some ⟨g1, 0, none⟩) m c1] 45)
  obtain ⟨v2, w3, hr2, ho2, hg2, hb2⟩ := run_append_sees (P := Tryd.prog) (w1.alloc (.cells #[.int .i64 f, .slice (some ⟨g1, 0, none⟩) m c1] 45)) B 41 41 45 i1 _ 2 32 Tryd.underlying41 hj hy0 hy1 hy2 rfl (by decide) v n cells hownV2 (w1.heap.size + 1) (some ⟨w1.heap.size, 0, none⟩) 1 1 [.int .i64 f, .slice (some ⟨g1, 0, none⟩) m c1] rfl
    (fun _ => ⟨_, rfl, by simp, fun j u hu => by rw [add_plain, Nat.zero_add, cell_alloc_new]; simpa using hu⟩) (by simp [Value.oneCell']) (by unfold maxLen; omega) (by omega) (by simp; omega)
  have hsz2 : w1.heap.size + 1 ≤ w3.heap.size := by have := hg2.size; simpa using this
  have hkeep : ∀ k, k < w1.heap.size → some k ≠ v.ownBlock → w3.heap[k]? = w1.heap[k]? := fun k hk hne => (hg2.block k (by simp; omega) hne).trans (Below.heap_alloc _ _ _ hk)
  have hfin : ∀ k, k < V.heap.size → some k ≠ v.ownBlock → w3.heap[k]? = V.heap[k]? := fun k hk hne => (hkeep k (by omega) hne).trans (hV1 k hk)
  refine ⟨_, w1, v2, w3, g1, c1, hr1, rfl, hg1l, by omega, hr2, ho2, ?_, by omega, hV1, ?_, hfin, ?_⟩
  · refine own_mono (own_same ho1 (fun k hk => ?_)) (Nat.zero_le _)
    simp only [Value.ownBlock, Option.some.injEq] at hk
    subst hk
    refine hkeep _ hg1u (fun e => ?_)
    have := own_lt hown e.symm
    omega
  · rcases hb2 with h | h
    · exact .inl h
    · have := (ho2.lt _ h).2
      exact .inr ⟨_, h, by simp; omega, this⟩
  · refine ⟨?_, ?_, ?_, by omega, fun k hk hne => hfin k hk (fun e => hne e)⟩
    · exact hg2.os.trans hg1.os
    · exact hg2.tape.trans hg1.tape
    · exact hg2.output.trans hg1.output
end Go.Proofs.YtbgpdahoochkiaaDoor
