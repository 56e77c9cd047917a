import Derived.Test.YtmocdokikcbjeaaCopy
import Derived.Test.YtmocdokikcbjeaaRN
namespace Go.Proofs.Ytmocdokikcbjeaa
open Go.RowKit Go.Shelf Go.Maps Go.Sort

/- A TABLE OF A LAW's OWN, CALL BY CALL. -/

/-- a table at b, made since w0 -/
def Run (w0 : World) (b : Nat) (l : Tb) (w : World) : Prop := ∃ F, Has w b l F ∧ (∀ k, F k → w0.heap.size ≤ k) ∧ Below w0.heap.size w0 w
section
variable {w0 w w' : World} {b : Nat} {l : Tb}
theorem Run.below (h : Run w0 b l w) : Below w0.heap.size w0 w := by
  obtain ⟨F, h1, h2, h3⟩ := h
  exact h3
theorem Run.ok (h : Run w0 b l w) : Tok l := by
  obtain ⟨F, h1, h2, h3⟩ := h
  exact h1.ok
theorem Run.more (h : Run w0 b l w) (hb : Below w.heap.size w w') : Run w0 b l w' := by
  obtain ⟨F, h1, h2, h3⟩ := h
  exact ⟨F, h1.below hb, h2, below0 h3 hb⟩
theorem Run.alloc (h : Run w0 b l w) (o : Obj) : Run w0 b l (w.alloc o) := h.more (below1 w o)
theorem Run.drew (h : Run w0 b l w) : Run w0 b l w.drew := h.more (below_drewN (Below.refl _ _) 1)
theorem Run.next {F : Nat → Prop} {l' : Tb} (h2 : ∀ k, F k → w0.heap.size ≤ k) (h3 : Below w0.heap.size w0 w) (h : Next w b l' F w') : Run w0 b l' w' := by
  obtain ⟨h4, h5⟩ := h
  exact ⟨F, h4, h2, h3.trans (h5.below h2 h3.size)⟩
theorem Run.new (w : World) : Calls Try.prog 9 #[] w fun e w' => ∃ b, e = .returned (bx b) ∧ Run w b [] w' :=
  (new_any w).mono fun _ _ ⟨b, F, e1, e2, e3, e4⟩ => ⟨b, e1, F, e2, e3, e4⟩
theorem Run.map (h : Run w0 b l w) (p : Int) (x : En) (hx : En64 x) : Calls Try.prog 18 #[bx b, .int .i64 p, enV x] w fun e w' => e = .returned (.int .i64 (mapE l p x : Int)) ∧ Run w0 b (mapT l p x) w' := by
  obtain ⟨F, h1, h2, h3⟩ := h
  by_cases hE : mapE l p x = 0
  · rw [hE]
    exact (map_yes h1 p x hx hE).mono fun _ _ ⟨e1, e2⟩ => ⟨e1, Run.next h2 h3 e2⟩
  · exact (map_no h1 p x hx hE).mono fun _ _ ⟨e1, e2⟩ => ⟨e1, Run.next h2 h3 e2⟩
theorem Run.unmap (h : Run w0 b l w) (p : Int) : Calls Try.prog 21 #[bx b, .int .i64 p] w fun e w' => e = .returned (.tuple #[enV (unmapX l p), .int .i64 (unmapE l p : Int)]) ∧ Run w0 b (unmapT l p) w' := by
  obtain ⟨F, h1, h2, h3⟩ := h
  by_cases hE : unmapE l p = 0
  · rw [hE]
    exact (unmap_yes h1 p hE).mono fun _ _ ⟨e1, e2⟩ => ⟨e1, Run.next h2 h3 e2⟩
  · exact (unmap_no h1 p hE).mono fun _ _ ⟨e1, e2⟩ => ⟨e1, Run.next h2 h3 e2⟩
theorem Run.prot (h : Run w0 b l w) (p m : Int) : Calls Try.prog 22 #[bx b, .int .i64 p, .int .i64 m] w fun e w' => e = .returned (.tuple #[.int .i64 (protM l p m), .int .i64 (protE l p m : Int)]) ∧ Run w0 b (protT l p m) w' := by
  obtain ⟨F, h1, h2, h3⟩ := h
  by_cases hE : protE l p m = 0
  · rw [hE]
    exact (prot_yes h1 p m hE).mono fun _ _ ⟨e1, e2⟩ => ⟨e1, Run.next h2 h3 e2⟩
  · exact (prot_no h1 p m hE).mono fun _ _ ⟨e1, e2⟩ => ⟨e1, Run.next h2 h3 e2⟩
theorem Run.get (h : Run w0 b l w) (z : Int) (hz : I64 z) : Calls Try.prog 27 #[bx b, .int .i64 z] w fun e w' => e = .returned (.tuple #[enV (getX l z), .bool (look l z).isSome]) ∧ Run w0 b l w' := by
  obtain ⟨F, ⟨bp, bf, h1, rfl⟩, h2, h3⟩ := h
  exact (get_any h1 z hz).mono fun _ _ ⟨e1, e2⟩ => ⟨e1, Run.more ⟨_, ⟨bp, bf, h1, rfl⟩, h2, h3⟩ e2⟩
theorem Run.free (h : Run w0 b l w) (a m : Int) : Calls Try.prog 26 #[bx b, .int .i64 a, .int .i64 m] w fun e w' => e = .returned (.tuple #[.bool (freeQ l a m), .int .i64 (freeE a m : Int)]) ∧ Run w0 b l w' := by
  obtain ⟨F, ⟨bp, bf, h1, rfl⟩, h2, h3⟩ := h
  exact (free_any h1 a m).mono fun _ _ ⟨e1, e2⟩ => ⟨e1, Run.more ⟨_, ⟨bp, bf, h1, rfl⟩, h2, h3⟩ e2⟩
theorem Run.nxt (h : Run w0 b l w) (a m : Int) : Calls Try.prog 19 #[bx b, .int .i64 a, .int .i64 m] w fun e w' => e = .returned (.tuple #[.int .i64 (if 0 ≤ nextI l a m then nextI l a m else 0), .bool (decide (0 ≤ nextI l a m))]) ∧ Run w0 b l w' := by
  obtain ⟨F, ⟨bp, bf, h1, rfl⟩, h2, h3⟩ := h
  exact (next_any h1 a m).mono fun _ _ ⟨e1, e2⟩ => ⟨e1, Run.more ⟨_, ⟨bp, bf, h1, rfl⟩, h2, h3⟩ e2⟩
theorem Run.len (h : Run w0 b l w) : Calls Try.prog 25 #[bx b] w fun e w' => e = .returned (.int .i64 (l.length : Int)) ∧ Run w0 b l w' := by
  obtain ⟨F, ⟨bp, bf, h1, rfl⟩, h2, h3⟩ := h
  exact (len_any h1).mono fun _ _ ⟨e1, e2⟩ => ⟨e1, e2 ▸ ⟨_, ⟨bp, bf, h1, rfl⟩, h2, h3⟩⟩
theorem Run.all (h : Run w0 b l w) (o : Int) (many : Nat) (hm1 : 1 ≤ many) (hm : many ≤ 100000) : Calls Try.prog 23 #[bx b, .int .i64 o, .int .i64 (many : Int)] w (RowsP w ((ofO l o).take many)) := by
  obtain ⟨F, ⟨bp, bf, h1, rfl⟩, h2, h3⟩ := h
  exact all_any h1 o many hm1 hm
theorem Run.copy (h : Run w0 b l w) : Calls Try.prog 13 #[bx b] w fun e w' => ∃ c, e = .returned (bx c) ∧ Run w c l w' ∧ Run w0 b l w' := by
  obtain ⟨F, ⟨bp, bf, h1, rfl⟩, h2, h3⟩ := h
  exact (Copy_any h1).mono fun _ _ ⟨c, F, e1, e2, e3, e4⟩ => ⟨c, e1, ⟨F, e2, e3, e4⟩, Run.more ⟨_, ⟨bp, bf, h1, rfl⟩, h2, h3⟩ e4⟩
end
/-! beside other blocks of the law's -/
def RunX (w0 : World) (b : Nat) (l : Tb) (X : Nat → Prop) (w : World) : Prop :=
  ∃ F, Has w b l F ∧ (∀ k, F k → w0.heap.size ≤ k ∧ ¬ X k) ∧ Below w0.heap.size w0 w ∧ ∀ k, X k → k < w.heap.size
section
variable {w0 w w' : World} {b : Nat} {l l' : Tb} {X Y : Nat → Prop}
theorem RunX.below (h : RunX w0 b l X w) : Below w0.heap.size w0 w := by
  obtain ⟨F, h1, h2, h3, h4⟩ := h
  exact h3
theorem RunX.ok (h : RunX w0 b l X w) : Tok l := by
  obtain ⟨F, h1, h2, h3, h4⟩ := h
  exact h1.ok
theorem RunX.of (h : Run w0 b l w) : RunX w0 b l (fun _ => False) w := by
  obtain ⟨F, h1, h2, h3⟩ := h
  exact ⟨F, h1, fun k hk => ⟨h2 k hk, fun h => h⟩, h3, fun _ h => h.elim⟩
theorem RunX.run (h : RunX w0 b l X w) : Run w0 b l w := by
  obtain ⟨F, h1, h2, h3, h4⟩ := h
  exact ⟨F, h1, fun k hk => (h2 k hk).1, h3⟩
theorem RunX.less (h : RunX w0 b l X w) (hY : ∀ k, Y k → X k) : RunX w0 b l Y w := by
  obtain ⟨F, h1, h2, h3, h4⟩ := h
  exact ⟨F, h1, fun k hk => ⟨(h2 k hk).1, fun hy => (h2 k hk).2 (hY k hy)⟩, h3, fun k hk => h4 k (hY k hk)⟩
theorem RunX.more (h : RunX w0 b l X w) (hb : Below w.heap.size w w') : RunX w0 b l X w' ∧ ∀ k, X k → w'.heap[k]? = w.heap[k]? := by
  obtain ⟨F, h1, h2, h3, h4⟩ := h
  exact ⟨⟨F, h1.below hb, h2, below0 h3 hb, fun k hk => Nat.lt_of_lt_of_le (h4 k hk) hb.size⟩, fun k hk => hb.block k (h4 k hk)⟩
theorem RunX.add (h : RunX w0 b l X w) (o : Obj) : RunX w0 b l (fun k => X k ∨ k = w.heap.size) (w.alloc o) := by
  obtain ⟨F, h1, h2, h3, h4⟩ := h
  refine ⟨F, h1.below (below1 w o), fun k hk => ⟨(h2 k hk).1, fun hx => ?_⟩, h3.alloc h3.size o, fun k hk => ?_⟩
  · rcases hx with hx | hx
    · exact (h2 k hk).2 hx
    · have := h1.lt k hk; omega
  · rw [World.size_alloc]
    rcases hk with hx | hx
    · have := h4 k hx; omega
    · omega
theorem RunX.next {F : Nat → Prop} (h2 : ∀ k, F k → w0.heap.size ≤ k ∧ ¬ X k) (h3 : Below w0.heap.size w0 w) (h4 : ∀ k, X k → k < w.heap.size) (h : Next w b l' F w') : RunX w0 b l' X w' ∧ ∀ k, X k → w'.heap[k]? = w.heap[k]? := by
  obtain ⟨g1, g2⟩ := h
  exact ⟨⟨F, g1, h2, h3.trans (g2.below (fun k hk => (h2 k hk).1) h3.size), fun k hk => Nat.lt_of_lt_of_le (h4 k hk) g2.size⟩, fun k hk => g2.block k (h4 k hk) (fun hf => (h2 k hf).2 hk)⟩
/-- another block turns -/
theorem RunX.turn {g : Nat} (h : RunX w0 b l X w) (hg : w.grownBy w' (some g)) (hX : X g) (hg0 : w0.heap.size ≤ g) : RunX w0 b l X w' := by
  obtain ⟨F, h1, h2, h3, h4⟩ := h
  exact ⟨F, h1.keep fun k hk => hg.block k (h1.lt k hk) (fun e => by cases e; exact (h2 g hk).2 hX), h2, h3.grown hg h3.size (fun r e => by cases e; exact hg0), fun k hk => Nat.lt_of_lt_of_le (h4 k hk) hg.size⟩
theorem RunX.map (h : RunX w0 b l X w) (p : Int) (x : En) (hx : En64 x) : Calls Try.prog 18 #[bx b, .int .i64 p, enV x] w fun e w' => e = .returned (.int .i64 (mapE l p x : Int)) ∧ RunX w0 b (mapT l p x) X w' ∧ ∀ k, X k → w'.heap[k]? = w.heap[k]? := by
  obtain ⟨F, h1, h2, h3, h4⟩ := h
  by_cases hE : mapE l p x = 0
  · rw [hE]
    exact (map_yes h1 p x hx hE).mono fun _ _ ⟨e1, e2⟩ => ⟨e1, RunX.next h2 h3 h4 e2⟩
  · exact (map_no h1 p x hx hE).mono fun _ _ ⟨e1, e2⟩ => ⟨e1, RunX.next h2 h3 h4 e2⟩
theorem RunX.unmap (h : RunX w0 b l X w) (p : Int) : Calls Try.prog 21 #[bx b, .int .i64 p] w fun e w' => e = .returned (.tuple #[enV (unmapX l p), .int .i64 (unmapE l p : Int)]) ∧ RunX w0 b (unmapT l p) X w' ∧ ∀ k, X k → w'.heap[k]? = w.heap[k]? := by
  obtain ⟨F, h1, h2, h3, h4⟩ := h
  by_cases hE : unmapE l p = 0
  · rw [hE]
    exact (unmap_yes h1 p hE).mono fun _ _ ⟨e1, e2⟩ => ⟨e1, RunX.next h2 h3 h4 e2⟩
  · exact (unmap_no h1 p hE).mono fun _ _ ⟨e1, e2⟩ => ⟨e1, RunX.next h2 h3 h4 e2⟩
theorem RunX.prot (h : RunX w0 b l X w) (p m : Int) : Calls Try.prog 22 #[bx b, .int .i64 p, .int .i64 m] w fun e w' => e = .returned (.tuple #[.int .i64 (protM l p m), .int .i64 (protE l p m : Int)]) ∧ RunX w0 b (protT l p m) X w' ∧ ∀ k, X k → w'.heap[k]? = w.heap[k]? := by
  obtain ⟨F, h1, h2, h3, h4⟩ := h
  by_cases hE : protE l p m = 0
  · rw [hE]
    exact (prot_yes h1 p m hE).mono fun _ _ ⟨e1, e2⟩ => ⟨e1, RunX.next h2 h3 h4 e2⟩
  · exact (prot_no h1 p m hE).mono fun _ _ ⟨e1, e2⟩ => ⟨e1, RunX.next h2 h3 h4 e2⟩
theorem RunX.get (h : RunX w0 b l X w) (z : Int) (hz : I64 z) : Calls Try.prog 27 #[bx b, .int .i64 z] w fun e w' => e = .returned (.tuple #[enV (getX l z), .bool (look l z).isSome]) ∧ RunX w0 b l X w' ∧ ∀ k, X k → w'.heap[k]? = w.heap[k]? := by
  obtain ⟨F, ⟨bp, bf, h1, rfl⟩, h2, h3, h4⟩ := h
  exact (get_any h1 z hz).mono fun _ _ ⟨e1, e2⟩ => ⟨e1, RunX.more ⟨_, ⟨bp, bf, h1, rfl⟩, h2, h3, h4⟩ e2⟩
theorem RunX.free (h : RunX w0 b l X w) (a m : Int) : Calls Try.prog 26 #[bx b, .int .i64 a, .int .i64 m] w fun e w' => e = .returned (.tuple #[.bool (freeQ l a m), .int .i64 (freeE a m : Int)]) ∧ RunX w0 b l X w' ∧ ∀ k, X k → w'.heap[k]? = w.heap[k]? := by
  obtain ⟨F, ⟨bp, bf, h1, rfl⟩, h2, h3, h4⟩ := h
  exact (free_any h1 a m).mono fun _ _ ⟨e1, e2⟩ => ⟨e1, RunX.more ⟨_, ⟨bp, bf, h1, rfl⟩, h2, h3, h4⟩ e2⟩
theorem RunX.nxt (h : RunX w0 b l X w) (a m : Int) : Calls Try.prog 19 #[bx b, .int .i64 a, .int .i64 m] w fun e w' => e = .returned (.tuple #[.int .i64 (if 0 ≤ nextI l a m then nextI l a m else 0), .bool (decide (0 ≤ nextI l a m))]) ∧ RunX w0 b l X w' ∧ ∀ k, X k → w'.heap[k]? = w.heap[k]? := by
  obtain ⟨F, ⟨bp, bf, h1, rfl⟩, h2, h3, h4⟩ := h
  exact (next_any h1 a m).mono fun _ _ ⟨e1, e2⟩ => ⟨e1, RunX.more ⟨_, ⟨bp, bf, h1, rfl⟩, h2, h3, h4⟩ e2⟩
end
end Go.Proofs.Ytmocdokikcbjeaa
