import Derived.Test.YtnbehncbjbkjpaaCollect
import Derived.Test.YtnbehncbjbkjpaaActs
import Derived.Test.YtnbehncbjbkjpaaMake
namespace Go.Proofs.Ytnbehncbjbkjpaa
open Go.RowKit Go.Shelf Go.Maps Go.Sort

/- A POOL OF A LAW's OWN BESIDE OTHER BLOCKS OF THE LAW's. -/

def RunX (w0 : World) (b : Nat) (p : Pl) (X : Nat → Prop) (w : World) : Prop :=
  ∃ F, Has w b p F ∧ (∀ k, F k → w0.heap.size ≤ k ∧ ¬ X k) ∧ Below w0.heap.size w0 w ∧ ∀ k, X k → k < w.heap.size
section
variable {w0 w w' : World} {b : Nat} {p p' : Pl} {X Y : Nat → Prop}
theorem RunX.below (h : RunX w0 b p X w) : Below w0.heap.size w0 w := by
  obtain ⟨F, h1, h2, h3, h4⟩ := h
  exact h3
theorem RunX.ok (h : RunX w0 b p X w) : p.ok := by
  obtain ⟨F, h1, h2, h3, h4⟩ := h
  exact h1.ok
theorem RunX.of (h : Run w0 b p w) : RunX w0 b p (fun _ => False) w := by
  obtain ⟨F, h1, h2, h3⟩ := h
  exact ⟨F, h1, fun k hk => ⟨h2 k hk, fun h => h⟩, h3, fun _ h => h.elim⟩
theorem RunX.run (h : RunX w0 b p X w) : Run w0 b p w := by
  obtain ⟨F, h1, h2, h3, h4⟩ := h
  exact ⟨F, h1, fun k hk => (h2 k hk).1, h3⟩
theorem RunX.less (h : RunX w0 b p X w) (hY : ∀ k, Y k → X k) : RunX w0 b p Y w := by
  obtain ⟨F, h1, h2, h3, h4⟩ := h
  exact ⟨F, h1, fun k hk => ⟨(h2 k hk).1, fun hy => (h2 k hk).2 (hY k hy)⟩, h3, fun k hk => h4 k (hY k hk)⟩
theorem RunX.more (h : RunX w0 b p X w) (hb : Below w.heap.size w w') : RunX w0 b p X w' ∧ ∀ k, X k → w'.heap[k]? = w.heap[k]? := by
  obtain ⟨F, h1, h2, h3, h4⟩ := h
  exact ⟨⟨F, h1.below hb, h2, below0 h3 hb, fun k hk => Nat.lt_of_lt_of_le (h4 k hk) hb.size⟩, fun k hk => hb.block k (h4 k hk)⟩
theorem RunX.add (h : RunX w0 b p X w) (o : Obj) : RunX w0 b p (fun k => X k ∨ k = w.heap.size) (w.alloc o) := by
  obtain ⟨F, h1, h2, h3, h4⟩ := h
  refine ⟨F, h1.below (below1 w o), fun k hk => ⟨(h2 k hk).1, fun hx => ?_⟩, h3.alloc h3.size o, fun k hk => ?_⟩
  · rcases hx with hx | hx
    · exact (h2 k hk).2 hx
    · have := h1.lt k hk; omega
  · rw [World.size_alloc]
    rcases hk with hx | hx
    · have := h4 k hx; omega
    · omega
theorem RunX.next {F : Nat → Prop} (h2 : ∀ k, F k → w0.heap.size ≤ k ∧ ¬ X k) (h3 : Below w0.heap.size w0 w) (h4 : ∀ k, X k → k < w.heap.size) (h : Next w b p' F w') : RunX w0 b p' X w' ∧ ∀ k, X k → w'.heap[k]? = w.heap[k]? := by
  obtain ⟨F', g1, g2, g3⟩ := h
  refine ⟨⟨F', g1, fun k hk => ?_, h3.trans (g2.below (fun k hk => (h2 k hk).1) h3.size), fun k hk => Nat.lt_of_lt_of_le (h4 k hk) g2.size⟩, fun k hk => g2.block k (h4 k hk) (fun hf => (h2 k hf).2 hk)⟩
  rcases g3 k hk with h | h
  · exact h2 k h
  · exact ⟨Nat.le_trans h3.size h, fun hx => by have := h4 k hx; omega⟩
/-- another block turns -/
theorem RunX.turn {g : Nat} (h : RunX w0 b p X w) (hg : w.grownBy w' (some g)) (hX : X g) (hg0 : w0.heap.size ≤ g) : RunX w0 b p X w' := by
  obtain ⟨F, h1, h2, h3, h4⟩ := h
  exact ⟨F, h1.keep fun k hk => hg.block k (h1.lt k hk) (fun e => by cases e; exact (h2 g hk).2 hX), h2, h3.grown hg h3.size (fun r e => by cases e; exact hg0), fun k hk => Nat.lt_of_lt_of_le (h4 k hk) hg.size⟩
theorem RunX.reserve (h : RunX w0 b p X w) (o m : Int) (hm : m ≤ 9223372036854775807) : Calls Try.prog 8 #[bx b, .int .i64 o, .int .i64 m] w fun e w' => e = .returned (.int .i64 (reserveE p o m : Int)) ∧ RunX w0 b (reserveP p o m) X w' ∧ ∀ k, X k → w'.heap[k]? = w.heap[k]? := by
  obtain ⟨F, h1, h2, h3, h4⟩ := h
  by_cases hE : reserveE p o m = 0
  · have hob : 0 ≤ o ∧ 0 ≤ m := by
      unfold reserveE at hE
      split at hE
      · cases hE
      next h4 =>
        have h5 := Classical.not_not.1 h4
        simp only [ownerB, Bool.and_eq_true, decide_eq_true_eq] at h5
        exact ⟨h5.1.1, h5.2⟩
    obtain ⟨x, rfl⟩ : ∃ x : Nat, o = x := ⟨o.toNat, by omega⟩
    obtain ⟨y, rfl⟩ : ∃ y : Nat, m = y := ⟨m.toNat, by omega⟩
    rw [hE]
    exact (reserve_yes h1 x y (by omega) hE).mono fun _ _ ⟨e1, e2⟩ => ⟨e1, RunX.next h2 h3 h4 e2⟩
  · exact (reserve_no h1 o m hm hE).mono fun _ _ ⟨e1, e2⟩ => ⟨e1, RunX.next h2 h3 h4 e2⟩
theorem RunX.take (h : RunX w0 b p X w) (o : Int) : Calls Try.prog 9 #[bx b, .int .i64 o] w fun e w' => e = .returned (.tuple #[.int .i64 (takeI p o : Int), .int .i64 (takeE p o : Int)]) ∧ RunX w0 b (takeP p o) X w' ∧ ∀ k, X k → w'.heap[k]? = w.heap[k]? := by
  obtain ⟨F, h1, h2, h3, h4⟩ := h
  by_cases hE : takeE p o = 0
  · obtain ⟨g1, _⟩ := takeE_left h1.ok hE
    obtain ⟨x, rfl⟩ : ∃ x : Nat, o = x := ⟨o.toNat, by omega⟩
    rw [hE]
    exact (take_yes h1 x hE).mono fun _ _ ⟨e1, e2⟩ => ⟨e1, RunX.next h2 h3 h4 e2⟩
  · exact (take_no h1 o hE).mono fun _ _ ⟨e1, e2⟩ => ⟨e1, RunX.next h2 h3 h4 e2⟩
theorem RunX.give (h : RunX w0 b p X w) (i : Int) (hi : i ≤ 9223372036854775807) : Calls Try.prog 12 #[bx b, .int .i64 i] w fun e w' => e = .returned (.int .i64 (giveE p i : Int)) ∧ RunX w0 b (giveP p i) X w' ∧ ∀ k, X k → w'.heap[k]? = w.heap[k]? := by
  obtain ⟨F, h1, h2, h3, h4⟩ := h
  by_cases hE : giveE p i = 0
  · obtain ⟨g1, _⟩ := giveE_some hE
    obtain ⟨x, rfl⟩ : ∃ x : Nat, i = x := ⟨i.toNat, by omega⟩
    rw [hE]
    exact (give_yes h1 x (by omega) hE).mono fun _ _ ⟨e1, e2⟩ => ⟨e1, RunX.next h2 h3 h4 e2⟩
  · exact (give_no h1 i hi hE).mono fun _ _ ⟨e1, e2⟩ => ⟨e1, RunX.next h2 h3 h4 e2⟩
theorem RunX.write (h : RunX w0 b p X w) (i a : Int) (hi : i ≤ 9223372036854775807) (ha : -9223372036854775808 ≤ a ∧ a ≤ 9223372036854775807) (S : Option Addr) (n c : Nat) (l : List UInt8) (hl : l.length = n) (hS : Sees w w.heap.size S (byt l)) :
    Calls Try.prog 13 #[bx b, .int .i64 i, .int .i64 a, .slice S n c] w fun e w' => e = .returned (.int .i64 (reachE p i a l.length : Int)) ∧ RunX w0 b (writeP p i a l) X w' ∧ ∀ k, X k → w'.heap[k]? = w.heap[k]? := by
  obtain ⟨F, h1, h2, h3, h4⟩ := h
  exact (write_any h1 i a hi ha S n c l hl hS).mono fun _ _ ⟨e1, e2⟩ => ⟨e1, RunX.next h2 h3 h4 e2⟩
theorem RunX.read (h : RunX w0 b p X w) (i a m : Int) (hi : i ≤ 9223372036854775807) (ha : -9223372036854775808 ≤ a ∧ a ≤ 9223372036854775807) :
    Calls Try.prog 15 #[bx b, .int .i64 i, .int .i64 a, .int .i64 m] w fun e w' => ∃ A c, e = .returned (.tuple #[.slice A (readP p i a m).length c, .int .i64 (reachE p i a m : Int)]) ∧ (readP p i a m).length ≤ c ∧ w'.ownsRow w.heap.size 5 1 (.slice A (readP p i a m).length c) (readP p i a m).length (byt (readP p i a m)) ∧ Below w.heap.size w w' ∧ RunX w0 b p X w' ∧ ∀ k, X k → w'.heap[k]? = w.heap[k]? := by
  refine (h.run.read i a m hi ha).mono ?_
  rintro e w' ⟨A, c, e1, e2, e3, e4, _⟩
  exact ⟨A, c, e1, e2, e3, e4, h.more e4⟩
theorem RunX.reserved (h : RunX w0 b p X w) (o : Int) : Calls Try.prog 14 #[bx b, .int .i64 o] w fun e w' => e = .returned (.tuple #[.int .i64 (if ownerB o then (resN p o.toNat : Int) else 0), .int .i64 (if ownerB o then (taken p.fr o.toNat : Int) else 0)]) ∧ RunX w0 b p X w' ∧ ∀ k, X k → w'.heap[k]? = w.heap[k]? := by
  obtain ⟨F, h1, h2, h3, h4⟩ := h
  cases ho : ownerB o
  · exact (Reserved_no h1 o ho).mono fun _ _ ⟨e1, e2⟩ => ⟨e1, e2 ▸ RunX.more ⟨F, h1, h2, h3, h4⟩ (Below.refl _ _)⟩
  · have := (ownerB_iff o).1 ho
    obtain ⟨x, rfl⟩ : ∃ x : Nat, o = x := ⟨o.toNat, by omega⟩
    exact (Reserved_yes h1 x (by omega)).mono fun _ _ ⟨e1, e2⟩ => ⟨e1, RunX.more ⟨F, h1, h2, h3, h4⟩ e2⟩
theorem RunX.all (h : RunX w0 b p X w) (many : Nat) (hm1 : 1 ≤ many) (hm : many ≤ 100000) : Calls Try.prog 16 #[bx b, .int .i64 (many : Int)] w (RowsP w ((rowsN (owns p.fr)).take many)) := by
  obtain ⟨F, h1, h2, h3, h4⟩ := h
  exact all_any h1 many hm1 hm
end

/-! the map of a law -/
abbrev MapOf (w : World) (g : Nat) (l : List (Option Nat)) : Prop := w.ownsMap Try.prog 3 (plainElem Try.prog 3) g 16384 (mapD l)
theorem lookup2_at {w : World} {g : Nat} {l : List (Option Nat)} {i : Int} (h : MapOf w g l) (h1 : -9223372036854775808 ≤ i) (h2 : i ≤ 9223372036854775807) :
    (Instr.lookup 35 (.map (some g)) (.int .i64 i) true).run Try.prog w = .ok (.tuple #[.int .i64 (ownN l i : Int), .bool (ownAt l i).isSome]) w := by
  obtain ⟨v, ps, hrun, hv⟩ := h.look_ok law Try.underlying35 (zeroE _) (plainElem_int Try.underlying3 (by decide)) (keyZ h1 h2)
  obtain ⟨c, rfl, hc, _⟩ := plainElem_int_inv Try.underlying3 hv
  rw [hrun, mapD_has]
  have := mapD_ownN (congrArg Prod.fst hc)
  rw [this]
theorem MapOf.put {w' : World} {g : Nat} {l : List (Option Nat)} {i o : Nat} (h : w'.ownsMap Try.prog 3 (plainElem Try.prog 3) g (16384 + 1) ((mapD l).put (.int .i64 (i : Int)) (.lit (.int .i64 (o : Int))))) (hi : i < l.length) (hl : l.length ≤ 16384) : MapOf w' g (l.set i (some o)) := by
  rw [mapD_put _ _ _ hi] at h
  refine owns_tight h ?_
  rw [mapD_size]
  exact Nat.le_trans List.countP_le_length (by rw [List.length_set]; exact hl)
theorem made_map (w : World) (n : Nat) : MapOf (w.alloc (.map #[] 0)) w.heap.size (owns (newP n).fr) := by
  have h := World.ownsMap_made w Try.prog 3 (plainElem (H := Unit) Try.prog 3)
  have hd : mapD (owns (newP n).fr) = .map [] := by
    have h1 : ∀ m s, entsF s (owns (List.replicate m none)) = [] := by
      intro m
      induction m with
      | zero => intro s; rfl
      | succ m ih => intro s; rw [List.replicate_succ]; exact ih (s + 1)
    unfold mapD newP
    rw [h1]
  show (w.alloc (.map #[] 0)).ownsMap _ _ _ _ _ _
  rw [hd]
  exact h.mono (Nat.zero_le _)
end Go.Proofs.Ytnbehncbjbkjpaa
