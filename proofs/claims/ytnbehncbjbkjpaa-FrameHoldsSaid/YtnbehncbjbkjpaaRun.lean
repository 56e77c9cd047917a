import Derived.Test.YtnbehncbjbkjpaaGive
import Derived.Test.YtnbehncbjbkjpaaStr
namespace Go.Proofs.Ytnbehncbjbkjpaa
open Go.RowKit Go.Shelf Go.Maps Go.Sort

/- A POOL OF A LAW's OWN, CALL BY CALL. -/

/-- a pool at b, made since w0 -/
def Run (w0 : World) (b : Nat) (p : Pl) (w : World) : Prop := ∃ F, Has w b p F ∧ (∀ k, F k → w0.heap.size ≤ k) ∧ Below w0.heap.size w0 w
section
variable {w0 w w' : World} {b : Nat} {p : Pl}
theorem Run.below (h : Run w0 b p w) : Below w0.heap.size w0 w := by
  obtain ⟨F, h1, h2, h3⟩ := h
  exact h3
theorem Run.ok (h : Run w0 b p w) : p.ok := by
  obtain ⟨F, h1, h2, h3⟩ := h
  exact h1.ok
theorem Run.more (h : Run w0 b p w) (hb : Below w.heap.size w w') : Run w0 b p w' := by
  obtain ⟨F, h1, h2, h3⟩ := h
  exact ⟨F, h1.below hb, h2, below0 h3 hb⟩
theorem Run.alloc (h : Run w0 b p w) (o : Obj) : Run w0 b p (w.alloc o) := h.more (below1 w o)
theorem Run.drew (h : Run w0 b p w) : Run w0 b p w.drew := h.more (below_drewN (Below.refl _ _) 1)
theorem Run.next {F : Nat → Prop} {p' : Pl} (h2 : ∀ k, F k → w0.heap.size ≤ k) (h3 : Below w0.heap.size w0 w) (h : Next w b p' F w') : Run w0 b p' w' := by
  obtain ⟨F', g1, g2, g3⟩ := h
  exact ⟨F', g1, fun k hk => (g3 k hk).elim (h2 k) fun h => Nat.le_trans h3.size h, h3.trans (g2.below h2 h3.size)⟩
theorem Run.new (n : Nat) (w : World) (hn : n ≤ 16384) : Calls Try.prog 6 #[.int .i64 (n : Int)] w fun e w' => ∃ b, e = .returned (.tuple #[bx b, .int .i64 0]) ∧ Run w b (newP n) w' :=
  (new_yes n w hn).mono fun _ _ ⟨b, F, e1, e2, e3, e4⟩ => ⟨b, e1, F, e2, e3, e4⟩
theorem Run.reserve (h : Run w0 b p w) (o m : Int) (hm : m ≤ 9223372036854775807) : Calls Try.prog 8 #[bx b, .int .i64 o, .int .i64 m] w fun e w' => e = .returned (.int .i64 (reserveE p o m : Int)) ∧ Run w0 b (reserveP p o m) w' := by
  obtain ⟨F, h1, h2, h3⟩ := h
  by_cases hE : reserveE p o m = 0
  · have hob : 0 ≤ o ∧ 0 ≤ m := by
      unfold reserveE at hE
      split at hE
      · cases hE
      next h4 =>
        have h5 := Classical.not_not.1 h4
        simp only [ownerB, Bool.and_eq_true, decide_eq_true_eq] at h5
        exact ⟨h5.1.1, h5.2⟩
    obtain ⟨x, rfl⟩ : ∃ x : Nat, o = x := ⟨o.toNat, by omega⟩
    obtain ⟨y, rfl⟩ : ∃ y : Nat, m = y := ⟨m.toNat, by omega⟩
    rw [hE]
    exact (reserve_yes h1 x y (by omega) hE).mono fun _ _ ⟨e1, e2⟩ => ⟨e1, Run.next h2 h3 e2⟩
  · exact (reserve_no h1 o m hm hE).mono fun _ _ ⟨e1, e2⟩ => ⟨e1, Run.next h2 h3 e2⟩
theorem Run.take (h : Run w0 b p w) (o : Int) : Calls Try.prog 9 #[bx b, .int .i64 o] w fun e w' => e = .returned (.tuple #[.int .i64 (takeI p o : Int), .int .i64 (takeE p o : Int)]) ∧ Run w0 b (takeP p o) w' := by
  obtain ⟨F, h1, h2, h3⟩ := h
  by_cases hE : takeE p o = 0
  · obtain ⟨g1, _⟩ := takeE_left h1.ok hE
    obtain ⟨x, rfl⟩ : ∃ x : Nat, o = x := ⟨o.toNat, by omega⟩
    rw [hE]
    exact (take_yes h1 x hE).mono fun _ _ ⟨e1, e2⟩ => ⟨e1, Run.next h2 h3 e2⟩
  · exact (take_no h1 o hE).mono fun _ _ ⟨e1, e2⟩ => ⟨e1, Run.next h2 h3 e2⟩
theorem Run.give (h : Run w0 b p w) (i : Int) (hi : i ≤ 9223372036854775807) : Calls Try.prog 12 #[bx b, .int .i64 i] w fun e w' => e = .returned (.int .i64 (giveE p i : Int)) ∧ Run w0 b (giveP p i) w' := by
  obtain ⟨F, h1, h2, h3⟩ := h
  by_cases hE : giveE p i = 0
  · obtain ⟨g1, _⟩ := giveE_some hE
    obtain ⟨x, rfl⟩ : ∃ x : Nat, i = x := ⟨i.toNat, by omega⟩
    rw [hE]
    exact (give_yes h1 x (by omega) hE).mono fun _ _ ⟨e1, e2⟩ => ⟨e1, Run.next h2 h3 e2⟩
  · exact (give_no h1 i hi hE).mono fun _ _ ⟨e1, e2⟩ => ⟨e1, Run.next h2 h3 e2⟩
theorem Run.write (h : Run w0 b p w) (i a : Int) (hi : i ≤ 9223372036854775807) (ha : -9223372036854775808 ≤ a ∧ a ≤ 9223372036854775807) (S : Option Addr) (n c : Nat) (l : List UInt8) (hl : l.length = n) (hS : Sees w w.heap.size S (byt l)) :
    Calls Try.prog 13 #[bx b, .int .i64 i, .int .i64 a, .slice S n c] w fun e w' => e = .returned (.int .i64 (reachE p i a l.length : Int)) ∧ Run w0 b (writeP p i a l) w' := by
  obtain ⟨F, h1, h2, h3⟩ := h
  exact (write_any h1 i a hi ha S n c l hl hS).mono fun _ _ ⟨e1, e2⟩ => ⟨e1, Run.next h2 h3 e2⟩
theorem Run.read (h : Run w0 b p w) (i a m : Int) (hi : i ≤ 9223372036854775807) (ha : -9223372036854775808 ≤ a ∧ a ≤ 9223372036854775807) :
    Calls Try.prog 15 #[bx b, .int .i64 i, .int .i64 a, .int .i64 m] w fun e w' => ∃ A c, e = .returned (.tuple #[.slice A (readP p i a m).length c, .int .i64 (reachE p i a m : Int)]) ∧ (readP p i a m).length ≤ c ∧ w'.ownsRow w.heap.size 5 1 (.slice A (readP p i a m).length c) (readP p i a m).length (byt (readP p i a m)) ∧ Below w.heap.size w w' ∧ Run w0 b p w' := by
  obtain ⟨F, h1, h2, h3⟩ := h
  refine (read_any h1 i a m hi ha).mono ?_
  rintro e w' ⟨A, n, c, e1, rfl, e3, e4, e5⟩
  exact ⟨A, c, e1, e3, e4, e5, Run.more ⟨F, h1, h2, h3⟩ e5⟩
theorem Run.room (h : Run w0 b p w) : Calls Try.prog 10 #[bx b] w fun e w' => e = .returned (.int .i64 (p.room : Int)) ∧ Run w0 b p w' := by
  obtain ⟨F, h1, h2, h3⟩ := h
  exact (Room_any h1).mono fun _ _ ⟨e1, e2⟩ => ⟨e1, Run.more ⟨F, h1, h2, h3⟩ e2⟩
theorem ownerB_iff (o : Int) : ownerB o = true ↔ 0 ≤ o ∧ o < 64 := by simp [ownerB]
theorem Run.reserved (h : Run w0 b p w) (o : Int) : Calls Try.prog 14 #[bx b, .int .i64 o] w fun e w' => e = .returned (.tuple #[.int .i64 (if ownerB o then (resN p o.toNat : Int) else 0), .int .i64 (if ownerB o then (taken p.fr o.toNat : Int) else 0)]) ∧ Run w0 b p w' := by
  obtain ⟨F, h1, h2, h3⟩ := h
  cases ho : ownerB o
  · exact (Reserved_no h1 o ho).mono fun _ _ ⟨e1, e2⟩ => ⟨e1, e2 ▸ ⟨F, h1, h2, h3⟩⟩
  · have := (ownerB_iff o).1 ho
    obtain ⟨x, rfl⟩ : ∃ x : Nat, o = x := ⟨o.toNat, by omega⟩
    exact (Reserved_yes h1 x (by omega)).mono fun _ _ ⟨e1, e2⟩ => ⟨e1, Run.more ⟨F, h1, h2, h3⟩ e2⟩
end
end Go.Proofs.Ytnbehncbjbkjpaa
