import Derived.Test.YtmbjjbgpcacoeaaGreatRich
import Derived.Test.YtmbjjbgpcacoeaaGreatPD
namespace Go.Proofs.YtmbjjbgpcacoeaaGreat
open Go.ChangeShapes Go.WideShapes Go.ChangeAt Go.RowKit

/- CALLS THAT CAME IN. -/

abbrev actSs : List Sr := [.inl (some .i64), .inl (some .i64), .inl (some .i64), .inl (some .i64), .inr false]
theorem act_of {W : World} {r : List Value} (h : RichAll W actSs r) : ∃ x : Ac, x.fits W ∧ r = x.cells := by
  obtain ⟨_, r1, rfl, ⟨z1, rfl, w1⟩, _, r2, rfl, ⟨z2, rfl, w2⟩, _, r3, rfl, ⟨z3, rfl, w3⟩, _, r4, rfl, ⟨z4, rfl, w4⟩, _, r5, rfl, ⟨A, n, c, l, rfl, h1, h2, h3⟩, h4⟩ := h
  obtain rfl : r5 = [] := h4
  have b1 := bounds_i64 w1
  have b2 := bounds_i64 w2
  have b3 := bounds_i64 w3
  have b4 := bounds_i64 w4
  refine ⟨⟨z1, z2, z3, z4, l, A, c⟩, ⟨?_, ?_, ?_, ?_, ?_, h3⟩, ?_⟩
  · unfold i64; omega
  · unfold i64; omega
  · unfold i64; omega
  · unfold i64; omega
  · simp only; omega
  · subst h1
    rfl
theorem acs_of {W : World} {A : Option Addr} {R : List (List Value)} (h : ∀ r ∈ R, RichAll W actSs r) (hs : Sees W W.heap.size A R.flatten) : ∃ l : List Ac, l.length = R.length ∧ Acs W l A := by
  obtain ⟨l, rfl, h2⟩ := rows_map (enc := Ac.cells) (Q := fun x => x.fits W) R (fun r hr => act_of (h r hr))
  exact ⟨l, by simp, ⟨by rw [List.flatMap_def]; exact hs, h2⟩⟩
abbrev twoSs : List Sr := [.inl (some .i64), .inl (some .i64), .inl (some .i64), .inl (some .i64), .inr false, .inl (some .i64), .inl (some .i64), .inl (some .i64), .inl (some .i64), .inr false]
theorem two_of {W : World} {r : List Value} (h : RichAll W twoSs r) : ∃ x y : Ac, x.fits W ∧ y.fits W ∧ r = x.cells ++ y.cells := by
  obtain ⟨v1, r1, rfl, q1, v2, r2, rfl, q2, v3, r3, rfl, q3, v4, r4, rfl, q4, v5, r5, rfl, q5, h⟩ := h
  obtain ⟨x, hx, ex⟩ := act_of (r := [v1, v2, v3, v4, v5]) ⟨v1, _, rfl, q1, v2, _, rfl, q2, v3, _, rfl, q3, v4, _, rfl, q4, v5, _, rfl, q5, rfl⟩
  obtain ⟨y, hy, ey⟩ := act_of h
  exact ⟨x, y, hx, hy, by rw [← ex, ← ey]; rfl⟩
end Go.Proofs.YtmbjjbgpcacoeaaGreat
