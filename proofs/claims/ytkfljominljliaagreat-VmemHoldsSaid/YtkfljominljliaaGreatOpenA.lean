import Derived.Test.YtkfljominljliaaGreatRichC
import Derived.Test.YtkfljominljliaaGreatVr
namespace Go.Proofs.YtkfljominljliaaGreat.Vm
open Go.ChangeShapes Go.WideShapes Go.ChangeAt Go.RowKit

/- CALLS THAT CAME IN. -/

abbrev actSs : List Sr := [.inl (some .i64), .inl (some .i64), .inl (some .i64), .inl (some .i64), .inl (some .i64), .inl (some .i64), .inl (some .u32), .inr false]
theorem act_of {W : World} {r : List Value} (h : RichAll W actSs r) : ∃ x : Ac, x.fits W ∧ r = x.cells := by
  obtain ⟨_, r1, rfl, ⟨z1, rfl, w1⟩, _, r2, rfl, ⟨z2, rfl, w2⟩, _, r3, rfl, ⟨z3, rfl, w3⟩, _, r4, rfl, ⟨z4, rfl, w4⟩, _, r5, rfl, ⟨z5, rfl, w5⟩, _, r6, rfl, ⟨z6, rfl, w6⟩, _, r7, rfl, ⟨z7, rfl, w7⟩, _, r8, rfl, ⟨A, n, c, l, rfl, h1, h2, h3, h4⟩, h5⟩ := h
  obtain rfl : r8 = [] := h5
  have b1 := bounds_i64 w1
  have b2 := bounds_i64 w2
  have b3 := bounds_i64 w3
  have b4 := bounds_i64 w4
  have b5 := bounds_i64 w5
  have b6 := bounds_i64 w6
  have b7 := bounds_u32 w7
  obtain ⟨m7, rfl⟩ : ∃ m : Nat, z7 = m := ⟨z7.toNat, by omega⟩
  subst h1
  exact ⟨⟨z1, z2, z3, z4, z5, z6, m7, l, A, c⟩, ⟨b1, b2, b3, b4, b5, b6, by simp only; omega, h3, h2, h4⟩, rfl⟩
theorem acs_of {W : World} {A : Option Addr} {R : List (List Value)} (h : ∀ r ∈ R, RichAll W actSs r) (hs : Sees W W.heap.size A R.flatten) : ∃ l : List Ac, l.length = R.length ∧ Acs W l A := by
  obtain ⟨l, rfl, h2⟩ := rows_map (enc := Ac.cells) (Q := fun x => x.fits W) R (fun r hr => act_of (h r hr))
  exact ⟨l, by simp, ⟨by rw [List.flatMap_def]; exact hs, h2⟩⟩
end Go.Proofs.YtkfljominljliaaGreat.Vm
