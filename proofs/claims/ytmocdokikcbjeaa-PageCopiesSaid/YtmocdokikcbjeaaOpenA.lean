import Derived.Test.YtmocdokikcbjeaaPlain
import Derived.Test.YtmocdokikcbjeaaActs
namespace Go.Proofs.Ytmocdokikcbjeaa
open Go.ChangeShapes Go.WideShapes Go.ChangeAt Go.RowKit

/- CALLS THAT CAME IN. -/

abbrev actSs : List Sc := [some .i64, some .i64, some .i64, some .i64, some .i64, some .i64]
theorem act_of {r : List Value} {ss : List Sc} {rest : List Sc} (hss : ss = actSs ++ rest) (h : FitsAll ss r) : ∃ (x : Ac) (t : List Value), x.fits ∧ r = x.cells ++ t ∧ FitsAll rest t := by
  subst hss
  obtain ⟨_, r1, rfl, ⟨z1, rfl, w1⟩, _, r2, rfl, ⟨z2, rfl, w2⟩, _, r3, rfl, ⟨z3, rfl, w3⟩, _, r4, rfl, ⟨z4, rfl, w4⟩, _, r5, rfl, ⟨z5, rfl, w5⟩, _, r6, rfl, ⟨z6, rfl, w6⟩, h7⟩ := h
  have b1 := bounds_i64 w1
  have b2 := bounds_i64 w2
  have b3 := bounds_i64 w3
  have b4 := bounds_i64 w4
  have b5 := bounds_i64 w5
  have b6 := bounds_i64 w6
  exact ⟨⟨z1, z2, z3, (z4, z5, z6)⟩, r6, ⟨b1, b2, b3, b4, b5, b6⟩, rfl, h7⟩
theorem acs_of {W : World} {A : Option Addr} {R : List (List Value)} (h : ∀ r ∈ R, FitsAll actSs r) (hs : Sees W W.heap.size A R.flatten) : ∃ l : List Ac, l.length = R.length ∧ Acs W l A := by
  obtain ⟨l, rfl, h2⟩ := rows_map (enc := Ac.cells) (Q := fun x => x.fits) R (fun r hr => by
    obtain ⟨x, t, h1, rfl, h3⟩ := act_of (rest := []) rfl (h r hr)
    exact ⟨x, h1, by rw [show t = [] from h3, List.append_nil]⟩)
  exact ⟨l, by simp, ⟨by rw [List.flatMap_def]; exact hs, h2⟩⟩
theorem act_one {V : List Value} (h : FitsAll actSs V) : ∃ x : Ac, x.fits ∧ V = x.cells := by
  obtain ⟨x, t, h1, rfl, h3⟩ := act_of (rest := []) rfl h
  exact ⟨x, h1, by rw [show t = [] from h3, List.append_nil]⟩
theorem act_two {V : List Value} (h : FitsAll (actSs ++ actSs) V) : ∃ x y : Ac, x.fits ∧ y.fits ∧ V = x.cells ++ y.cells := by
  obtain ⟨x, t, h1, rfl, h3⟩ := act_of (rest := actSs) rfl h
  obtain ⟨y, h4, rfl⟩ := act_one h3
  exact ⟨x, y, h1, h4, rfl⟩
theorem int_two {V : List Value} (h : FitsAll [some .i64, some .i64] V) : ∃ a b : Int, V = [.int .i64 a, .int .i64 b] := by
  obtain ⟨_, r1, rfl, ⟨z1, rfl, w1⟩, _, r2, rfl, ⟨z2, rfl, w2⟩, h3⟩ := h
  exact ⟨z1, z2, by rw [show r2 = [] from h3]⟩
end Go.Proofs.Ytmocdokikcbjeaa
