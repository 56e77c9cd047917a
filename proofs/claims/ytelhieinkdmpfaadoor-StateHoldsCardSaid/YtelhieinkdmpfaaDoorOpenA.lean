import Derived.Test.YtelhieinkdmpfaaDoorPlain
import Derived.Test.YtelhieinkdmpfaaDoorSU
namespace Go.Proofs.YtelhieinkdmpfaaDoor.Sh
open Go.ChangeShapes Go.WideShapes Go.ChangeAt Go.RowKit

/- CALLS THAT CAME IN. -/

abbrev actSs : List Sc := [none, some .i64, some .i64]
theorem act_of {r : List Value} {ss : List Sc} {rest : List Sc} (hss : ss = actSs ++ rest) (h : FitsAll ss r) : ∃ (x : Ac) (t : List Value), x.fits ∧ r = x.cells ++ t ∧ FitsAll rest t := by
  subst hss
  obtain ⟨_, r1, rfl, ⟨z1, rfl⟩, _, r2, rfl, ⟨z2, rfl, w2⟩, _, r3, rfl, ⟨z3, rfl, w3⟩, h7⟩ := h
  have b2 := bounds_i64 w2
  have b3 := bounds_i64 w3
  exact ⟨⟨z1, z2, z3⟩, r3, ⟨⟨by simp only; omega, by simp only; omega⟩, by simp only; omega, by simp only; omega⟩, rfl, h7⟩
theorem acs_of {W : World} {A : Option Addr} {R : List (List Value)} (h : ∀ r ∈ R, FitsAll actSs r) (hs : Sees W W.heap.size A R.flatten) : ∃ l : List Ac, l.length = R.length ∧ Acs W l A := by
  obtain ⟨l, rfl, h2⟩ := rows_map (enc := Ac.cells) (Q := fun x => x.fits) R (fun r hr => by
    obtain ⟨x, t, h1, rfl, h3⟩ := act_of (rest := []) rfl (h r hr)
    exact ⟨x, h1, by rw [show t = [] from h3, List.append_nil]⟩)
  exact ⟨l, by simp, ⟨by rw [List.flatMap_def]; exact hs, h2⟩⟩
theorem act_two {V : List Value} (h : FitsAll (actSs ++ actSs) V) : ∃ x y : Ac, x.fits ∧ y.fits ∧ V = x.cells ++ y.cells := by
  obtain ⟨x, t, h1, rfl, h3⟩ := act_of (rest := actSs) rfl h
  obtain ⟨y, t2, h4, rfl, h5⟩ := act_of (rest := []) rfl h3
  exact ⟨x, y, h1, h4, by rw [show t2 = [] from h5, List.append_nil]⟩
theorem i64_of {z : Int} (h : (Lit.int .i64 z).wf = true) : i64 z := by
  have := bounds_i64 h
  exact ⟨by omega, by omega⟩
end Go.Proofs.YtelhieinkdmpfaaDoor.Sh
