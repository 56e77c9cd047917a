import Derived.Test.YtodbaahnmmfgiaaPlain
import Derived.Test.YtodbaahnmmfgiaaOpenI
import Derived.Test.YtodbaahnmmfgiaaLL
namespace Go.Proofs.Ytodbaahnmmfgiaa.Lk
open Go.ChangeShapes Go.WideShapes Go.ChangeAt Go.RowKit

/- CALLS AND NUMBERS THAT CAME IN. -/

abbrev actSs : List Sc := [some .i64, some .i64, some .i64]
theorem act_of {r : List Value} {ss : List Sc} {rest : List Sc} (hss : ss = actSs ++ rest) (h : FitsAll ss r) : ∃ (x : Ac) (t : List Value), x.fits ∧ r = x.cells ++ t ∧ FitsAll rest t := by
  subst hss
  obtain ⟨_, r1, rfl, ⟨z1, rfl, w1⟩, _, r2, rfl, ⟨z2, rfl, w2⟩, _, r3, rfl, ⟨z3, rfl, w3⟩, h7⟩ := h
  have b2 := bounds_i64 w2
  have b3 := bounds_i64 w3
  exact ⟨⟨z1, z2, z3⟩, r3, ⟨⟨by simp only; omega, by simp only; omega⟩, by simp only; omega, by simp only; omega⟩, rfl, h7⟩
theorem acs_of {W : World} {A : Option Addr} {R : List (List Value)} (h : ∀ r ∈ R, FitsAll actSs r) (hs : Sees W W.heap.size A R.flatten) : ∃ l : List Ac, l.length = R.length ∧ Acs W l A := by
  obtain ⟨l, rfl, h2⟩ := rows_map (enc := Ac.cells) (Q := fun x => x.fits) R (fun r hr => by
    obtain ⟨x, t, h1, rfl, h3⟩ := act_of (rest := []) rfl (h r hr)
    exact ⟨x, h1, by rw [show t = [] from h3, List.append_nil]⟩)
  exact ⟨l, by simp, ⟨by rw [List.flatMap_def]; exact hs, h2⟩⟩
theorem act_two {V : List Value} (h : FitsAll (actSs ++ actSs) V) : ∃ x y : Ac, x.fits ∧ y.fits ∧ V = x.cells ++ y.cells := by
  obtain ⟨x, t, h1, rfl, h3⟩ := act_of (rest := actSs) rfl h
  obtain ⟨y, t2, h4, rfl, h5⟩ := act_of (rest := []) rfl h3
  exact ⟨x, y, h1, h4, by rw [show t2 = [] from h5, List.append_nil]⟩
abbrev fourSs : List Sc := [some .i64, some .i64, some .i64, some .i64]
theorem four_of {V : List Value} (h : FitsAll fourSs V) : ∃ a b c d : Int, i64 a ∧ i64 b ∧ i64 c ∧ i64 d ∧ V = [.int .i64 a, .int .i64 b, .int .i64 c, .int .i64 d] := by
  obtain ⟨_, r1, rfl, ⟨z1, rfl, w1⟩, _, r2, rfl, ⟨z2, rfl, w2⟩, _, r3, rfl, ⟨z3, rfl, w3⟩, _, r4, rfl, ⟨z4, rfl, w4⟩, h7⟩ := h
  have b1 := bounds_i64 w1
  have b2 := bounds_i64 w2
  have b3 := bounds_i64 w3
  have b4 := bounds_i64 w4
  exact ⟨z1, z2, z3, z4, ⟨by omega, by omega⟩, ⟨by omega, by omega⟩, ⟨by omega, by omega⟩, ⟨by omega, by omega⟩, by rw [show r4 = [] from h7]⟩
theorem izs_of {l : List Int} (h : ∀ z ∈ l, (Lit.int .i64 z).wf = true) : ∀ z ∈ l, i64 z := fun z hz => by
  have := bounds_i64 (h z hz)
  exact ⟨by omega, by omega⟩
theorem intl_izs (l : List Int) : intl .i64 l = izs l := rfl
end Go.Proofs.Ytodbaahnmmfgiaa.Lk
