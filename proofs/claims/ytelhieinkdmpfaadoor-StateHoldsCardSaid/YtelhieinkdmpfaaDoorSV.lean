import Derived.Test.YtelhieinkdmpfaaDoorSH
import Derived.LaidLaws
import Derived.ChangeArms
import Derived.OpenShut
import Derived.Lib.LaidTab
namespace Go.Proofs.YtelhieinkdmpfaaDoor.Sh
open Go.RowKit Go.Shelf
attribute [local go_sem] Oper.semAt_some

/- THE CODE's TWO TABLES. -/
def becBs : List Bool := [false, true, false, false, false, true, false, true, false, false, false, false, false, true, true, true, false, false, false, true, false, false, false, false, false]
def becCells : Array Value := #[.bool false, .bool true, .bool false, .bool false, .bool false, .bool true, .bool false, .bool true, .bool false, .bool false, .bool false, .bool false, .bool false, .bool true, .bool true, .bool true, .bool false, .bool false, .bool false, .bool true, .bool false, .bool false, .bool false, .bool false, .bool false]
def namCells : Array Value := #[.string ⟨#[102, 114, 101, 101]⟩, .string ⟨#[107, 101, 112, 116]⟩, .string ⟨#[108, 105, 118, 101]⟩, .string ⟨#[104, 101, 108, 100]⟩, .string ⟨#[103, 111, 110, 101]⟩]
/-- both stand in their blocks -/
structure Tb (w : World) : Prop where
  bec : ∃ t fr, w.heap[0]? = some (.cells becCells t fr)
  nam : ∃ t fr, w.heap[1]? = some (.cells namCells t fr)
theorem Tb.below {w w' : World} (h : Tb w) (hb : Below w.heap.size w w') : Tb w' := by
  obtain ⟨⟨t, fr, h1⟩, ⟨u, fs, h2⟩⟩ := h
  exact ⟨⟨t, fr, (hb.block _ (Array.getElem?_eq_some_iff.1 h1).1).trans h1⟩, ⟨u, fs, (hb.block _ (Array.getElem?_eq_some_iff.1 h2).1).trans h2⟩⟩
theorem Tb.cellB {w : World} (h : Tb w) {i j : Nat} (hi : i < 5) (hj : j < 5) : w.cell? ⟨0, i * 5 + j, none⟩ = some (.bool (mayB (i : Int) (j : Int))) := by
  obtain ⟨t, fr, h⟩ := h.bec
  rw [cell_of_row _ _ (i * 5 + j) _ t fr h]
  have : i = 0 ∨ i = 1 ∨ i = 2 ∨ i = 3 ∨ i = 4 := by omega
  have : j = 0 ∨ j = 1 ∨ j = 2 ∨ j = 3 ∨ j = 4 := by omega
  rcases ‹i = 0 ∨ _› with rfl | rfl | rfl | rfl | rfl <;> rcases ‹j = 0 ∨ _› with rfl | rfl | rfl | rfl | rfl <;> rfl
theorem Tb.cellN {w : World} (h : Tb w) {i : Nat} (hi : i < 5) : w.cell? ⟨1, i, none⟩ = some (.string (nameB (i : Int))) := by
  obtain ⟨t, fr, h⟩ := h.nam
  rw [cell_of_row _ _ i _ t fr h]
  have : i = 0 ∨ i = 1 ∨ i = 2 ∨ i = 3 ∨ i = 4 := by omega
  rcases this with rfl | rfl | rfl | rfl | rfl <;> rfl
end Go.Proofs.YtelhieinkdmpfaaDoor.Sh
