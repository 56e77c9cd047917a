import Derived.Test.YtfmbfojlopibnaaDoorCards
import Derived.Test.YtfmbfojlopibnaaDoorTie
import Derived.Test.YtfmbfojlopibnaaDoorTab
import Derived.Test.YtfmbfojlopibnaaDoorRow
import Derived.Test.YtfmbfojlopibnaaDoorOpenI
import Derived.Lib.LaidTab
namespace Go.Proofs.YtfmbfojlopibnaaDoor
open Go.ChangeShapes Go.WideShapes Go.ChangeAt Go.RowKit

theorem laidOut : laidOutB Tryd.prog = true := by kernel_rfl
theorem ownKnob_none : ownKnob Tryd.prog.godebug = none := by kernel_rfl
theorem cellsByte : Tryd.prog.cellsOf 5 = 1 := by kernel_rfl
theorem bytesByte : Tryd.prog.bytesOf 5 = 1 := by kernel_rfl
theorem gTabType : (Tryd.prog.globals[0]?).map (·.type) = some 127 := by kernel_rfl
theorem gTab : Tryd.prog.globalNamed "pinfold/word.widths" = some 0 := by kernel_rfl
theorem cellsTab : Tryd.prog.cellsOf 127 = 4 := by kernel_rfl
theorem cellsInt : Tryd.prog.cellsOf 114 = 1 := by kernel_rfl

/-- the settled world, the table as its initialiser lays it -/
noncomputable def laidWorld (os : Os) : World :=
  { World.holding Tryd.prog os ⟨#[], #[], []⟩ with heap := (World.holding Tryd.prog os ⟨#[], #[], []⟩).heap.modify 0 fun
      | .cells _ t frozen => .cells #[.int .i64 1, .int .i64 2, .int .i64 4, .int .i64 8] t frozen
      | o => o }
theorem tab_of {W : World} (h : laidMetH Tryd.prog [("pinfold/word.widths", Rows.laid_pinfold_word_widths)] W) : Tab W :=
  Tab.of (Lib.tabIs_of_head (rest := []) gTab gTabType Tryd.underlying127 Tryd.underlying114 cellsInt cellsTab h)

/-- a slice of bytes that came in has at least its bytes' room -/
theorem bytes_le {H : Type} {enc : TypeId × Value → H} {P : Program} {W : World} {t e : TypeId} {A : Option Addr} {n c : Nat} {d : DataW H} {p : List MemPlace}
    (ht : P.underlying t = some (.slice e)) (he : P.underlying e = some (.int .u8)) (hce : P.cellsOf e = 1)
    (h : DataW.Trod enc P W 0 (fun _ => true) true t (.slice A n c) d p) : n ≤ c := by
  obtain ⟨fuel, hf⟩ := h
  rcases open_ints ht he hce hf with ⟨hcs, _⟩ | ⟨a, len, cap, zs, hcs, _, hl, _⟩
  · simp [Value.cells] at hcs
    omega
  · simp [Value.cells] at hcs
    omega
/-- bytes that came in as numbers -/
theorem bytes_of {l : List Int} (h : ∀ z ∈ l, (Lit.int .u8 z).wf = true) : ∃ m : List UInt8, m.length = l.length ∧ intl .u8 l = byt m := by
  refine ⟨l.map fun z => UInt8.ofNat z.toNat, by simp, ?_⟩
  rw [intl, byt, List.map_map]
  exact List.map_congr_left fun z hz => by simp only [Function.comp, u8_of (h z hz)]
end Go.Proofs.YtfmbfojlopibnaaDoor
