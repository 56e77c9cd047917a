import Derived.Test.YtmifkbjdamhoiaaDoorCards
import Derived.Test.YtmifkbjdamhoiaaDoorTie
import Derived.Test.YtmifkbjdamhoiaaDoorPower
import Derived.Test.YtmifkbjdamhoiaaDoorRow
import Derived.Lib.LaidTab
namespace Go.Proofs.YtmifkbjdamhoiaaDoor
open Go.ChangeShapes Go.WideShapes Go.ChangeAt Go.RowKit

theorem laidOut : laidOutB Tryd.prog = true := by kernel_rfl
theorem ownKnob_none : ownKnob Tryd.prog.godebug = none := by kernel_rfl
theorem cellsWord : Tryd.prog.cellsOf 24 = 1 := by kernel_rfl
theorem bytesWord : Tryd.prog.bytesOf 24 = 8 := by kernel_rfl
theorem gTabType : (Tryd.prog.globals[0]?).map (·.type) = some 65 := by kernel_rfl
theorem gTab : Tryd.prog.globalNamed "math/bits.deBruijn64tab" = some 0 := by kernel_rfl
theorem cellsTab : Tryd.prog.cellsOf 65 = 64 := by kernel_rfl
theorem cellsByte : Tryd.prog.cellsOf 5 = 1 := by kernel_rfl

/-- the settled world, the table as its initialiser lays it -/
noncomputable def laidWorld (os : Os) : World :=
  { World.holding Tryd.prog os ⟨#[], #[], []⟩ with heap := (World.holding Tryd.prog os ⟨#[], #[], []⟩).heap.modify 0 fun
      | .cells _ t frozen => .cells tabCells t frozen
      | o => o }
theorem tab_of {W : World} (h : laidMetH Tryd.prog [("math/bits.deBruijn64tab", Rows.laid_math_bits_deBruijn64tab)] W) : Tab W :=
  Tab.of (Lib.tabIs_of_head (rest := []) gTab gTabType Tryd.underlying65 Tryd.underlying5 cellsByte cellsTab h)
end Go.Proofs.YtmifkbjdamhoiaaDoor
