import Derived.Test.YtbiopegophdgiaaDoorCards
import Derived.Test.YtbiopegophdgiaaDoorTie
import Derived.Test.YtbiopegophdgiaaDoorPower
import Derived.Test.YtbiopegophdgiaaDoorRow
import Derived.Lib.LaidTab
namespace Go.Proofs.YtbiopegophdgiaaDoor
open Go.ChangeShapes Go.WideShapes Go.ChangeAt Go.RowKit

theorem laidOut : laidOutB Tryd.prog = true := by kernel_rfl
theorem ownKnob_none : ownKnob Tryd.prog.godebug = none := by kernel_rfl
theorem cellsWord : Tryd.prog.cellsOf 73 = 1 := by kernel_rfl
theorem bytesWord : Tryd.prog.bytesOf 73 = 8 := by kernel_rfl
theorem gTabType : (Tryd.prog.globals[0]?).map (·.type) = some 89 := by kernel_rfl
theorem gTab : Tryd.prog.globalNamed "math/bits.deBruijn64tab" = some 0 := by kernel_rfl
theorem cellsTab : Tryd.prog.cellsOf 89 = 64 := by kernel_rfl
theorem cellsByte : Tryd.prog.cellsOf 5 = 1 := by kernel_rfl

/-- the settled world, the table as its initialiser lays it -/
noncomputable def laidWorld (os : Os) : World :=
  { World.holding Tryd.prog os ⟨#[], #[], []⟩ with heap := (World.holding Tryd.prog os ⟨#[], #[], []⟩).heap.modify 0 fun
      | .cells _ t frozen => .cells tabCells t frozen
      | o => o }
theorem tab_of {W : World} (h : laidMetH Tryd.prog [("math/bits.deBruijn64tab", Rows.laid_math_bits_deBruijn64tab)] W) : Tab W :=
  Tab.of (Lib.tabIs_of_head (rest := []) gTab gTabType Tryd.underlying89 Tryd.underlying5 cellsByte cellsTab h)
end Go.Proofs.YtbiopegophdgiaaDoor
