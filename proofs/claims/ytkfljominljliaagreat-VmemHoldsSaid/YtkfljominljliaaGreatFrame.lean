import Derived.Test.YtkfljominljliaaGreatRows
import Derived.Test.YtkfljominljliaaGreatRow
import Derived.LaidLaws
namespace Go.Proofs.YtkfljominljliaaGreat
open Go.ChangeShapes Go.WideShapes Go.ChangeAt Go.RowKit

/- THE FRAME OF ROWS THAT LIST NO VARIABLE. -/

theorem laidOut : laidOutB Tryz.prog = true := by kernel_rfl
theorem ownKnob_none : ownKnob Tryz.prog.godebug = none := by kernel_rfl
/-- the settled world -/
noncomputable def laidWorld (os : Os) : World := World.holding Tryz.prog os ⟨#[], #[], []⟩
end Go.Proofs.YtkfljominljliaaGreat
