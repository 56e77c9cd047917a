import Derived.Test.YtijgkjliienjhaaRows
import Derived.Test.YtijgkjliienjhaaRow
import Derived.LaidLaws
namespace Go.Proofs.Ytijgkjliienjhaa
open Go.ChangeShapes Go.WideShapes Go.ChangeAt Go.RowKit

/- THE FRAME OF ROWS THAT LIST NO VARIABLE. -/

theorem laidOut : laidOutB Try.prog = true := by kernel_rfl
theorem ownKnob_none : ownKnob Try.prog.godebug = none := by kernel_rfl
/-- the settled world -/
noncomputable def laidWorld (os : Os) : World := World.holding Try.prog os ⟨#[], #[], []⟩
end Go.Proofs.Ytijgkjliienjhaa
