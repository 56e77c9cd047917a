import Derived.Test.YtodbaahnmmfgiaaRows
import Derived.Test.YtodbaahnmmfgiaaRow
import Derived.LaidLaws
namespace Go.Proofs.Ytodbaahnmmfgiaa
open Go.ChangeShapes Go.WideShapes Go.ChangeAt Go.RowKit

/- THE FRAME OF ROWS THAT LIST NO VARIABLE. -/

theorem laidOut : laidOutB Try.prog = true := by kernel_rfl
theorem ownKnob_none : ownKnob Try.prog.godebug = none := by kernel_rfl
/-- the settled world -/
noncomputable def laidWorld (os : Os) : World := World.holding Try.prog os ⟨#[], #[], []⟩
end Go.Proofs.Ytodbaahnmmfgiaa
