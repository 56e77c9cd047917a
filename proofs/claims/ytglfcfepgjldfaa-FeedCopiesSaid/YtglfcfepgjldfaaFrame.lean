import Derived.Test.YtglfcfepgjldfaaRows
import Derived.Test.YtglfcfepgjldfaaRow
import Derived.LaidLaws
namespace Go.Proofs.Ytglfcfepgjldfaa
open Go.ChangeShapes Go.WideShapes Go.ChangeAt Go.RowKit

/- THE FRAME OF ROWS THAT LIST NO VARIABLE. -/

theorem laidOut : laidOutB Try.prog = true := by kernel_rfl
theorem ownKnob_none : ownKnob Try.prog.godebug = none := by kernel_rfl
theorem cellsByte : Try.prog.cellsOf 5 = 1 := by kernel_rfl
theorem bytesByte : Try.prog.bytesOf 5 = 1 := by kernel_rfl
/-- the settled world -/
noncomputable def laidWorld (os : Os) : World := World.holding Try.prog os ⟨#[], #[], []⟩
end Go.Proofs.Ytglfcfepgjldfaa
