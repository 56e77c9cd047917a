import Derived.Test.YtpnlddjobphjnaaDoorCards
import Derived.Test.YtpnlddjobphjnaaDoorTie
import Derived.Test.YtpnlddjobphjnaaDoorKind
import Derived.Test.YtpnlddjobphjnaaDoorRow
import Derived.Lib.LaidTab
namespace Go.Proofs.YtpnlddjobphjnaaDoor
open Go.ChangeShapes Go.WideShapes Go.ChangeAt Go.RowKit

theorem laidOut : laidOutB Tryd.prog = true := by kernel_rfl
theorem ownKnob_none : ownKnob Tryd.prog.godebug = none := by kernel_rfl
theorem gTabType : (Tryd.prog.globals[0]?).map (·.type) = some 74 := by kernel_rfl
theorem gTab : Tryd.prog.globalNamed "pinfold/size.payloads" = some 0 := by kernel_rfl
theorem cellsTab : Tryd.prog.cellsOf 74 = 8 := by kernel_rfl
theorem cellsInt : Tryd.prog.cellsOf 3 = 1 := by kernel_rfl

/-- the settled world, the table as its initialiser lays it -/
noncomputable def laidWorld (os : Os) : World :=
  { World.holding Tryd.prog os ⟨#[], #[], []⟩ with heap := (World.holding Tryd.prog os ⟨#[], #[], []⟩).heap.modify 0 fun
      | .cells _ t frozen => .cells payCells t frozen
      | o => o }
theorem tab_of {W : World} (h : laidMetH Tryd.prog [("pinfold/size.payloads", Rows.laid_pinfold_size_payloads)] W) : Tab W :=
  Tab.of (Lib.tabIs_of_head (rest := []) gTab gTabType Tryd.underlying74 Tryd.underlying3 cellsInt cellsTab h)
end Go.Proofs.YtpnlddjobphjnaaDoor
