import Derived.Test.YtaggjfdmjpelhaaRows
import Derived.Test.YtaggjfdmjpelhaaRow
import Derived.LaidLaws
import Derived.Test.YtaggjfdmjpelhaaOpenI
import Derived.Test.YtaggjfdmjpelhaaFold
namespace Go.Proofs.Ytaggjfdmjpelhaa
open Go.ChangeShapes Go.WideShapes Go.ChangeAt Go.RowKit

/- THE FRAME OF ROWS THAT LIST NO VARIABLE. -/

theorem laidOut : laidOutB Try.prog = true := by kernel_rfl
theorem ownKnob_none : ownKnob Try.prog.godebug = none := by kernel_rfl
theorem cellsWord : Try.prog.cellsOf 23 = 1 := by kernel_rfl
theorem bytesWord : Try.prog.bytesOf 23 = 8 := by kernel_rfl
/-- the settled world -/
noncomputable def laidWorld (os : Os) : World := World.holding Try.prog os ⟨#[], #[], []⟩
/-- words that came in, as numbers -/
theorem nats_of {l : List Int} (h : ∀ z ∈ l, (Lit.int .u64 z).wf = true) : ∃ m : List Nat, l = m.map (fun n : Nat => (n : Int)) ∧ Fit m := by
  refine ⟨l.map Int.toNat, ?_, fun x hx => ?_⟩
  · rw [List.map_map]
    conv => lhs; rw [← List.map_id l]
    exact List.map_congr_left fun z hz => by have := bounds_u64 (h z hz); simp only [id, Function.comp]; omega
  · obtain ⟨z, hz, rfl⟩ := List.mem_map.1 hx
    have := bounds_u64 (h z hz)
    omega
theorem intl_nats (m : List Nat) : intl .u64 (m.map fun n : Nat => (n : Int)) = wds m := by simp [intl, wds, Function.comp_def]
end Go.Proofs.Ytaggjfdmjpelhaa
