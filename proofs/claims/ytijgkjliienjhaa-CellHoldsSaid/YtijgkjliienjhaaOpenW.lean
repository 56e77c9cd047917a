import Derived.Test.YtijgkjliienjhaaOpenI
import Derived.Test.YtijgkjliienjhaaCI
namespace Go.Proofs.Ytijgkjliienjhaa
open Go.ChangeShapes Go.WideShapes Go.ChangeAt Go.RowKit

/- WORDS THAT CAME IN, AS NUMBERS. -/
theorem nats_of {l : List Int} (h : ∀ z ∈ l, (Lit.int .u64 z).wf = true) : ∃ m : List Nat, l = m.map (fun n : Nat => (n : Int)) ∧ ∀ x ∈ m, x < 18446744073709551616 := by
  refine ⟨l.map Int.toNat, ?_, fun x hx => ?_⟩
  · rw [List.map_map]
    conv => lhs; rw [← List.map_id l]
    exact List.map_congr_left fun z hz => by have := bounds_u64 (h z hz); simp only [id, Function.comp]; omega
  · obtain ⟨z, hz, rfl⟩ := List.mem_map.1 hx
    have := bounds_u64 (h z hz)
    omega
theorem intl_nats (m : List Nat) : intl .u64 (m.map fun n : Nat => (n : Int)) = wds m := by simp [intl, wds, Function.comp_def]
end Go.Proofs.Ytijgkjliienjhaa
