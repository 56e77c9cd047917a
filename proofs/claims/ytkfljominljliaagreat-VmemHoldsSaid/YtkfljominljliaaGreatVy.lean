import Derived.Test.YtkfljominljliaaGreatVx
namespace Go.Proofs.YtkfljominljliaaGreat.Vm
open Go.RowKit
theorem vmemHolds_any (l : List Ac) (A : Option Addr) (n c : Nat) (w : World) (h : Acs w l A) (hl : l.length = n) (hn : n ≤ 4611686018427387904) :
    Calls Tryz.prog 3 #[.slice A n c] w fun e w' => e = .returned (.bool true) ∧ Below w.heap.size w w' := by
  rcases hq : fewB l 40 with _ | _
  · exact holds_far l A n c w h hl hn hq
  · exact holds_main l A n c w h hl hn hq
end Go.Proofs.YtkfljominljliaaGreat.Vm
