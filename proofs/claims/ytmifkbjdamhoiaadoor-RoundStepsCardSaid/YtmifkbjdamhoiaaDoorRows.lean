/-
  NARROWER THAN 'FOR EVERY INPUT', by the rows' own cells (each row's printed sentence says how): RoundSums: laid · RoundUps: laid · RoundPowers: laid · RoundSteps: laid · RoundHolds: laid.
  DERIVED. THE GIVEN ROWS OF THIS SEAT. 5 by the template 'for every input the law returns true; each argument reads behind the call as it read before'; 0 by the template 'total and deterministic' (their statements: YtmifkbjdamhoiaaDoorTotals.lean).
  GIVEN WITH THE SEED: the statements are not yours to turn. If you find one false, say at which input.
  Laid BY PROGRAM, IN A SANDBOX (cutbox-rows.mjs): the forced cells as the released guide's own fill.sh prints them over the translation 1098c02814386a99… (all of the seat's roots in one cut). By AI agents, Wed Nov 11 2026. No macro, syntax, notation, axiom, sorry.
-/
import Derived.Test.YtmifkbjdamhoiaaDoorChecked
import GoSem.Claim
import GoSem.ClaimJoined
import GoSem.ClaimMapViews
import Derived.JoinedTies
import Derived.KernelRfl
namespace Go.Proofs.YtmifkbjdamhoiaaDoor
/- THE CELL 'sum', in the pinned program and in every row, IS THE sha256 OF THE DUMP (.gsa) THAT YtmifkbjdamhoiaaDoorProg.lean LOADS. Nothing in Lean hashes anything: it is a label: what it is worth is what the hold of that sum in a sandbox is worth. -/
noncomputable def Tryd.pinned : Pinned := { name := "ytmifkbjdamhoiaadoor", sum := "1098c02814386a99fa4aaf9308cef60d1a95647940a1084234fd5e05807fb0ce", checked := Tryd.checked }
namespace Rows
def none {H : Type} : Left H := { results := [], args := [] }

/- WHAT THE LISTED PACKAGE-LEVEL VARIABLES READ AS WHEN THE CALL BEGINS. Each datum BY PROGRAM (the guide's laid-datum.mjs) off the statement by which the dump's own 'gosem.cut.vars' lays the variable. In a bare row this is a premise. The card (YtmifkbjdamhoiaaDoorCards.lean) ties it to the program's text. -/
def laid_math_bits_deBruijn64tab {H : Type} : DataW H := .agg [.lit (.int .u8 0), .lit (.int .u8 1), .lit (.int .u8 56), .lit (.int .u8 2), .lit (.int .u8 57), .lit (.int .u8 49), .lit (.int .u8 28), .lit (.int .u8 3), .lit (.int .u8 61), .lit (.int .u8 58), .lit (.int .u8 42), .lit (.int .u8 50), .lit (.int .u8 38), .lit (.int .u8 29), .lit (.int .u8 17), .lit (.int .u8 4), .lit (.int .u8 62), .lit (.int .u8 47), .lit (.int .u8 59), .lit (.int .u8 36), .lit (.int .u8 45), .lit (.int .u8 43), .lit (.int .u8 51), .lit (.int .u8 22), .lit (.int .u8 53), .lit (.int .u8 39), .lit (.int .u8 33), .lit (.int .u8 30), .lit (.int .u8 24), .lit (.int .u8 18), .lit (.int .u8 12), .lit (.int .u8 5), .lit (.int .u8 63), .lit (.int .u8 55), .lit (.int .u8 48), .lit (.int .u8 27), .lit (.int .u8 60), .lit (.int .u8 41), .lit (.int .u8 37), .lit (.int .u8 16), .lit (.int .u8 46), .lit (.int .u8 35), .lit (.int .u8 44), .lit (.int .u8 21), .lit (.int .u8 52), .lit (.int .u8 32), .lit (.int .u8 23), .lit (.int .u8 11), .lit (.int .u8 54), .lit (.int .u8 26), .lit (.int .u8 40), .lit (.int .u8 15), .lit (.int .u8 34), .lit (.int .u8 20), .lit (.int .u8 31), .lit (.int .u8 10), .lit (.int .u8 25), .lit (.int .u8 14), .lit (.int .u8 19), .lit (.int .u8 9), .lit (.int .u8 13), .lit (.int .u8 8), .lit (.int .u8 7), .lit (.int .u8 6)]

/-- 'pinfoldlaw02.RoundSums': WHATEVER THE INPUT: true; the input reads as it did. -/
def roundSumsSpec : ChangeSpec := { name := "roundSums", fn := fun _ => fun
  | [d] => { results := [.lit (.bool true)], args := [d] }
  | _ => none }
def roundSumsRow : OpenClaim := { program := "ytmifkbjdamhoiaadoor", sum := "1098c02814386a99fa4aaf9308cef60d1a95647940a1084234fd5e05807fb0ce", func := "pinfold/pinfoldlaw02.RoundSums", spec := "roundSums", inPlace := ["math/bits.Add64"], unfollowed := true, recurses := true, named := ["math/bits.deBruijn64tab"], apart := false, laid := [("math/bits.deBruijn64tab", laid_math_bits_deBruijn64tab)] }
def RoundSumsSaid : Prop := roundSumsRow.holds Tryd.pinned (OpenSpec.ofChange roundSumsSpec)

/-- ITS FALSE NEIGHBOUR: 'it returns false'. Refute it at one input. -/
def roundSumsWrong : ChangeSpec := { name := "roundSums", fn := fun _ => fun
  | [d] => { results := [.lit (.bool false)], args := [d] }
  | _ => none }
def RoundSumsWrongFalsely : Prop := roundSumsRow.holds Tryd.pinned (OpenSpec.ofChange roundSumsWrong)

/-- 'pinfoldlaw02.RoundUps': WHATEVER THE INPUT: true; the input reads as it did. -/
def roundUpsSpec : ChangeSpec := { name := "roundUps", fn := fun _ => fun
  | [d1, d2] => { results := [.lit (.bool true)], args := [d1, d2] }
  | _ => none }
def roundUpsRow : OpenClaim := { program := "ytmifkbjdamhoiaadoor", sum := "1098c02814386a99fa4aaf9308cef60d1a95647940a1084234fd5e05807fb0ce", func := "pinfold/pinfoldlaw02.RoundUps", spec := "roundUps", inPlace := ["math/bits.Add64"], unfollowed := true, recurses := true, named := ["math/bits.deBruijn64tab"], apart := false, laid := [("math/bits.deBruijn64tab", laid_math_bits_deBruijn64tab)] }
def RoundUpsSaid : Prop := roundUpsRow.holds Tryd.pinned (OpenSpec.ofChange roundUpsSpec)

/-- ITS FALSE NEIGHBOUR: 'it returns false'. Refute it at one input. -/
def roundUpsWrong : ChangeSpec := { name := "roundUps", fn := fun _ => fun
  | [d1, d2] => { results := [.lit (.bool false)], args := [d1, d2] }
  | _ => none }
def RoundUpsWrongFalsely : Prop := roundUpsRow.holds Tryd.pinned (OpenSpec.ofChange roundUpsWrong)

/-- 'pinfoldlaw02.RoundPowers': WHATEVER THE INPUT: true; the input reads as it did. -/
def roundPowersSpec : ChangeSpec := { name := "roundPowers", fn := fun _ => fun
  | [d] => { results := [.lit (.bool true)], args := [d] }
  | _ => none }
def roundPowersRow : OpenClaim := { program := "ytmifkbjdamhoiaadoor", sum := "1098c02814386a99fa4aaf9308cef60d1a95647940a1084234fd5e05807fb0ce", func := "pinfold/pinfoldlaw02.RoundPowers", spec := "roundPowers", inPlace := ["math/bits.Add64"], unfollowed := true, recurses := true, named := ["math/bits.deBruijn64tab"], apart := false, laid := [("math/bits.deBruijn64tab", laid_math_bits_deBruijn64tab)] }
def RoundPowersSaid : Prop := roundPowersRow.holds Tryd.pinned (OpenSpec.ofChange roundPowersSpec)

/-- ITS FALSE NEIGHBOUR: 'it returns false'. Refute it at one input. -/
def roundPowersWrong : ChangeSpec := { name := "roundPowers", fn := fun _ => fun
  | [d] => { results := [.lit (.bool false)], args := [d] }
  | _ => none }
def RoundPowersWrongFalsely : Prop := roundPowersRow.holds Tryd.pinned (OpenSpec.ofChange roundPowersWrong)

/-- 'pinfoldlaw02.RoundSteps': WHATEVER THE INPUT: true; the input reads as it did. -/
def roundStepsSpec : ChangeSpec := { name := "roundSteps", fn := fun _ => fun
  | [d1, d2, d3] => { results := [.lit (.bool true)], args := [d1, d2, d3] }
  | _ => none }
def roundStepsRow : OpenClaim := { program := "ytmifkbjdamhoiaadoor", sum := "1098c02814386a99fa4aaf9308cef60d1a95647940a1084234fd5e05807fb0ce", func := "pinfold/pinfoldlaw02.RoundSteps", spec := "roundSteps", inPlace := ["math/bits.Add64"], unfollowed := true, recurses := true, named := ["math/bits.deBruijn64tab"], apart := false, laid := [("math/bits.deBruijn64tab", laid_math_bits_deBruijn64tab)] }
def RoundStepsSaid : Prop := roundStepsRow.holds Tryd.pinned (OpenSpec.ofChange roundStepsSpec)

/-- ITS FALSE NEIGHBOUR: 'it returns false'. Refute it at one input. -/
def roundStepsWrong : ChangeSpec := { name := "roundSteps", fn := fun _ => fun
  | [d1, d2, d3] => { results := [.lit (.bool false)], args := [d1, d2, d3] }
  | _ => none }
def RoundStepsWrongFalsely : Prop := roundStepsRow.holds Tryd.pinned (OpenSpec.ofChange roundStepsWrong)

/-- 'pinfoldlaw02.RoundHolds': WHATEVER THE INPUT: true; the input reads as it did. -/
def roundHoldsSpec : ChangeSpec := { name := "roundHolds", fn := fun _ => fun
  | [d1, d2] => { results := [.lit (.bool true)], args := [d1, d2] }
  | _ => none }
def roundHoldsRow : OpenClaim := { program := "ytmifkbjdamhoiaadoor", sum := "1098c02814386a99fa4aaf9308cef60d1a95647940a1084234fd5e05807fb0ce", func := "pinfold/pinfoldlaw02.RoundHolds", spec := "roundHolds", inPlace := ["math/bits.Add64"], unfollowed := true, recurses := true, named := ["math/bits.deBruijn64tab"], apart := false, laid := [("math/bits.deBruijn64tab", laid_math_bits_deBruijn64tab)] }
def RoundHoldsSaid : Prop := roundHoldsRow.holds Tryd.pinned (OpenSpec.ofChange roundHoldsSpec)

/-- ITS FALSE NEIGHBOUR: 'it returns false'. Refute it at one input. -/
def roundHoldsWrong : ChangeSpec := { name := "roundHolds", fn := fun _ => fun
  | [d1, d2] => { results := [.lit (.bool false)], args := [d1, d2] }
  | _ => none }
def RoundHoldsWrongFalsely : Prop := roundHoldsRow.holds Tryd.pinned (OpenSpec.ofChange roundHoldsWrong)

/- THE SECOND FORM. 'bulk': how many values and letters a reading holds, each counted each time it is reached (what is shared counts as often as it is met; a slice's spare places count too). A statement '..UptoSaid' is the law's where the arguments, and the package variables that the reading takes, are together of bulk at most 1048576: NARROWER than '..Said'. Prove '..Said' where nothing that the law and all that it calls make is longer than what came in: it says more and counts as full. Else prove '..UptoSaid'. A law counts once. -/
mutual
def uptoBulk {H : Type} : DataW H → Nat
  | .lit (.string bytes) => bytes.length + 1
  | .lit _ => 1
  | .nil => 1
  | .ptr d => uptoBulk d + 1
  | .slice elems spare => uptoBulkAll elems + uptoBulkAll spare + 1
  | .agg parts => uptoBulkAll parts + 1
  | .iface _ d => uptoBulk d + 1
  | .map entries => uptoBulkEntries entries + 1
  | .held _ => 1
def uptoBulkAll {H : Type} : List (DataW H) → Nat
  | [] => 0
  | d :: r => uptoBulk d + uptoBulkAll r
def uptoBulkEntries {H : Type} : List (Lit × DataW H) → Nat
  | [] => 0
  | x :: r => uptoBulkEntry x + uptoBulkEntries r
def uptoBulkEntry {H : Type} : Lit × DataW H → Nat
  | (.string bytes, d) => bytes.length + uptoBulk d + 1
  | (_, d) => uptoBulk d + 1
 end
def uptoSmall : (H : Type) → List (DataW H) → Bool := fun _ ds => decide (uptoBulkAll ds ≤ 1048576)
def OpenSpec.upto (s : _root_.Go.ChangeSpec) : _root_.Go.OpenSpec := { _root_.Go.OpenSpec.ofChange s with cond := some uptoSmall }

/-- 'pinfoldlaw02.RoundSums', WHERE WHAT IT READS IS OF BULK AT MOST 1048576: true; the input reads as it did. -/
def roundSumsUptoRow : OpenClaim := { program := "ytmifkbjdamhoiaadoor", sum := "1098c02814386a99fa4aaf9308cef60d1a95647940a1084234fd5e05807fb0ce", func := "pinfold/pinfoldlaw02.RoundSums", spec := "roundSums", inPlace := ["math/bits.Add64"], unfollowed := true, recurses := true, named := ["math/bits.deBruijn64tab"], apart := false, laid := [("math/bits.deBruijn64tab", laid_math_bits_deBruijn64tab)], narrowed := true }
def RoundSumsUptoSaid : Prop := roundSumsUptoRow.holds Tryd.pinned (OpenSpec.upto roundSumsSpec)

/-- 'pinfoldlaw02.RoundUps', WHERE WHAT IT READS IS OF BULK AT MOST 1048576: true; the input reads as it did. -/
def roundUpsUptoRow : OpenClaim := { program := "ytmifkbjdamhoiaadoor", sum := "1098c02814386a99fa4aaf9308cef60d1a95647940a1084234fd5e05807fb0ce", func := "pinfold/pinfoldlaw02.RoundUps", spec := "roundUps", inPlace := ["math/bits.Add64"], unfollowed := true, recurses := true, named := ["math/bits.deBruijn64tab"], apart := false, laid := [("math/bits.deBruijn64tab", laid_math_bits_deBruijn64tab)], narrowed := true }
def RoundUpsUptoSaid : Prop := roundUpsUptoRow.holds Tryd.pinned (OpenSpec.upto roundUpsSpec)

/-- 'pinfoldlaw02.RoundPowers', WHERE WHAT IT READS IS OF BULK AT MOST 1048576: true; the input reads as it did. -/
def roundPowersUptoRow : OpenClaim := { program := "ytmifkbjdamhoiaadoor", sum := "1098c02814386a99fa4aaf9308cef60d1a95647940a1084234fd5e05807fb0ce", func := "pinfold/pinfoldlaw02.RoundPowers", spec := "roundPowers", inPlace := ["math/bits.Add64"], unfollowed := true, recurses := true, named := ["math/bits.deBruijn64tab"], apart := false, laid := [("math/bits.deBruijn64tab", laid_math_bits_deBruijn64tab)], narrowed := true }
def RoundPowersUptoSaid : Prop := roundPowersUptoRow.holds Tryd.pinned (OpenSpec.upto roundPowersSpec)

/-- 'pinfoldlaw02.RoundSteps', WHERE WHAT IT READS IS OF BULK AT MOST 1048576: true; the input reads as it did. -/
def roundStepsUptoRow : OpenClaim := { program := "ytmifkbjdamhoiaadoor", sum := "1098c02814386a99fa4aaf9308cef60d1a95647940a1084234fd5e05807fb0ce", func := "pinfold/pinfoldlaw02.RoundSteps", spec := "roundSteps", inPlace := ["math/bits.Add64"], unfollowed := true, recurses := true, named := ["math/bits.deBruijn64tab"], apart := false, laid := [("math/bits.deBruijn64tab", laid_math_bits_deBruijn64tab)], narrowed := true }
def RoundStepsUptoSaid : Prop := roundStepsUptoRow.holds Tryd.pinned (OpenSpec.upto roundStepsSpec)

/-- 'pinfoldlaw02.RoundHolds', WHERE WHAT IT READS IS OF BULK AT MOST 1048576: true; the input reads as it did. -/
def roundHoldsUptoRow : OpenClaim := { program := "ytmifkbjdamhoiaadoor", sum := "1098c02814386a99fa4aaf9308cef60d1a95647940a1084234fd5e05807fb0ce", func := "pinfold/pinfoldlaw02.RoundHolds", spec := "roundHolds", inPlace := ["math/bits.Add64"], unfollowed := true, recurses := true, named := ["math/bits.deBruijn64tab"], apart := false, laid := [("math/bits.deBruijn64tab", laid_math_bits_deBruijn64tab)], narrowed := true }
def RoundHoldsUptoSaid : Prop := roundHoldsUptoRow.holds Tryd.pinned (OpenSpec.upto roundHoldsSpec)

end Rows
end Go.Proofs.YtmifkbjdamhoiaaDoor
