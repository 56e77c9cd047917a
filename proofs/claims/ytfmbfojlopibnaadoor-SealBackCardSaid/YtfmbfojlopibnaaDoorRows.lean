/-
  NARROWER THAN 'FOR EVERY INPUT', by the rows' own cells (each row's printed sentence says how): SealMakes: laid · SealOpens: laid · SealLooks: laid · SealBack: laid.
  DERIVED. THE GIVEN ROWS OF THIS SEAT. 4 by the template 'for every input the law returns true; each argument reads behind the call as it read before'; 0 by the template 'total and deterministic' (their statements: YtfmbfojlopibnaaDoorTotals.lean).
  GIVEN WITH THE SEED: the statements are not yours to turn. If you find one false, say at which input.
  Laid BY PROGRAM, IN A SANDBOX (cutbox-rows.mjs): the forced cells as the released guide's own fill.sh prints them over the translation fe532479c3f3591b… (all of the seat's roots in one cut). By AI agents, Wed Nov 11 2026. No macro, syntax, notation, axiom, sorry.
-/
import Derived.Test.YtfmbfojlopibnaaDoorChecked
import GoSem.Claim
import GoSem.ClaimJoined
import GoSem.ClaimMapViews
import Derived.JoinedTies
import Derived.KernelRfl
namespace Go.Proofs.YtfmbfojlopibnaaDoor
/- THE CELL 'sum', in the pinned program and in every row, IS THE sha256 OF THE DUMP (.gsa) THAT YtfmbfojlopibnaaDoorProg.lean LOADS. Nothing in Lean hashes anything: it is a label: what it is worth is what the hold of that sum in a sandbox is worth. -/
noncomputable def Tryd.pinned : Pinned := { name := "ytfmbfojlopibnaadoor", sum := "fe532479c3f3591b13d2b2f55ff6728593f76b4d18073a670ab25db2a37a9ef3", checked := Tryd.checked }
namespace Rows
def none {H : Type} : Left H := { results := [], args := [] }

/- WHAT THE LISTED PACKAGE-LEVEL VARIABLES READ AS WHEN THE CALL BEGINS. Each datum BY PROGRAM (the guide's laid-datum.mjs) off the statement by which the dump's own 'gosem.cut.vars' lays the variable. In a bare row this is a premise. The card (YtfmbfojlopibnaaDoorCards.lean) ties it to the program's text. -/
def laid_pinfold_word_widths {H : Type} : DataW H := .agg [.lit (.int .i64 1), .lit (.int .i64 2), .lit (.int .i64 4), .lit (.int .i64 8)]

/-- 'pinfoldlaw06.SealMakes': WHATEVER THE INPUT: true; the input reads as it did. -/
def sealMakesSpec : ChangeSpec := { name := "sealMakes", fn := fun _ => fun
  | [d1, d2] => { results := [.lit (.bool true)], args := [d1, d2] }
  | _ => none }
def sealMakesRow : OpenClaim := { program := "ytfmbfojlopibnaadoor", sum := "fe532479c3f3591b13d2b2f55ff6728593f76b4d18073a670ab25db2a37a9ef3", func := "pinfold/pinfoldlaw06.SealMakes", spec := "sealMakes", unfollowed := true, recurses := true, named := ["pinfold/word.widths"], apart := false, laid := [("pinfold/word.widths", laid_pinfold_word_widths)] }
def SealMakesSaid : Prop := sealMakesRow.holds Tryd.pinned (OpenSpec.ofChange sealMakesSpec)

/-- ITS FALSE NEIGHBOUR: 'it returns false'. Refute it at one input. -/
def sealMakesWrong : ChangeSpec := { name := "sealMakes", fn := fun _ => fun
  | [d1, d2] => { results := [.lit (.bool false)], args := [d1, d2] }
  | _ => none }
def SealMakesWrongFalsely : Prop := sealMakesRow.holds Tryd.pinned (OpenSpec.ofChange sealMakesWrong)

/-- 'pinfoldlaw06.SealOpens': WHATEVER THE INPUT: true; the input reads as it did. -/
def sealOpensSpec : ChangeSpec := { name := "sealOpens", fn := fun _ => fun
  | [d1, d2] => { results := [.lit (.bool true)], args := [d1, d2] }
  | _ => none }
def sealOpensRow : OpenClaim := { program := "ytfmbfojlopibnaadoor", sum := "fe532479c3f3591b13d2b2f55ff6728593f76b4d18073a670ab25db2a37a9ef3", func := "pinfold/pinfoldlaw06.SealOpens", spec := "sealOpens", unfollowed := true, recurses := true, named := ["pinfold/word.widths"], apart := false, laid := [("pinfold/word.widths", laid_pinfold_word_widths)] }
def SealOpensSaid : Prop := sealOpensRow.holds Tryd.pinned (OpenSpec.ofChange sealOpensSpec)

/-- ITS FALSE NEIGHBOUR: 'it returns false'. Refute it at one input. -/
def sealOpensWrong : ChangeSpec := { name := "sealOpens", fn := fun _ => fun
  | [d1, d2] => { results := [.lit (.bool false)], args := [d1, d2] }
  | _ => none }
def SealOpensWrongFalsely : Prop := sealOpensRow.holds Tryd.pinned (OpenSpec.ofChange sealOpensWrong)

/-- 'pinfoldlaw06.SealLooks': WHATEVER THE INPUT: true; the input reads as it did. -/
def sealLooksSpec : ChangeSpec := { name := "sealLooks", fn := fun _ => fun
  | [d1, d2, d3] => { results := [.lit (.bool true)], args := [d1, d2, d3] }
  | _ => none }
def sealLooksRow : OpenClaim := { program := "ytfmbfojlopibnaadoor", sum := "fe532479c3f3591b13d2b2f55ff6728593f76b4d18073a670ab25db2a37a9ef3", func := "pinfold/pinfoldlaw06.SealLooks", spec := "sealLooks", unfollowed := true, recurses := true, named := ["pinfold/word.widths"], apart := false, laid := [("pinfold/word.widths", laid_pinfold_word_widths)] }
def SealLooksSaid : Prop := sealLooksRow.holds Tryd.pinned (OpenSpec.ofChange sealLooksSpec)

/-- ITS FALSE NEIGHBOUR: 'it returns false'. Refute it at one input. -/
def sealLooksWrong : ChangeSpec := { name := "sealLooks", fn := fun _ => fun
  | [d1, d2, d3] => { results := [.lit (.bool false)], args := [d1, d2, d3] }
  | _ => none }
def SealLooksWrongFalsely : Prop := sealLooksRow.holds Tryd.pinned (OpenSpec.ofChange sealLooksWrong)

/-- 'pinfoldlaw06.SealBack': WHATEVER THE INPUT: true; the input reads as it did. -/
def sealBackSpec : ChangeSpec := { name := "sealBack", fn := fun _ => fun
  | [d1, d2, d3] => { results := [.lit (.bool true)], args := [d1, d2, d3] }
  | _ => none }
def sealBackRow : OpenClaim := { program := "ytfmbfojlopibnaadoor", sum := "fe532479c3f3591b13d2b2f55ff6728593f76b4d18073a670ab25db2a37a9ef3", func := "pinfold/pinfoldlaw06.SealBack", spec := "sealBack", unfollowed := true, recurses := true, named := ["pinfold/word.widths"], apart := false, laid := [("pinfold/word.widths", laid_pinfold_word_widths)] }
def SealBackSaid : Prop := sealBackRow.holds Tryd.pinned (OpenSpec.ofChange sealBackSpec)

/-- ITS FALSE NEIGHBOUR: 'it returns false'. Refute it at one input. -/
def sealBackWrong : ChangeSpec := { name := "sealBack", fn := fun _ => fun
  | [d1, d2, d3] => { results := [.lit (.bool false)], args := [d1, d2, d3] }
  | _ => none }
def SealBackWrongFalsely : Prop := sealBackRow.holds Tryd.pinned (OpenSpec.ofChange sealBackWrong)

/- THE SECOND FORM. 'bulk': how many values and letters a reading holds, each counted each time it is reached (what is shared counts as often as it is met; a slice's spare places count too). A statement '..UptoSaid' is the law's where the arguments, and the package variables that the reading takes, are together of bulk at most 1048576: NARROWER than '..Said'. Prove '..Said' where nothing that the law and all that it calls make is longer than what came in: it says more and counts as full. Else prove '..UptoSaid'. A law counts once. -/
mutual
def uptoBulk {H : Type} : DataW H → Nat
  | .lit (.string bytes) => bytes.length + 1
  | .lit _ => 1
  | .nil => 1
  | .ptr d => uptoBulk d + 1
  | .slice elems spare => uptoBulkAll elems + uptoBulkAll spare + 1
  | .agg parts => uptoBulkAll parts + 1
  | .iface _ d => uptoBulk d + 1
  | .map entries => uptoBulkEntries entries + 1
  | .held _ => 1
def uptoBulkAll {H : Type} : List (DataW H) → Nat
  | [] => 0
  | d :: r => uptoBulk d + uptoBulkAll r
def uptoBulkEntries {H : Type} : List (Lit × DataW H) → Nat
  | [] => 0
  | x :: r => uptoBulkEntry x + uptoBulkEntries r
def uptoBulkEntry {H : Type} : Lit × DataW H → Nat
  | (.string bytes, d) => bytes.length + uptoBulk d + 1
  | (_, d) => uptoBulk d + 1
 end
def uptoSmall : (H : Type) → List (DataW H) → Bool := fun _ ds => decide (uptoBulkAll ds ≤ 1048576)
def OpenSpec.upto (s : _root_.Go.ChangeSpec) : _root_.Go.OpenSpec := { _root_.Go.OpenSpec.ofChange s with cond := some uptoSmall }

/-- 'pinfoldlaw06.SealMakes', WHERE WHAT IT READS IS OF BULK AT MOST 1048576: true; the input reads as it did. -/
def sealMakesUptoRow : OpenClaim := { program := "ytfmbfojlopibnaadoor", sum := "fe532479c3f3591b13d2b2f55ff6728593f76b4d18073a670ab25db2a37a9ef3", func := "pinfold/pinfoldlaw06.SealMakes", spec := "sealMakes", unfollowed := true, recurses := true, named := ["pinfold/word.widths"], apart := false, laid := [("pinfold/word.widths", laid_pinfold_word_widths)], narrowed := true }
def SealMakesUptoSaid : Prop := sealMakesUptoRow.holds Tryd.pinned (OpenSpec.upto sealMakesSpec)

/-- 'pinfoldlaw06.SealOpens', WHERE WHAT IT READS IS OF BULK AT MOST 1048576: true; the input reads as it did. -/
def sealOpensUptoRow : OpenClaim := { program := "ytfmbfojlopibnaadoor", sum := "fe532479c3f3591b13d2b2f55ff6728593f76b4d18073a670ab25db2a37a9ef3", func := "pinfold/pinfoldlaw06.SealOpens", spec := "sealOpens", unfollowed := true, recurses := true, named := ["pinfold/word.widths"], apart := false, laid := [("pinfold/word.widths", laid_pinfold_word_widths)], narrowed := true }
def SealOpensUptoSaid : Prop := sealOpensUptoRow.holds Tryd.pinned (OpenSpec.upto sealOpensSpec)

/-- 'pinfoldlaw06.SealLooks', WHERE WHAT IT READS IS OF BULK AT MOST 1048576: true; the input reads as it did. -/
def sealLooksUptoRow : OpenClaim := { program := "ytfmbfojlopibnaadoor", sum := "fe532479c3f3591b13d2b2f55ff6728593f76b4d18073a670ab25db2a37a9ef3", func := "pinfold/pinfoldlaw06.SealLooks", spec := "sealLooks", unfollowed := true, recurses := true, named := ["pinfold/word.widths"], apart := false, laid := [("pinfold/word.widths", laid_pinfold_word_widths)], narrowed := true }
def SealLooksUptoSaid : Prop := sealLooksUptoRow.holds Tryd.pinned (OpenSpec.upto sealLooksSpec)

/-- 'pinfoldlaw06.SealBack', WHERE WHAT IT READS IS OF BULK AT MOST 1048576: true; the input reads as it did. -/
def sealBackUptoRow : OpenClaim := { program := "ytfmbfojlopibnaadoor", sum := "fe532479c3f3591b13d2b2f55ff6728593f76b4d18073a670ab25db2a37a9ef3", func := "pinfold/pinfoldlaw06.SealBack", spec := "sealBack", unfollowed := true, recurses := true, named := ["pinfold/word.widths"], apart := false, laid := [("pinfold/word.widths", laid_pinfold_word_widths)], narrowed := true }
def SealBackUptoSaid : Prop := sealBackUptoRow.holds Tryd.pinned (OpenSpec.upto sealBackSpec)

end Rows
end Go.Proofs.YtfmbfojlopibnaaDoor
