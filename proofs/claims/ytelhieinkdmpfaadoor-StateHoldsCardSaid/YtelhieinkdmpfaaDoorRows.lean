/-
  NARROWER THAN 'FOR EVERY INPUT', by the rows' own cells (each row's printed sentence says how): StateMays: laid · StatePlays: laid · StateTexts: laid · StateHolds: laid.
  DERIVED. THE GIVEN ROWS OF THIS SEAT. 4 by the template 'for every input the law returns true; each argument reads behind the call as it read before'; 0 by the template 'total and deterministic' (their statements: YtelhieinkdmpfaaDoorTotals.lean).
  GIVEN WITH THE SEED: the statements are not yours to turn. If you find one false, say at which input.
  Laid BY PROGRAM, IN A SANDBOX (cutbox-rows.mjs): the forced cells as the released guide's own fill.sh prints them over the translation 43e598c247770524… (all of the seat's roots in one cut). By AI agents, Wed Nov 11 2026. No macro, syntax, notation, axiom, sorry.
-/
import Derived.Test.YtelhieinkdmpfaaDoorChecked
import GoSem.Claim
import GoSem.ClaimJoined
import GoSem.ClaimMapViews
import Derived.JoinedTies
import Derived.KernelRfl
namespace Go.Proofs.YtelhieinkdmpfaaDoor
/- THE CELL 'sum', in the pinned program and in every row, IS THE sha256 OF THE DUMP (.gsa) THAT YtelhieinkdmpfaaDoorProg.lean LOADS. Nothing in Lean hashes anything: it is a label: what it is worth is what the hold of that sum in a sandbox is worth. -/
noncomputable def Tryd.pinned : Pinned := { name := "ytelhieinkdmpfaadoor", sum := "43e598c247770524681155c18db17cf6588bc5649e5e138f340a92cbef4e1161", checked := Tryd.checked }
namespace Rows
def none {H : Type} : Left H := { results := [], args := [] }

/- WHAT THE LISTED PACKAGE-LEVEL VARIABLES READ AS WHEN THE CALL BEGINS. Each datum BY PROGRAM (the guide's laid-datum.mjs) off the statement by which the dump's own 'gosem.cut.vars' lays the variable. In a bare row this is a premise. The card (YtelhieinkdmpfaaDoorCards.lean) ties it to the program's text. -/
def laid_pinfold_state_becomes {H : Type} : DataW H := .agg [.agg [.lit (.bool false), .lit (.bool true), .lit (.bool false), .lit (.bool false), .lit (.bool false)], .agg [.lit (.bool true), .lit (.bool false), .lit (.bool true), .lit (.bool false), .lit (.bool false)], .agg [.lit (.bool false), .lit (.bool false), .lit (.bool false), .lit (.bool true), .lit (.bool true)], .agg [.lit (.bool true), .lit (.bool false), .lit (.bool false), .lit (.bool false), .lit (.bool true)], .agg [.lit (.bool false), .lit (.bool false), .lit (.bool false), .lit (.bool false), .lit (.bool false)]]
def laid_pinfold_state_names {H : Type} : DataW H := .agg [.lit (.string [102, 114, 101, 101]), .lit (.string [107, 101, 112, 116]), .lit (.string [108, 105, 118, 101]), .lit (.string [104, 101, 108, 100]), .lit (.string [103, 111, 110, 101])]

/-- 'pinfoldlaw14.StateMays': WHATEVER THE INPUT: true; the input reads as it did. -/
def stateMaysSpec : ChangeSpec := { name := "stateMays", fn := fun _ => fun
  | [d1, d2] => { results := [.lit (.bool true)], args := [d1, d2] }
  | _ => none }
def stateMaysRow : OpenClaim := { program := "ytelhieinkdmpfaadoor", sum := "43e598c247770524681155c18db17cf6588bc5649e5e138f340a92cbef4e1161", func := "pinfold/pinfoldlaw14.StateMays", spec := "stateMays", inPlace := ["internal/bytealg.IndexByteString"], unfollowed := true, recurses := true, named := ["pinfold/state.becomes", "pinfold/state.names"], apart := false, laid := [("pinfold/state.becomes", laid_pinfold_state_becomes), ("pinfold/state.names", laid_pinfold_state_names)] }
def StateMaysSaid : Prop := stateMaysRow.holds Tryd.pinned (OpenSpec.ofChange stateMaysSpec)

/-- ITS FALSE NEIGHBOUR: 'it returns false'. Refute it at one input. -/
def stateMaysWrong : ChangeSpec := { name := "stateMays", fn := fun _ => fun
  | [d1, d2] => { results := [.lit (.bool false)], args := [d1, d2] }
  | _ => none }
def StateMaysWrongFalsely : Prop := stateMaysRow.holds Tryd.pinned (OpenSpec.ofChange stateMaysWrong)

/-- 'pinfoldlaw14.StatePlays': WHATEVER THE INPUT: true; the input reads as it did. -/
def statePlaysSpec : ChangeSpec := { name := "statePlays", fn := fun _ => fun
  | [d1, d2] => { results := [.lit (.bool true)], args := [d1, d2] }
  | _ => none }
def statePlaysRow : OpenClaim := { program := "ytelhieinkdmpfaadoor", sum := "43e598c247770524681155c18db17cf6588bc5649e5e138f340a92cbef4e1161", func := "pinfold/pinfoldlaw14.StatePlays", spec := "statePlays", inPlace := ["internal/bytealg.IndexByteString"], unfollowed := true, recurses := true, named := ["pinfold/state.becomes", "pinfold/state.names"], apart := false, laid := [("pinfold/state.becomes", laid_pinfold_state_becomes), ("pinfold/state.names", laid_pinfold_state_names)] }
def StatePlaysSaid : Prop := statePlaysRow.holds Tryd.pinned (OpenSpec.ofChange statePlaysSpec)

/-- ITS FALSE NEIGHBOUR: 'it returns false'. Refute it at one input. -/
def statePlaysWrong : ChangeSpec := { name := "statePlays", fn := fun _ => fun
  | [d1, d2] => { results := [.lit (.bool false)], args := [d1, d2] }
  | _ => none }
def StatePlaysWrongFalsely : Prop := statePlaysRow.holds Tryd.pinned (OpenSpec.ofChange statePlaysWrong)

/-- 'pinfoldlaw14.StateTexts': WHATEVER THE INPUT: true; the input reads as it did. -/
def stateTextsSpec : ChangeSpec := { name := "stateTexts", fn := fun _ => fun
  | [d1, d2] => { results := [.lit (.bool true)], args := [d1, d2] }
  | _ => none }
def stateTextsRow : OpenClaim := { program := "ytelhieinkdmpfaadoor", sum := "43e598c247770524681155c18db17cf6588bc5649e5e138f340a92cbef4e1161", func := "pinfold/pinfoldlaw14.StateTexts", spec := "stateTexts", inPlace := ["internal/bytealg.IndexByteString"], unfollowed := true, recurses := true, named := ["pinfold/state.becomes", "pinfold/state.names"], apart := false, laid := [("pinfold/state.becomes", laid_pinfold_state_becomes), ("pinfold/state.names", laid_pinfold_state_names)] }
def StateTextsSaid : Prop := stateTextsRow.holds Tryd.pinned (OpenSpec.ofChange stateTextsSpec)

/-- ITS FALSE NEIGHBOUR: 'it returns false'. Refute it at one input. -/
def stateTextsWrong : ChangeSpec := { name := "stateTexts", fn := fun _ => fun
  | [d1, d2] => { results := [.lit (.bool false)], args := [d1, d2] }
  | _ => none }
def StateTextsWrongFalsely : Prop := stateTextsRow.holds Tryd.pinned (OpenSpec.ofChange stateTextsWrong)

/-- 'pinfoldlaw14.StateHolds': WHATEVER THE INPUT: true; the input reads as it did. -/
def stateHoldsSpec : ChangeSpec := { name := "stateHolds", fn := fun _ => fun
  | [d] => { results := [.lit (.bool true)], args := [d] }
  | _ => none }
def stateHoldsRow : OpenClaim := { program := "ytelhieinkdmpfaadoor", sum := "43e598c247770524681155c18db17cf6588bc5649e5e138f340a92cbef4e1161", func := "pinfold/pinfoldlaw14.StateHolds", spec := "stateHolds", inPlace := ["internal/bytealg.IndexByteString"], unfollowed := true, recurses := true, named := ["pinfold/state.becomes", "pinfold/state.names"], apart := false, laid := [("pinfold/state.becomes", laid_pinfold_state_becomes), ("pinfold/state.names", laid_pinfold_state_names)] }
def StateHoldsSaid : Prop := stateHoldsRow.holds Tryd.pinned (OpenSpec.ofChange stateHoldsSpec)

/-- ITS FALSE NEIGHBOUR: 'it returns false'. Refute it at one input. -/
def stateHoldsWrong : ChangeSpec := { name := "stateHolds", fn := fun _ => fun
  | [d] => { results := [.lit (.bool false)], args := [d] }
  | _ => none }
def StateHoldsWrongFalsely : Prop := stateHoldsRow.holds Tryd.pinned (OpenSpec.ofChange stateHoldsWrong)

/- THE SECOND FORM. 'bulk': how many values and letters a reading holds, each counted each time it is reached (what is shared counts as often as it is met; a slice's spare places count too). A statement '..UptoSaid' is the law's where the arguments, and the package variables that the reading takes, are together of bulk at most 1048576: NARROWER than '..Said'. Prove '..Said' where nothing that the law and all that it calls make is longer than what came in: it says more and counts as full. Else prove '..UptoSaid'. A law counts once. -/
mutual
def uptoBulk {H : Type} : DataW H → Nat
  | .lit (.string bytes) => bytes.length + 1
  | .lit _ => 1
  | .nil => 1
  | .ptr d => uptoBulk d + 1
  | .slice elems spare => uptoBulkAll elems + uptoBulkAll spare + 1
  | .agg parts => uptoBulkAll parts + 1
  | .iface _ d => uptoBulk d + 1
  | .map entries => uptoBulkEntries entries + 1
  | .held _ => 1
def uptoBulkAll {H : Type} : List (DataW H) → Nat
  | [] => 0
  | d :: r => uptoBulk d + uptoBulkAll r
def uptoBulkEntries {H : Type} : List (Lit × DataW H) → Nat
  | [] => 0
  | x :: r => uptoBulkEntry x + uptoBulkEntries r
def uptoBulkEntry {H : Type} : Lit × DataW H → Nat
  | (.string bytes, d) => bytes.length + uptoBulk d + 1
  | (_, d) => uptoBulk d + 1
 end
def uptoSmall : (H : Type) → List (DataW H) → Bool := fun _ ds => decide (uptoBulkAll ds ≤ 1048576)
def OpenSpec.upto (s : _root_.Go.ChangeSpec) : _root_.Go.OpenSpec := { _root_.Go.OpenSpec.ofChange s with cond := some uptoSmall }

/-- 'pinfoldlaw14.StateMays', WHERE WHAT IT READS IS OF BULK AT MOST 1048576: true; the input reads as it did. -/
def stateMaysUptoRow : OpenClaim := { program := "ytelhieinkdmpfaadoor", sum := "43e598c247770524681155c18db17cf6588bc5649e5e138f340a92cbef4e1161", func := "pinfold/pinfoldlaw14.StateMays", spec := "stateMays", inPlace := ["internal/bytealg.IndexByteString"], unfollowed := true, recurses := true, named := ["pinfold/state.becomes", "pinfold/state.names"], apart := false, laid := [("pinfold/state.becomes", laid_pinfold_state_becomes), ("pinfold/state.names", laid_pinfold_state_names)], narrowed := true }
def StateMaysUptoSaid : Prop := stateMaysUptoRow.holds Tryd.pinned (OpenSpec.upto stateMaysSpec)

/-- 'pinfoldlaw14.StatePlays', WHERE WHAT IT READS IS OF BULK AT MOST 1048576: true; the input reads as it did. -/
def statePlaysUptoRow : OpenClaim := { program := "ytelhieinkdmpfaadoor", sum := "43e598c247770524681155c18db17cf6588bc5649e5e138f340a92cbef4e1161", func := "pinfold/pinfoldlaw14.StatePlays", spec := "statePlays", inPlace := ["internal/bytealg.IndexByteString"], unfollowed := true, recurses := true, named := ["pinfold/state.becomes", "pinfold/state.names"], apart := false, laid := [("pinfold/state.becomes", laid_pinfold_state_becomes), ("pinfold/state.names", laid_pinfold_state_names)], narrowed := true }
def StatePlaysUptoSaid : Prop := statePlaysUptoRow.holds Tryd.pinned (OpenSpec.upto statePlaysSpec)

/-- 'pinfoldlaw14.StateTexts', WHERE WHAT IT READS IS OF BULK AT MOST 1048576: true; the input reads as it did. -/
def stateTextsUptoRow : OpenClaim := { program := "ytelhieinkdmpfaadoor", sum := "43e598c247770524681155c18db17cf6588bc5649e5e138f340a92cbef4e1161", func := "pinfold/pinfoldlaw14.StateTexts", spec := "stateTexts", inPlace := ["internal/bytealg.IndexByteString"], unfollowed := true, recurses := true, named := ["pinfold/state.becomes", "pinfold/state.names"], apart := false, laid := [("pinfold/state.becomes", laid_pinfold_state_becomes), ("pinfold/state.names", laid_pinfold_state_names)], narrowed := true }
def StateTextsUptoSaid : Prop := stateTextsUptoRow.holds Tryd.pinned (OpenSpec.upto stateTextsSpec)

/-- 'pinfoldlaw14.StateHolds', WHERE WHAT IT READS IS OF BULK AT MOST 1048576: true; the input reads as it did. -/
def stateHoldsUptoRow : OpenClaim := { program := "ytelhieinkdmpfaadoor", sum := "43e598c247770524681155c18db17cf6588bc5649e5e138f340a92cbef4e1161", func := "pinfold/pinfoldlaw14.StateHolds", spec := "stateHolds", inPlace := ["internal/bytealg.IndexByteString"], unfollowed := true, recurses := true, named := ["pinfold/state.becomes", "pinfold/state.names"], apart := false, laid := [("pinfold/state.becomes", laid_pinfold_state_becomes), ("pinfold/state.names", laid_pinfold_state_names)], narrowed := true }
def StateHoldsUptoSaid : Prop := stateHoldsUptoRow.holds Tryd.pinned (OpenSpec.upto stateHoldsSpec)

end Rows
end Go.Proofs.YtelhieinkdmpfaaDoor
