/-
  DERIVED. GIVEN WITH THE SEED: THE CARDS: each row of YtelhieinkdmpfaaDoorRows.lean that lists a variable, with what it lists TIED to the program's text (the seventh form; the later family's looks); each row that meets fmt, with fmt's text TOLD by the authors' own Lean function (tested against real Go, not proved from fmt's source: count such statements apart). THE CARD IS WHAT COUNTS. Prove the row's statement (the work); the ties are given (YtelhieinkdmpfaaDoorTie.lean); close each card by the builder's one call (the guide's Derived/Test/ToyasCard.lean, 'card_holds'). Laid BY PROGRAM, IN A SANDBOX (cutbox-door.mjs). By AI agents, Wed Nov 11 2026. No macro, syntax, notation, axiom, sorry.
-/
import Derived.Test.YtelhieinkdmpfaaDoorRows
import GoSem.ClaimSeven
namespace Go.Proofs.YtelhieinkdmpfaaDoor
namespace Rows

/-- THE TIED CARD OF 'pinfoldlaw14.StateMays'. -/
def stateMaysCard : Claim7 := { stood := { row := stateMaysRow, standIns := [], harness := (true, "d075aae207d46f3eda7bc6338564f63a02b0b412587cbf930a64f2ed599f942d"), looks := false }, kinds := [], alts := [], laidByText := true, laidKinds := [.data, .data], laidTests := true, laidLooks := .later }
def StateMaysCardSaid : Prop := Claim7.holds Tryd.pinned (.plain (OpenSpec.ofChange stateMaysSpec)) stateMaysCard

/-- THE TIED CARD OF 'pinfoldlaw14.StatePlays'. -/
def statePlaysCard : Claim7 := { stood := { row := statePlaysRow, standIns := [], harness := (true, "d075aae207d46f3eda7bc6338564f63a02b0b412587cbf930a64f2ed599f942d"), looks := false }, kinds := [], alts := [], laidByText := true, laidKinds := [.data, .data], laidTests := true, laidLooks := .later }
def StatePlaysCardSaid : Prop := Claim7.holds Tryd.pinned (.plain (OpenSpec.ofChange statePlaysSpec)) statePlaysCard

/-- THE TIED CARD OF 'pinfoldlaw14.StateTexts'. -/
def stateTextsCard : Claim7 := { stood := { row := stateTextsRow, standIns := [], harness := (true, "d075aae207d46f3eda7bc6338564f63a02b0b412587cbf930a64f2ed599f942d"), looks := false }, kinds := [], alts := [], laidByText := true, laidKinds := [.data, .data], laidTests := true, laidLooks := .later }
def StateTextsCardSaid : Prop := Claim7.holds Tryd.pinned (.plain (OpenSpec.ofChange stateTextsSpec)) stateTextsCard

/-- THE TIED CARD OF 'pinfoldlaw14.StateHolds'. -/
def stateHoldsCard : Claim7 := { stood := { row := stateHoldsRow, standIns := [], harness := (true, "d075aae207d46f3eda7bc6338564f63a02b0b412587cbf930a64f2ed599f942d"), looks := false }, kinds := [], alts := [], laidByText := true, laidKinds := [.data, .data], laidTests := true, laidLooks := .later }
def StateHoldsCardSaid : Prop := Claim7.holds Tryd.pinned (.plain (OpenSpec.ofChange stateHoldsSpec)) stateHoldsCard

/-- THE SECOND FORM's CARD OF 'pinfoldlaw14.StateMays'. -/
def stateMaysUptoCard : Claim7 := { stood := { row := stateMaysUptoRow, standIns := [], harness := (true, "d075aae207d46f3eda7bc6338564f63a02b0b412587cbf930a64f2ed599f942d"), looks := false }, kinds := [], alts := [], laidByText := true, laidKinds := [.data, .data], laidTests := true, laidLooks := .later }
def StateMaysUptoCardSaid : Prop := Claim7.holds Tryd.pinned (.plain (OpenSpec.upto stateMaysSpec)) stateMaysUptoCard

/-- THE SECOND FORM's CARD OF 'pinfoldlaw14.StatePlays'. -/
def statePlaysUptoCard : Claim7 := { stood := { row := statePlaysUptoRow, standIns := [], harness := (true, "d075aae207d46f3eda7bc6338564f63a02b0b412587cbf930a64f2ed599f942d"), looks := false }, kinds := [], alts := [], laidByText := true, laidKinds := [.data, .data], laidTests := true, laidLooks := .later }
def StatePlaysUptoCardSaid : Prop := Claim7.holds Tryd.pinned (.plain (OpenSpec.upto statePlaysSpec)) statePlaysUptoCard

/-- THE SECOND FORM's CARD OF 'pinfoldlaw14.StateTexts'. -/
def stateTextsUptoCard : Claim7 := { stood := { row := stateTextsUptoRow, standIns := [], harness := (true, "d075aae207d46f3eda7bc6338564f63a02b0b412587cbf930a64f2ed599f942d"), looks := false }, kinds := [], alts := [], laidByText := true, laidKinds := [.data, .data], laidTests := true, laidLooks := .later }
def StateTextsUptoCardSaid : Prop := Claim7.holds Tryd.pinned (.plain (OpenSpec.upto stateTextsSpec)) stateTextsUptoCard

/-- THE SECOND FORM's CARD OF 'pinfoldlaw14.StateHolds'. -/
def stateHoldsUptoCard : Claim7 := { stood := { row := stateHoldsUptoRow, standIns := [], harness := (true, "d075aae207d46f3eda7bc6338564f63a02b0b412587cbf930a64f2ed599f942d"), looks := false }, kinds := [], alts := [], laidByText := true, laidKinds := [.data, .data], laidTests := true, laidLooks := .later }
def StateHoldsUptoCardSaid : Prop := Claim7.holds Tryd.pinned (.plain (OpenSpec.upto stateHoldsSpec)) stateHoldsUptoCard
end Rows
end Go.Proofs.YtelhieinkdmpfaaDoor
