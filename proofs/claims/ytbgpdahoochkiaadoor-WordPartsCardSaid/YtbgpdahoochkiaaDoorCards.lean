/-
  DERIVED. GIVEN WITH THE SEED: THE CARDS: each row of YtbgpdahoochkiaaDoorRows.lean that lists a variable, with what it lists TIED to the program's text (the seventh form; the later family's looks); each row that meets fmt, with fmt's text TOLD by the authors' own Lean function (tested against real Go, not proved from fmt's source: count such statements apart). THE CARD IS WHAT COUNTS. Prove the row's statement (the work); the ties are given (YtbgpdahoochkiaaDoorTie.lean); close each card by the builder's one call (the guide's Derived/Test/ToyasCard.lean, 'card_holds'). Laid BY PROGRAM, IN A SANDBOX (cutbox-door.mjs). By AI agents, Wed Nov 11 2026. No macro, syntax, notation, axiom, sorry.
-/
import Derived.Test.YtbgpdahoochkiaaDoorRows
import GoSem.ClaimSeven
namespace Go.Proofs.YtbgpdahoochkiaaDoor
namespace Rows

/-- THE TIED CARD OF 'pinfoldlaw01.WordPuts'. -/
def wordPutsCard : Claim7 := { stood := { row := wordPutsRow, standIns := [], harness := (true, "de07f52066ff1b937a455b8715b82c216b1243432aa489ad1f813ab25910d0d9"), looks := false }, kinds := [], alts := [], laidByText := true, laidKinds := [.data], laidTests := true, laidLooks := .later }
def WordPutsCardSaid : Prop := Claim7.holds Tryd.pinned (.plain (OpenSpec.ofChange wordPutsSpec)) wordPutsCard

/-- THE TIED CARD OF 'pinfoldlaw01.WordGets'. -/
def wordGetsCard : Claim7 := { stood := { row := wordGetsRow, standIns := [], harness := (true, "de07f52066ff1b937a455b8715b82c216b1243432aa489ad1f813ab25910d0d9"), looks := false }, kinds := [], alts := [], laidByText := true, laidKinds := [.data], laidTests := true, laidLooks := .later }
def WordGetsCardSaid : Prop := Claim7.holds Tryd.pinned (.plain (OpenSpec.ofChange wordGetsSpec)) wordGetsCard

/-- THE TIED CARD OF 'pinfoldlaw01.WordZeros'. -/
def wordZerosCard : Claim7 := { stood := { row := wordZerosRow, standIns := [], harness := (true, "de07f52066ff1b937a455b8715b82c216b1243432aa489ad1f813ab25910d0d9"), looks := false }, kinds := [], alts := [], laidByText := true, laidKinds := [.data], laidTests := true, laidLooks := .later }
def WordZerosCardSaid : Prop := Claim7.holds Tryd.pinned (.plain (OpenSpec.ofChange wordZerosSpec)) wordZerosCard

/-- THE TIED CARD OF 'pinfoldlaw01.WordDiffers'. -/
def wordDiffersCard : Claim7 := { stood := { row := wordDiffersRow, standIns := [], harness := (true, "de07f52066ff1b937a455b8715b82c216b1243432aa489ad1f813ab25910d0d9"), looks := false }, kinds := [], alts := [], laidByText := true, laidKinds := [.data], laidTests := true, laidLooks := .later }
def WordDiffersCardSaid : Prop := Claim7.holds Tryd.pinned (.plain (OpenSpec.ofChange wordDiffersSpec)) wordDiffersCard

/-- THE TIED CARD OF 'pinfoldlaw01.WordParts'. -/
def wordPartsCard : Claim7 := { stood := { row := wordPartsRow, standIns := [], harness := (true, "de07f52066ff1b937a455b8715b82c216b1243432aa489ad1f813ab25910d0d9"), looks := false }, kinds := [], alts := [], laidByText := true, laidKinds := [.data], laidTests := true, laidLooks := .later }
def WordPartsCardSaid : Prop := Claim7.holds Tryd.pinned (.plain (OpenSpec.ofChange wordPartsSpec)) wordPartsCard

/-- THE TIED CARD OF 'pinfoldlaw01.WordJoins'. -/
def wordJoinsCard : Claim7 := { stood := { row := wordJoinsRow, standIns := [], harness := (true, "de07f52066ff1b937a455b8715b82c216b1243432aa489ad1f813ab25910d0d9"), looks := false }, kinds := [], alts := [], laidByText := true, laidKinds := [.data], laidTests := true, laidLooks := .later }
def WordJoinsCardSaid : Prop := Claim7.holds Tryd.pinned (.plain (OpenSpec.ofChange wordJoinsSpec)) wordJoinsCard

/-- THE SECOND FORM's CARD OF 'pinfoldlaw01.WordPuts'. -/
def wordPutsUptoCard : Claim7 := { stood := { row := wordPutsUptoRow, standIns := [], harness := (true, "de07f52066ff1b937a455b8715b82c216b1243432aa489ad1f813ab25910d0d9"), looks := false }, kinds := [], alts := [], laidByText := true, laidKinds := [.data], laidTests := true, laidLooks := .later }
def WordPutsUptoCardSaid : Prop := Claim7.holds Tryd.pinned (.plain (OpenSpec.upto wordPutsSpec)) wordPutsUptoCard

/-- THE SECOND FORM's CARD OF 'pinfoldlaw01.WordGets'. -/
def wordGetsUptoCard : Claim7 := { stood := { row := wordGetsUptoRow, standIns := [], harness := (true, "de07f52066ff1b937a455b8715b82c216b1243432aa489ad1f813ab25910d0d9"), looks := false }, kinds := [], alts := [], laidByText := true, laidKinds := [.data], laidTests := true, laidLooks := .later }
def WordGetsUptoCardSaid : Prop := Claim7.holds Tryd.pinned (.plain (OpenSpec.upto wordGetsSpec)) wordGetsUptoCard

/-- THE SECOND FORM's CARD OF 'pinfoldlaw01.WordZeros'. -/
def wordZerosUptoCard : Claim7 := { stood := { row := wordZerosUptoRow, standIns := [], harness := (true, "de07f52066ff1b937a455b8715b82c216b1243432aa489ad1f813ab25910d0d9"), looks := false }, kinds := [], alts := [], laidByText := true, laidKinds := [.data], laidTests := true, laidLooks := .later }
def WordZerosUptoCardSaid : Prop := Claim7.holds Tryd.pinned (.plain (OpenSpec.upto wordZerosSpec)) wordZerosUptoCard

/-- THE SECOND FORM's CARD OF 'pinfoldlaw01.WordDiffers'. -/
def wordDiffersUptoCard : Claim7 := { stood := { row := wordDiffersUptoRow, standIns := [], harness := (true, "de07f52066ff1b937a455b8715b82c216b1243432aa489ad1f813ab25910d0d9"), looks := false }, kinds := [], alts := [], laidByText := true, laidKinds := [.data], laidTests := true, laidLooks := .later }
def WordDiffersUptoCardSaid : Prop := Claim7.holds Tryd.pinned (.plain (OpenSpec.upto wordDiffersSpec)) wordDiffersUptoCard

/-- THE SECOND FORM's CARD OF 'pinfoldlaw01.WordParts'. -/
def wordPartsUptoCard : Claim7 := { stood := { row := wordPartsUptoRow, standIns := [], harness := (true, "de07f52066ff1b937a455b8715b82c216b1243432aa489ad1f813ab25910d0d9"), looks := false }, kinds := [], alts := [], laidByText := true, laidKinds := [.data], laidTests := true, laidLooks := .later }
def WordPartsUptoCardSaid : Prop := Claim7.holds Tryd.pinned (.plain (OpenSpec.upto wordPartsSpec)) wordPartsUptoCard

/-- THE SECOND FORM's CARD OF 'pinfoldlaw01.WordJoins'. -/
def wordJoinsUptoCard : Claim7 := { stood := { row := wordJoinsUptoRow, standIns := [], harness := (true, "de07f52066ff1b937a455b8715b82c216b1243432aa489ad1f813ab25910d0d9"), looks := false }, kinds := [], alts := [], laidByText := true, laidKinds := [.data], laidTests := true, laidLooks := .later }
def WordJoinsUptoCardSaid : Prop := Claim7.holds Tryd.pinned (.plain (OpenSpec.upto wordJoinsSpec)) wordJoinsUptoCard
end Rows
end Go.Proofs.YtbgpdahoochkiaaDoor
