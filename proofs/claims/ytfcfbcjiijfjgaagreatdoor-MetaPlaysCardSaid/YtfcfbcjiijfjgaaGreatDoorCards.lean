/-
  DERIVED. GIVEN WITH THE SEED: THE CARDS: each row of YtfcfbcjiijfjgaaGreatDoorRows.lean that lists a variable, with what it lists TIED to the program's text (the seventh form; the later family's looks); each row that meets fmt, with fmt's text TOLD by the authors' own Lean function (tested against real Go, not proved from fmt's source: count such statements apart). THE CARD IS WHAT COUNTS. Prove the row's statement (the work); the ties are given (YtfcfbcjiijfjgaaGreatDoorTie.lean); close each card by the builder's one call (the guide's Derived/Test/ToyasCard.lean, 'card_holds'). Laid BY PROGRAM, IN A SANDBOX (cutbox-door.mjs). By AI agents, Wed Nov 11 2026. No macro, syntax, notation, axiom, sorry.
-/
import Derived.Test.YtfcfbcjiijfjgaaGreatDoorRows
import GoSem.ClaimSeven
namespace Go.Proofs.YtfcfbcjiijfjgaaGreatDoor
namespace Rows

/-- THE TIED CARD OF 'pinfoldlaw15.MetaPlays'. -/
def metaPlaysCard : Claim7 := { stood := { row := metaPlaysRow, standIns := [], harness := (true, "ef68b920cf1ac7d0e8222d6a8b98a1f7a1b1e0f74b0a30790154cd804217e405"), looks := false }, kinds := [], alts := [], laidByText := true, laidKinds := [.data, .data], laidTests := true, laidLooks := .later }
def MetaPlaysCardSaid : Prop := Claim7.holds Tryz.pinned (.plain (OpenSpec.ofChange metaPlaysSpec)) metaPlaysCard

/-- THE SECOND FORM's CARD OF 'pinfoldlaw15.MetaPlays'. -/
def metaPlaysUptoCard : Claim7 := { stood := { row := metaPlaysUptoRow, standIns := [], harness := (true, "ef68b920cf1ac7d0e8222d6a8b98a1f7a1b1e0f74b0a30790154cd804217e405"), looks := false }, kinds := [], alts := [], laidByText := true, laidKinds := [.data, .data], laidTests := true, laidLooks := .later }
def MetaPlaysUptoCardSaid : Prop := Claim7.holds Tryz.pinned (.plain (OpenSpec.upto metaPlaysSpec)) metaPlaysUptoCard
end Rows
end Go.Proofs.YtfcfbcjiijfjgaaGreatDoor
