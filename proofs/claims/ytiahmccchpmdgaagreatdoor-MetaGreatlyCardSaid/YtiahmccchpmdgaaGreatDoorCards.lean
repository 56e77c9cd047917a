/-
  DERIVED. GIVEN WITH THE SEED: THE CARDS: each row of YtiahmccchpmdgaaGreatDoorRows.lean that lists a variable, with what it lists TIED to the program's text (the seventh form; the later family's looks); each row that meets fmt, with fmt's text TOLD by the authors' own Lean function (tested against real Go, not proved from fmt's source: count such statements apart). THE CARD IS WHAT COUNTS. Prove the row's statement (the work); the ties are given (YtiahmccchpmdgaaGreatDoorTie.lean); close each card by the builder's one call (the guide's Derived/Test/ToyasCard.lean, 'card_holds'). Laid BY PROGRAM, IN A SANDBOX (cutbox-door.mjs). By AI agents, Wed Nov 11 2026. No macro, syntax, notation, axiom, sorry.
-/
import Derived.Test.YtiahmccchpmdgaaGreatDoorRows
import GoSem.ClaimSeven
namespace Go.Proofs.YtiahmccchpmdgaaGreatDoor
namespace Rows

/-- THE TIED CARD OF 'pinfoldlaw15.MetaPlays'. -/
def metaPlaysCard : Claim7 := { stood := { row := metaPlaysRow, standIns := [], harness := (true, "4e332bc89b5393ccae2789bb382ca3d08487dfeeef48e39e20db56a4e6ecd083"), looks := false }, kinds := [], alts := [], laidByText := true, laidKinds := [.data, .data], laidTests := true, laidLooks := .later }
def MetaPlaysCardSaid : Prop := Claim7.holds Tryz.pinned (.plain (OpenSpec.ofChange metaPlaysSpec)) metaPlaysCard

/-- THE TIED CARD OF 'pinfoldlaw15.MetaFinds'. -/
def metaFindsCard : Claim7 := { stood := { row := metaFindsRow, standIns := [], harness := (true, "4e332bc89b5393ccae2789bb382ca3d08487dfeeef48e39e20db56a4e6ecd083"), looks := false }, kinds := [], alts := [], laidByText := true, laidKinds := [.data, .data], laidTests := true, laidLooks := .later }
def MetaFindsCardSaid : Prop := Claim7.holds Tryz.pinned (.plain (OpenSpec.ofChange metaFindsSpec)) metaFindsCard

/-- THE TIED CARD OF 'pinfoldlaw15.MetaSpoils'. -/
def metaSpoilsCard : Claim7 := { stood := { row := metaSpoilsRow, standIns := [], harness := (true, "4e332bc89b5393ccae2789bb382ca3d08487dfeeef48e39e20db56a4e6ecd083"), looks := false }, kinds := [], alts := [], laidByText := true, laidKinds := [.data, .data], laidTests := true, laidLooks := .later }
def MetaSpoilsCardSaid : Prop := Claim7.holds Tryz.pinned (.plain (OpenSpec.ofChange metaSpoilsSpec)) metaSpoilsCard

/-- THE TIED CARD OF 'pinfoldlaw15.MetaGreatly'. -/
def metaGreatlyCard : Claim7 := { stood := { row := metaGreatlyRow, standIns := [], harness := (true, "4e332bc89b5393ccae2789bb382ca3d08487dfeeef48e39e20db56a4e6ecd083"), looks := false }, kinds := [], alts := [], laidByText := true, laidKinds := [.data, .data], laidTests := true, laidLooks := .later }
def MetaGreatlyCardSaid : Prop := Claim7.holds Tryz.pinned (.plain (OpenSpec.ofChange metaGreatlySpec)) metaGreatlyCard

/-- THE TIED CARD OF 'pinfoldlaw15.MetaHolds'. -/
def metaHoldsCard : Claim7 := { stood := { row := metaHoldsRow, standIns := [], harness := (true, "4e332bc89b5393ccae2789bb382ca3d08487dfeeef48e39e20db56a4e6ecd083"), looks := false }, kinds := [], alts := [], laidByText := true, laidKinds := [.data, .data], laidTests := true, laidLooks := .later }
def MetaHoldsCardSaid : Prop := Claim7.holds Tryz.pinned (.plain (OpenSpec.ofChange metaHoldsSpec)) metaHoldsCard

/-- THE SECOND FORM's CARD OF 'pinfoldlaw15.MetaPlays'. -/
def metaPlaysUptoCard : Claim7 := { stood := { row := metaPlaysUptoRow, standIns := [], harness := (true, "4e332bc89b5393ccae2789bb382ca3d08487dfeeef48e39e20db56a4e6ecd083"), looks := false }, kinds := [], alts := [], laidByText := true, laidKinds := [.data, .data], laidTests := true, laidLooks := .later }
def MetaPlaysUptoCardSaid : Prop := Claim7.holds Tryz.pinned (.plain (OpenSpec.upto metaPlaysSpec)) metaPlaysUptoCard

/-- THE SECOND FORM's CARD OF 'pinfoldlaw15.MetaFinds'. -/
def metaFindsUptoCard : Claim7 := { stood := { row := metaFindsUptoRow, standIns := [], harness := (true, "4e332bc89b5393ccae2789bb382ca3d08487dfeeef48e39e20db56a4e6ecd083"), looks := false }, kinds := [], alts := [], laidByText := true, laidKinds := [.data, .data], laidTests := true, laidLooks := .later }
def MetaFindsUptoCardSaid : Prop := Claim7.holds Tryz.pinned (.plain (OpenSpec.upto metaFindsSpec)) metaFindsUptoCard

/-- THE SECOND FORM's CARD OF 'pinfoldlaw15.MetaSpoils'. -/
def metaSpoilsUptoCard : Claim7 := { stood := { row := metaSpoilsUptoRow, standIns := [], harness := (true, "4e332bc89b5393ccae2789bb382ca3d08487dfeeef48e39e20db56a4e6ecd083"), looks := false }, kinds := [], alts := [], laidByText := true, laidKinds := [.data, .data], laidTests := true, laidLooks := .later }
def MetaSpoilsUptoCardSaid : Prop := Claim7.holds Tryz.pinned (.plain (OpenSpec.upto metaSpoilsSpec)) metaSpoilsUptoCard

/-- THE SECOND FORM's CARD OF 'pinfoldlaw15.MetaGreatly'. -/
def metaGreatlyUptoCard : Claim7 := { stood := { row := metaGreatlyUptoRow, standIns := [], harness := (true, "4e332bc89b5393ccae2789bb382ca3d08487dfeeef48e39e20db56a4e6ecd083"), looks := false }, kinds := [], alts := [], laidByText := true, laidKinds := [.data, .data], laidTests := true, laidLooks := .later }
def MetaGreatlyUptoCardSaid : Prop := Claim7.holds Tryz.pinned (.plain (OpenSpec.upto metaGreatlySpec)) metaGreatlyUptoCard

/-- THE SECOND FORM's CARD OF 'pinfoldlaw15.MetaHolds'. -/
def metaHoldsUptoCard : Claim7 := { stood := { row := metaHoldsUptoRow, standIns := [], harness := (true, "4e332bc89b5393ccae2789bb382ca3d08487dfeeef48e39e20db56a4e6ecd083"), looks := false }, kinds := [], alts := [], laidByText := true, laidKinds := [.data, .data], laidTests := true, laidLooks := .later }
def MetaHoldsUptoCardSaid : Prop := Claim7.holds Tryz.pinned (.plain (OpenSpec.upto metaHoldsSpec)) metaHoldsUptoCard
end Rows
end Go.Proofs.YtiahmccchpmdgaaGreatDoor
