/-
  DERIVED. GIVEN WITH THE SEED: THE CARDS: each row of YtmifkbjdamhoiaaDoorRows.lean that lists a variable, with what it lists TIED to the program's text (the seventh form; the later family's looks); each row that meets fmt, with fmt's text TOLD by the authors' own Lean function (tested against real Go, not proved from fmt's source: count such statements apart). THE CARD IS WHAT COUNTS. Prove the row's statement (the work); the ties are given (YtmifkbjdamhoiaaDoorTie.lean); close each card by the builder's one call (the guide's Derived/Test/ToyasCard.lean, 'card_holds'). Laid BY PROGRAM, IN A SANDBOX (cutbox-door.mjs). By AI agents, Wed Nov 11 2026. No macro, syntax, notation, axiom, sorry.
-/
import Derived.Test.YtmifkbjdamhoiaaDoorRows
import GoSem.ClaimSeven
namespace Go.Proofs.YtmifkbjdamhoiaaDoor
namespace Rows

/-- THE TIED CARD OF 'pinfoldlaw02.RoundSums'. -/
def roundSumsCard : Claim7 := { stood := { row := roundSumsRow, standIns := [], harness := (true, "84d920676c38efdf35b0ad97bfbe871e91d64f9faf019bf18d2308067062edad"), looks := false }, kinds := [], alts := [], laidByText := true, laidKinds := [.data], laidTests := true, laidLooks := .later }
def RoundSumsCardSaid : Prop := Claim7.holds Tryd.pinned (.plain (OpenSpec.ofChange roundSumsSpec)) roundSumsCard

/-- THE TIED CARD OF 'pinfoldlaw02.RoundUps'. -/
def roundUpsCard : Claim7 := { stood := { row := roundUpsRow, standIns := [], harness := (true, "84d920676c38efdf35b0ad97bfbe871e91d64f9faf019bf18d2308067062edad"), looks := false }, kinds := [], alts := [], laidByText := true, laidKinds := [.data], laidTests := true, laidLooks := .later }
def RoundUpsCardSaid : Prop := Claim7.holds Tryd.pinned (.plain (OpenSpec.ofChange roundUpsSpec)) roundUpsCard

/-- THE TIED CARD OF 'pinfoldlaw02.RoundPowers'. -/
def roundPowersCard : Claim7 := { stood := { row := roundPowersRow, standIns := [], harness := (true, "84d920676c38efdf35b0ad97bfbe871e91d64f9faf019bf18d2308067062edad"), looks := false }, kinds := [], alts := [], laidByText := true, laidKinds := [.data], laidTests := true, laidLooks := .later }
def RoundPowersCardSaid : Prop := Claim7.holds Tryd.pinned (.plain (OpenSpec.ofChange roundPowersSpec)) roundPowersCard

/-- THE TIED CARD OF 'pinfoldlaw02.RoundSteps'. -/
def roundStepsCard : Claim7 := { stood := { row := roundStepsRow, standIns := [], harness := (true, "84d920676c38efdf35b0ad97bfbe871e91d64f9faf019bf18d2308067062edad"), looks := false }, kinds := [], alts := [], laidByText := true, laidKinds := [.data], laidTests := true, laidLooks := .later }
def RoundStepsCardSaid : Prop := Claim7.holds Tryd.pinned (.plain (OpenSpec.ofChange roundStepsSpec)) roundStepsCard

/-- THE TIED CARD OF 'pinfoldlaw02.RoundHolds'. -/
def roundHoldsCard : Claim7 := { stood := { row := roundHoldsRow, standIns := [], harness := (true, "84d920676c38efdf35b0ad97bfbe871e91d64f9faf019bf18d2308067062edad"), looks := false }, kinds := [], alts := [], laidByText := true, laidKinds := [.data], laidTests := true, laidLooks := .later }
def RoundHoldsCardSaid : Prop := Claim7.holds Tryd.pinned (.plain (OpenSpec.ofChange roundHoldsSpec)) roundHoldsCard

/-- THE SECOND FORM's CARD OF 'pinfoldlaw02.RoundSums'. -/
def roundSumsUptoCard : Claim7 := { stood := { row := roundSumsUptoRow, standIns := [], harness := (true, "84d920676c38efdf35b0ad97bfbe871e91d64f9faf019bf18d2308067062edad"), looks := false }, kinds := [], alts := [], laidByText := true, laidKinds := [.data], laidTests := true, laidLooks := .later }
def RoundSumsUptoCardSaid : Prop := Claim7.holds Tryd.pinned (.plain (OpenSpec.upto roundSumsSpec)) roundSumsUptoCard

/-- THE SECOND FORM's CARD OF 'pinfoldlaw02.RoundUps'. -/
def roundUpsUptoCard : Claim7 := { stood := { row := roundUpsUptoRow, standIns := [], harness := (true, "84d920676c38efdf35b0ad97bfbe871e91d64f9faf019bf18d2308067062edad"), looks := false }, kinds := [], alts := [], laidByText := true, laidKinds := [.data], laidTests := true, laidLooks := .later }
def RoundUpsUptoCardSaid : Prop := Claim7.holds Tryd.pinned (.plain (OpenSpec.upto roundUpsSpec)) roundUpsUptoCard

/-- THE SECOND FORM's CARD OF 'pinfoldlaw02.RoundPowers'. -/
def roundPowersUptoCard : Claim7 := { stood := { row := roundPowersUptoRow, standIns := [], harness := (true, "84d920676c38efdf35b0ad97bfbe871e91d64f9faf019bf18d2308067062edad"), looks := false }, kinds := [], alts := [], laidByText := true, laidKinds := [.data], laidTests := true, laidLooks := .later }
def RoundPowersUptoCardSaid : Prop := Claim7.holds Tryd.pinned (.plain (OpenSpec.upto roundPowersSpec)) roundPowersUptoCard

/-- THE SECOND FORM's CARD OF 'pinfoldlaw02.RoundSteps'. -/
def roundStepsUptoCard : Claim7 := { stood := { row := roundStepsUptoRow, standIns := [], harness := (true, "84d920676c38efdf35b0ad97bfbe871e91d64f9faf019bf18d2308067062edad"), looks := false }, kinds := [], alts := [], laidByText := true, laidKinds := [.data], laidTests := true, laidLooks := .later }
def RoundStepsUptoCardSaid : Prop := Claim7.holds Tryd.pinned (.plain (OpenSpec.upto roundStepsSpec)) roundStepsUptoCard

/-- THE SECOND FORM's CARD OF 'pinfoldlaw02.RoundHolds'. -/
def roundHoldsUptoCard : Claim7 := { stood := { row := roundHoldsUptoRow, standIns := [], harness := (true, "84d920676c38efdf35b0ad97bfbe871e91d64f9faf019bf18d2308067062edad"), looks := false }, kinds := [], alts := [], laidByText := true, laidKinds := [.data], laidTests := true, laidLooks := .later }
def RoundHoldsUptoCardSaid : Prop := Claim7.holds Tryd.pinned (.plain (OpenSpec.upto roundHoldsSpec)) roundHoldsUptoCard
end Rows
end Go.Proofs.YtmifkbjdamhoiaaDoor
