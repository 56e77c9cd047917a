/-
  DERIVED. GIVEN WITH THE SEED: THE CARDS: each row of YtfmbfojlopibnaaDoorRows.lean that lists a variable, with what it lists TIED to the program's text (the seventh form; the later family's looks); each row that meets fmt, with fmt's text TOLD by the authors' own Lean function (tested against real Go, not proved from fmt's source: count such statements apart). THE CARD IS WHAT COUNTS. Prove the row's statement (the work); the ties are given (YtfmbfojlopibnaaDoorTie.lean); close each card by the builder's one call (the guide's Derived/Test/ToyasCard.lean, 'card_holds'). Laid BY PROGRAM, IN A SANDBOX (cutbox-door.mjs). By AI agents, Wed Nov 11 2026. No macro, syntax, notation, axiom, sorry.
-/
import Derived.Test.YtfmbfojlopibnaaDoorRows
import GoSem.ClaimSeven
namespace Go.Proofs.YtfmbfojlopibnaaDoor
namespace Rows

/-- THE TIED CARD OF 'pinfoldlaw06.SealMakes'. -/
def sealMakesCard : Claim7 := { stood := { row := sealMakesRow, standIns := [], harness := (true, "2b3f5e4b9d4e413f29ce6c533622eb7434b3622ffdce83175d829451d8c605a7"), looks := false }, kinds := [], alts := [], laidByText := true, laidKinds := [.data], laidTests := true, laidLooks := .later }
def SealMakesCardSaid : Prop := Claim7.holds Tryd.pinned (.plain (OpenSpec.ofChange sealMakesSpec)) sealMakesCard

/-- THE TIED CARD OF 'pinfoldlaw06.SealOpens'. -/
def sealOpensCard : Claim7 := { stood := { row := sealOpensRow, standIns := [], harness := (true, "2b3f5e4b9d4e413f29ce6c533622eb7434b3622ffdce83175d829451d8c605a7"), looks := false }, kinds := [], alts := [], laidByText := true, laidKinds := [.data], laidTests := true, laidLooks := .later }
def SealOpensCardSaid : Prop := Claim7.holds Tryd.pinned (.plain (OpenSpec.ofChange sealOpensSpec)) sealOpensCard

/-- THE TIED CARD OF 'pinfoldlaw06.SealLooks'. -/
def sealLooksCard : Claim7 := { stood := { row := sealLooksRow, standIns := [], harness := (true, "2b3f5e4b9d4e413f29ce6c533622eb7434b3622ffdce83175d829451d8c605a7"), looks := false }, kinds := [], alts := [], laidByText := true, laidKinds := [.data], laidTests := true, laidLooks := .later }
def SealLooksCardSaid : Prop := Claim7.holds Tryd.pinned (.plain (OpenSpec.ofChange sealLooksSpec)) sealLooksCard

/-- THE TIED CARD OF 'pinfoldlaw06.SealBack'. -/
def sealBackCard : Claim7 := { stood := { row := sealBackRow, standIns := [], harness := (true, "2b3f5e4b9d4e413f29ce6c533622eb7434b3622ffdce83175d829451d8c605a7"), looks := false }, kinds := [], alts := [], laidByText := true, laidKinds := [.data], laidTests := true, laidLooks := .later }
def SealBackCardSaid : Prop := Claim7.holds Tryd.pinned (.plain (OpenSpec.ofChange sealBackSpec)) sealBackCard

/-- THE SECOND FORM's CARD OF 'pinfoldlaw06.SealMakes'. -/
def sealMakesUptoCard : Claim7 := { stood := { row := sealMakesUptoRow, standIns := [], harness := (true, "2b3f5e4b9d4e413f29ce6c533622eb7434b3622ffdce83175d829451d8c605a7"), looks := false }, kinds := [], alts := [], laidByText := true, laidKinds := [.data], laidTests := true, laidLooks := .later }
def SealMakesUptoCardSaid : Prop := Claim7.holds Tryd.pinned (.plain (OpenSpec.upto sealMakesSpec)) sealMakesUptoCard

/-- THE SECOND FORM's CARD OF 'pinfoldlaw06.SealOpens'. -/
def sealOpensUptoCard : Claim7 := { stood := { row := sealOpensUptoRow, standIns := [], harness := (true, "2b3f5e4b9d4e413f29ce6c533622eb7434b3622ffdce83175d829451d8c605a7"), looks := false }, kinds := [], alts := [], laidByText := true, laidKinds := [.data], laidTests := true, laidLooks := .later }
def SealOpensUptoCardSaid : Prop := Claim7.holds Tryd.pinned (.plain (OpenSpec.upto sealOpensSpec)) sealOpensUptoCard

/-- THE SECOND FORM's CARD OF 'pinfoldlaw06.SealLooks'. -/
def sealLooksUptoCard : Claim7 := { stood := { row := sealLooksUptoRow, standIns := [], harness := (true, "2b3f5e4b9d4e413f29ce6c533622eb7434b3622ffdce83175d829451d8c605a7"), looks := false }, kinds := [], alts := [], laidByText := true, laidKinds := [.data], laidTests := true, laidLooks := .later }
def SealLooksUptoCardSaid : Prop := Claim7.holds Tryd.pinned (.plain (OpenSpec.upto sealLooksSpec)) sealLooksUptoCard

/-- THE SECOND FORM's CARD OF 'pinfoldlaw06.SealBack'. -/
def sealBackUptoCard : Claim7 := { stood := { row := sealBackUptoRow, standIns := [], harness := (true, "2b3f5e4b9d4e413f29ce6c533622eb7434b3622ffdce83175d829451d8c605a7"), looks := false }, kinds := [], alts := [], laidByText := true, laidKinds := [.data], laidTests := true, laidLooks := .later }
def SealBackUptoCardSaid : Prop := Claim7.holds Tryd.pinned (.plain (OpenSpec.upto sealBackSpec)) sealBackUptoCard
end Rows
end Go.Proofs.YtfmbfojlopibnaaDoor
