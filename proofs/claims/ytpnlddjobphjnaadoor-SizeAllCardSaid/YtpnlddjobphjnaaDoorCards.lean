/-
  DERIVED. GIVEN WITH THE SEED: THE CARDS: each row of YtpnlddjobphjnaaDoorRows.lean that lists a variable, with what it lists TIED to the program's text (the seventh form; the later family's looks); each row that meets fmt, with fmt's text TOLD by the authors' own Lean function (tested against real Go, not proved from fmt's source: count such statements apart). THE CARD IS WHAT COUNTS. Prove the row's statement (the work); the ties are given (YtpnlddjobphjnaaDoorTie.lean); close each card by the builder's one call (the guide's Derived/Test/ToyasCard.lean, 'card_holds'). Laid BY PROGRAM, IN A SANDBOX (cutbox-door.mjs). By AI agents, Wed Nov 11 2026. No macro, syntax, notation, axiom, sorry.
-/
import Derived.Test.YtpnlddjobphjnaaDoorRows
import GoSem.ClaimSeven
namespace Go.Proofs.YtpnlddjobphjnaaDoor
namespace Rows

/-- THE TIED CARD OF 'pinfoldlaw03.SizeClasses'. -/
def sizeClassesCard : Claim7 := { stood := { row := sizeClassesRow, standIns := [], harness := (true, "243d67b45505372ecc5b742db353955d06d28cbe507ee51f194ebf5772ac5eb1"), looks := false }, kinds := [], alts := [], laidByText := true, laidKinds := [.data], laidTests := true, laidLooks := .later }
def SizeClassesCardSaid : Prop := Claim7.holds Tryd.pinned (.plain (OpenSpec.ofChange sizeClassesSpec)) sizeClassesCard

/-- THE TIED CARD OF 'pinfoldlaw03.SizeFits'. -/
def sizeFitsCard : Claim7 := { stood := { row := sizeFitsRow, standIns := [], harness := (true, "243d67b45505372ecc5b742db353955d06d28cbe507ee51f194ebf5772ac5eb1"), looks := false }, kinds := [], alts := [], laidByText := true, laidKinds := [.data], laidTests := true, laidLooks := .later }
def SizeFitsCardSaid : Prop := Claim7.holds Tryd.pinned (.plain (OpenSpec.ofChange sizeFitsSpec)) sizeFitsCard

/-- THE TIED CARD OF 'pinfoldlaw03.SizeNeeds'. -/
def sizeNeedsCard : Claim7 := { stood := { row := sizeNeedsRow, standIns := [], harness := (true, "243d67b45505372ecc5b742db353955d06d28cbe507ee51f194ebf5772ac5eb1"), looks := false }, kinds := [], alts := [], laidByText := true, laidKinds := [.data], laidTests := true, laidLooks := .later }
def SizeNeedsCardSaid : Prop := Claim7.holds Tryd.pinned (.plain (OpenSpec.ofChange sizeNeedsSpec)) sizeNeedsCard

/-- THE TIED CARD OF 'pinfoldlaw03.SizeTotals'. -/
def sizeTotalsCard : Claim7 := { stood := { row := sizeTotalsRow, standIns := [], harness := (true, "243d67b45505372ecc5b742db353955d06d28cbe507ee51f194ebf5772ac5eb1"), looks := false }, kinds := [], alts := [], laidByText := true, laidKinds := [.data], laidTests := true, laidLooks := .later }
def SizeTotalsCardSaid : Prop := Claim7.holds Tryd.pinned (.plain (OpenSpec.ofChange sizeTotalsSpec)) sizeTotalsCard

/-- THE TIED CARD OF 'pinfoldlaw03.SizeAll'. -/
def sizeAllCard : Claim7 := { stood := { row := sizeAllRow, standIns := [], harness := (true, "243d67b45505372ecc5b742db353955d06d28cbe507ee51f194ebf5772ac5eb1"), looks := false }, kinds := [], alts := [], laidByText := true, laidKinds := [.data], laidTests := true, laidLooks := .later }
def SizeAllCardSaid : Prop := Claim7.holds Tryd.pinned (.plain (OpenSpec.ofChange sizeAllSpec)) sizeAllCard

/-- THE TIED CARD OF 'pinfoldlaw03.SizeHolds'. -/
def sizeHoldsCard : Claim7 := { stood := { row := sizeHoldsRow, standIns := [], harness := (true, "243d67b45505372ecc5b742db353955d06d28cbe507ee51f194ebf5772ac5eb1"), looks := false }, kinds := [], alts := [], laidByText := true, laidKinds := [.data], laidTests := true, laidLooks := .later }
def SizeHoldsCardSaid : Prop := Claim7.holds Tryd.pinned (.plain (OpenSpec.ofChange sizeHoldsSpec)) sizeHoldsCard

/-- THE SECOND FORM's CARD OF 'pinfoldlaw03.SizeClasses'. -/
def sizeClassesUptoCard : Claim7 := { stood := { row := sizeClassesUptoRow, standIns := [], harness := (true, "243d67b45505372ecc5b742db353955d06d28cbe507ee51f194ebf5772ac5eb1"), looks := false }, kinds := [], alts := [], laidByText := true, laidKinds := [.data], laidTests := true, laidLooks := .later }
def SizeClassesUptoCardSaid : Prop := Claim7.holds Tryd.pinned (.plain (OpenSpec.upto sizeClassesSpec)) sizeClassesUptoCard

/-- THE SECOND FORM's CARD OF 'pinfoldlaw03.SizeFits'. -/
def sizeFitsUptoCard : Claim7 := { stood := { row := sizeFitsUptoRow, standIns := [], harness := (true, "243d67b45505372ecc5b742db353955d06d28cbe507ee51f194ebf5772ac5eb1"), looks := false }, kinds := [], alts := [], laidByText := true, laidKinds := [.data], laidTests := true, laidLooks := .later }
def SizeFitsUptoCardSaid : Prop := Claim7.holds Tryd.pinned (.plain (OpenSpec.upto sizeFitsSpec)) sizeFitsUptoCard

/-- THE SECOND FORM's CARD OF 'pinfoldlaw03.SizeNeeds'. -/
def sizeNeedsUptoCard : Claim7 := { stood := { row := sizeNeedsUptoRow, standIns := [], harness := (true, "243d67b45505372ecc5b742db353955d06d28cbe507ee51f194ebf5772ac5eb1"), looks := false }, kinds := [], alts := [], laidByText := true, laidKinds := [.data], laidTests := true, laidLooks := .later }
def SizeNeedsUptoCardSaid : Prop := Claim7.holds Tryd.pinned (.plain (OpenSpec.upto sizeNeedsSpec)) sizeNeedsUptoCard

/-- THE SECOND FORM's CARD OF 'pinfoldlaw03.SizeTotals'. -/
def sizeTotalsUptoCard : Claim7 := { stood := { row := sizeTotalsUptoRow, standIns := [], harness := (true, "243d67b45505372ecc5b742db353955d06d28cbe507ee51f194ebf5772ac5eb1"), looks := false }, kinds := [], alts := [], laidByText := true, laidKinds := [.data], laidTests := true, laidLooks := .later }
def SizeTotalsUptoCardSaid : Prop := Claim7.holds Tryd.pinned (.plain (OpenSpec.upto sizeTotalsSpec)) sizeTotalsUptoCard

/-- THE SECOND FORM's CARD OF 'pinfoldlaw03.SizeAll'. -/
def sizeAllUptoCard : Claim7 := { stood := { row := sizeAllUptoRow, standIns := [], harness := (true, "243d67b45505372ecc5b742db353955d06d28cbe507ee51f194ebf5772ac5eb1"), looks := false }, kinds := [], alts := [], laidByText := true, laidKinds := [.data], laidTests := true, laidLooks := .later }
def SizeAllUptoCardSaid : Prop := Claim7.holds Tryd.pinned (.plain (OpenSpec.upto sizeAllSpec)) sizeAllUptoCard

/-- THE SECOND FORM's CARD OF 'pinfoldlaw03.SizeHolds'. -/
def sizeHoldsUptoCard : Claim7 := { stood := { row := sizeHoldsUptoRow, standIns := [], harness := (true, "243d67b45505372ecc5b742db353955d06d28cbe507ee51f194ebf5772ac5eb1"), looks := false }, kinds := [], alts := [], laidByText := true, laidKinds := [.data], laidTests := true, laidLooks := .later }
def SizeHoldsUptoCardSaid : Prop := Claim7.holds Tryd.pinned (.plain (OpenSpec.upto sizeHoldsSpec)) sizeHoldsUptoCard
end Rows
end Go.Proofs.YtpnlddjobphjnaaDoor
