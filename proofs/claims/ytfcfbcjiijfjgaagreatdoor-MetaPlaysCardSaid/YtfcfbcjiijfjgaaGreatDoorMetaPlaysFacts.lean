import Derived.Test.YtfcfbcjiijfjgaaGreatDoorPAE
namespace Go.Proofs.YtfcfbcjiijfjgaaGreatDoor.metaPlays
open Go.ChangeShapes Go.WideShapes Go.ChangeAt Go.RowKit
theorem fIn:(Rows.metaPlaysRow.inPlace == Tryz.prog.inPlace 3)=true:=by kernel_rfl
theorem fUn:(Rows.metaPlaysRow.unfollowed == Tryz.prog.unfollowed 3)=true:=by kernel_rfl
theorem fRe:(Rows.metaPlaysRow.recurses == Tryz.prog.recurses 3)=true:=by kernel_rfl
theorem fNa:(Rows.metaPlaysRow.named == Tryz.prog.varsNamed 3)=true:=by kernel_rfl
theorem fWf:Rows.metaPlaysRow.wf (OpenSpec.ofChange (OpenSpec.ofChange Rows.metaPlaysSpec).bare)=true:=by kernel_rfl
theorem fLi:(Rows.metaPlaysRow.lifted == Tryz.prog.liftsFinal)=true:=by kernel_rfl
theorem fMa:(Tryz.prog.make == some Rows.metaPlaysRow.make)=true:=by kernel_rfl
theorem fTi:namedTie Tryz.prog Rows.metaPlaysRow.named (OpenSpec.ofChange Rows.metaPlaysSpec).bare.vars=true:=by kernel_rfl
theorem fPa:Tryz.f3.params.all (Tryz.prog.readableRec ·)=true:=by kernel_rfl
theorem closed:joinedFacts Tryz.prog 3 Tryz.f3 (OpenSpec.ofChange Rows.metaPlaysSpec).bare Rows.metaPlaysRow=true:=
 closed_of fWf pgThree.1 pgThree.2.1 fPa fTi (by kernel_rfl) pgStops (by kernel_rfl) pgKnobs fIn fUn fRe fNa
  (by as_aux_lemma=>kernel_rfl) (by as_aux_lemma=>kernel_rfl) (by as_aux_lemma=>kernel_rfl) (by as_aux_lemma=>kernel_rfl) (by as_aux_lemma=>kernel_rfl) (by as_aux_lemma=>kernel_rfl) (by as_aux_lemma=>kernel_rfl) (by as_aux_lemma=>kernel_rfl) (by as_aux_lemma=>kernel_rfl)
  (by rw [show Tryz.prog.plainKeys=true from pgThree.2.2];rfl) (by kernel_rfl) pgHeard pgEnter fLi fMa (by kernel_rfl) (by kernel_rfl) (by as_aux_lemma=>kernel_rfl) (by as_aux_lemma=>kernel_rfl)
theorem goes:false=Rows.metaPlaysRow.goesBy Tryz.pinned.checked.prog:=by kernel_rfl
theorem wft:Rows.metaPlaysRow.wfByText (OpenSpec.ofChange Rows.metaPlaysSpec)=true:=by kernel_rfl
end Go.Proofs.YtfcfbcjiijfjgaaGreatDoor.metaPlays
