/- MixBack: for any key, any two words and any two lists of words the call returns true, and what was there lies as it lay. No condition. -/
import Derived.Test.YtaggjfdmjpelhaaFrame
import Derived.Test.YtaggjfdmjpelhaaOpen
import Derived.Test.YtaggjfdmjpelhaaOpenI
import Derived.Test.YtaggjfdmjpelhaaLawB
namespace Go.Proofs.Ytaggjfdmjpelhaa.mixBack
open Go.ChangeShapes Go.WideShapes Go.ChangeAt Go.RowKit

theorem laid_met (os : Os) : laidMet Try.prog Rows.mixBackRow.laid ((laidWorld os).forCall (fun _ _ => 0) ⟨#[], #[.int .u64 0, .agg #[.int .u64 0, .int .u64 0], .agg #[.slice none 0 0, .slice none 0 0]], []⟩).memory :=
  laidMet_of_run' 8 (by kernel_rfl) (by kernel_rfl)
theorem reads (os : Os) {H : Type} (enc : TypeId × Value → H) : ∃ places, DataW.whole enc Try.prog ((laidWorld os).forCall (fun _ _ => 0) ⟨#[], #[.int .u64 0, .agg #[.int .u64 0, .int .u64 0], .agg #[.slice none 0 0, .slice none 0 0]], []⟩).memory Try.f7.params.toList Rows.mixBackSpec.vars false (#[.int .u64 0, .agg #[.int .u64 0, .int .u64 0], .agg #[.slice none 0 0, .slice none 0 0]] : Array Value).toList 8 = some ([.lit (.int .u64 0), .agg [.lit (.int .u64 0), .lit (.int .u64 0)], .agg [.nil, .nil]], [], places) :=
  ⟨[], by kernel_rfl⟩
theorem params_ok : (Try.f7.params.toList.all fun t => Try.prog.readableRec t && decide (t < Try.prog.types.size)) = true := by kernel_rfl

set_option maxRecDepth 100000 in
theorem contract (H : Type) (enc : TypeId × Value → H) (W : World) (base : Nat) (args : Array Value) (ds gs : List (DataW H)) (before : List MemPlace)
    (hval : ∀ (j : Nat) t v, Try.f7.params[j]? = some t → args[j]? = some v → Value.okWide Try.prog W .any base t v)
    (hW : DataW.Whole enc Try.prog Try.f7.params.toList Rows.mixBackSpec.vars false W args.toList ds gs before)
    (hsz : (DataW.weightsEach Try.prog (Try.f7.params.toList ++ (OpenSpec.ofChange Rows.mixBackSpec).bare.plain.varTypes Try.prog) (ds ++ gs)).all (· ≤ reachBytes) = true) (_hL : laidMetH Try.prog Rows.mixBackRow.laid W) :
    Calls Try.prog 7 args W fun e W' => ∃ v, e = .returned v ∧ Rows.mixBackSpec.post enc Try.prog Try.f7 false true false false W args v W' := by
  have hW' := hW
  obtain ⟨p, q, hA0, hV, rfl, hfz, hnd⟩ := hW
  have hA : DataW.TrodAll enc Try.prog W 0 (fun _ => true) true Try.f7.params.toList args.toList ds p := hA0
  rw [Try.params7] at hA hval hsz
  clear hA0 hfz hnd _hL
  obtain ⟨v0, vs0, d0, ds0, p0, q0, hargs, rfl, rfl, h0, r0⟩ := trodAll_cons hA
  obtain ⟨v1, vs1, d1, ds1, p1, q1, rfl, rfl, rfl, h1, r1⟩ := trodAll_cons r0
  obtain ⟨v2, vs2, d2, ds2, p2, q2, rfl, rfl, rfl, h2, r2⟩ := trodAll_cons r1
  obtain ⟨rfl, rfl, rfl⟩ := trodAll_nil r2
  obtain rfl : args = #[v0, v1, v2] := by cases args; simp_all
  obtain ⟨n0, rfl, rfl, rfl, w0⟩ := open_int Try.underlying23 (hval 0 23 v0 rfl rfl) h0
  obtain ⟨n1a, n1b, rfl, rfl, w1a, w1b⟩ := open_arr2 Try.underlying42 Try.underlying23 cellsWord (by kernel_rfl) (hval 1 42 v1 rfl rfl) h1
  obtain ⟨A2, n2, c2, l2, B2, m2, f2, k2, rfl, hn2, hm2, hf2, hs2, hN2, hM2, hF2, hS2⟩ := open_arr2s (by_ := 8) Try.underlying43 Try.underlying36 Try.underlying23 (by kernel_rfl) (by kernel_rfl) (by kernel_rfl) (by kernel_rfl) (hval 2 43 v2 rfl rfl) h2 hsz (j := 2) rfl rfl
  have walk : Calls Try.prog 7 #[.int .u64 n0, .agg #[.int .u64 n1a, .int .u64 n1b], .agg #[.slice A2 n2 c2, .slice B2 m2 f2]] W fun e w' => e = .returned (.bool true) ∧ Below W.heap.size W w' := by
    have hb0 := bounds_u64 w0
    obtain ⟨m0, rfl⟩ : ∃ m : Nat, n0 = m := ⟨n0.toNat, by omega⟩
    have hb1a := bounds_u64 w1a
    obtain ⟨m1a, rfl⟩ : ∃ m : Nat, n1a = m := ⟨n1a.toNat, by omega⟩
    have hb1b := bounds_u64 w1b
    obtain ⟨m1b, rfl⟩ : ∃ m : Nat, n1b = m := ⟨n1b.toNat, by omega⟩
    obtain ⟨l, rfl, hl⟩ := nats_of hf2
    obtain ⟨k, rfl, hk⟩ := nats_of hF2
    rw [List.length_map] at hn2 hN2
    subst hn2
    subst hN2
    exact mixBack_any m0 m1a m1b l k A2 B2 c2 f2 W (by omega) (by omega) (by omega) hl hk (by rw [← intl_nats]; exact hs2) (by rw [← intl_nats]; exact hS2)
  refine walk.mono fun e W' ⟨he, hb⟩ => ?_
  subst he
  exact ⟨_, rfl, law_post laidOut params_ok rfl rfl rfl Try.underlying4 hW' hb⟩

set_option maxRecDepth 100000 in
theorem lifted (os : Os) (started : os.Started) (H : Type) (enc : TypeId × Value → H) (F : Stop.Interp) :
    ReturnsInHanded {} Try.checked os 7 .any ((OpenSpec.ofChange Rows.mixBackSpec).preRow enc Try.prog Try.f7 Rows.mixBackRow.domain false Rows.mixBackRow.laid) (((OpenSpec.ofChange Rows.mixBackSpec).at F).post enc Try.prog Try.f7 false true false false) := by
  obtain ⟨places, hx⟩ := reads os enc
  refine returnsInHanded_of_row (C := Try.checked) (s := OpenSpec.ofChange Rows.mixBackSpec) ownKnob_none started (by kernel_rfl) Try.func7
    (witness_row_at (enc := enc) (C := Try.checked) false (laidWorld os) #[.int .u64 0, .agg #[.int .u64 0, .int .u64 0], .agg #[.slice none 0 0, .slice none 0 0]] rfl (by kernel_rfl) (by kernel_rfl) (by kernel_rfl)
      (OpenSpec.preRow_of_cond 8 hx (by kernel_rfl) (fun k hk => by cases hk) (by kernel_rfl) (laid_met os))) ?_
  intro W base args ds gs before hval hW _ _ hsz hL _ _
  exact contract H enc W base args ds gs before hval hW hsz hL

theorem said : Rows.MixBackSaid :=
  OpenClaim.holds_of_cond 7 Try.f7 rfl rfl rfl rfl rfl rfl rfl ⟨rfl, rfl, rfl, rfl, rfl⟩ rfl rfl rfl rfl rfl (by kernel_rfl) Try.func7 (by kernel_rfl)
    (of_decide_eq_true (by kernel_rfl)) (by unfold Func.isWrapper; first | (rw [if_pos (by decide +kernel)]; kernel_rfl) | (rw [if_neg (by decide +kernel)]; exact ⟨rfl, rfl⟩))
    (fun os started H enc _ F => by rw [OpenClaim.pre_eq_preRow]; exact lifted os started H enc F)

end Go.Proofs.Ytaggjfdmjpelhaa.mixBack
