import Derived.Test.YtodbaahnmmfgiaaRange
namespace Go.Proofs.Ytodbaahnmmfgiaa
open Go.RowKit

/-- an operation that is no deferred call -/
def Oper.plainB (o : Oper) : Bool := match o.op with | .defer _ => false | _ => true
theorem plain_ne {o : Oper} (h : Oper.plainB o = true) : ∀ c, o.op ≠ .defer c := by
  intro c hc
  unfold Oper.plainB at h
  rw [hc] at h
  cases h

section
variable {n : Nat} {P : Program} {Q : Exit → Act → World → Prop}
theorem wpIn_oper_round (l : Nat) {o : Oper} {a : Act} {w : World} {next : Act → World → Prop} (ho : Oper.plainB o = true) (h : o.wpIn Fence.wide n P a w next Q) : o.wpIn (Fence.wide.inRound l) n P a w next Q := by
  refine ⟨fun _ _ => trivial, ?_⟩
  have h2 := h.2
  have e1 : Oper.semAt (Fence.wide.inRound l).round a.eval o = Oper.semAt Fence.wide.round a.eval o := Oper.semAt_some l _ _ (plain_ne ho)
  rw [e1]
  generalize (Oper.semAt Fence.wide.round a.eval o).run P w = r at h2 ⊢
  cases r with
  | ok x w' => cases x <;> exact h2
  | halt x w' => cases x <;> exact h2

/-- within a round the operations of a region go as they go outside of one, where none is a deferred call -/
theorem wpAnyIn_round (l : Nat) {md : Region.Mode} {ops : Array Oper} (hp : ∀ (i : Nat) o, ops[i]? = some o → Oper.plainB o = true) : ∀ (fuel : Nat) (listed : Array Bool) (a : Act) (w : World),
    wpAnyIn Fence.wide n P md ops Q fuel listed a w → wpAnyIn (Fence.wide.inRound l) n P md ops Q fuel listed a w
  | 0, _, _, _, h => h
  | fuel + 1, listed, a, w, h => by
    refine ⟨h.1, fun i hi => ?_⟩
    have hi2 := h.2 i hi
    unfold wpOpIn at hi2 ⊢
    split
    · rename_i ho
      rw [ho] at hi2
      exact wpAnyIn_round l hp fuel _ _ _ hi2
    · rename_i o ho
      rw [ho] at hi2
      simp only at hi2
      split
      · rename_i hw
        rw [if_pos hw] at hi2
        exact Oper.wpIn_mono (fun a w h => wpAnyIn_round l hp fuel _ _ _ h) (wpIn_oper_round l (hp i o ho) hi2)
      · rename_i hw
        rw [if_neg hw] at hi2
        exact ⟨fun _ _ => trivial, wpAnyIn_round l hp fuel _ _ _ hi2.2⟩

theorem region_round (l : Nat) {id : Nat} {ops : Array Oper} {a : Act} {w : World} (hm : P.follows .mixedOrders = true) (hp : (ops.all Oper.plainB) = true)
    (h : wpAnyIn Fence.wide n P .any ops Q ops.size (Array.replicate ops.size false) a w.drew) : (Code.region id ops true).wpIn (Fence.wide.inRound l) n P Q a w :=
  wpIn_region_any hm (wpAnyIn_round l (fun i o ho => by
    obtain ⟨hi, rfl⟩ := Array.getElem?_eq_some_iff.1 ho
    exact Array.all_eq_true.1 hp i hi) _ _ _ _ h)
end
end Go.Proofs.Ytodbaahnmmfgiaa
