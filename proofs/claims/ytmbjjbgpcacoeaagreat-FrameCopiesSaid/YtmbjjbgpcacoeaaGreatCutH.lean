import Derived.Test.YtmbjjbgpcacoeaaGreatCutR
import Derived.Test.YtmbjjbgpcacoeaaGreatRegion
namespace Go.Proofs.YtmbjjbgpcacoeaaGreat
open Go.RowKit

/- A DRAWN REGION WITHIN A ROUND, WALKED AS OUTSIDE OF ONE: NO CALLS IN IT. -/
theorem wpIn_region_heldH {n : Nat} {P : Program} {Q : Exit → Act → World → Prop} (l' : Nat) {l : List Oper} (m : Nat) {id : Nat} {a : Act} {w : World} (S : World → Prop) (hm : P.follows .mixedOrders = true) (hp : (l.toArray.all Oper.plainB) = true) (hc : cutOk l.toArray m = true) (hS : S w.drew)
    (h : S w.drew → wpAnyH P .any (l.take m).toArray (restQ n P l.toArray Q m) S m (Array.replicate m false) a w.drew) : (Code.region id l.toArray true).wpIn (Fence.wide.inRound l') n P Q a w := by
  have hz := cut_size hc
  refine region_round l' hm hp ?_
  have hf : l.toArray.size = m + (l.toArray.size - m) := by omega
  rw [hf]
  have hall : ∀ j, (Array.replicate (m + (l.toArray.size - m)) false).getD j false = false := getD_rep _
  refine cut_go (pre := (l.take m).toArray) hc (by simp at hz ⊢; omega) (fun j hj => by simp [hj]) m _ (Array.replicate m false) a _ (by simp at hz ⊢; omega) (by simp) (fun j _ => by rw [hall, getD_rep]) (fun j _ _ => hall j) (fun k ok _ hk => by rw [hall] at hk; cases hk) (hall _) ?_
  exact wpAny_of_held _ _ _ _ (h hS)
end Go.Proofs.YtmbjjbgpcacoeaaGreat
