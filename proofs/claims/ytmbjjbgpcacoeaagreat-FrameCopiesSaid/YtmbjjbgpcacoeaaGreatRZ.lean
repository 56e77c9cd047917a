import Derived.Test.YtmbjjbgpcacoeaaGreatRU
import Derived.Test.YtmbjjbgpcacoeaaGreatRV
import Derived.Test.YtmbjjbgpcacoeaaGreatRX
import Derived.Test.YtmbjjbgpcacoeaaGreatRY
namespace Go.Proofs.YtmbjjbgpcacoeaaGreat
open Go.RowKit Go.Shelf Go.Maps Go.Sort

/- A CALL BY BOTH. -/
theorem act_any (p : Pl) (A : Option Addr) (n c b : Nat) (F : Nat → Prop) (x : Ac) (w : World) (hfit : x.fits w) (h : Has w b p F) (hl : p.fr.length = n) (hA : Lies w A p.fr) (hO : Off F A p.fr) :
    Calls Tryz.prog 10 #[bx b, rv p A n c, .agg #[.int .i64 x.what, .int .i64 x.owner, .int .i64 x.n, .int .i64 x.at_, .slice x.A x.bs.length x.c]] w (ActP w F A (stepP p x) n) := by
  obtain ⟨wh, ow, fn, at_, bs, S, c2⟩ := x
  by_cases k0 : wh = 0
  · subst k0
    exact act_reserve p A n c b F ow fn at_ bs S _ c2 w hfit h hl hA hO rfl
  by_cases k1 : wh = 1
  · subst k1
    exact act_take p A n c b F ow fn at_ bs S _ c2 w hfit h hl hA hO rfl
  by_cases k2 : wh = 2
  · subst k2
    exact act_give p A n c b F ow fn at_ bs S _ c2 w hfit h hl hA hO rfl
  by_cases k3 : wh = 3
  · subst k3
    exact act_write p A n c b F ow fn at_ bs S _ c2 w hfit h hl hA hO rfl
  rw [show stepP p ⟨wh, ow, fn, at_, bs, S, c2⟩ = p by
    unfold stepP
    rw [if_neg k0, if_neg k1, if_neg k2, if_neg k3]]
  by_cases k4 : wh = 4
  · subst k4
    exact act_read p A n c b F ow fn at_ bs S _ c2 w hfit h hl hA hO rfl
  · exact act_copy p A n c b F ow fn at_ bs S _ c2 w wh k0 k1 k2 k3 k4 hfit h hl hA hO rfl
end Go.Proofs.YtmbjjbgpcacoeaaGreat
