import Derived.Test.YtglfcfepgjldfaaFE
import Derived.Test.YtglfcfepgjldfaaFF
import Derived.Test.YtglfcfepgjldfaaFG
namespace Go.Proofs.Ytglfcfepgjldfaa.Fe
open Go.RowKit Go.Shelf

/- A CALL BY BOTH, WHATEVER IT IS. -/
theorem act_any {Has : HasT} (H : Api Has) (v : Value) (l : List UInt8) (p : Nat) (F : Nat → Prop) (what n : Int) (w : World) (h : Has w v l p F) (hf : i64 n) :
    Calls Try.prog 8 #[v, fv l p, .agg #[.int .i64 what, .int .i64 n]] w (ActP Has w F l (actP l p what n)) := by
  unfold actP
  by_cases h0 : what = 0
  · rw [if_pos h0]
    by_cases hz : okN n
    · rw [if_pos hz]; exact act_pick H v l p F what n w h hf h0 hz
    · rw [if_neg hz]; exact act_pickNo H v l p F what n w h hf h0 hz
  · rw [if_neg h0]
    by_cases h1 : what = 1
    · rw [if_pos h1]; exact act_draw H v l p F what n w h hf h1
    · rw [if_neg h1]
      by_cases h2 : what = 2
      · rw [if_pos h2]; subst h2; exact act_take H v l p F n w h hf
      · rw [if_neg h2]
        by_cases h3 : what = 3
        · rw [if_pos h3]
          by_cases hz : n < 0 ∨ (l.length : Int) < n
          · rw [if_pos hz]; exact act_seekNo H v l p F what n w h hf h3 hz
          · rw [if_neg hz]; exact act_seek H v l p F what n w h hf h3 hz
        · rw [if_neg h3]
          by_cases h4 : what = 4
          · rw [if_pos h4]; subst h4; exact act_picks H v l p F n w h hf
          · rw [if_neg h4]; exact act_copy H v l p F what n w h hf (by omega)
end Go.Proofs.Ytglfcfepgjldfaa.Fe
