import Derived.Test.YtglfcfepgjldfaaRichC
import Derived.Test.YtglfcfepgjldfaaFP
namespace Go.Proofs.Ytglfcfepgjldfaa
open Go.ChangeShapes Go.WideShapes Go.ChangeAt Go.RowKit Go.Deep
/-- bytes that came in, with their room -/
theorem open_bytesc {H : Type} {enc : TypeId × Value → H} {P : Program} {W : World} {base : Nat} {t e : TypeId} {v : Value} {d : DataW H} {p : List MemPlace}
    (ht : P.underlying t = some (.slice e)) (he : P.underlying e = some (.int .u8)) (hce : P.cellsOf e = 1) (hby : P.bytesOf e = 1)
    (hval : Value.okWide P W .any base t v) (h : DataW.Trod enc P W 0 (fun _ => true) true t v d p)
    {ts : List TypeId} {ds : List (DataW H)} {j : Nat} (hsz : (DataW.weightsEach P ts ds).all (· ≤ reachBytes) = true) (hj : ts[j]? = some t) (hd : ds[j]? = some d) :
    ∃ (A : Option Addr) (n c : Nat) (l : List UInt8), v = .slice A n c ∧ l.length = n ∧ n ≤ 140737488351232 ∧ n ≤ c ∧ Sees W W.heap.size A (byt l) := by
  obtain ⟨a0, len, cap, rfl⟩ := okWide_slice ht hval
  obtain ⟨fuel, hf⟩ := h
  obtain ⟨A, n, c, l, hcs, h1, h2, h5, h3⟩ := bytesc_of_trod ht he hce hby hf (weights_each hsz hj hd)
  exact ⟨A, n, c, l, by simpa [Value.cells] using hcs, h1, h2, h5, h3⟩
end Go.Proofs.Ytglfcfepgjldfaa
namespace Go.Proofs.Ytglfcfepgjldfaa.Fe
open Go.ChangeShapes Go.WideShapes Go.ChangeAt Go.RowKit

/- CALLS THAT CAME IN. -/

abbrev actSs : List Sc := [some .i64, some .i64]
theorem act_of {r : List Value} {ss : List Sc} {rest : List Sc} (hss : ss = actSs ++ rest) (h : FitsAll ss r) : ∃ (x : Ac) (t : List Value), x.fits ∧ r = x.cells ++ t ∧ FitsAll rest t := by
  subst hss
  obtain ⟨_, r1, rfl, ⟨z1, rfl, w1⟩, _, r2, rfl, ⟨z2, rfl, w2⟩, h7⟩ := h
  have b2 := bounds_i64 w2
  exact ⟨⟨z1, z2⟩, r2, ⟨by simp only; omega, by simp only; omega⟩, rfl, h7⟩
theorem acs_of {W : World} {A : Option Addr} {R : List (List Value)} (h : ∀ r ∈ R, FitsAll actSs r) (hs : Sees W W.heap.size A R.flatten) : ∃ l : List Ac, l.length = R.length ∧ Acs W l A := by
  obtain ⟨l, rfl, h2⟩ := rows_map (enc := Ac.cells) (Q := fun x => x.fits) R (fun r hr => by
    obtain ⟨x, t, h1, rfl, h3⟩ := act_of (rest := []) rfl (h r hr)
    exact ⟨x, h1, by rw [show t = [] from h3, List.append_nil]⟩)
  exact ⟨l, by simp, ⟨by rw [List.flatMap_def]; exact hs, h2⟩⟩
theorem act_two {V : List Value} (h : FitsAll (actSs ++ actSs) V) : ∃ x y : Ac, x.fits ∧ y.fits ∧ V = x.cells ++ y.cells := by
  obtain ⟨x, t, h1, rfl, h3⟩ := act_of (rest := actSs) rfl h
  obtain ⟨y, t2, h4, rfl, h5⟩ := act_of (rest := []) rfl h3
  exact ⟨x, y, h1, h4, by rw [show t2 = [] from h5, List.append_nil]⟩
end Go.Proofs.Ytglfcfepgjldfaa.Fe
