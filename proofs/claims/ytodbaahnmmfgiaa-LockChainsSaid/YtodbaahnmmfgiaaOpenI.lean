import Derived.Test.YtodbaahnmmfgiaaOpen
import Derived.WideKeyArr2
namespace Go.Proofs.Ytodbaahnmmfgiaa
open Go.ChangeShapes Go.WideShapes Go.ChangeAt Go.RowKit

/- OPENING OF PARAMETERS: slices of numbers of whatever kind, arrays of numbers, arrays of two such slices. -/

/-- numbers as cells -/
def intl (q : IntKind) (l : List Int) : List Value := l.map fun z => .int q z

/-- a slice of numbers that came in, as it is read; spare: its bytes in all -/
theorem intl_of_trod {H : Type} {enc : TypeId × Value → H} {P : Program} {W : World} {t e : TypeId} {q : IntKind} {by_ : Nat} {cs : List Value} {fuel : Nat} {d : DataW H} {p : List MemPlace}
    (ht : P.underlying t = some (.slice e)) (he : P.underlying e = some (.int q)) (hce : P.cellsOf e = 1) (hby : P.bytesOf e = by_)
    (hf : DataW.trod enc P W 0 (fun _ => true) true fuel t cs = some (d, p)) (hw : ∀ n ∈ d.weights P t, n ≤ reachBytes) :
    ∃ (A : Option Addr) (n c : Nat) (l : List Int), cs = [.slice A n c] ∧ l.length = n ∧ n * by_ ≤ 140737488351232 ∧ (∀ z ∈ l, (Lit.int q z).wf = true) ∧ Sees W W.heap.size A (intl q l) := by
  rcases open_ints ht he hce hf with ⟨hcs, hx⟩ | ⟨a, len, cap, zs, hcs, _, hl, hm, hz, hx, hcell, hwz⟩
  · exact ⟨none, 0, 0, [], hcs, rfl, by omega, fun _ h => absurd h (by simp), Sees.nil_⟩
  · simp only [if_true] at hz
    simp only [Prod.mk.injEq] at hx
    obtain ⟨rfl, rfl⟩ := hx
    have hr := hw (((zs.take len).length + (zs.drop len).length) * by_) (by simp [DataW.weights, ht, hby, lits])
    simp only [List.length_take, List.length_drop] at hr
    have hr' : len * by_ ≤ 140737488351232 := by
      have : reachBytes = 140737488351232 := rfl
      have h2 : len * by_ ≤ (min len zs.length + (zs.length - len)) * by_ := Nat.mul_le_mul_right _ (by omega)
      omega
    refine ⟨some a, len, cap, zs.take len, hcs, by simp; omega, hr', fun z hz => hwz z (List.mem_of_mem_take hz), fun hne => ?_⟩
    have hlen : 0 < len := by
      rcases Nat.eq_zero_or_pos len with h0 | h0
      · subst h0; simp [intl] at hne
      · exact h0
    have hlt := lt_of_cell (hcell 0 (by omega))
    rw [add_block] at hlt
    refine ⟨a, rfl, hlt, fun j u hu => ?_⟩
    simp only [intl, List.getElem?_map, Option.map_eq_some_iff] at hu
    obtain ⟨z, hz1, rfl⟩ := hu
    rw [List.getElem?_take] at hz1
    split at hz1
    · have hj' : j < zs.length := by omega
      rw [hcell j hj']
      have e1 : zs.getD j 0 = z := by simp [List.getD, hz1]
      rw [e1]
    · cases hz1

theorem open_intl {H : Type} {enc : TypeId × Value → H} {P : Program} {W : World} {base : Nat} {t e : TypeId} {q : IntKind} {by_ : Nat} {v : Value} {d : DataW H} {p : List MemPlace}
    (ht : P.underlying t = some (.slice e)) (he : P.underlying e = some (.int q)) (hce : P.cellsOf e = 1) (hby : P.bytesOf e = by_)
    (hval : Value.okWide P W .any base t v) (h : DataW.Trod enc P W 0 (fun _ => true) true t v d p)
    {ts : List TypeId} {ds : List (DataW H)} {j : Nat} (hsz : (DataW.weightsEach P ts ds).all (· ≤ reachBytes) = true) (hj : ts[j]? = some t) (hd : ds[j]? = some d) :
    ∃ (A : Option Addr) (n c : Nat) (l : List Int), v = .slice A n c ∧ l.length = n ∧ n * by_ ≤ 140737488351232 ∧ (∀ z ∈ l, (Lit.int q z).wf = true) ∧ Sees W W.heap.size A (intl q l) := by
  obtain ⟨a0, len, cap, rfl⟩ := okWide_slice ht hval
  obtain ⟨fuel, hf⟩ := h
  obtain ⟨A, n, c, l, hcs, h1, h2, h3, h4⟩ := intl_of_trod ht he hce hby hf (weights_each hsz hj hd)
  exact ⟨A, n, c, l, by simpa [Value.cells] using hcs, h1, h2, h3, h4⟩

/-- an array of 2 slices of numbers that came in by value -/
theorem open_arr2s {H : Type} {enc : TypeId × Value → H} {P : Program} {W : World} {b0 : Nat} {r : Reach} {k t e : TypeId} {q : IntKind} {by_ : Nat} {v : Value} {d : DataW H} {p : List MemPlace}
    (hu : P.underlying k = some (.array 2 t)) (ht : P.underlying t = some (.slice e)) (he : P.underlying e = some (.int q)) (hce : P.cellsOf e = 1) (hby : P.bytesOf e = by_) (one : P.cellsOf t = 1) (size : P.cellsOf k = 2)
    (hval : Value.okWide P W r b0 k v) (h : DataW.Trod enc P W 0 (fun _ => true) true k v d p)
    {ts : List TypeId} {ds : List (DataW H)} {j : Nat} (hsz : (DataW.weightsEach P ts ds).all (· ≤ reachBytes) = true) (hj : ts[j]? = some k) (hd : ds[j]? = some d) :
    ∃ (A : Option Addr) (n c : Nat) (l : List Int) (B : Option Addr) (m f : Nat) (l2 : List Int), v = .agg #[.slice A n c, .slice B m f] ∧
      l.length = n ∧ n * by_ ≤ 140737488351232 ∧ (∀ z ∈ l, (Lit.int q z).wf = true) ∧ Sees W W.heap.size A (intl q l) ∧
      l2.length = m ∧ m * by_ ≤ 140737488351232 ∧ (∀ z ∈ l2, (Lit.int q z).wf = true) ∧ Sees W W.heap.size B (intl q l2) := by
  have hv : ∃ c0 c1, v = .agg #[c0, c1] := by
    simp only [Value.okWide, hu] at hval
    obtain ⟨cs, h1, h2, _⟩ := hval
    rw [size] at h2
    obtain ⟨l⟩ := cs
    match l, h2 with
    | [c0, c1], _ => exact ⟨c0, c1, h1⟩
  obtain ⟨c0, c1, rfl⟩ := hv
  have hwe := weights_each hsz hj hd
  obtain ⟨fuel, hf⟩ := h
  cases fuel with
  | zero => simp [DataW.trod] at hf
  | succ n =>
    rw [DataW.trod_step] at hf
    unfold DataW.trodStep at hf
    simp only [hu, Value.cells] at hf
    rw [if_pos (by rw [size]; rfl)] at hf
    simp only [Option.map_eq_some_iff] at hf
    obtain ⟨xs, hx, e1⟩ := hf
    rw [show List.range 2 = [0, 1] from rfl, List.mapM_cons, List.mapM_cons, List.mapM_nil] at hx
    simp only [bind, Option.bind_eq_some_iff, pure, Option.some.injEq, one] at hx
    obtain ⟨⟨y0, q0⟩, h0, _, ⟨⟨y1, q1⟩, h1, _, rfl, rfl⟩, rfl⟩ := hx
    simp only [List.map_cons, List.map_nil, Prod.mk.injEq] at e1
    obtain ⟨rfl, _⟩ := e1
    have hw2 : (DataW.agg [y0, y1]).weights P k = y0.weights P t ++ (y1.weights P t ++ []) := by simp [DataW.weights, hu, DataW.weightsAll]
    rw [hw2] at hwe
    obtain ⟨A, n0, f0, l0, g0, g1, g2, g3, g4⟩ := intl_of_trod ht he hce hby h0 (fun n hn => hwe n (by simp [hn]))
    obtain ⟨B, m0, f1, l1, k0, k1, k2, k3, k4⟩ := intl_of_trod ht he hce hby h1 (fun n hn => hwe n (by simp [hn]))
    simp at g0 k0
    subst g0
    subst k0
    exact ⟨A, n0, f0, l0, B, m0, f1, l1, rfl, g1, g2, g3, g4, k1, k2, k3, k4⟩

/-- an array of 2 numbers that came in by value -/
theorem open_arr2 {H : Type} {enc : TypeId × Value → H} {P : Program} {W : World} {base b0 : Nat} {sp : Nat → Bool} {held : Bool} {r : Reach} {k e : TypeId} {q : IntKind} {v : Value} {d : DataW H} {p : List MemPlace}
    (hu : P.underlying k = some (.array 2 e)) (he : P.underlying e = some (.int q)) (one : P.cellsOf e = 1) (size : P.cellsOf k = 2)
    (hval : Value.okWide P W r b0 k v) (hd : DataW.Trod enc P W base sp held k v d p) :
    ∃ a b : Int, v = .agg #[.int q a, .int q b] ∧ p = [] ∧ (Lit.int q a).wf = true ∧ (Lit.int q b).wf = true := by
  have hv : ∃ c0 c1, v = .agg #[c0, c1] := by
    simp only [Value.okWide, hu] at hval
    obtain ⟨cs, h1, h2, _⟩ := hval
    rw [size] at h2
    obtain ⟨l⟩ := cs
    match l, h2 with
    | [c0, c1], _ => exact ⟨c0, c1, h1⟩
  obtain ⟨c0, c1, rfl⟩ := hv
  obtain ⟨fuel, hf⟩ := hd
  cases fuel with
  | zero => simp [DataW.trod] at hf
  | succ n =>
    rw [DataW.trod_step] at hf
    unfold DataW.trodStep at hf
    simp only [hu, Value.cells] at hf
    rw [if_pos (by rw [size]; rfl)] at hf
    simp only [Option.map_eq_some_iff] at hf
    obtain ⟨xs, hx, e1⟩ := hf
    rw [show List.range 2 = [0, 1] from rfl, List.mapM_cons, List.mapM_cons, List.mapM_nil] at hx
    simp only [bind, Option.bind_eq_some_iff, pure, Option.some.injEq, one] at hx
    obtain ⟨y0, h0, _, ⟨y1, h1, _, rfl, rfl⟩, rfl⟩ := hx
    obtain ⟨a, ea, rfl, wa⟩ := DataW.trod_int he h0
    obtain ⟨b, eb, rfl, wb⟩ := DataW.trod_int he h1
    simp at ea eb
    subst ea
    subst eb
    simp only [Prod.mk.injEq] at e1
    exact ⟨a, b, rfl, by rw [← e1.2]; rfl, wa, wb⟩
/-- an array of 3 numbers that came in by value -/
theorem open_arr3 {H : Type} {enc : TypeId × Value → H} {P : Program} {W : World} {base b0 : Nat} {sp : Nat → Bool} {held : Bool} {r : Reach} {k e : TypeId} {q : IntKind} {v : Value} {d : DataW H} {p : List MemPlace}
    (hu : P.underlying k = some (.array 3 e)) (he : P.underlying e = some (.int q)) (one : P.cellsOf e = 1) (size : P.cellsOf k = 3)
    (hval : Value.okWide P W r b0 k v) (hd : DataW.Trod enc P W base sp held k v d p) :
    ∃ a b c : Int, v = .agg #[.int q a, .int q b, .int q c] ∧ p = [] ∧ (Lit.int q a).wf = true ∧ (Lit.int q b).wf = true ∧ (Lit.int q c).wf = true := by
  have hv : ∃ c0 c1 c2, v = .agg #[c0, c1, c2] := by
    simp only [Value.okWide, hu] at hval
    obtain ⟨cs, h1, h2, _⟩ := hval
    rw [size] at h2
    obtain ⟨l⟩ := cs
    match l, h2 with
    | [c0, c1, c2], _ => exact ⟨c0, c1, c2, h1⟩
  obtain ⟨c0, c1, c2, rfl⟩ := hv
  obtain ⟨fuel, hf⟩ := hd
  cases fuel with
  | zero => simp [DataW.trod] at hf
  | succ n =>
    rw [DataW.trod_step] at hf
    unfold DataW.trodStep at hf
    simp only [hu, Value.cells] at hf
    rw [if_pos (by rw [size]; rfl)] at hf
    simp only [Option.map_eq_some_iff] at hf
    obtain ⟨xs, hx, e1⟩ := hf
    rw [show List.range 3 = [0, 1, 2] from rfl, List.mapM_cons, List.mapM_cons, List.mapM_cons, List.mapM_nil] at hx
    simp only [bind, Option.bind_eq_some_iff, pure, Option.some.injEq, one] at hx
    obtain ⟨y0, h0, _, ⟨y1, h1, _, ⟨y2, h2, _, rfl, rfl⟩, rfl⟩, rfl⟩ := hx
    obtain ⟨a, ea, rfl, wa⟩ := DataW.trod_int he h0
    obtain ⟨b, eb, rfl, wb⟩ := DataW.trod_int he h1
    obtain ⟨c, ec, rfl, wc⟩ := DataW.trod_int he h2
    simp at ea eb ec
    subst ea
    subst eb
    subst ec
    simp only [Prod.mk.injEq] at e1
    exact ⟨a, b, c, rfl, by rw [← e1.2]; rfl, wa, wb, wc⟩
end Go.Proofs.Ytodbaahnmmfgiaa
