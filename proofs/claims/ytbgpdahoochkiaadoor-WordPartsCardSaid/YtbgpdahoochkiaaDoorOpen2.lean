import Derived.Test.YtbgpdahoochkiaaDoorOpen
import Derived.Test.YtbgpdahoochkiaaDoorRows2
import Derived.Deep.Slices
namespace Go.Proofs.YtbgpdahoochkiaaDoor
open Go.ChangeShapes Go.WideShapes Go.ChangeAt Go.RowKit Go.Deep

theorem weights_all {H : Type} {P : Program} {e : TypeId} : ∀ {l : List (DataW H)} {d : DataW H}, d ∈ l → ∀ n ∈ d.weights P e, n ∈ DataW.weightsAll P e l
  | d' :: r, d, hd, n, hn => by
    simp only [DataW.weightsAll, List.mem_append]
    rcases List.mem_cons.1 hd with rfl | h
    · exact Or.inl hn
    · exact Or.inr (weights_all h n hn)

theorem open_bytess {H : Type} {enc : TypeId × Value → H} {P : Program} {W : World} {base : Nat} {t e b : TypeId} {v : Value} {d : DataW H} {p : List MemPlace}
    (ht : P.underlying t = some (.slice e)) (he : P.underlying e = some (.slice b)) (hb : P.underlying b = some (.int .u8)) (hce : P.cellsOf e = 1) (hcb : P.cellsOf b = 1) (hby : P.bytesOf b = 1) (hbe : P.bytesOf e = 24)
    (hval : Value.okWide P W .any base t v) (h : DataW.Trod enc P W 0 (fun _ => true) true t v d p)
    {ts : List TypeId} {ds : List (DataW H)} {j : Nat} (hsz : (DataW.weightsEach P ts ds).all (· ≤ reachBytes) = true) (hj : ts[j]? = some t) (hd : ds[j]? = some d) :
    ∃ (A : Option Addr) (n c : Nat) (ls : List (List UInt8)), v = .slice A n c ∧ ls.length = n ∧ n ≤ 140737488351232 ∧ Rowz W W.heap.size A ls := by
  obtain ⟨a0, len0, cap0, rfl⟩ := okWide_slice ht hval
  obtain ⟨fuel, hf⟩ := h
  have hw := weights_each hsz hj hd
  rcases open_slice1 ht hce hf with ⟨hcs, hx⟩ | ⟨a, len, cap, m, n, V, D, Pl, hcs, _, hl, hm, hmm, hx, hi⟩
  · exact ⟨none, 0, 0, [], by simpa [Value.cells] using hcs, rfl, by omega, [], rfl, Sees.nil_, fun i h => absurd h (by simp)⟩
  · simp only [if_true] at hmm
    simp only [Prod.mk.injEq] at hx
    obtain ⟨rfl, rfl⟩ := hx
    have hreach : reachBytes = 140737488351232 := rfl
    have hr := hw ((((List.range len).map D).length + ((List.range (m - len)).map fun j => D (len + j)).length) * P.bytesOf e) (by simp [DataW.weights, ht])
    rw [hbe] at hr
    simp only [List.length_map, List.length_range] at hr
    have each : ∀ i, i < len → ∃ (A : Option Addr) (n c : Nat) (l : List UInt8), V i = .slice A n c ∧ l.length = n ∧ n ≤ 140737488351232 ∧ Sees W W.heap.size A (byt l) := by
      intro i hil
      obtain ⟨_, h2⟩ := hi i (by omega)
      obtain ⟨A, n, c, l, h3, h4⟩ := bytes_of_trod he hb hcb hby h2 (fun x hx => hw x (by
        simp only [DataW.weights, ht, List.mem_cons, List.mem_append]
        exact Or.inr (Or.inl (weights_all (List.mem_map.2 ⟨i, List.mem_range.2 hil, rfl⟩) x hx))))
      exact ⟨A, n, c, l, by simpa using h3, h4⟩
    have each' : ∀ i, ∃ l : List UInt8, i < len → ∃ (A : Option Addr) (n c : Nat), V i = .slice A n c ∧ l.length = n ∧ n ≤ 140737488351232 ∧ Sees W W.heap.size A (byt l) := fun i => by
      by_cases h : i < len
      · obtain ⟨A, n, c, l, hh⟩ := each i h
        exact ⟨l, fun _ => ⟨A, n, c, hh⟩⟩
      · exact ⟨[], fun h' => absurd h' h⟩
    obtain ⟨L, hL⟩ := Classical.axiomOfChoice each'
    refine ⟨some a, len, cap, (List.range len).map L, by simpa [Value.cells] using hcs, by simp, by omega, (List.range len).map V, by simp, fun hne => ?_, fun i hil => ?_⟩
    · have h0 : 0 < len := by
        rcases Nat.eq_zero_or_pos len with h0 | h0
        · subst h0; simp at hne
        · exact h0
      have hlt := lt_of_cell (hi 0 (by omega)).1
      rw [add_block] at hlt
      refine ⟨a, rfl, hlt, fun j u hu => ?_⟩
      simp only [List.getElem?_map, Option.map_eq_some_iff] at hu
      obtain ⟨q, hq, rfl⟩ := hu
      obtain ⟨hq1, rfl⟩ := List.getElem?_eq_some_iff.1 hq
      simp at hq1
      simp only [List.getElem_range]
      exact (hi j (by omega)).1
    · simp at hil
      obtain ⟨A, n, c, h1, h2, h3, h4⟩ := hL i hil
      refine ⟨A, n, c, by simp [hil, h1], by simpa using h2, h3, by simpa using h4⟩
end Go.Proofs.YtbgpdahoochkiaaDoor
