import Derived.Test.YtnbehncbjbkjpaaLeast
namespace Go.Proofs.Ytnbehncbjbkjpaa
open Go.RowKit Go.Shelf Go.Maps Go.Sort
attribute [local go_sem] Oper.semAt_some

/- THE LEAST FREE FRAME, ONE THAT CAME BACK. -/

/-- many cells written into a block -/
theorem setCells_block {w : World} {b o : Nat} (vs : List Value) {k : Nat} (h : k ≠ b) : (w.setCells b o vs).heap[k]? = w.heap[k]? := by
  induction vs generalizing o w with
  | nil => rfl
  | cons v r ih => rw [World.setCells, ih, heap_set h]
theorem setCells_size {w : World} {b o : Nat} (vs : List Value) : (w.setCells b o vs).heap.size = w.heap.size := by
  induction vs generalizing o w with
  | nil => rfl
  | cons v r ih => rw [World.setCells, ih, World.size_setCell]
/-- a list with a part overwritten -/
def over (l : List Value) (o : Nat) : List Value → List Value
  | [] => l
  | v :: r => over (l.set o v) (o + 1) r
theorem setCells_cells {b : Nat} {t : TypeId} : ∀ (vs : List Value) (o : Nat) (w : World) (l : List Value), w.heap[b]? = some (.cells l.toArray t (0, 0)) → (w.setCells b o vs).heap[b]? = some (.cells (over l o vs).toArray t (0, 0))
  | [], _, _, _, h => h
  | v :: r, o, w, l, h => by
    rw [World.setCells, over]
    exact setCells_cells r (o + 1) _ _ (Row.set h o v)
theorem over_len : ∀ (vs : List Value) (l : List Value) (o : Nat), (over l o vs).length = l.length
  | [], _, _ => rfl
  | v :: r, l, o => by rw [over, over_len r]; simp
theorem over_get : ∀ (vs : List Value) (l : List Value) (o j : Nat), o + vs.length ≤ l.length → (over l o vs)[j]? = if o ≤ j ∧ j < o + vs.length then vs[j - o]? else l[j]?
  | [], l, o, j, _ => by simp only [over, List.length_nil]; rw [if_neg (by omega)]
  | v :: r, l, o, j, h => by
    simp only [List.length_cons] at h ⊢
    rw [over, over_get r _ _ _ (by simp; omega), List.getElem?_set]
    by_cases h1 : o + 1 ≤ j ∧ j < o + 1 + r.length
    · rw [if_pos h1, if_pos (by omega), show j - o = (j - (o + 1)) + 1 by omega, List.getElem?_cons_succ]
    · rw [if_neg h1]
      by_cases h2 : o = j
      · subst h2
        rw [if_pos rfl, if_pos (by omega), if_pos (by omega), Nat.sub_self]
        rfl
      · rw [if_neg h2, if_neg (by omega)]
theorem over_take (l vs : List Value) (o n : Nat) (h : o + vs.length ≤ n) (hn : n ≤ l.length) : (over l o vs).take n = over (l.take n) o vs := by
  refine List.ext_getElem? fun j => ?_
  rw [List.getElem?_take, over_get _ _ _ _ (by omega), over_get _ _ _ _ (by rw [List.length_take]; omega), List.getElem?_take]
  by_cases h1 : j < n
  · rw [if_pos h1, if_pos h1]
  · rw [if_neg h1, if_neg h1, if_neg (by omega)]
/-- frames as cells, one of them another one -/
theorem fl_get : ∀ (fb : List (List UInt8)), (∀ bs ∈ fb, bs.length = 256) → ∀ (i j : Nat) (hi : i < fb.length), j < 256 → (fl fb)[i * 256 + j]? = (fb[i].map bv)[j]?
  | [], _, i, _, h, _ => by simp at h
  | bs :: r, h, 0, j, _, hj => by
    have h1 : bs.length = 256 := h bs (by simp)
    simp only [fl, List.flatMap_cons, Nat.zero_mul, Nat.zero_add]
    rw [List.getElem?_append_left (by rw [List.length_map, h1]; exact hj)]
    rfl
  | bs :: r, h, i + 1, j, hi, hj => by
    have h1 : bs.length = 256 := h bs (by simp)
    have := fl_get r (fun x hx => h x (by simp [hx])) i j (by simpa using hi) hj
    simp only [fl, List.flatMap_cons]
    rw [List.getElem?_append_right (by rw [List.length_map, h1]; omega), List.length_map, h1, show (i + 1) * 256 + j - 256 = i * 256 + j by omega]
    exact this
set_option maxRecDepth 10000 in
theorem fl_over (fb : List (List UInt8)) (hf : ∀ bs ∈ fb, bs.length = 256) (i o : Nat) (hi : i < fb.length) (xs : List UInt8) (ho : o + xs.length ≤ 256) : over (fl fb) (i * 256 + o) (xs.map bv) = fl (fb.set i (putB fb[i] o xs)) := by
  have hlen := fl_len fb hf
  have hb : fb[i].length = 256 := hf _ (List.getElem_mem hi)
  have hf2 : ∀ bs ∈ fb.set i (putB fb[i] o xs), bs.length = 256 := fun bs hbs => by
    rcases List.mem_or_eq_of_mem_set hbs with h | h
    · exact hf _ h
    · rw [h, putB_len _ _ _ (by omega)]; exact hb
  have hlen2 := fl_len _ hf2
  rw [List.length_set] at hlen2
  have hmul : i * 256 + 256 ≤ fb.length * 256 := by have := Nat.mul_le_mul_right 256 (show i + 1 ≤ fb.length by omega); omega
  refine List.ext_getElem? fun j => ?_
  rw [over_get _ _ _ _ (by rw [List.length_map, hlen]; omega), List.length_map]
  by_cases hj : j < fb.length * 256
  · have hdm : j = j / 256 * 256 + j % 256 := by omega
    have hq : j / 256 < fb.length := by omega
    have e1 := fl_get _ hf2 (j / 256) (j % 256) (by rw [List.length_set]; exact hq) (by omega)
    have e2 := fl_get fb hf (j / 256) (j % 256) hq (by omega)
    rw [← hdm] at e1 e2
    rw [e1, e2]
    by_cases hji : j / 256 = i
    · have hg : (fb.set i (putB fb[i] o xs))[j / 256]'(by rw [List.length_set]; exact hq) = putB fb[i] o xs := by
        rw [List.getElem_set]
        rw [if_pos hji.symm]
      rw [hg]
      have hg2 : fb[j / 256] = fb[i] := by congr 1
      rw [hg2]
      simp only [List.getElem?_map, putB]
      by_cases h3 : i * 256 + o ≤ j ∧ j < i * 256 + o + xs.length
      · rw [if_pos h3, List.getElem?_append_left (by simp; omega), List.getElem?_append_right (by simp; omega)]
        congr 2
        simp
        omega
      · rw [if_neg h3]
        by_cases h4 : j % 256 < o
        · rw [List.getElem?_append_left (by simp; omega), List.getElem?_append_left (by simp; omega), List.getElem?_take, if_pos h4]
        · rw [List.getElem?_append_right (by simp; omega), List.getElem?_drop]
          congr 2
          simp
          omega
    · have hg : (fb.set i (putB fb[i] o xs))[j / 256]'(by rw [List.length_set]; exact hq) = fb[j / 256] := by
        rw [List.getElem_set]
        rw [if_neg (fun e => hji e.symm)]
      rw [hg, if_neg (by omega)]
  · rw [if_neg (by omega), List.getElem?_eq_none (by omega), List.getElem?_eq_none (by omega)]

set_option maxRecDepth 10000 in
/-- bytes written into a frame -/
theorem Own.put {w : World} {v : Value} {fb : List (List UInt8)} {g : Nat} (h : Own w 78 256 v fb.length (fl fb) (some g)) (hf : ∀ bs ∈ fb, bs.length = 256) (i o : Nat) (hi : i < fb.length) (xs : List UInt8) (ho : o + xs.length ≤ 256) :
    Own (w.setCells g (i * 256 + o) (xs.map bv)) 78 256 v (fb.set i (putB fb[i] o xs)).length (fl (fb.set i (putB fb[i] o xs))) (some g) := by
  have hlen := fl_len fb hf
  have hmul : i * 256 + 256 ≤ fb.length * 256 := by have := Nat.mul_le_mul_right 256 (show i + 1 ≤ fb.length by omega); omega
  rcases h with ⟨h0, _⟩ | ⟨b', cap, cur, h1, rfl, h3, h4, h5, h6, h7, h8⟩
  · cases h0
  · injection h1 with h1
    subst h1
    rw [List.length_set]
    have hcs : cur.toList.length = cap * 256 := by simpa using h6
    have hcl : fb.length * 256 ≤ cur.toList.length := by rw [hcs]; exact Nat.mul_le_mul_right _ h4
    have hset := setCells_cells (b := g) (t := 78) (xs.map bv) (i * 256 + o) w cur.toList (by rw [Array.toArray_toList]; exact h3)
    refine .inr ⟨g, cap, _, rfl, rfl, hset, h4, h5, ?_, ?_, ?_⟩
    · rw [List.size_toArray, over_len]
      exact hcs
    · rw [← fl_over fb hf i o hi xs ho, over_len]
      exact h7
    · simp only []
      rw [over_take _ _ _ _ (by rw [List.length_map]; omega) hcl, h8]
      exact fl_over fb hf i o hi xs ho
end Go.Proofs.Ytnbehncbjbkjpaa
