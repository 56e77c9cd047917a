import Derived.Test.YtnbehncbjbkjpaaResv2
namespace Go.Proofs.Ytnbehncbjbkjpaa
open Go.RowKit Go.Shelf Go.Maps Go.Sort

/- PLAIN: FREE FRAMES, THE LEAST ONE LAST. -/

def isFree (fr : List Fr) (i : Nat) : Bool := frameO ⟨fr, []⟩ i == none
def freeL (fr : List Fr) (n : Nat) : List Nat := (List.range n).filter (isFree fr)
theorem spare_eq (fr : List Fr) (n : Nat) : spareOf fr n = (freeL fr n).reverse := rfl
theorem frameO_eq (p : Pl) (i : Nat) : frameO p i = frameO ⟨p.fr, []⟩ i := rfl
theorem isFree_iff {fr : List Fr} {i : Nat} (hi : i < fr.length) : isFree fr i = true ↔ fr[i]? = some none := by
  unfold isFree frameO
  rw [List.getElem?_eq_getElem hi]
  simp
theorem not_free {fr : List Fr} {i : Nat} (hi : i < fr.length) : isFree fr i = false ↔ ∃ x, fr[i]? = some (some x) := by
  unfold isFree frameO
  rw [List.getElem?_eq_getElem hi]
  cases h : fr[i] <;> simp
theorem free1_of : ∀ (fr : List Fr) (i : Nat), fr[i]? = some none → (∀ j, j < i → ∃ x, fr[j]? = some (some x)) → free1 fr = some i
  | [], i, h, _ => by simp at h
  | none :: r, 0, _, _ => rfl
  | none :: r, i + 1, _, h => by
    obtain ⟨x, hx⟩ := h 0 (by omega)
    simp at hx
  | some y :: r, 0, h, _ => by simp at h
  | some y :: r, i + 1, h, h2 => by
    rw [free1, free1_of r i (by simpa using h) (fun j hj => by simpa using h2 (j + 1) (by omega))]
    rfl
theorem freeL_mem {fr : List Fr} {n i : Nat} : i ∈ freeL fr n ↔ i < n ∧ isFree fr i = true := by simp [freeL]
theorem freeL_sorted (fr : List Fr) (n : Nat) : (freeL fr n).Pairwise (· < ·) := List.Pairwise.filter _ List.pairwise_lt_range
theorem isFree_set {fr : List Fr} {i j : Nat} (x : Fr) (hi : i < fr.length) : isFree (fr.set i x) j = if j = i then x == none else isFree fr j := by
  unfold isFree frameO
  by_cases h : j = i
  · subst h
    rw [List.getElem?_set_self hi, if_pos rfl]
    rfl
  · rw [List.getElem?_set_ne (fun e => h e.symm), if_neg h]

/-- none is free below n: the next one is the least -/
theorem least_new_free {fr : List Fr} {n : Nat} (h0 : freeL fr n = []) (hb : ∀ i, n ≤ i → frameO ⟨fr, []⟩ i = none) (hn : n < fr.length) : free1 fr = some n := by
  refine free1_of fr n ?_ fun j hj => ?_
  · refine (isFree_iff hn).1 ?_
    unfold isFree
    rw [hb n (Nat.le_refl _)]
    rfl
  · refine (not_free (by omega)).1 ?_
    cases h : isFree fr j
    · rfl
    · have := freeL_mem.2 ⟨hj, h⟩
      rw [h0] at this
      simp at this
theorem used_all {fr : List Fr} {n : Nat} (h0 : freeL fr n = []) (hn : n = fr.length) : used fr = fr.length := by
  unfold used
  rw [List.countP_eq_length]
  intro x hx
  obtain ⟨i, hi, rfl⟩ := List.getElem_of_mem hx
  cases h : fr[i] with
  | some y => rfl
  | none =>
    have := (freeL_mem (n := n)).2 ⟨by omega, (isFree_iff hi).2 (by rw [List.getElem?_eq_getElem hi, h])⟩
    rw [h0] at this
    simp at this
theorem freeL_take_new {fr : List Fr} {n : Nat} (h0 : freeL fr n = []) (hn : n < fr.length) (x : Nat × List UInt8) : freeL (fr.set n (some x)) (n + 1) = [] := by
  refine List.eq_nil_iff_forall_not_mem.2 fun i hi => ?_
  obtain ⟨h1, h2⟩ := freeL_mem.1 hi
  rw [isFree_set _ hn] at h2
  split at h2
  · cases h2
  · have := freeL_mem.2 ⟨show i < n by omega, h2⟩
    rw [h0] at this
    simp at this
/-- some are free below n: the first of them is the least -/
theorem least_old_free {fr : List Fr} {n i : Nat} {r : List Nat} (h0 : freeL fr n = i :: r) (hn : n ≤ fr.length) : i < n ∧ free1 fr = some i := by
  have hm : i ∈ freeL fr n := by rw [h0]; simp
  obtain ⟨h1, h2⟩ := freeL_mem.1 hm
  refine ⟨h1, free1_of fr i ((isFree_iff (by omega)).1 h2) fun j hj => (not_free (by omega)).1 ?_⟩
  cases h : isFree fr j
  · rfl
  · have h3 := freeL_mem.2 ⟨show j < n by omega, h⟩
    have hs := freeL_sorted fr n
    rw [h0] at h3 hs
    rcases List.mem_cons.1 h3 with h4 | h4
    · omega
    · have := (List.pairwise_cons.1 hs).1 j h4
      omega
theorem freeL_take_old {fr : List Fr} {n i : Nat} {r : List Nat} (h0 : freeL fr n = i :: r) (hn : n ≤ fr.length) (x : Nat × List UInt8) : freeL (fr.set i (some x)) n = r := by
  have hi := (least_old_free h0 hn).1
  have hs := freeL_sorted fr n
  rw [h0] at hs
  have hni : ∀ j ∈ r, j ≠ i := fun j hj e => by have := (List.pairwise_cons.1 hs).1 j hj; omega
  have h1 : freeL (fr.set i (some x)) n = (freeL fr n).filter (fun j => decide (j ≠ i)) := by
    unfold freeL
    rw [List.filter_filter]
    refine List.filter_congr fun j _ => ?_
    rw [isFree_set _ (by omega)]
    by_cases h : j = i <;> simp [h]
  rw [h1, h0, List.filter_cons_of_neg (by simp), List.filter_eq_self.2 fun j hj => by simpa using hni j hj]

/-! a frame that comes back -/
theorem freeL_give {fr : List Fr} {n i : Nat} (hi : i < n) (hn : n ≤ fr.length) (hf : isFree fr i = false) :
    freeL (fr.set i none) n = (freeL fr n).filter (fun j => decide (j < i)) ++ i :: (freeL fr n).filter (fun j => decide (i < j)) := by
  have h1 : ∀ m, m ≤ n → freeL (fr.set i none) m = if i < m then (freeL fr m).filter (fun j => decide (j < i)) ++ i :: (freeL fr m).filter (fun j => decide (i < j)) else freeL fr m := by
    intro m
    induction m with
    | zero => intro _; rfl
    | succ m ih =>
      intro hm
      have hs : ∀ g : List Fr, freeL g (m + 1) = freeL g m ++ (if isFree g m then [m] else []) := fun g => by
        unfold freeL
        rw [List.range_succ, List.filter_append]
        congr 1
        cases h : isFree g m <;> simp [h]
      rw [hs, hs, ih (by omega), isFree_set _ (by omega)]
      by_cases h2 : i < m
      · simp only [if_pos h2, if_pos (show i < m + 1 by omega), if_neg (show ¬ m = i by omega)]
        cases h : isFree fr m
        · simp
        · have e1 : List.filter (fun j => decide (j < i)) [m] = [] := by simp; omega
          have e2 : List.filter (fun j => decide (i < j)) [m] = [m] := by simp [h2]
          simp only [if_true, List.filter_append, e1, e2]
          simp
      · by_cases h3 : m = i
        · subst h3
          have ha : (freeL fr m).filter (fun j => decide (j < m)) = freeL fr m := List.filter_eq_self.2 fun j hj => by simpa using (freeL_mem.1 hj).1
          have hb : (freeL fr m).filter (fun j => decide (m < j)) = [] := List.filter_eq_nil_iff.2 fun j hj => by have := (freeL_mem.1 hj).1; simp; omega
          simp [hf, ha, hb]
        · simp only [if_neg h2, if_neg h3, if_neg (show ¬ i < m + 1 by omega)]
  rw [h1 n (Nat.le_refl _), if_pos hi]
end Go.Proofs.Ytnbehncbjbkjpaa
