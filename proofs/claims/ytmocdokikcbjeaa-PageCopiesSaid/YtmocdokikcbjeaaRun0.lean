import Derived.Test.YtmocdokikcbjeaaMp
namespace Go.Proofs.Ytmocdokikcbjeaa
open Go.Maps

/- PLAIN: RUNS. -/

/-- the last page of a run that is mapped; 0 and false: none is -/
structure LastA (l : Tb) (a m k : Int) (q : Bool) : Prop where
  yes : q = true → a ≤ k ∧ k - a < m ∧ (look l k).isSome = true
  no : q = false → k = 0
  none : ∀ j, a ≤ j → j - a < m → (q = true → k < j) → look l j = none
theorem inRun_iff {a m : Int} {r : Int × En} : inRun a m r = true ↔ a ≤ r.1 ∧ r.1 - a < m := by simp [inRun]
theorem LastA.free {l : Tb} {a m k : Int} (h : LastA l a m k false) : freeB l a m = true := by
  unfold freeB
  rw [List.all_eq_true]
  intro r hr
  cases hi : inRun a m r
  · rfl
  · obtain ⟨h1, h2⟩ := inRun_iff.1 hi
    exact absurd rfl (look_none.1 (h.none r.1 h1 h2 (fun e => by cases e)) r hr)
theorem LastA.busy {l : Tb} {a m k : Int} (h : LastA l a m k true) : freeB l a m = false := by
  obtain ⟨h1, h2, h3⟩ := h.yes rfl
  obtain ⟨e, he⟩ := Option.isSome_iff_exists.1 h3
  have hi : inRun a m (k, e) = true := inRun_iff.2 ⟨h1, h2⟩
  unfold freeB
  rw [List.all_eq_false]
  exact ⟨(k, e), look_some he, by simp [hi]⟩
theorem run_ge : ∀ (l : Tb) (a m : Int), a ≤ runN l a m
  | [], a, m => Int.le_refl _
  | r :: t, a, m => by
    show a ≤ runN t (stepR m a r) m
    have := run_ge t (stepR m a r) m
    have h2 : a ≤ stepR m a r := by
      unfold stepR
      split
      next h => have := (inRun_iff.1 h).1; omega
      · omega
    omega
theorem run_free : ∀ (l : Tb) (a m : Int), freeB l a m = true → runN l a m = a
  | [], a, m, _ => rfl
  | r :: t, a, m, h => by
    unfold freeB at h
    rw [List.all_cons, Bool.and_eq_true] at h
    have h1 : stepR m a r = a := by
      unfold stepR
      rw [if_neg]
      have := h.1
      simpa using this
    show runN t (stepR m a r) m = a
    rw [h1]
    exact run_free t a m h.2
/-- behind a mapped page of the run one may as well begin there -/
theorem run_skip : ∀ (l : Tb) (a m k : Int), l.Pairwise (fun x y => x.1 < y.1) → a ≤ k → k - a < m → (∃ e, (k, e) ∈ l) → runN l a m = runN l (k + 1) m
  | [], a, m, k, _, _, _, ⟨e, h⟩ => by simp at h
  | r :: t, a, m, k, hs, h1, h2, ⟨e, he⟩ => by
    obtain ⟨g1, g2⟩ := List.pairwise_cons.1 hs
    show runN t (stepR m a r) m = runN t (stepR m (k + 1) r) m
    rcases List.mem_cons.1 he with rfl | he
    · have e1 : stepR m a (k, e) = k + 1 := by
        unfold stepR
        rw [if_pos (inRun_iff.2 ⟨h1, h2⟩)]
      have e2 : stepR m (k + 1) (k, e) = k + 1 := by
        unfold stepR
        rw [if_neg]
        intro h
        have := (inRun_iff.1 h).1
        simp only at this
        omega
      rw [e1, e2]
    · have hrk := g1 _ he
      simp only at hrk
      have e2 : stepR m (k + 1) r = k + 1 := by
        unfold stepR
        rw [if_neg]
        intro h
        have := (inRun_iff.1 h).1
        omega
      have e1 : a ≤ stepR m a r ∧ stepR m a r ≤ k := by
        unfold stepR
        split
        next h => have := (inRun_iff.1 h).1; omega
        · omega
      rw [e2]
      exact run_skip t (stepR m a r) m k g2 e1.2 (by omega) ⟨e, he⟩
theorem run_end : ∀ (l : Tb) (a m : Int), l.Pairwise (fun x y => x.1 < y.1) → freeB l (runN l a m) m = true
  | [], a, m, _ => rfl
  | r :: t, a, m, hs => by
    obtain ⟨g1, g2⟩ := List.pairwise_cons.1 hs
    have ih := run_end t (stepR m a r) m g2
    show freeB (r :: t) (runN t (stepR m a r) m) m = true
    unfold freeB at ih ⊢
    rw [List.all_cons, ih, Bool.and_true]
    have hge := run_ge t (stepR m a r) m
    cases hi : inRun (runN t (stepR m a r) m) m r with
    | false => rfl
    | true =>
      obtain ⟨h1, h2⟩ := inRun_iff.1 hi
      by_cases hr : inRun a m r = true
      · have : stepR m a r = r.1 + 1 := by unfold stepR; rw [if_pos hr]
        omega
      · have e1 : stepR m a r = a := by unfold stepR; rw [if_neg hr]
        rw [e1] at hge h1 h2
        exfalso
        refine hr (inRun_iff.2 ⟨by omega, ?_⟩)
        -- all others lie behind r: they are out of reach too
        rcases Classical.em (r.1 - a < m) with h | h
        · exact h
        · have hf : freeB t a m = true := by
            unfold freeB
            rw [List.all_eq_true]
            intro q hq
            have := g1 q hq
            cases hj : inRun a m q with
            | false => rfl
            | true =>
              have := (inRun_iff.1 hj).2
              omega
          rw [run_free t a m hf] at h2
          omega
/-- no lesser run is free -/
theorem run_least : ∀ (l : Tb) (a m x : Int), a ≤ x → x < runN l a m → freeB l x m = false
  | [], a, m, x, h1, h2 => by
    have : runN [] a m = a := rfl
    omega
  | r :: t, a, m, x, h1, h2 => by
    have h2 : x < runN t (stepR m a r) m := h2
    by_cases hr : inRun a m r = true
    · have e1 : stepR m a r = r.1 + 1 := by unfold stepR; rw [if_pos hr]
      obtain ⟨h3, h4⟩ := inRun_iff.1 hr
      by_cases hx : x ≤ r.1
      · unfold freeB
        rw [List.all_cons, inRun_iff.2 ⟨hx, by omega⟩]
        rfl
      · have := run_least t (stepR m a r) m x (by omega) h2
        unfold freeB at this ⊢
        rw [List.all_cons, this, Bool.and_false]
    · have e1 : stepR m a r = a := by unfold stepR; rw [if_neg hr]
      have := run_least t (stepR m a r) m x (by omega) h2
      unfold freeB at this ⊢
      rw [List.all_cons, this, Bool.and_false]
theorem run_le : ∀ (l : Tb) (a m : Int), 0 ≤ m → runN l a m ≤ a + m * (l.length : Int)
  | [], a, m, _ => by show a ≤ _; simp
  | r :: t, a, m, h => by
    have h1 := run_le t (stepR m a r) m h
    have h2 : stepR m a r ≤ a + m := by
      unfold stepR
      split
      next h => have := (inRun_iff.1 h).2; omega
      · omega
    show runN t (stepR m a r) m ≤ _
    rw [List.length_cons]
    have : m * ((t.length + 1 : Nat) : Int) = m * (t.length : Int) + m := by
      rw [Int.natCast_succ, Int.mul_add, Int.mul_one]
    omega
theorem run_snoc (l : Tb) (r : Int × En) (a m : Int) : runN (l ++ [r]) a m = stepR m (runN l a m) r := by
  unfold runN
  rw [List.foldl_append]
  rfl
theorem next_out {l : Tb} {a m at_ : Int} (hm : 1 ≤ m) (h0 : 0 ≤ at_) (he : runN l (max 0 a) m = runN l at_ m) (hw : wholeB at_ m = false) : nextI l a m = -1 := by
  have hge := run_ge l at_ m
  unfold nextI
  split
  · rfl
  next h1 =>
    rw [if_pos]
    unfold wholeB at hw
    rw [Bool.and_eq_false_iff] at hw
    rw [he]
    rcases hw with h | h
    · have : ¬ (0 ≤ at_ ∧ at_ < 65536) := fun h2 => by rw [pageB_iff.2 h2] at h; cases h
      omega
    · have : ¬ (m ≤ 65536 - at_) := by simpa using h
      omega
theorem next_in {l : Tb} {a m at_ : Int} (hm : 1 ≤ m) (he : runN l (max 0 a) m = runN l at_ m) (hw : wholeB at_ m = true) (hf : freeB l at_ m = true) : nextI l a m = at_ ∧ 0 ≤ at_ := by
  unfold wholeB at hw
  rw [Bool.and_eq_true, pageB_iff] at hw
  have h2 : m ≤ 65536 - at_ := by simpa using hw.2
  unfold nextI
  rw [if_neg (by omega), he, run_free l at_ m hf, if_neg (by omega)]
  exact ⟨rfl, hw.1.1⟩
end Go.Proofs.Ytmocdokikcbjeaa
