import Derived.Test.YtodbaahnmmfgiaaLN
namespace Go.Proofs.Ytodbaahnmmfgiaa.Lk
open Go.RowKit Go.Shelf
attribute [local go_sem] Oper.semAt_some

/- LOCKHOLDS' STATES. -/
section
variable {Has : HasT} (H : Api Has) {w V V' : World} {v : Value} {l l' : Ls}
include H
theorem Run.drew (h : Run Has w v l V) : Run Has w v l V.drew := by
  obtain ⟨F, h1, h2, h3⟩ := h
  exact ⟨F, H.keep h1 fun _ _ => rfl, h2, ⟨h3.os, h3.tape, h3.output, h3.size, h3.block⟩⟩
/-- beside a list that grows: locks, and a copy of them -/
theorem GI.keep {w5 : World} {s : Value} {n : Nat} {pre : Ls} {F : Nat → Prop} {v : Value} (h : GI w5 s n pre V) (ho : Has V v l F) (hF : ∀ k, F k → w5.heap.size ≤ k) (hk : Keep F V V') : GI w5 s n pre V' := by
  obtain ⟨A, c, e, hown, hb⟩ := h
  refine ⟨A, c, e, own_same hown (fun k hk' => hk.block k (hown.lt k hk').2 (fun hf => ?_)), hb.trans (hk.below hF hb.size)⟩
  obtain ⟨_, ⟨hv, _⟩ | ⟨g, cap, cur, hv, _, hg, _⟩⟩ := hown
  · rw [hv] at hk'; cases hk'
  · rw [hv] at hk'
    injection hk' with hk'
    subst hk'
    exact H.off ho g cur.toList hg hf
omit H in
theorem GI.more {w5 : World} {s : Value} {n : Nat} {pre : Ls} (h : GI w5 s n pre V) (hb : Below V.heap.size V V') : GI w5 s n pre V' := by
  obtain ⟨A, c, e, hown, hb5⟩ := h
  exact ⟨A, c, e, own_same hown (fun k hk => hb.block k (hown.lt k hk).2), below0 hb5 hb⟩
def Cp (Has : HasT) (w : World) (v : Value) (l : Ls) (w5 : World) (s : Value) (n : Nat) (pre : Ls) (v' : Value) (V : World) : Prop :=
  ∃ F F', Has V v l F ∧ (∀ k, F k → w.heap.size ≤ k) ∧ Below w.heap.size w V ∧ Has V v' l F' ∧ (∀ k, F' k → ¬ F k ∧ w5.heap.size ≤ k ∧ w.heap.size ≤ k) ∧ GI w5 s n pre V
theorem Run.copy {w5 : World} {s : Value} {n : Nat} {pre : Ls} (h : Run Has w v l V) (hg : GI w5 s n pre V) : Calls Try.prog 18 #[v] V fun e V' => ∃ v', e = .returned v' ∧ Cp Has w v l w5 s n pre v' V' := by
  obtain ⟨F, h1, h2, h3⟩ := h
  refine (H.copy h1).mono ?_
  rintro e V' ⟨v', F', rfl, c1, c2, c3⟩
  have hs5 : w5.heap.size ≤ V.heap.size := by
    obtain ⟨_, _, _, _, hb⟩ := hg
    exact hb.size
  have hs := h3.size
  exact ⟨v', rfl, F, F', H.below h1 c3, h2, below0 h3 c3, c1, fun k hk => ⟨fun hf => by have := H.lt h1 k hf; have := c2 k hk; omega, by have := c2 k hk; omega, by have := c2 k hk; omega⟩, hg.more c3⟩
theorem Cp.try_ {w5 : World} {s v' : Value} {n : Nat} {pre : Ls} (h : Cp Has w v l w5 s n pre v' V) (t r : Int) (ht : i64 t) (hr : i64 r) : Calls Try.prog 20 #[v', .int .i64 t, .int .i64 r] V fun e V' => e = .returned (.tuple #[.bool (tryQ l t r), .int .i64 (asksE l t r)]) ∧ Run Has w v l V' ∧ GI w5 s n pre V' := by
  obtain ⟨F, F', h1, h2, h3, h4, h5, h6⟩ := h
  refine (H.try_ t r h4 ht hr).mono ?_
  rintro e V' ⟨rfl, F2, a1, a2, a3⟩
  exact ⟨rfl, ⟨F, H.keep h1 (fun k hk => a2.block k (H.lt h1 k hk) (fun hf => (h5 k hf).1 hk)), h2, h3.trans (a2.below (fun k hk => (h5 k hk).2.2) h3.size)⟩, GI.keep H h6 h4 (fun k hk => (h5 k hk).2.1) a2⟩
theorem Run.dropNo (h : Run Has w v l V) (t : Int) (ht : i64 t) (hth : threadB t = false) : Calls Try.prog 22 #[v, .int .i64 t] V fun e V' => e = .returned (.tuple #[.int .i64 0, .int .i64 2]) ∧ Run Has w v l V' := by
  have h' := h
  obtain ⟨F, h1, h2, h3⟩ := h
  exact (H.dropNo t h1 ht hth).mono fun _ _ ⟨e, hb⟩ => ⟨e, Run.more H h' hb⟩
theorem Run.drops (h : Run Has w v l V) (t : Int) (ht : i64 t) : Calls Try.prog 22 #[v, .int .i64 t] V fun e V' => ∃ a b l', e = .returned (.tuple #[.int .i64 a, .int .i64 b]) ∧ Run Has w v l' V' := by
  cases hth : threadB t
  · exact (Run.dropNo H h t ht hth).mono fun _ _ ⟨e, hr⟩ => ⟨_, _, _, e, hr⟩
  · exact (Run.drop H h t ht hth).mono fun _ _ ⟨e, hr, _⟩ => ⟨_, _, _, e, hr⟩
theorem Run.ths (h : Run Has w v l V) : Ths l := by
  obtain ⟨F, h1, _⟩ := h
  exact H.ths h1
end
theorem Run.app {Has : HasT} (H : Api Has) {w w5 V V' : World} {v s : Value} {l : Ls} {n : Nat} {xs : List Value} {ob : Obj} (h : Run Has w v l V) (ho : V.ownsRow w5.heap.size 3 1 s n xs) (h5 : w.heap.size ≤ w5.heap.size) (hg : (V.alloc ob).grownBy V' s.ownBlock) : Run Has w v l V' := by
  obtain ⟨F, h1, h2, h3⟩ := h
  refine ⟨F, H.keep h1 (fun k hk => ?_), h2, (h3.alloc h3.size ob).grown hg (by rw [World.size_alloc]; have := h3.size; omega) (fun k hk => Nat.le_trans h5 (ho.lt k hk).1)⟩
  have hlt := H.lt h1 k hk
  refine (hg.block k (by rw [World.size_alloc]; omega) (fun e => ?_)).trans (Below.heap_alloc _ _ _ hlt)
  obtain ⟨_, ⟨hv, _⟩ | ⟨g, cap, cur, hv, _, hgg, _⟩⟩ := ho
  · rw [hv] at e; cases e
  · rw [hv] at e
    injection e with e
    subst e
    exact H.off h1 _ cur.toList hgg hk
/-- what the law's list of waits holds so far -/
structure WP (l : Ls) (t : Nat) (pre : Ls) (goes : Nat) : Prop where
  len : pre.length = t
  ok : ∀ i : Nat, i < t → pre.getD i (-1) = -1 ∨ (0 ≤ pre.getD i (-1) ∧ asksE l (i : Int) (pre.getD i (-1)) = 0 ∧ 0 ≤ l.getD (pre.getD i (-1)).toNat (-1))
  none_ : goes = 0 → ∀ i : Nat, i < t → 0 ≤ pre.getD i (-1)
  most : goes ≤ t
theorem WP.step {l pre : Ls} {t goes : Nat} (h : WP l t pre goes) {x : Int} (hx : x = -1 ∨ (0 ≤ x ∧ asksE l (t : Int) x = 0 ∧ 0 ≤ l.getD x.toNat (-1))) {g2 : Nat} (hg : g2 = if x = -1 then goes + 1 else goes) : WP l (t + 1) (pre ++ [x]) g2 := by
  have hl := h.len
  have e1 : ∀ i, i < t → (pre ++ [x]).getD i (-1) = pre.getD i (-1) := fun i hi => by
    rw [List.getD_eq_getElem?_getD, List.getD_eq_getElem?_getD, List.getElem?_append_left (by omega)]
  have e2 : (pre ++ [x]).getD t (-1) = x := by
    rw [List.getD_eq_getElem?_getD, List.getElem?_append_right (by omega), hl]
    simp
  refine ⟨by simp [hl], fun i hi => ?_, fun h0 i hi => ?_, ?_⟩
  · by_cases e : i < t
    · rw [e1 i e]
      exact h.ok i e
    · obtain rfl : i = t := by omega
      rw [e2]
      exact hx
  · by_cases hxm : x = -1
    · rw [if_pos hxm] at hg; omega
    · rw [if_neg hxm] at hg
      by_cases e : i < t
      · rw [e1 i e]
        exact h.none_ (by omega) i e
      · obtain rfl : i = t := by omega
        rw [e2]
        rcases hx with hx | hx
        · exact absurd hx hxm
        · exact hx.1
  · have := h.most
    rw [hg]
    split <;> omega
theorem WP.nil_ (l : Ls) : WP l 0 [] 0 := ⟨rfl, fun i h => absurd h (by omega), fun _ i h => absurd h (by omega), Nat.le_refl _⟩
theorem WP.wok {l pre : Ls} {goes : Nat} (h : WP l 4 pre goes) : WOK l pre := ⟨h.len, h.ok⟩
theorem WP.goes {l pre : Ls} {goes : Nat} (hths : Ths l) (h : WP l 4 pre goes) : 0 < goes := by
  apply Nat.pos_of_ne_zero
  intro h0
  obtain ⟨q, u, e, hu⟩ := (chain_good hths h.wok (t := 0) (by omega)).last
  have hr := (chain_good hths h.wok (t := 0) (by omega)).rng u (by rw [e]; simp)
  obtain ⟨k, rfl⟩ : ∃ k : Nat, u = k := ⟨u.toNat, by omega⟩
  have := h.none_ h0 k (by omega)
  unfold waitOf at hu
  rw [Int.toNat_natCast] at hu
  omega
/-- which threads a chain has named so far -/
def seenC (c : Ls) (i : Nat) : List Value := (List.range 4).map fun j : Nat => .bool (decide ((j : Int) ∈ c.take i))
theorem seenC_get (c : Ls) (i k : Nat) (hk : k < 4) : (seenC c i)[k]? = some (.bool (decide ((k : Int) ∈ c.take i))) := by
  unfold seenC
  rw [List.getElem?_map, List.getElem?_range hk]
  rfl
theorem seenC_zero (c : Ls) : seenC c 0 = [.bool false, .bool false, .bool false, .bool false] := by
  simp [seenC, List.range_succ]
theorem seenC_step {c : Ls} {i k : Nat} (hi : i < c.length) (hc : c[i] = (k : Int)) : (seenC c i).set k (.bool true) = seenC c (i + 1) := by
  apply List.ext_getElem?
  intro j
  by_cases hj : j < 4
  · rw [seenC_get c (i + 1) j hj, List.take_succ_eq_append_getElem hi, hc]
    by_cases e : k = j
    · subst e
      rw [List.getElem?_set_self (by unfold seenC; simpa using hj)]
      simp
    · rw [List.getElem?_set_ne e, seenC_get c i j hj]
      have : ((j : Int) ∈ c.take i ++ [(k : Int)]) ↔ (j : Int) ∈ c.take i := by
        rw [List.mem_append, List.mem_singleton]
        constructor
        · rintro (h | h)
          · exact h
          · omega
        · exact .inl
      rw [decide_eq_decide.2 this]
  · rw [List.getElem?_eq_none (by unfold seenC; simp; omega), List.getElem?_eq_none (by unfold seenC; simp; omega)]
theorem take_fresh {c : Ls} (hn : c.Nodup) {i : Nat} (hi : i < c.length) : c[i] ∉ c.take i := by
  intro h
  obtain ⟨j, hj, e⟩ := List.getElem_of_mem h
  rw [List.length_take] at hj
  rw [List.getElem_take] at e
  have := List.pairwise_iff_getElem.1 hn j i (by omega) hi (by omega)
  exact this e
end Go.Proofs.Ytodbaahnmmfgiaa.Lk
