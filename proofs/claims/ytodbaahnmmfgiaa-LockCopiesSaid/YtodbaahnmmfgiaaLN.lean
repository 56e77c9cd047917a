import Derived.Test.YtodbaahnmmfgiaaLM
namespace Go.Proofs.Ytodbaahnmmfgiaa.Lk
open Go.RowKit Go.Shelf
attribute [local go_sem] Oper.semAt_some

/- A CHAIN NAMES NO THREAD TWICE, ITS LAST ONE DOES NOT WAIT: PLAINLY. -/
def waitOf (ws : Ls) (t : Int) : Int := ws.getD t.toNat (-1)
/-- each thread waits for what it may try and another one has, or for nothing -/
def WOK (l ws : Ls) : Prop := ws.length = 4 ∧ ∀ t : Nat, t < 4 → ws.getD t (-1) = -1 ∨ (0 ≤ ws.getD t (-1) ∧ asksE l (t : Int) (ws.getD t (-1)) = 0 ∧ 0 ≤ l.getD (ws.getD t (-1)).toNat (-1))
theorem asks_high {l : Ls} {t : Int} {k : Nat} (h : asksE l t (k : Int) = 0) : ∀ j, (hj : j < l.length) → l[j] = t → 0 ≤ t → j < k := by
  intro j hj hjt h0
  unfold asksE at h
  split at h
  · cases h
  · split at h
    · cases h
    · split at h
      · cases h
      · rename_i hh
        rw [Int.toNat_natCast] at hh
        apply Nat.lt_of_not_le
        intro hkj
        apply hh
        unfold highB
        rw [List.any_eq_true]
        exact ⟨j, held_mem.2 ⟨h0, hj, hjt⟩, decide_eq_true hkj⟩
theorem next_some {l ws : Ls} {t u : Int} (hths : Ths l) (hok : WOK l ws) (ht : 0 ≤ t ∧ t < 4) (h : nextT l ws t = some u) : (0 ≤ u ∧ u < 4) ∧ 0 ≤ waitOf ws t ∧ (0 ≤ waitOf ws u → waitOf ws t < waitOf ws u) := by
  obtain ⟨k, rfl⟩ : ∃ k : Nat, t = k := ⟨t.toNat, by omega⟩
  unfold nextT at h
  split at h
  · cases h
  · split at h
    · cases h
    · split at h
      · cases h
      · rename_i h1 h2 h3
        injection h with h
        have hw : waitOf ws (k : Int) = ws.getD (k : Int).toNat (-1) := rfl
        rw [← hw] at h2 h3 h
        obtain ⟨r, hr⟩ : ∃ r : Nat, waitOf ws (k : Int) = r := ⟨(waitOf ws (k : Int)).toNat, by omega⟩
        rw [hr] at h2 h3 h ⊢
        rw [Int.toNat_natCast] at h3 h
        have hrl : r < l.length := by
          apply Nat.lt_of_not_le
          intro hle
          have : l.getD r (-1) = -1 := by simp [hle]
          omega
        have hgd : l.getD r (-1) = l[r] := by simp [hrl]
        rw [hgd] at h h3
        have hu := hths _ (List.getElem_mem hrl)
        rw [h] at hu h3
        refine ⟨⟨by omega, hu.2⟩, by omega, fun hwu => ?_⟩
        obtain ⟨v, rfl⟩ : ∃ v : Nat, u = v := ⟨u.toNat, by omega⟩
        have hv := hok.2 v (by omega)
        have hw2 : waitOf ws (v : Int) = ws.getD v (-1) := by unfold waitOf; rw [Int.toNat_natCast]
        rw [hw2] at hwu ⊢
        rcases hv with hv | ⟨_, ha, _⟩
        · omega
        · obtain ⟨q, hq⟩ : ∃ q : Nat, ws.getD v (-1) = q := ⟨(ws.getD v (-1)).toNat, by omega⟩
          rw [hq] at ha ⊢
          have := asks_high ha r hrl h (by omega)
          omega
theorem next_none {l ws : Ls} {t : Int} (hok : WOK l ws) (ht : 0 ≤ t ∧ t < 4) (h : nextT l ws t = none) : waitOf ws t < 0 := by
  obtain ⟨k, rfl⟩ : ∃ k : Nat, t = k := ⟨t.toNat, by omega⟩
  have hk := hok.2 k (by omega)
  have hw : waitOf ws (k : Int) = ws.getD k (-1) := by unfold waitOf; rw [Int.toNat_natCast]
  rw [hw]
  unfold nextT at h
  rw [Int.toNat_natCast] at h
  rw [if_neg (by have := hok.1; omega)] at h
  split at h
  · rename_i h2
    exact h2
  · split at h
    · rename_i h2 h3
      rcases hk with hk | ⟨_, _, hk⟩ <;> omega
    · cases h
structure Good (ws : Ls) (t : Int) (c : Ls) : Prop where
  head : ∃ s, c = t :: s
  nodup : c.Nodup
  rng : ∀ z ∈ c, 0 ≤ z ∧ z < 4
  last : ∃ q u, c = q ++ [u] ∧ waitOf ws u < 0
theorem nodup_lt : ∀ (n : Nat) (c : Ls), c.Nodup → (∀ z ∈ c, 0 ≤ z ∧ z < (n : Int)) → c.length ≤ n
  | 0, [], _, _ => Nat.le_refl _
  | 0, z :: r, _, h => by
    have := h z (by simp)
    omega
  | n + 1, c, hn, h => by
    by_cases hm : (n : Int) ∈ c
    · have h1 := nodup_lt n (c.erase (n : Int)) (hn.erase _) (fun z hz => by
        have h2 := (hn.mem_erase_iff).1 hz
        have h3 := h z h2.2
        have h4 := h2.1
        omega)
      rw [List.length_erase_of_mem hm] at h1
      omega
    · have := nodup_lt n c hn (fun z hz => by
        have h3 := h z hz
        have h4 : z ≠ (n : Int) := fun e => hm (e ▸ hz)
        omega)
      omega
theorem nodup_len {c : Ls} (hn : c.Nodup) (hr : ∀ z ∈ c, 0 ≤ z ∧ z < 4) : c.length ≤ 4 := nodup_lt 4 c hn hr
theorem chainGo_ok {l ws : Ls} (hths : Ths l) (hok : WOK l ws) : ∀ (f : Nat) (pre : Ls) (t : Int), pre.length + f = 5 → (0 ≤ t ∧ t < 4) → pre.Nodup → (∀ p ∈ pre, (0 ≤ p ∧ p < 4) ∧ 0 ≤ waitOf ws p ∧ (0 ≤ waitOf ws t → waitOf ws p < waitOf ws t)) →
    ∃ s, chainGo l ws f pre t = pre ++ t :: s ∧ (chainGo l ws f pre t).Nodup ∧ (∀ z ∈ chainGo l ws f pre t, 0 ≤ z ∧ z < 4) ∧ ∃ q u, chainGo l ws f pre t = q ++ [u] ∧ waitOf ws u < 0 := by
  intro f
  induction f with
  | zero =>
    intro pre t hl ht hn hp
    have := nodup_len hn (fun z hz => (hp z hz).1)
    omega
  | succ f ih =>
    intro pre t hl ht hn hp
    have htn : t ∉ pre := fun hm => by
      have h1 := hp t hm
      have := h1.2.2 h1.2.1
      omega
    have hn2 : (pre ++ [t]).Nodup := List.nodup_append.2 ⟨hn, by simp, fun a ha b hb => by
      rw [List.mem_singleton] at hb
      subst hb
      exact fun e => htn (e ▸ ha)⟩
    have hr2 : ∀ z ∈ pre ++ [t], 0 ≤ z ∧ z < 4 := fun z hz => by
      rcases List.mem_append.1 hz with h | h
      · exact (hp z h).1
      · rw [List.mem_singleton] at h
        subst h
        exact ht
    cases hx : nextT l ws t with
    | none =>
      have e : chainGo l ws (f + 1) pre t = pre ++ [t] := by
        show (match nextT l ws t with | none => pre ++ [t] | some u => chainGo l ws f (pre ++ [t]) u) = _
        rw [hx]
      rw [e]
      exact ⟨[], rfl, hn2, hr2, pre, t, rfl, next_none hok ht hx⟩
    | some u =>
      have e : chainGo l ws (f + 1) pre t = chainGo l ws f (pre ++ [t]) u := by
        show (match nextT l ws t with | none => pre ++ [t] | some u => chainGo l ws f (pre ++ [t]) u) = _
        rw [hx]
      obtain ⟨h1, h2, h3⟩ := next_some hths hok ht hx
      have := ih (pre ++ [t]) u (by simp; omega) h1 hn2 (fun p hp' => by
        rcases List.mem_append.1 hp' with h | h
        · have h4 := hp p h
          refine ⟨h4.1, h4.2.1, fun hu => ?_⟩
          have h5 := h3 hu
          have h6 := h4.2.2 h2
          omega
        · rw [List.mem_singleton] at h
          subst h
          exact ⟨ht, h2, h3⟩)
      rw [e]
      obtain ⟨s, e2, r⟩ := this
      exact ⟨u :: s, by rw [e2]; simp, r⟩
theorem wok_E {l ws : Ls} (hok : WOK l ws) {t : Int} (ht : 0 ≤ t ∧ t < 4) : chainE l t ws = 0 := by
  have hr : rangeB l ws = true := rangeB_iff.2 (fun i hi => by
    have h4 := hok.1
    have hgd : ws.getD i (-1) = ws[i] := by simp [hi]
    have := hok.2 i (by omega)
    rw [hgd] at this
    refine decide_eq_true ?_
    rcases this with h | ⟨h1, h2, _⟩
    · rw [h]; omega
    · obtain ⟨k, e, hk, _⟩ := asks_in h2
      omega)
  have ho : orderB l ws = true := orderB_iff.2 (fun i hi => by
    have h4 := hok.1
    unfold orderAt
    rcases hok.2 i (by omega) with h | ⟨_, h2, _⟩
    · rw [h]; rfl
    · rw [h2]; simp)
  unfold chainE
  rw [if_neg (by rw [show threadB t = true from decide_eq_true ht, hok.1]; simp), if_neg (by rw [hr]; decide), if_neg (by rw [ho]; decide)]
theorem chain_good {l ws : Ls} (hths : Ths l) (hok : WOK l ws) {t : Int} (ht : 0 ≤ t ∧ t < 4) : Good ws t (chainR l t ws) := by
  unfold chainR
  rw [if_pos (wok_E hok ht)]
  obtain ⟨s, e, h1, h2, h3⟩ := chainGo_ok hths hok 5 [] t rfl ht List.nodup_nil (fun p hp => by cases hp)
  exact ⟨⟨s, e⟩, h1, h2, h3⟩
end Go.Proofs.Ytodbaahnmmfgiaa.Lk
