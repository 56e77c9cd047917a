import Derived.Test.YtmbjjbgpcacoeaaGreatBase
import Derived.OrdersIn
import Derived.Deep.RegionHeld3
namespace Go.Proofs.YtmbjjbgpcacoeaaGreat
open Go.RowKit

/- A DRAWN REGION, SOME OF WHOSE LAST OPERATIONS WAIT FOR ALL THAT STAND AHEAD OF THEM (a yield behind loads and calls): what stands ahead is walked as outside of a fence ('go_region_held3', 'wpAnyH ..'), what is left within it. -/

/-- may the region be cut behind its first m operations? -/
def cutOk (ops : Array Oper) (m : Nat) : Bool :=
  (decide (0 < m) && decide (m ≤ ops.size)) && (List.range ops.size).all fun j => match ops[j]? with
    | none => true
    | some o => (o.after.all fun e => !Region.binds .any e || decide (e.on < j)) &&
        ((decide (j < m) || o.after.any fun e => Region.binds .any e && decide (m ≤ e.on + 1)) &&
        ((decide (m ≤ j + 1) || (List.range m).any fun k => ((ops[k]?).map fun ok => ok.after.any fun e => Region.binds .any e && e.on == j).getD false) &&
        (match o.guard with | none => true | some g => decide (g.1 < m) || decide (m ≤ j))))

section
variable {ops : Array Oper} {m : Nat}
theorem cut_size (h : cutOk ops m = true) : 0 < m ∧ m ≤ ops.size := by
  unfold cutOk at h
  simp only [Bool.and_eq_true, decide_eq_true_eq] at h
  exact h.1
theorem cut_op (h : cutOk ops m = true) {j : Nat} {o : Oper} (ho : ops[j]? = some o) :
    (∀ e ∈ o.after, Region.binds .any e = true → e.on < j) ∧ (j < m ∨ ∃ e ∈ o.after, Region.binds .any e = true ∧ m ≤ e.on + 1) ∧
      (m ≤ j + 1 ∨ ∃ k, k < m ∧ ∃ ok, ops[k]? = some ok ∧ ∃ e ∈ ok.after, Region.binds .any e = true ∧ e.on = j) ∧ (∀ g, o.guard = some g → g.1 < m ∨ m ≤ j) := by
  unfold cutOk at h
  simp only [Bool.and_eq_true, List.all_eq_true, List.mem_range] at h
  have h := h.2 j (Array.getElem?_eq_some_iff.1 ho).1
  rw [ho] at h
  simp only [Bool.and_eq_true, Bool.or_eq_true, decide_eq_true_eq, Array.all_eq_true', Array.any_eq_true', List.any_eq_true, List.mem_range, Bool.not_eq_true'] at h
  obtain ⟨h1, h2, h3, h4⟩ := h
  refine ⟨fun e he hb => ?_, ?_, ?_, fun g hg => ?_⟩
  · rcases h1 e he with h | h
    · rw [hb] at h; cases h
    · exact h
  · exact h2
  · rcases h3 with h | ⟨k, hk, h⟩
    · exact .inl h
    · right
      refine ⟨k, hk, ?_⟩
      cases hok : ops[k]? with
      | none => rw [hok] at h; simp at h
      | some ok =>
        rw [hok] at h
        simp only [Option.map_some, Option.getD_some, Array.any_eq_true', Bool.and_eq_true, beq_iff_eq] at h
        obtain ⟨e, he, hb, hon⟩ := h
        exact ⟨ok, rfl, e, he, hb, hon⟩
  · rw [hg] at h4
    simpa using h4
end

theorem rowsIn_wide {n : Nat} {P : Program} {row : String} {args : Array Value} {w : World} {R : Value → World → Prop} (h : Rows P row args w R) : RowsIn Fence.wide n P row args w R :=
  fun c cs _ => let ⟨v, w', r, s⟩ := h c cs; ⟨v, w', r, stepsIn_wide.2 s⟩
/-- an operation that goes outside of a fence, with no panic, goes within the wide one -/
theorem oper_in {n : Nat} {P : Program} {o : Oper} {a : Act} {w : World} {K : Act → World → Prop} {Q Q' : Exit → Act → World → Prop} (hp : ∀ c a w, ¬ Q (.panic c) a w) (ho : ∀ a w, ¬ Q .outgrown a w)
    (h : o.wp P a w K Q) : o.wpIn Fence.wide n P a w K Q' := by
  refine ⟨fun _ _ => trivial, ?_⟩
  rw [show Fence.wide.round = none from rfl, Oper.semAt_none]
  unfold Oper.wp at h
  generalize (execOp a.eval o).run P w = r at h ⊢
  cases r with
  | ok x w' =>
    cases x <;> simp only [Oper.upon] at h <;> simp only [Oper.uponIn]
    case value u => exact h
    case skip => exact h
    case defer d => exact h
    case enter f args =>
      refine ⟨fun h => (by simp [Fence.wide] at h), callsIn_wide.2 (h.mono fun e w'' he => ?_)⟩
      cases e with
      | returned u => exact he
      | panicked c => exact absurd he (hp _ _ _)
      | outgrown => obtain ⟨a', w3, h3⟩ := he; exact absurd h3 (ho _ _)
    case row row args => exact ⟨fun h => (by simp [Fence.wide] at h), rowsIn_wide h⟩
  | halt x w' =>
    cases x <;> simp only [Oper.upon] at h
    case panic u => exact absurd h (hp _ _ _)

theorem wpAnyIn_more {F : Fence} {n : Nat} {P : Program} {md : Region.Mode} {ops : Array Oper} {Q : Exit → Act → World → Prop} : ∀ (fuel : Nat) (L : Array Bool) (a : Act) (w : World), wpAnyIn F n P md ops Q fuel L a w → wpAnyIn F n P md ops Q (fuel + 1) L a w
  | 0, _, _, _, h => ⟨fun _ => h.2, by rw [h.1]; simp⟩
  | fuel + 1, _, _, _, h => ⟨h.1, fun i hi => wpOpIn_mono (fun a w => wpAnyIn_more fuel _ a w) (h.2 i hi)⟩
theorem wpAnyIn_far {F : Fence} {n : Nat} {P : Program} {md : Region.Mode} {ops : Array Oper} {Q : Exit → Act → World → Prop} {fuel : Nat} {L : Array Bool} {a : Act} {w : World} (h : wpAnyIn F n P md ops Q fuel L a w) : ∀ k, wpAnyIn F n P md ops Q (k + fuel) L a w
  | 0 => by rw [Nat.zero_add]; exact h
  | k + 1 => by rw [Nat.add_right_comm]; exact wpAnyIn_more _ _ _ _ (wpAnyIn_far h k)

/-- the first m have come up, no other one -/
def full (m N : Nat) : Array Bool := (List.replicate m true ++ List.replicate (N - m) false).toArray
/-- what follows on the first m -/
def restQ (n : Nat) (P : Program) (ops : Array Oper) (Q : Exit → Act → World → Prop) (m : Nat) : Exit → Act → World → Prop
  | .normal, a, w => wpAnyIn Fence.wide n P .any ops Q (ops.size - m) (full m ops.size) a w
  | _, _, _ => False

theorem getD_rep (N j : Nat) : (Array.replicate N false).getD j false = false := by
  rw [Array.getD_eq_getD_getElem?, Array.getElem?_replicate]
  split <;> rfl
theorem getD_lt {L : Array Bool} {j : Nat} (h : j < L.size) (b c : Bool) : L.getD j b = L.getD j c := by simp [h]
theorem getD_set {L : Array Bool} {i j : Nat} (hi : i < L.size) (b : Bool) : (L.setIfInBounds i true).getD j b = if i = j then true else L.getD j b := by
  by_cases h : i = j
  · subst h
    simp [hi]
  · rw [if_neg h, getD_set_ne b h]

section
variable {n : Nat} {P : Program} {ops pre : Array Oper} {Q : Exit → Act → World → Prop} {m : Nat}
theorem cut_go (hc : cutOk ops m = true) (hs : pre.size = m) (hpre : ∀ j, j < m → pre[j]? = ops[j]?) : ∀ (fuel : Nat) (L L' : Array Bool) (a : Act) (w : World), L.size = ops.size → L'.size = m →
    (∀ j, j < m → L'.getD j false = L.getD j false) → (∀ j, m ≤ j → j < ops.size → L.getD j false = false) →
    (∀ k ok, ops[k]? = some ok → L.getD k false = true → ∀ e ∈ ok.after, Region.binds .any e = true → L.getD e.on false = true) → L.getD (m - 1) false = false →
    wpAny P .any pre (restQ n P ops Q m) fuel L' a w → wpAnyIn Fence.wide n P .any ops Q (fuel + (ops.size - m)) L a w := by
  have hm := cut_size hc
  -- while the last of the first m is still to come, one may come up
  have some_ready : ∀ (L L' : Array Bool), L.size = ops.size → L'.size = m → (∀ j, j < m → L'.getD j false = L.getD j false) → L.getD (m - 1) false = false → ∃ i, i ∈ Region.ready .any ops L ∧ i ∈ Region.ready .any pre L' := by
    intro L L' hL hL' hLL hlast
    have key : ∀ j, j < m → L.getD j false = false → ∃ i, i < m ∧ L.getD i false = false ∧ ∀ k, k < i → L.getD k false = true := by
      intro j
      induction j using Nat.strongRecOn with
      | ind j ih =>
        intro hj hu
        by_cases h : ∃ k, k < j ∧ L.getD k false = false
        · obtain ⟨k, hk, hku⟩ := h
          exact ih k hk (by omega) hku
        · refine ⟨j, hj, hu, fun k hk => ?_⟩
          cases hb : L.getD k false
          · exact absurd ⟨k, hk, hb⟩ h
          · rfl
    obtain ⟨i, hi, hu, hall⟩ := key (m - 1) (by omega) hlast
    obtain ⟨o, ho⟩ : ∃ o, ops[i]? = some o := ⟨ops[i]'(by omega), Array.getElem?_eq_getElem _⟩
    have h1 := (cut_op hc ho).1
    refine ⟨i, mem_ready.2 ⟨by rw [getD_lt (by omega) true false]; exact hu, o, ho, fun e he hb => hall _ (h1 e he hb)⟩,
      mem_ready.2 ⟨by rw [getD_lt (by omega) true false, hLL i hi]; exact hu, o, by rw [hpre i hi]; exact ho, fun e he hb => ?_⟩⟩
    have := h1 e he hb
    rw [hLL _ (by omega)]
    exact hall _ this
  intro fuel
  induction fuel with
  | zero =>
    intro L L' a w hL hL' hLL _ _ hlast h
    obtain ⟨i, _, hi⟩ := some_ready L L' hL hL' hLL hlast
    rw [h.1] at hi
    cases hi
  | succ fuel ih =>
    intro L L' a w hL hL' hLL hgt hcl hlast h
    rw [Nat.add_right_comm]
    refine ⟨fun h0 => ?_, fun i hi => ?_⟩
    · obtain ⟨i, hi, _⟩ := some_ready L L' hL hL' hLL hlast
      rw [h0] at hi
      cases hi
    · obtain ⟨hu, o, ho, hall⟩ := mem_ready.1 hi
      obtain ⟨c1, c2, c3, c4⟩ := cut_op hc ho
      have hlt : i < ops.size := (Array.getElem?_eq_some_iff.1 ho).1
      have him : i < m := by
        rcases c2 with h | ⟨e, he, hb, hon⟩
        · exact h
        · have := hall e he hb
          by_cases hel : e.on = m - 1
          · rw [hel, hlast] at this; cases this
          · have h2 : e.on < ops.size := by have := c1 e he hb; omega
            rw [hgt e.on (by omega) h2] at this; cases this
      have hir : i ∈ Region.ready .any pre L' := mem_ready.2 ⟨by rw [getD_lt (by omega) true false, hLL i him, ← getD_lt (by omega) true false]; exact hu, o, by rw [hpre i him]; exact ho, fun e he hb => by
        have := c1 e he hb
        rw [hLL _ (by omega)]
        exact hall e he hb⟩
      have hstep := h.2 i hir
      have hnext : ∀ a' w', wpAny P .any pre (restQ n P ops Q m) fuel (L'.setIfInBounds i true) a' w' → wpAnyIn Fence.wide n P .any ops Q (fuel + (ops.size - m)) (L.setIfInBounds i true) a' w' := by
        intro a' w' h'
        have hLL2 : ∀ j, j < m → (L'.setIfInBounds i true).getD j false = (L.setIfInBounds i true).getD j false := fun j hj => by
          rw [getD_set (by omega), getD_set (by omega), hLL j hj]
        have hgt2 : ∀ j, m ≤ j → j < ops.size → (L.setIfInBounds i true).getD j false = false := fun j hj hj2 => by
          rw [getD_set (by omega), if_neg (by omega)]
          exact hgt j hj hj2
        have hcl2 : ∀ k ok, ops[k]? = some ok → (L.setIfInBounds i true).getD k false = true → ∀ e ∈ ok.after, Region.binds .any e = true → (L.setIfInBounds i true).getD e.on false = true := by
          intro k ok hok hk e he hb
          by_cases hik : i = k
          · subst hik
            rw [ho] at hok
            injection hok with hok
            subst hok
            exact getD_set_true (hall e he hb)
          · rw [getD_set_ne false hik] at hk
            exact getD_set_true (hcl k ok hok hk e he hb)
        by_cases hil : i = m - 1
        · -- all of the first m have come up
          have hlisted : ∀ d j, j + d + 1 = m → (L.setIfInBounds i true).getD j false = true := by
            intro d
            induction d using Nat.strongRecOn with
            | ind d ihd =>
              intro j hj
              by_cases hjl : j = m - 1
              · rw [getD_set (by omega), if_pos (by omega)]
              · obtain ⟨oj, hoj⟩ : ∃ oj, ops[j]? = some oj := ⟨ops[j]'(by omega), Array.getElem?_eq_getElem _⟩
                rcases (cut_op hc hoj).2.2.1 with h | ⟨k, hk, ok, hok, e, he, hb, hon⟩
                · omega
                · have hkj := (cut_op hc hok).1 e he hb
                  rw [← hon]
                  exact hcl2 k ok hok (ihd (m - 1 - k) (by omega) k (by omega)) e he hb
          have hnone : Region.ready .any pre (L'.setIfInBounds i true) = [] := by
            apply List.eq_nil_iff_forall_not_mem.2
            intro j hj
            obtain ⟨hju, oj, hoj, _⟩ := mem_ready.1 hj
            have hjm : j < m := by rw [← hs]; exact (Array.getElem?_eq_some_iff.1 hoj).1
            rw [getD_lt (by simp; omega) true false, hLL2 j hjm, hlisted (m - 1 - j) j (by omega)] at hju
            cases hju
          have hend : restQ n P ops Q m .normal a' w' := by
            cases fuel with
            | zero => exact h'.2
            | succ fuel => exact h'.1 hnone
          have hfull : L.setIfInBounds i true = full m ops.size := by
            apply Array.ext
            · rw [Array.size_setIfInBounds, hL]; simp [full]; omega
            · intro j h1 h2
              have h1' : j < ops.size := by simpa [hL] using h1
              have e1 : (L.setIfInBounds i true)[j] = (L.setIfInBounds i true).getD j false := by rw [Array.getD_eq_getD_getElem?, Array.getElem?_eq_getElem h1]; rfl
              rw [e1]
              by_cases hjm : j < m
              · rw [hlisted (m - 1 - j) j (by omega)]
                simp [full, hjm]
              · rw [hgt2 j (by omega) h1']
                simp [full, List.getElem_append, hjm]
          rw [hfull]
          exact wpAnyIn_far hend fuel
        · exact ih _ _ a' w' (by simpa using hL) (by simpa using hL') hLL2 hgt2 hcl2 (by rw [getD_set (by omega), if_neg hil]; exact hlast) h'
      unfold wpOp at hstep
      rw [hpre i him, ho] at hstep
      unfold wpOpIn
      rw [ho]
      have hw : Region.wanted o (yielded pre a.tmps) = Region.wanted o (yielded ops a.tmps) := by
        unfold Region.wanted
        cases hg : o.guard with
        | none => rfl
        | some g =>
          have hgm : g.1 < m := by
            rcases c4 g hg with h | h
            · exact h
            · omega
          obtain ⟨g1, g2⟩ := g
          simp only [yielded, hpre g1 hgm]
      simp only [hw] at hstep
      simp only
      split at hstep
      · rename_i hww
        rw [if_pos hww]
        rcases hstep with h1 | ⟨_, a2, w2, h2⟩
        · exact oper_in (fun _ _ _ h => h) (fun _ _ h => h) (Oper.wp_mono hnext h1)
        · exact h2.elim
      · rename_i hww
        rw [if_neg hww]
        exact ⟨fun _ _ => trivial, hnext _ _ hstep⟩

/-- THE LAW. l: the operations; the first m of them are walked as outside of a fence. -/
theorem wpIn_region_cut {l : List Oper} (m : Nat) {id : Nat} {a : Act} {w : World} (S : World → Prop) (hm : P.follows .mixedOrders = true) (hc : cutOk l.toArray m = true) (hS : S w.drew)
    (h : S w.drew → wpAnyH P .any (l.take m).toArray (restQ n P l.toArray Q m) S m (Array.replicate m false) a w.drew) : (Code.region id l.toArray true).wpIn Fence.wide n P Q a w := by
  have hz := cut_size hc
  refine wpIn_region_any hm ?_
  have hf : l.toArray.size = m + (l.toArray.size - m) := by omega
  rw [hf]
  have hall : ∀ j, (Array.replicate (m + (l.toArray.size - m)) false).getD j false = false := getD_rep _
  refine cut_go (pre := (l.take m).toArray) hc (by simp at hz ⊢; omega) (fun j hj => by simp [hj]) m _ (Array.replicate m false) a _ (by simp at hz ⊢; omega) (by simp) (fun j _ => by rw [hall, getD_rep]) (fun j _ _ => hall j) (fun k ok _ hk => by rw [hall] at hk; cases hk) (hall _) ?_
  exact wpAny_of_held _ _ _ _ (h hS)
end
end Go.Proofs.YtmbjjbgpcacoeaaGreat
