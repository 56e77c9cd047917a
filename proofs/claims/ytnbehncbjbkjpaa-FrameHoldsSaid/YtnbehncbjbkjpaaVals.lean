import Derived.Test.YtnbehncbjbkjpaaSmall
import Derived.RangeFuncSeq
import Derived.Sort.MapsRangeIn
namespace Go.Proofs.Ytnbehncbjbkjpaa
open Go.RowKit Go.Shelf Go.Maps Go.Sort
attribute [local go_sem] Oper.semAt_some

/- maps.Values: ALL OWNERS, IN WHATEVER ORDER. -/

theorem ranges_same {k : TypeId} {R : Value → Option (DataW Unit × List MemPlace)} {w w' : World} {b r n : Nat} {D : DataW Unit} {left : Lit → Bool} {cnt : Nat}
    (h : w.ranges Try.prog k R b r n D left cnt) (hb : w'.heap[b]? = w.heap[b]?) (hr : w'.heap[r]? = w.heap[r]?) : w'.ranges Try.prog k R b r n D left cnt := by
  obtain ⟨es, clock, since, seen, c0, h1, F, hs, hD, h2, rest⟩ := h
  exact ⟨es, clock, since, seen, c0, hb.trans h1, F, hs, hD, hr.trans h2, rest⟩
theorem owns_same {k : TypeId} {R : Value → Option (DataW Unit × List MemPlace)} {w w' : World} {b n : Nat} {D : DataW Unit} (h : w.ownsMap Try.prog k R b n D) (hb : w'.heap[b]? = w.heap[b]?) : w'.ownsMap Try.prog k R b n D := by
  obtain ⟨es, clock, h1, rest⟩ := h
  exact ⟨es, clock, hb.trans h1, rest⟩

/-- who is whose -/
def pairsF : Nat → List (Option Nat) → List (Int × Int)
  | _, [] => []
  | s, none :: r => pairsF (s + 1) r
  | s, some o :: r => ((s : Int), (o : Int)) :: pairsF (s + 1) r
theorem pairs_ge : ∀ (s : Nat) (l : List (Option Nat)), ∀ p ∈ pairsF s l, (s : Int) ≤ p.1
  | _, [], n, h => by simp [pairsF] at h
  | s, none :: r, n, h => by
    have := pairs_ge (s + 1) r n h
    omega
  | s, some o :: r, n, h => by
    simp only [pairsF, List.mem_cons] at h
    rcases h with rfl | h
    · exact Int.le_refl _
    · have := pairs_ge (s + 1) r n h
      omega
theorem pairs_nodup : ∀ (s : Nat) (l : List (Option Nat)), (pairsF s l).Nodup
  | _, [] => by simp [pairsF]
  | s, none :: r => pairs_nodup (s + 1) r
  | s, some o :: r => by
    rw [pairsF, List.nodup_cons]
    exact ⟨fun h => by have := pairs_ge _ _ _ h; simp only at this; omega, pairs_nodup (s + 1) r⟩
theorem pairs_mem : ∀ (s : Nat) (l : List (Option Nat)) (p : Int × Int), p ∈ pairsF s l ↔ (s : Int) ≤ p.1 ∧ ∃ o : Nat, l[(p.1 - s).toNat]? = some (some o) ∧ p.2 = o
  | s, [], p => by simp [pairsF]
  | s, none :: r, p => by
    rw [pairsF, pairs_mem (s + 1) r p]
    constructor
    · rintro ⟨h1, o, h2, h3⟩
      exact ⟨by omega, o, by rw [show (p.1 - s).toNat = (p.1 - (s + 1 : Nat)).toNat + 1 by omega]; simpa using h2, h3⟩
    · rintro ⟨h1, o, h2, h3⟩
      rcases Int.lt_or_eq_of_le h1 with h1 | h1
      · refine ⟨by omega, o, ?_, h3⟩
        rw [show (p.1 - s).toNat = (p.1 - (s + 1 : Nat)).toNat + 1 by omega] at h2
        simpa using h2
      · rw [← h1] at h2
        simp at h2
  | s, some x :: r, p => by
    rw [pairsF, List.mem_cons, pairs_mem (s + 1) r p]
    constructor
    · rintro (rfl | ⟨h1, o, h2, h3⟩)
      · exact ⟨Int.le_refl _, x, by simp, rfl⟩
      · exact ⟨by omega, o, by rw [show (p.1 - s).toNat = (p.1 - (s + 1 : Nat)).toNat + 1 by omega]; simpa using h2, h3⟩
    · rintro ⟨h1, o, h2, h3⟩
      rcases Int.lt_or_eq_of_le h1 with h1 | h1
      · refine .inr ⟨by omega, o, ?_, h3⟩
        rw [show (p.1 - s).toNat = (p.1 - (s + 1 : Nat)).toNat + 1 by omega] at h2
        simpa using h2
      · rw [← h1] at h2
        simp at h2
        exact .inl (Prod.ext h1.symm (by rw [h3, h2]))
theorem pairs_count (k : Nat) : ∀ (s : Nat) (l : List (Option Nat)), (pairsF s l).countP (fun p => p.2 == (k : Int)) = l.countP (fun x => x == some k)
  | _, [] => rfl
  | s, none :: r => by
    rw [pairsF, pairs_count k (s + 1) r, List.countP_cons]
    rfl
  | s, some o :: r => by
    rw [pairsF, List.countP_cons, List.countP_cons, pairs_count k (s + 1) r]
    congr 1
    by_cases h : o = k
    · subst h; simp
    · have : ¬ (o : Int) = (k : Int) := by omega
      simp [h, this]
theorem count_ps {l : List (Option Nat)} {ps : List (Int × Int)} (hn : (ps.map (·.1)).Nodup) (hm : ∀ x, x ∈ ps.map (·.1) ↔ Maps.has (mapD l) (.int .i64 x) = true) (hv : ∀ p ∈ ps, ∀ zd, (mapD l).atKey (.int .i64 p.1) zd = .lit (.int .i64 p.2)) (k : Nat) :
    (ps.map (·.2)).countP (fun x => x == (k : Int)) = l.countP (fun x => x == some k) := by
  rw [← pairs_count k 0 l, List.countP_map]
  refine List.Perm.countP_eq _ ?_
  have hnp : ps.Nodup := (List.pairwise_map.1 hn).imp (fun h e => h (congrArg _ e))
  refine (List.perm_ext_iff_of_nodup hnp (pairs_nodup 0 l)).2 fun p => ?_
  rw [pairs_mem]
  have key : ∀ z : Int, ∀ o : Nat, ownAt l z = some o ↔ 0 ≤ z ∧ l[z.toNat]? = some (some o) := by
    intro z o
    unfold ownAt
    split
    next h => simp; omega
    next h =>
      constructor
      · intro h2
        refine ⟨by omega, ?_⟩
        cases hx : l[z.toNat]? <;> rw [hx] at h2 <;> simp at h2
        rw [h2]
      · rintro ⟨_, h2⟩
        rw [h2]
        rfl
  have hvp : ∀ p ∈ ps, ∃ o : Nat, ownAt l p.1 = some o ∧ p.2 = o := by
    intro p hp
    have h2 := hv p hp .nil
    rw [mapD_at] at h2
    cases hx : ownAt l p.1 with
    | none => rw [hx] at h2; cases h2
    | some o =>
      rw [hx] at h2
      simp at h2
      exact ⟨o, rfl, h2.symm⟩
  constructor
  · intro hp
    obtain ⟨o, h1, h2⟩ := hvp p hp
    have := (key _ _).1 h1
    exact ⟨by omega, o, by simpa using this.2, h2⟩
  · rintro ⟨h1, o, h2, h3⟩
    have h4 : ownAt l p.1 = some o := (key _ _).2 ⟨by omega, by simpa using h2⟩
    have h5 : p.1 ∈ ps.map (·.1) := (hm _).2 (by rw [mapD_has, h4]; rfl)
    obtain ⟨q, hq, e⟩ := List.mem_map.1 h5
    obtain ⟨o', h6, h7⟩ := hvp q hq
    rw [e, h4] at h6
    cases h6
    have : q = p := Prod.ext e (by rw [h7, h3])
    exact this ▸ hq

/-- as many owners of each number as the map holds -/
def valsS (l : List (Option Nat)) (xs : List Int) : Prop := ∀ k : Nat, xs.countP (fun x => x == (k : Int)) = l.countP (fun x => x == some k)

set_option maxHeartbeats 2000000 in
set_option maxRecDepth 100000 in
theorem vals1_it (l : List (Option Nat)) (g bm nn : Nat) (w0 : World) (hc0 : w0.cell? ⟨g, 0, none⟩ = some (.map (some bm))) (hown0 : w0.ownsMap Try.prog 3 (plainElem Try.prog 3) bm nn (mapD l)) :
    It Try.prog 53 #[.pointer (some ⟨g, 0, none⟩)] (fun x : Int => #[.int .i64 x]) (fun _ _ => False) (fun pre _ _ => pre.length < l.countP Option.isSome) (fun k => k = g ∨ k = bm) (valsS l) (fun _ => True) w0 := by
  intro l' J Jx W hpW hsW hJ hJx hY h0
  have hc : W.cell? ⟨g, 0, none⟩ = some (.map (some bm)) := (World.cell?_of_block (hpW g (.inl rfl))).trans hc0
  have hown := owns_same hown0 (hpW bm (.inr rfl))
  have hgl : g < W.heap.size := lt_of_cell hc
  have hbl := hown.lt
  have HV := Lib.hid (fun ps hn hm hv => (show valsS l _ from fun k => count_ps (l := l) (ps := ps) hn hm hv k))
  have HN := Lib.hid (mapD_size l)
  obtain ⟨D, hD⟩ : ∃ D, D = mapD l := ⟨_, rfl⟩
  rw [← hD] at hown HV HN
  obtain ⟨S, hS⟩ : ∃ S, S = valsS l := ⟨_, rfl⟩
  rw [← hS] at HV ⊢
  clear hD hS hown0 hc0 hpW hsW
  refine (callsIn_wide (n := 1)).1 ?_
  refine callsIn_of_wp Try.func53 rfl trivial ?_ rfl
  simp only [Try.ntmps53, List.size_toArray, List.length_cons, List.length_nil, Nat.reduceAdd, Nat.reduceSub, Array.replicate_succ, Array.replicate_zero, List.push_toArray, List.append_toArray, List.nil_append, List.cons_append]
  gi_wp2_with (first
    | (gi_at_range; refine wpListIn_range_own _ rfl _ 35 rfl 3 3 law Try.underlying35 _ bm nn _ rfl hown ?_; intro wr0 hrg0 hg0 hs0)
    | gi_in)
  gi_loopw [4] (fun _ wr => ∃ (left : Lit → Bool) (cnt : Nat) (ps : List (Int × Int)) (O : Nat → Prop), wr.ranges Try.prog 3 (plainElem Try.prog 3) bm W.heap.size nn D left cnt ∧ Hid (ps.length + cnt ≤ Maps.size D) ∧ CollectedI D left (ps.map (·.1)) ∧ Hid (∀ p ∈ ps, ∀ zd, D.atKey (.int .i64 p.1) zd = .lit (.int .i64 p.2)) ∧ J (ps.map (·.2)) O wr ∧
      W.heap.size + 1 ≤ wr.heap.size ∧ (∀ b, O b → W.heap.size + 1 ≤ b ∧ b < wr.heap.size))
    (fun _ wr => wr.rangeLeft bm W.heap.size)
  case atStart =>
    exact ⟨_, _, [], fun _ => False, hrg0, Lib.hid (by simp), CollectedI.start D, Lib.hid (by simp), hJ [] _ W wr0 none h0 hg0 (fun r e => by cases e), by omega, fun b (h : False) => h.elim⟩
  case round =>
    obtain ⟨left, cnt, ps, O, hrg, hcs, hC, hV, hJs, hws, hO⟩ := hrel
    clear hs0 hg0 hrg0
    gi_wp2_with (first
      | (gi_at_next; refine wpListIn_next_ranges _ rfl _ rfl 3 law (plainElem Try.prog 3) encZ (Value.int .i64) (fun key kl hk => by obtain ⟨x, hx, _⟩ := Maps.keyOf_i64 Try.underlying3 hk; exact ⟨x, hx⟩) (fun v y hv => by obtain ⟨c, rfl, _⟩ := plainElem_int_inv Try.underlying3 hv; exact ⟨c, rfl⟩) bm W.heap.size nn _ _ _ rfl hrg ?_ ?_)
      | gi_in)
    · intro hc0 hl0
      gi_wp2
      go_end0
      exact itEnd.all (HV.out ps hC.1 (fun x => by rw [hC.2 x, hl0]; simp) hV.out) hJs
    · intro x c kl yd yp w2 cnt2 hkey hlk hv hat hrg2 hlt hg2 hs2 hen
      obtain ⟨x', ex, rfl, _⟩ := Maps.keyOf_i64 Try.underlying3 hkey
      obtain rfl : x = x' := encZ_inj ex
      obtain ⟨c', ec, ez, _⟩ := plainElem_int_inv Try.underlying3 hv
      obtain rfl : c = c' := by simpa using ec
      obtain rfl : yd = .lit (.int .i64 c) := (Prod.mk.inj ez).1
      have hJ2 : J (ps.map (·.2)) O w2 := hJ _ _ wr w2 (some W.heap.size) hJs hg2 (fun r e => by cases e; exact ⟨Nat.le_refl _, fun h => by have := (hO _ h).1; omega⟩)
      obtain ⟨fn, tmps, assign, body, hy, hR⟩ := hY (ps.map (·.2)) c O w2 (by omega) (fun b h => by have := hO b h; omega) hJ2 (by have := hcs.out; rw [HN.out] at this; rw [List.length_map]; omega) (fun b (h : False) => h.elim)
      have hcs2 := Lib.hid (show (ps ++ [(x, c)]).length + cnt2 ≤ Maps.size D from by have := hcs.out; simp; omega)
      have hC2 : CollectedI D (fun z => left z && !z.sameKey (.int .i64 x)) ((ps ++ [(x, c)]).map (·.1)) := by simpa using hC.step hlk hat
      have hV2 := Lib.hid (show ∀ p ∈ ps ++ [(x, c)], ∀ zd, D.atKey (.int .i64 p.1) zd = .lit (.int .i64 p.2) from fun p hp => (List.mem_append.1 hp).elim (hV.out p) (fun e => by simp at e; subst e; exact hat))
      have hb2 : bm < w2.heap.size := by omega
      have hws2 : W.heap.size + 1 ≤ w2.heap.size := by omega
      have hO2 : ∀ b, O b → W.heap.size + 1 ≤ b ∧ b < w2.heap.size := fun b h => by have := hO b h; omega
      clear hs2 hat hC hV hcs
      gi_wp2
      refine hR.mono ?_
      rintro e W3 ⟨hk, (⟨rfl, hJ3⟩ | ⟨rfl, hJx3⟩)⟩
      · have hrg3 := ranges_same hrg2 (hk.same bm hb2 (.inl (.inr rfl))) (hk.same W.heap.size (by omega) (.inr ⟨Nat.le_refl _, fun h => by have := (hO2 _ h).1; omega, fun h => h⟩))
        gi_wp2
        go_roundw
        case rel => exact ⟨_, cnt2, ps ++ [(x, c)], _, hrg3, hcs2, hC2, hV2, by simpa using hJ3, Nat.le_trans hws2 hk.size, nextO_bound (M := fun _ => False) hO2 hws2 hk.size⟩
        case measure => rw [hrg3.left_eq, hrg.left_eq]; exact hlt
      · gi_wp2
        refine bodyPost_ret (results_none rfl _ _ _) rfl ?_
        exact itEnd.part trivial hJx3
end Go.Proofs.Ytnbehncbjbkjpaa
