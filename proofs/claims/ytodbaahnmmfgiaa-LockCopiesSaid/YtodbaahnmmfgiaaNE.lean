import Derived.Test.YtodbaahnmmfgiaaND
import Derived.Test.YtodbaahnmmfgiaaLN
import Derived.Maps.OwnOps
import Derived.Maps.OwnIn
import Derived.Maps.OwnSet
import Derived.Maps.Views
import Derived.WalkSmall
import Derived.Carry
namespace Go.Proofs.Ytodbaahnmmfgiaa.Lk
open Go.RowKit Go.Shelf
attribute [local go_sem] Oper.semAt_some

/- A CHAIN, PLAINLY: EACH THREAD IS AWAITED BY THE ONE AHEAD, THE LAST ONE WAITS FOR NOBODY, NONE COMES TWICE. -/
def linked (l ws : Ls) : Ls → Prop
  | [] => True
  | [a] => nextT l ws a = none
  | a :: b :: r => nextT l ws a = some b ∧ linked l ws (b :: r)
/-- what each thread waits for it may try -/
def VOK (l ws : Ls) : Prop := ws.length ≤ 4 ∧ ∀ i : Nat, i < ws.length → ws.getD i (-1) < 0 ∨ asksE l (i : Int) (ws.getD i (-1)) = 0
theorem vok_of {l ws : Ls} {t : Int} (h : chainE l t ws = 0) : VOK l ws ∧ threadB t = true ∧ rangeB l ws = true := by
  unfold chainE at h
  split at h
  · cases h
  · split at h
    · cases h
    · split at h
      · cases h
      · rename_i h1 h2 h3
        have h1a : ¬ (threadB t = false) := fun e => h1 (.inl e)
        have h1b : ¬ (4 < ws.length) := fun e => h1 (.inr e)
        have h2 : rangeB l ws = true := by cases hh : rangeB l ws with | true => rfl | false => exact absurd hh h2
        have h3 : orderB l ws = true := by cases hh : orderB l ws with | true => rfl | false => exact absurd hh h3
        refine ⟨⟨by omega, fun i hi => ?_⟩, by cases hh : threadB t with | true => rfl | false => exact absurd hh h1a, h2⟩
        have := orderB_iff.1 h3 i hi
        unfold orderAt at this
        rw [Bool.or_eq_true] at this
        rcases this with h | h
        · exact .inl (of_decide_eq_true h)
        · exact .inr (beq_iff_eq.1 h)
theorem vnext {l ws : Ls} {t u : Int} (hths : Ths l) (hok : VOK l ws) (ht : 0 ≤ t ∧ t < 4) (h : nextT l ws t = some u) : (0 ≤ u ∧ u < 4) ∧ 0 ≤ waitOf ws t ∧ (nextT l ws u ≠ none → waitOf ws t < waitOf ws u) := by
  obtain ⟨k, rfl⟩ : ∃ k : Nat, t = k := ⟨t.toNat, by omega⟩
  unfold nextT at h
  split at h
  · cases h
  · split at h
    · cases h
    · split at h
      · cases h
      · rename_i h1 h2 h3
        injection h with h
        have hw : waitOf ws (k : Int) = ws.getD (k : Int).toNat (-1) := rfl
        rw [← hw] at h2 h3 h
        obtain ⟨r, hr⟩ : ∃ r : Nat, waitOf ws (k : Int) = r := ⟨(waitOf ws (k : Int)).toNat, by omega⟩
        rw [hr] at h2 h3 h ⊢
        rw [Int.toNat_natCast] at h3 h
        have hrl : r < l.length := by
          apply Nat.lt_of_not_le
          intro hle
          have : l.getD r (-1) = -1 := by simp [hle]
          omega
        have hgd : l.getD r (-1) = l[r] := by simp [hrl]
        rw [hgd] at h h3
        have hu := hths _ (List.getElem_mem hrl)
        rw [h] at hu h3
        refine ⟨⟨by omega, hu.2⟩, by omega, fun hn => ?_⟩
        obtain ⟨v, rfl⟩ : ∃ v : Nat, u = v := ⟨u.toNat, by omega⟩
        have hw2 : waitOf ws (v : Int) = ws.getD v (-1) := by unfold waitOf; rw [Int.toNat_natCast]
        have hvl : v < ws.length ∧ ¬ ws.getD v (-1) < 0 := by
          refine ⟨?_, fun hx => ?_⟩
          · apply Nat.lt_of_not_le
            intro hle
            apply hn
            unfold nextT
            rw [if_pos (by omega)]
          · apply hn
            unfold nextT
            rw [Int.toNat_natCast, if_pos hx]
            split <;> rfl
        rw [hw2]
        rcases hok.2 v hvl.1 with hv | ha
        · exact absurd hv hvl.2
        · obtain ⟨q, hq⟩ : ∃ q : Nat, ws.getD v (-1) = q := ⟨(ws.getD v (-1)).toNat, by have := hvl.2; omega⟩
          rw [hq] at ha ⊢
          have := asks_high ha r hrl h (by omega)
          omega
structure Path (l ws : Ls) (t : Int) (c : Ls) : Prop where
  head : ∃ s, c = t :: s
  nodup : c.Nodup
  rng : ∀ z ∈ c, 0 ≤ z ∧ z < 4
  link : linked l ws c
theorem linked_cons {l ws : Ls} {a b : Int} {r : Ls} (h : nextT l ws a = some b) (hr : linked l ws (b :: r)) : linked l ws (a :: b :: r) := ⟨h, hr⟩
theorem chainGo_path {l ws : Ls} (hths : Ths l) (hok : VOK l ws) : ∀ (f : Nat) (pre : Ls) (t : Int), pre.length + f = 5 → (0 ≤ t ∧ t < 4) → pre.Nodup → (∀ p ∈ pre, (0 ≤ p ∧ p < 4) ∧ 0 ≤ waitOf ws p ∧ nextT l ws p ≠ none ∧ (nextT l ws t ≠ none → waitOf ws p < waitOf ws t)) →
    ∃ s, chainGo l ws f pre t = pre ++ t :: s ∧ (chainGo l ws f pre t).Nodup ∧ (∀ z ∈ chainGo l ws f pre t, 0 ≤ z ∧ z < 4) ∧ linked l ws (t :: s) := by
  intro f
  induction f with
  | zero =>
    intro pre t hl ht hn hp
    have := nodup_len hn (fun z hz => (hp z hz).1)
    omega
  | succ f ih =>
    intro pre t hl ht hn hp
    have htn : t ∉ pre := fun hm => by
      have h1 := hp t hm
      have := h1.2.2.2 h1.2.2.1
      omega
    have hn2 : (pre ++ [t]).Nodup := List.nodup_append.2 ⟨hn, by simp, fun a ha b hb => by
      rw [List.mem_singleton] at hb
      subst hb
      exact fun e => htn (e ▸ ha)⟩
    have hr2 : ∀ z ∈ pre ++ [t], 0 ≤ z ∧ z < 4 := fun z hz => by
      rcases List.mem_append.1 hz with h | h
      · exact (hp z h).1
      · rw [List.mem_singleton] at h
        subst h
        exact ht
    cases hx : nextT l ws t with
    | none =>
      have e : chainGo l ws (f + 1) pre t = pre ++ [t] := by
        show (match nextT l ws t with | none => pre ++ [t] | some u => chainGo l ws f (pre ++ [t]) u) = _
        rw [hx]
      rw [e]
      exact ⟨[], rfl, hn2, hr2, hx⟩
    | some u =>
      have e : chainGo l ws (f + 1) pre t = chainGo l ws f (pre ++ [t]) u := by
        show (match nextT l ws t with | none => pre ++ [t] | some u => chainGo l ws f (pre ++ [t]) u) = _
        rw [hx]
      obtain ⟨h1, h2, h3⟩ := vnext hths hok ht hx
      have := ih (pre ++ [t]) u (by simp; omega) h1 hn2 (fun p hp' => by
        rcases List.mem_append.1 hp' with h | h
        · have h4 := hp p h
          refine ⟨h4.1, h4.2.1, h4.2.2.1, fun hu => ?_⟩
          have h5 := h3 hu
          have h6 := h4.2.2.2 (by rw [hx]; simp)
          omega
        · rw [List.mem_singleton] at h
          subst h
          exact ⟨ht, h2, by rw [hx]; simp, h3⟩)
      rw [e]
      obtain ⟨s, e2, r1, r2, r3⟩ := this
      exact ⟨u :: s, by rw [e2]; simp, r1, r2, linked_cons hx r3⟩
theorem chain_path {l ws : Ls} {t : Int} (hths : Ths l) (h : chainE l t ws = 0) : Path l ws t (chainL l t ws) := by
  obtain ⟨hok, ht, _⟩ := vok_of h
  obtain ⟨s, e, h1, h2, h3⟩ := chainGo_path hths hok 5 [] t rfl (threadB_in ht) List.nodup_nil (fun p hp => by cases hp)
  exact ⟨⟨s, e⟩, h1, h2, by
    have e : chainL l t ws = t :: s := e
    rw [e]
    exact h3⟩
theorem linked_none {l ws : Ls} {a : Int} (h : linked l ws [a]) : nxV l ws a = 0 ∧ nxB l ws a = false := by
  have h : nextT l ws a = none := h
  unfold nxV nxB
  rw [h]
  exact ⟨rfl, rfl⟩
theorem linked_some {l ws : Ls} {a b : Int} {r : Ls} (h : linked l ws (a :: b :: r)) : nxV l ws a = b ∧ nxB l ws a = true ∧ linked l ws (b :: r) := by
  obtain ⟨h, h2⟩ := h
  unfold nxV nxB
  rw [h]
  exact ⟨rfl, rfl, h2⟩
end Go.Proofs.Ytodbaahnmmfgiaa.Lk

namespace Go.Proofs.Ytodbaahnmmfgiaa.Lk
open Go.RowKit Go.Shelf
attribute [local go_sem] Oper.semAt_some

/- A THREAD, THE ONE THAT IT WAITS FOR, AND SO ON. -/
def encI (x : Int) : Array Value := #[.int .i64 x]
def preI (L pre : Ls) (x : Int) (_ : World) : Prop := ∃ post, L = pre ++ x :: post
def allI (L xs : Ls) : Prop := xs = L
def someI (L xs : Ls) : Prop := ∃ post, L = xs ++ post
def goesOn : Value → Bool
  | .bool true => true
  | _ => false
def leftI (L : Ls) (s5 s6 : Value) : Nat := if goesOn s6 then L.length + 1 - L.idxOf (intOf s5) else 0
theorem idx_at {L pre : Ls} {x : Int} {r : Ls} (hn : L.Nodup) (e : L = pre ++ x :: r) : L.idxOf x = pre.length := by
  subst e
  have h := (List.nodup_append.1 hn).2.2
  rw [List.idxOf_append, if_neg (fun hm => h x hm x (by simp) rfl)]
  simp
/-- where the loop stands -/
def AtI (l ws L : Ls) (pre : Ls) (s5 s6 : Value) : Prop :=
  (∃ (k : Nat) (r : Ls), s5 = .int .i64 (k : Int) ∧ k < 4 ∧ s6 = .bool true ∧ L = pre ++ (k : Int) :: r ∧ linked l ws ((k : Int) :: r)) ∨ (s5 = .int .i64 0 ∧ s6 = .bool false ∧ pre = L)
theorem at_next {l ws L pre r : Ls} {k : Nat} (hr : ∀ z ∈ L, 0 ≤ z ∧ z < 4) (e : L = pre ++ (k : Int) :: r) (h : linked l ws ((k : Int) :: r)) : AtI l ws L (pre ++ [(k : Int)]) (.int .i64 (nxV l ws k)) (.bool (nxB l ws k)) := by
  cases r with
  | nil =>
    obtain ⟨h1, h2⟩ := linked_none h
    rw [h1, h2]
    exact .inr ⟨rfl, rfl, e.symm⟩
  | cons b r =>
    obtain ⟨h1, h2, h3⟩ := linked_some h
    rw [h1, h2]
    have hb := hr b (by rw [e]; simp)
    obtain ⟨j, rfl⟩ := Int.eq_ofNat_of_zero_le hb.1
    exact .inl ⟨j, r, rfl, by omega, rfl, by rw [e]; simp, h3⟩
theorem left_next {l ws L pre r : Ls} {k : Nat} (hn : L.Nodup) (hr : ∀ z ∈ L, 0 ≤ z ∧ z < 4) (e : L = pre ++ (k : Int) :: r) (h : linked l ws ((k : Int) :: r)) : leftI L (.int .i64 (nxV l ws k)) (.bool (nxB l ws k)) < leftI L (.int .i64 (k : Int)) (.bool true) := by
  have h1 := idx_at hn e
  have hl := congrArg List.length e
  simp only [List.length_append, List.length_cons] at hl
  have e1 : leftI L (.int .i64 (k : Int)) (.bool true) = L.length + 1 - pre.length := by
    show (if true = true then L.length + 1 - L.idxOf (k : Int) else 0) = _
    rw [if_pos rfl, h1]
  rcases at_next hr e h with ⟨j, r2, a1, _, a3, a4, _⟩ | ⟨a1, a2, a3⟩
  · have h2 := idx_at hn a4
    rw [a1, a3, e1]
    show (if true = true then L.length + 1 - L.idxOf (j : Int) else 0) < _
    rw [if_pos rfl, h2]
    simp only [List.length_append, List.length_singleton]
    omega
  · rw [a2, e1]
    show (if false = true then _ else 0) < _
    rw [if_neg (by simp)]
    omega
set_option maxHeartbeats 2000000 in
theorem behind1_it {l ws L : Ls} {t : Int} (hp : Path l ws t L) (g1 g2 g3 b : Nat) (A : Option Addr) (m cb : Nat) (Pv : Nat → Prop) (w0 : World)
    (h1 : w0.cell? ⟨g1, 0, none⟩ = some (.int .i64 t)) (h2 : w0.cell? ⟨g2, 0, none⟩ = some (bx b)) (h3 : w0.cell? ⟨g3, 0, none⟩ = some (.slice A m cb)) (hp1 : Pv g1) (hp2 : Pv g2) (hp3 : Pv g3) (hpl : ∀ k, Pv k → k < w0.heap.size)
    (HAW : ∀ (k : Nat) V, k < 4 → (∀ j, Pv j → V.heap[j]? = w0.heap[j]?) → w0.heap.size ≤ V.heap.size → Calls Try.prog 76 #[rk b, .int .i64 (k : Int), .slice A m cb] V fun e w' => e = .returned (.tuple #[.int .i64 (nxV l ws k), .bool (nxB l ws k)]) ∧ Below V.heap.size V w') :
    It Try.prog 75 #[bx g1, bx g2, bx g3] encI (fun _ _ => False) (preI L) Pv (allI L) (someI L) w0 := by
  intro l0 J Jx W hpW hsW hJ hJx hY h0
  have c1 : W.cell? ⟨g1, 0, none⟩ = some (.int .i64 t) := (World.cell?_of_block (hpW g1 hp1)).trans h1
  have HB2 := Lib.hid (fun (V : World) (h : ∀ j, Pv j → V.heap[j]? = w0.heap[j]?) => (show V.cell? ⟨g2, 0, none⟩ = some (bx b) ∧ V.cell? ⟨g3, 0, none⟩ = some (.slice A m cb) from ⟨(World.cell?_of_block (h g2 hp2)).trans h2, (World.cell?_of_block (h g3 hp3)).trans h3⟩))
  have HA := Lib.hid HAW
  have HN := Lib.hid hp.nodup
  have HR := Lib.hid hp.rng
  have hstart : AtI l ws L [] (.int .i64 t) (.bool true) := by
    obtain ⟨s, e⟩ := hp.head
    have hr := hp.rng t (by rw [e]; simp)
    obtain ⟨k, rfl⟩ := Int.eq_ofNat_of_zero_le hr.1
    exact .inl ⟨k, s, rfl, by omega, rfl, e, by have := hp.link; rw [e] at this; exact this⟩
  have HPW := Lib.hid hpW
  have HPL := Lib.hid hpl
  refine (callsIn_wide (n := 1)).1 ?_
  clear hp h1 h2 h3 HAW hpW hpl
  refine callsIn_of_wp Try.func75 rfl trivial ?_ rfl
  simp only [Try.ntmps75, List.size_toArray, List.length_cons, List.length_nil, Nat.reduceAdd, Nat.reduceSub, Array.replicate_succ, Array.replicate_zero, List.push_toArray, List.append_toArray, List.nil_append, List.cons_append]
  gi_wp2_with fail
  gi_loopw [5, 6] (fun s5 s6 wr => ∃ (pre : Ls) (O : Nat → Prop), AtI l ws L pre s5 s6 ∧ J pre O wr ∧ W.heap.size ≤ wr.heap.size ∧ (∀ b, O b → W.heap.size ≤ b ∧ b < wr.heap.size) ∧ ∀ j, Pv j → wr.heap[j]? = w0.heap[j]?) (fun s5 s6 _ => leftI L s5 s6)
  case atStart => exact ⟨[], fun _ => False, hstart, h0, Nat.le_refl _, fun b (h : False) => h.elim, HPW.out⟩
  case round =>
    obtain ⟨pre, O, hat, hj, hws, hO, hpv⟩ := hrel
    rcases hat with ⟨k, r, rfl, hk4, rfl, eL, hlk⟩ | ⟨rfl, rfl, epre⟩
    · obtain ⟨fn, tmps, assign, body, hy, hR⟩ := hY pre (k : Int) O wr hws hO hj ⟨r, eL⟩ (fun b (h : False) => h.elim)
      have HNX := Lib.hid (at_next HR.out eL hlk)
      have HLT := Lib.hid (left_next HN.out HR.out eL hlk)
      have HSM := Lib.hid (show someI L (pre ++ [(k : Int)]) from ⟨r, by rw [eL]; simp⟩)
      obtain ⟨nv, hnv⟩ : ∃ nv, nv = nxV l ws (k : Int) := ⟨_, rfl⟩
      obtain ⟨nb, hnb⟩ : ∃ nb, nb = nxB l ws (k : Int) := ⟨_, rfl⟩
      have HAK := Lib.hid (fun V h1 h2 => HA.out k V hk4 h1 h2)
      rw [← hnv, ← hnb] at HNX HLT HAK
      simp only [encI] at hy
      clear hnv hnb eL hlk hk4
      gi_wp2_with fail
      refine hR.mono ?_
      rintro e W' ⟨hk', (⟨rfl, hj'⟩ | ⟨rfl, hjx⟩)⟩
      · have hpv4 : ∀ j, Pv j → W'.heap[j]? = w0.heap[j]? := fun j hj => (hk'.same j (by have := HPL.out j hj; have := hsW; omega) (.inl hj)).trans (hpv j hj)
        have hO4 := nextO_bound (M := fun _ => False) hO hws hk'.size
        have hws4 := Nat.le_trans hws hk'.size
        obtain ⟨d2, d3⟩ := HB2.out W' hpv4
        have HC := Lib.hid (HAK.out W' hpv4 (by have := hsW; omega))
        have HJ4 := Lib.hid hj'
        clear hO hws hk' hpv hj hj'
        gi_wp2_with fail
        refine ⟨trivial, (callsIn_wide.2 HC.out).mono ?_⟩
        rintro e w5 ⟨rfl, hb5⟩
        have hj5 := Lib.hid (hJ.below HJ4.out hb5)
        have hpv5 : ∀ j, Pv j → w5.heap[j]? = w0.heap[j]? := fun j hj => (hb5.block j (by have := HPL.out j hj; have := hsW; omega)).trans (hpv4 j hj)
        have hs5 := hb5.size
        clear hb5 HC HJ4 hpv4 d2 d3
        gi_wp2
        go_roundw
        case rel => exact ⟨_, _, HNX.out, hj5.out, by omega, fun b h => by have := hO4 b h; omega, hpv5⟩
        case measure => exact HLT.out
      · gi_wp2
        refine bodyPost_ret (results_none rfl _ _ _) rfl ?_
        exact itEnd.part HSM.out hjx
    · gi_wp2_with fail
      refine ⟨(fun _ h => by cases h), ?_⟩
      gi_wp2
      go_end0
      exact itEnd.all epre hj
end Go.Proofs.Ytodbaahnmmfgiaa.Lk

namespace Go.Proofs.Ytodbaahnmmfgiaa.Lk
open Go.RowKit Go.Shelf Go.Maps
attribute [local go_sem] Oper.semAt_some

/- THE CHAIN OF A THREAD, EACH ONCE. -/
theorem law : Keyed Try.prog 3 := int_keyed Try.underlying3
theorem zeroU (w : World) : (zeroValue 103).run Try.prog w = .ok (.agg #[]) w := by kernel_rfl
theorem wf_i64 {a : Int} (h1 : -9223372036854775808 ≤ a) (h2 : a ≤ 9223372036854775807) : (Lit.int .i64 a).wf = true := WalkArith.wf_i64 (by omega)
theorem keyZ {a : Int} (h1 : -9223372036854775808 ≤ a) (h2 : a ≤ 9223372036854775807) : keyOf Try.prog 3 (.int .i64 a) = some (.int .i64 a) := keyOf_int_mk Try.underlying3 (wf_i64 h1 h2)
section
variable {k : TypeId} {R : Value → Option (DataW Unit × List MemPlace)} {w w' : World} {b r n m : Nat} {D : DataW Unit} {left : Lit → Bool} {cnt : Nat}
theorem owns_same (h : w.ownsMap Try.prog k R b n D) (hb : w'.heap[b]? = w.heap[b]?) : w'.ownsMap Try.prog k R b n D := by
  obtain ⟨es, clock, h1, rest⟩ := h
  exact ⟨es, clock, hb.trans h1, rest⟩
end
/-- who is named -/
def NotIn (D : DataW Unit) (pre : Ls) : Prop := ∀ z : Int, z ∉ pre → Maps.has D (.int .i64 z) = false
theorem not_put {D : DataW Unit} {pre : Ls} {x : Int} (h : NotIn D pre) (d : DataW Unit) : NotIn (D.put (.int .i64 x) d) (pre ++ [x]) := fun z hz => by
  have h1 : z ∉ pre := fun hm => hz (List.mem_append_left _ hm)
  have h2 : z ≠ x := fun e => hz (by rw [e]; simp)
  rw [has_put_other (fun e => h2 (by injection e))]
  exact h z h1
theorem behind_any (x : Value) (t : Int) (A : Option Addr) (m cb : Nat) (w : World) : Calls Try.prog 63 #[.agg #[x], .int .i64 t, .slice A m cb] w fun e w' => e = .returned (.func (.func 75) #[] #[bx (w.heap.size + 1), bx w.heap.size, bx (w.heap.size + 2)]) ∧
    ((w.alloc (.cells #[x] 64)).alloc (.cells #[.int .i64 t] 3)).alloc (.cells #[.slice A m cb] 28) = w' := by
  go_enter Try.func63, Try.ntmps63
  go_wp2
  go_ret
  exact ⟨rfl, rfl⟩
def mapT : TypeId := 99
/-- what holds between two rounds -/
def ChS (w : World) (pre : Ls) (O : Nat → Prop) (V : World) : Prop :=
  ∃ v D, Boxed V (w.heap.size + 1) 28 v ∧ Boxed V (w.heap.size + 3) 99 (.map (some (w.heap.size + 2))) ∧ V.ownsMap Try.prog 3 (unitElem (H := Unit)) (w.heap.size + 2) pre.length D ∧ NotIn D pre ∧
    V.ownsRow (w.heap.size + 7) 3 1 v pre.length (izs pre) ∧ (∀ k, v.ownBlock = some k → O k) ∧ Below w.heap.size w V ∧ ∀ k, O k → w.heap.size + 7 + 2 ≤ k
theorem ChS.abid {w : World} : Abid (w.heap.size + 7) (ChS w) := by
  rintro pre O V V' row ⟨v, D, h1, h2, h3, h4, h5, h6, h7, h8⟩ hg hr
  have hne : ∀ k, (k < w.heap.size + 7 ∨ O k) → some k ≠ row := fun k hk e => by
    have := hr k e.symm
    rcases hk with hk | hk
    · omega
    · exact this.2 hk
  exact ⟨v, D, h1.kept hg (hne _ (.inl (by omega))), h2.kept hg (hne _ (.inl (by omega))), h3.kept hg (hne _ (.inl (by omega))), h4, own_same h5 (fun k hk => hg.block k (own_lt h5 hk) (hne k (.inr (h6 k hk)))), h6,
    h7.grown hg h7.size (fun k e => by have := hr k e; omega), h8⟩
def pvC (w : World) (k : Nat) : Prop := k < w.heap.size ∨ k = w.heap.size + 4 ∨ k = w.heap.size + 5 ∨ k = w.heap.size + 6
theorem izs_snoc (xs : Ls) (x : Int) : izs (xs ++ [x]) = izs xs ++ [.int .i64 x] := by simp [izs]
theorem ch_round {w V w2 w4 : World} {pre : Ls} {x : Int} {g4 cap4 cv : Nat} {O : Nat → Prop} {Av : Option Addr} {o o3 : Obj} {D2 : DataW Unit}
    (hOw : ∀ k, O k → w.heap.size + 7 + 2 ≤ k) (hvO : ∀ k, (Value.slice Av pre.length cv).ownBlock = some k → O k) (hVs : w.heap.size + 7 + 2 ≤ V.heap.size) (hbl : Below w.heap.size w V)
    (hg2 : (V.alloc o).grownBy w2 (some (w.heap.size + 2))) (hm2 : w2.ownsMap Try.prog 3 (unitElem (H := Unit)) (w.heap.size + 2) (pre.length + 1) D2) (hD2 : NotIn D2 (pre ++ [x]))
    (hown4 : w4.ownsRow (w.heap.size + 7) 3 1 (.slice (some ⟨g4, 0, none⟩) (pre.length + 1) cap4) (pre.length + 1) (izs pre ++ [.int .i64 x]))
    (hg4 : (w2.alloc o3).grownBy w4 (Value.slice Av pre.length cv).ownBlock) (hv4 : (Value.slice (some ⟨g4, 0, none⟩) (pre.length + 1) cap4).ownBlock = (Value.slice Av pre.length cv).ownBlock ∨ (Value.slice (some ⟨g4, 0, none⟩) (pre.length + 1) cap4).ownBlock = some (w2.alloc o3).heap.size)
    (hbx4 : Boxed w4 (w.heap.size + 1) 28 (.slice Av pre.length cv)) (hbm4 : Boxed w4 (w.heap.size + 3) 99 (.map (some (w.heap.size + 2)))) :
    Keeps (pvC w) (w.heap.size + 7) O (fun _ => False) V (w4.setCell ⟨w.heap.size + 1, 0, none⟩ (.slice (some ⟨g4, 0, none⟩) (pre.length + 1) cap4)) ∧
      ChS w (pre ++ [x]) (nextO O (fun _ => False) V (w4.setCell ⟨w.heap.size + 1, 0, none⟩ (.slice (some ⟨g4, 0, none⟩) (pre.length + 1) cap4))) (w4.setCell ⟨w.heap.size + 1, 0, none⟩ (.slice (some ⟨g4, 0, none⟩) (pre.length + 1) cap4)) := by
  have hs2 := hg2.size
  rw [World.size_alloc] at hs2
  have hgs := hg4.size
  rw [World.size_alloc] at hgs
  obtain ⟨w5, hw5⟩ : ∃ w5, w5 = w4.setCell ⟨w.heap.size + 1, 0, none⟩ (.slice (some ⟨g4, 0, none⟩) (pre.length + 1) cap4) := ⟨_, rfl⟩
  have hs5 : w5.heap.size = w4.heap.size := by rw [hw5]; simp [World.setCell]
  have hk5 : ∀ k, k ≠ w.heap.size + 1 → w5.heap[k]? = w4.heap[k]? := fun k hk => by rw [hw5]; exact Below.heap_setCell _ _ _ _ hk
  have hB5 : Boxed w5 (w.heap.size + 1) 28 (.slice (some ⟨g4, 0, none⟩) (pre.length + 1) cap4) := by rw [hw5]; exact hbx4.set _
  have hM5 : Boxed w5 (w.heap.size + 3) 99 (.map (some (w.heap.size + 2))) := (hk5 _ (by omega)).trans hbm4
  have hwV := hbl.size
  have hb5 : Below w.heap.size w w5 := by
    rw [hw5]
    have h1 : Below w.heap.size w (V.alloc o) := hbl.alloc hwV o
    have h2 : Below w.heap.size w w2 := h1.grown hg2 (by simp; omega) (fun k hk => by injection hk with hk; omega)
    exact ((h2.alloc h2.size o3).grown hg4 (by simp; omega) (fun k hk => by have := hOw _ (hvO k hk); omega)).setCell (by show w.heap.size ≤ w.heap.size + 1; omega) _
  rw [← hw5]
  have hOV : ∀ k, O k → some k ≠ some (w.heap.size + 2) := fun k hk e => by injection e with e; have := hOw k hk; omega
  have hkeep : ∀ j, j < V.heap.size → ¬ O j → j ≠ w.heap.size + 1 → j ≠ w.heap.size + 2 → w5.heap[j]? = V.heap[j]? := fun j hj hno h1 h2 =>
    (hk5 j h1).trans ((hg4.block j (by rw [World.size_alloc]; omega) (fun e => hno (hvO j e.symm))).trans ((Below.heap_alloc _ _ _ (by omega)).trans ((hg2.block j (by rw [World.size_alloc]; omega) (fun e => by injection e with e; exact h2 e)).trans (Below.heap_alloc _ _ _ hj))))
  refine ⟨⟨by omega, fun j hkl hp => ?_⟩, _, D2, hB5, hM5, ?_, hD2, ?_, ?_, hb5, nextO_ge hOw (fun _ h => h.elim) (by omega)⟩
  · refine hkeep j hkl ?_ ?_ ?_
    · rcases hp with h | ⟨_, h, _⟩
      · intro ho
        have := hOw j ho
        rcases h with h | h | h | h <;> omega
      · exact h
    · rcases hp with (h | h | h | h) | ⟨h, _⟩ <;> omega
    · rcases hp with (h | h | h | h) | ⟨h, _⟩ <;> omega
  · rw [List.length_append, List.length_singleton]
    refine owns_same hm2 ((hk5 _ (by omega)).trans ((hg4.block _ (by rw [World.size_alloc]; omega) (fun e => by have := hOw _ (hvO _ e.symm); omega)).trans (Below.heap_alloc _ _ _ (by omega))))
  · rw [List.length_append, List.length_singleton, izs_snoc]
    refine own_same hown4 (fun j hj => hk5 j ?_)
    rcases hv4 with h | h
    · rw [h] at hj
      have := hOw _ (hvO j hj)
      omega
    · rw [h] at hj
      injection hj with hj
      rw [World.size_alloc] at hj
      omega
  · intro j hj
    have hlt := (hown4.lt j hj).2
    rcases hv4 with h | h
    · exact .inl (hvO j (h ▸ hj))
    · rw [hj] at h
      injection h with h
      rw [World.size_alloc] at h
      exact .inr (.inr ⟨by omega, by omega⟩)
end Go.Proofs.Ytodbaahnmmfgiaa.Lk

namespace Go.Proofs.Ytodbaahnmmfgiaa.Lk
open Go.RowKit Go.Shelf Go.Maps
attribute [local go_sem] Oper.semAt_some

/- THE CHAIN OF A THREAD: THE CODE's. -/
theorem sees_same {w w' : World} {B : Nat} {A : Option Addr} {xs : List Value} (h : Sees w B A xs) (hb : ∀ k, k < B → w'.heap[k]? = w.heap[k]?) : Sees w' B A xs := fun hn => by
  obtain ⟨ad, e, hlt, hc⟩ := h hn
  refine ⟨ad, e, hlt, fun j u hu => ?_⟩
  rw [← hc j u hu]
  exact World.cell?_of_block (hb _ (by rw [show (ad.add j).block = ad.block from by unfold Addr.add; split <;> rfl]; exact hlt))
set_option maxRecDepth 100000 in
set_option maxHeartbeats 2000000 in
theorem chain_any {w : World} {bl b g c : Nat} {cs : Ce.Cs} {l : Ls} (h : LRep w bl b g c cs l) (ws : Ls) (A : Option Addr) (m cb : Nat) (hm : ws.length = m) (hs : Sees w w.heap.size A (izs ws)) (t : Int) (hE : chainE l t ws = 0) :
    Calls Try.prog 43 #[rk b, .int .i64 t, .slice A m cb] w fun e w' => ∃ u, e = .returned u ∧ Wi w' u (chainL l t ws) ∧ Below w.heap.size w w' := by
  obtain ⟨i0, hi, hz0, hz1, hz2⟩ := info_parts int_info
  have hpath := chain_path h.th hE
  obtain ⟨L, hL⟩ : ∃ L, L = chainL l t ws := ⟨_, rfl⟩
  rw [← hL] at hpath ⊢
  clear hL
  have hb0 := h.obj.lt
  have hb1 := h.rep.obj.lt
  have hb2 := h.rep.row.lt
  -- the world behind 'behind'
  obtain ⟨w4, hw4⟩ : ∃ w4, w4 = (((w.alloc (.cells #[bx b] 64)).alloc (.cells #[.slice none 0 0] 28)).alloc (.map #[] 0)).alloc (.cells #[.map (some (w.heap.size + 1 + 1))] 99) := ⟨_, rfl⟩
  have hs4 : w4.heap.size = w.heap.size + 4 := by rw [hw4]; simp
  have hB4 : Below w.heap.size w w4 := by rw [hw4]; exact (below3 w _ _ _).alloc (by simp; omega) _
  obtain ⟨w7, hw7⟩ : ∃ w7, w7 = ((w4.alloc (.cells #[bx b] 64)).alloc (.cells #[.int .i64 t] 3)).alloc (.cells #[.slice A m cb] 28) := ⟨_, rfl⟩
  have hs7 : w7.heap.size = w.heap.size + 7 := by rw [hw7]; simp; omega
  have hB7 : Below w.heap.size w w7 := by rw [hw7]; exact below0 hB4 (below3 w4 _ _ _)
  have hB47 : Below w4.heap.size w4 w7 := by rw [hw7]; exact below3 w4 _ _ _
  have d4 : w7.cell? ⟨w.heap.size + 4, 0, none⟩ = some (bx b) := by
    rw [hw7, ← hs4]
    exact (World.cell?_alloc_lt _ _ _ (by simp; omega)).trans ((World.cell?_alloc_lt _ _ _ (by simp)).trans (cell_alloc_new _ _ _ _))
  have d5 : w7.cell? ⟨w.heap.size + 5, 0, none⟩ = some (.int .i64 t) := by
    rw [hw7, show w.heap.size + 5 = w4.heap.size + 1 by omega]
    exact (World.cell?_alloc_lt _ _ _ (by simp)).trans (cell_new_at _ _ _ _ (by simp))
  have d6 : w7.cell? ⟨w.heap.size + 6, 0, none⟩ = some (.slice A m cb) := by
    rw [hw7, show w.heap.size + 6 = w4.heap.size + 2 by omega]
    exact cell_new_at _ _ _ _ (by simp)
  have x1 : Boxed w7 (w.heap.size + 1) 28 (.slice none 0 0) := by
    refine (hB47.block _ (by omega)).trans ?_
    rw [hw4]
    have := ((Boxed.new (w.alloc (.cells #[bx b] 64)) 28 (.slice none 0 0)).alloc (.map #[] 0)).alloc (.cells #[.map (some (w.heap.size + 2))] 99)
    rwa [World.size_alloc] at this
  have x3 : Boxed w7 (w.heap.size + 3) 99 (.map (some (w.heap.size + 2))) := by
    refine (hB47.block _ (by omega)).trans ?_
    rw [hw4]
    have := Boxed.new (((w.alloc (.cells #[bx b] 64)).alloc (.cells #[.slice none 0 0] 28)).alloc (.map #[] 0)) 99 (.map (some (w.heap.size + 2)))
    rw [show ((((w.alloc (.cells #[bx b] 64)).alloc (.cells #[.slice none 0 0] 28)).alloc (.map #[] 0))).heap.size = w.heap.size + 3 by simp] at this
    exact this
  have x2 : w7.ownsMap Try.prog 3 (unitElem (H := Unit)) (w.heap.size + 2) 0 (.map []) := by
    refine owns_same (w := w4) ?_ (hB47.block _ (by omega))
    rw [hw4]
    have := (World.ownsMap_made (H := Unit) ((w.alloc (.cells #[bx b] 64)).alloc (.cells #[.slice none 0 0] 28)) Try.prog 3 unitElem).alloc (.cells #[.map (some (w.heap.size + 2))] 99)
    simpa using this
  have hit := behind1_it (l := l) (ws := ws) hpath (w.heap.size + 5) (w.heap.size + 4) (w.heap.size + 6) b A m cb (pvC w) w7 d5 d4 d6 (.inr (.inr (.inl rfl))) (.inr (.inl rfl)) (.inr (.inr (.inr rfl))) (fun k hk => by rcases hk with h | h | h | h <;> omega)
    (fun k V hk4 hV hVs => by
      have hbk : ∀ j, j < w.heap.size → V.heap[j]? = w.heap[j]? := fun j hj => (hV j (.inl hj)).trans (hB7.block j hj)
      exact awaited_any (h.same (hbk _ hb0) (hbk _ hb1) (hbk _ hb2)) ws A m cb hm ((sees_same hs hbk).more (by omega)) k (by omega))
  have hB4' := Lib.hid hB7
  have HBH := Lib.hid (behind_any (bx b) t A m cb w4)
  rw [← hw7, hs4] at HBH
  have HN := Lib.hid hpath.nodup
  have HR := Lib.hid hpath.rng
  have HLL := Lib.hid (nodup_len hpath.nodup hpath.rng)
  clear hw7 h hs hm hpath hE d4 d5 d6 hB47
  have hmm := @run_makeMap Try.prog
  refine calls_marks Try.func43 rfl ?_
  simp only [Try.ntmps43, List.size_toArray, List.length_cons, List.length_nil, Nat.reduceAdd, Nat.reduceSub, Array.replicate_succ, Array.replicate_zero, List.push_toArray, List.append_toArray, List.nil_append, List.cons_append]
  go_wp2_with fail
  refine wp_scope_jump 0 fun R hR hJm => ?_
  go_wp2_with fail
  have d0 : w4.cell? ⟨w.heap.size, 0, none⟩ = some (bx b) := by rw [hw4]; exact (World.cell?_alloc_lt _ _ _ (by simp; omega)).trans ((World.cell?_alloc_lt _ _ _ (by simp; omega)).trans ((World.cell?_alloc_lt _ _ _ (by simp)).trans (cell_alloc_new _ _ _ _)))
  go_step3
  rw [← hw4]
  clear hw4 hmm
  go_wp2_with fail
  refine (HBH.out).mono ?_
  rintro e w7' ⟨rfl, rfl⟩
  clear HBH d0
  go_wp2_with fail
  refine wpIn_wide.1 (wpIn_range_it (gf := 75) (lb := #[bx (w.heap.size + 5), bx (w.heap.size + 4), bx (w.heap.size + 6)]) rfl (enters_of Try.func75 (by kernel_rfl) rfl) hit (fun k hk => by rcases hk with h | h | h | h <;> omega) (fun _ => rfl) (fun _ _ _ _ _ h => h)
    (ChS w) (fun _ _ _ _ => False) (by rw [hs7]; exact ChS.abid) (fun _ _ _ _ _ _ h => h.elim) ?h0
    (fun x => { tmps := #[rk b, .int .i64 t, .slice A m cb, .pointer (some ⟨w.heap.size, 0, none⟩), undef, undef, .slice none 0 0, .pointer (some ⟨w.heap.size + 1, 0, none⟩), .pointer (some ⟨w.heap.size + 1 + 1 + 1, 0, none⟩), .int .i64 x, undef, undef, .map (some (w.heap.size + 1 + 1)), rk b, .int .i64 t, .slice A m cb, .func (.func 75) #[] #[bx (w.heap.size + 5), bx (w.heap.size + 4), bx (w.heap.size + 6)], .int .i64 x, undef, undef, undef, undef, undef, undef, undef, undef, undef, undef, undef, undef, undef, undef, undef], defers := [] }) ?assign ?body ?done ?stop)
  case h0 => exact ⟨_, _, x1, x3, x2, fun z _ => rfl, World.ownsRow_nil _ _ _ _, fun k h => (by cases h), hB7, fun _ h => h.elim⟩
  case assign =>
    intro l' x W' K hK
    simp only [encI]
    gi_wp2
    exact hK
  case body =>
    rintro l' pre x O V hVs hO ⟨v, D, hbx, hbm, hmap, hD, hown, hvO, hbl, hOw⟩ hx _
    obtain ⟨post, eL⟩ := hx
    have hxn : x ∉ pre := fun hm => by
      have hn := HN.out
      rw [eL] at hn
      exact (List.nodup_append.1 hn).2.2 x hm x (by simp) rfl
    have hxr := HR.out x (by rw [eL]; simp)
    have hpl : pre.length ≤ 4 := by
      have h1 := HLL.out
      rw [eL] at h1
      simp only [List.length_append, List.length_cons] at h1
      omega
    have hhas := hD x hxn
    have hkey := keyZ (a := x) (by omega) (by omega)
    have HNP := Lib.hid (not_put (x := x) hD (.agg []))
    obtain ⟨Av, cv, rfl⟩ := own_slice hown
    have Hs7 := Lib.hid hs7
    have HRD := Lib.hid (fun (w2 w4 : World) (g4 cap4 : Nat) h1 h2 h3 h4 h5 h6 h7 => ch_round (w := w) (V := V) (w2 := w2) (w4 := w4) (pre := pre) (x := x) (g4 := g4) (cap4 := cap4) (cv := cv) (O := O) (Av := Av) (o := .cells #[] 103) (o3 := .cells #[.int .i64 x] 3) (D2 := D.put (.int .i64 x) (.agg [])) hOw hvO (by omega) hbl h1 h2 HNP.out h3 h4 h5 h6 h7)
    have hbv := hbx.cell
    have hbw : V.cell? ⟨w.heap.size + 1 + 1 + 1, 0, none⟩ = some (.map (some (w.heap.size + 1 + 1))) := hbm.cell
    have hl1 := lt_of_cell hbv
    have hl3 := lt_of_cell hbw
    have hmapV := hmap
    have hmap1 := hmap.alloc (.cells #[] 103)
    have e1 : some (w.heap.size + 1) ≠ some (w.heap.size + 2) := by simp
    have e3 : some (w.heap.size + 3) ≠ some (w.heap.size + 2) := by simp
    have ho2 : ∀ k, (Value.slice Av pre.length cv).ownBlock = some k → k < V.heap.size ∧ w.heap.size + 9 ≤ k := fun k hk => ⟨own_lt hown hk, by have := hOw k (hvO k hk); omega⟩
    have HST := Lib.hid (fun (w2 : World) (hg2 : (V.alloc (.cells #[] 103)).grownBy w2 (some (w.heap.size + 2))) => (show Boxed w2 (w.heap.size + 1) 28 (.slice Av pre.length cv) ∧ Boxed w2 (w.heap.size + 3) 99 (.map (some (w.heap.size + 2))) ∧ w2.ownsRow (w.heap.size + 7) 3 1 (.slice Av pre.length cv) pre.length (izs pre) ∧ w.heap.size + 9 ≤ w2.heap.size from
      ⟨(hbx.alloc _).kept hg2 e1, (hbm.alloc _).kept hg2 e3, own_same hown (fun k hk => (hg2.block k (by rw [World.size_alloc]; have := (ho2 k hk).1; omega) (fun e => by injection e with e; have := (ho2 k hk).2; omega)).trans (Below.heap_alloc _ _ _ (ho2 k hk).1)), by have := hg2.size; rw [World.size_alloc] at this; omega⟩))
    have hnr1 : some (w.heap.size + 1) ≠ (Value.slice Av pre.length cv).ownBlock := fun e => by have := (ho2 _ e.symm).2; omega
    have hnr3 : some (w.heap.size + 3) ≠ (Value.slice Av pre.length cv).ownBlock := fun e => by have := (ho2 _ e.symm).2; omega
    obtain ⟨n, hnn⟩ : ∃ n, n = pre.length := ⟨_, rfl⟩
    obtain ⟨xs, hxs⟩ : ∃ xs, xs = izs pre := ⟨_, rfl⟩
    rw [← hnn, ← hxs] at HRD HST
    rw [← hnn] at hmap1 hmapV hpl hnr1 hnr3
    have hlx : xs.length = n := by rw [hxs, izs_len, hnn]
    clear hbx hbm hmap hD hown hvO hbl hOw HNP eL hxn hxr hnn hxs ho2 x1 x2 x3 hit e1 e3
    gi_wp2_with (first
      | (gi_at_lookup; refine wpListIn_lookup_own_unit _ rfl _ _ 99 rfl 3 103 law Try.underlying99 (zeroU _) (w.heap.size + 2) _ D rfl hmapV _ _ rfl hkey ?_; rw [hhas])
      | (gi_at_mapUpdate; refine wpListIn_mapUpdate_own _ rfl _ _ _ 99 rfl 3 103 law Try.underlying99 (unitElem (H := Unit)) (w.heap.size + 2) n D rfl hmap1 (by unfold maxLen; omega) _ _ _ rfl rfl hkey _ _ unitElem_mk ?_; intro w2 hmap2 hg2; obtain ⟨b1, b3, bo, bs⟩ := HST.out w2 hg2; have c1 := b1.cell; have hown1 := bo.alloc (.cells #[.int .i64 x] 3); have hbx1 := b1.alloc (.cells #[.int .i64 x] 3); have hbm1 := b3.alloc (.cells #[.int .i64 x] 3); have hce1 := hbx1.cell; have HR2 := Lib.hid (HRD.out w2); clear b1 b3 bo hbv hbw HST HRD)
      | (gi_at_builtin; refine wpListIn_append_sees rfl (.tmp 28) (.tmp 30) 28 rfl (w.heap.size + 7) 3 i0 _ 1 8 Try.underlying28 hi hz0 hz1 hz2 rfl (by decide) _ n xs rfl hown1 (w2.heap.size + 1) (some ⟨w2.heap.size, 0, none⟩) 1 1 [.int .i64 x] rfl rfl (fun _ => ⟨_, rfl, by simp, cell_one_at _ _ _⟩) (by simp [Value.oneCell']) (by unfold maxLen; omega) (by omega) (by simp; omega) ?_; intro v' w4 hown4 hg4 hv4; obtain ⟨g4, cap4, rfl⟩ := ownsRow_succ hown4; have hbx4 := hbx1.kept hg4 hnr1; have hbm4 := hbm1.kept hg4 hnr3; have hx4c := hbx4.cell; have hx4f := hbx4.frozen))
    have hfin := HR2.out w4 g4 cap4 hg2 hmap2 hown4 hg4 hv4 hbx4 hbm4
    exact hfin
  case done =>
    rintro xs O V hall ⟨v, D, hbx, hbm, hmap, hD, hown, hvO, hbl, hOw⟩ hD0
    have hnO : ¬ O w7.heap.size := fun h => by have := hOw _ h; omega
    obtain ⟨Av, cv, rfl⟩ := own_slice hown
    have hg := putObj_grown V w7.heap.size (.deferred none)
    have hcv := hbx.cell
    have hown2 := own_same hown (w' := V.putObj w7.heap.size (.deferred none)) (fun k hk => hg.block k (own_lt hown hk) (fun e => by injection e with e; exact hnO (e ▸ hvO k hk)))
    have hfin := Lib.hid (show Wi (V.putObj w7.heap.size (.deferred none)) (.slice Av xs.length cv) L ∧ Below w.heap.size w (V.putObj w7.heap.size (.deferred none)) from by
      rw [← show xs = L from hall]
      exact ⟨wi_own hown2, hbl.grown hg hbl.size (fun k e => by injection e with e; omega)⟩)
    clear hall hbx hbm hown hbl hvO hown2 hg hmap hD
    go_wp2
    refine hR.out _ _ _ _ (by simp) ?_
    refine ⟨by simp, .inl ⟨_, _, rfl, run_takeDeferred hD0, ?_⟩⟩
    exact ⟨_, results_tmp (t := 6) rfl _ _ _, _, rfl, hfin.out⟩
  case stop => exact fun _ _ _ _ _ h _ => h.elim
end Go.Proofs.Ytodbaahnmmfgiaa.Lk

namespace Go.Proofs.Ytodbaahnmmfgiaa.Lk
open Go.RowKit Go.Shelf
attribute [local go_sem] Oper.semAt_some

/- CHAIN. -/
theorem chain1_any (gt gw : Nat) (t : Int) (A : Option Addr) (m cb : Nat) (w : World) (ht : w.cell? ⟨gt, 0, none⟩ = some (.int .i64 t)) (hw : w.cell? ⟨gw, 0, none⟩ = some (.slice A m cb)) : Calls Try.prog 37 #[bx gt, bx gw] w fun e w' => e = .returned (.bool (threadB t && decide (m ≤ 4))) ∧ Below w.heap.size w w' := by
  have h1 := Lib.hid (fun w => known_any t w)
  obtain ⟨p, hp⟩ : ∃ p, p = decide (m ≤ 4) := ⟨_, rfl⟩
  have hpp : decide ((m : Int) ≤ 4) = p := by rw [hp]; exact decide_eq_decide.2 (by omega)
  have hp2 : decide (m ≤ 4) = p := hp.symm
  rw [hp2]
  obtain ⟨q, hq⟩ : ∃ q, q = threadB t := ⟨_, rfl⟩
  rw [← hq] at h1 ⊢
  clear hq hp
  cases q
  · go_enter Try.func37, Try.ntmps37
    go_wp2_with fail
    refine (h1.out _).mono ?_
    rintro e w1 ⟨rfl, rfl⟩
    go_wp2_with fail
    go_ret
    exact ⟨rfl, Below.refl _ _⟩
  · go_enter Try.func37, Try.ntmps37
    go_wp2_with fail
    refine (h1.out _).mono ?_
    rintro e w1 ⟨rfl, rfl⟩
    go_wp2_with fail
    go_ret
    exact ⟨rfl, Below.refl _ _⟩
set_option maxHeartbeats 1000000 in
theorem chain2_any {w : World} {bl b g c : Nat} {cs : Ce.Cs} {l : Ls} (h : LRep w bl b g c cs l) (gl gw : Nat) (ws : Ls) (A : Option Addr) (m cb : Nat) (hm : ws.length = m) (hm2 : m ≤ 100) (hs : Sees w w.heap.size A (izs ws)) (hp : w.cell? ⟨gl, 0, none⟩ = some (bx bl)) (hw : w.cell? ⟨gw, 0, none⟩ = some (.slice A m cb)) :
    Calls Try.prog 39 #[bx gl, bx gw] w fun e w' => e = .returned (.bool (rangeB l ws)) ∧ Below w.heap.size w w' := by
  have hh := Lib.hid (fun V (hb : Below w.heap.size w V) => (show Calls Try.prog 40 #[rk b, .slice A m cb] V (fun e w' => e = .returned (.bool (rangeB l ws)) ∧ Below w.heap.size w w') from
    (hasAll_any (h.below hb) ws A m cb hm hm2 ((hs.below hb).more hb.size)).mono fun e w' ⟨e1, e2⟩ => ⟨e1, below0 hb e2⟩))
  have hcl := h.cel
  have lp := lt_of_cell hp
  have lcl := lt_of_cell hcl
  have lw := lt_of_cell hw
  obtain ⟨q, hq⟩ : ∃ q, q = (rangeB l ws) := ⟨_, rfl⟩
  rw [← hq] at hh ⊢
  have HSA := Lib.hid (fun W (hB : Below w.heap.size w W) => (show W.cell? ⟨gl, 0, none⟩ = some (bx bl) ∧ W.cell? ⟨bl, 0, none⟩ = some (bx b) ∧ W.cell? ⟨gw, 0, none⟩ = some (.slice A m cb) ∧ Below w.heap.size w W from
    ⟨(hB.cell (p := ⟨gl, 0, none⟩) lp).trans hp, (hB.cell (p := ⟨bl, 0, none⟩) lcl).trans hcl, (hB.cell (p := ⟨gw, 0, none⟩) lw).trans hw, hB⟩))
  have hdr := Lib.hid (show Below w.heap.size w w.drew from (Below.refl _ _).drew)
  clear hq h hcl hs
  go_enter Try.func39, Try.ntmps39
  go_wp2_with fail
  go_region_held3 (fun W => W.cell? ⟨gl, 0, none⟩ = some (bx bl) ∧ W.cell? ⟨bl, 0, none⟩ = some (bx b) ∧ W.cell? ⟨gw, 0, none⟩ = some (.slice A m cb) ∧ Below w.heap.size w W)
    (first | exact HSA.out _ hdr.out | exact HSA.out _ (by assumption) | (go_split_ands; exact HSA.out _ (by assumption)))
    (first | (go_at_call 40; refine (hh.out _ (by go_split_ands; assumption)).mono ?_; rintro e w2 ⟨rfl, hb2⟩))
  go_wp2
  go_ret
  exact ⟨rfl, hb2⟩
set_option maxHeartbeats 1000000 in
theorem chain3_any {w : World} {bl b g c : Nat} {cs : Ce.Cs} {l : Ls} (h : LRep w bl b g c cs l) (gl gw : Nat) (ws : Ls) (A : Option Addr) (m cb : Nat) (hm : ws.length = m) (hm2 : m ≤ 4) (hr : rangeB l ws = true) (hs : Sees w w.heap.size A (izs ws)) (hp : w.cell? ⟨gl, 0, none⟩ = some (bx bl)) (hw : w.cell? ⟨gw, 0, none⟩ = some (.slice A m cb)) :
    Calls Try.prog 41 #[bx gl, bx gw] w fun e w' => e = .returned (.bool (orderB l ws)) ∧ Below w.heap.size w w' := by
  have hh := Lib.hid (fun V (hb : Below w.heap.size w V) => (show Calls Try.prog 42 #[rk b, .slice A m cb] V (fun e w' => e = .returned (.bool (orderB l ws)) ∧ Below w.heap.size w w') from
    (openAll_any (h.below hb) ws A m cb hm hm2 hr ((hs.below hb).more hb.size)).mono fun e w' ⟨e1, e2⟩ => ⟨e1, below0 hb e2⟩))
  have hcl := h.cel
  have lp := lt_of_cell hp
  have lcl := lt_of_cell hcl
  have lw := lt_of_cell hw
  obtain ⟨q, hq⟩ : ∃ q, q = (orderB l ws) := ⟨_, rfl⟩
  rw [← hq] at hh ⊢
  have HSA := Lib.hid (fun W (hB : Below w.heap.size w W) => (show W.cell? ⟨gl, 0, none⟩ = some (bx bl) ∧ W.cell? ⟨bl, 0, none⟩ = some (bx b) ∧ W.cell? ⟨gw, 0, none⟩ = some (.slice A m cb) ∧ Below w.heap.size w W from
    ⟨(hB.cell (p := ⟨gl, 0, none⟩) lp).trans hp, (hB.cell (p := ⟨bl, 0, none⟩) lcl).trans hcl, (hB.cell (p := ⟨gw, 0, none⟩) lw).trans hw, hB⟩))
  have hdr := Lib.hid (show Below w.heap.size w w.drew from (Below.refl _ _).drew)
  clear hq h hcl hs
  go_enter Try.func41, Try.ntmps41
  go_wp2_with fail
  go_region_held3 (fun W => W.cell? ⟨gl, 0, none⟩ = some (bx bl) ∧ W.cell? ⟨bl, 0, none⟩ = some (bx b) ∧ W.cell? ⟨gw, 0, none⟩ = some (.slice A m cb) ∧ Below w.heap.size w W)
    (first | exact HSA.out _ hdr.out | exact HSA.out _ (by assumption) | (go_split_ands; exact HSA.out _ (by assumption)))
    (first | (go_at_call 42; refine (hh.out _ (by go_split_ands; assumption)).mono ?_; rintro e w2 ⟨rfl, hb2⟩))
  go_wp2
  go_ret
  exact ⟨rfl, hb2⟩

def chA (v : Value) (s : Nat) (a1 a2 a3 a4 : Bool) : List Ask :=
  [⟨32, #[v], #[], 1, a1⟩, ⟨37, #[], #[bx (s + 1), bx (s + 2)], 2, a2⟩, ⟨39, #[], #[bx s, bx (s + 2)], 4, a3⟩, ⟨41, #[], #[bx s, bx (s + 2)], 220, a4⟩]
def chB (v : Value) (t : Int) (u : Value) : List (Value × TypeId) := [(v, 24), (.int .i64 t, 3), (u, 28)]
theorem ch_nonA (v : Value) (t : Int) (u : Value) (w : World) (h : NonL w v) : Calls Try.prog 36 #[.slice (some ⟨w.heap.size + 3, 0, none⟩) 4 4] (askW w (chB v t u) (chA v w.heap.size true true true true)) fun e w' => e = .returned (.int .i64 1) ∧ Boxes w [v, .int .i64 t, u] w' := by
  refine (asked_box (chB v t u) (chA v w.heap.size false true true true) 4 4 _ rfl rfl (by omega) fun k hk hall => ?_).mono fun e w' ⟨e1, e2, _⟩ => ⟨e1, e2⟩
  rcases k with _ | k
  · refine ⟨enters_of Try.func32 (by kernel_rfl) rfl, fun V hV => ?_⟩
    exact (lthere_non v V (h.below hV.below)).mono fun e w' ⟨e1, e2⟩ => ⟨e1, e2 ▸ Below.refl _ _⟩
  · exact absurd (hall 0 (by simp [chA]) (by omega)) (by simp [chA])
theorem ch_askedA {bl b g c : Nat} {cs : Ce.Cs} {l : Ls} {w : World} (h : LRep w bl b g c cs l) (t : Int) (ws : Ls) (A : Option Addr) (m cb : Nat) (hm : ws.length = m) (hm2 : m ≤ 100) (hs : Sees w w.heap.size A (izs ws)) :
    Calls Try.prog 36 #[.slice (some ⟨w.heap.size + 3, 0, none⟩) 4 4] (askW w (chB (bx bl) t (.slice A m cb)) (chA (bx bl) w.heap.size true true true true)) fun e w' => e = .returned (.int .i64 (chainE l t ws)) ∧ Boxes w [bx bl, .int .i64 t, .slice A m cb] w' := by
  obtain ⟨a2, ha2⟩ : ∃ a2, a2 = (threadB t && decide (m ≤ 4)) := ⟨_, rfl⟩
  obtain ⟨a3, ha3⟩ : ∃ a3, a3 = rangeB l ws := ⟨_, rfl⟩
  obtain ⟨a4, ha4⟩ : ∃ a4, a4 = orderB l ws := ⟨_, rfl⟩
  have hE : askE (chA (bx bl) w.heap.size true a2 a3 a4) = chainE l t ws := by
    unfold chainE
    rw [← ha3, ← ha4]
    cases a2
    · rw [if_pos (by
        cases ht : threadB t with
        | false => exact .inl rfl
        | true =>
          rw [ht, Bool.true_and] at ha2
          have := of_decide_eq_false ha2.symm
          exact .inr (by omega))]
      rfl
    · have h2 := ha2.symm
      rw [Bool.and_eq_true] at h2
      have h4 := of_decide_eq_true h2.2
      rw [if_neg (by rw [h2.1, hm]; simp; omega)]
      cases a3 <;> cases a4 <;> rfl
  refine (asked_box (chB (bx bl) t (.slice A m cb)) (chA (bx bl) w.heap.size true a2 a3 a4) 4 4 _ rfl rfl (by omega) fun k hk hall => ?_).mono fun e w' ⟨e1, e2, _⟩ => ⟨by rw [e1, hE], e2⟩
  rcases k with _ | _ | _ | _ | k
  · refine ⟨enters_of Try.func32 (by kernel_rfl) rfl, fun V hV => ?_⟩
    exact (lthere_at bl _ V (h.below hV.below).cel).mono fun e w' ⟨e1, e2⟩ => ⟨e1, e2 ▸ Below.refl _ _⟩
  · refine ⟨enters_of Try.func37 (by kernel_rfl) rfl, fun V hV => ?_⟩
    have := chain1_any (w.heap.size + 1) (w.heap.size + 2) t A m cb V (hV.cell 1 _ rfl) (hV.cell 2 _ rfl)
    rw [← ha2] at this
    exact this
  · refine ⟨enters_of Try.func39 (by kernel_rfl) rfl, fun V hV => ?_⟩
    have := chain2_any (h.below hV.below) w.heap.size (w.heap.size + 2) ws A m cb hm hm2 ((hs.below hV.below).more hV.below.size) (hV.cell 0 _ rfl) (hV.cell 2 _ rfl)
    rw [← ha3] at this
    exact this
  · have t2 : a2 = true := hall 1 (by simp [chA]) (by omega)
    have t3 : a3 = true := hall 2 (by simp [chA]) (by omega)
    rw [ha2, Bool.and_eq_true] at t2
    rw [ha3] at t3
    have t4 := of_decide_eq_true t2.2
    refine ⟨enters_of Try.func41 (by kernel_rfl) rfl, fun V hV => ?_⟩
    have := chain3_any (h.below hV.below) w.heap.size (w.heap.size + 2) ws A m cb hm t4 t3 ((hs.below hV.below).more hV.below.size) (hV.cell 0 _ rfl) (hV.cell 2 _ rfl)
    rw [← ha4] at this
    exact this
  · simp [chA] at hk
    omega
set_option maxHeartbeats 1000000 in
theorem chain_nil (v : Value) (t : Int) (A : Option Addr) (m cb : Nat) (w : World) (h : NonL w v) : Calls Try.prog 15 #[v, .int .i64 t, .slice A m cb] w fun e w' => e = .returned (.tuple #[.slice none 0 0, .int .i64 1]) ∧ Below w.heap.size w w' := by
  have h1 := Lib.hid (ch_nonA v t (.slice A m cb) w h)
  obtain ⟨pv, rfl⟩ := h.ptr
  clear h
  go_enter Try.func15, Try.ntmps15
  go_wp2_with fail
  refine wp_scope_jump 1 fun R hR hJm => ?_
  go_wp2_with fail
  refine (h1.out).mono ?_
  rintro e w1 ⟨rfl, hB⟩
  have HB := Lib.hid hB.below
  clear hB h1
  go_wp2_with fail
  refine wp_goto (hJm.out _ _ _ _ _ rfl ?_)
  go_wp2_with fail
  refine hR.out _ _ _ _ (by simp) ?_
  go_ret2
  exact ⟨rfl, HB.out⟩
set_option maxHeartbeats 1000000 in
theorem chain_no {bl b g c : Nat} {cs : Ce.Cs} {l : Ls} {w : World} (h : LRep w bl b g c cs l) (t : Int) (ws : Ls) (A : Option Addr) (m cb : Nat) (hm : ws.length = m) (hm2 : m ≤ 100) (hs : Sees w w.heap.size A (izs ws)) (hE : chainE l t ws ≠ 0) :
    Calls Try.prog 15 #[bx bl, .int .i64 t, .slice A m cb] w fun e w' => e = .returned (.tuple #[.slice none 0 0, .int .i64 (chainE l t ws)]) ∧ Below w.heap.size w w' := by
  have h1 := Lib.hid (ch_askedA h t ws A m cb hm hm2 hs)
  obtain ⟨E, hE2⟩ : ∃ E, E = chainE l t ws := ⟨_, rfl⟩
  rw [← hE2] at h1 hE ⊢
  have e0 : (E == 0) = false := beq_eq_false_iff_ne.2 hE
  have e1 : ¬ (E = 0) := hE
  clear hE2 h hE hs
  go_enter Try.func15, Try.ntmps15
  go_wp2_with fail
  refine wp_scope_jump 1 fun R hR hJm => ?_
  go_wp2_with fail
  refine (h1.out).mono ?_
  rintro e w1 ⟨rfl, hB⟩
  have HB := Lib.hid hB.below
  clear hB h1
  go_wp2_with fail
  refine wp_goto (hJm.out _ _ _ _ _ rfl ?_)
  go_wp2_with fail
  refine hR.out _ _ _ _ (by simp) ?_
  go_ret2
  exact ⟨rfl, HB.out⟩
set_option maxHeartbeats 2000000 in
theorem chain_yes {bl b g c : Nat} {cs : Ce.Cs} {l : Ls} {w : World} (h : LRep w bl b g c cs l) (t : Int) (ws : Ls) (A : Option Addr) (m cb : Nat) (hm : ws.length = m) (hm2 : m ≤ 100) (hs : Sees w w.heap.size A (izs ws)) (hE : chainE l t ws = 0) :
    Calls Try.prog 15 #[bx bl, .int .i64 t, .slice A m cb] w fun e w' => ∃ u, e = .returned (.tuple #[u, .int .i64 0]) ∧ Wi w' u (chainL l t ws) ∧ Below w.heap.size w w' := by
  have h1 := Lib.hid (ch_askedA h t ws A m cb hm hm2 hs)
  rw [hE] at h1
  have HCH := Lib.hid (fun w1 (hB : Boxes w [bx bl, .int .i64 t, .slice A m cb] w1) V (hb : Below w1.heap.size w1 V) => (show Calls Try.prog 43 #[rk b, .int .i64 t, .slice A m cb] V (fun e w' => ∃ u, e = .returned u ∧ Wi w' u (chainL l t ws) ∧ Below w.heap.size w w' ∧ Below w1.heap.size w1 w') from
    (chain_any (h.below (below0 hB.below hb)) ws A m cb hm ((hs.below (below0 hB.below hb)).more (below0 hB.below hb).size) t hE).mono fun e w' ⟨u, e1, e2, e3⟩ => ⟨u, e1, e2, below0 (below0 hB.below hb) e3, below0 hb e3⟩))
  have HS := Lib.hid (fun w1 (hB : Boxes w [bx bl, .int .i64 t, .slice A m cb] w1) W (hb : Below w1.heap.size w1 W) => (show W.cell? ⟨w.heap.size, 0, none⟩ = some (bx bl) ∧ W.cell? ⟨bl, 0, none⟩ = some (bx b) ∧ W.cell? ⟨w.heap.size + 1, 0, none⟩ = some (.int .i64 t) ∧ W.cell? ⟨w.heap.size + 2, 0, none⟩ = some (.slice A m cb) ∧ Below w1.heap.size w1 W from
    have hB2 := hB.more hb
    ⟨hB2.cell 0 _ rfl, (h.below hB2.below).cel, hB2.cell 1 _ rfl, hB2.cell 2 _ rfl, hb⟩))
  obtain ⟨L, hL⟩ : ∃ L, L = chainL l t ws := ⟨_, rfl⟩
  rw [← hL] at HCH ⊢
  clear hL h hE hs hm
  go_enter Try.func15, Try.ntmps15
  go_wp2_with fail
  refine wp_scope_jump 1 fun R hR hJm => ?_
  go_wp2_with fail
  refine (h1.out).mono ?_
  rintro e w1 ⟨rfl, hB⟩
  have HSA := Lib.hid (HS.out w1 hB)
  have HC := Lib.hid (HCH.out w1 hB)
  have hdr := Lib.hid (show Below w1.heap.size w1 w1.drew from (Below.refl _ _).drew)
  clear hB h1 HS HCH
  go_wp2_with fail
  go_region_held3 (fun W => W.cell? ⟨w.heap.size, 0, none⟩ = some (bx bl) ∧ W.cell? ⟨bl, 0, none⟩ = some (bx b) ∧ W.cell? ⟨w.heap.size + 1, 0, none⟩ = some (.int .i64 t) ∧ W.cell? ⟨w.heap.size + 2, 0, none⟩ = some (.slice A m cb) ∧ Below w1.heap.size w1 W)
    (first | exact HSA.out _ hdr.out | exact HSA.out _ hbx2 | (go_split_ands; exact HSA.out _ (by assumption)))
    (first | (go_at_call 43; refine (HC.out _ (by go_split_ands; assumption)).mono ?_; rintro e w2 ⟨u, rfl, hw2, hb2, hbx2⟩))
  have HF := Lib.hid (And.intro hw2 hb2)
  clear hw2 hb2 HC HSA
  go_wp2_with fail
  refine hR.out _ _ _ _ (by simp) ?_
  go_ret2
  exact ⟨_, rfl, HF.out⟩
theorem lchain_any {w : World} {v : Value} {l : Ls} {F : Nat → Prop} (t : Int) (ws : Ls) (u : Value) (h : HasL w v l F) (hs : Sl w u ws) (hl : ws.length ≤ 100) : Calls Try.prog 15 #[v, .int .i64 t, u] w fun e w' => ∃ u', e = .returned (.tuple #[u', .int .i64 (chainE l t ws)]) ∧ Wi w' u' (chainR l t ws) ∧ Below w.heap.size w w' := by
  obtain ⟨bl, b, g, c, cs, rfl, h, rfl⟩ := h
  obtain ⟨A, cb, rfl, hs⟩ := hs
  by_cases hE : chainE l t ws = 0
  · unfold chainR
    rw [hE, if_pos rfl]
    exact chain_yes h t ws A ws.length cb rfl hl hs hE
  · refine (chain_no h t ws A ws.length cb rfl hl hs hE).mono fun e w' ⟨e1, e2⟩ => ⟨_, e1, ?_, e2⟩
    unfold chainR
    rw [if_neg hE]
    exact Wi.nil_ _
end Go.Proofs.Ytodbaahnmmfgiaa.Lk
