import Derived.Test.YtelhieinkdmpfaaDoorSR
import Derived.Test.YtelhieinkdmpfaaDoorGatherL
namespace Go.Proofs.YtelhieinkdmpfaaDoor.Sh
open Go.RowKit Go.Shelf
attribute [local go_sem] Oper.semAt_some

/- STATETEXTS' STATES. -/
/-- what stands besides the sheets: two calls, the blocks of what All gave -/
structure TB (w : World) (g5 : Nat) (five : List Value) (Pv : Nat → Prop) (V4 V : World) : Prop where
  two : Row V g5 58 five
  below : Below w.heap.size w V
  pv : ∀ k, Pv k → k < V4.heap.size ∧ V.heap[k]? = V4.heap[k]?
  size : V4.heap.size ≤ V.heap.size
def Off (w : World) (g5 : Nat) (Pv F : Nat → Prop) : Prop := ∀ k, F k → w.heap.size ≤ k ∧ k ≠ g5 ∧ ¬ Pv k
theorem TB.more {w V V' V4 : World} {g5 : Nat} {five : List Value} {Pv : Nat → Prop} (h : TB w g5 five Pv V4 V) (hb : Below V.heap.size V V') : TB w g5 five Pv V4 V' :=
  ⟨h.two.below hb, below0 h.below hb, fun k hk => ⟨(h.pv k hk).1, (hb.block k (Nat.lt_of_lt_of_le (h.pv k hk).1 h.size)).trans (h.pv k hk).2⟩, Nat.le_trans h.size hb.size⟩
theorem TB.keep {w V V' V4 : World} {g5 : Nat} {five : List Value} {Pv F : Nat → Prop} (h : TB w g5 five Pv V4 V) (ho : Off w g5 Pv F) (hk : Keep F V V') : TB w g5 five Pv V4 V' :=
  ⟨h.two.same (hk.block _ h.two.lt (fun hf => (ho _ hf).2.1 rfl)), h.below.trans (hk.below (fun k hf => (ho k hf).1) h.below.size), fun k hp => ⟨(h.pv k hp).1, (hk.block k (Nat.lt_of_lt_of_le (h.pv k hp).1 h.size) (fun hf => (ho k hf).2.2 hp)).trans (h.pv k hp).2⟩, Nat.le_trans h.size hk.size⟩
structure T1 (Has : HasT) (w : World) (g5 : Nat) (five : List Value) (Pv : Nat → Prop) (v vc vv : Value) (l : Ls) (V4 V : World) : Prop where
  ex : ∃ F Fc, Has V v l F ∧ Has V vc l Fc ∧ (∀ k, F k → ¬ Fc k) ∧ Off w g5 Pv F ∧ Off w g5 Pv Fc ∧ Ap vv l F ∧ Ap vv l Fc
  wi : Wi V vv l
  tb : TB w g5 five Pv V4 V
structure T2 (Has : HasT) (w : World) (g5 : Nat) (five : List Value) (Pv : Nat → Prop) (v1 vc vv vv1 : Value) (l l1 : Ls) (V4 V : World) : Prop where
  ex : ∃ F1 Fc, Has V v1 l1 F1 ∧ Has V vc l Fc ∧ (∀ k, F1 k → ¬ Fc k) ∧ Off w g5 Pv Fc ∧ Ap vv l Fc ∧ Ap vv1 l1 Fc
  wi : Wi V vv l
  wi1 : Wi V vv1 l1
  tb : TB w g5 five Pv V4 V
structure T3 (Has : HasT) (w : World) (g5 : Nat) (five : List Value) (Pv : Nat → Prop) (v1 v2 vv vv1 vv2 : Value) (l l1 l2 : Ls) (V4 V : World) : Prop where
  ex : ∃ F1 F2, Has V v1 l1 F1 ∧ Has V v2 l2 F2
  wi : Wi V vv l
  wi1 : Wi V vv1 l1
  wi2 : Wi V vv2 l2
  tb : TB w g5 five Pv V4 V
section
variable {Has : HasT} (H : Api Has) {w V V' V4 : World} {g5 : Nat} {five : List Value} {Pv : Nat → Prop} {v vc vv v1 v2 vv1 vv2 : Value} {l l1 l2 : Ls}
include H
theorem T1.act (hTb : Tb w) (h : T1 Has w g5 five Pv v vc vv l V4 V) (x : Ac) (hx : x.fits) : Calls Tryd.prog 24 #[v, vv, .agg x.cells.toArray] V fun e V' => ∃ v1 vv1, e = .returned (.tuple #[v1, vv1, .bool true]) ∧ T2 Has w g5 five Pv v1 vc vv vv1 l (actL l x) V4 V' := by
  obtain ⟨⟨F, Fc, h1, h2, h3, h4, h5, h6, h7⟩, h8, h9⟩ := h
  refine (act_any H v vv l F x V (hTb.below h9.below) h1 h8 h6 hx).mono ?_
  rintro e V' ⟨v', vv', F', rfl, a1, a2, a3, a4, a5, a6⟩
  refine ⟨v', vv', rfl, ⟨F', Fc, a1, H.keep h2 (fun k hk => a4.block k (H.lt h2 k hk) (fun hf => h3 k hf hk)), fun k hk hc => ?_, h5, h7, ?_⟩, h8.keep h6 a4, a2, h9.keep h4 a4⟩
  · rcases a5 k hk with hk | hk
    · exact h3 k hk hc
    · have := H.lt h2 k hc; omega
  · intro hn g hg hc
    rcases a6 with rfl | a6
    · exact h7 (fun e => hn (List.eq_nil_of_length_eq_zero (by rw [actL_len, e]; rfl))) g hg hc
    · have := a6 g hg
      have := H.lt h2 g hc
      omega
theorem T2.act (hTb : Tb w) (h : T2 Has w g5 five Pv v1 vc vv vv1 l l1 V4 V) (x : Ac) (hx : x.fits) : Calls Tryd.prog 24 #[vc, vv, .agg x.cells.toArray] V fun e V' => ∃ v2 vv2, e = .returned (.tuple #[v2, vv2, .bool true]) ∧ T3 Has w g5 five Pv v1 v2 vv vv1 vv2 l l1 (actL l x) V4 V' := by
  obtain ⟨⟨F, Fc, h1, h2, h3, h5, h6, h7⟩, h8, h10, h9⟩ := h
  refine (act_any H vc vv l Fc x V (hTb.below h9.below) h2 h8 h6 hx).mono ?_
  rintro e V' ⟨v', vv', F', rfl, a1, a2, a3, a4, a5, a6⟩
  exact ⟨v', vv', rfl, ⟨F, F', H.keep h1 (fun k hk => a4.block k (H.lt h1 k hk) (fun hf => h3 k hk hf)), a1⟩, h8.keep h6 a4, h10.keep h7 a4, a2, h9.keep h5 a4⟩
theorem T3.more (h : T3 Has w g5 five Pv v1 v2 vv vv1 vv2 l l1 l2 V4 V) (hb : Below V.heap.size V V') : T3 Has w g5 five Pv v1 v2 vv vv1 vv2 l l1 l2 V4 V' := by
  obtain ⟨⟨F, Fc, h1, h2⟩, h3, h4, h5, h6⟩ := h
  exact ⟨⟨F, Fc, H.below h1 hb, H.below h2 hb⟩, h3.below hb, h4.below hb, h5.below hb, h6.more hb⟩
theorem T3.sts (h : T3 Has w g5 five Pv v1 v2 vv vv1 vv2 l l1 l2 V4 V) : (Sts l1 ∧ l1.length ≤ 256) ∧ Sts l2 ∧ l2.length ≤ 256 := by
  obtain ⟨⟨F, Fc, h1, h2⟩, _⟩ := h
  exact ⟨⟨H.sts h1, H.most h1⟩, H.sts h2, H.most h2⟩
theorem T3.text1 (h : T3 Has w g5 five Pv v1 v2 vv vv1 vv2 l l1 l2 V4 V) : Calls Tryd.prog 29 #[vv1] V fun e V' => e = .returned (.string (str (text l1))) ∧ T3 Has w g5 five Pv v1 v2 vv vv1 vv2 l l1 l2 V4 V' :=
  (rtext_wi l1 vv1 V (T3.sts H h).1.2 (T3.sts H h).1.1 h.wi1).mono fun _ _ ⟨e, hb⟩ => ⟨e, T3.more H h hb⟩
theorem T3.text2 (h : T3 Has w g5 five Pv v1 v2 vv vv1 vv2 l l1 l2 V4 V) : Calls Tryd.prog 29 #[vv2] V fun e V' => e = .returned (.string (str (text l2))) ∧ T3 Has w g5 five Pv v1 v2 vv vv1 vv2 l l1 l2 V4 V' :=
  (rtext_wi l2 vv2 V (T3.sts H h).2.2 (T3.sts H h).2.1 h.wi2).mono fun _ _ ⟨e, hb⟩ => ⟨e, T3.more H h hb⟩
theorem T3.is1 (h : T3 Has w g5 five Pv v1 v2 vv vv1 vv2 l l1 l2 V4 V) : Calls Tryd.prog 25 #[v1, vv1] V fun e V' => e = .returned (.bool true) ∧ T3 Has w g5 five Pv v1 v2 vv vv1 vv2 l l1 l2 V4 V' := by
  obtain ⟨F, Fc, h1, h2⟩ := h.ex
  exact (is_any H v1 vv1 l1 F V h1 h.wi1).mono fun _ _ ⟨e, hb⟩ => ⟨e, T3.more H h hb⟩
theorem T3.is2 (h : T3 Has w g5 five Pv v1 v2 vv vv1 vv2 l l1 l2 V4 V) : Calls Tryd.prog 25 #[v2, vv2] V fun e V' => e = .returned (.bool true) ∧ T3 Has w g5 five Pv v1 v2 vv vv1 vv2 l l1 l2 V4 V' := by
  obtain ⟨F, Fc, h1, h2⟩ := h.ex
  exact (is_any H v2 vv2 l2 Fc V h2 h.wi2).mono fun _ _ ⟨e, hb⟩ => ⟨e, T3.more H h hb⟩
theorem T3.same (h : T3 Has w g5 five Pv v1 v2 vv vv1 vv2 l l1 l2 V4 V) : Calls Tryd.prog 23 #[v1, v2] V fun e V' => e = .returned (.bool (decide (l1 = l2))) ∧ T3 Has w g5 five Pv v1 v2 vv vv1 vv2 l l1 l2 V4 V' := by
  obtain ⟨F, Fc, h1, h2⟩ := h.ex
  exact (H.same h1 h2).mono fun _ _ ⟨e, hb⟩ => ⟨e, T3.more H h hb⟩
theorem T3.same2 (h : T3 Has w g5 five Pv v1 v2 vv vv1 vv2 l l1 l2 V4 V) : Calls Tryd.prog 23 #[v2, v1] V fun e V' => e = .returned (.bool (decide (l1 = l2))) ∧ T3 Has w g5 five Pv v1 v2 vv vv1 vv2 l l1 l2 V4 V' := by
  obtain ⟨F, Fc, h1, h2⟩ := h.ex
  exact (H.same h2 h1).mono fun _ _ ⟨e, hb⟩ => ⟨by rw [e]; congr 2; exact decide_eq_decide.2 eq_comm, T3.more H h hb⟩
end
theorem text_eq {l1 l2 : Ls} (h1 : Sts l1) (h2 : Sts l2) : ((str (text l1)).toList == (str (text l2)).toList) = decide (l1 = l2) := by
  rw [str_toList, str_toList]
  by_cases e : l1 = l2
  · subst e
    simp
  · rw [decide_eq_false e, beq_eq_false_iff_ne]
    exact fun h => e (text_inj h1 h2 h)
end Go.Proofs.YtelhieinkdmpfaaDoor.Sh
