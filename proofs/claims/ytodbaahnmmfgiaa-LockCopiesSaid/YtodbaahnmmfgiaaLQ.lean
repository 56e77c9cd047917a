import Derived.Test.YtodbaahnmmfgiaaLL
namespace Go.Proofs.Ytodbaahnmmfgiaa.Lk
open Go.RowKit Go.Shelf
attribute [local go_sem] Oper.semAt_some

/- LOCKCOPIES' STATES. -/
/-- locks, and the document's list of the same in a box -/
def CS (Has : HasT) (w : World) (g7 : Nat) (v : Value) (l : Ls) (V : World) : Prop :=
  ∃ F vv, Has V v l F ∧ (∀ k, F k → w.heap.size ≤ k ∧ k ≠ g7) ∧ Boxed V g7 28 vv ∧ Wi V vv l ∧ Below w.heap.size w V ∧ w.heap.size ≤ g7
section
variable {Has : HasT} (H : Api Has) {w V V' : World} {v : Value} {l l' : Ls} {g7 : Nat}
theorem boxed_below {V V' : World} {b : Nat} {t : TypeId} {v : Value} (h : Boxed V b t v) (hb : Below V.heap.size V V') : Boxed V' b t v := (hb.block _ h.lt).trans h
theorem wi_set {V : World} {u x : Value} {L : Ls} {b : Nat} {y : Value} (h : Wi V u L) (hx : Boxed V b 28 y) : Wi (V.setCell ⟨b, 0, none⟩ x) u L := h.same fun g cs hr => heap_set (fun e => by
  subst e
  have := hr.symm.trans hx
  injection this with this
  injection this with _ e
  exact absurd e (by decide))
include H
theorem CS.more (h : CS Has w g7 v l V) (hb : Below V.heap.size V V') : CS Has w g7 v l V' := by
  obtain ⟨F, vv, h1, h2, h3, h4, h5, h6⟩ := h
  exact ⟨F, vv, H.below h1 hb, h2, boxed_below h3 hb, h4.below hb, below0 h5 hb, h6⟩
theorem CS.step (h : CS Has w g7 v l V) {A : Option Addr} {c : Nat} (hc : V.cell? ⟨g7, 0, none⟩ = some (.slice A l.length c)) {V0 : World} (hb : Below V.heap.size V V0) (x : Ac) (hx : x.fits) :
    Calls Try.prog 12 #[v, .slice A l.length c, .agg x.cells.toArray] V0 fun e V1 => ∃ v' A' c' y, e = .returned (.tuple #[v', .slice A' (actL l x.what x.thread x.rank).length c', .bool true]) ∧ V1.cell? ⟨g7, 0, none⟩ = some y ∧ V1.frozen? ⟨g7, 0, none⟩ = false ∧ Below w.heap.size w V1 ∧
      Below w.heap.size w (V1.setCell ⟨g7, 0, none⟩ (.slice A' (actL l x.what x.thread x.rank).length c')) ∧ CS Has w g7 v' (actL l x.what x.thread x.rank) (V1.setCell ⟨g7, 0, none⟩ (.slice A' (actL l x.what x.thread x.rank).length c')) := by
  obtain ⟨F, vv, h1, h2, h3, h4, h5, h6⟩ := h
  have e := h3.cell.symm.trans hc
  simp only [Option.some.injEq] at e
  subst e
  have hlt := h3.lt
  have hbs := hb.size
  refine (act_any H v _ l F x V0 (H.below h1 hb) (h4.below hb) hx).mono ?_
  rintro e V1 ⟨v', F', vv', rfl, a1, a2, a3, a4⟩
  obtain ⟨A', c', rfl, hc', hrow⟩ := a2
  have a2 : Wi V1 (.slice A' (actL l x.what x.thread x.rank).length c') (actL l x.what x.thread x.rank) := ⟨A', c', rfl, hc', hrow⟩
  have hbx : Boxed V1 g7 28 (.slice A l.length c) := (a3.block _ (by omega) (fun hf => (h2 _ hf).2 rfl)).trans (boxed_below h3 hb)
  have hB1 : Below w.heap.size w V1 := (below0 h5 hb).trans (a3.below (fun k hk => (h2 k hk).1) (below0 h5 hb).size)
  have hF' : ∀ k, F' k → w.heap.size ≤ k ∧ k ≠ g7 := fun k hk => by
    rcases a4 k hk with h | h
    · exact h2 k h
    · have := h5.size
      exact ⟨by omega, by omega⟩
  exact ⟨v', A', c', _, rfl, hbx.cell, hbx.frozen, hB1, hB1.setCell h6 _, F', _, H.keep a1 (fun k hk => heap_set (hF' k hk).2), hF', hbx.set _, wi_set a2 hbx, hB1.setCell h6 _, h6⟩
end
/-- locks, a copy of them, and what All gave -/
structure D1 (Has : HasT) (w : World) (g7 : Nat) (v vd vv : Value) (l : Ls) (F Fd Pv : Nat → Prop) (V4 V : World) : Prop where
  has : Has V v l F
  hasd : Has V vd l Fd
  f0 : ∀ k, F k → w.heap.size ≤ k ∧ k ≠ g7 ∧ ¬ Fd k ∧ ¬ Pv k
  fd : ∀ k, Fd k → w.heap.size ≤ k ∧ k ≠ g7 ∧ ¬ Pv k
  box : Boxed V g7 28 vv
  wi : Wi V vv l
  below : Below w.heap.size w V
  pv : ∀ k, Pv k → k < V4.heap.size ∧ V.heap[k]? = V4.heap[k]?
  size : V4.heap.size ≤ V.heap.size
structure D2 (Has : HasT) (w : World) (g7 : Nat) (v1 vd vv vv1 : Value) (l l1 : Ls) (F1 Fd Pv : Nat → Prop) (V4 V : World) : Prop where
  has1 : Has V v1 l1 F1
  hasd : Has V vd l Fd
  f1 : ∀ k, F1 k → ¬ Fd k
  fd : ∀ k, Fd k → w.heap.size ≤ k ∧ k ≠ g7 ∧ ¬ Pv k
  box : Boxed V g7 28 vv
  wi : Wi V vv l
  wi1 : Wi V vv1 l1
  below : Below w.heap.size w V
  pv : ∀ k, Pv k → k < V4.heap.size ∧ V.heap[k]? = V4.heap[k]?
  size : V4.heap.size ≤ V.heap.size
structure D3 (Has : HasT) (w : World) (g7 : Nat) (v1 v2 vv vv1 vv2 : Value) (l l1 l2 : Ls) (F1 F2 Pv : Nat → Prop) (V4 V : World) : Prop where
  has1 : Has V v1 l1 F1
  has2 : Has V v2 l2 F2
  box : Boxed V g7 28 vv
  wi : Wi V vv l
  wi1 : Wi V vv1 l1
  wi2 : Wi V vv2 l2
  below : Below w.heap.size w V
  pv : ∀ k, Pv k → k < V4.heap.size ∧ V.heap[k]? = V4.heap[k]?
  size : V4.heap.size ≤ V.heap.size
section
variable {Has : HasT} (H : Api Has) {w V V' V4 : World} {v vd vv v1 v2 vv1 vv2 : Value} {l l1 l2 : Ls} {F Fd F1 F2 Pv : Nat → Prop} {g7 : Nat}
include H
theorem D1.act (h : D1 Has w g7 v vd vv l F Fd Pv V4 V) (x : Ac) (hx : x.fits) : Calls Try.prog 12 #[v, vv, .agg x.cells.toArray] V fun e V' =>
    ∃ v1 vv1 F1, e = .returned (.tuple #[v1, vv1, .bool true]) ∧ D2 Has w g7 v1 vd vv vv1 l (actL l x.what x.thread x.rank) F1 Fd Pv V4 V' := by
  refine (act_any H v vv l F x V h.has h.wi hx).mono ?_
  rintro e V' ⟨v1, F1, vv1, rfl, a1, a2, a3, a4⟩
  have hbl := h.box.lt
  refine ⟨v1, vv1, F1, rfl, a1, H.keep h.hasd (fun k hk => a3.block k (H.lt h.hasd k hk) (fun hf => (h.f0 k hf).2.2.1 hk)), fun k hk hd => ?_, h.fd, (a3.block _ hbl (fun hf => (h.f0 _ hf).2.1 rfl)).trans h.box, H.wi h.has h.wi a3, a2,
    h.below.trans (a3.below (fun k hk => (h.f0 k hk).1) h.below.size), fun k hk => ⟨(h.pv k hk).1, (a3.block k (Nat.lt_of_lt_of_le (h.pv k hk).1 h.size) (fun hf => (h.f0 k hf).2.2.2 hk)).trans (h.pv k hk).2⟩, Nat.le_trans h.size a3.size⟩
  rcases a4 k hk with h1 | h1
  · exact (h.f0 k h1).2.2.1 hd
  · have := H.lt h.hasd k hd
    omega
theorem D2.act (h : D2 Has w g7 v1 vd vv vv1 l l1 F1 Fd Pv V4 V) (x : Ac) (hx : x.fits) : Calls Try.prog 12 #[vd, vv, .agg x.cells.toArray] V fun e V' =>
    ∃ v2 vv2 F2, e = .returned (.tuple #[v2, vv2, .bool true]) ∧ D3 Has w g7 v1 v2 vv vv1 vv2 l l1 (actL l x.what x.thread x.rank) F1 F2 Pv V4 V' := by
  refine (act_any H vd vv l Fd x V h.hasd h.wi hx).mono ?_
  rintro e V' ⟨v2, F2, vv2, rfl, a1, a2, a3, a4⟩
  have hbl := h.box.lt
  exact ⟨v2, vv2, F2, rfl, H.keep h.has1 (fun k hk => a3.block k (H.lt h.has1 k hk) (fun hf => h.f1 k hk hf)), a1, (a3.block _ hbl (fun hf => (h.fd _ hf).2.1 rfl)).trans h.box, H.wi h.hasd h.wi a3, H.wi h.hasd h.wi1 a3, a2,
    h.below.trans (a3.below (fun k hk => (h.fd k hk).1) h.below.size), fun k hk => ⟨(h.pv k hk).1, (a3.block k (Nat.lt_of_lt_of_le (h.pv k hk).1 h.size) (fun hf => (h.fd k hf).2.2 hk)).trans (h.pv k hk).2⟩, Nat.le_trans h.size a3.size⟩
theorem D3.more (h : D3 Has w g7 v1 v2 vv vv1 vv2 l l1 l2 F1 F2 Pv V4 V) (hb : Below V.heap.size V V') : D3 Has w g7 v1 v2 vv vv1 vv2 l l1 l2 F1 F2 Pv V4 V' :=
  ⟨H.below h.has1 hb, H.below h.has2 hb, boxed_below h.box hb, h.wi.below hb, h.wi1.below hb, h.wi2.below hb, below0 h.below hb, fun k hk => ⟨(h.pv k hk).1, (hb.block k (Nat.lt_of_lt_of_le (h.pv k hk).1 h.size)).trans (h.pv k hk).2⟩, Nat.le_trans h.size hb.size⟩
theorem D3.same (h : D3 Has w g7 v1 v2 vv vv1 vv2 l l1 l2 F1 F2 Pv V4 V) : Calls Try.prog 14 #[v1, v2] V fun e V' => e = .returned (.bool (decide (l1 = l2))) ∧ D3 Has w g7 v1 v2 vv vv1 vv2 l l1 l2 F1 F2 Pv V4 V' :=
  (H.same h.has1 h.has2).mono fun _ _ ⟨e, hb⟩ => ⟨e, D3.more H h hb⟩
theorem D3.same2 (h : D3 Has w g7 v1 v2 vv vv1 vv2 l l1 l2 F1 F2 Pv V4 V) : Calls Try.prog 14 #[v2, v1] V fun e V' => e = .returned (.bool (decide (l1 = l2))) ∧ D3 Has w g7 v1 v2 vv vv1 vv2 l l1 l2 F1 F2 Pv V4 V' :=
  (H.same h.has2 h.has1).mono fun _ _ ⟨e, hb⟩ => ⟨by rw [e]; congr 2; exact decide_eq_decide.2 eq_comm, D3.more H h hb⟩
theorem D3.rsame (h : D3 Has w g7 v1 v2 vv vv1 vv2 l l1 l2 F1 F2 Pv V4 V) : Calls Try.prog 17 #[vv1, vv2] V fun e V' => e = .returned (.bool (decide (l1 = l2))) ∧ D3 Has w g7 v1 v2 vv vv1 vv2 l l1 l2 F1 F2 Pv V4 V' :=
  (rsame_wi l1 l2 vv1 vv2 V (H.most h.has1) h.wi1 h.wi2).mono fun _ _ ⟨e, hb⟩ => ⟨e, D3.more H h hb⟩
end
section
variable {Has : HasT} {gf : Nat} (HA : ApiA Has gf) {w V V' V4 : World} {v1 v2 vv vv1 vv2 : Value} {l l1 l2 : Ls} {F1 F2 Pv : Nat → Prop} {g7 : Nat}
include HA
theorem D3.is1 (h : D3 Has w g7 v1 v2 vv vv1 vv2 l l1 l2 F1 F2 Pv V4 V) : Calls Try.prog 13 #[v1, vv1] V fun e V' => e = .returned (.bool true) ∧ D3 Has w g7 v1 v2 vv vv1 vv2 l l1 l2 F1 F2 Pv V4 V' :=
  (is_any HA h.has1 h.wi1).mono fun _ _ ⟨e, hb⟩ => ⟨e, D3.more HA.api h hb⟩
theorem D3.is2 (h : D3 Has w g7 v1 v2 vv vv1 vv2 l l1 l2 F1 F2 Pv V4 V) : Calls Try.prog 13 #[v2, vv2] V fun e V' => e = .returned (.bool true) ∧ D3 Has w g7 v1 v2 vv vv1 vv2 l l1 l2 F1 F2 Pv V4 V' :=
  (is_any HA h.has2 h.wi2).mono fun _ _ ⟨e, hb⟩ => ⟨e, D3.more HA.api h hb⟩
end
/-! the pairs, rising -/
theorem prTo_sorted (l : Ls) : ∀ i, (prTo l i).Pairwise (fun a b => a.1 < b.1)
  | 0 => List.Pairwise.nil
  | i + 1 => by
    rw [prTo, List.pairwise_append]
    refine ⟨prTo_sorted l i, ?_, fun a ha b hb => ?_⟩
    · unfold prAt
      split
      · exact List.Pairwise.nil
      · exact List.pairwise_singleton _ _
    · have h1 := (prTo_mem l i a ha).1
      unfold prAt at hb
      split at hb
      · cases hb
      · rw [List.mem_singleton] at hb
        subst hb
        exact h1
def lastOf (pre : List (Nat × Int)) : Int := match pre.getLast? with | some x => (x.1 : Int) | none => -1
theorem lastOf_snoc (pre : List (Nat × Int)) (x : Nat × Int) : lastOf (pre ++ [x]) = (x.1 : Int) := by simp [lastOf]
theorem last_lt {L pre post : List (Nat × Int)} {x : Nat × Int} (h : L.Pairwise (fun a b => a.1 < b.1)) (e : L = pre ++ x :: post) : lastOf pre < (x.1 : Int) := by
  unfold lastOf
  cases hx : pre.getLast? with
  | none => simp only; omega
  | some y =>
    have hy : y ∈ pre := List.mem_of_getLast? hx
    rw [e, List.pairwise_append] at h
    have := h.2.2 y hy x (by simp)
    simp only
    omega
theorem lastOf_ge (pre : List (Nat × Int)) : -1 ≤ lastOf pre := by
  unfold lastOf
  split <;> omega
end Go.Proofs.Ytodbaahnmmfgiaa.Lk
