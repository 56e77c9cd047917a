import Derived.Test.YtmocdokikcbjeaaRC
namespace Go.Proofs.Ytmocdokikcbjeaa
open Go.RowKit Go.Shelf Go.Maps Go.Sort
attribute [local go_sem] Oper.semAt_some

/- THE DOCUMENT's MAP. -/
def RefP (w : World) (l' : Tb) (tail : List Value) (e : Ending) (w' : World) : Prop :=
  ∃ A' c', e = .returned (.tuple (.agg #[.slice A' l'.length c'] :: tail).toArray) ∧ l'.length ≤ c' ∧ Lies w' A' l' ∧ Below w.heap.size w w'
theorem load_tb {W : World} {b : Nat} {v : Value} (h : W.cell? ⟨b, 0, none⟩ = some v) : (loadVar 29 ⟨b, 0, none⟩).run Try.prog W = .ok (.agg #[v]) W :=
  run_loadVar_mid _ b 0 _ [v] _ (fun j u hj => by
    rw [Nat.zero_add]
    cases j with
    | zero => simp at hj; rw [h, hj]
    | succ j => simp at hj) Try.underlying29 rfl (by kernel_rfl)
theorem ins_append : ∀ (a b : Tb) (p : Int) (x : En), (∀ r ∈ a, r.1 < p) → ins (a ++ b) p x = a ++ ins b p x
  | [], b, p, x, _ => rfl
  | r :: t, b, p, x, h => by
    rw [List.cons_append, ins, if_neg (by have := h r (by simp); omega), ins_append t b p x fun q hq => h q (by simp [hq])]
    rfl
theorem ins_left : ∀ (a b : Tb) (p : Int) (x : En), (∃ r ∈ a, p < r.1) → ins (a ++ b) p x = ins a p x ++ b
  | [], b, p, x, ⟨_, h, _⟩ => by simp at h
  | r :: t, b, p, x, h => by
    rw [List.cons_append, ins, ins]
    by_cases hr : p < r.1
    · rw [if_pos hr, if_pos hr]
      rfl
    · rw [if_neg hr, if_neg hr, ins_left t b p x (by
        obtain ⟨q, hq, hp⟩ := h
        rcases List.mem_cons.1 hq with rfl | hq
        · exact absurd hp hr
        · exact ⟨q, hq, hp⟩)]
      rfl
/-- what has been laid of the new rows -/
def outT (l : Tb) (p : Int) (x : En) (i : Nat) (q : Bool) : Tb := if q then ins (l.take i) p x else l.take i
structure PutI (l : Tb) (p : Int) (i : Nat) (q : Bool) : Prop where
  yes : q = true → ∃ r ∈ l.take i, p < r.1
  no : q = false → ∀ r ∈ l.take i, r.1 < p
theorem out_len (l : Tb) (p : Int) (x : En) (i : Nat) (q : Bool) : (outT l p x i q).length ≤ i + 1 := by
  unfold outT
  split
  · rw [ins_len, List.length_take]; omega
  · rw [List.length_take]; omega
theorem put_new {l : Tb} {p : Int} (x : En) {i : Nat} (hi : i < l.length) (h : PutI l p i false) (hp : p < l[i].1) : PutI l p (i + 1) true ∧ outT l p x (i + 1) true = (outT l p x i false ++ [(p, x)]) ++ [l[i]] := by
  have e := List.take_succ_eq_append_getElem hi
  refine ⟨⟨fun _ => ⟨l[i], by rw [e]; exact List.mem_append_right _ (List.mem_singleton.2 rfl), hp⟩, fun h => (by cases h)⟩, ?_⟩
  show ins (l.take (i + 1)) p x = (l.take i ++ [(p, x)]) ++ [l[i]]
  rw [e, ins_append _ _ _ _ (h.no rfl), ins, if_pos hp]
  simp
theorem put_not {l : Tb} {p : Int} (x : En) {i : Nat} (hi : i < l.length) (h : PutI l p i false) (hp : ¬ (p < l[i].1)) (hne : l[i].1 ≠ p) : PutI l p (i + 1) false ∧ outT l p x (i + 1) false = outT l p x i false ++ [l[i]] := by
  have e := List.take_succ_eq_append_getElem hi
  refine ⟨⟨fun h => (by cases h), fun _ r hr => ?_⟩, ?_⟩
  · rw [e, List.mem_append] at hr
    rcases hr with hr | hr
    · exact h.no rfl r hr
    · rw [List.mem_singleton] at hr
      rw [hr]
      omega
  · show l.take (i + 1) = l.take i ++ [l[i]]
    exact e
theorem put_on {l : Tb} {p : Int} (x : En) {i : Nat} (hi : i < l.length) (h : PutI l p i true) : PutI l p (i + 1) true ∧ outT l p x (i + 1) true = outT l p x i true ++ [l[i]] := by
  have e := List.take_succ_eq_append_getElem hi
  obtain ⟨r, hr, hp⟩ := h.yes rfl
  refine ⟨⟨fun _ => ⟨r, by rw [e]; exact List.mem_append_left _ hr, hp⟩, fun h => (by cases h)⟩, ?_⟩
  show ins (l.take (i + 1)) p x = ins (l.take i) p x ++ [l[i]]
  rw [e, ins_left _ _ _ _ ⟨r, hr, hp⟩]
theorem put_end {l : Tb} {p : Int} (x : En) (h : PutI l p l.length false) : ins l p x = outT l p x l.length false ++ [(p, x)] := by
  have h2 := h.no rfl
  rw [List.take_length] at h2
  have := ins_append l [] p x h2
  rw [List.append_nil] at this
  rw [this]
  show l ++ [(p, x)] = l.take l.length ++ [(p, x)]
  rw [List.take_length]
theorem put_done {l : Tb} {p : Int} (x : En) : ins l p x = outT l p x l.length true := by
  show _ = ins (l.take l.length) p x
  rw [List.take_length]
theorem framed_hit {l : Tb} {f : Int} {k : Nat} (hk : k < l.length) (h : l[k].2.2.2 = f) : framed l f = true := by
  unfold framed
  rw [List.any_eq_true]
  exact ⟨l[k], List.getElem_mem hk, by simpa using h⟩
theorem framed_miss {l : Tb} {f : Int} (h : ∀ j (h : j < l.length), l[j].2.2.2 ≠ f) : framed l f = false :=
  framed_false.2 fun r hr => by
    obtain ⟨j, hj, rfl⟩ := List.mem_iff_getElem.1 hr
    exact h j hj
/-- the blocks that Map lays first -/
structure MapW (w : World) (A : Option Addr) (n c : Nat) (x1 x2 x3 : Int) (V : World) : Prop where
  below : Below w.heap.size w V
  s : w.heap.size + 3 ≤ V.heap.size
  t : Row V w.heap.size 29 [.slice A n c]
  e : Row V (w.heap.size + 1) 34 [.int .i64 x1, .int .i64 x2, .int .i64 x3]
  r : Row V (w.heap.size + 2) 29 [.slice none 0 0]
theorem MapW.more {w V V' : World} {A : Option Addr} {n c : Nat} {x1 x2 x3 : Int} (h : MapW w A n c x1 x2 x3 V) (hb : Below V.heap.size V V') : MapW w A n c x1 x2 x3 V' :=
  ⟨below0 h.below hb, Nat.le_trans h.s hb.size, h.t.below hb, h.e.below hb, h.r.below hb⟩
theorem MapW.new (w : World) (A : Option Addr) (n c : Nat) (x1 x2 x3 : Int) : MapW w A n c x1 x2 x3 (((w.alloc (.cells #[.slice A n c] 29)).alloc (.cells #[.int .i64 x1, .int .i64 x2, .int .i64 x3] 34)).alloc (.cells #[.slice none 0 0] 29)) :=
  ⟨below3 _ _ _ _, by simp, ((Row.new w _ _).below (below1 _ _)).below (below1 _ _), (Row.new_at _ _ _ (by simp)).below (below1 _ _), Row.new_at _ _ _ (by simp)⟩
/-- the facts that a walk wants of it -/
structure MapC (w : World) (A : Option Addr) (n c : Nat) (x1 x2 x3 : Int) (V : World) : Prop where
  t0 : V.cell? ⟨w.heap.size, 0, none⟩ = some (.slice A n c)
  e0 : V.cell? ⟨w.heap.size + 1, 0, none⟩ = some (.int .i64 x1)
  e1 : V.cell? ⟨w.heap.size + 1, 1, none⟩ = some (.int .i64 x2)
  e2 : V.cell? ⟨w.heap.size + 1, 2, none⟩ = some (.int .i64 x3)
  r0 : V.cell? ⟨w.heap.size + 1 + 1, 0, none⟩ = some (.slice none 0 0)
  z0 : V.frozen? ⟨w.heap.size + 1 + 1, 0, none⟩ = false
theorem MapW.c {w V : World} {A : Option Addr} {n c : Nat} {x1 x2 x3 : Int} (h : MapW w A n c x1 x2 x3 V) : MapC w A n c x1 x2 x3 V :=
  ⟨h.t.cell 0, h.e.cell 0, h.e.cell 1, h.e.cell 2, h.r.cell 0, h.r.frozen 0⟩
/-- the answer's cell is stored -/
theorem MapW.fin {w V : World} {A : Option Addr} {n c : Nat} {x1 x2 x3 : Int} (h : MapW w A n c x1 x2 x3 V) (v : Value) : (loadVar 29 ⟨w.heap.size + 1 + 1, 0, none⟩).run Try.prog (V.setCell ⟨w.heap.size + 1 + 1, 0, none⟩ v) = .ok (.agg #[v]) (V.setCell ⟨w.heap.size + 1 + 1, 0, none⟩ v) ∧ Below w.heap.size w (V.setCell ⟨w.heap.size + 1 + 1, 0, none⟩ v) :=
  ⟨load_tb ((h.r.set 0 v).cell 0), h.below.setCell (show w.heap.size ≤ w.heap.size + 1 + 1 by omega) v⟩
theorem MapW.old {w V : World} {A : Option Addr} {n c : Nat} {x1 x2 x3 : Int} {l : Tb} (h : MapW w A n c x1 x2 x3 V) (hA : Lies w A l) (v : Value) : Lies (V.setCell ⟨w.heap.size + 1 + 1, 0, none⟩ v) A l :=
  hA.below (h.below.setCell (show w.heap.size ≤ w.heap.size + 1 + 1 by omega) v)
theorem own_keep {w w' : World} {B size : Nat} {e : TypeId} {v : Value} {n : Nat} {xs : List Value} (h : w.ownsRow B e size v n xs) (hb : ∀ k, v.ownBlock = some k → w'.heap[k]? = w.heap[k]?) : w'.ownsRow B e size v n xs := by
  obtain ⟨h1, h2 | ⟨g, c, cur, rfl, hg, hh, hr⟩⟩ := h
  · exact ⟨h1, .inl h2⟩
  · exact ⟨h1, .inr ⟨g, c, cur, rfl, hg, (hb g rfl).trans hh, hr⟩⟩
theorem sees_of {w : World} {base size n c : Nat} {A : Option Addr} {e : TypeId} {xs : List Value} (h : w.ownsRow base e size (.slice A n c) n xs) : Sees w w.heap.size A xs := fun hn => by
  have hl := h.1
  have h0 : 0 < n := by
    rcases Nat.eq_zero_or_pos n with rfl | h0
    · exact absurd (List.eq_nil_of_length_eq_zero (by simpa using hl)) hn
    · exact h0
  obtain ⟨g, cap, hv, _, hlt⟩ := h.form h0
  have hA : A = some ⟨g, 0, none⟩ := by injection hv
  subst hA
  exact ⟨_, rfl, hlt, h.cells (g := g) rfl⟩
theorem own_cap' {w : World} {B size : Nat} {e : TypeId} {A : Option Addr} {c n : Nat} {xs : List Value} (h : w.ownsRow B e size (.slice A n c) n xs) : n ≤ c := by
  obtain ⟨_, ⟨hv, _⟩ | ⟨g, c', cur, hv, _, _, h1, _⟩⟩ := h
  · injection hv with _ h1 h2
    subst h1; subst h2
    exact Nat.le_refl _
  · injection hv with _ _ h
    subst h
    exact h1
theorem MapW.own {w w1 V : World} {k : Nat} {l : Tb} {v : Value} (h1 : w.heap.size + 3 ≤ w1.heap.size) (hk : l.length = k) (ho : V.ownsRow w1.heap.size 46 4 v k (l.flatMap encR)) : ∃ A' c', v = .slice A' l.length c' ∧ l.length ≤ c' ∧ ∀ u, Lies (V.setCell ⟨w.heap.size + 1 + 1, 0, none⟩ u) A' l := by
  obtain ⟨A', c', rfl⟩ := own_slice ho
  subst hk
  refine ⟨A', c', rfl, (own_cap' ho), fun u => ?_⟩
  exact sees_of (own_keep ho fun b hb => heap_set (by have := (ho.lt b hb).1; omega))
end Go.Proofs.Ytmocdokikcbjeaa
