import Derived.Test.YtmocdokikcbjeaaActs
namespace Go.Proofs.Ytmocdokikcbjeaa
open Go.RowKit Go.Shelf Go.Maps Go.Sort Go.ChangeShapes

/- PAGEHOLDS: PLAIN, AND THE LAW's MAP. -/

theorem mapT_len (l : Tb) (p : Int) (x : En) : (mapT l p x).length ≤ l.length + 1 := by
  unfold mapT
  split
  · rw [ins_len]
    exact Nat.le_refl _
  · omega
theorem unmapT_len (l : Tb) (p : Int) : (unmapT l p).length ≤ l.length := by
  unfold unmapT
  split
  · exact List.length_filter_le _ _
  · exact Nat.le_refl _
theorem protT_len (l : Tb) (p m : Int) : (protT l p m).length = l.length := by
  unfold protT
  split
  · exact setM_len l p m
  · rfl
theorem look_ins {l : Tb} (h : Tok l) (p : Int) (x : En) (hx : En64 x) (hE : mapE l p x = 0) : look (mapT l p x) p = some x := by
  have hs := (map_ok h p x hx).sorted
  rw [look_mem hs]
  unfold mapT
  rw [if_pos hE]
  exact mem_ins.2 (.inl rfl)
theorem del_ins : ∀ {l : Tb} {p : Int} {x : En}, (∀ r ∈ l, r.1 ≠ p) → del (ins l p x) p = l
  | [], p, x, _ => by simp [ins, del]
  | r :: t, p, x, h => by
    have hr : r.1 ≠ p := h r (by simp)
    rw [ins]
    split
    · unfold del
      rw [List.filter_cons_of_neg (by simp), List.filter_eq_self.2]
      intro q hq
      have := h q hq
      simpa using this
    · have := del_ins (x := x) (p := p) (l := t) fun q hq => h q (by simp [hq])
      unfold del at this ⊢
      rw [List.filter_cons_of_pos (by simpa using hr), this]
/-- mapped and unmapped is as before -/
theorem back_un {l : Tb} (h : Tok l) (p : Int) (x : En) (hx : En64 x) (hE : mapE l p x = 0) : unmapE (mapT l p x) p = 0 ∧ unmapX (mapT l p x) p = x ∧ unmapT (mapT l p x) p = l := by
  have hl := look_ins h p x hx hE
  obtain ⟨h1, h2, h3, h4⟩ := mapE_0 hE
  have h0 : unmapE (mapT l p x) p = 0 := by
    unfold unmapE
    rw [if_neg (by rw [h2]; decide), hl]
    rfl
  refine ⟨h0, ?_, ?_⟩
  · unfold unmapX
    rw [if_pos h0, hl]
    rfl
  · unfold unmapT
    rw [if_pos h0]
    unfold mapT
    rw [if_pos hE]
    exact del_ins (look_none.1 h3)
/-- the least free run of at most 100 pages, from a page below 300 on, where at most 40 are mapped -/
structure Lst (l : Tb) (a m N : Int) : Prop where
  ge : a ≤ N
  top : N ≤ 4300
  next : nextI l a m = N
  err : ∀ x, a ≤ x → x ≤ N → freeE x m = 0
  free : ∀ x, a ≤ x → x ≤ N → freeQ l x m = decide (x = N)
theorem lst {l : Tb} (h : Tok l) (hl : l.length ≤ 40) {a m : Int} (h0 : 0 ≤ a) (h1 : a ≤ 300) (h2 : 1 ≤ m) (h3 : m ≤ 100) : ∃ N, Lst l a m N := by
  have hle := run_le l a m (by omega)
  have hge := run_ge l a m
  have hm : m * (l.length : Int) ≤ 4000 := by
    have h5 : m * (l.length : Int) ≤ 100 * (l.length : Int) := Int.mul_le_mul_of_nonneg_right h3 (by omega)
    omega
  have herr : ∀ x, a ≤ x → x ≤ runN l a m → freeE x m = 0 := fun x hx1 hx2 => by
    unfold freeE
    rw [if_neg (by omega), if_neg]
    unfold wholeB
    rw [pageB_iff.2 (by omega), decide_eq_true (by omega)]
    decide
  refine ⟨runN l a m, hge, by omega, ?_, herr, fun x hx1 hx2 => ?_⟩
  · unfold nextI
    rw [show max 0 a = a by omega, if_neg (by omega), if_neg (by omega)]
  · unfold freeQ
    rw [herr x hx1 hx2]
    by_cases e : x = runN l a m
    · rw [e, run_end l a m h.sorted, decide_eq_true rfl, decide_eq_true rfl]
      rfl
    · rw [run_least l a m x hx1 (by omega), decide_eq_false e, Bool.and_false]

/-! the frames that the law has met -/
def below (l : Tb) (o : Int) : Tb := l.filter fun r => decide (r.2.1 < o)
structure Ones (l : Tb) (o : Int) (k : Nat) (D : DataW Unit) : Prop where
  tidy : Tidy D
  has : ∀ z : Int, Maps.has D (.int .i64 z) = (framed (below l o) z || framed ((ofO l o).take k) z)
  size : Maps.size D = (below l o).length + k
theorem framed_iff {l : Tb} {z : Int} : framed l z = true ↔ ∃ r ∈ l, r.2.2.2 = z := by
  unfold framed
  rw [List.any_eq_true]
  simp
theorem right_owner {l : Tb} (h : Tok l) : ∀ r ∈ l, -1 ≤ r.2.1 ∧ r.2.1 ≤ 63 := fun r hr => by
  have := h.right r hr
  unfold rightB at this
  simp only [Bool.and_eq_true, decide_eq_true_eq] at this
  exact this.1.1
theorem Ones.start {l : Tb} (h : Tok l) : Ones l (-1) 0 (.map []) := by
  have hb : below l (-1) = [] := by
    unfold below
    rw [List.filter_eq_nil_iff]
    intro r hr
    have := right_owner h r hr
    simp
    omega
  refine ⟨tidy_empty, fun z => ?_, ?_⟩
  · rw [hb]
    rfl
  · rw [hb]
    rfl
theorem Ones.new {l : Tb} (h : Tok l) {o : Int} {k : Nat} {D : DataW Unit} (hD : Ones l o k D) (hk : k < (ofO l o).length) : Maps.has D (.int .i64 (ofO l o)[k].2.2.2) = false := by
  rw [hD.has, Bool.or_eq_false_iff]
  have hmem : (ofO l o)[k] ∈ ofO l o := List.getElem_mem hk
  obtain ⟨m1, m2⟩ := List.mem_filter.1 hmem
  have m2' : (ofO l o)[k].2.1 = o := by simpa using m2
  constructor
  · rw [framed_false]
    intro r hr
    obtain ⟨r1, r2⟩ := List.mem_filter.1 hr
    have r2' : r.2.1 < o := by simpa using r2
    exact pair_ne (fun _ _ h => Ne.symm h) h.frame r1 m1 (fun e => by rw [e, m2'] at r2'; omega)
  · rw [framed_false]
    intro r hr
    have hp : (ofO l o).Pairwise (fun a b => a.2.2.2 ≠ b.2.2.2) := h.frame.filter _
    obtain ⟨j, hj, rfl⟩ := List.mem_iff_getElem.1 hr
    rw [List.length_take] at hj
    rw [List.getElem_take]
    exact (List.pairwise_iff_getElem.1 hp) j k (by omega) hk (by omega)
theorem Ones.put {l : Tb} (h : Tok l) {o : Int} {k : Nat} {D : DataW Unit} (hD : Ones l o k D) (hk : k < (ofO l o).length) (y : DataW Unit) : Ones l o (k + 1) (D.put (.int .i64 (ofO l o)[k].2.2.2) y) := by
  have hn := hD.new h hk
  refine ⟨hD.tidy.put (key_i _) _, fun z => ?_, ?_⟩
  · have e1 : framed ((ofO l o).take (k + 1)) z = (framed ((ofO l o).take k) z || (ofO l o)[k].2.2.2 == z) := by
      rw [List.take_succ_eq_append_getElem hk]
      unfold framed
      rw [List.any_append]
      simp
    rw [e1]
    by_cases e : (ofO l o)[k].2.2.2 = z
    · rw [← e, has_put_same hD.tidy.isMap (key_i _)]
      simp
    · rw [has_put_other (lit_ne (Ne.symm e)), hD.has, beq_eq_false_iff_ne.2 e, Bool.or_false]
  · rw [size_put hD.tidy, hn, hD.size]
    simp
    omega
theorem below_next (l : Tb) (o : Int) : (∀ z, framed (below l (o + 1)) z = (framed (below l o) z || framed (ofO l o) z)) ∧ (below l (o + 1)).length = (below l o).length + (ofO l o).length := by
  refine ⟨fun z => ?_, ?_⟩
  · rw [Bool.eq_iff_iff, Bool.or_eq_true, framed_iff, framed_iff, framed_iff]
    constructor
    · rintro ⟨r, hr, e⟩
      obtain ⟨r1, r2⟩ := List.mem_filter.1 hr
      have r2' : r.2.1 < o + 1 := by simpa using r2
      by_cases ho : r.2.1 = o
      · exact .inr ⟨r, List.mem_filter.2 ⟨r1, by simpa using ho⟩, e⟩
      · exact .inl ⟨r, List.mem_filter.2 ⟨r1, by simp; omega⟩, e⟩
    · rintro (⟨r, hr, e⟩ | ⟨r, hr, e⟩)
      · obtain ⟨r1, r2⟩ := List.mem_filter.1 hr
        have r2' : r.2.1 < o := by simpa using r2
        exact ⟨r, List.mem_filter.2 ⟨r1, by simp; omega⟩, e⟩
      · obtain ⟨r1, r2⟩ := List.mem_filter.1 hr
        have r2' : r.2.1 = o := by simpa using r2
        exact ⟨r, List.mem_filter.2 ⟨r1, by simp; omega⟩, e⟩
  · unfold below ofO
    induction l with
    | nil => rfl
    | cons r t ih =>
      simp only [List.filter_cons]
      by_cases h1 : r.2.1 < o
      · have h2 : r.2.1 < o + 1 := by omega
        have h3 : r.2.1 ≠ o := by omega
        simp [h1, h2, h3, ih]
        omega
      · by_cases h4 : r.2.1 = o
        · have h2 : r.2.1 < o + 1 := by omega
          rw [if_pos (decide_eq_true h2), if_neg (by rw [decide_eq_false h1]; decide), if_pos (by rw [h4]; exact beq_self_eq_true _), List.length_cons, List.length_cons, ih]
          omega
        · have h2 : ¬ r.2.1 < o + 1 := by omega
          simp [h1, h2, h4, ih]
theorem Ones.next {l : Tb} {o : Int} {D : DataW Unit} (hD : Ones l o (ofO l o).length D) : Ones l (o + 1) 0 D := by
  obtain ⟨h1, h2⟩ := below_next l o
  refine ⟨hD.tidy, fun z => ?_, ?_⟩
  · rw [hD.has, h1, List.take_length, List.take_zero]
    exact (Bool.or_false _).symm
  · rw [hD.size, h2]
    rfl
theorem below_end {l : Tb} (h : Tok l) : below l 64 = l := by
  unfold below
  rw [List.filter_eq_self]
  intro r hr
  have := right_owner h r hr
  simp
  omega
theorem Ones.len {l : Tb} (h : Tok l) {D : DataW Unit} (hD : Ones l 64 0 D) : Maps.size D = l.length := by
  rw [hD.size, below_end h]
  rfl
theorem Ones.le {l : Tb} {o : Int} {k : Nat} {D : DataW Unit} (hD : Ones l o k D) (hk : k ≤ (ofO l o).length) : Maps.size D ≤ l.length := by
  have h1 := (below_next l o).2
  have h2 : (below l (o + 1)).length ≤ l.length := List.length_filter_le _ _
  rw [hD.size]
  omega
/-- the map in memory -/
def OneM (w : World) (g : Nat) (l : Tb) (o : Int) (k : Nat) : Prop := ∃ D, w.ownsMap Try.prog 3 (plainElem Try.prog 3) g 1000 D ∧ Ones l o k D
theorem OneM.same {w w' : World} {g : Nat} {l : Tb} {o : Int} {k : Nat} (h : OneM w g l o k) (hb : w'.heap[g]? = w.heap[g]?) : OneM w' g l o k := by
  obtain ⟨D, h1, h2⟩ := h
  exact ⟨D, owns_same h1 hb, h2⟩
theorem OneM.lt {w : World} {g : Nat} {l : Tb} {o : Int} {k : Nat} (h : OneM w g l o k) : g < w.heap.size := by
  obtain ⟨D, h1, h2⟩ := h
  exact h1.lt
theorem OneM.start {l : Tb} (h : Tok l) (w : World) : OneM (w.alloc (.map #[] 0)) w.heap.size l (-1) 0 :=
  ⟨_, (World.ownsMap_made w Try.prog 3 (plainElem (H := Unit) Try.prog 3)).mono (Nat.zero_le _), Ones.start h⟩
theorem zeroI (w : World) : (zeroValue 3).run Try.prog w = .ok (.int .i64 0) w := by kernel_rfl
/-- what one looks for there, and what is put there -/
theorem OneM.look {w : World} {g : Nat} {l : Tb} {o : Int} {k : Nat} (hm : OneM w g l o k) (h : Tok l) (hk : k < (ofO l o).length) :
    (Instr.lookup 63 (.map (some g)) (.int .i64 (ofO l o)[k].2.2.2) false).run Try.prog w = .ok (.int .i64 0) w ∧
    ∃ D : DataW Unit, w.ownsMap Try.prog 3 (plainElem Try.prog 3) g 1000 D ∧ ∀ w' : World, w'.ownsMap Try.prog 3 (plainElem Try.prog 3) g (1000 + 1) (D.put (.int .i64 (ofO l o)[k].2.2.2) (.lit (.int .i64 1))) → l.length ≤ 1000 → OneM w' g l o (k + 1) := by
  obtain ⟨D, h1, h2⟩ := hm
  have hn := h2.new h hk
  have hb := (h.big _ (List.mem_filter.1 (List.getElem_mem hk)).1).2.2
  obtain ⟨v, ps, hrun, hv⟩ := h1.lookup law Try.underlying63 (zeroI w) (plainElem_int Try.underlying3 (by decide)) (keyZ hb)
  rw [atKey_of_not_has hn] at hv
  obtain ⟨c, rfl, hc, _⟩ := plainElem_int_inv Try.underlying3 hv
  have hc0 : c = 0 := by
    have := congrArg Prod.fst hc
    simp at this
    exact this.symm
  subst hc0
  refine ⟨hrun, D, h1, fun w' h3 hl => ⟨_, owns_tight h3 ?_, h2.put h hk _⟩⟩
  exact Nat.le_trans ((h2.put h hk _).le (by omega)) hl
theorem OneM.next {w : World} {g : Nat} {l : Tb} {o : Int} (h : OneM w g l o (ofO l o).length) : OneM w g l (o + 1) 0 := by
  obtain ⟨D, h1, h2⟩ := h
  exact ⟨D, h1, h2.next⟩
theorem OneM.len {w : World} {g : Nat} {l : Tb} (hm : OneM w g l 64 0) (h : Tok l) (ty : TypeId) : (Builtin.len_ #[63] ty #[.map (some g)]).run Try.prog w = .ok (.int .i64 (l.length : Int)) w := by
  obtain ⟨D, h1, h2⟩ := hm
  rw [h1.len Try.underlying63 ty, h2.len h]
end Go.Proofs.Ytmocdokikcbjeaa
