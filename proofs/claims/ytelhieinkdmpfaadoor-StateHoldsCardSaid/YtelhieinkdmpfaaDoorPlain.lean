import Derived.Test.YtelhieinkdmpfaaDoorOpen
import Derived.Deep.Slices
import Derived.OpenShut
namespace Go.Proofs.YtelhieinkdmpfaaDoor
open Go.ChangeShapes Go.WideShapes Go.ChangeAt Go.RowKit Go.Deep

/- PARAMETERS OF PLAIN TYPES (bool, numbers, structs and arrays of such), BY VALUE OR AS A SLICE'S ELEMENTS, OPENED BY THE TYPE'S SHAPE. -/

/-- what a plain cell holds -/
abbrev Sc := Option IntKind
/-- a truth, or a number of a kind -/
def fitsCell : Sc → Value → Prop
  | none, v => ∃ b, v = .bool b
  | some k, v => ∃ n, v = .int k n ∧ (Lit.int k n).wf = true
def FitsAll : List Sc → List Value → Prop
  | [], vs => vs = []
  | s :: ss, vs => ∃ v r, vs = v :: r ∧ fitsCell s v ∧ FitsAll ss r
theorem FitsAll.append : ∀ {a b : List Sc} {u v : List Value}, FitsAll a u → FitsAll b v → FitsAll (a ++ b) (u ++ v)
  | [], _, _, _, h, k => by rw [show _ = [] from h]; exact k
  | _ :: _, _, _, _, ⟨x, r, e, h1, h2⟩, k => ⟨x, r ++ _, by rw [e]; rfl, h1, h2.append k⟩
theorem FitsAll.length : ∀ {a : List Sc} {u : List Value}, FitsAll a u → u.length = a.length
  | [], _, h => by rw [show _ = [] from h]; rfl
  | _ :: _, _, ⟨x, r, e, _, h2⟩ => by rw [e, List.length_cons, List.length_cons, h2.length]

/-- the kinds of a plain type's cells -/
def shape (P : Program) : Nat → TypeId → Option (List Sc)
  | 0, _ => none
  | m + 1, t => match P.underlying t with
    | some .bool => some [none]
    | some (.int k) => some [some k]
    | some (.struct fs) => (fs.toList.foldr (fun f r => (shape P m f.type).bind fun ss => r.bind fun l => if ss.length = P.cellsOf f.type ∧ f.offset + ss.length + l.length = P.cellsOf t then some (ss ++ l) else none) (some [])).bind fun ss => if ss.length = P.cellsOf t then some ss else none
    | some (.array n e) => (shape P m e).bind fun ss => if ss.length = P.cellsOf e ∧ n * P.cellsOf e = P.cellsOf t then some (List.replicate n ss).flatten else none
    | _ => none

section
variable {H : Type} {enc : TypeId × Value → H} {P : Program} {w : World} {base : Nat} {sp : Nat → Bool} {held : Bool}

theorem fields_plain {m n C : Nat} {cs : List Value} (ih : ∀ t ss, shape P m t = some ss → ∀ fuel cs x, DataW.trod enc P w base sp held fuel t cs = some x → FitsAll ss cs ∧ x.2 = []) (hC : cs.length = C) :
    ∀ (fs : List Field) (xs : List (DataW H × List MemPlace)) (ss : List Sc), xs.length = fs.length →
      (fs.foldr (fun f r => (shape P m f.type).bind fun ss => r.bind fun l => if ss.length = P.cellsOf f.type ∧ f.offset + ss.length + l.length = C then some (ss ++ l) else none) (some [])) = some ss →
      (∀ (i : Nat) (f : Field), fs[i]? = some f → DataW.trod enc P w base sp held n f.type ((cs.drop f.offset).take (P.cellsOf f.type)) = xs[i]?) →
      FitsAll ss (cs.drop (C - ss.length)) ∧ ss.length ≤ C ∧ xs.flatMap (·.2) = []
  | [], [], ss, _, h, _ => by
    simp only [List.foldr_nil, Option.some.injEq] at h
    subst h
    exact ⟨by show _ = []; simp [hC], by simp, rfl⟩
  | f :: fs, x :: xs, ss, hl, h, hf => by
    simp only [List.foldr_cons, Option.bind_eq_some_iff] at h
    obtain ⟨s0, hs0, l, hl0, h⟩ := h
    split at h
    · rename_i hc
      injection h with h
      subst h
      obtain ⟨h1, h2, h3⟩ := fields_plain ih hC fs xs l (by simpa using hl) hl0 (fun i g hg => by simpa using hf (i + 1) g (by simpa using hg))
      have h0 := hf 0 f rfl
      obtain ⟨g1, g2⟩ := ih _ _ hs0 _ _ _ h0
      refine ⟨?_, by rw [List.length_append]; omega, by rw [List.flatMap_cons, g2, h3]; rfl⟩
      have e1 : C - (s0 ++ l).length = f.offset := by rw [List.length_append]; omega
      rw [e1]
      have e2 : cs.drop f.offset = (cs.drop f.offset).take (P.cellsOf f.type) ++ cs.drop (C - l.length) := by
        conv => lhs; rw [← List.take_append_drop (P.cellsOf f.type) (cs.drop f.offset)]
        rw [List.drop_drop]
        congr 2
        omega
      rw [e2]
      exact g1.append h1
    · cases h
  | [], _ :: _, _, hl, _, _ => by simp at hl
  | _ :: _, [], _, hl, _, _ => by simp at hl

theorem array_plain {c : Nat} {ss : List Sc} {cs : List Value} (hc : ss.length = c) : ∀ (n : Nat), (∀ i, i < n → FitsAll ss ((cs.drop (i * c)).take c)) → FitsAll (List.replicate n ss).flatten (cs.take (n * c))
  | 0, _ => by show _ = []; simp
  | n + 1, h => by
    rw [List.replicate_succ', List.flatten_append, Nat.add_mul, Nat.one_mul, List.take_add]
    refine (array_plain hc n fun i hi => h i (by omega)).append ?_
    simpa using h n (by omega)

theorem trod_plain : ∀ (m : Nat) (t : TypeId) (ss : List Sc), shape P m t = some ss → ∀ (fuel : Nat) (cs : List Value) (x : DataW H × List MemPlace), DataW.trod enc P w base sp held fuel t cs = some x → FitsAll ss cs ∧ x.2 = []
  | 0, _, _, h => by simp [shape] at h
  | m + 1, t, ss, h => by
    intro fuel cs x hx
    unfold shape at h
    split at h
    · rename_i ht
      injection h with h
      subst h
      obtain ⟨b, rfl, rfl⟩ := DataW.trod_bool ht hx
      exact ⟨⟨_, _, rfl, ⟨b, rfl⟩, rfl⟩, rfl⟩
    · rename_i k ht
      injection h with h
      subst h
      obtain ⟨b, rfl, rfl, hw⟩ := DataW.trod_int ht hx
      exact ⟨⟨_, _, rfl, ⟨b, rfl, hw⟩, rfl⟩, rfl⟩
    · rename_i fs ht
      obtain ⟨xs, n, _, rfl, hl, hxl, hf⟩ := DataW.trod_struct ht hx
      simp only [Option.bind_eq_some_iff] at h
      obtain ⟨s0, h, h'⟩ := h
      split at h'
      · rename_i hc
        injection h' with h'
        subst h'
        obtain ⟨h1, h2, h3⟩ := fields_plain (trod_plain m) hl fs.toList xs s0 (by simpa using hxl) h (fun i f hi => hf i f (by simpa using hi))
        refine ⟨?_, h3⟩
        rw [hc, Nat.sub_self, List.drop_zero] at h1
        exact h1
      · cases h'
    · rename_i k e ht
      obtain ⟨xs, n, _, rfl, hl, hxl, hf⟩ := DataW.trod_array ht hx
      simp only [Option.bind_eq_some_iff] at h
      obtain ⟨s0, h, h'⟩ := h
      split at h'
      · rename_i hc
        injection h' with h'
        subst h'
        have hi : ∀ i, i < k → FitsAll s0 ((cs.drop (i * P.cellsOf e)).take (P.cellsOf e)) ∧ ∀ y, xs[i]? = some y → y.2 = [] := fun i hi => by
          have h1 := hf i hi
          rw [List.getElem?_eq_getElem (by omega)] at h1
          obtain ⟨g1, g2⟩ := trod_plain m e s0 h _ _ _ h1
          refine ⟨g1, fun y hy => ?_⟩
          rw [List.getElem?_eq_getElem (by omega)] at hy
          injection hy with hy
          rw [← hy]; exact g2
        refine ⟨?_, ?_⟩
        · have h1 := array_plain hc.1 k fun i hlt => (hi i hlt).1
          rw [hc.2, ← hl, List.take_length] at h1
          exact h1
        · show xs.flatMap (·.2) = []
          rw [List.flatMap_eq_nil_iff]
          intro y hy
          obtain ⟨i, hi', rfl⟩ := List.mem_iff_getElem.1 hy
          exact (hi i (by omega)).2 _ (List.getElem?_eq_getElem hi')
      · cases h'
    · cases h

/-- a struct or an array of plain fields that came in by value -/
theorem open_plain {m : Nat} {t : TypeId} {ss : List Sc} {r : Reach} {b0 : Nat} {v : Value} {d : DataW H} {p : List MemPlace} (hs : shape P m t = some ss)
    (hu : (match P.underlying t with | some (.struct _) => true | some (.array _ _) => true | _ => false) = true)
    (hval : Value.okWide P w r b0 t v) (hd : DataW.Trod enc P w base sp held t v d p) : ∃ vs, v = .agg vs.toArray ∧ FitsAll ss vs ∧ p = [] := by
  obtain ⟨fuel, hf⟩ := hd
  have hv : ∃ cs, v = .agg cs := by
    unfold Value.okWide at hval
    split at hval
    · obtain ⟨cs, h, _⟩ := hval; exact ⟨cs, h⟩
    · obtain ⟨cs, h, _⟩ := hval; exact ⟨cs, h⟩
    · split at hu <;> simp_all
  obtain ⟨cs, rfl⟩ := hv
  obtain ⟨h1, h2⟩ := trod_plain m t ss hs fuel _ _ hf
  exact ⟨cs.toList, by simp, by simpa [Value.cells] using h1, h2⟩

theorem flatten_get {c : Nat} (hc : 0 < c) : ∀ (rows : List (List Value)), (∀ r ∈ rows, r.length = c) → ∀ (j : Nat), rows.flatten[j]? = (rows[j / c]?).bind fun r => r[j % c]?
  | [], _, j => by simp
  | r :: rows, h, j => by
    have hr := h r (by simp)
    rw [List.flatten_cons]
    by_cases hj : j < c
    · rw [List.getElem?_append_left (by omega), Nat.div_eq_of_lt hj, Nat.mod_eq_of_lt hj]
      rfl
    · rw [List.getElem?_append_right (by omega), hr, flatten_get hc rows (fun s hs => h s (by simp [hs])) (j - c)]
      have e1 : j / c = (j - c) / c + 1 := by
        have := Nat.add_div_right (j - c) hc
        rw [show j - c + c = j by omega] at this
        omega
      have e2 : j % c = (j - c) % c := by
        have := Nat.add_mod_right (j - c) c
        rw [show j - c + c = j by omega] at this
        exact this
      rw [e1, e2, List.getElem?_cons_succ]
theorem flatten_len {c : Nat} : ∀ (rows : List (List Value)), (∀ r ∈ rows, r.length = c) → rows.flatten.length = rows.length * c
  | [], _ => by simp
  | r :: rows, h => by
    rw [List.flatten_cons, List.length_append, List.length_cons, h r (by simp), flatten_len rows (fun s hs => h s (by simp [hs])), Nat.add_mul]
    omega

/-- a slice of plain elements that came in, as it is read -/
theorem plains_of_trod {W : World} {m by_ : Nat} {t e : TypeId} {ss : List Sc} {cs : List Value} {fuel : Nat} {d : DataW H} {p : List MemPlace}
    (ht : P.underlying t = some (.slice e)) (hs : shape P m e = some ss) (hl : ss.length = P.cellsOf e) (h0 : 0 < ss.length) (hby : P.bytesOf e = by_)
    (hf : DataW.trod enc P W 0 (fun _ => true) true fuel t cs = some (d, p)) (hw : ∀ n ∈ d.weights P t, n ≤ reachBytes) :
    ∃ (A : Option Addr) (n c : Nat) (rows : List (List Value)), cs = [.slice A n c] ∧ rows.length = n ∧ n * by_ ≤ 140737488351232 ∧ n ≤ maxLen ∧ (∀ r ∈ rows, FitsAll ss r) ∧ Sees W W.heap.size A rows.flatten := by
  rcases open_slice ht hf with ⟨hcs, _⟩ | ⟨a, len, cap, mm, n, D, Pl, hcs, _, hlc, hcm, hm, hx, hcell⟩
  · exact ⟨none, 0, 0, [], hcs, rfl, by omega, Nat.zero_le _, fun _ h => absurd h (by simp), Sees.nil_⟩
  · simp only [if_true] at hm
    simp only [Prod.mk.injEq] at hx
    obtain ⟨rfl, rfl⟩ := hx
    have hr := hw ((((List.range len).map D).length + ((List.range (mm - len)).map fun j => D (len + j)).length) * by_) (by simp [DataW.weights, ht, hby])
    simp only [List.length_map, List.length_range] at hr
    have hr' : len * by_ ≤ 140737488351232 := by
      have h1 : reachBytes = 140737488351232 := rfl
      have h2 : len * by_ ≤ (len + (mm - len)) * by_ := Nat.mul_le_mul_right _ (by omega)
      omega
    obtain ⟨f, hfx⟩ := choose_lt (α := List Value) (n := len) (p := fun i r => W.cells? 0 (a.add (i * P.cellsOf e)) (P.cellsOf e) = some r ∧ FitsAll ss r) (fun i hi => by
      obtain ⟨cs', h1, h2⟩ := hcell i (by omega)
      exact ⟨cs', h1, (trod_plain m e ss hs _ _ _ h2).1⟩)
    have hrow : ∀ r ∈ (List.range len).map f, FitsAll ss r := fun r hr => by
      obtain ⟨i, hi, rfl⟩ := List.mem_map.1 hr
      exact (hfx i (List.mem_range.1 hi)).2
    have hlen : ∀ r ∈ (List.range len).map f, r.length = P.cellsOf e := fun r hr => (hrow r hr).length.trans hl
    have hc0 : 0 < P.cellsOf e := by omega
    have key : ∀ j u, ((List.range len).map f).flatten[j]? = some u → W.cell? (a.add j) = some u := fun j u hu => by
      rw [flatten_get hc0 _ hlen] at hu
      simp only [Option.bind_eq_some_iff, List.getElem?_map, Option.map_eq_some_iff] at hu
      obtain ⟨r, ⟨i, hi, rfl⟩, hu⟩ := hu
      rw [List.getElem?_eq_some_iff] at hi
      obtain ⟨hi1, hi2⟩ := hi
      rw [List.length_range] at hi1
      rw [List.getElem_range] at hi2
      subst hi2
      obtain ⟨_, _, h3⟩ := World.cells?_some (hfx _ hi1).1
      have := h3 (j % P.cellsOf e) (Nat.mod_lt _ hc0)
      rw [add_assoc] at this
      have e1 : j / P.cellsOf e * P.cellsOf e + j % P.cellsOf e = j := by rw [Nat.mul_comm]; exact Nat.div_add_mod j _
      rw [e1] at this
      rw [this]
      simpa using hu
    refine ⟨some a, len, cap, (List.range len).map f, hcs, by simp, hr', by omega, hrow, fun hne => ?_⟩
    have hpos : 0 < ((List.range len).map f).flatten.length := List.length_pos_iff.2 hne
    obtain ⟨u, hu⟩ : ∃ u, ((List.range len).map f).flatten[0]? = some u := ⟨_, List.getElem?_eq_getElem hpos⟩
    have hlt := lt_of_cell (key 0 u hu)
    rw [add_block] at hlt
    exact ⟨a, rfl, hlt, key⟩

theorem open_plains {W : World} {m by_ : Nat} {t e : TypeId} {ss : List Sc} {v : Value} {d : DataW H} {p : List MemPlace}
    (ht : P.underlying t = some (.slice e)) (hs : shape P m e = some ss) (hl : ss.length = P.cellsOf e) (h0 : 0 < ss.length) (hby : P.bytesOf e = by_)
    (hval : Value.okWide P W .any base t v) (h : DataW.Trod enc P W 0 (fun _ => true) true t v d p)
    {ts : List TypeId} {ds : List (DataW H)} {j : Nat} (hsz : (DataW.weightsEach P ts ds).all (· ≤ reachBytes) = true) (hj : ts[j]? = some t) (hd : ds[j]? = some d) :
    ∃ (A : Option Addr) (n c : Nat) (rows : List (List Value)), v = .slice A n c ∧ rows.length = n ∧ n * by_ ≤ 140737488351232 ∧ n ≤ maxLen ∧ (∀ r ∈ rows, FitsAll ss r) ∧ Sees W W.heap.size A rows.flatten := by
  obtain ⟨a0, len, cap, rfl⟩ := okWide_slice ht hval
  obtain ⟨fuel, hf⟩ := h
  obtain ⟨A, n, c, rows, hcs, h1, h2, h3, h4, h5⟩ := plains_of_trod ht hs hl h0 hby hf (weights_each hsz hj hd)
  exact ⟨A, n, c, rows, by simpa [Value.cells] using hcs, h1, h2, h3, h4, h5⟩
end

/-- rows as things -/
theorem rows_map {α : Type} {enc : α → List Value} {Q : α → Prop} : ∀ (rows : List (List Value)), (∀ r ∈ rows, ∃ x, Q x ∧ r = enc x) → ∃ xs : List α, rows = xs.map enc ∧ ∀ x ∈ xs, Q x
  | [], _ => ⟨[], rfl, fun _ h => absurd h (by simp)⟩
  | r :: rows, h => by
    obtain ⟨x, hx, rfl⟩ := h r (by simp)
    obtain ⟨xs, h1, h2⟩ := rows_map rows fun s hs => h s (by simp [hs])
    exact ⟨x :: xs, by rw [h1]; rfl, fun y hy => by
      rcases List.mem_cons.1 hy with rfl | h
      · exact hx
      · exact h2 y h⟩
end Go.Proofs.YtelhieinkdmpfaaDoor
