import Derived.Test.YtglfcfepgjldfaaPlain
namespace Go.Proofs.Ytglfcfepgjldfaa
open Go.ChangeShapes Go.WideShapes Go.ChangeAt Go.RowKit Go.Deep

/- PARAMETERS WHOSE CELLS ARE TRUTHS, NUMBERS, STRINGS OR SLICES OF BYTES (WITH THEIR ROOM), BY VALUE OR AS A SLICE's ELEMENTS. -/

theorem bytesc_of_trod {H : Type} {enc : TypeId × Value → H} {P : Program} {W : World} {t e : TypeId} {cs : List Value} {fuel : Nat} {d : DataW H} {p : List MemPlace}
    (ht : P.underlying t = some (.slice e)) (he : P.underlying e = some (.int .u8)) (hce : P.cellsOf e = 1) (hby : P.bytesOf e = 1)
    (hf : DataW.trod enc P W 0 (fun _ => true) true fuel t cs = some (d, p)) (hw : ∀ n ∈ d.weights P t, n ≤ reachBytes) :
    ∃ (A : Option Addr) (n c : Nat) (l : List UInt8), cs = [.slice A n c] ∧ l.length = n ∧ n ≤ 140737488351232 ∧ n ≤ c ∧ Sees W W.heap.size A (byt l) := by
  rcases open_ints ht he hce hf with ⟨hcs, hx⟩ | ⟨a, len, cap, zs, hcs, _, hl, hm, hz, hx, hcell, hwz⟩
  · exact ⟨none, 0, 0, [], hcs, rfl, by omega, Nat.le_refl _, Sees.nil_⟩
  · simp only [if_true] at hz
    simp only [Prod.mk.injEq] at hx
    obtain ⟨rfl, rfl⟩ := hx
    have hr := hw ((zs.take len).length + (zs.drop len).length) (by simp [DataW.weights, ht, hby, lits])
    simp only [List.length_take, List.length_drop] at hr
    have hr' : len ≤ 140737488351232 := by
      have : reachBytes = 140737488351232 := rfl
      omega
    refine ⟨some a, len, cap, (zs.take len).map fun n => UInt8.ofNat n.toNat, hcs, by simp; omega, hr', hl, fun hne => ?_⟩
    have hlen : 0 < len := by
      rcases Nat.eq_zero_or_pos len with h0 | h0
      · subst h0; simp [byt] at hne
      · exact h0
    have hlt := lt_of_cell (hcell 0 (by omega))
    rw [add_block] at hlt
    refine ⟨a, rfl, hlt, fun j u hu => ?_⟩
    simp only [byt, List.map_map, List.getElem?_map, Option.map_eq_some_iff] at hu
    obtain ⟨z, hz1, rfl⟩ := hu
    rw [List.getElem?_take] at hz1
    split at hz1
    · have hj' : j < zs.length := by omega
      rw [hcell j hj']
      have e1 : zs.getD j 0 = z := by simp [List.getD, hz1]
      rw [e1]
      have hw := hwz z (by rw [List.mem_iff_getElem?]; exact ⟨j, hz1⟩)
      simp only [Function.comp, u8_of hw]
    · cases hz1

/-- a plain cell; or bytes (false), a string (true) -/
abbrev Sr := Sc ⊕ Bool
def richCell (W : World) : Sr → Value → Prop
  | .inl s, v => fitsCell s v
  | .inr false, v => ∃ (A : Option Addr) (n c : Nat) (l : List UInt8), v = .slice A n c ∧ l.length = n ∧ n ≤ 140737488351232 ∧ n ≤ c ∧ Sees W W.heap.size A (byt l)
  | .inr true, v => ∃ s : ByteArray, v = .string s ∧ s.size ≤ maxLen
def RichAll (W : World) : List Sr → List Value → Prop
  | [], vs => vs = []
  | s :: ss, vs => ∃ v r, vs = v :: r ∧ richCell W s v ∧ RichAll W ss r
theorem RichAll.append {W : World} : ∀ {a b : List Sr} {u v : List Value}, RichAll W a u → RichAll W b v → RichAll W (a ++ b) (u ++ v)
  | [], _, _, _, h, k => by rw [show _ = [] from h]; exact k
  | _ :: _, _, _, _, ⟨x, r, e, h1, h2⟩, k => ⟨x, r ++ _, by rw [e]; rfl, h1, h2.append k⟩
theorem RichAll.length {W : World} : ∀ {a : List Sr} {u : List Value}, RichAll W a u → u.length = a.length
  | [], _, h => by rw [show _ = [] from h]; rfl
  | _ :: _, _, ⟨x, r, e, _, h2⟩ => by rw [e, List.length_cons, List.length_cons, h2.length]

/-- the kinds of a type's cells -/
def rshape (P : Program) : Nat → TypeId → Option (List Sr)
  | 0, _ => none
  | m + 1, t => match P.underlying t with
    | some .bool => some [.inl none]
    | some (.int k) => some [.inl (some k)]
    | some .string => some [.inr true]
    | some (.slice e) => (match P.underlying e with
      | some (.int .u8) => if P.cellsOf e = 1 ∧ P.bytesOf e = 1 then some [.inr false] else none
      | _ => none)
    | some (.struct fs) => (fs.toList.foldr (fun f r => (rshape P m f.type).bind fun ss => r.bind fun l => if ss.length = P.cellsOf f.type ∧ f.offset + ss.length + l.length = P.cellsOf t then some (ss ++ l) else none) (some [])).bind fun ss => if ss.length = P.cellsOf t then some ss else none
    | some (.array n e) => (rshape P m e).bind fun ss => if ss.length = P.cellsOf e ∧ n * P.cellsOf e = P.cellsOf t then some (List.replicate n ss).flatten else none
    | _ => none
theorem weights_all {H : Type} {P : Program} {e : TypeId} : ∀ {l : List (DataW H)} {d : DataW H}, d ∈ l → ∀ n ∈ d.weights P e, n ∈ DataW.weightsAll P e l
  | d' :: r, d, hd, n, hn => by
    simp only [DataW.weightsAll, List.mem_append]
    rcases List.mem_cons.1 hd with rfl | h
    · exact Or.inl hn
    · exact Or.inr (weights_all h n hn)

section
variable {H : Type} {enc : TypeId × Value → H} {P : Program} {W : World}

theorem fields_rich {m n C : Nat} {cs : List Value} (ih : ∀ t ss, rshape P m t = some ss → ∀ fuel cs x, DataW.trod enc P W 0 (fun _ => true) true fuel t cs = some x → (∀ n ∈ x.1.weights P t, n ≤ reachBytes) → RichAll W ss cs) (hC : cs.length = C) :
    ∀ (fs : List Field) (xs : List (DataW H × List MemPlace)) (ss : List Sr), xs.length = fs.length →
      (fs.foldr (fun f r => (rshape P m f.type).bind fun ss => r.bind fun l => if ss.length = P.cellsOf f.type ∧ f.offset + ss.length + l.length = C then some (ss ++ l) else none) (some [])) = some ss →
      (∀ (i : Nat) (f : Field), fs[i]? = some f → DataW.trod enc P W 0 (fun _ => true) true n f.type ((cs.drop f.offset).take (P.cellsOf f.type)) = xs[i]?) →
      (∀ (i : Nat) (f : Field) (x : DataW H × List MemPlace), fs[i]? = some f → xs[i]? = some x → ∀ n ∈ x.1.weights P f.type, n ≤ reachBytes) →
      RichAll W ss (cs.drop (C - ss.length)) ∧ ss.length ≤ C
  | [], [], ss, _, h, _, _ => by
    simp only [List.foldr_nil, Option.some.injEq] at h
    subst h
    exact ⟨by show _ = []; simp [hC], by simp⟩
  | f :: fs, x :: xs, ss, hl, h, hf, hw => by
    simp only [List.foldr_cons, Option.bind_eq_some_iff] at h
    obtain ⟨s0, hs0, l, hl0, h⟩ := h
    split at h
    · rename_i hc
      injection h with h
      subst h
      obtain ⟨h1, h2⟩ := fields_rich ih hC fs xs l (by simpa using hl) hl0 (fun i g hg => by simpa using hf (i + 1) g (by simpa using hg)) (fun i g y hg hy => hw (i + 1) g y (by simpa using hg) (by simpa using hy))
      have h0 := hf 0 f rfl
      have g1 := ih _ _ hs0 _ _ _ h0 (hw 0 f x rfl rfl)
      refine ⟨?_, by rw [List.length_append]; omega⟩
      have e1 : C - (s0 ++ l).length = f.offset := by rw [List.length_append]; omega
      rw [e1]
      have e2 : cs.drop f.offset = (cs.drop f.offset).take (P.cellsOf f.type) ++ cs.drop (C - l.length) := by
        conv => lhs; rw [← List.take_append_drop (P.cellsOf f.type) (cs.drop f.offset)]
        rw [List.drop_drop]
        congr 2
        omega
      rw [e2]
      exact g1.append h1
    · cases h
  | [], _ :: _, _, hl, _, _, _ => by simp at hl
  | _ :: _, [], _, hl, _, _, _ => by simp at hl

theorem array_rich {c : Nat} {ss : List Sr} {cs : List Value} (hc : ss.length = c) : ∀ (n : Nat), (∀ i, i < n → RichAll W ss ((cs.drop (i * c)).take c)) → RichAll W (List.replicate n ss).flatten (cs.take (n * c))
  | 0, _ => by show _ = []; simp
  | n + 1, h => by
    rw [List.replicate_succ', List.flatten_append, Nat.add_mul, Nat.one_mul, List.take_add]
    refine (array_rich hc n fun i hi => h i (by omega)).append ?_
    simpa using h n (by omega)

theorem trod_rich : ∀ (m : Nat) (t : TypeId) (ss : List Sr), rshape P m t = some ss → ∀ (fuel : Nat) (cs : List Value) (x : DataW H × List MemPlace), DataW.trod enc P W 0 (fun _ => true) true fuel t cs = some x → (∀ n ∈ x.1.weights P t, n ≤ reachBytes) → RichAll W ss cs
  | 0, _, _, h => by simp [rshape] at h
  | m + 1, t, ss, h => by
    intro fuel cs x hx hw
    unfold rshape at h
    split at h
    · rename_i ht
      injection h with h
      subst h
      obtain ⟨b, rfl, rfl⟩ := DataW.trod_bool ht hx
      exact ⟨_, _, rfl, ⟨b, rfl⟩, rfl⟩
    · rename_i k ht
      injection h with h
      subst h
      obtain ⟨b, rfl, rfl, hwf⟩ := DataW.trod_int ht hx
      exact ⟨_, _, rfl, ⟨b, rfl, hwf⟩, rfl⟩
    · rename_i ht
      injection h with h
      subst h
      obtain ⟨s, rfl, hx2, hsz⟩ := DataW.trod_string ht hx
      exact ⟨_, _, rfl, ⟨s, rfl, hsz⟩, rfl⟩
    · rename_i e ht
      split at h
      · rename_i he
        split at h
        · rename_i hc
          injection h with h
          subst h
          obtain ⟨A, n, c, l, rfl, h1, h2, h5, h3⟩ := bytesc_of_trod (d := x.1) (p := x.2) ht he hc.1 hc.2 hx hw
          exact ⟨_, _, rfl, ⟨A, n, c, l, rfl, h1, h2, h5, h3⟩, rfl⟩
        · cases h
      · cases h
    · rename_i fs ht
      obtain ⟨xs, n, _, rfl, hl, hxl, hf⟩ := DataW.trod_struct ht hx
      simp only [Option.bind_eq_some_iff] at h
      obtain ⟨s0, h, h'⟩ := h
      split at h'
      · rename_i hc
        injection h' with h'
        subst h'
        obtain ⟨h1, h2⟩ := fields_rich (trod_rich m) hl fs.toList xs s0 (by simpa using hxl) h (fun i f hi => hf i f (by simpa using hi)) (fun i f y hi hy n hn => hw n (by
          simp only [DataW.weights, ht]
          exact DataW.weights_mem_each (j := i) (t := f.type) (d := y.1) (by rw [List.getElem?_map, hi]; rfl) (by rw [List.getElem?_map, hy]; rfl) n hn))
        rw [hc, Nat.sub_self, List.drop_zero] at h1
        exact h1
      · cases h'
    · rename_i k e ht
      obtain ⟨xs, n, _, rfl, hl, hxl, hf⟩ := DataW.trod_array ht hx
      simp only [Option.bind_eq_some_iff] at h
      obtain ⟨s0, h, h'⟩ := h
      split at h'
      · rename_i hc
        injection h' with h'
        subst h'
        have hi : ∀ i, i < k → RichAll W s0 ((cs.drop (i * P.cellsOf e)).take (P.cellsOf e)) := fun i hi => by
          have h1 := hf i hi
          rw [List.getElem?_eq_getElem (by omega)] at h1
          refine trod_rich m e s0 h _ _ _ h1 fun n hn => hw n ?_
          simp only [DataW.weights, ht]
          exact weights_all (List.mem_map.2 ⟨_, List.getElem_mem (by omega), rfl⟩) n hn
        have h1 := array_rich hc.1 k fun i hlt => hi i hlt
        rw [hc.2, ← hl, List.take_length] at h1
        exact h1
      · cases h'
    · cases h

/-- a struct or an array that came in by value -/
theorem open_rich {m : Nat} {t : TypeId} {ss : List Sr} {r : Reach} {b0 : Nat} {v : Value} {d : DataW H} {p : List MemPlace} (hs : rshape P m t = some ss)
    (hu : (match P.underlying t with | some (.struct _) => true | some (.array _ _) => true | _ => false) = true)
    (hval : Value.okWide P W r b0 t v) (hd : DataW.Trod enc P W 0 (fun _ => true) true t v d p)
    {ts : List TypeId} {ds : List (DataW H)} {j : Nat} (hsz : (DataW.weightsEach P ts ds).all (· ≤ reachBytes) = true) (hj : ts[j]? = some t) (hdj : ds[j]? = some d) : ∃ vs, v = .agg vs.toArray ∧ RichAll W ss vs := by
  obtain ⟨fuel, hf⟩ := hd
  have hv : ∃ cs, v = .agg cs := by
    unfold Value.okWide at hval
    split at hval
    · obtain ⟨cs, h, _⟩ := hval; exact ⟨cs, h⟩
    · obtain ⟨cs, h, _⟩ := hval; exact ⟨cs, h⟩
    · split at hu <;> simp_all
  obtain ⟨cs, rfl⟩ := hv
  have h1 := trod_rich m t ss hs fuel _ _ hf (weights_each hsz hj hdj)
  exact ⟨cs.toList, by simp, by simpa [Value.cells] using h1⟩

theorem riches_of_trod {m by_ : Nat} {t e : TypeId} {ss : List Sr} {cs : List Value} {fuel : Nat} {d : DataW H} {p : List MemPlace}
    (ht : P.underlying t = some (.slice e)) (hs : rshape P m e = some ss) (hl : ss.length = P.cellsOf e) (h0 : 0 < ss.length) (hby : P.bytesOf e = by_)
    (hf : DataW.trod enc P W 0 (fun _ => true) true fuel t cs = some (d, p)) (hw : ∀ n ∈ d.weights P t, n ≤ reachBytes) :
    ∃ (A : Option Addr) (n c : Nat) (rows : List (List Value)), cs = [.slice A n c] ∧ rows.length = n ∧ n * by_ ≤ 140737488351232 ∧ n ≤ maxLen ∧ (∀ r ∈ rows, RichAll W ss r) ∧ Sees W W.heap.size A rows.flatten := by
  rcases open_slice ht hf with ⟨hcs, _⟩ | ⟨a, len, cap, mm, n, D, Pl, hcs, _, hlc, hcm, hm, hx, hcell⟩
  · exact ⟨none, 0, 0, [], hcs, rfl, by omega, Nat.zero_le _, fun _ h => absurd h (by simp), Sees.nil_⟩
  · simp only [if_true] at hm
    simp only [Prod.mk.injEq] at hx
    obtain ⟨rfl, rfl⟩ := hx
    have hr := hw ((((List.range len).map D).length + ((List.range (mm - len)).map fun j => D (len + j)).length) * by_) (by simp [DataW.weights, ht, hby])
    simp only [List.length_map, List.length_range] at hr
    have hr' : len * by_ ≤ 140737488351232 := by
      have h1 : reachBytes = 140737488351232 := rfl
      have h2 : len * by_ ≤ (len + (mm - len)) * by_ := Nat.mul_le_mul_right _ (by omega)
      omega
    obtain ⟨f, hfx⟩ := choose_lt (α := List Value) (n := len) (p := fun i r => W.cells? 0 (a.add (i * P.cellsOf e)) (P.cellsOf e) = some r ∧ RichAll W ss r) (fun i hi => by
      obtain ⟨cs', h1, h2⟩ := hcell i (by omega)
      refine ⟨cs', h1, trod_rich m e ss hs _ _ _ h2 fun n hn => hw n ?_⟩
      simp only [DataW.weights, ht, List.mem_cons, List.mem_append]
      exact Or.inr (Or.inl (weights_all (List.mem_map.2 ⟨i, List.mem_range.2 hi, rfl⟩) n hn)))
    have hrow : ∀ r ∈ (List.range len).map f, RichAll W ss r := fun r hr => by
      obtain ⟨i, hi, rfl⟩ := List.mem_map.1 hr
      exact (hfx i (List.mem_range.1 hi)).2
    have hlen : ∀ r ∈ (List.range len).map f, r.length = P.cellsOf e := fun r hr => (hrow r hr).length.trans hl
    have hc0 : 0 < P.cellsOf e := by omega
    have key : ∀ j u, ((List.range len).map f).flatten[j]? = some u → W.cell? (a.add j) = some u := fun j u hu => by
      rw [flatten_get hc0 _ hlen] at hu
      simp only [Option.bind_eq_some_iff, List.getElem?_map, Option.map_eq_some_iff] at hu
      obtain ⟨r, ⟨i, hi, rfl⟩, hu⟩ := hu
      rw [List.getElem?_eq_some_iff] at hi
      obtain ⟨hi1, hi2⟩ := hi
      rw [List.length_range] at hi1
      rw [List.getElem_range] at hi2
      subst hi2
      obtain ⟨_, _, h3⟩ := World.cells?_some (hfx _ hi1).1
      have := h3 (j % P.cellsOf e) (Nat.mod_lt _ hc0)
      rw [add_assoc] at this
      have e1 : j / P.cellsOf e * P.cellsOf e + j % P.cellsOf e = j := by rw [Nat.mul_comm]; exact Nat.div_add_mod j _
      rw [e1] at this
      rw [this]
      simpa using hu
    refine ⟨some a, len, cap, (List.range len).map f, hcs, by simp, hr', by omega, hrow, fun hne => ?_⟩
    have hpos : 0 < ((List.range len).map f).flatten.length := List.length_pos_iff.2 hne
    obtain ⟨u, hu⟩ : ∃ u, ((List.range len).map f).flatten[0]? = some u := ⟨_, List.getElem?_eq_getElem hpos⟩
    have hlt := lt_of_cell (key 0 u hu)
    rw [add_block] at hlt
    exact ⟨a, rfl, hlt, key⟩

theorem open_riches {base m by_ : Nat} {t e : TypeId} {ss : List Sr} {v : Value} {d : DataW H} {p : List MemPlace}
    (ht : P.underlying t = some (.slice e)) (hs : rshape P m e = some ss) (hl : ss.length = P.cellsOf e) (h0 : 0 < ss.length) (hby : P.bytesOf e = by_)
    (hval : Value.okWide P W .any base t v) (h : DataW.Trod enc P W 0 (fun _ => true) true t v d p)
    {ts : List TypeId} {ds : List (DataW H)} {j : Nat} (hsz : (DataW.weightsEach P ts ds).all (· ≤ reachBytes) = true) (hj : ts[j]? = some t) (hd : ds[j]? = some d) :
    ∃ (A : Option Addr) (n c : Nat) (rows : List (List Value)), v = .slice A n c ∧ rows.length = n ∧ n * by_ ≤ 140737488351232 ∧ n ≤ maxLen ∧ (∀ r ∈ rows, RichAll W ss r) ∧ Sees W W.heap.size A rows.flatten := by
  obtain ⟨a0, len, cap, rfl⟩ := okWide_slice ht hval
  obtain ⟨fuel, hf⟩ := h
  obtain ⟨A, n, c, rows, hcs, h1, h2, h3, h4, h5⟩ := riches_of_trod ht hs hl h0 hby hf (weights_each hsz hj hd)
  exact ⟨A, n, c, rows, by simpa [Value.cells] using hcs, h1, h2, h3, h4, h5⟩
end
end Go.Proofs.Ytglfcfepgjldfaa
