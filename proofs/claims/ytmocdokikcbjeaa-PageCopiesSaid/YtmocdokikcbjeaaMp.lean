import Derived.Test.YtmocdokikcbjeaaPl
namespace Go.Proofs.Ytmocdokikcbjeaa
open Go.Maps

/- PLAIN: THE TWO MAPS AS THEY READ. -/

def entD (x : En) : DataW Unit := .agg [.lit (.int .i64 x.1), .lit (.int .i64 x.2.1), .lit (.int .i64 x.2.2)]
def entR (v : Value) : Option (DataW Unit × List MemPlace) :=
  match v with
  | .agg ⟨[.int .i64 a, .int .i64 b, .int .i64 c]⟩ => some (entD (a, b, c), [])
  | _ => none
theorem entR_en (x : En) : entR (enV x) = some (entD x, []) := rfl
theorem entR_inv {v : Value} {y : DataW Unit × List MemPlace} (h : entR v = some y) : ∃ x : En, v = enV x ∧ y = (entD x, []) := by
  unfold entR at h
  split at h
  next a b c => exact ⟨(a, b, c), rfl, by injection h with h; exact h.symm⟩
  · cases h
theorem entD_inj {x y : En} (h : entD x = entD y) : x = y := by
  unfold entD at h
  injection h with h
  injection h with h1 h
  injection h with h2 h
  injection h with h3 _
  injection h1 with h1
  injection h1 with _ h1
  injection h2 with h2
  injection h2 with _ h2
  injection h3 with h3
  injection h3 with _ h3
  exact Prod.ext h1 (Prod.ext h2 h3)
def unitD : DataW Unit := .lit (.bool true)
def unitR (v : Value) : Option (DataW Unit × List MemPlace) :=
  match v with
  | .agg ⟨[]⟩ => some (unitD, [])
  | _ => none
def ents (l : Tb) : List (Lit × DataW Unit) := l.map fun r => (.int .i64 r.1, entD r.2)
def mapP (l : Tb) : DataW Unit := .map (ents l)
theorem mapP_size (l : Tb) : Maps.size (mapP l) = l.length := by
  show (ents l).length = _
  simp [ents]
theorem mapP_keys (l : Tb) : intKeys (mapP l) = l.map Prod.fst := by
  show (ents l).map (fun p => intOf p.1) = _
  unfold ents
  rw [List.map_map]
  rfl
theorem same_i (a b : Int) : Lit.sameKey (.int .i64 a) (.int .i64 b) = decide (a = b) := by simp [Lit.sameKey]
theorem ents_find (l : Tb) (z : Int) : (ents l).find? (fun p => p.1.sameKey (.int .i64 z)) = (look l z).map fun e => ((.int .i64 z, entD e) : Lit × DataW Unit) := by
  induction l with
  | nil => rfl
  | cons r t ih =>
    rw [look_cons]
    by_cases h : r.1 = z
    · rw [if_pos h, ents, List.map_cons, List.find?_cons_of_pos (by rw [same_i]; simpa using h), h]
      rfl
    · rw [if_neg h, ents, List.map_cons, List.find?_cons_of_neg (by rw [same_i]; simpa using h)]
      exact ih
theorem mapP_has (l : Tb) (z : Int) : Maps.has (mapP l) (.int .i64 z) = (look l z).isSome := by
  show (ents l).any _ = _
  rw [Bool.eq_iff_iff, List.any_eq_true, ← List.find?_isSome, ents_find, Option.isSome_map]
theorem mapP_at (l : Tb) (z : Int) (d : DataW Unit) : (mapP l).atKey (.int .i64 z) d = (match look l z with | some e => entD e | none => d) := by
  simp only [mapP, DataW.atKey, ents_find]
  cases look l z <;> rfl
theorem ents_filter (l : Tb) (p : Int) : (ents l).filter (fun q => !q.1.sameKey (.int .i64 p)) = ents (del l p) := by
  unfold ents del
  rw [List.filter_map]
  congr 1
  refine List.filter_congr fun r _ => ?_
  simp only [Function.comp, same_i]
  congr 1
theorem mapP_del (l : Tb) (p : Int) : (mapP l).del (.int .i64 p) = mapP (del l p) := by
  show DataW.map ((ents l).filter _) = _
  rw [ents_filter]
  rfl
theorem ents_insert : ∀ (l : Tb) (p : Int) (x : En), DataW.insert (.int .i64 p, entD x) (ents l) = ents (ins l p x)
  | [], p, x => rfl
  | r :: t, p, x => by
    rw [ins]
    show DataW.insert _ ((.int .i64 r.1, entD r.2) :: ents t) = _
    rw [DataW.insert]
    by_cases h : p < r.1
    · rw [if_pos (by simpa [Lit.before] using h), if_pos h]
      rfl
    · rw [if_neg (by simpa [Lit.before] using h), if_neg h, ents_insert t p x]
      rfl
theorem del_none {l : Tb} {p : Int} (h : look l p = none) : del l p = l := by
  unfold del
  rw [List.filter_eq_self]
  intro r hr
  have := look_none.1 h r hr
  simpa using this
theorem mapP_put {l : Tb} {p : Int} (x : En) (h : look l p = none) : (mapP l).put (.int .i64 p) (entD x) = mapP (ins l p x) := by
  show DataW.map (DataW.insert _ ((ents l).filter _)) = _
  rw [ents_filter, del_none h, ents_insert]
  rfl
theorem ins_del : ∀ {l : Tb} {p : Int} {e : En} (m : Int), l.Pairwise (fun a b => a.1 < b.1) → look l p = some e → ins (del l p) p (e.1, m, e.2.2) = setM l p m
  | [], p, e, m, _, h => by simp [look] at h
  | r :: t, p, e, m, hs, h => by
    obtain ⟨h1, h2⟩ := List.pairwise_cons.1 hs
    rw [look_cons] at h
    by_cases hr : r.1 = p
    · rw [if_pos hr] at h
      injection h with h
      subst h
      have hn : look t p = none := look_none.2 fun q hq e => by have := h1 q hq; omega
      have h3 : del (r :: t) p = t := by
        unfold del
        rw [List.filter_cons_of_neg (by simpa using hr)]
        exact del_none hn
      have h4 : setM t p m = t := by
        unfold setM
        rw [List.map_congr_left (g := id) (fun q hq => by
          rw [if_neg (look_none.1 hn q hq)]
          rfl)]
        exact List.map_id _
      rw [h3]
      show _ = (if r.1 = p then (r.1, r.2.1, m, r.2.2.2) else r) :: setM t p m
      rw [if_pos hr, h4, hr]
      cases t with
      | nil => rfl
      | cons q t =>
        rw [ins, if_pos]
        have := h1 q (by simp)
        omega
    · rw [if_neg hr] at h
      have h3 : del (r :: t) p = r :: del t p := by
        unfold del
        rw [List.filter_cons_of_pos (by simpa using hr)]
      rw [h3]
      show _ = (if r.1 = p then (r.1, r.2.1, m, r.2.2.2) else r) :: setM t p m
      rw [if_neg hr, ins, if_neg, ins_del m h2 h]
      have := h1 _ (look_some h)
      simp only at this
      omega
theorem mapP_set {l : Tb} {p : Int} {e : En} (m : Int) (hs : l.Pairwise (fun a b => a.1 < b.1)) (h : look l p = some e) : (mapP l).put (.int .i64 p) (entD (e.1, m, e.2.2)) = mapP (setM l p m) := by
  show DataW.map (DataW.insert _ ((ents l).filter _)) = _
  rw [ents_filter, ents_insert, ins_del m hs h]
  rfl
theorem setM_len (l : Tb) (p m : Int) : (setM l p m).length = l.length := by simp [setM]

/-! the frames that a page has -/
structure Frs (l : Tb) (D : DataW Unit) : Prop where
  tidy : Tidy D
  has : ∀ z : Int, Maps.has D (.int .i64 z) = framed l z
  size : Maps.size D = l.length
theorem Frs.nil : Frs [] (.map []) := ⟨tidy_empty, fun _ => rfl, rfl⟩
theorem key_i (z : Int) : WideAt.IsKeyLit (.int .i64 z) := trivial
theorem lit_ne {a b : Int} (h : a ≠ b) : (Lit.int .i64 a) ≠ .int .i64 b := fun e => h (by injection e)
theorem framed_ins (l : Tb) (p : Int) (x : En) (z : Int) : framed (ins l p x) z = (x.2.2 == z || framed l z) := by
  unfold framed
  rw [Bool.eq_iff_iff, Bool.or_eq_true, List.any_eq_true, List.any_eq_true]
  constructor
  · rintro ⟨r, hr, h⟩
    rcases mem_ins.1 hr with rfl | hr
    · exact .inl h
    · exact .inr ⟨r, hr, h⟩
  · rintro (h | ⟨r, hr, h⟩)
    · exact ⟨(p, x), mem_ins.2 (.inl rfl), h⟩
    · exact ⟨r, mem_ins.2 (.inr hr), h⟩
theorem Frs.put {l : Tb} {D : DataW Unit} (h : Frs l D) (p : Int) (x : En) (hf : framed l x.2.2 = false) : Frs (ins l p x) (D.put (.int .i64 x.2.2) unitD) := by
  refine ⟨h.tidy.put (key_i _) _, fun z => ?_, ?_⟩
  · rw [framed_ins]
    by_cases e : x.2.2 = z
    · rw [← e, has_put_same h.tidy.isMap (key_i _)]
      simp
    · rw [has_put_other (lit_ne (Ne.symm e)), h.has, beq_eq_false_iff_ne.2 e, Bool.false_or]
  · rw [size_put h.tidy, h.has, hf, h.size, ins_len]
    rfl
theorem del_len : ∀ {l : Tb} {p : Int} {e : En}, l.Pairwise (fun a b => a.1 < b.1) → look l p = some e → (del l p).length + 1 = l.length
  | [], p, e, _, h => by simp [look] at h
  | r :: t, p, e, hs, h => by
    obtain ⟨h1, h2⟩ := List.pairwise_cons.1 hs
    rw [look_cons] at h
    by_cases hr : r.1 = p
    · have hn : look t p = none := look_none.2 fun q hq e => by have := h1 q hq; omega
      have h3 : del (r :: t) p = t := by
        unfold del
        rw [List.filter_cons_of_neg (by simpa using hr)]
        exact del_none hn
      rw [h3, List.length_cons]
    · rw [if_neg hr] at h
      have h3 : del (r :: t) p = r :: del t p := by
        unfold del
        rw [List.filter_cons_of_pos (by simpa using hr)]
      rw [h3, List.length_cons, List.length_cons, del_len h2 h]
theorem pair_ne {α : Type} {R : α → α → Prop} (hR : ∀ a b, R a b → R b a) {l : List α} (h : l.Pairwise R) {a b : α} (ha : a ∈ l) (hb : b ∈ l) (hab : a ≠ b) : R a b := by
  induction l with
  | nil => simp at ha
  | cons c t ih =>
    obtain ⟨h1, h2⟩ := List.pairwise_cons.1 h
    rcases List.mem_cons.1 ha with rfl | ha'
    · rcases List.mem_cons.1 hb with rfl | hb'
      · exact absurd rfl hab
      · exact h1 b hb'
    · rcases List.mem_cons.1 hb with rfl | hb'
      · exact hR _ _ (h1 a ha')
      · exact ih h2 ha' hb'
theorem Frs.del {l : Tb} {D : DataW Unit} (h : Frs l D) (hl : Tok l) {p : Int} {e : En} (he : look l p = some e) : Frs (del l p) (D.del (.int .i64 e.2.2)) := by
  have hm := look_some he
  refine ⟨h.tidy.del _, fun z => ?_, ?_⟩
  · by_cases ez : z = e.2.2
    · subst ez
      rw [has_del_same]
      symm
      rw [framed_false]
      intro r hr ef
      obtain ⟨hr1, hr2⟩ := List.mem_filter.1 hr
      have hne : r ≠ (p, e) := fun e2 => by rw [e2] at hr2; simp at hr2
      exact pair_ne (fun _ _ h => Ne.symm h) hl.frame hr1 hm hne ef
    · rw [has_del_other (lit_ne ez), h.has]
      unfold framed Go.Proofs.Ytmocdokikcbjeaa.del
      rw [Bool.eq_iff_iff, List.any_eq_true, List.any_eq_true]
      constructor
      · rintro ⟨r, hr, hf⟩
        refine ⟨r, List.mem_filter.2 ⟨hr, ?_⟩, hf⟩
        have hf : r.2.2.2 = z := by simpa using hf
        simp only [Bool.not_eq_true', beq_eq_false_iff_ne]
        intro e2
        have : look l r.1 = some r.2 := (look_mem hl.sorted).2 hr
        rw [e2, he] at this
        injection this with this
        rw [← this] at hf
        exact ez hf.symm
      · rintro ⟨r, hr, hf⟩
        exact ⟨r, (List.mem_filter.1 hr).1, hf⟩
  · have h1 := size_del (k := .int .i64 e.2.2) h.tidy
    have h2 : Maps.has D (.int .i64 e.2.2) = true := by
      rw [h.has]
      unfold framed
      rw [List.any_eq_true]
      exact ⟨(p, e), hm, by simp⟩
    rw [h2, if_pos rfl, h.size] at h1
    have h3 := del_len hl.sorted he
    omega
theorem Frs.set {l : Tb} {D : DataW Unit} (h : Frs l D) (p m : Int) : Frs (setM l p m) D := by
  refine ⟨h.tidy, fun z => ?_, by rw [h.size, setM_len]⟩
  rw [h.has]
  have e : ∀ t : Tb, framed t z = (t.map (fun r => r.2.2.2)).any (fun f => f == z) := fun t => by
    unfold framed
    rw [List.any_map]
    rfl
  rw [e, e, setM_frm]
end Go.Proofs.Ytmocdokikcbjeaa
