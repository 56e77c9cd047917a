import Derived.Test.YtmocdokikcbjeaaGen
import Derived.Lib.SlKeysI
import Derived.Maps.OwnSet
namespace Go.Proofs.Ytmocdokikcbjeaa
open Go.Maps

/- PLAIN: ENTRIES, TABLES AS ROWS, RISING; MAPS AS THEY READ. -/

/-- an entry: owner, what may be done, frame -/
abbrev En := Int × Int × Int
/-- a table's rows: pages, rising -/
abbrev Tb := List (Int × En)
def zeroEn : En := (0, 0, 0)
def enC (x : En) : List Value := [.int .i64 x.1, .int .i64 x.2.1, .int .i64 x.2.2]
def enV (x : En) : Value := .agg (enC x).toArray
def I64 (z : Int) : Prop := -9223372036854775808 ≤ z ∧ z ≤ 9223372036854775807
def En64 (x : En) : Prop := I64 x.1 ∧ I64 x.2.1 ∧ I64 x.2.2
def mayB (m : Int) : Bool := decide (0 ≤ m) && decide (m ≤ 2)
def rightB (x : En) : Bool := decide (-1 ≤ x.1) && decide (x.1 ≤ 63) && mayB x.2.1 && decide (0 ≤ x.2.2)
def pageB (z : Int) : Bool := decide (0 ≤ z) && decide (z < 65536)
theorem pageB_iff {z : Int} : pageB z = true ↔ 0 ≤ z ∧ z < 65536 := by simp [pageB]

structure Tok (l : Tb) : Prop where
  sorted : l.Pairwise (fun a b => a.1 < b.1)
  page : ∀ r ∈ l, pageB r.1 = true
  right : ∀ r ∈ l, rightB r.2 = true
  frame : l.Pairwise (fun a b => a.2.2.2 ≠ b.2.2.2)
  big : ∀ r ∈ l, En64 r.2
theorem Tok.nil : Tok [] := ⟨List.Pairwise.nil, fun _ h => by simp at h, fun _ h => by simp at h, List.Pairwise.nil, fun _ h => by simp at h⟩
theorem rise_len : ∀ (l : Tb) (lo : Int), lo ≤ 65536 → (∀ r ∈ l, lo ≤ r.1 ∧ r.1 < 65536) → l.Pairwise (fun a b => a.1 < b.1) → (l.length : Int) ≤ 65536 - lo
  | [], lo, h, _, _ => by simp; omega
  | a :: t, lo, h, hb, hs => by
    obtain ⟨h1, h2⟩ := List.pairwise_cons.1 hs
    have ha := hb a (by simp)
    have := rise_len t (a.1 + 1) (by omega) (fun r hr => ⟨by have := h1 r hr; omega, (hb r (by simp [hr])).2⟩) h2
    rw [List.length_cons]
    omega
theorem Tok.len {l : Tb} (h : Tok l) : l.length ≤ 65536 := by
  have := rise_len l 0 (by omega) (fun r hr => pageB_iff.1 (h.page r hr)) h.sorted
  omega

/-! what stands at a page -/
def look (l : Tb) (z : Int) : Option En := (l.find? (fun r => r.1 == z)).map Prod.snd
def framed (l : Tb) (f : Int) : Bool := l.any (fun r => r.2.2.2 == f)
theorem look_cons (r : Int × En) (t : Tb) (z : Int) : look (r :: t) z = if r.1 = z then some r.2 else look t z := by
  unfold look
  by_cases h : r.1 = z
  · rw [if_pos h, List.find?_cons_of_pos (by simpa using h)]
    rfl
  · rw [if_neg h, List.find?_cons_of_neg (by simpa using h)]
theorem look_none {l : Tb} {z : Int} : look l z = none ↔ ∀ r ∈ l, r.1 ≠ z := by
  unfold look
  rw [Option.map_eq_none_iff, List.find?_eq_none]
  simp
theorem look_mem : ∀ {l : Tb}, l.Pairwise (fun a b => a.1 < b.1) → ∀ {z : Int} {e : En}, look l z = some e ↔ (z, e) ∈ l
  | [], _, z, e => by simp [look]
  | r :: t, hs, z, e => by
    obtain ⟨h1, h2⟩ := List.pairwise_cons.1 hs
    rw [look_cons]
    by_cases h : r.1 = z
    · rw [if_pos h, List.mem_cons]
      constructor
      · intro h3
        injection h3 with h3
        exact .inl (Prod.ext h.symm h3.symm)
      · rintro (h3 | h3)
        · rw [← h3]
        · have := h1 _ h3
          simp only at this
          omega
    · rw [if_neg h, look_mem h2, List.mem_cons]
      constructor
      · exact .inr
      · rintro (h3 | h3)
        · exact absurd (by rw [← h3]) h
        · exact h3
theorem look_some {l : Tb} {z : Int} {e : En} (h : look l z = some e) : (z, e) ∈ l := by
  unfold look at h
  rw [Option.map_eq_some_iff] at h
  obtain ⟨r, h1, rfl⟩ := h
  have h2 := List.mem_of_find?_eq_some h1
  have h3 := List.find?_some h1
  have h4 : r.1 = z := by simpa using h3
  rw [← h4]
  exact h2

/-! what the calls do -/
def ins : Tb → Int → En → Tb
  | [], p, x => [(p, x)]
  | r :: t, p, x => if p < r.1 then (p, x) :: r :: t else r :: ins t p x
def mapE (l : Tb) (p : Int) (x : En) : Nat := if rightB x = false then 2 else if pageB p = false then 4 else if (look l p).isSome then 180 else if framed l x.2.2 then 181 else 0
def mapT (l : Tb) (p : Int) (x : En) : Tb := if mapE l p x = 0 then ins l p x else l
def del (l : Tb) (p : Int) : Tb := l.filter (fun r => !(r.1 == p))
def unmapE (l : Tb) (p : Int) : Nat := if pageB p = false then 4 else if (look l p).isSome = false then 5 else 0
def unmapT (l : Tb) (p : Int) : Tb := if unmapE l p = 0 then del l p else l
def unmapX (l : Tb) (p : Int) : En := if unmapE l p = 0 then (look l p).getD zeroEn else zeroEn
def protE (l : Tb) (p m : Int) : Nat := if mayB m = false then 2 else if pageB p = false then 4 else if (look l p).isSome = false then 5 else 0
def setM (l : Tb) (p m : Int) : Tb := l.map (fun r => if r.1 = p then (r.1, r.2.1, m, r.2.2.2) else r)
def protT (l : Tb) (p m : Int) : Tb := if protE l p m = 0 then setM l p m else l
def protM (l : Tb) (p m : Int) : Int := if protE l p m = 0 then ((look l p).getD zeroEn).2.1 else 0
def getX (l : Tb) (p : Int) : En := (look l p).getD zeroEn
def inRun (a m : Int) (r : Int × En) : Bool := decide (a ≤ r.1) && decide (r.1 - a < m)
def freeB (l : Tb) (a m : Int) : Bool := l.all (fun r => !inRun a m r)
def wholeB (a m : Int) : Bool := pageB a && decide (m ≤ 65536 - a)
def freeE (a m : Int) : Nat := if ¬ (1 ≤ m) then 2 else if wholeB a m = false then 4 else 0
def freeQ (l : Tb) (a m : Int) : Bool := decide (freeE a m = 0) && freeB l a m
def stepR (m a : Int) (r : Int × En) : Int := if inRun a m r then r.1 + 1 else a
def runN (l : Tb) (a m : Int) : Int := l.foldl (stepR m) a
def nextI (l : Tb) (a m : Int) : Int := if m < 1 ∨ 65536 < m then -1 else if 65536 - m < runN l (max 0 a) m then -1 else runN l (max 0 a) m
def ofO (l : Tb) (o : Int) : Tb := l.filter (fun r => r.2.1 == o)

theorem mem_ins : ∀ {l : Tb} {p : Int} {x : En} {r : Int × En}, r ∈ ins l p x ↔ r = (p, x) ∨ r ∈ l
  | [], p, x, r => by simp [ins]
  | a :: t, p, x, r => by
    rw [ins]
    split
    · simp
    · rw [List.mem_cons, mem_ins, List.mem_cons]
      constructor
      · rintro (h | h | h)
        · exact .inr (.inl h)
        · exact .inl h
        · exact .inr (.inr h)
      · rintro (h | h | h)
        · exact .inr (.inl h)
        · exact .inl h
        · exact .inr (.inr h)
theorem ins_len : ∀ (l : Tb) (p : Int) (x : En), (ins l p x).length = l.length + 1
  | [], p, x => rfl
  | a :: t, p, x => by
    rw [ins]
    split
    · rfl
    · rw [List.length_cons, ins_len t, List.length_cons]
theorem ins_sorted : ∀ {l : Tb} {p : Int} {x : En}, l.Pairwise (fun a b => a.1 < b.1) → (∀ r ∈ l, r.1 ≠ p) → (ins l p x).Pairwise (fun a b => a.1 < b.1)
  | [], p, x, _, _ => by simp [ins]
  | a :: t, p, x, hs, hn => by
    obtain ⟨h1, h2⟩ := List.pairwise_cons.1 hs
    rw [ins]
    split
    next h => exact List.pairwise_cons.2 ⟨fun r hr => by
      rcases List.mem_cons.1 hr with rfl | hr
      · exact h
      · have := h1 r hr
        show p < r.1
        omega, hs⟩
    next h =>
      refine List.pairwise_cons.2 ⟨fun r hr => ?_, ins_sorted h2 fun r hr => hn r (by simp [hr])⟩
      rcases mem_ins.1 hr with rfl | hr
      · have := hn a (by simp)
        show a.1 < p
        omega
      · exact h1 r hr
theorem ins_frame : ∀ {l : Tb} {p : Int} {x : En}, l.Pairwise (fun a b => a.2.2.2 ≠ b.2.2.2) → (∀ r ∈ l, r.2.2.2 ≠ x.2.2) → (ins l p x).Pairwise (fun a b => a.2.2.2 ≠ b.2.2.2)
  | [], p, x, _, _ => by simp [ins]
  | a :: t, p, x, hs, hn => by
    obtain ⟨h1, h2⟩ := List.pairwise_cons.1 hs
    rw [ins]
    split
    · exact List.pairwise_cons.2 ⟨fun r hr => (hn r hr).symm, hs⟩
    · refine List.pairwise_cons.2 ⟨fun r hr => ?_, ins_frame h2 fun r hr => hn r (by simp [hr])⟩
      rcases mem_ins.1 hr with rfl | hr
      · exact hn a (by simp)
      · exact h1 r hr
theorem framed_false {l : Tb} {f : Int} : framed l f = false ↔ ∀ r ∈ l, r.2.2.2 ≠ f := by
  unfold framed
  rw [List.any_eq_false]
  simp
theorem mapE_0 {l : Tb} {p : Int} {x : En} (h : mapE l p x = 0) : rightB x = true ∧ pageB p = true ∧ look l p = none ∧ framed l x.2.2 = false := by
  unfold mapE at h
  split at h
  · cases h
  split at h
  · cases h
  split at h
  · cases h
  split at h
  · cases h
  next h1 h2 h3 h4 => exact ⟨by simpa using h1, by simpa using h2, by simpa using h3, by simpa using h4⟩
theorem map_ok {l : Tb} (h : Tok l) (p : Int) (x : En) (hx : En64 x) : Tok (mapT l p x) := by
  unfold mapT
  split
  next h0 =>
    obtain ⟨h1, h2, h3, h4⟩ := mapE_0 h0
    refine ⟨ins_sorted h.sorted (look_none.1 h3), fun r hr => ?_, fun r hr => ?_, ins_frame h.frame (framed_false.1 h4), fun r hr => ?_⟩
    · rcases mem_ins.1 hr with rfl | hr
      · exact h2
      · exact h.page r hr
    · rcases mem_ins.1 hr with rfl | hr
      · exact h1
      · exact h.right r hr
    · rcases mem_ins.1 hr with rfl | hr
      · exact hx
      · exact h.big r hr
  · exact h
theorem del_ok {l : Tb} (h : Tok l) (p : Int) : Tok (del l p) :=
  ⟨h.sorted.filter _, fun r hr => h.page r (List.mem_filter.1 hr).1, fun r hr => h.right r (List.mem_filter.1 hr).1, h.frame.filter _, fun r hr => h.big r (List.mem_filter.1 hr).1⟩
theorem unmap_ok {l : Tb} (h : Tok l) (p : Int) : Tok (unmapT l p) := by
  unfold unmapT
  split
  · exact del_ok h p
  · exact h
theorem setM_fst (l : Tb) (p m : Int) : (setM l p m).map Prod.fst = l.map Prod.fst := by
  unfold setM
  rw [List.map_map]
  refine List.map_congr_left fun r _ => ?_
  simp only [Function.comp]
  split <;> rfl
theorem setM_frm (l : Tb) (p m : Int) : (setM l p m).map (fun r => r.2.2.2) = l.map (fun r => r.2.2.2) := by
  unfold setM
  rw [List.map_map]
  refine List.map_congr_left fun r _ => ?_
  simp only [Function.comp]
  split <;> rfl
theorem mayB_iff {m : Int} : mayB m = true ↔ 0 ≤ m ∧ m ≤ 2 := by simp [mayB]
theorem setM_ok {l : Tb} (h : Tok l) (p m : Int) (hm : mayB m = true) : Tok (setM l p m) := by
  refine ⟨?_, fun r hr => ?_, fun r hr => ?_, ?_, fun r hr => ?_⟩
  · have := h.sorted
    rw [← List.pairwise_map (f := Prod.fst) (R := fun a b : Int => a < b)] at this ⊢
    rw [setM_fst]
    exact this
  · unfold setM at hr
    obtain ⟨q, hq, rfl⟩ := List.mem_map.1 hr
    have := h.page q hq
    split <;> exact this
  · unfold setM at hr
    obtain ⟨q, hq, rfl⟩ := List.mem_map.1 hr
    have := h.right q hq
    split
    · unfold rightB at this ⊢
      simp only [Bool.and_eq_true] at this ⊢
      exact ⟨⟨this.1.1, hm⟩, this.2⟩
    · exact this
  · have := h.frame
    rw [← List.pairwise_map (f := fun r : Int × En => r.2.2.2) (R := fun a b : Int => a ≠ b)] at this ⊢
    rw [setM_frm]
    exact this
  · unfold setM at hr
    obtain ⟨q, hq, rfl⟩ := List.mem_map.1 hr
    have := h.big q hq
    split
    · have h2 := mayB_iff.1 hm
      exact ⟨this.1, ⟨by show -9223372036854775808 ≤ m; omega, by show m ≤ 9223372036854775807; omega⟩, this.2.2⟩
    · exact this
theorem prot_ok {l : Tb} (h : Tok l) (p m : Int) : Tok (protT l p m) := by
  unfold protT
  split
  next h0 =>
    refine setM_ok h p m ?_
    unfold protE at h0
    split at h0
    · cases h0
    next h1 => simpa using h1
  · exact h
end Go.Proofs.Ytmocdokikcbjeaa
