import Derived.Test.YtiahmccchpmdgaaGreatDoorFAP
import Derived.Deep.MidRow
import Derived.Laws.MakeOwn
import Derived.Test.YtiahmccchpmdgaaGreatDoorFAA
import Derived.Test.YtiahmccchpmdgaaGreatDoorFAO
namespace Go.Proofs.YtiahmccchpmdgaaGreatDoor.Me
open Go.RowKit Go.Shelf
attribute [local go_sem] Oper.semAt_some

/- THE DOCUMENT's BOOKS: HOW THEY LIE IN MEMORY; RIGHT, RIGHTGREAT, GET, GETGREAT. -/
theorem flat_len (g : Nat → List Value) (m : Nat) (hg : ∀ i, (g i).length = m) : ∀ n, ((List.range n).flatMap g).length = n * m
  | 0 => by simp
  | n + 1 => by rw [List.range_succ, List.flatMap_append, List.length_append, flat_len g m hg n, List.flatMap_cons, List.flatMap_nil, List.append_nil, hg, Nat.succ_mul]
theorem flat_get (g : Nat → List Value) (m : Nat) (hg : ∀ i, (g i).length = m) : ∀ n i k, i < n → k < m → ((List.range n).flatMap g)[i * m + k]? = (g i)[k]?
  | n + 1, i, k, hi, hk => by
    have hl := flat_len g m hg n
    rw [List.range_succ, List.flatMap_append, List.flatMap_cons, List.flatMap_nil, List.append_nil]
    by_cases h : i < n
    · have h1 : i * m + k < n * m := by
        have := Nat.mul_le_mul_right m (show i + 1 ≤ n by omega)
        rw [Nat.succ_mul] at this
        omega
      rw [List.getElem?_append_left (by omega)]
      exact flat_get g m hg n i k h hk
    · obtain rfl : i = n := by omega
      rw [List.getElem?_append_right (by omega), hl, Nat.add_sub_cancel_left]
def recC (o : Option (Nat × Nat × Nat)) : List Value := match o with
  | some (st, sz, no) => [.int .i64 (st : Int), .int .i64 (sz : Int), .int .u32 (no : Int)]
  | none => [.int .i64 0, .int .i64 0, .int .u32 0]
def greC (o : Option (Nat × Nat × Nat × Nat)) : List Value := match o with
  | some (st, pg, sz, fi) => [.int .i64 (st : Int), .int .i64 (pg : Int), .int .i64 (sz : Int), .int .i64 (fi : Int)]
  | none => [.int .i64 0, .int .i64 0, .int .i64 0, .int .i64 0]
theorem recC_len (o : Option (Nat × Nat × Nat)) : (recC o).length = 3 := by rcases o with _ | ⟨a, b, c⟩ <;> rfl
theorem greC_len (o : Option (Nat × Nat × Nat × Nat)) : (greC o).length = 4 := by rcases o with _ | ⟨a, b, c, d⟩ <;> rfl
def recL (f : Byts) (c : Nat) : List Value := (List.range (cnt c)).flatMap fun i => recC (recAt f (recO c i))
def greL (f : Byts) : List Value := (List.range 384).flatMap fun i => greC (greatAt f (greatO i))
/-- each record is one -/
structure Good (f : Byts) : Prop where
  recs : ∀ c i, c < 8 → i < cnt c → ∃ st sz no, recAt f (recO c i) = some (st, sz, no)
  gres : ∀ i, i < 384 → ∃ st pg sz fi, greatAt f (greatO i) = some (st, pg, sz, fi)
structure BL (w : World) (cs : List Value) (B : Bks) : Prop where
  len : cs.length = 40
  one : ∀ u ∈ cs, u.oneCell' = true
  shut : ∀ s, s < 4 → B s = none → cs[s * 10]? = some (.bool false)
  opn : ∀ s, s < 4 → ∀ f, B s = some f → cs[s * 10]? = some (.bool true) ∧ (∀ c, c < 8 → ∃ A cap, cs[s * 10 + 1 + c]? = some (.slice A (cnt c) cap) ∧ Sees w w.heap.size A (recL f c)) ∧ (∃ G cap, cs[s * 10 + 9]? = some (.slice G 384 cap) ∧ Sees w w.heap.size G (greL f)) ∧ Good f
theorem BL.below {w w' : World} {cs : List Value} {B : Bks} (h : BL w cs B) (hb : Below w.heap.size w w') : BL w' cs B :=
  ⟨h.len, h.one, h.shut, fun s hs f hf => by
    obtain ⟨h1, h2, ⟨G, cap, h3, h4⟩, h5⟩ := h.opn s hs f hf
    refine ⟨h1, fun c hc => ?_, ⟨G, cap, h3, (h4.below hb).more hb.size⟩, h5⟩
    obtain ⟨A, cap, g1, g2⟩ := h2 c hc
    exact ⟨A, cap, g1, (g2.below hb).more hb.size⟩⟩
end Go.Proofs.YtiahmccchpmdgaaGreatDoor.Me

namespace Go.Proofs.YtiahmccchpmdgaaGreatDoor.Me
open Go.RowKit Go.Shelf
attribute [local go_sem] Oper.semAt_some

/- THE DOCUMENT's BOOKS BY VALUE: LOADED, STORED, ANSWERED; PUT THAT IS REFUSED. -/
theorem row_range {W : World} {g : Nat} {t : TypeId} {cs : List Value} (h : Row W g t cs) : W.rangeAt g 0 cs := fun j v hj => by
  rw [Nat.zero_add, h.cell]
  exact hj
theorem row_there {W : World} {g : Nat} {t : TypeId} {l : List Value} (h : Row W g t l) {n : Nat} (hn : n = l.length) : W.there g 0 n := fun j hj => by
  rw [Nat.zero_add, h.cell, List.getElem?_eq_getElem (by omega)]
  exact ⟨rfl, h.frozen j⟩
theorem set_from {w : World} {g : Nat} {t : TypeId} : ∀ (cs pre mid : List Value), Row w g t (pre ++ mid) → mid.length = cs.length → Row (w.setCells g pre.length cs) g t (pre ++ cs)
  | [], pre, mid, h, hl => by
    obtain rfl : mid = [] := List.eq_nil_of_length_eq_zero hl
    exact h
  | v :: r, pre, m :: mid, h, hl => by
    rw [World.setCells]
    have h1 := h.set pre.length v
    rw [List.set_append_right _ _ (Nat.le_refl _), Nat.sub_self, List.set_cons_zero, show pre ++ v :: mid = (pre ++ [v]) ++ mid by simp] at h1
    have h2 := set_from r (pre ++ [v]) mid h1 (by simpa using hl)
    rw [List.length_append, List.length_singleton] at h2
    rw [show pre ++ v :: r = (pre ++ [v]) ++ r by simp]
    exact h2
theorem set_below (g B : Nat) (hB : B ≤ g) {w : World} : ∀ (cs : List Value) (o : Nat) (V : World), Below B w V → Below B w (V.setCells g o cs)
  | [], _, _, h => h
  | v :: r, o, V, h => by
    rw [World.setCells]
    exact set_below g B hB r (o + 1) (V.setCell ⟨g, o, none⟩ v) (h.setCell hB v)
end Go.Proofs.YtiahmccchpmdgaaGreatDoor.Me

namespace Go.Proofs.YtiahmccchpmdgaaGreatDoor.Me
open Go.RowKit Go.Shelf
attribute [local go_sem] Oper.semAt_some

/- WHAT A PUT DOES TO THE LISTS, PLAINLY. -/
theorem recL_len (f : Byts) (c : Nat) : (recL f c).length = cnt c * 3 := flat_len _ 3 (fun _ => recC_len _) _
theorem greL_len (f : Byts) : (greL f).length = 384 * 4 := flat_len _ 4 (fun _ => greC_len _) _
theorem recL_at (f : Byts) (c j r : Nat) (hj : j < cnt c) (hr : r < 3) : (recL f c)[j * 3 + r]? = (recC (recAt f (recO c j)))[r]? := flat_get (fun i => recC (recAt f (recO c i))) 3 (fun _ => recC_len _) (cnt c) j r hj hr
theorem recL_other (f : Byts) (c i st sz no c' : Nat) (hc : c < 8) (hi : i < cnt c) (hc' : c' < 8) (h : c' ≠ c) : recL (putB f (recO c i) (recB st sz no)) c' = recL f c' := by
  apply List.ext_getElem?
  intro p
  by_cases hp : p < cnt c' * 3
  · obtain ⟨j, r, hr, rfl⟩ : ∃ j r, r < 3 ∧ p = j * 3 + r := ⟨p / 3, p % 3, by omega, by omega⟩
    have hj : j < cnt c' := by omega
    rw [recL_at _ c' j r hj hr, recL_at _ c' j r hj hr, rec_out _ _ _ _ (by have := rec_apart hc' hj hc hi (fun x => h x.1); rw [recB_len]; omega)]
  · rw [List.getElem?_eq_none (by rw [recL_len]; omega), List.getElem?_eq_none (by rw [recL_len]; omega)]
theorem greL_rec (f : Byts) (c i st sz no : Nat) (hc : c < 8) (hi : i < cnt c) : greL (putB f (recO c i) (recB st sz no)) = greL f := by
  unfold greL
  congr 1
  funext j
  rw [great_out _ _ _ _ (.inr (by have := rec_lt hc hi; rw [recB_len]; unfold greatO; omega))]
theorem recL_gre (f : Byts) (c i st pg sz fi : Nat) (hc : c < 8) : recL (putB f (greatO i) (greatB st pg sz fi)) c = recL f c := by
  apply List.ext_getElem?
  intro p
  by_cases hp : p < cnt c * 3
  · obtain ⟨j, r, hr, rfl⟩ : ∃ j r, r < 3 ∧ p = j * 3 + r := ⟨p / 3, p % 3, by omega, by omega⟩
    have hj : j < cnt c := by omega
    rw [recL_at _ c j r hj hr, recL_at _ c j r hj hr, rec_out _ _ _ _ (.inl (by have := rec_lt hc hj; unfold greatO; omega))]
  · rw [List.getElem?_eq_none (by rw [recL_len]; omega), List.getElem?_eq_none (by rw [recL_len]; omega)]
theorem Good.put {f : Byts} (h : Good f) (c i st sz no : Nat) (hc : c < 8) (hi : i < cnt c) (h1 : st ≤ 4) (h2 : sz ≤ 65535) (h3 : no < 4294967296) : Good (putB f (recO c i) (recB st sz no)) := by
  refine ⟨fun c' i' hc' hi' => ?_, fun j hj => ?_⟩
  · by_cases he : c' = c ∧ i' = i
    · obtain ⟨rfl, rfl⟩ := he
      exact ⟨_, _, _, rec_back _ _ _ _ _ h1 h2 h3⟩
    · rw [rec_out _ _ _ _ (by have := rec_apart hc' hi' hc hi he; rw [recB_len]; omega)]
      exact h.recs c' i' hc' hi'
  · rw [great_out _ _ _ _ (.inr (by have := rec_lt hc hi; rw [recB_len]; unfold greatO; omega))]
    exact h.gres j hj
theorem Good.gput {f : Byts} (h : Good f) (i st pg sz fi : Nat) (hi : i < 384) (h1 : st ≤ 4) (h2 : pg ≤ 65535) (h3 : sz ≤ 262144) (h4 : fi ≤ 65535) : Good (putB f (greatO i) (greatB st pg sz fi)) := by
  refine ⟨fun c' i' hc' hi' => ?_, fun j hj => ?_⟩
  · rw [rec_out _ _ _ _ (.inl (by have := rec_lt hc' hi'; unfold greatO; omega))]
    exact h.recs c' i' hc' hi'
  · by_cases he : j = i
    · subst he
      exact ⟨_, _, _, _, great_back _ _ _ _ _ _ h1 h2 h3 h4⟩
    · rw [great_out _ _ _ _ (by rw [greatB_len]; unfold greatO; omega)]
      exact h.gres j hj
theorem Good.zero : Good zeroB := ⟨fun _ _ _ _ => ⟨0, 0, 0, rec_zero _⟩, fun _ _ => ⟨0, 0, 0, 0, great_zero _⟩⟩
/-- the books behind a put: one list anew -/
theorem BL.put {w w' : World} {cs : List Value} {B : Bks} {s c i st sz no : Nat} {f : Byts} (h : BL w cs B) (hb : Below w.heap.size w w') (hs : s < 4) (hc : c < 8) (hi : i < cnt c) (hf : B s = some f) (h1 : st ≤ 4) (h2 : sz ≤ 65535) (h3 : no < 4294967296) (A : Option Addr) (cap : Nat)
    (hA : Sees w' w'.heap.size A (recL (putB f (recO c i) (recB st sz no)) c)) : BL w' (cs.set (s * 10 + 1 + c) (.slice A (cnt c) cap)) (upd B s (some (putB f (recO c i) (recB st sz no)))) := by
  have h' := h.below hb
  have hl := h.len
  refine ⟨by rw [List.length_set, h.len], fun u hu => ?_, fun s' hs' hn => ?_, fun s' hs' f' hf' => ?_⟩
  · rcases List.mem_or_eq_of_mem_set hu with hu | rfl
    · exact h.one u hu
    · rfl
  · by_cases he : s' = s
    · subst he
      rw [upd_same] at hn
      cases hn
    · rw [upd_other _ _ _ _ he] at hn
      rw [List.getElem?_set_ne (by omega)]
      exact h.shut s' hs' hn
  · by_cases he : s' = s
    · subst he
      rw [upd_same] at hf'
      injection hf' with hf'
      subst hf'
      obtain ⟨g1, g2, ⟨G, cg, g3, g4⟩, g5⟩ := h'.opn s' hs' f hf
      refine ⟨by rw [List.getElem?_set_ne (by omega)]; exact g1, fun c' hc' => ?_, ⟨G, cg, by rw [List.getElem?_set_ne (by omega)]; exact g3, by rw [greL_rec _ _ _ _ _ _ hc hi]; exact g4⟩, g5.put c i st sz no hc hi h1 h2 h3⟩
      by_cases hcc : c' = c
      · subst hcc
        exact ⟨A, cap, by rw [List.getElem?_set_self (by omega)], hA⟩
      · obtain ⟨A', cap', e1, e2⟩ := g2 c' hc'
        exact ⟨A', cap', by rw [List.getElem?_set_ne (by omega)]; exact e1, by rw [recL_other _ _ _ _ _ _ _ hc hi hc' hcc]; exact e2⟩
    · rw [upd_other _ _ _ _ he] at hf'
      obtain ⟨g1, g2, ⟨G, cg, g3, g4⟩, g5⟩ := h'.opn s' hs' f' hf'
      refine ⟨by rw [List.getElem?_set_ne (by omega)]; exact g1, fun c' hc' => ?_, ⟨G, cg, by rw [List.getElem?_set_ne (by omega)]; exact g3, g4⟩, g5⟩
      obtain ⟨A', cap', e1, e2⟩ := g2 c' hc'
      exact ⟨A', cap', by rw [List.getElem?_set_ne (by omega)]; exact e1, e2⟩
theorem BL.gput {w w' : World} {cs : List Value} {B : Bks} {s i st pg sz fi : Nat} {f : Byts} (h : BL w cs B) (hb : Below w.heap.size w w') (hs : s < 4) (hi : i < 384) (hf : B s = some f) (h1 : st ≤ 4) (h2 : pg ≤ 65535) (h3 : sz ≤ 262144) (h4 : fi ≤ 65535) (A : Option Addr) (cap : Nat)
    (hA : Sees w' w'.heap.size A (greL (putB f (greatO i) (greatB st pg sz fi)))) : BL w' (cs.set (s * 10 + 9) (.slice A 384 cap)) (upd B s (some (putB f (greatO i) (greatB st pg sz fi)))) := by
  have h' := h.below hb
  have hl := h.len
  refine ⟨by rw [List.length_set, h.len], fun u hu => ?_, fun s' hs' hn => ?_, fun s' hs' f' hf' => ?_⟩
  · rcases List.mem_or_eq_of_mem_set hu with hu | rfl
    · exact h.one u hu
    · rfl
  · by_cases he : s' = s
    · subst he
      rw [upd_same] at hn
      cases hn
    · rw [upd_other _ _ _ _ he] at hn
      rw [List.getElem?_set_ne (by omega)]
      exact h.shut s' hs' hn
  · by_cases he : s' = s
    · subst he
      rw [upd_same] at hf'
      injection hf' with hf'
      subst hf'
      obtain ⟨g1, g2, _, g5⟩ := h'.opn s' hs' f hf
      refine ⟨by rw [List.getElem?_set_ne (by omega)]; exact g1, fun c' hc' => ?_, ⟨A, cap, by rw [List.getElem?_set_self (by omega)], hA⟩, g5.gput i st pg sz fi hi h1 h2 h3 h4⟩
      obtain ⟨A', cap', e1, e2⟩ := g2 c' hc'
      exact ⟨A', cap', by rw [List.getElem?_set_ne (by omega)]; exact e1, by rw [recL_gre _ _ _ _ _ _ _ hc']; exact e2⟩
    · rw [upd_other _ _ _ _ he] at hf'
      obtain ⟨g1, g2, ⟨G, cg, g3, g4⟩, g5⟩ := h'.opn s' hs' f' hf'
      refine ⟨by rw [List.getElem?_set_ne (by omega)]; exact g1, fun c' hc' => ?_, ⟨G, cg, by rw [List.getElem?_set_ne (by omega)]; exact g3, g4⟩, g5⟩
      obtain ⟨A', cap', e1, e2⟩ := g2 c' hc'
      exact ⟨A', cap', by rw [List.getElem?_set_ne (by omega)]; exact e1, e2⟩
/-- the lists of books by value: the old ones, or new ones -/
def NewL (w w' : World) (cs cs' : List Value) : Prop := ∀ (j : Nat) (A : Addr) (n c : Nat), cs'[j]? = some (Value.slice (some A) n c) → cs[j]? = some (Value.slice (some A) n c) ∨ (w.heap.size ≤ A.block ∧ A.block < w'.heap.size)
theorem NewL.set {w w' : World} {cs : List Value} (k a n c : Nat) (h : w.heap.size ≤ a) (h' : a < w'.heap.size) : NewL w w' cs (cs.set k (.slice (some ⟨a, 0, none⟩) n c)) := by
  intro j A n' c' hj
  by_cases he : k = j
  · subst he
    by_cases hl : k < cs.length
    · rw [List.getElem?_set_self hl] at hj
      injection hj with hj
      injection hj with hj
      injection hj with hj
      subst hj
      exact .inr ⟨h, h'⟩
    · rw [List.getElem?_eq_none (by rw [List.length_set]; omega)] at hj
      cases hj
  · rw [List.getElem?_set_ne he] at hj
    exact .inl hj
theorem NewL.refl (w w' : World) (cs : List Value) : NewL w w' cs cs := fun _ _ _ _ h => .inl h
end Go.Proofs.YtiahmccchpmdgaaGreatDoor.Me

namespace Go.Proofs.YtiahmccchpmdgaaGreatDoor.Me
open Go.RowKit Go.Shelf
attribute [local go_sem] Oper.semAt_some

/- THE DOCUMENT's PUT: A RECORD STANDS THERE. -/
theorem setCells_other {g k : Nat} (h : k ≠ g) : ∀ (cs : List Value) (o : Nat) {V : World}, (V.setCells g o cs).heap[k]? = V.heap[k]?
  | [], _, _ => rfl
  | v :: r, o, V => by
    rw [World.setCells]
    exact (setCells_other h r (o + 1)).trans (heap_set h)
end Go.Proofs.YtiahmccchpmdgaaGreatDoor.Me

namespace Go.Proofs.YtiahmccchpmdgaaGreatDoor.Me
open Go.RowKit Go.Shelf
attribute [local go_sem] Oper.semAt_some

/- THE DOCUMENT's FRESH: A BOOK THAT IS OPEN, ALL 0. -/
theorem res_cell1 {fn : Func} {p : Tmp} {ty : TypeId} (h : fn.results = #[.cell p ty]) {tmps : Array Value} {P : Program} {w : World} {a : Addr} (ha : tmps.getD p undef = .pointer (some a)) {v : Value} (hv : (loadVar ty a).run P w = .ok v w) :
    (results fn tmps).run P w = .ok v w := by
  have h1 : (results fn tmps).run P w = ((asAddr (tmps.getD p undef)).run P w).andThen fun a w₁ => (loadVar ty a).run P w₁ := by
    simp only [results, h]
    simp [Sem.run_bind, Result.andThen]
  rw [h1, ha]
  exact hv
theorem bo_size : (Tryz.prog.info? 31).map (·.size) = some 10 := by kernel_rfl
/-- the cells of a book, its first m lists laid -/
structure Fr (b : Nat) (w : World) (bs : List Value) (m : Nat) : Prop where
  new : ∀ (j : Nat) (A : Addr) (n c : Nat), bs[j]? = some (Value.slice (some A) n c) → b ≤ A.block ∧ A.block < w.heap.size
  len : bs.length = 10
  one : ∀ u ∈ bs, u.oneCell' = true
  opn : bs[0]? = some (.bool true)
  recs : ∀ c, c < m → ∃ a cap, bs[1 + c]? = some (.slice (some ⟨a, 0, none⟩) (cnt c) cap) ∧ Row w a 41 (recL zeroB c)
theorem row_ne {w : World} {a b : Nat} {t u : TypeId} {l m : List Value} (h : Row w a t l) (h' : Row w b u m) (ht : t ≠ u) : a ≠ b := by
  rintro rfl
  have e := h.symm.trans h'
  injection e with e
  injection e with _ e
  exact ht e
theorem Fr.same {b : Nat} {w w' : World} {bs : List Value} {m k : Nat} (h : Fr b w bs m) (hsz : w.heap.size ≤ w'.heap.size) (hb : ∀ j, j ≠ k → w'.heap[j]? = w.heap[j]?) {u : TypeId} {l : List Value} (hk : Row w k u l) (hu : 41 ≠ u) : Fr b w' bs m :=
  ⟨fun j A n c hj => ⟨(h.new j A n c hj).1, by have := (h.new j A n c hj).2; omega⟩, h.len, h.one, h.opn, fun c hc => by
    obtain ⟨A, cap, g1, g2⟩ := h.recs c hc
    exact ⟨A, cap, g1, g2.same (hb _ (row_ne g2 hk hu))⟩⟩
theorem Fr.below {b : Nat} {w w' : World} {bs : List Value} {m : Nat} (h : Fr b w bs m) (hb : Below w.heap.size w w') : Fr b w' bs m :=
  ⟨fun j A n c hj => ⟨(h.new j A n c hj).1, by have := (h.new j A n c hj).2; have := hb.size; omega⟩, h.len, h.one, h.opn, fun c hc => by
    obtain ⟨A, cap, g1, g2⟩ := h.recs c hc
    exact ⟨A, cap, g1, g2.below hb⟩⟩
theorem Fr.new_set {b : Nat} {w : World} {bs : List Value} (h : ∀ (j : Nat) (A : Addr) (n c : Nat), bs[j]? = some (Value.slice (some A) n c) → b ≤ A.block ∧ A.block < w.heap.size) (k a n c : Nat) (h1 : b ≤ a) (h2 : a < w.heap.size) : ∀ (j : Nat) (A : Addr) (n' c' : Nat), (bs.set k (.slice (some ⟨a, 0, none⟩) n c))[j]? = some (Value.slice (some A) n' c') → b ≤ A.block ∧ A.block < w.heap.size := by
  intro j A n' c' hj
  by_cases he : k = j
  · subst he
    by_cases hl : k < bs.length
    · rw [List.getElem?_set_self hl] at hj
      injection hj with hj
      injection hj with hj
      injection hj with hj
      subst hj
      exact ⟨h1, h2⟩
    · rw [List.getElem?_eq_none (by rw [List.length_set]; omega)] at hj
      cases hj
  · rw [List.getElem?_set_ne he] at hj
    exact h j A n' c' hj
theorem Fr.set {b : Nat} {w : World} {bs : List Value} {m : Nat} (h : Fr b w bs m) (hm : m < 8) (A : Nat) (cap : Nat) (hba : b ≤ A) (hs : Row w A 41 (recL zeroB m)) : Fr b w (bs.set (1 + m) (.slice (some ⟨A, 0, none⟩) (cnt m) cap)) (m + 1) :=
  ⟨Fr.new_set h.new _ _ _ _ hba hs.lt, by rw [List.length_set, h.len], fun u hu => by
    rcases List.mem_or_eq_of_mem_set hu with hu | rfl
    · exact h.one u hu
    · rfl, by rw [List.getElem?_set_ne (by omega)]; exact h.opn, fun c hc => by
    by_cases he : c = m
    · subst he
      exact ⟨A, cap, by rw [List.getElem?_set_self (by rw [h.len]; omega)], hs⟩
    · obtain ⟨A', cap', g1, g2⟩ := h.recs c (by omega)
      exact ⟨A', cap', by rw [List.getElem?_set_ne (by omega)]; exact g1, g2⟩⟩
def FreshP (w : World) (e : Ending) (w' : World) : Prop := ∃ bs : List Value, e = .returned (.agg bs.toArray) ∧ Fr w.heap.size w' bs 8 ∧ (∃ G cap, bs[9]? = some (.slice G 384 cap) ∧ Sees w' w'.heap.size G (greL zeroB)) ∧ Below w.heap.size w w'
/-- a round of the loop lies so -/
def FrI (w wr : World) (m : Nat) : Prop := Row wr w.heap.size 31 [Value.bool false, Value.slice none 0 0, Value.slice none 0 0, Value.slice none 0 0, Value.slice none 0 0, Value.slice none 0 0, Value.slice none 0 0, Value.slice none 0 0, Value.slice none 0 0, Value.slice none 0 0] ∧ (∃ bs, Row wr (w.heap.size + 1) 31 bs ∧ Fr w.heap.size wr bs m) ∧ Below w.heap.size w wr
theorem FrI.step {w wr : World} {m : Nat} (h : FrI w wr m) (hm : m < 8) (W1 : World) (hW : W1 = wr.alloc (.cells (recL zeroB m).toArray 41)) :
    (∃ x, W1.cell? ⟨w.heap.size + 1, 1 + m, none⟩ = some x) ∧ W1.frozen? ⟨w.heap.size + 1, 1 + m, none⟩ = false ∧ FrI w (W1.setCell ⟨w.heap.size + 1, 1 + m, none⟩ (.slice (some ⟨wr.heap.size, 0, none⟩) (cnt m) (cnt m))) (m + 1) := by
  obtain ⟨h0, ⟨bs, h1, h2⟩, hb⟩ := h
  have hbl : Below wr.heap.size wr W1 := by rw [hW]; exact below1 _ _
  have g0 := h0.below hbl
  have g1 := h1.below hbl
  have hlen := h2.len
  have hrw : Row W1 wr.heap.size 41 (recL zeroB m) := by rw [hW]; exact Row.new wr _ _
  have hlt := h1.lt
  refine ⟨⟨bs[1 + m]'(by omega), by rw [g1.cell, List.getElem?_eq_getElem (by omega)]⟩, g1.frozen _, ?_⟩
  have hne : ∀ k, k ≠ w.heap.size + 1 → (W1.setCell ⟨w.heap.size + 1, 1 + m, none⟩ (.slice (some ⟨wr.heap.size, 0, none⟩) (cnt m) (cnt m))).heap[k]? = W1.heap[k]? := fun k hk => heap_set hk
  refine ⟨g0.same (hne _ (by omega)), ⟨_, g1.set _ _, ?_⟩, (below0 hb hbl).setCell (by simp only; omega) _⟩
  have h3 := (h2.below hbl).same (by simp) hne g1 (by decide)
  exact h3.set hm _ _ (by have := hb.size; omega) (hrw.same (hne _ (by omega)))
theorem FrI.last {w wr : World} (h : FrI w wr 8) (W1 : World) (hW : W1 = wr.alloc (.cells (greL zeroB).toArray 43)) :
    (∃ x, W1.cell? ⟨w.heap.size + 1, 9, none⟩ = some x) ∧ W1.frozen? ⟨w.heap.size + 1, 9, none⟩ = false ∧ ∃ bs : List Value, Hid ((W1.setCell ⟨w.heap.size + 1, 9, none⟩ (.slice (some ⟨wr.heap.size, 0, none⟩) 384 384)).rangeAt (w.heap.size + 1) 0 bs
      ∧ (Tryz.prog.info? 31).map (·.size) = some bs.length
      ∧ (W1.setCell ⟨w.heap.size + 1, 9, none⟩ (.slice (some ⟨wr.heap.size, 0, none⟩) 384 384)).there w.heap.size 0 bs.toArray.size
      ∧ (Tryz.prog.info? 31).map (·.size) = some bs.toArray.size
      ∧ bs.toArray.all (·.oneCell') = true
      ∧ (loadVar 31 ⟨w.heap.size, 0, none⟩).run Tryz.prog ((W1.setCell ⟨w.heap.size + 1, 9, none⟩ (.slice (some ⟨wr.heap.size, 0, none⟩) 384 384)).setCells w.heap.size 0 bs.toArray.toList) = .ok (.agg bs.toArray) ((W1.setCell ⟨w.heap.size + 1, 9, none⟩ (.slice (some ⟨wr.heap.size, 0, none⟩) 384 384)).setCells w.heap.size 0 bs.toArray.toList)
      ∧ FreshP w (.returned (.agg bs.toArray)) ((W1.setCell ⟨w.heap.size + 1, 9, none⟩ (.slice (some ⟨wr.heap.size, 0, none⟩) 384 384)).setCells w.heap.size 0 bs.toArray.toList)) := by
  obtain ⟨h0, ⟨bs, h1, h2⟩, hb⟩ := h
  have hbl : Below wr.heap.size wr W1 := by rw [hW]; exact below1 _ _
  have g0 := h0.below hbl
  have g1 := h1.below hbl
  have hlen := h2.len
  have hrw : Row W1 wr.heap.size 43 (greL zeroB) := by rw [hW]; exact Row.new wr _ _
  have hlt := h1.lt
  obtain ⟨nv, hnv⟩ : ∃ x, x = Value.slice (some ⟨wr.heap.size, 0, none⟩) 384 384 := ⟨_, rfl⟩
  have hn1 : nv.oneCell' = true := by rw [hnv]; rfl
  refine ⟨⟨bs[9]'(by omega), by rw [g1.cell, List.getElem?_eq_getElem (by omega)]⟩, g1.frozen _, bs.set 9 nv, Lib.hid ?_⟩
  rw [← hnv]
  obtain ⟨V2, hV2⟩ : ∃ V, V = W1.setCell ⟨w.heap.size + 1, 9, none⟩ nv := ⟨_, rfl⟩
  rw [← hV2]
  have hne : ∀ k, k ≠ w.heap.size + 1 → V2.heap[k]? = W1.heap[k]? := fun k hk => by rw [hV2]; exact heap_set hk
  have r0 := g0.same (hne _ (by omega))
  have r1 : Row V2 (w.heap.size + 1) 31 (bs.set 9 nv) := by rw [hV2]; exact g1.set _ _
  have rg := hrw.same (hne wr.heap.size (by omega))
  have rb : Below w.heap.size w V2 := by rw [hV2]; exact (below0 hb hbl).setCell (by simp only; omega) _
  have h3 := (h2.below hbl).same (by rw [hV2]; simp) hne g1 (by decide)
  have hl10 : (bs.set 9 nv).length = 10 := by rw [List.length_set, hlen]
  have h4 : Fr w.heap.size V2 (bs.set 9 nv) 8 := ⟨by rw [hnv]; exact Fr.new_set h3.new _ _ _ _ (by have := hb.size; omega) rg.lt, hl10, fun u hu => by
    rcases List.mem_or_eq_of_mem_set hu with hu | rfl
    · exact h2.one u hu
    · exact hn1, by rw [List.getElem?_set_ne (by omega)]; exact h2.opn, fun c hc => by
    obtain ⟨A, cap, e1, e2⟩ := h3.recs c hc
    exact ⟨A, cap, by rw [List.getElem?_set_ne (by omega)]; exact e1, e2⟩⟩
  have hne3 : ∀ k, k ≠ w.heap.size → (V2.setCells w.heap.size 0 (bs.set 9 nv).toArray.toList).heap[k]? = V2.heap[k]? := fun k hk => setCells_other hk _ _
  have hsz3 : V2.heap.size ≤ (V2.setCells w.heap.size 0 (bs.set 9 nv).toArray.toList).heap.size := (set_below w.heap.size w.heap.size (Nat.le_refl _) _ _ _ (Below.refl _ _)).size
  have r3 : Row (V2.setCells w.heap.size 0 (bs.set 9 nv).toArray.toList) w.heap.size 31 (bs.set 9 nv) := set_from (bs.set 9 nv) [] _ r0 (by rw [hl10]; rfl)
  have hgl := greL_len zeroB
  refine ⟨row_range r1, by rw [hl10]; exact bo_size, row_there r0 (by rw [List.size_toArray, hl10]; rfl), by rw [List.size_toArray, hl10]; exact bo_size, all_oneCell_toArray h4.one, run_loadVar_mid _ w.heap.size 0 _ (bs.set 9 nv) _ (row_range r3) Tryz.underlying31 rfl (by rw [hl10]; exact bo_size), ⟨_, rfl, h4.same hsz3 hne3 r0 (by decide), ⟨some ⟨wr.heap.size, 0, none⟩, 384, by rw [List.getElem?_set_self (by omega), hnv], ?_⟩, set_below w.heap.size _ (Nat.le_refl _) _ _ _ rb⟩⟩
  exact (rg.same (hne3 _ (by have := hb.size; have := h0.lt; omega))).sees
end Go.Proofs.YtiahmccchpmdgaaGreatDoor.Me

namespace Go.Proofs.YtiahmccchpmdgaaGreatDoor.Me
open Go.RowKit Go.Shelf
open Vm (Ask askCells askE Asks)
attribute [local go_sem] Oper.semAt_some

/- THE CODE's BOOKS: THERE, OWNED, PAYS, PAGES, ALL, OPEN, BARE. -/
abbrev boV (v : Value) (t : Int) : Value := .agg #[v, .int .i64 t]
section
variable {w : World} {v : Value} {V : Int → Option Vm.Bys} {n : Nat} {F : Nat → Prop}
theorem HasV.below {w' : World} (h : HasV w v V n F) (hb : Below w.heap.size w w') : HasV w' v V n F := by
  obtain ⟨b, t, q, l, p, F1, F2, rfl, hr, hp, rfl⟩ := h
  exact ⟨b, t, q, l, p, F1, F2, rfl, hr.below hb, hp, rfl⟩
theorem v_peek_zero (h : HasV w v V n F) : Calls Tryz.prog 94 #[v, .int .u32 0, .int .i64 0] w fun e w' => ∃ A c, e = .returned (.tuple #[.slice A 0 c, .int .i64 2]) ∧ Below w.heap.size w w' := by
  obtain ⟨b, t, q, l, p, F1, F2, rfl, hr, hp, rfl⟩ := h
  have hE : Vm.hndE l 0 0 = 2 := rfl
  have := Vm.peek_any hr 0 0 (by omega)
  rw [hE, if_neg (by decide)] at this
  exact this.mono fun e w' ⟨A, m, c, e1, e2, e3, e4⟩ => ⟨A, c, by subst e2; exact e1, e4⟩
theorem v_map_out (h : HasV w v V n F) : Calls Tryz.prog 59 #[v, .int .i64 (-1), .int .i64 (-1), .int .i64 63, .int .i64 0] w fun e w' => e = .returned (.int .i64 4) ∧ Below w.heap.size w w' := by
  obtain ⟨b, t, q, l, p, F1, F2, rfl, hr, hp, rfl⟩ := h
  have hE : Vm.mqE l (-1) (-1) 63 0 = 4 := rfl
  have := Vm.map_low hr (-1) (-1) 63 0 (by rw [hE]; decide)
  rw [hE] at this
  exact this
theorem there_has (h : HasV w v V n F) (t : Int) : Calls Tryz.prog 51 #[boV v t] w fun e w' => e = .returned (.bool true) ∧ Below w.heap.size w w' := by
  have h1 := Lib.hid (v_peek_zero (h.below (below1 w (.cells #[v, .int .i64 t] 117))))
  clear h
  go_enter Tryz.func51, Tryz.ntmps51
  go_wp2_with fail
  refine h1.out.mono ?_
  rintro e w1 ⟨A, c, rfl, hb1⟩
  go_wp2
  go_ret
  exact ⟨rfl, (below1 w _).trans (hb1.mono (by simp))⟩
theorem there_not (t : Int) : Calls Tryz.prog 51 #[boV (.pointer none) t] w fun e w' => e = .returned (.bool false) ∧ Below w.heap.size w w' := by
  have h1 := Lib.hid (Vm.peek_nil (w := w.alloc (.cells #[.pointer none, .int .i64 t] 117)) 0 0)
  rw [show ((0 : Nat) : Int) = 0 from rfl] at h1
  go_enter Tryz.func51, Tryz.ntmps51
  go_wp2_with fail
  refine h1.out.mono ?_
  rintro e w1 ⟨rfl, hb1⟩
  go_wp2
  go_ret
  exact ⟨rfl, (below1 w _).trans (hb1.mono (by simp))⟩
theorem owned_any (v : Value) (t : Int) (w : World) : Calls Tryz.prog 53 #[boV v t] w fun e w' => e = .returned (.bool (isB t 4)) ∧ Below w.heap.size w w' := by
  have h1 := Lib.hid (book_any t (w.alloc (.cells #[v, .int .i64 t] 117)))
  obtain ⟨a, ha⟩ : ∃ a, a = (if isB t 4 = true then 64 * t + 1 else 0) := ⟨_, rfl⟩
  obtain ⟨x, hx⟩ : ∃ x : Int, x = (if isB t 4 = true then 0 else 2) := ⟨_, rfl⟩
  rw [← ha, ← hx] at h1
  have hx2 : (x == 0) = isB t 4 := by
    rw [hx]
    cases isB t 4 <;> rfl
  rw [← hx2]
  clear ha hx hx2
  go_enter Tryz.func53, Tryz.ntmps53
  go_wp2_with fail
  refine h1.out.mono ?_
  rintro e w1 ⟨rfl, hb1⟩
  go_wp2
  go_ret
  exact ⟨rfl, (below1 w _).trans (hb1.mono (by simp))⟩
theorem pays_has (h : HasV w v V n F) (t : Int) : Calls Tryz.prog 54 #[boV v t, .int .i64 63] w fun e w' => e = .returned (.bool true) ∧ Below w.heap.size w w' := by
  have h1 := Lib.hid (v_map_out (h.below (below1 w (.cells #[v, .int .i64 t] 117))))
  clear h
  go_enter Tryz.func54, Tryz.ntmps54
  go_wp2_with fail
  refine h1.out.mono ?_
  rintro e w1 ⟨rfl, hb1⟩
  go_wp2
  go_ret
  exact ⟨rfl, (below1 w _).trans (hb1.mono (by simp))⟩
end
end Go.Proofs.YtiahmccchpmdgaaGreatDoor.Me

namespace Go.Proofs.YtiahmccchpmdgaaGreatDoor.Me
open Go.RowKit Go.Shelf
attribute [local go_sem] Oper.semAt_some

/- A BOOK's PAGES. -/
def pgP (k m : Nat) : List Value := (List.range 48).map fun j => .int .i64 (if j < m then (((64 * k + 1 + j) : Nat) : Int) else 0)
theorem pgP_len (k m : Nat) : (pgP k m).length = 48 := by simp [pgP]
theorem pgP_zero (k : Nat) : pgP k 0 = [Value.int IntKind.i64 0, Value.int IntKind.i64 0, Value.int IntKind.i64 0, Value.int IntKind.i64 0, Value.int IntKind.i64 0, Value.int IntKind.i64 0, Value.int IntKind.i64 0, Value.int IntKind.i64 0, Value.int IntKind.i64 0, Value.int IntKind.i64 0, Value.int IntKind.i64 0, Value.int IntKind.i64 0, Value.int IntKind.i64 0, Value.int IntKind.i64 0, Value.int IntKind.i64 0, Value.int IntKind.i64 0, Value.int IntKind.i64 0, Value.int IntKind.i64 0, Value.int IntKind.i64 0, Value.int IntKind.i64 0, Value.int IntKind.i64 0, Value.int IntKind.i64 0, Value.int IntKind.i64 0, Value.int IntKind.i64 0, Value.int IntKind.i64 0, Value.int IntKind.i64 0, Value.int IntKind.i64 0, Value.int IntKind.i64 0, Value.int IntKind.i64 0, Value.int IntKind.i64 0, Value.int IntKind.i64 0, Value.int IntKind.i64 0, Value.int IntKind.i64 0, Value.int IntKind.i64 0, Value.int IntKind.i64 0, Value.int IntKind.i64 0, Value.int IntKind.i64 0, Value.int IntKind.i64 0, Value.int IntKind.i64 0, Value.int IntKind.i64 0, Value.int IntKind.i64 0, Value.int IntKind.i64 0, Value.int IntKind.i64 0, Value.int IntKind.i64 0, Value.int IntKind.i64 0, Value.int IntKind.i64 0, Value.int IntKind.i64 0, Value.int IntKind.i64 0] := rfl
theorem pgP_get (k m : Nat) {j : Nat} (h : j < 48) : (pgP k m)[j]? = some (.int .i64 (if j < m then (((64 * k + 1 + j) : Nat) : Int) else 0)) := by
  unfold pgP
  rw [List.getElem?_map, List.getElem?_range h]
  rfl
theorem pgP_set (k m : Nat) (_h : m < 48) : (pgP k m).set m (.int .i64 (((64 * k + 1 + m) : Nat) : Int)) = pgP k (m + 1) := by
  refine List.ext_getElem? fun j => ?_
  by_cases h : j < 48
  · rw [pgP_get k (m + 1) h]
    by_cases hj : m = j
    · subst hj
      rw [List.getElem?_set_self (by rw [pgP_len]; exact h), if_pos (by omega)]
    · rw [List.getElem?_set_ne hj, pgP_get k m h]
      by_cases hl : j < m
      · rw [if_pos hl, if_pos (by omega)]
      · rw [if_neg hl, if_neg (by omega)]
  · rw [List.getElem?_eq_none (by rw [List.length_set, pgP_len]; omega), List.getElem?_eq_none (by rw [pgP_len]; omega)]
abbrev pgC (k : Nat) : List Value := pgP k 48
theorem pg_one (k m : Nat) : ∀ u ∈ pgP k m, u.oneCell' = true := by
  intro u hu
  unfold pgP at hu
  rw [List.mem_map] at hu
  obtain ⟨j, _, rfl⟩ := hu
  rfl
theorem pg_info : (Tryz.prog.info? 118).map (·.size) = some 48 := by kernel_rfl
theorem pgint_info : (Tryz.prog.info? 3).map (fun i => (i.zero, i.size, i.bytes)) = some (some (.int .i64 0), 1, 8) := by kernel_rfl
theorem pg_index (k : Nat) {j : Nat} (h : j < 48) (w : World) :
    (Instr.index 118 (.agg (pgC k).toArray) (.int .i64 (j : Int))).run Tryz.prog w = .ok (.int .i64 (((64 * k + 1 + j) : Nat) : Int)) w := by
  obtain ⟨i0, hi, hz0, hz1, hz2⟩ := info_parts pgint_info
  have h64 := pgP_len k 48
  have hg := pgP_get k 48 h
  rw [if_pos h] at hg
  obtain ⟨hl, he⟩ := List.getElem?_eq_some_iff.1 hg
  simp [Instr.index, run_underlying Tryz.underlying118, run_underlying Tryz.underlying3, asIntOf, sizeOf, typeInfo, hi, hz1, part, isAgg, go_sem, h64, h, he]
/-- while the pages are laid -/
def PI (w : World) (k g m : Nat) (V : World) : Prop := Row V (w.heap.size + 1) 118 (pgP k 0) ∧ Row V g 118 (pgP k m) ∧ w.heap.size + 1 < g ∧ Below w.heap.size w V
theorem PI.step {w V : World} {k g m : Nat} (h : PI w k g m V) (hm : m < 48) : PI w k g (m + 1) (V.setCell ⟨g, m, none⟩ (.int .i64 (((64 * k + 1 + m) : Nat) : Int))) := by
  obtain ⟨h1, h2, h3, h4⟩ := h
  refine ⟨h1.same (heap_set (by omega)), ?_, h3, h4.setCell (by simp only; omega) _⟩
  rw [← pgP_set k m hm]
  exact h2.set m _
theorem PI.last {w V : World} {k g : Nat} (h : PI w k g 48 V) : Hid (V.rangeAt g 0 (pgC k) ∧ (Tryz.prog.info? 118).map (·.size) = some (pgC k).length ∧ V.there (w.heap.size + 1) 0 (pgC k).toArray.size ∧ (Tryz.prog.info? 118).map (·.size) = some (pgC k).toArray.size
    ∧ (pgC k).toArray.all (·.oneCell') = true ∧ (loadVar 118 ⟨w.heap.size + 1, 0, none⟩).run Tryz.prog (V.setCells (w.heap.size + 1) 0 (pgC k).toArray.toList) = .ok (.agg (pgC k).toArray) (V.setCells (w.heap.size + 1) 0 (pgC k).toArray.toList)
    ∧ Below w.heap.size w (V.setCells (w.heap.size + 1) 0 (pgC k).toArray.toList)) := by
  obtain ⟨h1, h2, h3, h4⟩ := h
  have r3 : Row (V.setCells (w.heap.size + 1) 0 (pgC k).toArray.toList) (w.heap.size + 1) 118 (pgC k) := set_from (pgC k) [] _ h1 ((pgP_len k 0).trans (pgP_len k 48).symm)
  exact Lib.hid ⟨row_range h2, by rw [pgP_len]; exact pg_info, row_there h1 (by rw [List.size_toArray]; exact (pgP_len k 48).trans (pgP_len k 0).symm), by rw [List.size_toArray, pgP_len]; exact pg_info, all_oneCell_toArray (pg_one k 48),
    run_loadVar_mid _ (w.heap.size + 1) 0 _ (pgC k) _ (row_range r3) Tryz.underlying118 rfl (by rw [pgP_len]; exact pg_info), set_below (w.heap.size + 1) _ (by omega) _ _ _ h4⟩
set_option maxRecDepth 100000 in
set_option maxHeartbeats 2000000 in
theorem pages_any (v : Value) (k : Nat) (w : World) (hk : k < 4) : Calls Tryz.prog 58 #[boV v (k : Int)] w fun e w' => e = .returned (.agg (pgC k).toArray) ∧ Below w.heap.size w w' := by
  have h1 := Lib.hid (fun W => Wn.book_yes k W hk)
  have HSTEP := Lib.hid (fun V g m h hm => PI.step (w := w) (k := k) (V := V) (g := g) (m := m) h hm)
  have HLAST := Lib.hid (fun V g h => PI.last (w := w) (k := k) (V := V) (g := g) h)
  have HZ := Lib.hid (pgP_zero k)
  obtain ⟨q, hq⟩ : ∃ q, q = 64 * k + 1 := ⟨_, rfl⟩
  rw [← hq] at h1
  have HQ := Lib.hid (show q = 64 * k + 1 ∧ q < 1000 from ⟨hq, by omega⟩)
  clear hk hq
  go_enter Tryz.func58, Tryz.ntmps58
  go_wp2_with fail
  refine (h1.out _).mono ?_
  rintro e w1 ⟨rfl, hb1⟩
  have HI0 : Hid (PI w k w1.heap.size 0 (w1.alloc (.cells #[Value.int IntKind.i64 0, Value.int IntKind.i64 0, Value.int IntKind.i64 0, Value.int IntKind.i64 0, Value.int IntKind.i64 0, Value.int IntKind.i64 0, Value.int IntKind.i64 0, Value.int IntKind.i64 0, Value.int IntKind.i64 0, Value.int IntKind.i64 0, Value.int IntKind.i64 0, Value.int IntKind.i64 0, Value.int IntKind.i64 0, Value.int IntKind.i64 0, Value.int IntKind.i64 0, Value.int IntKind.i64 0, Value.int IntKind.i64 0, Value.int IntKind.i64 0, Value.int IntKind.i64 0, Value.int IntKind.i64 0, Value.int IntKind.i64 0, Value.int IntKind.i64 0, Value.int IntKind.i64 0, Value.int IntKind.i64 0, Value.int IntKind.i64 0, Value.int IntKind.i64 0, Value.int IntKind.i64 0, Value.int IntKind.i64 0, Value.int IntKind.i64 0, Value.int IntKind.i64 0, Value.int IntKind.i64 0, Value.int IntKind.i64 0, Value.int IntKind.i64 0, Value.int IntKind.i64 0, Value.int IntKind.i64 0, Value.int IntKind.i64 0, Value.int IntKind.i64 0, Value.int IntKind.i64 0, Value.int IntKind.i64 0, Value.int IntKind.i64 0, Value.int IntKind.i64 0, Value.int IntKind.i64 0, Value.int IntKind.i64 0, Value.int IntKind.i64 0, Value.int IntKind.i64 0, Value.int IntKind.i64 0, Value.int IntKind.i64 0, Value.int IntKind.i64 0] 118))) := by
    have hs := hb1.size
    simp only [World.size_alloc] at hs
    refine Lib.hid ⟨?_, ?_, by omega, ((((Below.refl _ _).alloc (Nat.le_refl _) _).alloc (by simp) _).trans (hb1.mono (by simp; omega))).alloc (by omega) _⟩
    · rw [HZ.out]
      exact ((Row.new_at _ _ _ (by simp)).below hb1).below (below1 _ _)
    · rw [HZ.out]
      exact Row.new _ _ _
  obtain ⟨g, hg⟩ : ∃ g, g = w1.heap.size := ⟨_, rfl⟩
  have HGE := Lib.hid hg
  rw [← hg] at HI0
  clear hg hb1 h1
  go_wp2_with fail
  rw [← HGE.out]
  go_loopw [13] (fun s V => ∃ m : Nat, s = .int .i64 (m : Int) ∧ m ≤ 48 ∧ Hid (PI w k g m V)) (fun s _ => 48 - (intOf s).toNat)
  case atStart => exact ⟨0, rfl, Nat.zero_le _, HI0⟩
  case round =>
    obtain ⟨m, rfl, hm, HI⟩ := hrel
    by_cases h8 : m < 48
    · have d0 : decide ((m : Int) < 48) = true := decide_eq_true (by omega)
      have a1 : IntKind.i64.wrap ((m : Int) + 1) = ((m + 1 : Nat) : Int) := (wrapI _ (by omega) (by omega)).trans (by omega)
      obtain ⟨hk4, hk5⟩ := HQ.out
      have a2 : IntKind.i64.wrap ((q : Int) + (m : Int)) = (((64 * k + 1 + m) : Nat) : Int) := (wrapI _ (by omega) (by omega)).trans (by omega)
      obtain ⟨p, hp⟩ : ∃ p, p = 64 * k + 1 + m := ⟨_, rfl⟩
      have HS := Lib.hid (HSTEP.out _ _ _ HI.out h8)
      rw [← hp] at a2 HS
      have hx : ∃ x, wr.cell? ⟨g, m, none⟩ = some x := ⟨_, (HI.out.2.1.cell m).trans (pgP_get k m h8)⟩
      obtain ⟨x, hx⟩ := hx
      have hf : wr.frozen? ⟨g, m, none⟩ = false := HI.out.2.1.frozen m
      have hm48 : m < 48 := h8
      clear hp HI HI0 hk4 hk5
      go_wp2
      refine ⟨⟨m + 1, rfl, by omega, HS⟩, ?_⟩
      show 48 - ((m : Int) + 1).toNat < 48 - ((m : Int)).toNat
      omega
    · have d0 : decide ((m : Int) < 48) = false := decide_eq_false (by omega)
      obtain rfl : m = 48 := by omega
      have HL := HLAST.out _ _ HI.out
      obtain ⟨bs, hbs⟩ : ∃ bs, bs = pgC k := ⟨_, rfl⟩
      rw [← hbs] at HL
      have HBS := Lib.hid hbs
      clear hbs HI HI0
      go_wp2_with (first | refine wpList_load_mid rfl 118 (.tmp 5) rfl g 0 rfl bs _ HL.out.1 Tryz.underlying118 rfl HL.out.2.1 ?_ | refine wpList_store_mid rfl 118 (.tmp 2) (.tmp 22) rfl (w.heap.size + 1) 0 bs.toArray rfl rfl HL.out.2.2.1 HL.out.2.2.2.1 HL.out.2.2.2.2.1 ?_)
      exact bodyPost_ret (res_cell1 Tryz.results58 rfl HL.out.2.2.2.2.2.1) rfl ⟨by rw [HBS.out], HL.out.2.2.2.2.2.2⟩
end Go.Proofs.YtiahmccchpmdgaaGreatDoor.Me

namespace Go.Proofs.YtiahmccchpmdgaaGreatDoor.Me
open Go.RowKit Go.Shelf
attribute [local go_sem] Oper.semAt_some

/- EACH PAGE OF A BOOK. -/
theorem bare1_any (x y i : Int) (b : Bool) (w : World) : Calls Tryz.prog 97 #[.agg #[.int .i64 x, .int .i64 y, .int .i64 i], .bool b] w fun e w' => e = .returned (.bool (!b)) ∧ Below w.heap.size w w' := by
  go_enter Tryz.func97, Tryz.ntmps97
  go_wp2
  go_ret
  exact ⟨rfl, below1 _ _⟩
theorem open1_any (x y i : Int) (b : Bool) (w : World) (h : b = true → x = -1) : Calls Tryz.prog 162 #[.agg #[.int .i64 x, .int .i64 y, .int .i64 i], .bool b] w fun e w' => e = .returned (.bool b) ∧ Below w.heap.size w w' := by
  cases b
  · clear h
    go_enter Tryz.func162, Tryz.ntmps162
    go_wp2
    go_ret
    exact ⟨rfl, below1 _ _⟩
  · obtain rfl := h rfl
    clear h
    go_enter Tryz.func162, Tryz.ntmps162
    go_wp2
    go_ret
    exact ⟨rfl, below1 _ _⟩
section
variable {w : World} {v : Value} {V : Int → Option Vm.Bys} {n : Nat} {F : Nat → Prop}
set_option maxRecDepth 100000 in
set_option maxHeartbeats 2000000 in
theorem all_true (h : HasV w v V n F) (k cf : Nat) (o r : Bool) (hk : k < 4) (hV : ∀ j, j < 48 → (V (((64 * k + 1 + j) : Nat) : Int)).isSome = o) (eg : ∀ args w, (callFunc cf args).run Tryz.prog w = .ok (.enter cf args) w)
    (HC : ∀ (x y i : Int) (W : World), (o = true → x = -1) → Calls Tryz.prog cf #[.agg #[.int .i64 x, .int .i64 y, .int .i64 i], .bool o] W fun e w' => e = .returned (.bool true) ∧ Below W.heap.size W w') (hr : r = true) :
    Calls Tryz.prog 96 #[boV v (k : Int), .func (.func cf) #[] #[]] w fun e w' => e = .returned (.bool r) ∧ Below w.heap.size w w' := by
  subst hr
  have HP := Lib.hid (fun W => pages_any v k W hk)
  have HG := Lib.hid (fun W (hb : Below w.heap.size w W) (j : Nat) (hj : j < 48) => v_get (h.below hb) (((64 * k + 1 + j) : Nat) : Int) (by unfold Pg.I64; omega))
  have HV := Lib.hid hV
  have HCC := Lib.hid HC
  have HIX := Lib.hid (fun j (hj : j < 48) W => pg_index k hj W)
  obtain ⟨A, hA⟩ : ∃ A, A = pgC k := ⟨_, rfl⟩
  rw [← hA] at HP HIX
  clear hV HC h hA hk
  go_enter Tryz.func96, Tryz.ntmps96
  go_wp2_with fail
  refine (HP.out _).mono ?_
  rintro e w1 ⟨rfl, hb1⟩
  have HB1 := Lib.hid ((below1 w (.cells #[v, .int .i64 (k : Int)] 117)).trans (hb1.mono (by simp)))
  have HR1 := Lib.hid ((Row.new w 117 [v, .int .i64 (k : Int)]).below hb1)
  clear hb1 HP
  go_wp2_with fail
  go_loopw [9] (fun s W => ∃ m : Nat, s = .int .i64 (m : Int) ∧ m ≤ 48 ∧ Below w.heap.size w W ∧ Hid (Row W w.heap.size 117 [v, .int .i64 (k : Int)])) (fun s _ => 48 - (intOf s).toNat)
  case atStart => exact ⟨0, rfl, Nat.zero_le _, HB1.out, HR1⟩
  case round =>
    obtain ⟨m, rfl, hm, hbw, HR⟩ := hrel
    by_cases h8 : m < 48
    · have d0 : decide ((m : Int) < 48) = true := decide_eq_true (by omega)
      have a1 : IntKind.i64.wrap ((m : Int) + 1) = ((m + 1 : Nat) : Int) := (wrapI _ (by omega) (by omega)).trans (by omega)
      have hix := HIX.out m h8
      have HGG := Lib.hid (fun W (hb : Below w.heap.size w W) => HG.out W hb m h8)
      rw [HV.out m h8] at HGG
      obtain ⟨p, hp⟩ : ∃ p, p = 64 * k + 1 + m := ⟨_, rfl⟩
      rw [← hp] at hix HGG
      have c0 : wr.cell? ⟨w.heap.size, 0, none⟩ = _ := HR.out.cell 0
      have HBW := Lib.hid hbw
      clear hp hbw HB1 HR1 HG HIX HV
      go_wp2_with fail
      refine (HGG.out _ HBW.out).mono ?_
      rintro e w2 ⟨x, y, i, rfl, hx, hb2⟩
      have HB2 := Lib.hid (below0 HBW.out hb2)
      have HR2 := Lib.hid (HR.out.below hb2)
      have HX := Lib.hid hx
      clear hx hb2 HBW HR c0
      go_wp2_with fail
      refine (HCC.out x y i _ HX.out).mono ?_
      rintro e w3 ⟨rfl, hb3⟩
      have HB3 := Lib.hid (below0 HB2.out hb3)
      have HR3 := Lib.hid (HR2.out.below hb3)
      clear hb3 HB2 HR2 HX
      go_wp2
      refine ⟨⟨m + 1, rfl, by omega, HB3.out, HR3⟩, ?_⟩
      show 48 - ((m : Int) + 1).toNat < 48 - ((m : Int)).toNat
      omega
    · have d0 : decide ((m : Int) < 48) = false := decide_eq_false (by omega)
      have HBW := Lib.hid hbw
      clear hbw
      go_wp2
      go_ret
      exact ⟨rfl, HBW.out⟩
set_option maxRecDepth 100000 in
set_option maxHeartbeats 2000000 in
theorem all_false (h : HasV w v V n F) (k cf : Nat) (o r : Bool) (hk : k < 4) (hV : ∀ j, j < 48 → (V (((64 * k + 1 + j) : Nat) : Int)).isSome = o) (eg : ∀ args w, (callFunc cf args).run Tryz.prog w = .ok (.enter cf args) w)
    (HC : ∀ (x y i : Int) (W : World), (o = true → x = -1) → Calls Tryz.prog cf #[.agg #[.int .i64 x, .int .i64 y, .int .i64 i], .bool o] W fun e w' => e = .returned (.bool false) ∧ Below W.heap.size W w') (hr : r = false) :
    Calls Tryz.prog 96 #[boV v (k : Int), .func (.func cf) #[] #[]] w fun e w' => e = .returned (.bool r) ∧ Below w.heap.size w w' := by
  subst hr
  have HP := Lib.hid (fun W => pages_any v k W hk)
  have HG := Lib.hid (fun W (hb : Below w.heap.size w W) (j : Nat) (hj : j < 48) => v_get (h.below hb) (((64 * k + 1 + j) : Nat) : Int) (by unfold Pg.I64; omega))
  have HV := Lib.hid hV
  have HCC := Lib.hid HC
  have HIX := Lib.hid (fun j (hj : j < 48) W => pg_index k hj W)
  obtain ⟨A, hA⟩ : ∃ A, A = pgC k := ⟨_, rfl⟩
  rw [← hA] at HP HIX
  clear hV HC h hA hk
  go_enter Tryz.func96, Tryz.ntmps96
  go_wp2_with fail
  refine (HP.out _).mono ?_
  rintro e w1 ⟨rfl, hb1⟩
  have HB1 := Lib.hid ((below1 w (.cells #[v, .int .i64 (k : Int)] 117)).trans (hb1.mono (by simp)))
  have HR1 := Lib.hid ((Row.new w 117 [v, .int .i64 (k : Int)]).below hb1)
  clear hb1 HP
  go_wp2_with fail
  go_loopw [9] (fun s W => ∃ m : Nat, s = .int .i64 (m : Int) ∧ m < 48 ∧ Below w.heap.size w W ∧ Hid (Row W w.heap.size 117 [v, .int .i64 (k : Int)])) (fun s _ => 48 - (intOf s).toNat)
  case atStart => exact ⟨0, rfl, by omega, HB1.out, HR1⟩
  case round =>
    obtain ⟨m, rfl, hm, hbw, HR⟩ := hrel
    by_cases h8 : m < 48
    · have d0 : decide ((m : Int) < 48) = true := decide_eq_true (by omega)
      have a1 : IntKind.i64.wrap ((m : Int) + 1) = ((m + 1 : Nat) : Int) := (wrapI _ (by omega) (by omega)).trans (by omega)
      have hix := HIX.out m h8
      have HGG := Lib.hid (fun W (hb : Below w.heap.size w W) => HG.out W hb m h8)
      rw [HV.out m h8] at HGG
      obtain ⟨p, hp⟩ : ∃ p, p = 64 * k + 1 + m := ⟨_, rfl⟩
      rw [← hp] at hix HGG
      have c0 : wr.cell? ⟨w.heap.size, 0, none⟩ = _ := HR.out.cell 0
      have HBW := Lib.hid hbw
      clear hp hbw HB1 HR1 HG HIX HV
      go_wp2_with fail
      refine (HGG.out _ HBW.out).mono ?_
      rintro e w2 ⟨x, y, i, rfl, hx, hb2⟩
      have HB2 := Lib.hid (below0 HBW.out hb2)
      have HR2 := Lib.hid (HR.out.below hb2)
      have HX := Lib.hid hx
      clear hx hb2 HBW HR c0
      go_wp2_with fail
      refine (HCC.out x y i _ HX.out).mono ?_
      rintro e w3 ⟨rfl, hb3⟩
      have HB3 := Lib.hid (below0 HB2.out hb3)
      have HR3 := Lib.hid (HR2.out.below hb3)
      clear hb3 HB2 HR2 HX
      go_wp2
      go_ret
      exact ⟨rfl, HB3.out⟩
    · exact absurd hm h8
set_option maxHeartbeats 1000000 in
theorem open_has (h : HasV w v V n F) (k : Nat) (o : Bool) (hk : k < 4) (hV : ∀ j, j < 48 → (V (((64 * k + 1 + j) : Nat) : Int)).isSome = o) : Calls Tryz.prog 79 #[boV v (k : Int)] w fun e w' => e = .returned (.bool (o)) ∧ Below w.heap.size w w' := by
  have hb := below1 w (.cells #[v, .int .i64 (k : Int)] 117)
  have H1 : Calls Tryz.prog 96 #[boV v (k : Int), .func (.func 162) #[] #[]] (w.alloc (.cells #[v, .int .i64 (k : Int)] 117)) fun e w' => e = .returned (.bool (o)) ∧ Below (w.heap.size + 1) (w.alloc (.cells #[v, .int .i64 (k : Int)] 117)) w' := by
    have hv := h.below hb
    have hw : (w.alloc (.cells #[v, .int .i64 (k : Int)] 117)).heap.size = w.heap.size + 1 := by simp
    rw [← hw]
    have eg := enters_of Tryz.func162 (by kernel_rfl) rfl
    cases o
    · exact all_false hv k _ false false hk hV eg (fun x y i W hx => open1_any x y i false W hx) rfl
    · exact all_true hv k _ true true hk hV eg (fun x y i W hx => open1_any x y i true W hx) rfl
  have H1 := Lib.hid H1
  obtain ⟨r, hr⟩ : ∃ r, r = (o) := ⟨_, rfl⟩
  rw [← hr] at H1 ⊢
  clear h hV hr hk hb
  go_enter Tryz.func79, Tryz.ntmps79
  go_wp2_with fail
  refine H1.out.mono ?_
  rintro e w1 ⟨rfl, hb1⟩
  go_wp2
  go_ret
  exact ⟨rfl, (below1 w _).trans (hb1.mono (by omega))⟩
set_option maxHeartbeats 1000000 in
theorem bare_has (h : HasV w v V n F) (k : Nat) (o : Bool) (hk : k < 4) (hV : ∀ j, j < 48 → (V (((64 * k + 1 + j) : Nat) : Int)).isSome = o) : Calls Tryz.prog 55 #[boV v (k : Int)] w fun e w' => e = .returned (.bool (!o)) ∧ Below w.heap.size w w' := by
  have hb := below1 w (.cells #[v, .int .i64 (k : Int)] 117)
  have H1 : Calls Tryz.prog 96 #[boV v (k : Int), .func (.func 97) #[] #[]] (w.alloc (.cells #[v, .int .i64 (k : Int)] 117)) fun e w' => e = .returned (.bool (!o)) ∧ Below (w.heap.size + 1) (w.alloc (.cells #[v, .int .i64 (k : Int)] 117)) w' := by
    have hv := h.below hb
    have hw : (w.alloc (.cells #[v, .int .i64 (k : Int)] 117)).heap.size = w.heap.size + 1 := by simp
    rw [← hw]
    have eg := enters_of Tryz.func97 (by kernel_rfl) rfl
    cases o
    · exact all_true hv k _ false true hk hV eg (fun x y i W hx => bare1_any x y i false W) rfl
    · exact all_false hv k _ true false hk hV eg (fun x y i W hx => bare1_any x y i true W) rfl
  have H1 := Lib.hid H1
  obtain ⟨r, hr⟩ : ∃ r, r = (!o) := ⟨_, rfl⟩
  rw [← hr] at H1 ⊢
  clear h hV hr hk hb
  go_enter Tryz.func55, Tryz.ntmps55
  go_wp2_with fail
  refine H1.out.mono ?_
  rintro e w1 ⟨rfl, hb1⟩
  go_wp2
  go_ret
  exact ⟨rfl, (below1 w _).trans (hb1.mono (by omega))⟩
end
end Go.Proofs.YtiahmccchpmdgaaGreatDoor.Me
