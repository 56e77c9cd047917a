import Derived.Test.YtglfcfepgjldfaaFL
namespace Go.Proofs.Ytglfcfepgjldfaa.Fe
open Go.RowKit Go.Shelf
attribute [local go_sem] Oper.semAt_some

/- CALLS THAT CAME IN; THE LAW's STATE: A FEED, THE DOCUMENT's OF THE SAME, THE BYTES THAT IT WAS MADE OF. -/
theorem add_off (a : Addr) (m j : Nat) (hj : j ≠ 0) : a.add (m + j) = ⟨(a.add m).block, (a.add m).off + j, none⟩ := by
  unfold Addr.add
  rw [if_neg (by omega)]
  split
  · rename_i h; subst h; simp
  · simp; omega
structure Acs (w : World) (l : List Ac) (A : Option Addr) : Prop where
  sees : Sees w w.heap.size A (l.flatMap Ac.cells)
  fits : ∀ x ∈ l, x.fits
theorem Acs.below {w w' : World} {l : List Ac} {A : Option Addr} (h : Acs w l A) (hb : Below w.heap.size w w') : Acs w' l A := ⟨(h.sees.below hb).more hb.size, h.fits⟩
theorem acs_get : ∀ (l : List Ac) (k j : Nat) (hk : k < l.length), j < 2 → (l.flatMap Ac.cells)[k * 2 + j]? = l[k].cells[j]?
  | [], k, _, h, _ => by simp at h
  | x :: r, 0, j, _, hj => by
    rw [List.flatMap_cons, Nat.zero_mul, Nat.zero_add, List.getElem?_append_left (by show j < 2; exact hj)]
    rfl
  | x :: r, k + 1, j, h, hj => by
    have := acs_get r k j (by simpa using h) hj
    rw [List.flatMap_cons, List.getElem?_append_right (by show 2 ≤ _; omega), show (k + 1) * 2 + j - x.cells.length = k * 2 + j by show (k + 1) * 2 + j - 2 = _; omega]
    exact this
structure AtAc (w : World) (ad : Addr) (x : Ac) : Prop where
  c0 : w.cell? ad = some (.int .i64 x.what)
  c1 : w.cell? ⟨ad.block, ad.off + 1, none⟩ = some (.int .i64 x.n)
theorem Acs.at_ {w : World} {l : List Ac} {A : Option Addr} (h : Acs w l A) (k : Nat) (hk : k < l.length) :
    ∃ ad, A = some ad ∧ AtAc w (ad.add (k * 2)) l[k] ∧ ∀ V, Below w.heap.size w V → AtAc V (ad.add (k * 2)) l[k] := by
  have hne : l.flatMap Ac.cells ≠ [] := fun e => by
    have := acs_get l k 0 hk (by omega)
    rw [e] at this
    simp [Ac.cells] at this
  obtain ⟨ad, hA, hlt, hc⟩ := h.sees hne
  have g : ∀ j, j < 2 → w.cell? (ad.add (k * 2 + j)) = l[k].cells[j]? := fun j hj => by
    have h1 := acs_get l k j hk hj
    rw [← h1]
    cases hx : (l.flatMap Ac.cells)[k * 2 + j]? with
    | some u => exact hc _ _ hx
    | none =>
      rw [h1] at hx
      have : j < l[k].cells.length := hj
      rw [List.getElem?_eq_getElem this] at hx
      cases hx
  have h0 : AtAc w (ad.add (k * 2)) l[k] := by
    refine ⟨g 0 (by omega), ?_⟩
    rw [← add_off ad (k * 2) 1 (by decide)]
    exact g 1 (by omega)
  have hbk : (ad.add (k * 2)).block = ad.block := add_block _ _
  refine ⟨ad, hA, h0, fun V hb => ⟨?_, ?_⟩⟩
  · exact (hb.cell (by rw [hbk]; exact hlt)).trans h0.c0
  · exact (hb.cell (by show (ad.add (k * 2)).block < _; rw [hbk]; exact hlt)).trans h0.c1
/-- bytes in a block of their own, behind them 77 -/
def BR (V : World) (g n : Nat) : Prop := ∃ cs, Row V g 5 cs ∧ (∀ j, j < n → ∃ z : Int, cs[j]? = some (.int .u8 z)) ∧ cs[n]? = some (.int .u8 77)
theorem BR.lt {V : World} {g n : Nat} (h : BR V g n) : g < V.heap.size := by
  obtain ⟨cs, h1, _⟩ := h
  exact h1.lt
theorem BR.same {V V' : World} {g n : Nat} (h : BR V g n) (hb : V'.heap[g]? = V.heap[g]?) : BR V' g n := by
  obtain ⟨cs, h1, h2⟩ := h
  exact ⟨cs, h1.same hb, h2⟩
theorem BR.set {V : World} {g n j : Nat} (h : BR V g n) (hj : j < n) (z : Int) : BR (V.setCell ⟨g, j, none⟩ (.int .u8 z)) g n := by
  obtain ⟨cs, h1, h2, h3⟩ := h
  refine ⟨cs.set j (.int .u8 z), h1.set j _, fun i hi => ?_, ?_⟩
  · by_cases e : i = j
    · subst e
      obtain ⟨y, hy⟩ := h2 i hi
      exact ⟨z, by rw [List.getElem?_set_self (List.getElem?_eq_some_iff.1 hy).1]⟩
    · obtain ⟨y, hy⟩ := h2 i hi
      exact ⟨y, by rw [List.getElem?_set_ne (fun h => e h.symm)]; exact hy⟩
  · rw [List.getElem?_set_ne (by omega)]
    exact h3
/-- the law's state -/
structure PS (Has : HasT) (w : World) (g0 n : Nat) (v : Value) (l : List UInt8) (p : Nat) (V : World) : Prop where
  ex : ∃ F, Has V v l p F ∧ ∀ k, F k → w.heap.size ≤ k ∧ k ≠ g0
  row : BR V g0 n
  ge : w.heap.size ≤ g0
  below : Below w.heap.size w V
/-- a feed apart from some blocks -/
structure QS (Has : HasT) (w : World) (X : Nat → Prop) (v : Value) (l : List UInt8) (p : Nat) (V : World) : Prop where
  ex : ∃ F, Has V v l p F ∧ ∀ k, F k → w.heap.size ≤ k ∧ ¬ X k
  below : Below w.heap.size w V
def X2 (g0 gw k : Nat) : Prop := k = g0 ∨ k = gw
def X3 (g0 gw bo k : Nat) : Prop := k = g0 ∨ k = gw ∨ k = bo
structure PB (Has : HasT) (w : World) (g0 gw n : Nat) (v : Value) (l : List UInt8) (p : Nat) (V : World) : Prop where
  qs : QS Has w (X2 g0 gw) v l p V
  row : BR V g0 n
  ge : w.heap.size ≤ g0 ∧ w.heap.size ≤ gw
  box : Row V gw 28 (fc l p)
section
variable {Has : HasT} (H : Api Has) {w V V' : World} {X Y : Nat → Prop} {g0 gw bo n : Nat} {v v' : Value} {l : List UInt8} {p q : Nat}
theorem QS.weak (h : QS Has w X v l p V) (hy : ∀ k, Y k → X k) : QS Has w Y v l p V := by
  obtain ⟨⟨F, h1, h2⟩, h3⟩ := h
  exact ⟨⟨F, h1, fun k hk => ⟨(h2 k hk).1, fun hx => (h2 k hk).2 (hy k hx)⟩⟩, h3⟩
theorem PB.apart (h : PB Has w g0 gw n v l p V) : g0 ≠ gw := by
  rintro rfl
  obtain ⟨cs, hr, _⟩ := h.row
  have := hr.symm.trans h.box
  injection this with this
  injection this with _ e
  exact absurd e (by decide)
include H
theorem PS.more (h : PS Has w g0 n v l p V) (hb : Below V.heap.size V V') : PS Has w g0 n v l p V' := by
  obtain ⟨⟨F, h1, h2⟩, h3, h4, h5⟩ := h
  exact ⟨⟨F, H.below h1 hb, h2⟩, h3.same (hb.block _ h3.lt), h4, below0 h5 hb⟩
/-- one of the bytes is written over -/
theorem PS.set (h : PS Has w g0 n v l p V) {j : Nat} (hj : j < n) (z : Int) : PS Has w g0 n v l p (V.setCell ⟨g0, j, none⟩ (.int .u8 z)) := by
  obtain ⟨⟨F, h1, h2⟩, h3, h4, h5⟩ := h
  exact ⟨⟨F, H.keep h1 (fun k hk => heap_set (h2 k hk).2), h2⟩, h3.set hj z, h4, h5.setCell h4 _⟩
/-- the document's feed is laid -/
theorem PS.lay (h : PS Has w g0 n v l p V) : PB Has w g0 V.heap.size n v l p (V.alloc (.cells #[.string (str l), .int .i64 (p : Int)] 28)) := by
  obtain ⟨⟨F, h1, h2⟩, h3, h4, h5⟩ := h
  have hb := below1 V (.cells #[.string (str l), .int .i64 (p : Int)] 28)
  exact ⟨⟨⟨F, H.below h1 hb, fun k hk => ⟨(h2 k hk).1, fun hx => hx.elim (h2 k hk).2 (fun e => by have := H.lt h1 k hk; omega)⟩⟩, below0 h5 hb⟩, h3.same (hb.block _ h3.lt), ⟨h4, h5.size⟩, Row.new V _ (fc l p)⟩
theorem QS.more (h : QS Has w X v l p V) (hb : Below V.heap.size V V') : QS Has w X v l p V' := by
  obtain ⟨⟨F, h1, h2⟩, h3⟩ := h
  exact ⟨⟨F, H.below h1 hb, h2⟩, below0 h3 hb⟩
theorem PB.more (h : PB Has w g0 gw n v l p V) (hb : Below V.heap.size V V') : PB Has w g0 gw n v l p V' :=
  ⟨QS.more H h.qs hb, h.row.same (hb.block _ h.row.lt), h.ge, h.box.below hb⟩
/-- a new block stands apart too -/
theorem QS.new (h : QS Has w (X2 g0 gw) v l p V) (hb : Below V.heap.size V V') : QS Has w (X3 g0 gw V.heap.size) v l p V' := by
  obtain ⟨⟨F, h1, h2⟩, h3⟩ := h
  exact ⟨⟨F, H.below h1 hb, fun k hk => ⟨(h2 k hk).1, fun hx => by
    rcases hx with e | e | e
    · exact (h2 k hk).2 (.inl e)
    · exact (h2 k hk).2 (.inr e)
    · have := H.lt h1 k hk; omega⟩⟩, below0 h3 hb⟩
theorem QS.set (h : QS Has w X v l p V) {b o : Nat} (hb : X b) (hw : w.heap.size ≤ b) (u : Value) : QS Has w X v l p (V.setCell ⟨b, o, none⟩ u) := by
  obtain ⟨⟨F, h1, h2⟩, h3⟩ := h
  exact ⟨⟨F, H.keep h1 (fun k hk => heap_set (fun e => (h2 k hk).2 (e ▸ hb))), h2⟩, h3.setCell hw _⟩
theorem QS.act (h : QS Has w X v l p V) (hX : ∀ k, X k → k < V.heap.size) (x : Ac) (hx : x.fits) : Calls Try.prog 8 #[v, fv l p, .agg #[.int .i64 x.what, .int .i64 x.n]] V fun e V' =>
    ∃ v', e = .returned (.tuple #[v', fv l (actP l p x.what x.n), .bool true]) ∧ QS Has w X v' l (actP l p x.what x.n) V' ∧ (∀ k, X k → V'.heap[k]? = V.heap[k]?) ∧ V.heap.size ≤ V'.heap.size := by
  obtain ⟨⟨F, h1, h2⟩, h3⟩ := h
  refine (act_any H v l p F x.what x.n V h1 hx).mono ?_
  rintro e V' ⟨v', F', rfl, a1, a2, a3⟩
  have hs := h3.size
  exact ⟨v', rfl, ⟨⟨F', a1, fun k hk => (a3 k hk).elim (h2 k) (fun h => ⟨by omega, fun hx => by have := hX k hx; omega⟩)⟩, h3.trans (a2.below (fun k hk => (h2 k hk).1) hs)⟩, fun k hk => a2.block k (hX k hk) (fun hf => (h2 k hf).2 hk), a2.size⟩
/-- the document's answer is laid over what there was -/
theorem lay_box (h : QS Has w (X2 g0 gw) v l q V) (hr : BR V g0 n) (hge : w.heap.size ≤ g0 ∧ w.heap.size ≤ gw) (hb : Row V gw 28 (fc l p)) : PB Has w g0 gw n v l q ((V.setCell ⟨gw, 0, none⟩ (.string (str l))).setCell ⟨gw, 1, none⟩ (.int .i64 (q : Int))) := by
  have hg : g0 ≠ gw := by
    rintro rfl
    obtain ⟨cs, hr, _⟩ := hr
    have := hr.symm.trans hb
    injection this with this
    injection this with _ e
    exact absurd e (by decide)
  exact ⟨QS.set H (QS.set H h (.inr rfl) hge.2 _) (.inr rfl) hge.2 _, hr.same ((heap_set hg).trans (heap_set hg)), hge, (hb.set 0 _).set 1 _⟩
end
end Go.Proofs.Ytglfcfepgjldfaa.Fe
