import Derived.Test.YtbgpdahoochkiaaDoorPartsL
namespace Go.Proofs.YtbgpdahoochkiaaDoor
open Go.RowKit Go.Shelf
attribute [local go_sem] Oper.semAt_some

/-- how many parts there are -/
def pn (s : Int) (n : Nat) : Nat := if s < 1 then 0 else (n + s.toNat - 1) / s.toNat
/-- the first k parts -/
def partl (s : Int) (l : List UInt8) (k : Nat) : List (Nat × List UInt8) := (List.range k).map fun i => cutOf l (cutk s.toNat l.length i)
theorem partl_length (s : Int) (l : List UInt8) (k : Nat) : (partl s l k).length = k := by simp [partl]
theorem partl_get {s : Int} {l : List UInt8} {k i : Nat} (h : i < (partl s l k).length) : (partl s l k)[i] = cutOf l (cutk s.toNat l.length i) := by simp [partl]

theorem cut_pos {s : Int} {l : List UInt8} {i : Nat} (h : 0 < (cutOf l (cutk s.toNat l.length i)).2.length) : i * s.toNat < l.length ∧ 1 ≤ s := by
  simp only [cutOf, cutk, List.length_take, List.length_drop] at h
  omega
theorem prj_some {s : Int} {l : List UInt8} {pre : List PX} (h : someParts s l pre) : pre.map PX.prj = partl s l pre.length := h
theorem last_pos {s : Int} {l : List UInt8} {pre : List PX} {O : Nat → Prop} {V : World} {cells : List Value} (h : someParts s l pre) (hr : PRow O V (pre.map PX.prj) cells) (h0 : 0 < pre.length) : (pre.length - 1) * s.toNat < l.length ∧ 1 ≤ s := by
  have hlt : pre.length - 1 < (pre.map PX.prj).length := by simp; omega
  obtain ⟨_, _, _, _, _, _, hp⟩ := hr (pre.length - 1) hlt
  have e : (pre.map PX.prj)[pre.length - 1] = cutOf l (cutk s.toNat l.length (pre.length - 1)) := by
    have := h
    simp only [prj_some h]
    exact partl_get _
  rw [e] at hp
  exact cut_pos hp
theorem pn_done {s : Int} {l : List UInt8} {pre : List PX} {O : Nat → Prop} {V : World} {cells : List Value} (h : allParts s l pre) (hr : PRow O V (pre.map PX.prj) cells) : pre.length = pn s l.length := by
  obtain ⟨h1, h2, h3⟩ := h
  unfold pn
  by_cases hs : s < 1
  · rw [if_pos hs, h2 hs]; rfl
  · rw [if_neg hs]
    have h3 := h3 (by omega)
    have hsn : 1 ≤ s.toNat := by omega
    rcases Nat.eq_zero_or_pos pre.length with h0 | h0
    · rw [h0] at h3 ⊢
      rw [Nat.div_eq_of_lt (by omega)]
    · have hp := (last_pos h1 hr h0).1
      rw [Nat.sub_mul, Nat.one_mul] at hp
      refine (Nat.div_eq_of_lt_le ?_ ?_).symm
      · omega
      · rw [Nat.add_mul, Nat.one_mul]; omega
theorem pn_stop {s : Int} {l : List UInt8} {pre : List PX} {O : Nat → Prop} {V : World} {cells : List Value} (h : someParts s l pre) (hr : PRow O V (pre.map PX.prj) cells) (h0 : 0 < pre.length) : pre.length ≤ pn s l.length := by
  obtain ⟨hp, hs⟩ := last_pos h hr h0
  unfold pn
  rw [if_neg (by omega), Nat.le_div_iff_mul_le (by omega)]
  rw [Nat.sub_mul, Nat.one_mul] at hp
  omega

/-- as many as are asked for -/
def pk (s many : Int) (n : Nat) : Nat := if many < 1 then pn s n else min (pn s n) many.toNat
theorem pk_done {s many : Int} {n k : Nat} (h : k = pn s n) (hm : many < 1 ∨ (k : Int) < many) : k = pk s many n := by
  unfold pk
  split <;> omega
theorem pk_stop {s many : Int} {n k : Nat} (h : k ≤ pn s n) (hm : 1 ≤ many) (hk : (k : Int) = many) : k = pk s many n := by
  unfold pk
  rw [if_neg (by omega)]
  omega

/-- a list of parts, as the function answers it -/
def Plist (B : Nat) (V : World) (v : Value) (xs : List (Nat × List UInt8)) : Prop :=
  ∃ cells, V.ownsRow B 45 2 v xs.length cells ∧ PRow (fun k => B ≤ k) V xs cells

def pinv (w : World) (B2 : Nat) (many : Int) (pre : List PX) (O : Nat → Prop) (V : World) : Prop := PLI w B2 many pre O V ∧ (many < 1 ∨ (pre.length : Int) < many) ∧ ∀ k, O k → B2 + 2 ≤ k
def pstop (w : World) (B2 : Nat) (many : Int) (c : Code) (pre : List PX) (O : Nat → Prop) (V : World) : Prop := c = .exit 0 ∧ PLI w B2 many pre O V ∧ 1 ≤ many ∧ (pre.length : Int) = many ∧ ∀ k, O k → B2 + 2 ≤ k

/-- the walk's end: the list -/
def pend (w : World) (s many : Int) (l : List UInt8) (V : World) : Prop := ∃ v, Boxed V (w.heap.size + 1) 41 v ∧ Plist w.heap.size V v (partl s l (pk s many l.length)) ∧ Below w.heap.size w V
theorem pend_done {w V : World} {B2 : Nat} {s many : Int} {l : List UInt8} {pre : List PX} {O : Nat → Prop} (hB : w.heap.size ≤ B2) (hall : allParts s l pre) (h : pinv w B2 many pre O V) : pend w s many l V := by
  obtain ⟨⟨v, cells, h1, h2, h3, h4, h5, h6⟩, hm, hO⟩ := h
  have hk := pk_done (pn_done hall h5) hm
  refine ⟨v, h1, ⟨cells, ?_, ?_⟩, h6⟩
  · rw [partl_length, ← hk]; exact own_mono h3 hB
  · rw [← hk, ← prj_some hall.1]; exact h5.keep (fun k hk => by have := hO k hk; omega) (fun _ _ _ _ _ _ => rfl)
theorem pend_stop {w V : World} {B2 : Nat} {s many : Int} {l : List UInt8} {pre : List PX} {O : Nat → Prop} {c : Code} (hB : w.heap.size ≤ B2) (hsome : someParts s l pre) (h : pstop w B2 many c pre O V) : pend w s many l V := by
  obtain ⟨rfl, ⟨v, cells, h1, h2, h3, h4, h5, h6⟩, hm, hk0, hO⟩ := h
  have hk := pk_stop (pn_stop hsome h5 (by omega)) hm hk0
  refine ⟨v, h1, ⟨cells, ?_, ?_⟩, h6⟩
  · rw [partl_length, ← hk]; exact own_mono h3 hB
  · rw [← hk, ← prj_some hsome]; exact h5.keep (fun k hk => by have := hO k hk; omega) (fun _ _ _ _ _ _ => rfl)

theorem pinv.abid {w : World} {B2 : Nat} {many : Int} (h : w.heap.size + 2 ≤ B2) : Abid B2 (pinv w B2 many) :=
  fun s O V V' row hp hg hr => ⟨PLI.abid h s O V V' row hp.1 hg hr, hp.2⟩
theorem pstop.abid {w : World} {B2 : Nat} {many : Int} (h : w.heap.size + 2 ≤ B2) (c : Code) : Abid B2 (pstop w B2 many c) :=
  fun s O V V' row hp hg hr => ⟨hp.1, PLI.abid h s O V V' row hp.2.1 hg hr, hp.2.2⟩
theorem nextO_ge {B : Nat} {O M : Nat → Prop} {W W' : World} (hO : ∀ k, O k → B ≤ k) (hM : ∀ k, M k → B ≤ k) (hW : B ≤ W.heap.size) : ∀ k, nextO O M W W' k → B ≤ k := by
  rintro k (h | h | h)
  · exact hO k h
  · exact hM k h
  · omega
end Go.Proofs.YtbgpdahoochkiaaDoor
