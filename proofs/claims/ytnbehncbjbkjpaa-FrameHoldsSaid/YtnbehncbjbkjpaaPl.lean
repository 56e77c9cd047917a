import Derived.Test.YtnbehncbjbkjpaaGen
import Derived.Lib.SlKeysI
import Derived.Maps.OwnSet
namespace Go.Proofs.Ytnbehncbjbkjpaa
open Go.Maps

/- PLAIN: FRAMES, OWNERS, WHAT IS LEFT; A MAP OF OWNERS AS IT READS. -/

/-- a frame: free, or somebody's, with its bytes -/
abbrev Fr := Option (Nat × List UInt8)
structure Pl where
  fr : List Fr
  left : List Nat
def ownO (x : Fr) : Option Nat := x.map Prod.fst
def owns (fr : List Fr) : List (Option Nat) := fr.map ownO
def isO (k : Nat) (x : Fr) : Bool := match x with | some (o, _) => o == k | none => false
def taken (fr : List Fr) (k : Nat) : Nat := fr.countP (isO k)
def used (fr : List Fr) : Nat := fr.countP Option.isSome
structure Pl.ok (p : Pl) : Prop where
  l64 : p.left.length = 64
  most : p.fr.length ≤ 16384
  sum : used p.fr + p.left.sum ≤ p.fr.length
  own : ∀ o bs, some (o, bs) ∈ p.fr → o < 64 ∧ bs.length = 256
def Pl.room (p : Pl) : Nat := p.fr.length - used p.fr - p.left.sum

theorem sum_set : ∀ (l : List Nat) (k v x : Nat), l[k]? = some x → (l.set k v).sum + x = l.sum + v
  | [], _, _, _, h => by simp at h
  | a :: r, 0, v, x, h => by
    simp at h
    subst h
    simp
    omega
  | a :: r, k + 1, v, x, h => by
    have := sum_set r k v x (by simpa using h)
    simp
    omega
theorem sum_ge : ∀ (l : List Nat) (k x : Nat), l[k]? = some x → x ≤ l.sum
  | [], _, _, h => by simp at h
  | a :: r, 0, x, h => by
    simp at h
    subst h
    simp
  | a :: r, k + 1, x, h => by
    have := sum_ge r k x (by simpa using h)
    simp
    omega
theorem countP_set {α : Type} (f : α → Bool) : ∀ (l : List α) (k : Nat) (v x : α), l[k]? = some x → (l.set k v).countP f + (if f x then 1 else 0) = l.countP f + (if f v then 1 else 0)
  | [], _, _, _, h => by simp at h
  | a :: r, 0, v, x, h => by
    simp at h
    subst h
    simp only [List.set_cons_zero, List.countP_cons]
    omega
  | a :: r, k + 1, v, x, h => by
    have := countP_set f r k v x (by simpa using h)
    simp only [List.set_cons_succ, List.countP_cons]
    omega
theorem taken_used (fr : List Fr) (k : Nat) : taken fr k ≤ used fr := by
  unfold taken used
  refine List.countP_mono_left fun x _ h => ?_
  match x, h with
  | some _, _ => rfl
theorem used_len (fr : List Fr) : used fr ≤ fr.length := List.countP_le_length

/-- the first free one -/
def free1 : List Fr → Option Nat
  | [] => none
  | none :: _ => some 0
  | some _ :: r => (free1 r).map (· + 1)
theorem free1_some : ∀ (fr : List Fr), used fr < fr.length → ∃ i, free1 fr = some i
  | [], h => by simp [used] at h
  | none :: r, _ => ⟨0, rfl⟩
  | some x :: r, h => by
    have h2 : used r < r.length := by
      simp only [used, List.countP_cons, List.length_cons, Option.isSome_some, if_true] at h
      unfold used
      omega
    obtain ⟨i, hi⟩ := free1_some r h2
    exact ⟨i + 1, by simp [free1, hi]⟩
theorem free1_spec : ∀ (fr : List Fr) (i : Nat), free1 fr = some i → fr[i]? = some none ∧ ∀ j, j < i → ∃ x, fr[j]? = some (some x)
  | [], i, h => by simp [free1] at h
  | none :: r, i, h => by
    simp [free1] at h
    subst h
    exact ⟨rfl, fun j hj => by omega⟩
  | some x :: r, i, h => by
    simp only [free1, Option.map_eq_some_iff] at h
    obtain ⟨k, hk, rfl⟩ := h
    obtain ⟨h1, h2⟩ := free1_spec r k hk
    refine ⟨by simpa using h1, fun j hj => ?_⟩
    cases j with
    | zero => exact ⟨x, rfl⟩
    | succ j => simpa using h2 j (by omega)

/-! what the calls do -/
def zero256 : List UInt8 := List.replicate 256 0
def leftN (p : Pl) (o : Nat) : Nat := p.left[o]?.getD 0
def resN (p : Pl) (o : Nat) : Nat := leftN p o + taken p.fr o
def ownerB (o : Int) : Bool := decide (0 ≤ o) && decide (o < 64)
def reserveE (p : Pl) (o m : Int) : Nat :=
  if ¬ (ownerB o = true ∧ 0 ≤ m) then 2 else if m < taken p.fr o.toNat then 172 else if ¬ (m - resN p o.toNat ≤ p.room) then 170 else 0
def reserveP (p : Pl) (o m : Int) : Pl := if reserveE p o m = 0 then { p with left := p.left.set o.toNat (m.toNat - taken p.fr o.toNat) } else p
def takeE (p : Pl) (o : Int) : Nat := if ¬ ownerB o = true then 2 else if leftN p o.toNat = 0 then 171 else 0
def takeI (p : Pl) (o : Int) : Nat := if takeE p o = 0 then (free1 p.fr).getD 0 else 0
def takeP (p : Pl) (o : Int) : Pl := if takeE p o = 0 then { fr := p.fr.set (takeI p o) (some (o.toNat, zero256)), left := p.left.set o.toNat (leftN p o.toNat - 1) } else p
def frameB (p : Pl) (i : Int) : Bool := decide (0 ≤ i) && decide (i < p.fr.length)
def frameO (p : Pl) (i : Nat) : Fr := (p.fr[i]?).getD none
def giveE (p : Pl) (i : Int) : Nat := if ¬ frameB p i = true then 4 else if frameO p i.toNat = none then 5 else 0
def giveP (p : Pl) (i : Int) : Pl :=
  match (if frameB p i then frameO p i.toNat else none) with
  | some (o, _) => { fr := p.fr.set i.toNat none, left := p.left.set o (leftN p o + 1) }
  | none => p
def holdsB (at_ many : Int) : Bool := decide (0 ≤ at_) && decide (at_ ≤ 256) && decide (0 ≤ many) && decide (many ≤ 256 - at_)
def reachE (p : Pl) (i at_ many : Int) : Nat := if ¬ (frameB p i = true ∧ holdsB at_ many = true) then 4 else if frameO p i.toNat = none then 5 else 0
def readP (p : Pl) (i at_ many : Int) : List UInt8 :=
  if reachE p i at_ many = 0 then match frameO p i.toNat with | some (_, bs) => (bs.drop at_.toNat).take many.toNat | none => [] else []
def putB (bs : List UInt8) (at_ : Nat) (b : List UInt8) : List UInt8 := bs.take at_ ++ b ++ bs.drop (at_ + b.length)
def writeP (p : Pl) (i at_ : Int) (b : List UInt8) : Pl :=
  if reachE p i at_ b.length = 0 then match frameO p i.toNat with | some (o, bs) => { p with fr := p.fr.set i.toNat (some (o, putB bs at_.toNat b)) } | none => p else p
def newP (n : Nat) : Pl := { fr := List.replicate n none, left := List.replicate 64 0 }

theorem newP_ok {n : Nat} (h : n ≤ 16384) : (newP n).ok := by
  refine ⟨by simp [newP], by simpa [newP] using h, ?_, fun o bs hm => ?_⟩
  · have h1 : used (List.replicate n (none : Fr)) = 0 := by
      unfold used
      rw [List.countP_eq_zero]
      intro x hx
      rw [List.eq_of_mem_replicate hx]
      decide
    simp [newP, h1]
  · simp [newP] at hm

theorem Pl.ok.left_get {p : Pl} (h : p.ok) {o : Nat} (ho : o < 64) : p.left[o]? = some (leftN p o) := by
  unfold leftN
  rw [List.getElem?_eq_getElem (by rw [h.l64]; exact ho)]
  rfl
theorem Pl.ok.room_eq {p : Pl} (h : p.ok) : p.room + p.left.sum + used p.fr = p.fr.length := by
  have := h.sum
  unfold Pl.room
  omega
theorem mem_set_own {fr : List Fr} {i : Nat} {x : Fr} {o : Nat} {bs : List UInt8} (hm : some (o, bs) ∈ fr.set i x) : some (o, bs) ∈ fr ∨ x = some (o, bs) := by
  rcases List.mem_or_eq_of_mem_set hm with h | h
  · exact .inl h
  · exact .inr h.symm

theorem reserve_ok {p : Pl} (h : p.ok) (o m : Int) : (reserveP p o m).ok := by
  unfold reserveP
  split
  next h0 =>
    unfold reserveE at h0
    split at h0
    · cases h0
    split at h0
    · cases h0
    split at h0
    · cases h0
    next h1 h2 h3 =>
      have h1' := Classical.not_not.1 h1
      have h3' := Classical.not_not.1 h3
      have hob := h1'.1
      simp only [ownerB, Bool.and_eq_true, decide_eq_true_eq] at hob
      have hg := h.left_get (o := o.toNat) (by omega)
      have hs := sum_set p.left o.toNat (m.toNat - taken p.fr o.toNat) _ hg
      have hr := h.room_eq
      refine ⟨by simpa using h.l64, h.most, ?_, h.own⟩
      unfold resN at h3'
      show used p.fr + (p.left.set o.toNat (m.toNat - taken p.fr o.toNat)).sum ≤ p.fr.length
      omega
  · exact h
theorem takeE_left {p : Pl} (h : p.ok) {o : Int} (h0 : takeE p o = 0) : 0 ≤ o ∧ o < 64 ∧ 0 < leftN p o.toNat ∧ free1 p.fr = some (takeI p o) ∧ used p.fr < p.fr.length := by
  have h00 := h0
  unfold takeE at h0
  split at h0
  · cases h0
  split at h0
  · cases h0
  next h1 h2 =>
    have h1' := Classical.not_not.1 h1
    simp only [ownerB, Bool.and_eq_true, decide_eq_true_eq] at h1'
    have hg := h.left_get (o := o.toNat) (by omega)
    have hs := sum_ge p.left o.toNat _ hg
    have hsum := h.sum
    have hu : used p.fr < p.fr.length := by omega
    obtain ⟨i, hi⟩ := free1_some p.fr hu
    exact ⟨h1'.1, h1'.2, by omega, by unfold takeI; rw [if_pos h00, hi]; rfl, hu⟩
theorem take_ok {p : Pl} (h : p.ok) (o : Int) : (takeP p o).ok := by
  unfold takeP
  split
  next h0 =>
    obtain ⟨h1, h2, h3, h4, h5⟩ := takeE_left h h0
    obtain ⟨hn, _⟩ := free1_spec _ _ h4
    have hg := h.left_get (o := o.toNat) (by omega)
    have hs := sum_set p.left o.toNat (leftN p o.toNat - 1) _ hg
    have hc := countP_set Option.isSome p.fr (takeI p o) (some (o.toNat, zero256)) none hn
    simp at hc
    have hsum := h.sum
    refine ⟨by simpa using h.l64, by simpa using h.most, ?_, fun o' bs hm => ?_⟩
    · show used (p.fr.set (takeI p o) (some (o.toNat, zero256))) + (p.left.set o.toNat (leftN p o.toNat - 1)).sum ≤ (p.fr.set (takeI p o) (some (o.toNat, zero256))).length
      simp only [List.length_set]
      unfold used at hsum ⊢
      omega
    · rcases mem_set_own hm with h6 | h6
      · exact h.own _ _ h6
      · simp only [Option.some.injEq, Prod.mk.injEq] at h6
        obtain ⟨rfl, rfl⟩ := h6
        exact ⟨by omega, List.length_replicate⟩
  · exact h
theorem give_some {p : Pl} {i : Int} {o : Nat} {bs : List UInt8} (h : (if frameB p i then frameO p i.toNat else none) = some (o, bs)) : 0 ≤ i ∧ i.toNat < p.fr.length ∧ p.fr[i.toNat]? = some (some (o, bs)) ∧ frameO p i.toNat = some (o, bs) := by
  split at h
  next hf =>
    simp only [frameB, Bool.and_eq_true, decide_eq_true_eq] at hf
    have hl : i.toNat < p.fr.length := by omega
    refine ⟨hf.1, hl, ?_, h⟩
    unfold frameO at h
    rw [List.getElem?_eq_getElem hl] at h ⊢
    simp at h
    rw [h]
  · cases h
theorem give_ok {p : Pl} (h : p.ok) (i : Int) : (giveP p i).ok := by
  unfold giveP
  split
  next o bs hx =>
    obtain ⟨h1, h2, h3, h4⟩ := give_some hx
    obtain ⟨ho, _⟩ := h.own o bs (List.mem_of_getElem? h3)
    have hg := h.left_get (o := o) ho
    have hs := sum_set p.left o (leftN p o + 1) _ hg
    have hc := countP_set Option.isSome p.fr i.toNat none _ h3
    simp at hc
    have hsum := h.sum
    refine ⟨by simpa using h.l64, by simpa using h.most, ?_, fun o' bs' hm => ?_⟩
    · show used (p.fr.set i.toNat none) + (p.left.set o (leftN p o + 1)).sum ≤ (p.fr.set i.toNat none).length
      simp only [List.length_set]
      unfold used at hsum ⊢
      omega
    · rcases mem_set_own hm with h6 | h6
      · exact h.own _ _ h6
      · cases h6
  · exact h
theorem putB_len (bs : List UInt8) (a : Nat) (b : List UInt8) (h : a + b.length ≤ bs.length) : (putB bs a b).length = bs.length := by
  simp [putB]
  omega
theorem reach_some {p : Pl} {i at_ m : Int} (h : reachE p i at_ m = 0) : 0 ≤ i ∧ i.toNat < p.fr.length ∧ 0 ≤ at_ ∧ 0 ≤ m ∧ at_ + m ≤ 256 ∧ ∃ o bs, p.fr[i.toNat]? = some (some (o, bs)) ∧ frameO p i.toNat = some (o, bs) := by
  unfold reachE at h
  split at h
  · cases h
  split at h
  · cases h
  next h1 h2 =>
    have h1' := Classical.not_not.1 h1
    simp only [frameB, holdsB, Bool.and_eq_true, decide_eq_true_eq] at h1'
    have hl : i.toNat < p.fr.length := by omega
    refine ⟨h1'.1.1, hl, by omega, by omega, by omega, ?_⟩
    unfold frameO at h2 ⊢
    rw [List.getElem?_eq_getElem hl] at h2 ⊢
    simp only [Option.getD_some] at h2 ⊢
    cases hx : p.fr[i.toNat] with
    | some y => exact ⟨y.1, y.2, rfl, rfl⟩
    | none => exact absurd hx h2
theorem write_ok {p : Pl} (h : p.ok) (i at_ : Int) (b : List UInt8) : (writeP p i at_ b).ok := by
  unfold writeP
  split
  next h0 =>
    obtain ⟨h1, h2, h3, h4, h5, o, bs, h6, h7⟩ := reach_some h0
    rw [h7]
    obtain ⟨ho, hb⟩ := h.own o bs (List.mem_of_getElem? h6)
    have hc := countP_set Option.isSome p.fr i.toNat (some (o, putB bs at_.toNat b)) _ h6
    simp at hc
    have hsum := h.sum
    refine ⟨h.l64, by simpa using h.most, ?_, fun o' bs' hm => ?_⟩
    · show used (p.fr.set i.toNat (some (o, putB bs at_.toNat b))) + p.left.sum ≤ (p.fr.set i.toNat (some (o, putB bs at_.toNat b))).length
      simp only [List.length_set]
      unfold used at hsum ⊢
      omega
    · rcases mem_set_own hm with h8 | h8
      · exact h.own _ _ h8
      · simp only [Option.some.injEq, Prod.mk.injEq] at h8
        obtain ⟨rfl, rfl⟩ := h8
        exact ⟨ho, by rw [putB_len _ _ _ (by omega)]; exact hb⟩
  · exact h

/-! the map of owners -/
def entsF : Nat → List (Option Nat) → List (Lit × DataW Unit)
  | _, [] => []
  | s, none :: r => entsF (s + 1) r
  | s, some o :: r => (.int .i64 (s : Int), .lit (.int .i64 (o : Int))) :: entsF (s + 1) r
def mapD (l : List (Option Nat)) : DataW Unit := .map (entsF 0 l)
def idxF : Nat → List (Option Nat) → List Nat
  | _, [] => []
  | s, none :: r => idxF (s + 1) r
  | s, some _ :: r => s :: idxF (s + 1) r

theorem ents_len : ∀ (s : Nat) (l : List (Option Nat)), (entsF s l).length = l.countP Option.isSome
  | _, [] => rfl
  | s, none :: r => by simp [entsF, ents_len (s + 1) r]
  | s, some o :: r => by simp [entsF, ents_len (s + 1) r]
theorem mapD_size (l : List (Option Nat)) : Maps.size (mapD l) = l.countP Option.isSome := ents_len 0 l
theorem ents_keys : ∀ (s : Nat) (l : List (Option Nat)), (entsF s l).map (fun p => intOf p.1) = (idxF s l).map (fun n : Nat => (n : Int))
  | _, [] => rfl
  | s, none :: r => ents_keys (s + 1) r
  | s, some o :: r => by rw [entsF, idxF, List.map_cons, List.map_cons, ents_keys (s + 1) r]; rfl
theorem mapD_keys (l : List (Option Nat)) : intKeys (mapD l) = (idxF 0 l).map (fun n : Nat => (n : Int)) := ents_keys 0 l
theorem idx_ge : ∀ (s : Nat) (l : List (Option Nat)), ∀ n ∈ idxF s l, s ≤ n ∧ n < s + l.length
  | _, [], n, h => by simp [idxF] at h
  | s, none :: r, n, h => by
    have := idx_ge (s + 1) r n h
    simp
    omega
  | s, some o :: r, n, h => by
    simp only [idxF, List.mem_cons] at h
    rcases h with rfl | h
    · simp
    · have := idx_ge (s + 1) r n h
      simp
      omega
theorem idx_sorted : ∀ (s : Nat) (l : List (Option Nat)), (idxF s l).Pairwise (· < ·)
  | _, [] => by simp [idxF]
  | s, none :: r => idx_sorted (s + 1) r
  | s, some o :: r => List.pairwise_cons.2 ⟨fun n hn => by have := idx_ge (s + 1) r n hn; omega, idx_sorted (s + 1) r⟩
theorem idx_mem : ∀ (s : Nat) (l : List (Option Nat)) (n : Nat), n ∈ idxF s l ↔ s ≤ n ∧ ∃ o, l[n - s]? = some (some o)
  | s, [], n => by simp [idxF]
  | s, none :: r, n => by
    rw [idxF, idx_mem (s + 1) r n]
    constructor
    · rintro ⟨h1, o, h2⟩
      exact ⟨by omega, o, by rw [show n - s = (n - (s + 1)) + 1 by omega]; simpa using h2⟩
    · rintro ⟨h1, o, h2⟩
      rcases Nat.eq_or_lt_of_le h1 with rfl | h1
      · simp at h2
      · refine ⟨by omega, o, ?_⟩
        rw [show n - s = (n - (s + 1)) + 1 by omega] at h2
        simpa using h2
  | s, some x :: r, n => by
    rw [idxF, List.mem_cons, idx_mem (s + 1) r n]
    constructor
    · rintro (rfl | ⟨h1, o, h2⟩)
      · exact ⟨Nat.le_refl _, x, by simp⟩
      · exact ⟨by omega, o, by rw [show n - s = (n - (s + 1)) + 1 by omega]; simpa using h2⟩
    · rintro ⟨h1, o, h2⟩
      rcases Nat.eq_or_lt_of_le h1 with rfl | h1
      · exact .inl rfl
      · refine .inr ⟨by omega, o, ?_⟩
        rw [show n - s = (n - (s + 1)) + 1 by omega] at h2
        simpa using h2

theorem same_i (a b : Int) : Lit.sameKey (.int .i64 a) (.int .i64 b) = decide (a = b) := by simp [Lit.sameKey]
theorem ents_find : ∀ (s : Nat) (l : List (Option Nat)) (n : Nat), s ≤ n → (entsF s l).find? (fun p => p.1.sameKey (.int .i64 (n : Int))) = (match l[n - s]? with | some (some o) => some (.int .i64 (n : Int), .lit (.int .i64 (o : Int))) | _ => none)
  | s, [], n, _ => by simp [entsF]
  | s, none :: r, n, h => by
    rw [entsF]
    rcases Nat.eq_or_lt_of_le h with rfl | h
    · rw [List.find?_eq_none.2]
      · simp
      · intro p hp
        have : intOf p.1 ∈ (entsF (s + 1) r).map (fun p => intOf p.1) := List.mem_map_of_mem hp
        rw [ents_keys, List.mem_map] at this
        obtain ⟨m, hm, he⟩ := this
        have := (idx_ge _ _ _ hm).1
        cases hk : p.1 <;> simp [hk, Lit.sameKey, intOf] at he ⊢
        intro _
        omega
    · rw [ents_find (s + 1) r n h, show n - s = (n - (s + 1)) + 1 by omega]
      simp
  | s, some o :: r, n, h => by
    rw [entsF]
    rcases Nat.eq_or_lt_of_le h with rfl | h
    · simp [same_i]
    · rw [List.find?_cons_of_neg (by simp [same_i]; omega), ents_find (s + 1) r n h, show n - s = (n - (s + 1)) + 1 by omega]
      simp
theorem ents_find_neg : ∀ (s : Nat) (l : List (Option Nat)) (z : Int), z < s → (entsF s l).find? (fun p => p.1.sameKey (.int .i64 z)) = none
  | s, [], z, _ => rfl
  | s, none :: r, z, h => ents_find_neg (s + 1) r z (by omega)
  | s, some o :: r, z, h => by
    rw [entsF, List.find?_cons_of_neg (by simp [same_i]; omega)]
    exact ents_find_neg (s + 1) r z (by omega)

/-- whose a frame is -/
def ownAt (l : List (Option Nat)) (z : Int) : Option Nat := if z < 0 then none else (l[z.toNat]?).getD none
theorem mapD_find (l : List (Option Nat)) (z : Int) : (entsF 0 l).find? (fun p => p.1.sameKey (.int .i64 z)) = (ownAt l z).map (fun o : Nat => ((.int .i64 z, .lit (.int .i64 (o : Int))) : Lit × DataW Unit)) := by
  unfold ownAt
  split
  next h => rw [ents_find_neg 0 l z (by omega)]; rfl
  next h =>
    obtain ⟨n, rfl⟩ : ∃ n : Nat, z = n := ⟨z.toNat, by omega⟩
    rw [ents_find 0 l n (Nat.zero_le _), Int.toNat_natCast, Nat.sub_zero]
    match l[n]? with
    | some (some o) => rfl
    | some none => rfl
    | none => rfl
theorem mapD_has (l : List (Option Nat)) (z : Int) : Maps.has (mapD l) (.int .i64 z) = (ownAt l z).isSome := by
  show (entsF 0 l).any _ = _
  rw [Bool.eq_iff_iff, List.any_eq_true, ← List.find?_isSome, mapD_find, Option.isSome_map]
theorem mapD_at (l : List (Option Nat)) (z : Int) (d : DataW Unit) : (mapD l).atKey (.int .i64 z) d = (match ownAt l z with | some o => .lit (.int .i64 (o : Int)) | none => d) := by
  simp only [mapD, DataW.atKey, mapD_find]
  cases ownAt l z <;> rfl

theorem ents_del : ∀ (s : Nat) (l : List (Option Nat)) (n : Nat), s ≤ n → (entsF s l).filter (ChangeMaps.notKey (.int .i64 (n : Int))) = entsF s (l.set (n - s) none)
  | s, [], n, _ => by simp [entsF]
  | s, none :: r, n, h => by
    rw [entsF]
    rcases Nat.eq_or_lt_of_le h with rfl | h
    · rw [Nat.sub_self, List.set_cons_zero, entsF, List.filter_eq_self]
      intro p hp
      have : intOf p.1 ∈ (entsF (s + 1) r).map (fun p => intOf p.1) := List.mem_map_of_mem hp
      rw [ents_keys, List.mem_map] at this
      obtain ⟨m, hm, he⟩ := this
      have := (idx_ge _ _ _ hm).1
      unfold ChangeMaps.notKey
      cases hk : p.1 <;> simp [hk, Lit.sameKey, intOf] at he ⊢
      exact .inr (by omega)
    · rw [show n - s = (n - (s + 1)) + 1 by omega, List.set_cons_succ, entsF, ents_del (s + 1) r n h]
  | s, some o :: r, n, h => by
    rw [entsF]
    rcases Nat.eq_or_lt_of_le h with rfl | h
    · rw [Nat.sub_self, List.set_cons_zero, entsF, List.filter_cons_of_neg (by simp [ChangeMaps.notKey, same_i]), List.filter_eq_self]
      intro p hp
      have : intOf p.1 ∈ (entsF (s + 1) r).map (fun p => intOf p.1) := List.mem_map_of_mem hp
      rw [ents_keys, List.mem_map] at this
      obtain ⟨m, hm, he⟩ := this
      have := (idx_ge _ _ _ hm).1
      unfold ChangeMaps.notKey
      cases hk : p.1 <;> simp [hk, Lit.sameKey, intOf] at he ⊢
      exact .inr (by omega)
    · rw [show n - s = (n - (s + 1)) + 1 by omega, List.set_cons_succ, entsF, List.filter_cons_of_pos (by simp [ChangeMaps.notKey, same_i]; omega), ents_del (s + 1) r n h]
theorem mapD_del (l : List (Option Nat)) (n : Nat) : (mapD l).del (.int .i64 (n : Int)) = mapD (l.set n none) := by
  show DataW.map ((entsF 0 l).filter (ChangeMaps.notKey (.int .i64 (n : Int)))) = _
  rw [ents_del 0 l n (Nat.zero_le _)]
  rfl
theorem ents_ins : ∀ (s : Nat) (l : List (Option Nat)) (n o : Nat), s ≤ n → n < s + l.length → DataW.insert (.int .i64 (n : Int), .lit (.int .i64 (o : Int))) (entsF s (l.set (n - s) none)) = entsF s (l.set (n - s) (some o))
  | s, [], n, _, h1, h2 => by simp at h2; omega
  | s, x :: r, n, o, h1, h2 => by
    rcases Nat.eq_or_lt_of_le h1 with rfl | h1
    · rw [Nat.sub_self, List.set_cons_zero, List.set_cons_zero, entsF, entsF]
      match hr : entsF (s + 1) r with
      | [] => rfl
      | y :: q =>
        rw [DataW.insert, if_pos]
        have hy : y ∈ entsF (s + 1) r := by rw [hr]; simp
        have : intOf y.1 ∈ (entsF (s + 1) r).map (fun p => intOf p.1) := List.mem_map_of_mem hy
        rw [ents_keys, List.mem_map] at this
        obtain ⟨m, hm, he⟩ := this
        have := (idx_ge _ _ _ hm).1
        have hki : ∀ (s : Nat) (l : List (Option Nat)) (p : Lit × DataW Unit), p ∈ entsF s l → ∃ z, p.1 = .int .i64 z := by
          intro s l
          induction l generalizing s with
          | nil => intro p hp; simp [entsF] at hp
          | cons x r ih =>
            intro p hp
            cases x with
            | none => exact ih _ p hp
            | some o =>
              rw [entsF, List.mem_cons] at hp
              rcases hp with rfl | hp
              · exact ⟨_, rfl⟩
              · exact ih _ p hp
        obtain ⟨z, hz⟩ := hki _ _ y hy
        rw [hz] at he ⊢
        simp [intOf] at he
        simp [Lit.before]
        omega
    · have h3 : n < (s + 1) + r.length := by simp at h2; omega
      rw [show n - s = (n - (s + 1)) + 1 by omega, List.set_cons_succ, List.set_cons_succ]
      cases x with
      | none =>
        rw [entsF, entsF]
        exact ents_ins (s + 1) r n o h1 h3
      | some y =>
        rw [entsF, entsF, DataW.insert, if_neg (by simp [Lit.before]; omega), ents_ins (s + 1) r n o h1 h3]
theorem mapD_put (l : List (Option Nat)) (n o : Nat) (h : n < l.length) : (mapD l).put (.int .i64 (n : Int)) (.lit (.int .i64 (o : Int))) = mapD (l.set n (some o)) := by
  show DataW.map (DataW.insert _ ((entsF 0 l).filter (ChangeMaps.notKey (.int .i64 (n : Int))))) = _
  rw [ents_del 0 l n (Nat.zero_le _), ents_ins 0 l n o (Nat.zero_le _) (by omega)]
  rfl

theorem owns_len (fr : List Fr) : (owns fr).length = fr.length := by simp [owns]
theorem owns_used (fr : List Fr) : (owns fr).countP Option.isSome = used fr := by
  unfold owns used
  rw [List.countP_map]
  refine List.countP_congr fun x _ => ?_
  cases x <;> simp [ownO]
theorem owns_set (fr : List Fr) (i : Nat) (x : Fr) : owns (fr.set i x) = (owns fr).set i (ownO x) := by simp [owns, List.map_set]
theorem owns_get (fr : List Fr) (i : Nat) : (owns fr)[i]? = (fr[i]?).map ownO := by simp [owns]
end Go.Proofs.Ytnbehncbjbkjpaa
