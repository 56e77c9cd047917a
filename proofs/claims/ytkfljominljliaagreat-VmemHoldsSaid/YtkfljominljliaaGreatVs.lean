import Derived.Test.YtkfljominljliaaGreatVr
namespace Go.Proofs.YtkfljominljliaaGreat.Vm
open Go.RowKit Go.Shelf Go.Maps Go.Sort

/- PLAIN: WHAT THE LAW KNOWS OF A MEMORY. -/

set_option maxRecDepth 100000 in
theorem seen_iff (f : Nat → Bool) : ∀ (n a : Nat), seenB f a n = true ↔ ∀ i, a ≤ i → i < a + n → f (i / 256) = true := by
  intro n
  induction n using Nat.strongRecOn with
  | _ n ih =>
    intro a
    rcases Nat.eq_zero_or_pos n with rfl | hn
    · unfold seenB
      rw [pts_zero]
      simp only [List.all_nil, true_iff]
      exact fun i h1 h2 => absurd h2 (by omega)
    · have hm : a % 256 < 256 := Nat.mod_lt _ (by decide)
      obtain ⟨k, hk⟩ : ∃ k, k = min n (256 - a % 256) := ⟨_, rfl⟩
      have h2 := ih (n - k) (by omega) (a + k)
      have hp : seenB f a n = (f (a / 256) && seenB f (a + k) (n - k)) := by
        unfold seenB
        rw [pts_pos hn, ← hk, List.all_cons]
      rw [hp, Bool.and_eq_true, h2]
      constructor
      · rintro ⟨h3, h4⟩ i h5 h6
        rcases Nat.lt_or_ge i (a + k) with h7 | h7
        · have : i / 256 = a / 256 := by omega
          rw [this]
          exact h3
        · exact h4 i h7 (by omega)
      · intro h3
        exact ⟨h3 a (Nat.le_refl _) (by omega), fun i h4 h5 => h3 i (by omega) (by omega)⟩

/-- bytes put at a place -/
def putL (s : List UInt8) (i : Nat) (b : List UInt8) : List UInt8 := s.take i ++ b ++ s.drop (i + b.length)
theorem putL_len {s b : List UInt8} {i : Nat} (h : i + b.length ≤ s.length) : (putL s i b).length = s.length := by
  unfold putL
  simp only [List.length_append, List.length_take, List.length_drop]
  omega
theorem putL_get {s b : List UInt8} {i : Nat} (h : i + b.length ≤ s.length) (j : Nat) : (putL s i b)[j]? = if j < i then s[j]? else if j < i + b.length then b[j - i]? else s[j]? := by
  unfold putL
  have hl : (s.take i).length = i := by rw [List.length_take]; omega
  split
  · rw [List.getElem?_append_left (by rw [List.length_append]; omega), List.getElem?_append_left (by omega), List.getElem?_take_of_lt (by assumption)]
  · split
    · rw [List.getElem?_append_left (by rw [List.length_append]; omega), List.getElem?_append_right (by omega), hl]
    · rw [List.getElem?_append_right (by rw [List.length_append]; omega), List.length_append, hl, List.getElem?_drop]
      congr 1
      omega
theorem putL_nil (s : List UInt8) (i : Nat) : putL s i [] = s := by simp [putL]
theorem putL_putL {s b c : List UInt8} {i : Nat} (h : i + b.length + c.length ≤ s.length) : putL (putL s i b) (i + b.length) c = putL s i (b ++ c) := by
  apply List.ext_getElem?
  intro j
  have hb : i + b.length ≤ s.length := by omega
  rw [putL_get (by rw [putL_len hb]; exact h), putL_get hb, putL_get (by rw [List.length_append]; omega), List.length_append]
  by_cases h1 : j < i
  · rw [if_pos (by omega), if_pos h1, if_pos h1]
  · by_cases h2 : j < i + b.length
    · rw [if_pos h2, if_neg h1, if_pos h2, if_neg h1, if_pos (by omega), List.getElem?_append_left (by omega)]
    · by_cases h3 : j < i + b.length + c.length
      · rw [if_neg h2, if_pos h3, if_neg h1, if_pos (by omega), List.getElem?_append_right (by omega)]
        congr 1
        omega
      · rw [if_neg h2, if_neg h3, if_neg h1, if_neg h2, if_neg h1, if_neg (by omega)]
def pageOf (s : List UInt8) (z : Nat) : List UInt8 := (s.drop (256 * z)).take 256
theorem page_get (s : List UInt8) (z j : Nat) : (pageOf s z)[j]? = if j < 256 then s[256 * z + j]? else none := by
  unfold pageOf
  rw [List.getElem?_take]
  split
  · rw [List.getElem?_drop]
  · rfl
theorem page_len {s : List UInt8} {z : Nat} (h : 256 * z + 256 ≤ s.length) : (pageOf s z).length = 256 := by
  unfold pageOf
  rw [List.length_take, List.length_drop]
  omega

structure Inv (p : Pl) (l : Pg.Tb) (now : List UInt8) (whose : List Nat) : Prop where
  ok : p.ok
  tok : Pg.Tok l
  nlen : now.length = 5120
  wlen : whose.length = 20
  free : ∀ z : Nat, whose[z]? = some 0 → Pg.look l (z : Int) = none
  mine : ∀ z o : Nat, whose[z]? = some o → 0 < o → o ≤ 2 ∧ ∃ f fo : Nat, Pg.look l (z : Int) = some ((o : Int), 2, (f : Int)) ∧ p.fr[f]? = some (some (fo, pageOf now z))
  out : ∀ z : Int, (z < 0 ∨ 20 ≤ z) → Pg.look l z = none
section
variable {p : Pl} {l : Pg.Tb} {now : List UInt8} {whose : List Nat}
theorem Inv.who (h : Inv p l now whose) {z : Nat} (hz : z < 20) : ∃ o, whose[z]? = some o := ⟨_, List.getElem?_eq_getElem (by rw [h.wlen]; exact hz)⟩
/-- whose bytes these are -/
def fineB (whose : List Nat) (o a n : Nat) : Prop := ∀ i, a ≤ i → i < a + n → whose[i / 256]? = some o
theorem Inv.grant (h : Inv p l now whose) {z o : Nat} (ho : o = 1 ∨ o = 2) (m : Int) (hm : m ≤ 2) : grantB l (z : Int) (o : Int) m = true ↔ whose[z]? = some o := by
  unfold grantB
  by_cases hz : z < 20
  · obtain ⟨x, hx⟩ := h.who hz
    rcases Nat.eq_zero_or_pos x with rfl | hp
    · rw [h.free z hx, hx]
      simp only [Bool.false_eq_true, Option.some.injEq, false_iff]
      omega
    · obtain ⟨_, f, fo, hl, _⟩ := h.mine z x hx hp
      rw [hl, hx]
      simp only [Bool.and_eq_true, bne_iff_ne, ne_eq, beq_iff_eq, decide_eq_true_eq, Option.some.injEq]
      omega
  · rw [h.out _ (.inr (by omega)), List.getElem?_eq_none (by rw [h.wlen]; omega)]
    simp
theorem Inv.ownE (h : Inv p l now whose) {o a n : Nat} (ho : o = 1 ∨ o = 2) (m : Int) (hm : m ≤ 2) (h1 : 1 ≤ n) (h2 : a + n ≤ 5120) : (Vm.ownE l (o : Int) m a (n : Int) = 0 ∧ fineB whose o a n) ∨ (Vm.ownE l (o : Int) m a (n : Int) = 190 ∧ ¬ fineB whose o a n) := by
  have hs : seenB (fun z => grantB l (z : Int) (o : Int) m) a n = true ↔ fineB whose o a n := by
    rw [seen_iff]
    exact ⟨fun h3 i h4 h5 => (h.grant ho m hm).1 (h3 i h4 h5), fun h3 i h4 h5 => (h.grant ho m hm).2 (h3 i h4 h5)⟩
  unfold Vm.ownE rE
  have e1 : ¬ ¬ (ownsB (o : Int) && properB (n : Int)) = true := by
    simp only [ownsB, properB, Bool.and_eq_true, decide_eq_true_eq]
    omega
  have e2 : ¬ ¬ withinB a (n : Int) = true := by
    simp only [withinB, Bool.and_eq_true, decide_eq_true_eq]
    omega
  rw [if_neg e1, if_neg e2, Int.toNat_natCast]
  by_cases h3 : fineB whose o a n
  · exact .inl ⟨if_neg (fun h4 => h4 (hs.2 h3)), h3⟩
  · exact .inr ⟨if_pos (fun h4 => h3 (hs.1 h4)), h3⟩
theorem frame_read {p : Pl} {f fo : Nat} {bs : List UInt8} (h : p.fr[f]? = some (some (fo, bs))) {a n : Nat} (han : a + n ≤ 256) : reachE p (f : Int) (a : Int) (n : Int) = 0 ∧ frameO p f = some (fo, bs) := by
  have hlt := (List.getElem?_eq_some_iff.1 h).1
  have h1 : frameO p f = some (fo, bs) := by unfold frameO; rw [h]; rfl
  refine ⟨?_, h1⟩
  unfold reachE
  rw [if_neg, if_neg (by rw [Int.toNat_natCast, h1]; simp)]
  simp only [frameB, holdsB, Bool.and_eq_true, decide_eq_true_eq]
  omega
theorem Inv.pce (h : Inv p l now whose) {z o a n : Nat} (hw : whose[z]? = some o) (ho : 0 < o) (han : a + n ≤ 256) : Vm.pce p l (z, a, n) = (now.drop (256 * z + a)).take n := by
  obtain ⟨_, f, fo, hl, hf⟩ := h.mine z o hw ho
  obtain ⟨h1, h2⟩ := frame_read hf han
  unfold Vm.pce
  simp only
  rw [show (Pg.getX l (z : Int)).2.2 = (f : Int) by unfold Pg.getX; rw [hl]; rfl]
  unfold readP
  rw [if_pos h1, Int.toNat_natCast, h2]
  simp only [Int.toNat_natCast]
  apply List.ext_getElem?
  intro j
  rw [List.getElem?_take, List.getElem?_take, List.getElem?_drop, List.getElem?_drop, page_get]
  split
  · rw [if_pos (by omega)]
    congr 1
    omega
  · rfl
set_option maxRecDepth 100000 in
theorem Inv.rd (h : Inv p l now whose) {o : Nat} (ho : 0 < o) : ∀ (n a : Nat), fineB whose o a n → rdB p l a n = (now.drop a).take n := by
  intro n
  induction n using Nat.strongRecOn with
  | _ n ih =>
    intro a hf
    rcases Nat.eq_zero_or_pos n with rfl | hn
    · unfold rdB
      rw [pts_zero]
      simp [flat]
    · have hm : a % 256 < 256 := Nat.mod_lt _ (by decide)
      obtain ⟨k, hk⟩ : ∃ k, k = min n (256 - a % 256) := ⟨_, rfl⟩
      have h2 := ih (n - k) (by omega) (a + k) (fun i h3 h4 => hf i (by omega) (by omega))
      have hp : rdB p l a n = Vm.pce p l (a / 256, a % 256, k) ++ rdB p l (a + k) (n - k) := by
        unfold rdB
        rw [pts_pos hn, ← hk, List.map_cons, flat]
      rw [hp, h2, h.pce (hf a (Nat.le_refl _) (by omega)) ho (by omega), show 256 * (a / 256) + a % 256 = a by omega]
      apply List.ext_getElem?
      intro j
      have hkl : ((now.drop a).take k).length ≤ k := by rw [List.length_take]; omega
      rcases Nat.lt_or_ge j k with h3 | h3
      · rcases Nat.lt_or_ge j ((now.drop a).take k).length with h4 | h4
        · rw [List.getElem?_append_left h4, List.getElem?_take, List.getElem?_take, if_pos h3, if_pos (by omega)]
        · have h5 : now.length - a ≤ j := by
            rw [List.length_take, List.length_drop] at h4
            omega
          rw [List.getElem?_append_right h4, List.getElem?_eq_none (by rw [List.length_take, List.length_drop]; omega), List.getElem?_eq_none (by rw [List.length_take, List.length_drop]; omega)]
      · rcases Nat.lt_or_ge (a + k) now.length with h4 | h4
        · have h5 : ((now.drop a).take k).length = k := by rw [List.length_take, List.length_drop]; omega
          rw [List.getElem?_append_right (by omega), h5, List.getElem?_take, List.getElem?_take, List.getElem?_drop, List.getElem?_drop]
          by_cases h6 : j < n
          · rw [if_pos (by omega), if_pos h6]
            congr 1
            omega
          · rw [if_neg (by omega), if_neg h6]
        · rw [List.getElem?_eq_none (by rw [List.length_append, List.length_take, List.length_take, List.length_drop, List.length_drop]; omega), List.getElem?_eq_none (by rw [List.length_take, List.length_drop]; omega)]
end
end Go.Proofs.YtkfljominljliaaGreat.Vm
