import Derived.Test.YtmocdokikcbjeaaCopy
namespace Go.Proofs.Ytmocdokikcbjeaa
open Go.RowKit Go.Shelf Go.Maps Go.Sort
attribute [local go_sem] Oper.semAt_some

/- THE DOCUMENT's TABLE: ROWS, RISING, BY VALUE. -/
theorem add_off (a : Addr) (m j : Nat) (hj : j ≠ 0) : a.add (m + j) = ⟨(a.add m).block, (a.add m).off + j, none⟩ := by
  unfold Addr.add
  rw [if_neg (by omega)]
  split
  · rename_i h; subst h; simp
  · simp; omega
def rv (A : Option Addr) (n c : Nat) : Value := .agg #[.slice A n c]
/-- the rows lie at A -/
abbrev Lies (w : World) (A : Option Addr) (l : Tb) : Prop := Sees w w.heap.size A (l.flatMap encR)
theorem Lies.below {w w' : World} {A : Option Addr} {l : Tb} (h : Lies w A l) (hb : Below w.heap.size w w') : Lies w' A l := (Sees.below h hb).more hb.size
theorem row_get : ∀ (l : Tb) (k j : Nat) (hk : k < l.length), j < 4 → (l.flatMap encR)[k * 4 + j]? = (encR l[k])[j]?
  | [], k, _, h, _ => by simp at h
  | x :: r, 0, j, _, hj => by
    rw [List.flatMap_cons, Nat.zero_mul, Nat.zero_add, List.getElem?_append_left (by show j < 4; exact hj)]
    rfl
  | x :: r, k + 1, j, h, hj => by
    have := row_get r k j (by simpa using h) hj
    rw [List.flatMap_cons, List.getElem?_append_right (by show 4 ≤ _; omega), show (k + 1) * 4 + j - (encR x).length = k * 4 + j by show (k + 1) * 4 + j - 4 = _; omega]
    exact this
theorem row_len (l : Tb) : (l.flatMap encR).length = l.length * 4 := by
  induction l with
  | nil => rfl
  | cons x r ih =>
    rw [List.flatMap_cons, List.length_append, ih, List.length_cons]
    show 4 + _ = _
    omega
theorem row_one {l : Tb} : ∀ u ∈ l.flatMap encR, u.oneCell' = true := by
  intro u hu
  obtain ⟨x, _, hx⟩ := List.mem_flatMap.1 hu
  simp only [encR, List.mem_cons, List.not_mem_nil, or_false] at hx
  rcases hx with rfl | rfl | rfl | rfl <;> rfl
/-- a row's four cells -/
structure RowAt (w : World) (ad : Addr) (k : Nat) (r : Int × En) : Prop where
  c0 : w.cell? (ad.add (k * 4)) = some (.int .i64 r.1)
  c1 : w.cell? ⟨(ad.add (k * 4)).block, (ad.add (k * 4)).off + 1, none⟩ = some (.int .i64 r.2.1)
  c2 : w.cell? ⟨(ad.add (k * 4)).block, (ad.add (k * 4)).off + 2, none⟩ = some (.int .i64 r.2.2.1)
  c3 : w.cell? ⟨(ad.add (k * 4)).block, (ad.add (k * 4)).off + 3, none⟩ = some (.int .i64 r.2.2.2)
theorem Lies.at_ {w : World} {l : Tb} {A : Option Addr} (h : Lies w A l) (k : Nat) (hk : k < l.length) : ∃ ad, A = some ad ∧ RowAt w ad k l[k] := by
  have hne : l.flatMap encR ≠ [] := fun e => by
    have := row_get l k 0 hk (by omega)
    rw [e] at this
    simp [encR] at this
  obtain ⟨ad, hA, _, hc⟩ := h hne
  refine ⟨ad, hA, hc _ _ (row_get l k 0 hk (by omega)), ?_, ?_, ?_⟩
  · rw [← add_off ad (k * 4) 1 (by decide)]
    exact hc _ _ (row_get l k 1 hk (by omega))
  · rw [← add_off ad (k * 4) 2 (by decide)]
    exact hc _ _ (row_get l k 2 hk (by omega))
  · rw [← add_off ad (k * 4) 3 (by decide)]
    exact hc _ _ (row_get l k 3 hk (by omega))

/-! At -/
def atI (l : Tb) (z : Int) : Int := match l.findIdx? (fun r => r.1 == z) with | some k => (k : Int) | none => -1
theorem at_hit {l : Tb} {z : Int} {k : Nat} (hk : k < l.length) (h : l[k].1 = z) (hj : ∀ j (h : j < l.length), j < k → l[j].1 ≠ z) : atI l z = (k : Int) := by
  have : l.findIdx? (fun r => r.1 == z) = some k := List.findIdx?_eq_some_iff_getElem.2 ⟨hk, by simpa using h, fun j hjk => by simpa using hj j (by omega) hjk⟩
  unfold atI
  rw [this]
theorem at_miss {l : Tb} {z : Int} (hj : ∀ j (h : j < l.length), l[j].1 ≠ z) : atI l z = -1 := by
  have : l.findIdx? (fun r => r.1 == z) = none := by
    rw [List.findIdx?_eq_none_iff]
    intro x hx
    obtain ⟨j, h, rfl⟩ := List.mem_iff_getElem.1 hx
    simpa using hj j h
  unfold atI
  rw [this]
theorem at_look {l : Tb} {z : Int} : (atI l z = -1 ∧ look l z = none) ∨ ∃ (k : Nat) (hk : k < l.length), atI l z = (k : Int) ∧ l[k].1 = z ∧ look l z = some l[k].2 := by
  unfold atI
  cases h : l.findIdx? (fun r => r.1 == z) with
  | none =>
    refine .inl ⟨rfl, look_none.2 fun r hr e => ?_⟩
    have := List.findIdx?_eq_none_iff.1 h r hr
    simp [e] at this
  | some k =>
    obtain ⟨hk, h1, h2⟩ := List.findIdx?_eq_some_iff_getElem.1 h
    refine .inr ⟨k, hk, rfl, by simpa using h1, ?_⟩
    unfold look
    have : l.find? (fun r => r.1 == z) = some l[k] := by
      rw [List.find?_eq_some_iff_getElem]
      exact ⟨h1, k, hk, rfl, fun j hj => by simpa using h2 j hj⟩
    rw [this]
    rfl
set_option maxHeartbeats 1000000 in
theorem rat_any (l : Tb) (A : Option Addr) (n c : Nat) (z : Int) (w : World) (hl : l.length = n) (hn : n ≤ 65536) (hA : Lies w A l) :
    Calls Try.prog 28 #[.agg #[.slice A n c], .int .i64 z] w fun e w' => e = .returned (.int .i64 (atI l z)) ∧ Below w.heap.size w w' := by
  obtain ⟨w1, hw1⟩ : ∃ w1, w1 = w.alloc (.cells #[.slice A n c] 29) := ⟨_, rfl⟩
  have hb1 : Below w.heap.size w w1 := hw1 ▸ below1 w _
  have hc0 : w1.cell? ⟨w.heap.size, 0, none⟩ = some (.slice A n c) := by rw [hw1]; exact cell_alloc_new _ _ _ _
  have HA := Lib.hid (hA.below hb1)
  have HL := Lib.hid hl
  have HB := Lib.hid hb1
  have HX := Lib.hid hw1
  have HM := Lib.hid hn
  have HH := Lib.hid (fun k hk h hj => at_hit (l := l) (z := z) (k := k) hk h hj)
  have HMI := Lib.hid (fun hj => at_miss (l := l) (z := z) hj)
  obtain ⟨E, hE⟩ : ∃ E, E = atI l z := ⟨_, rfl⟩
  rw [← hE] at HH HMI ⊢
  clear hE hb1 hw1 hA hl hn
  go_enter Try.func28, Try.ntmps28
  go_wp2_with fail
  go_loopw [5] (fun s5 wr => ∃ i : Nat, i ≤ n ∧ s5 = .int .i64 (i : Int) ∧ Hid (∀ j (h : j < l.length), j < i → l[j].1 ≠ z) ∧ wr = w1) (fun s5 _ => n - (_root_.Go.RowKit.intOf s5).toNat)
  case atStart => exact ⟨0, Nat.zero_le _, rfl, Lib.hid (fun j _ h => absurd h (by omega)), HX.out.symm⟩
  case round =>
    obtain ⟨i, hi, rfl, HI, rfl⟩ := hrel
    by_cases hlt : i < n
    · have hil : i < l.length := by rw [HL.out]; exact hlt
      obtain ⟨ad, rfl, hrow⟩ := HA.out.at_ i hil
      have k0 := hrow.c0
      have i0 : (0 : Int) ≤ (i : Int) := by omega
      have i1 : (i : Int) < (n : Int) := by omega
      have i2 : i < 65536 := by have := HM.out; omega
      have e0 : decide ((i : Int) < (n : Int)) = true := decide_eq_true i1
      have HI2 := Lib.hid (fun (h : ¬ (l[i].1 = z)) => (show ∀ j (h : j < l.length), j < i + 1 → l[j].1 ≠ z from fun j hj h2 => by
        by_cases e : j = i
        · subst e; exact h
        · exact HI.out j hj (by omega)))
      have HIT := Lib.hid (fun (h : l[i].1 = z) => HH.out i hil h HI.out)
      obtain ⟨x, hx⟩ : ∃ x, x = l[i].1 := ⟨_, rfl⟩
      rw [← hx] at k0 HI2 HIT
      clear hx hrow HI
      by_cases hq : x = z
      · have q1 : (x == z) = true := by simpa using hq
        have HF := Lib.hid (HIT.out hq)
        clear HI2 HIT hq
        go_wp2_with fail
        go_ret
        exact ⟨by rw [HF.out]; rfl, HB.out⟩
      · have q1 : (x == z) = false := by simpa using hq
        have HF := Lib.hid (HI2.out hq)
        clear HI2 HIT hq
        go_wp2_with fail
        go_roundw
        case rel => exact ⟨i + 1, by omega, by go_num, Lib.hid HF.out, trivial⟩
        case measure => simp [_root_.Go.RowKit.intOf]; omega
    · obtain rfl : i = n := by omega
      have HF := Lib.hid (HMI.out (fun j hj => HI.out j hj (by rw [← HL.out]; exact hj)))
      clear HI
      go_wp2_with fail
      go_ret
      exact ⟨by rw [HF.out]; rfl, HB.out⟩
theorem free_hit {l : Tb} {a m : Int} {k : Nat} (hk : k < l.length) (h : inRun a m l[k] = true) : freeB l a m = false := by
  unfold freeB
  rw [List.all_eq_false]
  exact ⟨l[k], List.getElem_mem hk, by simp [h]⟩
theorem free_miss {l : Tb} {a m : Int} (h : ∀ j (h : j < l.length), inRun a m l[j] = false) : freeB l a m = true := by
  unfold freeB
  rw [List.all_eq_true]
  intro x hx
  obtain ⟨j, hj, rfl⟩ := List.mem_iff_getElem.1 hx
  rw [h j hj]
  rfl
set_option maxHeartbeats 1000000 in
theorem rfree_any (l : Tb) (A : Option Addr) (n c : Nat) (a m : Int) (w : World) (hok : Tok l) (hl : l.length = n) (hn : n ≤ 65536) (ha : 0 ≤ a) (hA : Lies w A l) :
    Calls Try.prog 31 #[.agg #[.slice A n c], .int .i64 a, .int .i64 m] w fun e w' => e = .returned (.bool (freeB l a m)) ∧ Below w.heap.size w w' := by
  obtain ⟨w1, hw1⟩ : ∃ w1, w1 = w.alloc (.cells #[.slice A n c] 29) := ⟨_, rfl⟩
  have hb1 : Below w.heap.size w w1 := hw1 ▸ below1 w _
  have hc0 : w1.cell? ⟨w.heap.size, 0, none⟩ = some (.slice A n c) := by rw [hw1]; exact cell_alloc_new _ _ _ _
  have HA := Lib.hid (hA.below hb1)
  have HL := Lib.hid hl
  have HB := Lib.hid hb1
  have HX := Lib.hid hw1
  have HM := Lib.hid hn
  have HH := Lib.hid (fun k hk h => free_hit (l := l) (a := a) (m := m) (k := k) hk h)
  have HMI := Lib.hid (fun hj => free_miss (l := l) (a := a) (m := m) hj)
  have HOK := Lib.hid hok
  obtain ⟨E, hE⟩ : ∃ E, E = freeB l a m := ⟨_, rfl⟩
  rw [← hE] at HH HMI ⊢
  clear hE hb1 hw1 hA hl hn hok
  go_enter Try.func31, Try.ntmps31
  go_wp2_with fail
  go_loopw [7] (fun s7 wr => ∃ i : Nat, i ≤ n ∧ s7 = .int .i64 (i : Int) ∧ Hid (∀ j (h : j < l.length), j < i → inRun a m l[j] = false) ∧ wr = w1) (fun s7 _ => n - (_root_.Go.RowKit.intOf s7).toNat)
  case atStart => exact ⟨0, Nat.zero_le _, rfl, Lib.hid (fun j _ h => absurd h (by omega)), HX.out.symm⟩
  case round =>
    obtain ⟨i, hi, rfl, HI, rfl⟩ := hrel
    by_cases hlt : i < n
    · have hil : i < l.length := by rw [HL.out]; exact hlt
      obtain ⟨ad, rfl, hrow⟩ := HA.out.at_ i hil
      have k0 := hrow.c0
      have hpg := pageB_iff.1 (HOK.out.page _ (List.getElem_mem hil))
      have i0 : (0 : Int) ≤ (i : Int) := by omega
      have i1 : (i : Int) < (n : Int) := by omega
      have i2 : i < 65536 := by have := HM.out; omega
      have e0 : decide ((i : Int) < (n : Int)) = true := decide_eq_true i1
      have HI2 := Lib.hid (fun (h : inRun a m l[i] = false) => (show ∀ j (h : j < l.length), j < i + 1 → inRun a m l[j] = false from fun j hj h2 => by
        by_cases e : j = i
        · subst e; exact h
        · exact HI.out j hj (by omega)))
      have HIT := Lib.hid (fun (h : inRun a m l[i] = true) => HH.out i hil h)
      have hin : inRun a m l[i] = (decide (a ≤ l[i].1) && decide (l[i].1 - a < m)) := rfl
      obtain ⟨x, hx⟩ : ∃ x, x = l[i].1 := ⟨_, rfl⟩
      rw [← hx] at k0 hpg hin
      rw [hin] at HI2 HIT
      clear hx hrow HI hin
      by_cases hq : a ≤ x
      · have q1 : decide (a ≤ x) = true := decide_eq_true hq
        have ew : IntKind.i64.wrap (x - a) = x - a := wrapI _ (by omega) (by omega)
        by_cases hr : x - a < m
        · have q2 : decide (x - a < m) = true := decide_eq_true hr
          have HF := Lib.hid (HIT.out (by rw [q1, q2]; rfl))
          clear HI2 HIT hq hr hpg
          go_wp2_with fail
          go_ret
          exact ⟨by rw [HF.out]; rfl, HB.out⟩
        · have q2 : decide (x - a < m) = false := decide_eq_false hr
          have HF := Lib.hid (HI2.out (by rw [q1, q2]; rfl))
          clear HI2 HIT hq hr hpg
          go_wp2_with fail
          go_roundw
          case rel => exact ⟨i + 1, by omega, by go_num, Lib.hid HF.out, trivial⟩
          case measure => simp [_root_.Go.RowKit.intOf]; omega
      · have q1 : decide (a ≤ x) = false := decide_eq_false hq
        have HF := Lib.hid (HI2.out (by rw [q1]; rfl))
        clear HI2 HIT hq hpg
        go_wp2_with fail
        go_roundw
        case rel => exact ⟨i + 1, by omega, by go_num, Lib.hid HF.out, trivial⟩
        case measure => simp [_root_.Go.RowKit.intOf]; omega
    · obtain rfl : i = n := by omega
      have HF := Lib.hid (HMI.out (fun j hj => HI.out j hj (by rw [← HL.out]; exact hj)))
      clear HI
      go_wp2_with fail
      go_ret
      exact ⟨by rw [HF.out]; rfl, HB.out⟩
end Go.Proofs.Ytmocdokikcbjeaa
