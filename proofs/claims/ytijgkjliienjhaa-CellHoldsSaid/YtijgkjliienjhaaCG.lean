import Derived.Test.YtijgkjliienjhaaCF
import Derived.BigQuiet
namespace Go.Proofs.Ytijgkjliienjhaa
open Go.RowKit Go.Shelf
attribute [local go_sem] Oper.semAt_some

/- ARE TWO LISTS THE SAME? (THE CODE's CELLS, THE DOCUMENT's, THE LAW's ROWS.) -/
theorem add_off (a : Addr) (m j : Nat) (hj : j ≠ 0) : a.add (m + j) = ⟨(a.add m).block, (a.add m).off + j, none⟩ := by
  unfold Addr.add
  rw [if_neg (by omega)]
  split
  · rename_i h; subst h; simp
  · simp; omega
def encR (x : Nat × Nat) : List Value := [.int .i64 (x.1 : Int), .int .u64 (x.2 : Int)]
theorem encC_get : ∀ (l : List (Nat × Nat)) (k j : Nat) (hk : k < l.length), j < 2 → (l.flatMap encC)[k * 2 + j]? = (encC l[k])[j]?
  | [], k, _, h, _ => by simp at h
  | x :: r, 0, j, _, hj => by
    rw [List.flatMap_cons, Nat.zero_mul, Nat.zero_add, List.getElem?_append_left (by show j < 2; exact hj)]
    rfl
  | x :: r, k + 1, j, h, hj => by
    have := encC_get r k j (by simpa using h) hj
    rw [List.flatMap_cons, List.getElem?_append_right (by show 2 ≤ _; omega), show (k + 1) * 2 + j - (encC x).length = k * 2 + j by show (k + 1) * 2 + j - 2 = _; omega]
    exact this
theorem rowsC_at {w : World} {l : List (Nat × Nat)} {A : Option Addr} (h : Sees w w.heap.size A (l.flatMap encC)) (k : Nat) (hk : k < l.length) :
    ∃ ad, A = some ad ∧ w.cell? (ad.add (k * 2)) = some (.int .u64 (l[k].1 : Int)) ∧ w.cell? ⟨(ad.add (k * 2)).block, (ad.add (k * 2)).off + 1, none⟩ = some (.int .i64 (l[k].2 : Int)) := by
  have hne : l.flatMap encC ≠ [] := fun e => by
    have := encC_get l k 0 hk (by omega)
    rw [e] at this
    simp [encC] at this
  obtain ⟨ad, hA, _, hc⟩ := h hne
  refine ⟨ad, hA, hc _ _ (encC_get l k 0 hk (by omega)), ?_⟩
  rw [← add_off ad (k * 2) 1 (by decide)]
  exact hc _ _ (encC_get l k 1 hk (by omega))
theorem encR_get : ∀ (l : List (Nat × Nat)) (k j : Nat) (hk : k < l.length), j < 2 → (l.flatMap encR)[k * 2 + j]? = (encR l[k])[j]?
  | [], k, _, h, _ => by simp at h
  | x :: r, 0, j, _, hj => by
    rw [List.flatMap_cons, Nat.zero_mul, Nat.zero_add, List.getElem?_append_left (by show j < 2; exact hj)]
    rfl
  | x :: r, k + 1, j, h, hj => by
    have := encR_get r k j (by simpa using h) hj
    rw [List.flatMap_cons, List.getElem?_append_right (by show 2 ≤ _; omega), show (k + 1) * 2 + j - (encR x).length = k * 2 + j by show (k + 1) * 2 + j - 2 = _; omega]
    exact this
theorem rowsR_at {w : World} {l : List (Nat × Nat)} {A : Option Addr} (h : Sees w w.heap.size A (l.flatMap encR)) (k : Nat) (hk : k < l.length) :
    ∃ ad, A = some ad ∧ w.cell? (ad.add (k * 2)) = some (.int .i64 (l[k].1 : Int)) ∧ w.cell? ⟨(ad.add (k * 2)).block, (ad.add (k * 2)).off + 1, none⟩ = some (.int .u64 (l[k].2 : Int)) := by
  have hne : l.flatMap encR ≠ [] := fun e => by
    have := encR_get l k 0 hk (by omega)
    rw [e] at this
    simp [encR] at this
  obtain ⟨ad, hA, _, hc⟩ := h hne
  refine ⟨ad, hA, hc _ _ (encR_get l k 0 hk (by omega)), ?_⟩
  rw [← add_off ad (k * 2) 1 (by decide)]
  exact hc _ _ (encR_get l k 1 hk (by omega))
set_option maxHeartbeats 1000000 in
theorem lsame_any (a b : List (Nat × Nat)) (A B : Option Addr) (c d n m : Nat) (w : World) (ha : a.length = n) (hb : b.length = m) (hn : n ≤ 4611686018427387904) (hA : Sees w w.heap.size A (a.flatMap encR)) (hB : Sees w w.heap.size B (b.flatMap encR)) :
    Calls Try.prog 23 #[.slice A n c, .slice B m d] w fun e w' => e = .returned (.bool (decide (a = b))) ∧ ∃ q, w' = w.drewN q := by
  by_cases hnm : n = m
  · subst hnm
    have hd : ((n : Int) != (n : Int)) = false := by simp
    have HA := Lib.hid hA
    have HB := Lib.hid hB
    have HLA := Lib.hid ha
    have HLB := Lib.hid hb
    have HE : Hid (∀ k (h1 : k < a.length) (h2 : k < b.length), a[k] ≠ b[k] → decide (a = b) = false) := Lib.hid (fun k h1 h2 h => decide_eq_false (fun e => h (by subst e; rfl)))
    have HT : Hid ((∀ k (h1 : k < a.length) (h2 : k < b.length), a[k] = b[k]) → decide (a = b) = true) := Lib.hid (fun h => decide_eq_true (List.ext_getElem (ha.trans hb.symm) h))
    obtain ⟨D, hD⟩ : ∃ D, D = decide (a = b) := ⟨_, rfl⟩
    rw [← hD] at HE HT ⊢
    clear hD hA hB ha hb
    go_enter Try.func23, Try.ntmps23
    go_wp2_with fail
    go_loopw [5] (fun s5 wr => ∃ k : Nat, k ≤ n ∧ s5 = .int .i64 (k : Int) ∧ Hid (∀ j (h1 : j < a.length) (h2 : j < b.length), j < k → a[j] = b[j]) ∧ ∃ q, wr = w.drewN q) (fun s5 _ => n - (_root_.Go.RowKit.intOf s5).toNat)
    case atStart => exact ⟨0, Nat.zero_le _, rfl, Lib.hid (fun j _ _ h => absurd h (by omega)), 0, rfl⟩
    case round =>
      obtain ⟨k, hk, rfl, HI, q, rfl⟩ := hrel
      by_cases hlt : k < n
      · have h1 : k < a.length := by rw [HLA.out]; exact hlt
        have h2 : k < b.length := by rw [HLB.out]; exact hlt
        obtain ⟨ad, rfl, a1, a2⟩ := rowsR_at HA.out k h1
        obtain ⟨bd, rfl, b1, b2⟩ := rowsR_at HB.out k h2
        have j0 : (0 : Int) ≤ (k : Int) := by omega
        have j1 : (k : Int) < (n : Int) := by omega
        have j2 : decide ((k : Int) < (n : Int)) = true := decide_eq_true j1
        have j3 : decide (k < n) = true := decide_eq_true hlt
        by_cases he : a[k] = b[k]
        · rw [← he] at b1 b2
          have HI2 : Hid (∀ j (h1 : j < a.length) (h2 : j < b.length), j < k + 1 → a[j] = b[j]) := Lib.hid (fun j h1 h2 h => by
            by_cases e : j < k
            · exact HI.out j h1 h2 e
            · obtain rfl : j = k := by omega
              exact he)
          obtain ⟨x, hx⟩ : ∃ x, x = a[k].1 := ⟨_, rfl⟩
          obtain ⟨y, hy⟩ : ∃ y, y = a[k].2 := ⟨_, rfl⟩
          rw [← hx] at a1 b1
          rw [← hy] at a2 b2
          clear he hx hy HI
          go_wp2_with fail
          go_quiet (fail)
          go_wp2_with fail
          go_roundw
          case rel => exact ⟨k + 1, by omega, by go_num, HI2, _, rfl⟩
          case measure => simp [_root_.Go.RowKit.intOf]; omega
        · have HF := Lib.hid (HE.out k h1 h2 he)
          have hxy : ¬ (a[k].1 = b[k].1 ∧ a[k].2 = b[k].2) := fun ⟨e1, e2⟩ => he (Prod.ext e1 e2)
          obtain ⟨x, hx⟩ : ∃ x, x = a[k].1 := ⟨_, rfl⟩
          obtain ⟨y, hy⟩ : ∃ y, y = a[k].2 := ⟨_, rfl⟩
          obtain ⟨u, hu⟩ : ∃ u, u = b[k].1 := ⟨_, rfl⟩
          obtain ⟨v, hv⟩ : ∃ v, v = b[k].2 := ⟨_, rfl⟩
          rw [← hx] at a1 hxy
          rw [← hy] at a2 hxy
          rw [← hu] at b1 hxy
          rw [← hv] at b2 hxy
          clear he hx hy hu hv HI
          by_cases e1 : x = u
          · subst e1
            have e2 : ((y : Int) == (v : Int)) = false := beq_eq_false_iff_ne.2 (fun e => hxy ⟨rfl, by omega⟩)
            clear hxy
            go_wp2_with fail
            go_quiet (fail)
            go_wp2_with fail
            go_ret
            exact ⟨by rw [HF.out]; rfl, _, World.drewN_drewN _ _ _⟩
          · have e2 : ((x : Int) == (u : Int)) = false := beq_eq_false_iff_ne.2 (fun e => e1 (by omega))
            clear hxy e1
            go_wp2_with fail
            go_quiet (fail)
            go_wp2_with fail
            go_ret
            exact ⟨by rw [HF.out]; rfl, _, World.drewN_drewN _ _ _⟩
      · obtain rfl : k = n := by omega
        have HF := Lib.hid (HT.out (fun j h1 h2 => HI.out j h1 h2 (by rw [← HLA.out]; exact h1)))
        clear HI
        go_wp2_with fail
        go_ret
        exact ⟨by rw [HF.out]; rfl, _, rfl⟩
  · have hd : ((n : Int) != (m : Int)) = true := by
      simp
      omega
    have HF := Lib.hid (show decide (a = b) = false from decide_eq_false (fun e => hnm (by rw [← ha, ← hb, e])))
    clear hnm
    go_enter Try.func23, Try.ntmps23
    go_wp2_with fail
    go_ret
    exact ⟨by rw [HF.out]; rfl, 0, rfl⟩
set_option maxHeartbeats 1000000 in
theorem rsame_any (a b : List (Nat × Nat)) (A B : Option Addr) (c d n m : Nat) (w : World) (ha : a.length = n) (hb : b.length = m) (hn : n ≤ 4611686018427387904) (hA : Sees w w.heap.size A (a.flatMap encC)) (hB : Sees w w.heap.size B (b.flatMap encC)) :
    Calls Try.prog 21 #[.slice A n c, .slice B m d] w fun e w' => e = .returned (.bool (decide (a = b))) ∧ ∃ q, w' = w.drewN q := by
  by_cases hnm : n = m
  · subst hnm
    have hd : ((n : Int) != (n : Int)) = false := by simp
    have HA := Lib.hid hA
    have HB := Lib.hid hB
    have HLA := Lib.hid ha
    have HLB := Lib.hid hb
    have HE : Hid (∀ k (h1 : k < a.length) (h2 : k < b.length), a[k] ≠ b[k] → decide (a = b) = false) := Lib.hid (fun k h1 h2 h => decide_eq_false (fun e => h (by subst e; rfl)))
    have HT : Hid ((∀ k (h1 : k < a.length) (h2 : k < b.length), a[k] = b[k]) → decide (a = b) = true) := Lib.hid (fun h => decide_eq_true (List.ext_getElem (ha.trans hb.symm) h))
    obtain ⟨D, hD⟩ : ∃ D, D = decide (a = b) := ⟨_, rfl⟩
    rw [← hD] at HE HT ⊢
    clear hD hA hB ha hb
    go_enter Try.func21, Try.ntmps21
    go_wp2_with fail
    go_loopw [5] (fun s5 wr => ∃ k : Nat, k ≤ n ∧ s5 = .int .i64 (k : Int) ∧ Hid (∀ j (h1 : j < a.length) (h2 : j < b.length), j < k → a[j] = b[j]) ∧ ∃ q, wr = w.drewN q) (fun s5 _ => n - (_root_.Go.RowKit.intOf s5).toNat)
    case atStart => exact ⟨0, Nat.zero_le _, rfl, Lib.hid (fun j _ _ h => absurd h (by omega)), 0, rfl⟩
    case round =>
      obtain ⟨k, hk, rfl, HI, q, rfl⟩ := hrel
      by_cases hlt : k < n
      · have h1 : k < a.length := by rw [HLA.out]; exact hlt
        have h2 : k < b.length := by rw [HLB.out]; exact hlt
        obtain ⟨ad, rfl, a1, a2⟩ := rowsC_at HA.out k h1
        obtain ⟨bd, rfl, b1, b2⟩ := rowsC_at HB.out k h2
        have j0 : (0 : Int) ≤ (k : Int) := by omega
        have j1 : (k : Int) < (n : Int) := by omega
        have j2 : decide ((k : Int) < (n : Int)) = true := decide_eq_true j1
        have j3 : decide (k < n) = true := decide_eq_true hlt
        by_cases he : a[k] = b[k]
        · rw [← he] at b1 b2
          have HI2 : Hid (∀ j (h1 : j < a.length) (h2 : j < b.length), j < k + 1 → a[j] = b[j]) := Lib.hid (fun j h1 h2 h => by
            by_cases e : j < k
            · exact HI.out j h1 h2 e
            · obtain rfl : j = k := by omega
              exact he)
          obtain ⟨x, hx⟩ : ∃ x, x = a[k].1 := ⟨_, rfl⟩
          obtain ⟨y, hy⟩ : ∃ y, y = a[k].2 := ⟨_, rfl⟩
          rw [← hx] at a1 b1
          rw [← hy] at a2 b2
          clear he hx hy HI
          go_wp2_with fail
          go_quiet (fail)
          go_wp2_with fail
          go_roundw
          case rel => exact ⟨k + 1, by omega, by go_num, HI2, _, rfl⟩
          case measure => simp [_root_.Go.RowKit.intOf]; omega
        · have HF := Lib.hid (HE.out k h1 h2 he)
          have hxy : ¬ (a[k].1 = b[k].1 ∧ a[k].2 = b[k].2) := fun ⟨e1, e2⟩ => he (Prod.ext e1 e2)
          obtain ⟨x, hx⟩ : ∃ x, x = a[k].1 := ⟨_, rfl⟩
          obtain ⟨y, hy⟩ : ∃ y, y = a[k].2 := ⟨_, rfl⟩
          obtain ⟨u, hu⟩ : ∃ u, u = b[k].1 := ⟨_, rfl⟩
          obtain ⟨v, hv⟩ : ∃ v, v = b[k].2 := ⟨_, rfl⟩
          rw [← hx] at a1 hxy
          rw [← hy] at a2 hxy
          rw [← hu] at b1 hxy
          rw [← hv] at b2 hxy
          clear he hx hy hu hv HI
          by_cases e1 : x = u
          · subst e1
            have e2 : ((y : Int) == (v : Int)) = false := beq_eq_false_iff_ne.2 (fun e => hxy ⟨rfl, by omega⟩)
            clear hxy
            go_wp2_with fail
            go_quiet (fail)
            go_wp2_with fail
            go_ret
            exact ⟨by rw [HF.out]; rfl, _, World.drewN_drewN _ _ _⟩
          · have e2 : ((x : Int) == (u : Int)) = false := beq_eq_false_iff_ne.2 (fun e => e1 (by omega))
            clear hxy e1
            go_wp2_with fail
            go_quiet (fail)
            go_wp2_with fail
            go_ret
            exact ⟨by rw [HF.out]; rfl, _, World.drewN_drewN _ _ _⟩
      · obtain rfl : k = n := by omega
        have HF := Lib.hid (HT.out (fun j h1 h2 => HI.out j h1 h2 (by rw [← HLA.out]; exact h1)))
        clear HI
        go_wp2_with fail
        go_ret
        exact ⟨by rw [HF.out]; rfl, _, rfl⟩
  · have hd : ((n : Int) != (m : Int)) = true := by
      simp
      omega
    have HF := Lib.hid (show decide (a = b) = false from decide_eq_false (fun e => hnm (by rw [← ha, ← hb, e])))
    clear hnm
    go_enter Try.func21, Try.ntmps21
    go_wp2_with fail
    go_ret
    exact ⟨by rw [HF.out]; rfl, 0, rfl⟩
set_option maxHeartbeats 1000000 in
theorem csame_any (a b : List (Nat × Nat)) (A B : Option Addr) (c d n m : Nat) (w : World) (ha : a.length = n) (hb : b.length = m) (hn : n ≤ 4611686018427387904) (hA : Sees w w.heap.size A (a.flatMap encC)) (hB : Sees w w.heap.size B (b.flatMap encC)) :
    Calls Try.prog 34 #[.slice A n c, .slice B m d] w fun e w' => e = .returned (.bool (decide (a = b))) ∧ ∃ q, w' = w.drewN q := by
  by_cases hnm : n = m
  · subst hnm
    have hd : ((n : Int) != (n : Int)) = false := by simp
    have HA := Lib.hid hA
    have HB := Lib.hid hB
    have HLA := Lib.hid ha
    have HLB := Lib.hid hb
    have HE : Hid (∀ k (h1 : k < a.length) (h2 : k < b.length), a[k] ≠ b[k] → decide (a = b) = false) := Lib.hid (fun k h1 h2 h => decide_eq_false (fun e => h (by subst e; rfl)))
    have HT : Hid ((∀ k (h1 : k < a.length) (h2 : k < b.length), a[k] = b[k]) → decide (a = b) = true) := Lib.hid (fun h => decide_eq_true (List.ext_getElem (ha.trans hb.symm) h))
    obtain ⟨D, hD⟩ : ∃ D, D = decide (a = b) := ⟨_, rfl⟩
    rw [← hD] at HE HT ⊢
    clear hD hA hB ha hb
    go_enter Try.func34, Try.ntmps34
    go_wp2_with fail
    go_loopw [13] (fun s13 wr => ∃ k : Nat, k ≤ n ∧ s13 = .int .i64 (k : Int) ∧ Hid (∀ j (h1 : j < a.length) (h2 : j < b.length), j < k → a[j] = b[j]) ∧ ∃ q, wr = w.drewN q) (fun s13 _ => n - (_root_.Go.RowKit.intOf s13).toNat)
    case atStart => exact ⟨0, Nat.zero_le _, rfl, Lib.hid (fun j _ _ h => absurd h (by omega)), 0, rfl⟩
    case round =>
      obtain ⟨k, hk, rfl, HI, q, rfl⟩ := hrel
      by_cases hlt : k < n
      · have h1 : k < a.length := by rw [HLA.out]; exact hlt
        have h2 : k < b.length := by rw [HLB.out]; exact hlt
        obtain ⟨ad, rfl, a1, a2⟩ := rowsC_at HA.out k h1
        obtain ⟨bd, rfl, b1, b2⟩ := rowsC_at HB.out k h2
        have j0 : (0 : Int) ≤ (k : Int) := by omega
        have j1 : (k : Int) < (n : Int) := by omega
        have j2 : decide ((k : Int) < (n : Int)) = true := decide_eq_true j1
        have j3 : decide (k < n) = true := decide_eq_true hlt
        by_cases he : a[k] = b[k]
        · rw [← he] at b1 b2
          have HI2 : Hid (∀ j (h1 : j < a.length) (h2 : j < b.length), j < k + 1 → a[j] = b[j]) := Lib.hid (fun j h1 h2 h => by
            by_cases e : j < k
            · exact HI.out j h1 h2 e
            · obtain rfl : j = k := by omega
              exact he)
          obtain ⟨x, hx⟩ : ∃ x, x = a[k].1 := ⟨_, rfl⟩
          obtain ⟨y, hy⟩ : ∃ y, y = a[k].2 := ⟨_, rfl⟩
          rw [← hx] at a1 b1
          rw [← hy] at a2 b2
          clear he hx hy HI
          go_wp2_with fail
          go_quiet (fail)
          go_wp2_with fail
          go_roundw
          case rel => exact ⟨k + 1, by omega, by go_num, HI2, _, rfl⟩
          case measure => simp [_root_.Go.RowKit.intOf]; omega
        · have HF := Lib.hid (HE.out k h1 h2 he)
          have hxy : ¬ (a[k].1 = b[k].1 ∧ a[k].2 = b[k].2) := fun ⟨e1, e2⟩ => he (Prod.ext e1 e2)
          obtain ⟨x, hx⟩ : ∃ x, x = a[k].1 := ⟨_, rfl⟩
          obtain ⟨y, hy⟩ : ∃ y, y = a[k].2 := ⟨_, rfl⟩
          obtain ⟨u, hu⟩ : ∃ u, u = b[k].1 := ⟨_, rfl⟩
          obtain ⟨v, hv⟩ : ∃ v, v = b[k].2 := ⟨_, rfl⟩
          rw [← hx] at a1 hxy
          rw [← hy] at a2 hxy
          rw [← hu] at b1 hxy
          rw [← hv] at b2 hxy
          clear he hx hy hu hv HI
          by_cases e1 : x = u
          · subst e1
            have e2 : ((y : Int) == (v : Int)) = false := beq_eq_false_iff_ne.2 (fun e => hxy ⟨rfl, by omega⟩)
            clear hxy
            go_wp2_with fail
            go_quiet (fail)
            go_wp2_with fail
            go_ret
            exact ⟨by rw [HF.out]; rfl, _, World.drewN_drewN _ _ _⟩
          · have e2 : ((x : Int) == (u : Int)) = false := beq_eq_false_iff_ne.2 (fun e => e1 (by omega))
            clear hxy e1
            go_wp2_with fail
            go_quiet (fail)
            go_wp2_with fail
            go_ret
            exact ⟨by rw [HF.out]; rfl, _, World.drewN_drewN _ _ _⟩
      · obtain rfl : k = n := by omega
        have HF := Lib.hid (HT.out (fun j h1 h2 => HI.out j h1 h2 (by rw [← HLA.out]; exact h1)))
        clear HI
        go_wp2_with fail
        go_ret
        exact ⟨by rw [HF.out]; rfl, _, rfl⟩
  · have hd : ((n : Int) != (m : Int)) = true := by
      simp
      omega
    have HF := Lib.hid (show decide (a = b) = false from decide_eq_false (fun e => hnm (by rw [← ha, ← hb, e])))
    clear hnm
    go_enter Try.func34, Try.ntmps34
    go_wp2_with fail
    go_ret
    exact ⟨by rw [HF.out]; rfl, 0, rfl⟩
end Go.Proofs.Ytijgkjliienjhaa
