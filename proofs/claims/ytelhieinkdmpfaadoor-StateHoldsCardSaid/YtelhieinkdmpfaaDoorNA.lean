import Derived.Test.YtelhieinkdmpfaaDoorSO
import Derived.Laws.IdiomCopy
import Derived.Laws.Cover3
import Derived.Laws.EntriesVeiled
import Derived.Shelf.RegionOpen
import Derived.Deep.RegionHeld3
namespace Go.Proofs.YtelhieinkdmpfaaDoor.Sh
open Go.RowKit Go.Shelf
attribute [local go_sem] Oper.semAt_some

/- THE CODE's SHEETS IN MEMORY; KNOWN, MAY, NAME; THERE, HAS, SLOTS. -/
abbrev pb (b : Nat) : Value := .pointer (some ⟨b, 0, none⟩)
structure SRep (w : World) (b g c : Nat) (l : Ls) (rest : List Value) : Prop where
  obj : Row w b 40 [.slice (some ⟨g, 0, none⟩) l.length c]
  row : Row w g 23 (izs l ++ rest)
  le : l.length ≤ c
  most : l.length ≤ 256
  sts : Sts l
section
variable {w w' : World} {b g c : Nat} {l : Ls} {rest : List Value}
theorem SRep.c0 (h : SRep w b g c l rest) : w.cell? ⟨b, 0, none⟩ = some (.slice (some ⟨g, 0, none⟩) l.length c) := h.obj.cell 0
theorem SRep.ne (h : SRep w b g c l rest) : b ≠ g := by
  rintro rfl
  have := h.obj.symm.trans h.row
  injection this with this
  injection this with _ e
  exact absurd e (by decide)
theorem SRep.same (h : SRep w b g c l rest) (h1 : w'.heap[b]? = w.heap[b]?) (h2 : w'.heap[g]? = w.heap[g]?) : SRep w' b g c l rest := ⟨h.obj.same h1, h.row.same h2, h.le, h.most, h.sts⟩
theorem SRep.below (h : SRep w b g c l rest) (hb : Below w.heap.size w w') : SRep w' b g c l rest := h.same (hb.block _ h.obj.lt) (hb.block _ h.row.lt)
theorem SRep.sees (h : SRep w b g c l rest) : Sees w w.heap.size (some ⟨g, 0, none⟩) (izs l) := fun _ => ⟨_, rfl, h.row.lt, fun j u hu => by
  rw [add_plain, Nat.zero_add, h.row.cell, List.getElem?_append_left (List.getElem?_eq_some_iff.1 hu).1]
  exact hu⟩
end
def HasS : HasT := fun w v l F => ∃ b g c rest, v = pb b ∧ SRep w b g c l rest ∧ F = fun k => k = b ∨ k = g
/-- no sheet: nil, or what no call made -/
def NonS : NonT := fun w v G => (v = .pointer none ∧ ∀ k, ¬ G k) ∨ ∃ b, v = pb b ∧ w.cell? ⟨b, 0, none⟩ = some (.slice none 0 0) ∧ G = fun k => k = b
theorem NonS.ptr {w : World} {v : Value} {G : Nat → Prop} (h : NonS w v G) : ∃ pv, v = .pointer pv := by
  rcases h with ⟨rfl, _⟩ | ⟨b, rfl, _⟩
  · exact ⟨_, rfl⟩
  · exact ⟨_, rfl⟩
set_option maxHeartbeats 1000000 in
theorem known_any (xs : Ls) (g n c : Nat) (w : World) (hl : xs.length = n) (hn : n ≤ 2) (h : ∀ k (hk : k < xs.length), w.cell? ⟨g, k, none⟩ = some (.int .i64 xs[k])) :
    Calls Tryd.prog 32 #[.slice (some ⟨g, 0, none⟩) n c] w fun e w' => e = .returned (.bool (xs.all stB)) ∧ w = w' := by
  have HC := Lib.hid h
  have HL := Lib.hid hl
  have HA : Hid (∀ k (hk : k < xs.length), (∀ j (hj : j < xs.length), j < k → stB xs[j] = true) → stB xs[k] = false → xs.all stB = false) := Lib.hid fun k hk _ hf => by
    rw [List.all_eq_false]
    exact ⟨xs[k], List.getElem_mem hk, by rw [hf]; decide⟩
  have HE : Hid ((∀ j (hj : j < xs.length), stB xs[j] = true) → xs.all stB = true) := Lib.hid fun hf => by
    rw [List.all_eq_true]
    intro x hx
    obtain ⟨j, hj, rfl⟩ := List.getElem_of_mem hx
    exact hf j hj
  obtain ⟨E, hE⟩ : ∃ E, E = xs.all stB := ⟨_, rfl⟩
  rw [← hE] at HA HE ⊢
  clear hE h hl
  go_enter Tryd.func32, Tryd.ntmps32
  go_wp2_with fail
  go_loopw [7] (fun s wr => ∃ k : Nat, k ≤ n ∧ s = .int .i64 (k : Int) ∧ Hid (∀ j (hj : j < xs.length), j < k → stB xs[j] = true) ∧ w = wr) (fun s _ => n - (_root_.Go.RowKit.intOf s).toNat)
  case atStart => exact ⟨0, by omega, rfl, Lib.hid (fun j hj h => absurd h (by omega)), rfl⟩
  case round =>
    obtain ⟨k, hk, rfl, hall, rfl⟩ := hrel
    by_cases hlt : k < n
    · have hkl : k < xs.length := by rw [HL.out]; exact hlt
      have e0 : decide ((k : Int) < (n : Int)) = true := decide_eq_true (by omega)
      have e00 : decide (k < n) = true := decide_eq_true hlt
      have i0 : (0 : Int) ≤ (k : Int) := by omega
      have i1 : (k : Int) < (n : Int) := by omega
      have hc := HC.out k hkl
      have HF := Lib.hid (HA.out k hkl hall.out)
      have HT : Hid (stB xs[k] = true → ∀ j (hj : j < xs.length), j < k + 1 → stB xs[j] = true) := Lib.hid fun h j hj hjk => by
        rcases Nat.lt_or_ge j k with h2 | h2
        · exact hall.out j hj h2
        · obtain rfl : j = k := by omega
          exact h
      obtain ⟨x, hx⟩ : ∃ x, x = xs[k] := ⟨_, rfl⟩
      rw [← hx] at hc HF HT
      clear hall hx
      by_cases h0 : x < 0
      · have d0 : decide (x < 0) = true := decide_eq_true h0
        have hfin := HF.out (by unfold stB; rw [decide_eq_false (by omega)])
        clear h0 HF HT
        go_wp2_with fail
        go_ret
        exact ⟨by rw [hfin]; rfl, rfl⟩
      · have d0 : decide (x < 0) = false := decide_eq_false h0
        by_cases h5 : 5 ≤ x
        · have d1 : decide (5 ≤ x) = true := decide_eq_true h5
          have hfin := HF.out (by unfold stB; rw [decide_eq_false (by omega)])
          clear h0 h5 HF HT
          go_wp2_with fail
          go_ret
          exact ⟨by rw [hfin]; rfl, rfl⟩
        · have d1 : decide (5 ≤ x) = false := decide_eq_false h5
          have hall2 := Lib.hid (HT.out (by unfold stB; rw [decide_eq_true (by omega)]))
          clear h0 h5 HF HT
          go_wp2_with fail
          go_roundw
          case rel => exact ⟨k + 1, by omega, by go_num, hall2, by simp⟩
          case measure => simp [_root_.Go.RowKit.intOf]; omega
    · obtain rfl : k = n := by omega
      have e0 : decide ((k : Int) < (k : Int)) = false := decide_eq_false (by omega)
      have hfin := HE.out (fun j hj => hall.out j hj (by rw [HL.out] at hj; exact hj))
      clear hall
      go_wp2_with fail
      go_ret
      exact ⟨by rw [hfin]; rfl, rfl⟩
theorem cell_two (w : World) (a b : Value) (t : TypeId) : ∀ k (hk : k < [a, b].length), (w.alloc (.cells #[a, b] t)).cell? ⟨w.heap.size, k, none⟩ = some [a, b][k] := fun k hk => by
  rw [cell_alloc_new]
  simp [show k < 2 from hk]
theorem known_two (a b : Int) (w : World) : Calls Tryd.prog 32 #[.slice (some ⟨w.heap.size, 0, none⟩) 2 2] (w.alloc (.cells #[.int .i64 a, .int .i64 b] 23)) fun e w' => e = .returned (.bool (stB a && stB b)) ∧ w.alloc (.cells #[.int .i64 a, .int .i64 b] 23) = w' := by
  have := known_any [a, b] w.heap.size 2 2 (w.alloc (.cells #[.int .i64 a, .int .i64 b] 23)) rfl (by omega) (fun k hk => by
    rw [cell_alloc_new]
    have : k = 0 ∨ k = 1 := by have : k < 2 := hk; omega
    rcases this with rfl | rfl <;> rfl)
  simpa [List.all] using this
theorem known_one (a : Int) (w : World) : Calls Tryd.prog 32 #[.slice (some ⟨w.heap.size, 0, none⟩) 1 1] (w.alloc (.cells #[.int .i64 a] 23)) fun e w' => e = .returned (.bool (stB a)) ∧ w.alloc (.cells #[.int .i64 a] 23) = w' := by
  have := known_any [a] w.heap.size 1 1 (w.alloc (.cells #[.int .i64 a] 23)) rfl (by omega) (fun k hk => by
    rw [cell_alloc_new]
    have : k = 0 := by have : k < 1 := hk; omega
    subst this
    rfl)
  simpa [List.all] using this
set_option maxHeartbeats 1000000 in
theorem may_any (a b : Int) (w : World) (hT : Tb w) : Calls Tryd.prog 7 #[.int .i64 a, .int .i64 b] w fun e w' => e = .returned (.bool (stB b && mayB a b)) ∧ Below w.heap.size w w' := by
  have HK := Lib.hid (known_two a b w)
  cases ha : stB a
  · rw [ha, Bool.false_and] at HK
    have hr : (stB b && mayB a b) = false := by
      have : ¬ (0 ≤ a ∧ a ≤ 4) := fun h => by rw [stB_iff.2 h] at ha; cases ha
      rw [show mayB a b = false by unfold mayB; rw [if_neg (by omega), if_neg (by omega), if_neg (by omega), if_neg (by omega)], Bool.and_false]
    rw [hr]
    clear hr ha hT
    go_enter Tryd.func7, Tryd.ntmps7
    go_wp2_with fail
    refine HK.out.mono ?_
    rintro e w1 ⟨rfl, rfl⟩
    go_wp2_with fail
    go_ret
    exact ⟨rfl, below1 _ _⟩
  · rw [ha, Bool.true_and] at HK
    cases hb : stB b
    · rw [hb] at HK
      clear ha hb hT
      rw [Bool.false_and]
      go_enter Tryd.func7, Tryd.ntmps7
      go_wp2_with fail
      refine HK.out.mono ?_
      rintro e w1 ⟨rfl, rfl⟩
      go_wp2_with fail
      go_ret
      exact ⟨rfl, below1 _ _⟩
    · rw [hb] at HK
      rw [Bool.true_and]
      have h1 := stB_iff.1 ha
      have h2 := stB_iff.1 hb
      obtain ⟨i, rfl⟩ : ∃ i : Nat, a = i := ⟨a.toNat, by omega⟩
      obtain ⟨j, rfl⟩ : ∃ j : Nat, b = j := ⟨b.toNat, by omega⟩
      have HB := (hT.below (below1 w (.cells #[.int .i64 i, .int .i64 j] 23))).cellB (i := i) (j := j) (by omega) (by omega)
      have i0 : (0 : Int) ≤ (i : Int) := by omega
      have i1 : (i : Int) < 5 := by omega
      have j0 : (0 : Int) ≤ (j : Int) := by omega
      have j1 : (j : Int) < 5 := by omega
      obtain ⟨m, hm⟩ : ∃ m, m = mayB i j := ⟨_, rfl⟩
      rw [← hm] at HB ⊢
      clear ha hb hT h1 h2 hm
      go_enter Tryd.func7, Tryd.ntmps7
      go_wp2_with fail
      refine HK.out.mono ?_
      rintro e w1 ⟨rfl, rfl⟩
      go_wp2_with fail
      go_ret
      exact ⟨rfl, below1 _ _⟩
theorem name_any (z : Int) (w : World) (hT : Tb w) : Calls Tryd.prog 10 #[.int .i64 z] w fun e w' => e = .returned (.string (nameB z)) ∧ Below w.heap.size w w' := by
  have HK := Lib.hid (known_one z w)
  cases hs : stB z
  · have hr : nameB z = ⟨#[]⟩ := by
      have : ¬ (0 ≤ z ∧ z ≤ 4) := fun h => by rw [stB_iff.2 h] at hs; cases hs
      unfold nameB
      rw [if_neg (by omega), if_neg (by omega), if_neg (by omega), if_neg (by omega), if_neg (by omega)]
    rw [hs] at HK
    rw [hr]
    clear hs hr hT
    go_enter Tryd.func10, Tryd.ntmps10
    go_wp2_with fail
    refine HK.out.mono ?_
    rintro e w1 ⟨rfl, rfl⟩
    go_wp2_with fail
    go_ret
    exact ⟨rfl, below1 _ _⟩
  · rw [hs] at HK
    have h1 := stB_iff.1 hs
    obtain ⟨i, rfl⟩ : ∃ i : Nat, z = i := ⟨z.toNat, by omega⟩
    have HB := (hT.below (below1 w (.cells #[.int .i64 i] 23))).cellN (i := i) (by omega)
    have i0 : (0 : Int) ≤ (i : Int) := by omega
    have i1 : (i : Int) < 5 := by omega
    obtain ⟨m, hm⟩ : ∃ m, m = nameB i := ⟨_, rfl⟩
    rw [← hm] at HB ⊢
    clear hs hT h1 hm
    go_enter Tryd.func10, Tryd.ntmps10
    go_wp2_with fail
    refine HK.out.mono ?_
    rintro e w1 ⟨rfl, rfl⟩
    go_wp2_with fail
    go_ret
    exact ⟨rfl, below1 _ _⟩
theorem there_non (v : Value) (G : Nat → Prop) (w : World) (h : NonS w v G) : Calls Tryd.prog 33 #[v] w fun e w' => e = .returned (.bool false) ∧ w = w' := by
  rcases h with ⟨rfl, _⟩ | ⟨b, rfl, hc, _⟩
  · go_enter Tryd.func33, Tryd.ntmps33
    go_wp2_with fail
    go_ret
    exact ⟨rfl, rfl⟩
  · go_enter Tryd.func33, Tryd.ntmps33
    go_wp2_with fail
    go_ret
    exact ⟨rfl, rfl⟩
theorem there_at (b : Nat) (ad : Addr) (n c : Nat) (w : World) (hc : w.cell? ⟨b, 0, none⟩ = some (.slice (some ad) n c)) : Calls Tryd.prog 33 #[pb b] w fun e w' => e = .returned (.bool true) ∧ w = w' := by
  go_enter Tryd.func33, Tryd.ntmps33
  go_wp2_with fail
  go_ret
  exact ⟨rfl, rfl⟩
theorem slots_non (v : Value) (G : Nat → Prop) (w : World) (h : NonS w v G) : Calls Tryd.prog 35 #[v] w fun e w' => e = .returned (.slice none 0 0) ∧ w = w' := by
  have h1 := Lib.hid (there_non v G w h)
  obtain ⟨pv, rfl⟩ := h.ptr
  clear h
  go_enter Tryd.func35, Tryd.ntmps35
  go_wp2_with fail
  refine h1.out.mono ?_
  rintro e w1 ⟨rfl, rfl⟩
  go_wp2_with fail
  go_ret
  exact ⟨rfl, rfl⟩
theorem slots_at (b : Nat) (ad : Addr) (n c : Nat) (w : World) (hc : w.cell? ⟨b, 0, none⟩ = some (.slice (some ad) n c)) : Calls Tryd.prog 35 #[pb b] w fun e w' => e = .returned (.slice (some ad) n c) ∧ w = w' := by
  have h1 := Lib.hid (there_at b ad n c w hc)
  go_enter Tryd.func35, Tryd.ntmps35
  go_wp2_with fail
  refine h1.out.mono ?_
  rintro e w1 ⟨rfl, rfl⟩
  go_wp2_with fail
  go_ret
  exact ⟨rfl, rfl⟩
set_option maxHeartbeats 400000 in
theorem has_any (A : Option Addr) (n c : Nat) (z : Int) (w : World) : Calls Tryd.prog 34 #[.slice A n c, .int .i64 z] w fun e w' => e = .returned (.bool (decide (0 ≤ z ∧ z < (n : Int)))) ∧ w = w' := by
  by_cases h0 : 0 ≤ z
  · have d0 : decide (0 ≤ z) = true := decide_eq_true h0
    have hr := Lib.hid (show decide (0 ≤ z ∧ z < (n : Int)) = decide (z < (n : Int)) by simp [h0])
    go_enter Tryd.func34, Tryd.ntmps34
    go_wp2_with fail
    go_ret
    exact ⟨by rw [hr.out]; rfl, rfl⟩
  · have d0 : decide (0 ≤ z) = false := decide_eq_false h0
    have hr := Lib.hid (show decide (0 ≤ z ∧ z < (n : Int)) = false by simp [h0])
    go_enter Tryd.func34, Tryd.ntmps34
    go_wp2_with fail
    go_ret
    exact ⟨by first | rfl | (rw [hr.out]; rfl) | simp [h0], rfl⟩
end Go.Proofs.YtelhieinkdmpfaaDoor.Sh
