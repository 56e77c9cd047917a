import Derived.Test.YtpnlddjobphjnaaDoorBase
import Derived.Lib.LaidTab
import Derived.IntWalk
namespace Go.Proofs.YtpnlddjobphjnaaDoor
open Go.RowKit

/-- the payloads, by their classes -/
def pays : List Nat := [16, 32, 48, 64, 96, 128, 192, 256]
def pay (k : Nat) : Nat := pays.getD k 0
def payCells : Array Value := #[.int .i64 16, .int .i64 32, .int .i64 48, .int .i64 64, .int .i64 96, .int .i64 128, .int .i64 192, .int .i64 256]
theorem pay_cases {k : Nat} (h : k < 8) : (k = 0 ∧ pay k = 16) ∨ (k = 1 ∧ pay k = 32) ∨ (k = 2 ∧ pay k = 48) ∨ (k = 3 ∧ pay k = 64) ∨ (k = 4 ∧ pay k = 96) ∨ (k = 5 ∧ pay k = 128) ∨ (k = 6 ∧ pay k = 192) ∨ (k = 7 ∧ pay k = 256) := by
  rcases (show k = 0 ∨ k = 1 ∨ k = 2 ∨ k = 3 ∨ k = 4 ∨ k = 5 ∨ k = 6 ∨ k = 7 by omega) with rfl | rfl | rfl | rfl | rfl | rfl | rfl | rfl <;> simp [pay, pays]
theorem pay_bound {k : Nat} (h : k < 8) : 16 ≤ pay k ∧ pay k ≤ 256 ∧ pay k % 16 = 0 := by
  rcases pay_cases h with h | h | h | h | h | h | h | h <;> omega

/-- the table of payloads stands in its block -/
def Tab (w : World) : Prop := ∃ t fr, w.heap[0]? = some (.cells payCells t fr)
theorem Tab.lt {w : World} (h : Tab w) : 0 < w.heap.size := by
  obtain ⟨t, fr, h⟩ := h
  exact (Array.getElem?_eq_some_iff.1 h).1
theorem Tab.same {w w' : World} (h : Tab w) (hb : w'.heap[0]? = w.heap[0]?) : Tab w' := by
  obtain ⟨t, fr, h⟩ := h
  exact ⟨t, fr, hb.trans h⟩
theorem Tab.below {w w' : World} (h : Tab w) (hb : Below w.heap.size w w') : Tab w' := h.same (hb.block _ h.lt)
theorem Tab.alloc {w : World} (h : Tab w) (o : Obj) : Tab (w.alloc o) := h.below ((Below.refl _ _).alloc (Nat.le_refl _) _)
theorem Tab.drewN {w : World} (h : Tab w) (n : Nat) : Tab (w.drewN n) := h
theorem Tab.of {w : World} (h : Lib.TabIs Tryd.prog w "pinfold/size.payloads" .i64 [16, 32, 48, 64, 96, 128, 192, 256]) : Tab w := by
  unfold Lib.TabIs World.var? at h
  have hg : Tryd.prog.globalNamed "pinfold/size.payloads" = some 0 := by kernel_rfl
  rw [hg] at h
  simp only [Option.bind_some] at h
  split at h
  · rename_i cs t fr hh
    simp only [Option.some.injEq] at h
    subst h
    exact ⟨t, fr, hh⟩
  · cases h
theorem Tab.cell {w : World} (h : Tab w) {k : Nat} (hk : k < 8) : w.cell? ⟨0, k, none⟩ = some (.int .i64 (pay k : Int)) := by
  obtain ⟨t, fr, h⟩ := h
  rw [cell_of_row _ _ k _ t fr h]
  rcases (show k = 0 ∨ k = 1 ∨ k = 2 ∨ k = 3 ∨ k = 4 ∨ k = 5 ∨ k = 6 ∨ k = 7 by omega) with rfl | rfl | rfl | rfl | rfl | rfl | rfl | rfl <;> simp [pay, pays, payCells]

theorem below1 (w : World) (o : Obj) : Below w.heap.size w (w.alloc o) := (Below.refl _ _).alloc (Nat.le_refl _) _
theorem below2 (w : World) (o p : Obj) : Below w.heap.size w ((w.alloc o).alloc p) := (below1 w o).alloc (by simp) _

/-- a class under way -/
abbrev kv (n p : Int) : Value := .agg #[.int .i64 n, .int .i64 p]

/-- is there such a class? -/
def isK (n : Int) : Bool := decide (0 ≤ n) && decide (n < 8)

theorem known_any (n : Int) (w : World) : Calls Tryd.prog 38 #[.int .i64 n] w fun e w' => e = .returned (.bool (isK n)) ∧ w = w' := by
  by_cases h0 : 0 ≤ n
  · by_cases h8 : n < 8
    · have e0 : decide (0 ≤ n) = true := decide_eq_true h0
      have e8 : decide (n < 8) = true := decide_eq_true h8
      go_enter Tryd.func38, Tryd.ntmps38
      go_wp2
      go_ret
      exact ⟨by rw [isK, e0, e8]; rfl, rfl⟩
    · have e0 : decide (0 ≤ n) = true := decide_eq_true h0
      have e8 : decide (n < 8) = false := decide_eq_false h8
      go_enter Tryd.func38, Tryd.ntmps38
      go_wp2
      go_ret
      exact ⟨by rw [isK, e0, e8]; rfl, rfl⟩
  · have e0 : decide (0 ≤ n) = false := decide_eq_false h0
    go_enter Tryd.func38, Tryd.ntmps38
    go_wp2
    go_ret
    exact ⟨by rw [isK, e0]; rfl, rfl⟩

theorem isK_yes {k : Nat} (h : k < 8) : isK (k : Int) = true := by simp [isK]; omega

set_option maxHeartbeats 400000 in
theorem kindOf_yes (k : Nat) (w : World) (ht : Tab w) (hk : k < 8) : Calls Tryd.prog 37 #[.int .i64 (k : Int)] w fun e w' => e = .returned (kv k (pay k)) ∧ Below w.heap.size w w' := by
  have hc : ∀ o p, ((w.alloc o).alloc p).cell? ⟨0, k, none⟩ = some (.int .i64 (pay k : Int)) := fun o p => ((ht.alloc o).alloc p).cell hk
  have hkn := Lib.hid (fun w => known_any (k : Int) w)
  rw [isK_yes hk] at hkn
  have hk0 : decide ((k : Int) < 8) = true := decide_eq_true (by omega)
  have hk1 : k < 8 := hk
  obtain ⟨p, hp⟩ : ∃ p, p = pay k := ⟨_, rfl⟩
  rw [← hp] at hc ⊢
  clear hp hk
  go_enter Tryd.func37, Tryd.ntmps37
  go_wp2_with fail
  refine (hkn.out _).mono ?_
  rintro e w1 ⟨rfl, rfl⟩
  go_wp2
  exact bodyPost_ret (v := kv k p) (by simp [results, Tryd.results37, go_sem]) rfl ⟨rfl, below2 _ _ _⟩
theorem kindOf_no (n : Int) (w : World) (hk : isK n = false) : Calls Tryd.prog 37 #[.int .i64 n] w fun e w' => e = .returned (kv n 0) ∧ Below w.heap.size w w' := by
  have hkn := Lib.hid (fun w => known_any n w)
  rw [hk] at hkn
  clear hk
  go_enter Tryd.func37, Tryd.ntmps37
  go_wp2_with fail
  refine (hkn.out _).mono ?_
  rintro e w1 ⟨rfl, rfl⟩
  go_wp2
  exact bodyPost_ret (v := kv n 0) (by simp [results, Tryd.results37, go_sem]) rfl ⟨rfl, below2 _ _ _⟩

theorem wrapI (a : Int) (h1 : -9223372036854775808 ≤ a) (h2 : a ≤ 9223372036854775807) : IntKind.i64.wrap a = a := IntWalk.i64_in a (by omega)

theorem slot_any (n : Int) (p : Nat) (w : World) (hp : p ≤ 256) : Calls Tryd.prog 27 #[kv n p] w fun e w' => e = .returned (.int .i64 ((p + 32 : Nat) : Int)) ∧ Below w.heap.size w w' := by
  have h1 : IntKind.i64.wrap (16 + (p : Int)) = ((16 + p : Nat) : Int) := wrapI ((16 + p : Nat) : Int) (by omega) (by omega)
  have h2 : IntKind.i64.wrap (((16 + p : Nat) : Int) + 16) = ((p + 32 : Nat) : Int) := by rw [wrapI _ (by omega) (by omega)]; omega
  obtain ⟨a, ha⟩ : ∃ a, a = 16 + p := ⟨_, rfl⟩
  obtain ⟨b, hb⟩ : ∃ b, b = p + 32 := ⟨_, rfl⟩
  rw [← ha] at h1 h2
  rw [← hb] at h2 ⊢
  clear ha hb hp
  go_enter Tryd.func27, Tryd.ntmps27
  go_wp2
  go_ret
  exact ⟨rfl, below1 _ _⟩

theorem div4096 (p : Nat) : IntKind.i64.wrap ((4096 : Int) / ((p : Nat) : Int)) = ((4096 / p : Nat) : Int) := by
  have : (4096 : Int) / ((p : Nat) : Int) = ((4096 / p : Nat) : Int) := rfl
  have hle := Nat.div_le_self 4096 p
  rw [this]
  obtain ⟨q, hq⟩ : ∃ q, q = 4096 / p := ⟨_, rfl⟩
  rw [← hq] at hle ⊢
  exact wrapI _ (by omega) (by omega)
theorem count_any (n : Int) (p : Nat) (w : World) (hp : p ≤ 256) : Calls Tryd.prog 29 #[kv n p] w fun e w' => e = .returned (.int .i64 ((4096 / (p + 32) : Nat) : Int)) ∧ Below w.heap.size w w' := by
  have hs := Lib.hid (fun w => slot_any n p w hp)
  have hd := div4096 (p + 32)
  have hne : ¬ ((p + 32 : Nat) : Int) = 0 := by omega
  have hne2 : (((p + 32 : Nat) : Int) == 0) = false := beq_eq_false_iff_ne.2 hne
  obtain ⟨a, ha⟩ : ∃ a, a = p + 32 := ⟨_, rfl⟩
  rw [← ha] at hs hd hne hne2 ⊢
  clear ha hp
  go_enter Tryd.func29, Tryd.ntmps29
  go_wp2_with fail
  refine (hs.out _).mono ?_
  rintro e w1 ⟨rfl, hb1⟩
  go_wp2
  go_ret
  exact ⟨rfl, (below1 _ _).trans (hb1.mono (by simp))⟩

theorem payload1_any (n p : Int) (w : World) : Calls Tryd.prog 25 #[kv n p] w fun e w' => e = .returned (.int .i64 p) ∧ Below w.heap.size w w' := by
  go_enter Tryd.func25, Tryd.ntmps25
  go_wp2
  go_ret
  exact ⟨rfl, below1 _ _⟩
theorem slot1_any (n : Int) (p : Nat) (w : World) (hp : p ≤ 256) : Calls Tryd.prog 26 #[kv n p] w fun e w' => e = .returned (.int .i64 ((p + 32 : Nat) : Int)) ∧ Below w.heap.size w w' := by
  have hs := Lib.hid (fun w => slot_any n p w hp)
  obtain ⟨a, ha⟩ : ∃ a, a = p + 32 := ⟨_, rfl⟩
  rw [← ha] at hs ⊢
  clear ha hp
  go_enter Tryd.func26, Tryd.ntmps26
  go_wp2_with fail
  refine (hs.out _).mono ?_
  rintro e w1 ⟨rfl, hb1⟩
  go_wp2
  go_ret
  exact ⟨rfl, (below1 _ _).trans (hb1.mono (by simp))⟩
theorem count1_any (n : Int) (p : Nat) (w : World) (hp : p ≤ 256) : Calls Tryd.prog 28 #[kv n p] w fun e w' => e = .returned (.int .i64 ((4096 / (p + 32) : Nat) : Int)) ∧ Below w.heap.size w w' := by
  have hs := Lib.hid (fun w => count_any n p w hp)
  obtain ⟨a, ha⟩ : ∃ a, a = 4096 / (p + 32) := ⟨_, rfl⟩
  rw [← ha] at hs ⊢
  clear ha hp
  go_enter Tryd.func28, Tryd.ntmps28
  go_wp2_with fail
  refine (hs.out _).mono ?_
  rintro e w1 ⟨rfl, hb1⟩
  go_wp2
  go_ret
  exact ⟨rfl, (below1 _ _).trans (hb1.mono (by simp))⟩

theorem told_no (n : Int) (g : Nat) (w : World) (hk : isK n = false) : Calls Tryd.prog 24 #[.int .i64 n, .func (.func g) #[] #[]] w fun e w' => e = .returned (.tuple #[.int .i64 0, .int .i64 2]) ∧ Below w.heap.size w w' := by
  have hkn := Lib.hid (fun w => known_any n w)
  have hko := Lib.hid (fun w => kindOf_no n w hk)
  rw [hk] at hkn
  clear hk
  go_enter Tryd.func24, Tryd.ntmps24
  go_wp2_with fail
  refine wp_scope_jump 1 fun R hR hG => ?_
  go_wp2_with fail
  refine (hko.out _).mono ?_
  rintro e w1 ⟨rfl, hb1⟩
  have hz := hb1.size
  go_wp2_with fail
  refine (hkn.out _).mono ?_
  rintro e w' ⟨rfl, rfl⟩
  go_wp2_with fail
  refine wp_goto (hG.out _ _ _ _ _ rfl ?_)
  go_wp2
  refine hR.out _ _ _ _ (by simp) ?_
  go_ret2
  exact ⟨rfl, hb1.alloc hz _⟩
theorem told_payload (k : Nat) (w : World) (ht : Tab w) (hk : k < 8) : Calls Tryd.prog 24 #[.int .i64 (k : Int), .func (.func 25) #[] #[]] w fun e w' => e = .returned (.tuple #[.int .i64 ((pay k : Nat)), .int .i64 0]) ∧ Below w.heap.size w w' := by
  have hkn := Lib.hid (fun w => known_any (k : Int) w)
  have hko := Lib.hid (kindOf_yes k w ht hk)
  have hg := Lib.hid (fun w => payload1_any (k : Int) (pay k) w)
  rw [isK_yes hk] at hkn
  obtain ⟨p, hp⟩ : ∃ p, p = pay k := ⟨_, rfl⟩
  rw [← hp] at hko hg ⊢
  clear hk hp ht
  go_enter Tryd.func24, Tryd.ntmps24
  go_wp2_with fail
  refine wp_scope_jump 1 fun R hR hG => ?_
  go_wp2_with fail
  refine (hko.out).mono ?_
  rintro e w1 ⟨rfl, hb1⟩
  have hz := hb1.size
  go_wp2_with fail
  refine (hkn.out _).mono ?_
  rintro e w' ⟨rfl, rfl⟩
  go_wp2_with fail
  refine (hg.out _).mono ?_
  rintro e w2 ⟨rfl, hb2⟩
  go_wp2
  refine hR.out _ _ _ _ (by simp) ?_
  go_ret2
  exact ⟨rfl, (hb1.alloc hz _).trans (hb2.mono (by simp; omega))⟩
theorem told_slot (k : Nat) (w : World) (ht : Tab w) (hk : k < 8) : Calls Tryd.prog 24 #[.int .i64 (k : Int), .func (.func 26) #[] #[]] w fun e w' => e = .returned (.tuple #[.int .i64 ((pay k + 32 : Nat)), .int .i64 0]) ∧ Below w.heap.size w w' := by
  have hkn := Lib.hid (fun w => known_any (k : Int) w)
  have hko := Lib.hid (kindOf_yes k w ht hk)
  have hg := Lib.hid (fun w => slot1_any (k : Int) (pay k) w (pay_bound hk).2.1)
  rw [isK_yes hk] at hkn
  obtain ⟨r, hr⟩ : ∃ r : Int, r = (pay k + 32 : Nat) := ⟨_, rfl⟩
  rw [← hr] at hg ⊢
  obtain ⟨p, hp⟩ : ∃ p, p = pay k := ⟨_, rfl⟩
  rw [← hp] at hko hg
  clear hk hp hr ht
  go_enter Tryd.func24, Tryd.ntmps24
  go_wp2_with fail
  refine wp_scope_jump 1 fun R hR hG => ?_
  go_wp2_with fail
  refine (hko.out).mono ?_
  rintro e w1 ⟨rfl, hb1⟩
  have hz := hb1.size
  go_wp2_with fail
  refine (hkn.out _).mono ?_
  rintro e w' ⟨rfl, rfl⟩
  go_wp2_with fail
  refine (hg.out _).mono ?_
  rintro e w2 ⟨rfl, hb2⟩
  go_wp2
  refine hR.out _ _ _ _ (by simp) ?_
  go_ret2
  exact ⟨rfl, (hb1.alloc hz _).trans (hb2.mono (by simp; omega))⟩
theorem told_count (k : Nat) (w : World) (ht : Tab w) (hk : k < 8) : Calls Tryd.prog 24 #[.int .i64 (k : Int), .func (.func 28) #[] #[]] w fun e w' => e = .returned (.tuple #[.int .i64 ((4096 / (pay k + 32) : Nat)), .int .i64 0]) ∧ Below w.heap.size w w' := by
  have hkn := Lib.hid (fun w => known_any (k : Int) w)
  have hko := Lib.hid (kindOf_yes k w ht hk)
  have hg := Lib.hid (fun w => count1_any (k : Int) (pay k) w (pay_bound hk).2.1)
  rw [isK_yes hk] at hkn
  obtain ⟨r, hr⟩ : ∃ r : Int, r = (4096 / (pay k + 32) : Nat) := ⟨_, rfl⟩
  rw [← hr] at hg ⊢
  obtain ⟨p, hp⟩ : ∃ p, p = pay k := ⟨_, rfl⟩
  rw [← hp] at hko hg
  clear hk hp hr ht
  go_enter Tryd.func24, Tryd.ntmps24
  go_wp2_with fail
  refine wp_scope_jump 1 fun R hR hG => ?_
  go_wp2_with fail
  refine (hko.out).mono ?_
  rintro e w1 ⟨rfl, hb1⟩
  have hz := hb1.size
  go_wp2_with fail
  refine (hkn.out _).mono ?_
  rintro e w' ⟨rfl, rfl⟩
  go_wp2_with fail
  refine (hg.out _).mono ?_
  rintro e w2 ⟨rfl, hb2⟩
  go_wp2
  refine hR.out _ _ _ _ (by simp) ?_
  go_ret2
  exact ⟨rfl, (hb1.alloc hz _).trans (hb2.mono (by simp; omega))⟩
theorem payload_yes (k : Nat) (w : World) (ht : Tab w) (hk : k < 8) : Calls Tryd.prog 9 #[.int .i64 (k : Int)] w fun e w' => e = .returned (.tuple #[.int .i64 ((pay k : Nat)), .int .i64 0]) ∧ Below w.heap.size w w' := by
  have hg := Lib.hid (told_payload k w ht hk)
  obtain ⟨r, hr⟩ : ∃ r : Int, r = (pay k : Nat) := ⟨_, rfl⟩
  rw [← hr] at hg ⊢
  clear hk hr ht
  go_enter Tryd.func9, Tryd.ntmps9
  go_wp2_with fail
  refine (hg.out).mono ?_
  rintro e w1 ⟨rfl, hb1⟩
  go_wp2
  go_ret2
  exact ⟨rfl, hb1⟩
theorem payload_no (n : Int) (w : World) (hk : isK n = false) : Calls Tryd.prog 9 #[.int .i64 n] w fun e w' => e = .returned (.tuple #[.int .i64 0, .int .i64 2]) ∧ Below w.heap.size w w' := by
  have hg := Lib.hid (fun g => told_no n g w hk)
  clear hk
  go_enter Tryd.func9, Tryd.ntmps9
  go_wp2_with fail
  refine (hg.out _).mono ?_
  rintro e w1 ⟨rfl, hb1⟩
  go_wp2
  go_ret2
  exact ⟨rfl, hb1⟩
theorem slot_yes (k : Nat) (w : World) (ht : Tab w) (hk : k < 8) : Calls Tryd.prog 10 #[.int .i64 (k : Int)] w fun e w' => e = .returned (.tuple #[.int .i64 ((pay k + 32 : Nat)), .int .i64 0]) ∧ Below w.heap.size w w' := by
  have hg := Lib.hid (told_slot k w ht hk)
  obtain ⟨r, hr⟩ : ∃ r : Int, r = (pay k + 32 : Nat) := ⟨_, rfl⟩
  rw [← hr] at hg ⊢
  clear hk hr ht
  go_enter Tryd.func10, Tryd.ntmps10
  go_wp2_with fail
  refine (hg.out).mono ?_
  rintro e w1 ⟨rfl, hb1⟩
  go_wp2
  go_ret2
  exact ⟨rfl, hb1⟩
theorem slot_no (n : Int) (w : World) (hk : isK n = false) : Calls Tryd.prog 10 #[.int .i64 n] w fun e w' => e = .returned (.tuple #[.int .i64 0, .int .i64 2]) ∧ Below w.heap.size w w' := by
  have hg := Lib.hid (fun g => told_no n g w hk)
  clear hk
  go_enter Tryd.func10, Tryd.ntmps10
  go_wp2_with fail
  refine (hg.out _).mono ?_
  rintro e w1 ⟨rfl, hb1⟩
  go_wp2
  go_ret2
  exact ⟨rfl, hb1⟩
theorem count_yes (k : Nat) (w : World) (ht : Tab w) (hk : k < 8) : Calls Tryd.prog 11 #[.int .i64 (k : Int)] w fun e w' => e = .returned (.tuple #[.int .i64 ((4096 / (pay k + 32) : Nat)), .int .i64 0]) ∧ Below w.heap.size w w' := by
  have hg := Lib.hid (told_count k w ht hk)
  obtain ⟨r, hr⟩ : ∃ r : Int, r = (4096 / (pay k + 32) : Nat) := ⟨_, rfl⟩
  rw [← hr] at hg ⊢
  clear hk hr ht
  go_enter Tryd.func11, Tryd.ntmps11
  go_wp2_with fail
  refine (hg.out).mono ?_
  rintro e w1 ⟨rfl, hb1⟩
  go_wp2
  go_ret2
  exact ⟨rfl, hb1⟩
theorem count_no (n : Int) (w : World) (hk : isK n = false) : Calls Tryd.prog 11 #[.int .i64 n] w fun e w' => e = .returned (.tuple #[.int .i64 0, .int .i64 2]) ∧ Below w.heap.size w w' := by
  have hg := Lib.hid (fun g => told_no n g w hk)
  clear hk
  go_enter Tryd.func11, Tryd.ntmps11
  go_wp2_with fail
  refine (hg.out _).mono ?_
  rintro e w1 ⟨rfl, hb1⟩
  go_wp2
  go_ret2
  exact ⟨rfl, hb1⟩
end Go.Proofs.YtpnlddjobphjnaaDoor
