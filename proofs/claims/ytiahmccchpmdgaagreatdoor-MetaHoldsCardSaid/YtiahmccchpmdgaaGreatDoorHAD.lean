import Derived.Test.YtiahmccchpmdgaaGreatDoorHAA
import Derived.Lib.LaidTab
import Derived.IntWalk
import Derived.BigQuiet
import Derived.Deep.QuietTactic
import Derived.LoopTactic
import Derived.Shelf.RegionOpen
import Derived.Deep.RegionHeld3
import Derived.Test.YtiahmccchpmdgaaGreatDoorHAC
namespace Go.Proofs.YtiahmccchpmdgaaGreatDoor.Sz
open Go.RowKit
def pays : List Nat := [16, 32, 48, 64, 96, 128, 192, 256]
def pay (k : Nat) : Nat := pays.getD k 0
def payCells : Array Value := #[.int .i64 16, .int .i64 32, .int .i64 48, .int .i64 64, .int .i64 96, .int .i64 128, .int .i64 192, .int .i64 256]
theorem pay_cases {k : Nat} (h : k < 8) : (k = 0 ∧ pay k = 16) ∨ (k = 1 ∧ pay k = 32) ∨ (k = 2 ∧ pay k = 48) ∨ (k = 3 ∧ pay k = 64) ∨ (k = 4 ∧ pay k = 96) ∨ (k = 5 ∧ pay k = 128) ∨ (k = 6 ∧ pay k = 192) ∨ (k = 7 ∧ pay k = 256) := by
 rcases (show k = 0 ∨ k = 1 ∨ k = 2 ∨ k = 3 ∨ k = 4 ∨ k = 5 ∨ k = 6 ∨ k = 7 by omega) with rfl | rfl | rfl | rfl | rfl | rfl | rfl | rfl <;> simp [pay, pays]
theorem pay_bound {k : Nat} (h : k < 8) : 16 ≤ pay k ∧ pay k ≤ 256 ∧ pay k % 16 = 0 := by
 rcases pay_cases h with h | h | h | h | h | h | h | h <;> omega
def Tab (w : World) : Prop := ∃ t fr, w.heap[0]? = some (.cells payCells t fr)
theorem Tab.lt {w : World} (h : Tab w) : 0 < w.heap.size := by
 obtain ⟨t, fr, h⟩ := h
 exact (Array.getElem?_eq_some_iff.1 h).1
theorem Tab.same {w w' : World} (h : Tab w) (hb : w'.heap[0]? = w.heap[0]?) : Tab w' := by
 obtain ⟨t, fr, h⟩ := h
 exact ⟨t, fr, hb.trans h⟩
theorem Tab.below {w w' : World} (h : Tab w) (hb : Below w.heap.size w w') : Tab w' := h.same (hb.block _ h.lt)
theorem Tab.alloc {w : World} (h : Tab w) (o : Obj) : Tab (w.alloc o) := h.below ((Below.refl _ _).alloc (Nat.le_refl _) _)
theorem Tab.drewN {w : World} (h : Tab w) (n : Nat) : Tab (w.drewN n) := h
theorem Tab.of {w : World} (h : Lib.TabIs Tryz.prog w "pinfold/size.payloads" .i64 [16, 32, 48, 64, 96, 128, 192, 256]) : Tab w := by
 unfold Lib.TabIs World.var? at h
 have hg : Tryz.prog.globalNamed "pinfold/size.payloads" = some 0 := by kernel_rfl
 rw [hg] at h
 simp only [Option.bind_some] at h
 split at h
 ·rename_i cs t fr hh
  simp only [Option.some.injEq] at h
  subst h
  exact ⟨t, fr, hh⟩
 ·cases h
theorem Tab.cell {w : World} (h : Tab w) {k : Nat} (hk : k < 8) : w.cell? ⟨0, k, none⟩ = some (.int .i64 (pay k : Int)) := by
 obtain ⟨t, fr, h⟩ := h
 rw [cell_of_row _ _ k _ t fr h]
 rcases (show k = 0 ∨ k = 1 ∨ k = 2 ∨ k = 3 ∨ k = 4 ∨ k = 5 ∨ k = 6 ∨ k = 7 by omega) with rfl | rfl | rfl | rfl | rfl | rfl | rfl | rfl <;> simp [pay, pays, payCells]
theorem below1 (w : World) (o : Obj) : Below w.heap.size w (w.alloc o) := (Below.refl _ _).alloc (Nat.le_refl _) _
theorem below2 (w : World) (o p : Obj) : Below w.heap.size w ((w.alloc o).alloc p) := (below1 w o).alloc (by simp) _
abbrev kv (n p : Int) : Value := .agg #[.int .i64 n, .int .i64 p]
def isK (n : Int) : Bool := decide (0 ≤ n) && decide (n < 8)
theorem known_any (n : Int) (w : World) : Calls Tryz.prog 247 #[.int .i64 n] w fun e w' => e = .returned (.bool (isK n)) ∧ w = w' := by
 by_cases h0 : 0 ≤ n
 ·by_cases h8 : n < 8
  ·have e0 : decide (0 ≤ n) = true := decide_eq_true h0
   have e8 : decide (n < 8) = true := decide_eq_true h8
   go_enter Tryz.func247, Tryz.ntmps247
   go_wp2
   go_ret
   exact ⟨by rw [isK, e0, e8]; rfl, rfl⟩
  ·have e0 : decide (0 ≤ n) = true := decide_eq_true h0
   have e8 : decide (n < 8) = false := decide_eq_false h8
   go_enter Tryz.func247, Tryz.ntmps247
   go_wp2
   go_ret
   exact ⟨by rw [isK, e0, e8]; rfl, rfl⟩
 ·have e0 : decide (0 ≤ n) = false := decide_eq_false h0
  go_enter Tryz.func247, Tryz.ntmps247
  go_wp2
  go_ret
  exact ⟨by rw [isK, e0]; rfl, rfl⟩
theorem isK_yes {k : Nat} (h : k < 8) : isK (k : Int) = true := by simp [isK]; omega
set_option maxHeartbeats 400000 in
theorem kindOf_yes (k : Nat) (w : World) (ht : Tab w) (hk : k < 8) : Calls Tryz.prog 246 #[.int .i64 (k : Int)] w fun e w' => e = .returned (kv k (pay k)) ∧ Below w.heap.size w w' := by
 have hc : ∀ o p, ((w.alloc o).alloc p).cell? ⟨0, k, none⟩ = some (.int .i64 (pay k : Int)) := fun o p => ((ht.alloc o).alloc p).cell hk
 have hkn := Lib.hid (fun w => known_any (k : Int) w)
 rw [isK_yes hk] at hkn
 have hk0 : decide ((k : Int) < 8) = true := decide_eq_true (by omega)
 have hk1 : k < 8 := hk
 obtain ⟨p, hp⟩ : ∃ p, p = pay k := ⟨_, rfl⟩
 rw [← hp] at hc ⊢
 clear hp hk
 go_enter Tryz.func246, Tryz.ntmps246
 go_wp2_with fail
 refine (hkn.out _).mono ?_
 rintro e w1 ⟨rfl, rfl⟩
 go_wp2
 exact bodyPost_ret (v := kv k p) (by simp [results, Tryz.results246, go_sem]) rfl ⟨rfl, below2 _ _ _⟩
theorem kindOf_no (n : Int) (w : World) (hk : isK n = false) : Calls Tryz.prog 246 #[.int .i64 n] w fun e w' => e = .returned (kv n 0) ∧ Below w.heap.size w w' := by
 have hkn := Lib.hid (fun w => known_any n w)
 rw [hk] at hkn
 clear hk
 go_enter Tryz.func246, Tryz.ntmps246
 go_wp2_with fail
 refine (hkn.out _).mono ?_
 rintro e w1 ⟨rfl, rfl⟩
 go_wp2
 exact bodyPost_ret (v := kv n 0) (by simp [results, Tryz.results246, go_sem]) rfl ⟨rfl, below2 _ _ _⟩
theorem wrapI (a : Int) (h1 : -9223372036854775808 ≤ a) (h2 : a ≤ 9223372036854775807) : IntKind.i64.wrap a = a := IntWalk.i64_in a (by omega)
theorem slot_any (n : Int) (p : Nat) (w : World) (hp : p ≤ 256) : Calls Tryz.prog 176 #[kv n p] w fun e w' => e = .returned (.int .i64 ((p + 32 : Nat) : Int)) ∧ Below w.heap.size w w' := by
 have h1 : IntKind.i64.wrap (16 + (p : Int)) = ((16 + p : Nat) : Int) := wrapI ((16 + p : Nat) : Int) (by omega) (by omega)
 have h2 : IntKind.i64.wrap (((16 + p : Nat) : Int) + 16) = ((p + 32 : Nat) : Int) := by rw [wrapI _ (by omega) (by omega)]; omega
 obtain ⟨a, ha⟩ : ∃ a, a = 16 + p := ⟨_, rfl⟩
 obtain ⟨b, hb⟩ : ∃ b, b = p + 32 := ⟨_, rfl⟩
 rw [← ha] at h1 h2
 rw [← hb] at h2 ⊢
 clear ha hb hp
 go_enter Tryz.func176, Tryz.ntmps176
 go_wp2
 go_ret
 exact ⟨rfl, below1 _ _⟩
theorem div4096 (p : Nat) : IntKind.i64.wrap ((4096 : Int) / ((p : Nat) : Int)) = ((4096 / p : Nat) : Int) := by
 have : (4096 : Int) / ((p : Nat) : Int) = ((4096 / p : Nat) : Int) := rfl
 have hle := Nat.div_le_self 4096 p
 rw [this]
 obtain ⟨q, hq⟩ : ∃ q, q = 4096 / p := ⟨_, rfl⟩
 rw [← hq] at hle ⊢
 exact wrapI _ (by omega) (by omega)
theorem count_any (n : Int) (p : Nat) (w : World) (hp : p ≤ 256) : Calls Tryz.prog 178 #[kv n p] w fun e w' => e = .returned (.int .i64 ((4096 / (p + 32) : Nat) : Int)) ∧ Below w.heap.size w w' := by
 have hs := Lib.hid (fun w => slot_any n p w hp)
 have hd := div4096 (p + 32)
 have hne : ¬ ((p + 32 : Nat) : Int) = 0 := by omega
 have hne2 : (((p + 32 : Nat) : Int) == 0) = false := beq_eq_false_iff_ne.2 hne
 obtain ⟨a, ha⟩ : ∃ a, a = p + 32 := ⟨_, rfl⟩
 rw [← ha] at hs hd hne hne2 ⊢
 clear ha hp
 go_enter Tryz.func178, Tryz.ntmps178
 go_wp2_with fail
 refine (hs.out _).mono ?_
 rintro e w1 ⟨rfl, hb1⟩
 go_wp2
 go_ret
 exact ⟨rfl, (below1 _ _).trans (hb1.mono (by simp))⟩
theorem slot1_any (n : Int) (p : Nat) (w : World) (hp : p ≤ 256) : Calls Tryz.prog 175 #[kv n p] w fun e w' => e = .returned (.int .i64 ((p + 32 : Nat) : Int)) ∧ Below w.heap.size w w' := by
 have hs := Lib.hid (fun w => slot_any n p w hp)
 obtain ⟨a, ha⟩ : ∃ a, a = p + 32 := ⟨_, rfl⟩
 rw [← ha] at hs ⊢
 clear ha hp
 go_enter Tryz.func175, Tryz.ntmps175
 go_wp2_with fail
 refine (hs.out _).mono ?_
 rintro e w1 ⟨rfl, hb1⟩
 go_wp2
 go_ret
 exact ⟨rfl, (below1 _ _).trans (hb1.mono (by simp))⟩
theorem count1_any (n : Int) (p : Nat) (w : World) (hp : p ≤ 256) : Calls Tryz.prog 177 #[kv n p] w fun e w' => e = .returned (.int .i64 ((4096 / (p + 32) : Nat) : Int)) ∧ Below w.heap.size w w' := by
 have hs := Lib.hid (fun w => count_any n p w hp)
 obtain ⟨a, ha⟩ : ∃ a, a = 4096 / (p + 32) := ⟨_, rfl⟩
 rw [← ha] at hs ⊢
 clear ha hp
 go_enter Tryz.func177, Tryz.ntmps177
 go_wp2_with fail
 refine (hs.out _).mono ?_
 rintro e w1 ⟨rfl, hb1⟩
 go_wp2
 go_ret
 exact ⟨rfl, (below1 _ _).trans (hb1.mono (by simp))⟩
theorem told_no (n : Int) (g : Nat) (w : World) (hk : isK n = false) : Calls Tryz.prog 174 #[.int .i64 n, .func (.func g) #[] #[]] w fun e w' => e = .returned (.tuple #[.int .i64 0, .int .i64 2]) ∧ Below w.heap.size w w' := by
 have hkn := Lib.hid (fun w => known_any n w)
 have hko := Lib.hid (fun w => kindOf_no n w hk)
 rw [hk] at hkn
 clear hk
 go_enter Tryz.func174, Tryz.ntmps174
 go_wp2_with fail
 refine wp_scope_jump 1 fun R hR hG => ?_
 go_wp2_with fail
 refine (hko.out _).mono ?_
 rintro e w1 ⟨rfl, hb1⟩
 have hz := hb1.size
 go_wp2_with fail
 refine (hkn.out _).mono ?_
 rintro e w' ⟨rfl, rfl⟩
 go_wp2_with fail
 refine wp_goto (hG.out _ _ _ _ _ rfl ?_)
 go_wp2
 refine hR.out _ _ _ _ (by simp) ?_
 go_ret2
 exact ⟨rfl, hb1.alloc hz _⟩
theorem told_slot (k : Nat) (w : World) (ht : Tab w) (hk : k < 8) : Calls Tryz.prog 174 #[.int .i64 (k : Int), .func (.func 175) #[] #[]] w fun e w' => e = .returned (.tuple #[.int .i64 ((pay k + 32 : Nat)), .int .i64 0]) ∧ Below w.heap.size w w' := by
 have hkn := Lib.hid (fun w => known_any (k : Int) w)
 have hko := Lib.hid (kindOf_yes k w ht hk)
 have hg := Lib.hid (fun w => slot1_any (k : Int) (pay k) w (pay_bound hk).2.1)
 rw [isK_yes hk] at hkn
 obtain ⟨r, hr⟩ : ∃ r : Int, r = (pay k + 32 : Nat) := ⟨_, rfl⟩
 rw [← hr] at hg ⊢
 obtain ⟨p, hp⟩ : ∃ p, p = pay k := ⟨_, rfl⟩
 rw [← hp] at hko hg
 clear hk hp hr ht
 go_enter Tryz.func174, Tryz.ntmps174
 go_wp2_with fail
 refine wp_scope_jump 1 fun R hR hG => ?_
 go_wp2_with fail
 refine (hko.out).mono ?_
 rintro e w1 ⟨rfl, hb1⟩
 have hz := hb1.size
 go_wp2_with fail
 refine (hkn.out _).mono ?_
 rintro e w' ⟨rfl, rfl⟩
 go_wp2_with fail
 refine (hg.out _).mono ?_
 rintro e w2 ⟨rfl, hb2⟩
 go_wp2
 refine hR.out _ _ _ _ (by simp) ?_
 go_ret2
 exact ⟨rfl, (hb1.alloc hz _).trans (hb2.mono (by simp; omega))⟩
theorem told_count (k : Nat) (w : World) (ht : Tab w) (hk : k < 8) : Calls Tryz.prog 174 #[.int .i64 (k : Int), .func (.func 177) #[] #[]] w fun e w' => e = .returned (.tuple #[.int .i64 ((4096 / (pay k + 32) : Nat)), .int .i64 0]) ∧ Below w.heap.size w w' := by
 have hkn := Lib.hid (fun w => known_any (k : Int) w)
 have hko := Lib.hid (kindOf_yes k w ht hk)
 have hg := Lib.hid (fun w => count1_any (k : Int) (pay k) w (pay_bound hk).2.1)
 rw [isK_yes hk] at hkn
 obtain ⟨r, hr⟩ : ∃ r : Int, r = (4096 / (pay k + 32) : Nat) := ⟨_, rfl⟩
 rw [← hr] at hg ⊢
 obtain ⟨p, hp⟩ : ∃ p, p = pay k := ⟨_, rfl⟩
 rw [← hp] at hko hg
 clear hk hp hr ht
 go_enter Tryz.func174, Tryz.ntmps174
 go_wp2_with fail
 refine wp_scope_jump 1 fun R hR hG => ?_
 go_wp2_with fail
 refine (hko.out).mono ?_
 rintro e w1 ⟨rfl, hb1⟩
 have hz := hb1.size
 go_wp2_with fail
 refine (hkn.out _).mono ?_
 rintro e w' ⟨rfl, rfl⟩
 go_wp2_with fail
 refine (hg.out _).mono ?_
 rintro e w2 ⟨rfl, hb2⟩
 go_wp2
 refine hR.out _ _ _ _ (by simp) ?_
 go_ret2
 exact ⟨rfl, (hb1.alloc hz _).trans (hb2.mono (by simp; omega))⟩
theorem slot_yes (k : Nat) (w : World) (ht : Tab w) (hk : k < 8) : Calls Tryz.prog 88 #[.int .i64 (k : Int)] w fun e w' => e = .returned (.tuple #[.int .i64 ((pay k + 32 : Nat)), .int .i64 0]) ∧ Below w.heap.size w w' := by
 have hg := Lib.hid (told_slot k w ht hk)
 obtain ⟨r, hr⟩ : ∃ r : Int, r = (pay k + 32 : Nat) := ⟨_, rfl⟩
 rw [← hr] at hg ⊢
 clear hk hr ht
 go_enter Tryz.func88, Tryz.ntmps88
 go_wp2_with fail
 refine (hg.out).mono ?_
 rintro e w1 ⟨rfl, hb1⟩
 go_wp2
 go_ret2
 exact ⟨rfl, hb1⟩
theorem count_yes (k : Nat) (w : World) (ht : Tab w) (hk : k < 8) : Calls Tryz.prog 89 #[.int .i64 (k : Int)] w fun e w' => e = .returned (.tuple #[.int .i64 ((4096 / (pay k + 32) : Nat)), .int .i64 0]) ∧ Below w.heap.size w w' := by
 have hg := Lib.hid (told_count k w ht hk)
 obtain ⟨r, hr⟩ : ∃ r : Int, r = (4096 / (pay k + 32) : Nat) := ⟨_, rfl⟩
 rw [← hr] at hg ⊢
 clear hk hr ht
 go_enter Tryz.func89, Tryz.ntmps89
 go_wp2_with fail
 refine (hg.out).mono ?_
 rintro e w1 ⟨rfl, hb1⟩
 go_wp2
 go_ret2
 exact ⟨rfl, hb1⟩
theorem count_no (n : Int) (w : World) (hk : isK n = false) : Calls Tryz.prog 89 #[.int .i64 n] w fun e w' => e = .returned (.tuple #[.int .i64 0, .int .i64 2]) ∧ Below w.heap.size w w' := by
 have hg := Lib.hid (fun g => told_no n g w hk)
 clear hk
 go_enter Tryz.func89, Tryz.ntmps89
 go_wp2_with fail
 refine (hg.out _).mono ?_
 rintro e w1 ⟨rfl, hb1⟩
 go_wp2
 go_ret2
 exact ⟨rfl, hb1⟩
end Go.Proofs.YtiahmccchpmdgaaGreatDoor.Sz
namespace Go.Proofs.YtiahmccchpmdgaaGreatDoor.Wo
open Go.RowKit
def Tab (w : World) : Prop := ∃ t fr, w.heap[1]? = some (.cells #[.int .i64 1, .int .i64 2, .int .i64 4, .int .i64 8] t fr)
theorem Tab.lt {w : World} (h : Tab w) : 1 < w.heap.size := by
 obtain ⟨t, fr, h⟩ := h
 exact (Array.getElem?_eq_some_iff.1 h).1
theorem Tab.below {w w' : World} (h : Tab w) (hb : Below w.heap.size w w') : Tab w' := by
 have hl := h.lt
 obtain ⟨t, fr, h⟩ := h
 exact ⟨t, fr, (hb.block _ hl).trans h⟩
theorem Tab.alloc {w : World} (h : Tab w) (o : Obj) : Tab (w.alloc o) := h.below ((Below.refl _ _).alloc (Nat.le_refl _) _)
theorem Tab.drewN {w : World} (h : Tab w) (n : Nat) : Tab (w.drewN n) := h
theorem Tab.of {w : World} (h : Lib.TabIs Tryz.prog w "pinfold/word.widths" .i64 [1, 2, 4, 8]) : Tab w := by
 unfold Lib.TabIs World.var? at h
 have hg : Tryz.prog.globalNamed "pinfold/word.widths" = some 1 := by kernel_rfl
 rw [hg] at h
 simp only [Option.bind_some] at h
 split at h
 ·rename_i cs t fr hh
  simp only [Option.some.injEq] at h
  subst h
  exact ⟨t, fr, hh⟩
 ·cases h
theorem widths_size : (Tryz.prog.info? 339).map (·.size) = some (#[Value.int .i64 1, .int .i64 2, .int .i64 4, .int .i64 8] : Array Value).size := by kernel_rfl
def wid (n : Int) : Bool := n == 1 || n == 2 || n == 4 || n == 8
def widFrom (n : Int) (k : Nat) : Bool := ([1, 2, 4, 8].drop k).any fun x => n == x
theorem wid_start (n : Int) : wid n = widFrom n 0 := by simp [wid, widFrom, Bool.or_assoc]
theorem wid_end {n : Int} (h : wid n = widFrom n 4) : wid n = false := h
theorem wid_here {n x : Int} {k : Nat} (hx : [1, 2, 4, 8][k]? = some x) (h : (n == x) = true) (hk : wid n = widFrom n k) : wid n = true := by
 rw [hk]
 unfold widFrom
 rw [List.any_eq_true]
 refine ⟨x, ?_, h⟩
 rw [List.mem_iff_getElem?]
 exact ⟨0, by simpa using hx⟩
theorem wid_step {n x : Int} {k : Nat} (hx : [1, 2, 4, 8][k]? = some x) (h : (n == x) = false) (hk : wid n = widFrom n k) : Hid (wid n = widFrom n (k + 1)) := by
 show wid n = _
 rw [hk]
 unfold widFrom
 obtain ⟨hl, rfl⟩ := List.getElem?_eq_some_iff.1 hx
 rw [List.drop_eq_getElem_cons hl, List.any_cons, h, Bool.false_or]
set_option maxHeartbeats 400000 in
theorem wknown_any (n : Int) (w : World) (ht : Tab w) : Calls Tryz.prog 267 #[.int .i64 n] w fun e w' => e = .returned (.bool (wid n)) ∧ w = w' := by
 obtain ⟨t, fr, ht⟩ := ht
 have i0 : ∀ w, (Instr.index 339 (.agg #[.int .i64 1, .int .i64 2, .int .i64 4, .int .i64 8]) (.int .i64 0)).run Tryz.prog w = .ok (.int .i64 1) w := fun _ => by kernel_rfl
 have i1 : ∀ w, (Instr.index 339 (.agg #[.int .i64 1, .int .i64 2, .int .i64 4, .int .i64 8]) (.int .i64 1)).run Tryz.prog w = .ok (.int .i64 2) w := fun _ => by kernel_rfl
 have i2 : ∀ w, (Instr.index 339 (.agg #[.int .i64 1, .int .i64 2, .int .i64 4, .int .i64 8]) (.int .i64 2)).run Tryz.prog w = .ok (.int .i64 4) w := fun _ => by kernel_rfl
 have i3 : ∀ w, (Instr.index 339 (.agg #[.int .i64 1, .int .i64 2, .int .i64 4, .int .i64 8]) (.int .i64 3)).run Tryz.prog w = .ok (.int .i64 8) w := fun _ => by kernel_rfl
 go_enter Tryz.func267, Tryz.ntmps267
 go_wp2_with (refine wpList_load_row rfl 339 _ rfl 1 rfl t _ fr _ ht Tryz.underlying339 rfl widths_size ?_)
 go_loop [6] (fun i => ∃ k : Nat, k ≤ 4 ∧ i = .int .i64 k ∧ Hid (wid n = widFrom n k)) (fun i => 4 - (intOf i).toNat)
 case atStart => exact ⟨0, by omega, rfl, wid_start n⟩
 case round =>
  obtain ⟨k, hk, rfl, H⟩ := hrel
  rcases (show k = 0 ∨ k = 1 ∨ k = 2 ∨ k = 3 ∨ k = 4 by omega) with rfl | rfl | rfl | rfl | rfl
  all_goals go_wp2
  all_goals first
   | (go_ret; exact ⟨by rw [wid_end H.out]; rfl, rfl⟩)
   | (go_ret; exact ⟨by rw [wid_here rfl ‹_› H.out]; rfl, rfl⟩)
   | (go_round
      case rel => exact ⟨_, by omega, by go_num, wid_step rfl ‹_› H.out⟩
      case measure => simp [intOf])
end Go.Proofs.YtiahmccchpmdgaaGreatDoor.Wo
namespace Go.Proofs.YtiahmccchpmdgaaGreatDoor.Wo
open Go.RowKit
set_option maxHeartbeats 400000 in
theorem numberOf_any (n k : Int) (w : World) : Calls Tryz.prog 266 #[.int .u64 n, .int .i64 k] w fun e w' => e = .returned (.agg #[.int .i64 k, .int .u64 n]) ∧ Below w.heap.size w w' := by
 go_enter Tryz.func266, Tryz.ntmps266
 go_wp2
 exact bodyPost_ret (v := .agg #[.int .i64 k, .int .u64 n]) (by simp [results, Tryz.results266, go_sem]) rfl ⟨rfl, ((Below.refl _ _).alloc (Nat.le_refl _) _)⟩
theorem top1 (w : World) : Calls Tryz.prog 277 #[.int .i64 1] w fun e w' => e = .returned (.int .u64 255) ∧ w = w' := by
 go_enter Tryz.func277, Tryz.ntmps277
 go_wp2
 go_ret
 exact ⟨rfl, rfl⟩
theorem top2 (w : World) : Calls Tryz.prog 277 #[.int .i64 2] w fun e w' => e = .returned (.int .u64 65535) ∧ w = w' := by
 go_enter Tryz.func277, Tryz.ntmps277
 go_wp2
 go_ret
 exact ⟨rfl, rfl⟩
theorem top4 (w : World) : Calls Tryz.prog 277 #[.int .i64 4] w fun e w' => e = .returned (.int .u64 4294967295) ∧ w = w' := by
 go_enter Tryz.func277, Tryz.ntmps277
 go_wp2
 go_ret
 exact ⟨rfl, rfl⟩
theorem top8 (w : World) : Calls Tryz.prog 277 #[.int .i64 8] w fun e w' => e = .returned (.int .u64 18446744073709551615) ∧ w = w' := by
 go_enter Tryz.func277, Tryz.ntmps277
 go_wp2
 go_ret
 exact ⟨rfl, rfl⟩
def topOf (k : Int) : Int := if k = 1 then 255 else if k = 2 then 65535 else if k = 4 then 4294967295 else 18446744073709551615
theorem wid_cases {k : Int} (h : wid k = true) : k = 1 ∨ k = 2 ∨ k = 4 ∨ k = 8 := by
 simp [wid] at h
 omega
theorem top_any (k : Int) (w : World) (h : wid k = true) : Calls Tryz.prog 277 #[.int .i64 k] w fun e w' => e = .returned (.int .u64 (topOf k)) ∧ w = w' := by
 rcases wid_cases h with rfl | rfl | rfl | rfl
 ·exact top1 w
 ·exact top2 w
 ·exact top4 w
 ·exact top8 w
set_option maxHeartbeats 400000 in
theorem fits_any (n k : Int) (w : World) (h : wid k = true) : Calls Tryz.prog 269 #[.agg #[.int .i64 k, .int .u64 n]] w fun e w' => e = .returned (.bool (decide (n ≤ topOf k))) ∧ Below w.heap.size w w' := by
 have ht : ∀ w : World, Hid (Calls Tryz.prog 277 #[.int .i64 k] w fun e w' => e = .returned (.int .u64 (topOf k)) ∧ w = w') := fun w => Lib.hid (top_any k w h)
 clear h
 go_enter Tryz.func269, Tryz.ntmps269
 go_wp2
 go_quiet ((go_at_call 277; exact quiet_l (ht _).out))
 go_wp2
 go_ret
 exact ⟨rfl, below_drewN ((Below.refl _ _).alloc (Nat.le_refl _) _) _⟩
def le : Nat → Nat → List UInt8
 | 0, _ => []
 | k + 1, n => UInt8.ofNat (n % 256) :: le k (n / 256)
theorem le_length : ∀ (k n : Nat), (le k n).length = k
 | 0, _ => rfl
 | k + 1, n => by simp [le, le_length k]
theorem le_get : ∀ (k n i : Nat) (h : i < k), (le k n)[i]'(by rw [le_length]; exact h) = UInt8.ofNat (n / 2 ^ (8 * i) % 256)
 | 0, _, i, h => absurd h (by omega)
 | k + 1, n, 0, _ => by simp [le]
 | k + 1, n, i + 1, h => by
  simp only [le, List.getElem_cons_succ]
  rw [le_get k (n / 256) i (by omega), Nat.div_div_eq_div_mul]
  congr 3
  rw [show 8 * (i + 1) = 8 + 8 * i by omega, Nat.pow_add]
theorem byte_info : (Tryz.prog.info? 5).map (fun i => (i.zero, i.size, i.bytes)) = some (some (.int .u8 0), 1, 1) := by kernel_rfl
theorem le_step {n k j : Nat} {xs : List Value} (_hk : k ≤ 8) (h : j < k) (hl : xs.length = k * 1) (H : xs.take j = byt ((le k n).take j)) :
  Hid ((xs.set j (.int .u8 ((n : Int) / 2 ^ (8 * j) % 256))).take (j + 1) = byt ((le k n).take (j + 1))) := by
 show _ = _
 rw [List.take_succ_eq_append_getElem (by simp; omega), List.getElem_set_self, List.take_set_of_le (Nat.le_refl _), H, List.take_succ_eq_append_getElem (by rw [le_length]; exact h), byt_append, le_get k n j h]
 simp [byt]
theorem le_end {n k j g cap : Nat} {xs : List Value} {w w' : World} (h : k ≤ j) (hl : xs.length = k * 1) (H : xs.take j = byt ((le k n).take j))
  (ho : w'.ownsRow (w.heap.size + 1) 5 1 (.slice (some ⟨g, 0, none⟩) k cap) k xs) : w'.ownsRow w.heap.size 5 1 (.slice (some ⟨g, 0, none⟩) k cap) k (byt (le k n)) := by
 rw [List.take_of_length_le (by omega), List.take_of_length_le (by rw [le_length]; exact h)] at H
 subst H
 obtain ⟨h1, h2 | ⟨g', c', cur, hv, hb, hr⟩⟩ := ho
 ·exact ⟨h1, .inl h2⟩
 ·exact ⟨h1, .inr ⟨g', c', cur, hv, by omega, hr⟩⟩
set_option maxHeartbeats 1000000 in
theorem bytes_any (n k : Nat) (w : World) (hk : k ≤ 8) : Calls Tryz.prog 270 #[.agg #[.int .i64 k, .int .u64 n]] w fun e w' => ∃ g cap, e = .returned (.slice (some ⟨g, 0, none⟩) k cap) ∧ w'.ownsRow w.heap.size 5 1 (.slice (some ⟨g, 0, none⟩) k cap) k (byt (le k n)) ∧ Below w.heap.size w w' := by
 obtain ⟨i0, hi, hz0, hz1, hz2⟩ := info_parts byte_info
 go_enter Tryz.func270, Tryz.ntmps270
 go_wp2_with (refine wpList_make_full _ rfl _ _ 62 rfl (w.heap.size + 1) 5 i0 _ 1 Tryz.underlying62 hi hz0 hz1 .i64 .i64 k k k rfl rfl rfl rfl (by rw [hz2]; omega) (by unfold maxLen; omega) (by simp) ?_; intro w1 hown1 hg1)
 have hbox : w1.cell? ⟨w.heap.size, 1, none⟩ = some (.int .u64 n) := by
  have := hg1.cell (a := ⟨w.heap.size, 1, none⟩) (v := .int .u64 n) (cell_alloc_new _ _ _ _) (by simp)
  exact this
 have hb1 : Below w.heap.size w w1 := ((Below.refl _ _).alloc (Nat.le_refl _) _).grown hg1 (by simp) (by simp)
 rw [World.size_alloc] at hown1
 clear hg1
 go_loopw [10] (fun i wr => ∃ (j : Nat) (xs : List Value), j ≤ k ∧ i = .int .i64 j ∧ wr.ownsRow (w.heap.size + 1) 5 1 (.slice (some ⟨w.heap.size + 1, 0, none⟩) k k) k xs ∧ Hid (xs.take j = byt ((le k n).take j)) ∧ wr.cell? ⟨w.heap.size, 1, none⟩ = some (.int .u64 n) ∧ Below w.heap.size w wr) (fun i _ => k - (intOf i).toNat)
 case atStart => exact ⟨0, _, Nat.zero_le _, rfl, hown1, rfl, hbox, hb1⟩
 case round =>
  obtain ⟨j, xs, hj, rfl, hown, H, hbx, hb⟩ := hrel
  have hlen := hown.1
  by_cases hlt : j < k
  ·have hcx : wr.cell? ⟨w.heap.size + 1, j, none⟩ = some (xs.getD j undef) := by
    rw [hown.cellAt j (by omega)]
    simp [show j < xs.length by omega]
   have hfx := hown.frozenAt j
   go_wp2
   go_roundw
   case rel => exact ⟨j + 1, _, by omega, by go_num, (hown.stored j _).1, le_step hk hlt hlen H.out, (World.cell?_setCell_other _ _ _ _ (by simp)).trans hbx, hb.setCell (by simp) _⟩
   case measure => simp [intOf]; omega
  ·go_wp2
   go_ret
   exact ⟨_, _, rfl, le_end (by omega) hlen H.out hown, hb⟩
end Go.Proofs.YtiahmccchpmdgaaGreatDoor.Wo
namespace Go.Proofs.YtiahmccchpmdgaaGreatDoor.Wo
open Go.RowKit
def leVal : List UInt8 → Nat
 | [] => 0
 | b :: l => b.toNat + 256 * leVal l
theorem wrap_u64 (n : Nat) (h : n < 18446744073709551616) : IntKind.u64.wrap (n : Int) = (n : Int) := by
 simp [IntKind.wrap, IntKind.bits, IntKind.signed]
 omega
theorem leVal_snoc : ∀ (l : List UInt8) (b : UInt8), leVal (l ++ [b]) = leVal l + b.toNat * 2 ^ (8 * l.length)
 | [], b => by simp [leVal]
 | c :: l, b => by
  simp only [List.cons_append, leVal, leVal_snoc l b, List.length_cons]
  rw [show 8 * (l.length + 1) = 8 + 8 * l.length by omega, Nat.pow_add, Nat.mul_add]
  have : b.toNat * (2 ^ 8 * 2 ^ (8 * l.length)) = 256 * (b.toNat * 2 ^ (8 * l.length)) := by
   rw [Nat.mul_left_comm]
  omega
theorem leVal_lt : ∀ (l : List UInt8), leVal l < 2 ^ (8 * l.length)
 | [] => by simp [leVal]
 | b :: l => by
  have h := leVal_lt l
  have hb := b.toNat_lt
  simp only [leVal, List.length_cons]
  rw [show 8 * (l.length + 1) = 8 + 8 * l.length by omega, Nat.pow_add]
  omega
theorem pow_le8 {k : Nat} (h : k ≤ 8) : 2 ^ (8 * k) ≤ 18446744073709551616 := by
 have : 2 ^ (8 * k) ≤ 2 ^ 64 := Nat.pow_le_pow_right (by omega) (by omega)
 simpa using this
theorem or_step {l : List UInt8} {k : Nat} (h8 : l.length ≤ 8) (hk : k < l.length) :
  bits .or .u64 (leVal (l.take k)) (IntKind.u64.wrap (IntKind.u64.wrap (l[k].toNat : Int) * 2 ^ (8 * k))) = (leVal (l.take (k + 1)) : Int) := by
 have hb : l[k].toNat < 256 := l[k].toNat_lt
 have hl : (l.take k).length = k := by simp; omega
 have h1 := leVal_lt (l.take k)
 have h3 := leVal_lt (l.take (k + 1))
 rw [hl] at h1
 rw [show (l.take (k + 1)).length = k + 1 by simp; omega] at h3
 have h4 := pow_le8 (k := k + 1) (by omega)
 have h5 := pow_le8 (k := k) (by omega)
 rw [List.take_succ_eq_append_getElem hk, leVal_snoc, hl] at h3 ⊢
 rw [wrap_u64 _ (by omega)]
 have e : (l[k].toNat : Int) * 2 ^ (8 * k) = ((l[k].toNat * 2 ^ (8 * k) : Nat) : Int) := by simp
 rw [e, wrap_u64 _ (by omega), u64_or_nat _ _ (by omega) (by omega), Nat.or_comm, nat_join (8 * k) _ _ (by simp) h1]
 congr 1
 omega
set_option maxHeartbeats 1000000 in
theorem get_ok (l : List UInt8) (n c B : Nat) (A : Option Addr) (w : World) (ht : Tab w) (hn : l.length = n) (hk : wid n = true) (hr : Sees w B A (byt l)) (hB : B ≤ w.heap.size) : Calls Tryz.prog 213 #[.slice A n c] w fun e w' => e = .returned (.tuple #[.int .u64 (leVal l), .int .i64 0]) ∧ Below w.heap.size w w' := by
 have hk8 : n ≤ 8 := by have := wid_cases hk; omega
 have Hk := Lib.hid hk
 clear hk
 subst hn
 go_enter Tryz.func213, Tryz.ntmps213
 go_wp2_with fail
 refine wp_scope_jump 1 fun R hR hJ => ?_
 go_wp2_with fail
 refine (numberOf_any _ _ _).mono ?_
 rintro e w1 ⟨rfl, hb1⟩
 have ht1 := ht.below hb1
 go_wp2_with fail
 refine (wknown_any _ _ (ht1.alloc _)).mono ?_
 rintro e w2 ⟨rfl, rfl⟩
 rw [Hk.out]
 go_wp2_with fail
 have hs := hb1.size
 have hr1 : Sees (w1.alloc (.cells #[.int .i64 l.length, .int .u64 0] 331)) B A (byt l) := (hr.below (hb1.mono hB)).alloc (by omega) _
 have hb2 : Below w.heap.size w (w1.alloc (.cells #[.int .i64 l.length, .int .u64 0] 331)) := hb1.alloc hb1.size _
 obtain ⟨w2, hw2⟩ : ∃ w2, w2 = w1.alloc (.cells #[.int .i64 l.length, .int .u64 0] 331) := ⟨_, rfl⟩
 have hx : w2.cell? ⟨w1.heap.size, 1, none⟩ = some (.int .u64 0) := by rw [hw2]; exact cell_alloc_new _ _ _ _
 have hf : w2.frozen? ⟨w1.heap.size, 1, none⟩ = false := by rw [hw2]; exact frozen_alloc_new _ _ _ _
 have hw2s : w1.heap.size < w2.heap.size := by rw [hw2]; simp
 rw [← hw2] at hr1 hb2 ⊢
 clear hw2
 go_loopw [16] (fun i wr => ∃ k : Nat, k ≤ l.length ∧ i = .int .i64 k ∧ wr.cell? ⟨w1.heap.size, 1, none⟩ = some (.int .u64 (leVal (l.take k))) ∧ wr.frozen? ⟨w1.heap.size, 1, none⟩ = false ∧ Sees wr B A (byt l) ∧ Below w.heap.size w wr) (fun i _ => l.length - (intOf i).toNat)
 case atStart => exact ⟨0, Nat.zero_le _, rfl, hx, hf, hr1, hb2⟩
 case round =>
  obtain ⟨k, hk, rfl, hx, hf, hr, hb⟩ := hrel
  by_cases hlt : k < l.length
  ·obtain ⟨ad, rfl, _, hc⟩ := hr.byte hlt
   go_wp2
   go_region
   rw [or_step hk8 hlt]
   go_wp2
   go_roundw
   case rel => exact ⟨k + 1, by omega, by go_num, World.cell?_setCell_same' _ _ _ (by rw [hx]; rfl), by rw [← hf]; exact World.frozen?_setCell _ _ _ _, (hr.setCell (by simp; omega) _).drew, (hb.setCell (by simp; omega) _).drew⟩
   case measure => simp [intOf]; omega
  ·have hk' : l.length ≤ k := by omega
   have Hl : Hid (leVal (l.take k) = leVal l) := Lib.hid (by rw [List.take_of_length_le hk'])
   go_wp2
   refine hR.out _ _ _ _ (by simp) ?_
   go_ret2
   exact ⟨by rw [← Hl.out]; rfl, hb⟩
end Go.Proofs.YtiahmccchpmdgaaGreatDoor.Wo
namespace Go.Proofs.YtiahmccchpmdgaaGreatDoor.Me
open Go.RowKit Go.Shelf
attribute [local go_sem] Oper.semAt_some
def isB (n b : Int) : Bool := decide (0 ≤ n) && decide (n < b)
theorem isB_yes {k n : Nat} (h : k < n) : isB (k : Int) (n : Int) = true := by simp [isB]; omega
def pays : List Nat := [16, 32, 48, 64, 96, 128, 192, 256]
def pay (k : Nat) : Nat := pays.getD k 0
theorem pay_cases {k : Nat} (h : k < 8) : (k = 0 ∧ pay k = 16) ∨ (k = 1 ∧ pay k = 32) ∨ (k = 2 ∧ pay k = 48) ∨ (k = 3 ∧ pay k = 64) ∨ (k = 4 ∧ pay k = 96) ∨ (k = 5 ∧ pay k = 128) ∨ (k = 6 ∧ pay k = 192) ∨ (k = 7 ∧ pay k = 256) := by
 rcases (show k = 0 ∨ k = 1 ∨ k = 2 ∨ k = 3 ∨ k = 4 ∨ k = 5 ∨ k = 6 ∨ k = 7 by omega) with rfl | rfl | rfl | rfl | rfl | rfl | rfl | rfl <;> simp [pay, pays]
theorem pay_bound {k : Nat} (h : k < 8) : 16 ≤ pay k ∧ pay k ≤ 256 ∧ pay k % 16 = 0 := by
 rcases pay_cases h with h | h | h | h | h | h | h | h <;> omega
def cnt (c : Nat) : Nat := 4096 / (pay c + 32)
theorem cnt_cases {c : Nat} (h : c < 8) : (pay c = 16 ∧ cnt c = 85) ∨ (pay c = 32 ∧ cnt c = 64) ∨ (pay c = 48 ∧ cnt c = 51) ∨ (pay c = 64 ∧ cnt c = 42) ∨ (pay c = 96 ∧ cnt c = 32) ∨ (pay c = 128 ∧ cnt c = 25) ∨ (pay c = 192 ∧ cnt c = 18) ∨ (pay c = 256 ∧ cnt c = 14) := by
 unfold cnt
 rcases pay_cases h with ⟨_, h⟩ | ⟨_, h⟩ | ⟨_, h⟩ | ⟨_, h⟩ | ⟨_, h⟩ | ⟨_, h⟩ | ⟨_, h⟩ | ⟨_, h⟩ <;> rw [h] <;> omega
theorem cnt_le {c : Nat} (h : c < 8) : 1 ≤ cnt c ∧ cnt c ≤ 85 ∧ cnt c * (pay c + 32) ≤ 4096 := by
 rcases cnt_cases h with h | h | h | h | h | h | h | h <;> rw [h.1, h.2] <;> omega
def okS (s c i : Nat) : Prop := s < 4 ∧ c < 8 ∧ i < cnt c
def atS (s c i : Nat) : Nat := 256 * (4096 * s + 4097 + 17 * c) + i * (pay c + 32) + 16
theorem off_lt {c i : Nat} (hc : c < 8) (hi : i < cnt c) : i * (pay c + 32) + 48 ≤ 4096 := by
 have h1 := (cnt_le hc).2.2
 have h2 := (pay_bound hc).1
 have h3 : (i + 1) * (pay c + 32) ≤ cnt c * (pay c + 32) := Nat.mul_le_mul_right _ hi
 rw [Nat.succ_mul] at h3
 omega
theorem atS_inj {s c i s' c' i' : Nat} (h : okS s c i) (h' : okS s' c' i') (e : atS s c i = atS s' c' i') : s = s' ∧ c = c' ∧ i = i' := by
 have h1 := off_lt h.2.1 h.2.2
 have h2 := off_lt h'.2.1 h'.2.2
 obtain ⟨a1, a2, _⟩ := h
 obtain ⟨b1, b2, _⟩ := h'
 unfold atS at e
 obtain ⟨d, hd⟩ : ∃ d, d = i * (pay c + 32) := ⟨_, rfl⟩
 obtain ⟨d', hd'⟩ : ∃ d', d' = i' * (pay c' + 32) := ⟨_, rfl⟩
 rw [← hd] at h1 e
 rw [← hd'] at h2 e
 have hs : s = s' := by omega
 subst hs
 have hc : c = c' := by omega
 subst hc
 have he : d = d' := by omega
 rw [hd, hd'] at he
 exact ⟨rfl, rfl, Nat.eq_of_mul_eq_mul_right (by omega) he⟩
open Classical in
noncomputable def findS (a : Nat) : Option (Nat × Nat × Nat) := if h : ∃ p : Nat × Nat × Nat, okS p.1 p.2.1 p.2.2 ∧ atS p.1 p.2.1 p.2.2 = a then some h.choose else none
theorem findS_some {s c i a : Nat} (h : okS s c i) (e : atS s c i = a) : findS a = some (s, c, i) := by
 have hx : ∃ p : Nat × Nat × Nat, okS p.1 p.2.1 p.2.2 ∧ atS p.1 p.2.1 p.2.2 = a := ⟨(s, c, i), h, e⟩
 unfold findS
 rw [dif_pos hx]
 obtain ⟨h1, h2⟩ := hx.choose_spec
 obtain ⟨e1, e2, e3⟩ := atS_inj h1 h (h2.trans e.symm)
 congr 1
 exact Prod.ext e1 (Prod.ext e2 e3)
theorem findS_none {a : Nat} (h : ∀ s c i, okS s c i → atS s c i ≠ a) : findS a = none := by
 unfold findS
 rw [dif_neg]
 rintro ⟨p, h1, h2⟩
 exact h _ _ _ h1 h2
theorem find_odd : findS 1048849 = none := by
 refine findS_none fun s c i h e => ?_
 obtain ⟨h1, h2, h3⟩ := h
 unfold atS at e
 rcases cnt_cases h2 with h | h | h | h | h | h | h | h <;> rw [h.1] at e <;> omega
theorem find_first : findS 1048848 = some (0, 0, 0) := findS_some ⟨by omega, by omega, by have := (cnt_le (c := 0) (by omega)).1; omega⟩ rfl
end Go.Proofs.YtiahmccchpmdgaaGreatDoor.Me
namespace Go.Proofs.YtiahmccchpmdgaaGreatDoor.Me
open Go.RowKit Go.Shelf
attribute [local go_sem] Oper.semAt_some
abbrev spV (s c i : Int) : Value := .agg #[.int .i64 s, .int .i64 c, .int .i64 i]
def asksS (s c i : Int) : Int := if isB s 4 = true ∧ isB c 8 = true then (if i < 0 ∨ (cnt c.toNat : Int) ≤ i then 4 else 0) else 2
theorem num_any (z : Int) (w : World) : Calls Tryz.prog 14 #[.int .i64 z] w fun e w' => e = .returned (.int .i64 z) ∧ w = w' := by
 go_enter Tryz.func14, Tryz.ntmps14
 go_wp2_with fail
 go_ret
 exact ⟨rfl, rfl⟩
theorem isB_nat {n : Int} {b : Nat} (h : isB n (b : Int) = true) : ∃ k : Nat, n = (k : Int) ∧ k < b := by
 unfold isB at h
 simp only [Bool.and_eq_true, decide_eq_true_eq] at h
 exact ⟨n.toNat, by omega, by omega⟩
theorem asks_cases (s c i : Int) : (isB s 4 = false ∧ asksS s c i = 2) ∨ (isB s 4 = true ∧ isB c 8 = false ∧ asksS s c i = 2) ∨ (isB s 4 = true ∧ isB c 8 = true ∧ i < 0 ∧ asksS s c i = 4) ∨
  (∃ a k : Nat, s = (a : Int) ∧ c = (k : Int) ∧ a < 4 ∧ k < 8 ∧ ((∃ j : Nat, i = (j : Int) ∧ j < cnt k ∧ asksS s c i = 0) ∨ ((cnt k : Int) ≤ i ∧ asksS s c i = 4))) := by
 unfold asksS
 cases hs : isB s 4
 ·exact .inl ⟨rfl, by rw [if_neg (by simp)]⟩
 ·cases hc : isB c 8
  ·exact .inr (.inl ⟨rfl, rfl, by rw [if_neg (by simp)]⟩)
  ·rw [if_pos ⟨rfl, rfl⟩]
   by_cases h0 : i < 0
   ·exact .inr (.inr (.inl ⟨rfl, rfl, h0, by rw [if_pos (.inl h0)]⟩))
   ·obtain ⟨a, rfl, ha⟩ := isB_nat (b := 4) hs
    obtain ⟨k, rfl, hk⟩ := isB_nat (b := 8) hc
    refine .inr (.inr (.inr ⟨a, k, rfl, rfl, ha, hk, ?_⟩))
    rw [Int.toNat_natCast]
    by_cases h1 : (cnt k : Int) ≤ i
    ·exact .inr ⟨h1, by rw [if_pos (.inr h1)]⟩
    ·exact .inl ⟨i.toNat, by omega, by omega, by rw [if_neg (by omega)]⟩
end Go.Proofs.YtiahmccchpmdgaaGreatDoor.Me
namespace Go.Proofs.YtiahmccchpmdgaaGreatDoor.Me
open Go.RowKit Go.Shelf
attribute [local go_sem] Oper.semAt_some
theorem three_set {w w1 : World} {g : Nat} {t : TypeId} {x y z : Value} (hrow : Row w1 g t [x, y, z]) (hb : Below w.heap.size w w1) (hg : w.heap.size ≤ g) (a b c : Value) :
  (((w1.setCell ⟨g, 0, none⟩ a).setCell ⟨g, 1, none⟩ b).setCell ⟨g, 2, none⟩ c).cell? ⟨g, 0, none⟩ = some a ∧ (((w1.setCell ⟨g, 0, none⟩ a).setCell ⟨g, 1, none⟩ b).setCell ⟨g, 2, none⟩ c).cell? ⟨g, 1, none⟩ = some b ∧ (((w1.setCell ⟨g, 0, none⟩ a).setCell ⟨g, 1, none⟩ b).setCell ⟨g, 2, none⟩ c).cell? ⟨g, 2, none⟩ = some c ∧ Below w.heap.size w (((w1.setCell ⟨g, 0, none⟩ a).setCell ⟨g, 1, none⟩ b).setCell ⟨g, 2, none⟩ c) := by
 have h := ((hrow.set 0 a).set 1 b).set 2 c
 exact ⟨h.cell 0, h.cell 1, h.cell 2, ((hb.setCell hg _).setCell hg _).setCell hg _⟩
def NoS (A a k j : Nat) : Prop := ∀ s c i, okS s c i → (s < a ∨ (s = a ∧ (c < k ∨ (c = k ∧ i < j)))) → atS s c i ≠ A
theorem NoS.one {A a k j : Nat} (h : NoS A a k j) (hn : atS a k j ≠ A) : NoS A a k (j + 1) := by
 intro s c i hs hl
 by_cases he : s = a ∧ c = k ∧ i = j
 ·obtain ⟨rfl, rfl, rfl⟩ := he
  exact hn
 ·exact h s c i hs (by omega)
theorem NoS.all {A : Nat} (h : NoS A 4 0 0) : findS A = none := findS_none fun s c i hs => h s c i hs (.inl hs.1)
def fndV (o : Option (Nat × Nat × Nat)) : Value := match o with
 | some (s, c, i) => .tuple #[spV (s : Int) (c : Int) (i : Int), .int .i64 0]
 | none => .tuple #[spV 0 0 0, .int .i64 250]
end Go.Proofs.YtiahmccchpmdgaaGreatDoor.Me
namespace Go.Proofs.YtiahmccchpmdgaaGreatDoor.Me
open Go.RowKit Go.Shelf
attribute [local go_sem] Oper.semAt_some
abbrev Byts := Nat → UInt8
abbrev Bks := Nat → Option Byts
def zeroB : Byts := fun _ => 0
def upd (B : Bks) (s : Nat) (x : Option Byts) : Bks := fun k => if k = s then x else B k
def le2 (f : Byts) (o : Nat) : Nat := (f o).toNat + 256 * (f (o + 1)).toNat
def le4 (f : Byts) (o : Nat) : Nat := le2 f o + 65536 * le2 f (o + 2)
def putB (f : Byts) (o : Nat) (bs : List UInt8) : Byts := fun k => if o ≤ k ∧ k < o + bs.length then bs.getD (k - o) 0 else f k
def recAt (f : Byts) (o : Nat) : Option (Nat × Nat × Nat) := if (f o).toNat ≤ 4 ∧ f (o + 1) = 0 then some ((f o).toNat, le2 f (o + 2), le4 f (o + 4)) else none
def greatAt (f : Byts) (o : Nat) : Option (Nat × Nat × Nat × Nat) := if (f o).toNat ≤ 4 ∧ f (o + 1) = 0 ∧ le4 f (o + 4) ≤ 262144 ∧ le4 f (o + 8) ≤ 65535 ∧ le4 f (o + 12) = 0 then some ((f o).toNat, le2 f (o + 2), le4 f (o + 4), le4 f (o + 8)) else none
def by2 (n : Nat) : List UInt8 := [UInt8.ofNat n, UInt8.ofNat (n / 256)]
def by4 (n : Nat) : List UInt8 := by2 n ++ by2 (n / 65536)
def recB (st sz no : Nat) : List UInt8 := [UInt8.ofNat st, 0] ++ by2 sz ++ by4 no
def greatB (st pg sz fi : Nat) : List UInt8 := [UInt8.ofNat st, 0] ++ by2 pg ++ by4 sz ++ by4 fi ++ by4 0
def recO (c i : Nat) : Nat := 768 * c + 8 * i
def greatO (i : Nat) : Nat := 6144 + 16 * i
abbrev rcV (st sz : Int) (no : Nat) : Value := .agg #[.int .i64 st, .int .i64 sz, .int .u32 (no : Int)]
abbrev gtV (st pg sz fi : Int) : Value := .agg #[.int .i64 st, .int .i64 pg, .int .i64 sz, .int .i64 fi]
def rightR (st sz : Int) : Prop := 0 ≤ st ∧ st ≤ 4 ∧ 0 ≤ sz ∧ sz ≤ 65535
def rightG (st pg sz fi : Int) : Prop := 0 ≤ st ∧ st ≤ 4 ∧ 0 ≤ sz ∧ sz ≤ 262144 ∧ 0 ≤ pg ∧ pg ≤ 65535 ∧ 0 ≤ fi ∧ fi ≤ 65535
instance (st sz : Int) : Decidable (rightR st sz) := inferInstanceAs (Decidable (_ ∧ _))
instance (st pg sz fi : Int) : Decidable (rightG st pg sz fi) := inferInstanceAs (Decidable (_ ∧ _))
def openE (B : Bks) (s : Int) : Int := if (B s.toNat).isNone then 5 else 0
def getE (B : Bks) (s c i : Int) : Int := if asksS s c i ≠ 0 then asksS s c i else openE B s
def putE (B : Bks) (s c i st sz : Int) : Int := if asksS s c i = 2 ∨ ¬ rightR st sz then 2 else getE B s c i
def gasks (s i : Int) : Int := if isB s 4 = true then (if i < 0 ∨ 384 ≤ i then 4 else 0) else 2
def ggetE (B : Bks) (s i : Int) : Int := if gasks s i ≠ 0 then gasks s i else openE B s
def gputE (B : Bks) (s i st pg sz fi : Int) : Int := if gasks s i = 2 ∨ ¬ rightG st pg sz fi then 2 else ggetE B s i
def openA (B : Bks) (n : Nat) (s : Int) : Int := if isB s 4 = false then 2 else if (B s.toNat).isSome then 180 else if n < 48 then 171 else 0
def closeA (B : Bks) (s : Int) : Int := if isB s 4 = false then 2 else openE B s
abbrev HasT := World → Value → Bks → Nat → (Nat → Prop) → Prop
def Nx (Has : HasT) (w : World) (v : Value) (B : Bks) (n : Nat) (F : Nat → Prop) (w' : World) : Prop := ∃ F', Has w' v B n F' ∧ Keep F w w' ∧ ∀ k, F' k → F k ∨ w.heap.size ≤ k
structure MBase (T : World → Prop) (Has : HasT) : Prop where
 tb : ∀ {w w'}, T w → Below w.heap.size w w' → T w'
 keep : ∀ {w w' v B n F}, Has w v B n F → (∀ k, F k → w'.heap[k]? = w.heap[k]?) → Has w' v B n F
 lt : ∀ {w v B n F}, Has w v B n F → ∀ k, F k → k < w.heap.size
 ptr : ∀ {w v B n F}, Has w v B n F → ∃ ad, v = .pointer (some ad)
 atYes : ∀ {s c i : Nat} (w : World), T w → okS s c i → Calls Tryz.prog 12 #[spV (s : Int) (c : Int) (i : Int)] w fun e w' => e = .returned (.tuple #[.int .u32 (atS s c i : Int), .int .i64 0]) ∧ Below w.heap.size w w'
 atNo : ∀ {s c i : Int} (w : World), T w → asksS s c i ≠ 0 → Calls Tryz.prog 12 #[spV s c i] w fun e w' => e = .returned (.tuple #[.int .u32 0, .int .i64 (asksS s c i)]) ∧ Below w.heap.size w w'
 find : ∀ (a : Nat) (w : World), T w → a < 4294967296 → Calls Tryz.prog 16 #[.int .u32 (a : Int)] w fun e w' => e = .returned (fndV (findS a)) ∧ Below w.heap.size w w'
 new1 : ∀ (w : World), T w → Calls Tryz.prog 27 #[.int .i64 1] w fun e w' => ∃ v F, e = .returned (.tuple #[v, .int .i64 0]) ∧ Has w' v (fun _ => none) 0 F ∧ (∀ k, F k → w.heap.size ≤ k) ∧ Below w.heap.size w w'
 mem : ∀ (w : World), T w → Calls Tryz.prog 9 #[] w fun e w' => ∃ v F, e = .returned (.tuple #[v, .bool true]) ∧ Has w' v (fun _ => none) 100 F ∧ (∀ k, F k → w.heap.size ≤ k) ∧ Below w.heap.size w w'
 openYes : ∀ {w v B n F} (s : Nat), T w → Has w v B n F → openA B n (s : Int) = 0 → Calls Tryz.prog 18 #[v, .int .i64 (s : Int), .int .i64 63] w fun e w' => e = .returned (.int .i64 0) ∧ Nx Has w v (upd B s (some zeroB)) (n - 48) F w'
 openNo : ∀ {w v B n F} (s : Int), T w → Has w v B n F → openA B n s ≠ 0 → Calls Tryz.prog 18 #[v, .int .i64 s, .int .i64 63] w fun e w' => e = .returned (.int .i64 (openA B n s)) ∧ Nx Has w v B n F w'
 closeYes : ∀ {w v B n F} (s : Nat), T w → Has w v B n F → closeA B (s : Int) = 0 → Calls Tryz.prog 30 #[v, .int .i64 (s : Int)] w fun e w' => e = .returned (.int .i64 0) ∧ Nx Has w v (upd B s none) (n + 48) F w'
 closeNo : ∀ {w v B n F} (s : Int), T w → Has w v B n F → closeA B s ≠ 0 → Calls Tryz.prog 30 #[v, .int .i64 s] w fun e w' => e = .returned (.int .i64 (closeA B s)) ∧ Nx Has w v B n F w'
 getYes : ∀ {w v B n F f st sz no} (s c i : Nat), T w → Has w v B n F → okS s c i → B s = some f → recAt f (recO c i) = some (st, sz, no) → Calls Tryz.prog 21 #[v, spV (s : Int) (c : Int) (i : Int)] w fun e w' => e = .returned (.tuple #[rcV (st : Int) (sz : Int) no, .int .i64 0]) ∧ Nx Has w v B n F w'
 getBad : ∀ {w v B n F f} (s c i : Nat), T w → Has w v B n F → okS s c i → B s = some f → recAt f (recO c i) = none → Calls Tryz.prog 21 #[v, spV (s : Int) (c : Int) (i : Int)] w fun e w' => e = .returned (.tuple #[rcV 0 0 0, .int .i64 251]) ∧ Nx Has w v B n F w'
 getNo : ∀ {w v B n F} (s c i : Int), T w → Has w v B n F → getE B s c i ≠ 0 → Calls Tryz.prog 21 #[v, spV s c i] w fun e w' => e = .returned (.tuple #[rcV 0 0 0, .int .i64 (getE B s c i)]) ∧ Nx Has w v B n F w'
 putYes : ∀ {w v B n F f} (s c i st sz no : Nat), T w → Has w v B n F → okS s c i → st ≤ 4 → sz ≤ 65535 → no < 4294967296 → B s = some f → Calls Tryz.prog 23 #[v, spV (s : Int) (c : Int) (i : Int), rcV (st : Int) (sz : Int) no] w fun e w' => e = .returned (.int .i64 0) ∧ Nx Has w v (upd B s (some (putB f (recO c i) (recB st sz no)))) n F w'
 putNo : ∀ {w v B n F} (s c i st sz : Int) (no : Nat), T w → Has w v B n F → no < 4294967296 → putE B s c i st sz ≠ 0 → Calls Tryz.prog 23 #[v, spV s c i, rcV st sz no] w fun e w' => e = .returned (.int .i64 (putE B s c i st sz)) ∧ Nx Has w v B n F w'
 ggetYes : ∀ {w v B n F f st pg sz fi} (s i : Nat), T w → Has w v B n F → s < 4 → i < 384 → B s = some f → greatAt f (greatO i) = some (st, pg, sz, fi) → Calls Tryz.prog 22 #[v, .int .i64 (s : Int), .int .i64 (i : Int)] w fun e w' => e = .returned (.tuple #[gtV (st : Int) (pg : Int) (sz : Int) (fi : Int), .int .i64 0]) ∧ Nx Has w v B n F w'
 ggetBad : ∀ {w v B n F f} (s i : Nat), T w → Has w v B n F → s < 4 → i < 384 → B s = some f → greatAt f (greatO i) = none → Calls Tryz.prog 22 #[v, .int .i64 (s : Int), .int .i64 (i : Int)] w fun e w' => e = .returned (.tuple #[gtV 0 0 0 0, .int .i64 251]) ∧ Nx Has w v B n F w'
 ggetNo : ∀ {w v B n F} (s i : Int), T w → Has w v B n F → ggetE B s i ≠ 0 → Calls Tryz.prog 22 #[v, .int .i64 s, .int .i64 i] w fun e w' => e = .returned (.tuple #[gtV 0 0 0 0, .int .i64 (ggetE B s i)]) ∧ Nx Has w v B n F w'
 gputYes : ∀ {w v B n F f} (s i st pg sz fi : Nat), T w → Has w v B n F → s < 4 → i < 384 → rightG (st : Int) (pg : Int) (sz : Int) (fi : Int) → B s = some f → Calls Tryz.prog 24 #[v, .int .i64 (s : Int), .int .i64 (i : Int), gtV (st : Int) (pg : Int) (sz : Int) (fi : Int)] w fun e w' => e = .returned (.int .i64 0) ∧ Nx Has w v (upd B s (some (putB f (greatO i) (greatB st pg sz fi)))) n F w'
 gputNo : ∀ {w v B n F} (s i st pg sz fi : Int), T w → Has w v B n F → gputE B s i st pg sz fi ≠ 0 → Calls Tryz.prog 24 #[v, .int .i64 s, .int .i64 i, gtV st pg sz fi] w fun e w' => e = .returned (.int .i64 (gputE B s i st pg sz fi)) ∧ Nx Has w v B n F w'
 poke : ∀ {w v B n F f} (s o : Nat) (bs : List UInt8) (A : Option Addr) (ca : Nat), T w → Has w v B n F → s < 4 → B s = some f → o + bs.length ≤ 12288 → 1 ≤ bs.length → bs.length ≤ ca → bs.length ≤ 16 → Sees w w.heap.size A (byt bs) → (∀ ad, A = some ad → ¬ F ad.block) → Calls Tryz.prog 20 #[v, .int .u32 ((256 * (64 * s + 1) + o : Nat) : Int), .slice A bs.length ca] w fun e w' => e = .returned (.int .i64 0) ∧ Nx Has w v (upd B s (some (putB f o bs))) n F w'
 load : ∀ {w v B n F f} (s o owner : Nat), T w → Has w v B n F → s < 4 → owner < 4 → B s = some f → o < 48 → Calls Tryz.prog 25 #[v, .int .i64 (owner : Int), .int .u32 ((256 * (64 * s + 1 + o) : Nat) : Int), .int .i64 1] w fun e w' => ∃ x, e = .returned (.tuple #[x, .int .i64 190]) ∧ Nx Has w v B n F w'
 store : ∀ {w v B n F f} (s o owner : Nat) (A : Option Addr) (ca : Nat), T w → Has w v B n F → s < 4 → owner < 4 → B s = some f → o < 48 → Sees w w.heap.size A (byt [1]) → Calls Tryz.prog 26 #[v, .int .i64 (owner : Int), .int .u32 ((256 * (64 * s + 1 + o) : Nat) : Int), .slice A 1 ca] w fun e w' => e = .returned (.int .i64 190) ∧ Nx Has w v B n F w'
 nGet : ∀ w, T w → Calls Tryz.prog 21 #[.pointer none, spV 0 0 0] w fun e w' => e = .returned (.tuple #[rcV 0 0 0, .int .i64 1]) ∧ Below w.heap.size w w'
 nGget : ∀ w, T w → Calls Tryz.prog 22 #[.pointer none, .int .i64 0, .int .i64 0] w fun e w' => e = .returned (.tuple #[gtV 0 0 0 0, .int .i64 1]) ∧ Below w.heap.size w w'
 nOpen : ∀ w, T w → Calls Tryz.prog 18 #[.pointer none, .int .i64 0, .int .i64 0] w fun e w' => e = .returned (.int .i64 1) ∧ Below w.heap.size w w'
 nClose : ∀ w, T w → Calls Tryz.prog 30 #[.pointer none, .int .i64 0] w fun e w' => e = .returned (.int .i64 1) ∧ Below w.heap.size w w'
 nPut : ∀ w, T w → Calls Tryz.prog 23 #[.pointer none, spV 0 0 0, rcV 0 0 0] w fun e w' => e = .returned (.int .i64 1) ∧ Below w.heap.size w w'
 nGput : ∀ w, T w → Calls Tryz.prog 24 #[.pointer none, .int .i64 0, .int .i64 0, gtV 0 0 0 0] w fun e w' => e = .returned (.int .i64 1) ∧ Below w.heap.size w w'
theorem ok000 : okS 0 0 0 := ⟨by omega, by omega, by have := (cnt_le (c := 0) (by omega)).1; omega⟩
theorem ok001 : okS 0 0 1 := ⟨by omega, by omega, by have := cnt_cases (c := 0) (by omega); omega⟩
theorem asks_85 : asksS 0 0 85 = 4 := by rw [asksS, if_pos ⟨by decide, by decide⟩, if_pos]; right; rcases cnt_cases (c := 0) (by omega) with h | h | h | h | h | h | h | h <;> rw [show ((0 : Int).toNat) = 0 from rfl, h.2] <;> decide
theorem at_000 : atS 0 0 0 = 1048848 := rfl
theorem at_001 : atS 0 0 1 = 1048896 := rfl
set_option maxHeartbeats 2000000 in
theorem works_any {T : World → Prop} {Has : HasT} (H : MBase T Has) (w : World) (ht : T w) : Calls Tryz.prog 8 #[] w fun e w' => e = .returned (.bool true) ∧ Below w.heap.size w w' := by
 have HT := Lib.hid (fun W (hb : Below w.heap.size w W) => H.tb ht hb)
 have h1 := Lib.hid (fun W (hb : Below w.heap.size w W) => H.atYes W (HT.out W hb) ok000)
 have h2 := Lib.hid (fun W (hb : Below w.heap.size w W) => H.atYes W (HT.out W hb) ok001)
 have h3 := Lib.hid (fun W (hb : Below w.heap.size w W) => H.find 1048848 W (HT.out W hb) (by omega))
 have h4 := Lib.hid (fun W (hb : Below w.heap.size w W) => H.find 1048849 W (HT.out W hb) (by omega))
 have h5 := Lib.hid (fun W (hb : Below w.heap.size w W) => H.atNo (s := 0) (c := 0) (i := 85) W (HT.out W hb) (by rw [asks_85]; decide))
 have h6 := Lib.hid (fun W (hb : Below w.heap.size w W) => H.atNo (s := 4) (c := 0) (i := 0) W (HT.out W hb) (by decide))
 have h7 := Lib.hid (fun W (hb : Below w.heap.size w W) => H.new1 W (HT.out W hb))
 rw [asks_85] at h5
 rw [show asksS 4 0 0 = 2 by decide] at h6
 rw [at_000] at h1
 rw [at_001] at h2
 rw [find_first] at h3
 rw [find_odd] at h4
 simp only [fndV] at h3 h4
 have hb := Below.refl w.heap.size w
 clear ht
 go_enter Tryz.func8, Tryz.ntmps8
 go_wp2_with fail
 refine (h1.out _ hb).mono ?_
 rintro e w1 ⟨rfl, hb'⟩
 have hb := hb.trans (hb'.mono hb.size)
 clear hb'
 go_wp2_with fail
 refine (h2.out _ hb).mono ?_
 rintro e w2 ⟨rfl, hb'⟩
 have hb := hb.trans (hb'.mono hb.size)
 clear hb'
 go_wp2_with fail
 refine (h3.out _ hb).mono ?_
 rintro e w3 ⟨rfl, hb'⟩
 have hb := hb.trans (hb'.mono hb.size)
 clear hb'
 have hr3 := Row.new w3 37 [.int .i64 0, .int .i64 0, .int .i64 0]
 have hb := hb.alloc hb.size (.cells #[.int .i64 0, .int .i64 0, .int .i64 0] 37)
 go_wp2_with fail
 refine (h4.out _ hb).mono ?_
 rintro e w4 ⟨rfl, hb'⟩
 have hr4 := hr3.below hb'
 have hb := hb.trans (hb'.mono hb.size)
 clear hb' hr3
 have hr5 := hr4.below (below1 w4 (.cells #[.int .i64 0, .int .i64 0, .int .i64 0] 37))
 have hb := hb.alloc hb.size (.cells #[.int .i64 0, .int .i64 0, .int .i64 0] 37)
 clear hr4
 go_wp2_with fail
 refine (h5.out _ hb).mono ?_
 rintro e w5 ⟨rfl, hb'⟩
 have hr6 := hr5.below hb'
 have hb := hb.trans (hb'.mono hb.size)
 clear hb' hr5
 go_wp2_with fail
 refine (h6.out _ hb).mono ?_
 rintro e w6 ⟨rfl, hb'⟩
 have hr7 := hr6.below hb'
 have hb := hb.trans (hb'.mono hb.size)
 clear hb' hr6
 go_wp2_with fail
 refine (h7.out _ hb).mono ?_
 rintro e w7 ⟨v, F, rfl, hHas, hF, hb'⟩
 have hr8 := hr7.below hb'
 obtain ⟨ad, rfl⟩ := H.ptr hHas
 have hlF := hr7.lt
 have hsz6 := hb.size
 have h8 := Lib.hid (H.putNo 0 0 0 0 0 0 (HT.out _ (hb.trans (hb'.mono hb.size))) hHas (by decide) (by decide))
 rw [show putE (fun _ => none) 0 0 0 0 0 = 5 by decide] at h8
 have hb := hb.trans (hb'.mono hb.size)
 clear hr7 hHas
 go_wp2_with fail
 refine h8.out.mono ?_
 rintro e w8 ⟨rfl, F', _, hk, _⟩
 have hr9 : Row w8 w3.heap.size 37 [.int .i64 0, .int .i64 0, .int .i64 0] := hr8.same (hk.block _ hr8.lt (fun hf => by have := hF _ hf; omega))
 have hb := hb.trans (hk.below (fun k hf => Nat.le_trans hsz6 (hF k hf)) hb.size)
 have c0 : w8.cell? ⟨w3.heap.size, 0, none⟩ = some (.int .i64 0) := hr9.cell 0
 have c1 : w8.cell? ⟨w3.heap.size, 1, none⟩ = some (.int .i64 0) := hr9.cell 1
 have c2 : w8.cell? ⟨w3.heap.size, 2, none⟩ = some (.int .i64 0) := hr9.cell 2
 clear hr8 hr9 hk
 go_wp2_with fail
 refine (num_any _ _).mono ?_
 rintro e wx ⟨rfl, rfl⟩
 go_wp2_with fail
 refine (num_any _ _).mono ?_
 rintro e wx ⟨rfl, rfl⟩
 go_wp2_with fail
 refine (num_any _ _).mono ?_
 rintro e wx ⟨rfl, rfl⟩
 go_wp2_with fail
 refine (num_any _ _).mono ?_
 rintro e wx ⟨rfl, rfl⟩
 go_wp2_with fail
 refine (num_any _ _).mono ?_
 rintro e wx ⟨rfl, rfl⟩
 go_wp2_with fail
 refine (num_any _ _).mono ?_
 rintro e wx ⟨rfl, rfl⟩
 go_wp2_with fail
 refine (num_any _ _).mono ?_
 rintro e wx ⟨rfl, rfl⟩
 go_wp2_with fail
 refine (num_any _ _).mono ?_
 rintro e wx ⟨rfl, rfl⟩
 go_wp2_with fail
 go_ret
 exact ⟨rfl, hb⟩
end Go.Proofs.YtiahmccchpmdgaaGreatDoor.Me
namespace Go.Proofs.YtiahmccchpmdgaaGreatDoor.Me
open Go.RowKit Go.Shelf
attribute [local go_sem] Oper.semAt_some
def Tabs (w : World) : Prop := Sz.Tab w ∧ Wo.Tab w
theorem Tabs.below {w w' : World} (h : Tabs w) (hb : Below w.heap.size w w') : Tabs w' := ⟨h.1.below hb, h.2.below hb⟩
theorem pay_eq (c : Nat) : Sz.pay c = pay c := rfl
theorem isB_cases (n : Int) (b : Nat) : isB n (b : Int) = false ∨ ∃ k : Nat, n = (k : Int) ∧ k < b ∧ isB n (b : Int) = true := by
 rcases h : isB n (b : Int) with _ | _
 ·exact .inl rfl
 ·obtain ⟨k, e, hk⟩ := isB_nat h
  exact .inr ⟨k, e, hk, rfl⟩
abbrev roV (f k m : Int) : Value := .agg #[.int .u32 f, .int .i64 k, .int .i64 m]
theorem has_any (f k m i : Int) (w : World) : Calls Tryz.prog 42 #[roV f k m, .int .i64 i] w fun e w' => e = .returned (.bool (isB i m)) ∧ Below w.heap.size w w' := by
 by_cases h0 : 0 ≤ i
 ·have e0 : decide (0 ≤ i) = true := decide_eq_true h0
  obtain ⟨c, hc⟩ : ∃ c, decide (i < m) = c := ⟨_, rfl⟩
  rw [isB, e0, hc]
  go_enter Tryz.func42, Tryz.ntmps42
  go_wp2
  go_ret
  exact ⟨rfl, below1 _ _⟩
 ·have e0 : decide (0 ≤ i) = false := decide_eq_false h0
  rw [isB, e0]
  go_enter Tryz.func42, Tryz.ntmps42
  go_wp2
  go_ret
  exact ⟨rfl, below1 _ _⟩
theorem at_any (f k m i x y z : Int) (w : World) (h1 : IntKind.i64.wrap (i * k) = x) (h2 : IntKind.u32.wrap x = y) (h3 : IntKind.u32.wrap (f + y) = z) : Calls Tryz.prog 43 #[roV f k m, .int .i64 i] w fun e w' => e = .returned (.int .u32 z) ∧ Below w.heap.size w w' := by
 go_enter Tryz.func43, Tryz.ntmps43
 go_wp2
 go_ret
 exact ⟨rfl, below1 _ _⟩
end Go.Proofs.YtiahmccchpmdgaaGreatDoor.Me
