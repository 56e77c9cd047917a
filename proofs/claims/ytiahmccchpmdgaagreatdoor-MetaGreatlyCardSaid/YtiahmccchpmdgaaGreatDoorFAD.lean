import Derived.Test.YtiahmccchpmdgaaGreatDoorFAA
import Derived.Lib.LaidTab
import Derived.IntWalk
import Derived.BigQuiet
import Derived.Deep.QuietTactic
import Derived.LoopTactic
import Derived.Shelf.RegionOpen
import Derived.Deep.RegionHeld3
namespace Go.Proofs.YtiahmccchpmdgaaGreatDoor.Sz
open Go.RowKit

/-- the payloads, by their classes -/
def pays : List Nat := [16, 32, 48, 64, 96, 128, 192, 256]
def pay (k : Nat) : Nat := pays.getD k 0
def payCells : Array Value := #[.int .i64 16, .int .i64 32, .int .i64 48, .int .i64 64, .int .i64 96, .int .i64 128, .int .i64 192, .int .i64 256]
theorem pay_cases {k : Nat} (h : k < 8) : (k = 0 ∧ pay k = 16) ∨ (k = 1 ∧ pay k = 32) ∨ (k = 2 ∧ pay k = 48) ∨ (k = 3 ∧ pay k = 64) ∨ (k = 4 ∧ pay k = 96) ∨ (k = 5 ∧ pay k = 128) ∨ (k = 6 ∧ pay k = 192) ∨ (k = 7 ∧ pay k = 256) := by
  rcases (show k = 0 ∨ k = 1 ∨ k = 2 ∨ k = 3 ∨ k = 4 ∨ k = 5 ∨ k = 6 ∨ k = 7 by omega) with rfl | rfl | rfl | rfl | rfl | rfl | rfl | rfl <;> simp [pay, pays]
theorem pay_bound {k : Nat} (h : k < 8) : 16 ≤ pay k ∧ pay k ≤ 256 ∧ pay k % 16 = 0 := by
  rcases pay_cases h with h | h | h | h | h | h | h | h <;> omega

/-- the table of payloads stands in its block -/
def Tab (w : World) : Prop := ∃ t fr, w.heap[0]? = some (.cells payCells t fr)
theorem Tab.lt {w : World} (h : Tab w) : 0 < w.heap.size := by
  obtain ⟨t, fr, h⟩ := h
  exact (Array.getElem?_eq_some_iff.1 h).1
theorem Tab.same {w w' : World} (h : Tab w) (hb : w'.heap[0]? = w.heap[0]?) : Tab w' := by
  obtain ⟨t, fr, h⟩ := h
  exact ⟨t, fr, hb.trans h⟩
theorem Tab.below {w w' : World} (h : Tab w) (hb : Below w.heap.size w w') : Tab w' := h.same (hb.block _ h.lt)
theorem Tab.alloc {w : World} (h : Tab w) (o : Obj) : Tab (w.alloc o) := h.below ((Below.refl _ _).alloc (Nat.le_refl _) _)
theorem Tab.drewN {w : World} (h : Tab w) (n : Nat) : Tab (w.drewN n) := h
theorem Tab.of {w : World} (h : Lib.TabIs Tryz.prog w "pinfold/size.payloads" .i64 [16, 32, 48, 64, 96, 128, 192, 256]) : Tab w := by
  unfold Lib.TabIs World.var? at h
  have hg : Tryz.prog.globalNamed "pinfold/size.payloads" = some 0 := by kernel_rfl
  rw [hg] at h
  simp only [Option.bind_some] at h
  split at h
  · rename_i cs t fr hh
    simp only [Option.some.injEq] at h
    subst h
    exact ⟨t, fr, hh⟩
  · cases h
theorem Tab.cell {w : World} (h : Tab w) {k : Nat} (hk : k < 8) : w.cell? ⟨0, k, none⟩ = some (.int .i64 (pay k : Int)) := by
  obtain ⟨t, fr, h⟩ := h
  rw [cell_of_row _ _ k _ t fr h]
  rcases (show k = 0 ∨ k = 1 ∨ k = 2 ∨ k = 3 ∨ k = 4 ∨ k = 5 ∨ k = 6 ∨ k = 7 by omega) with rfl | rfl | rfl | rfl | rfl | rfl | rfl | rfl <;> simp [pay, pays, payCells]

theorem below1 (w : World) (o : Obj) : Below w.heap.size w (w.alloc o) := (Below.refl _ _).alloc (Nat.le_refl _) _
theorem below2 (w : World) (o p : Obj) : Below w.heap.size w ((w.alloc o).alloc p) := (below1 w o).alloc (by simp) _

/-- a class under way -/
abbrev kv (n p : Int) : Value := .agg #[.int .i64 n, .int .i64 p]

/-- is there such a class? -/
def isK (n : Int) : Bool := decide (0 ≤ n) && decide (n < 8)

theorem known_any (n : Int) (w : World) : Calls Tryz.prog 247 #[.int .i64 n] w fun e w' => e = .returned (.bool (isK n)) ∧ w = w' := by
  by_cases h0 : 0 ≤ n
  · by_cases h8 : n < 8
    · have e0 : decide (0 ≤ n) = true := decide_eq_true h0
      have e8 : decide (n < 8) = true := decide_eq_true h8
      go_enter Tryz.func247, Tryz.ntmps247
      go_wp2
      go_ret
      exact ⟨by rw [isK, e0, e8]; rfl, rfl⟩
    · have e0 : decide (0 ≤ n) = true := decide_eq_true h0
      have e8 : decide (n < 8) = false := decide_eq_false h8
      go_enter Tryz.func247, Tryz.ntmps247
      go_wp2
      go_ret
      exact ⟨by rw [isK, e0, e8]; rfl, rfl⟩
  · have e0 : decide (0 ≤ n) = false := decide_eq_false h0
    go_enter Tryz.func247, Tryz.ntmps247
    go_wp2
    go_ret
    exact ⟨by rw [isK, e0]; rfl, rfl⟩

theorem isK_yes {k : Nat} (h : k < 8) : isK (k : Int) = true := by simp [isK]; omega

set_option maxHeartbeats 400000 in
theorem kindOf_yes (k : Nat) (w : World) (ht : Tab w) (hk : k < 8) : Calls Tryz.prog 246 #[.int .i64 (k : Int)] w fun e w' => e = .returned (kv k (pay k)) ∧ Below w.heap.size w w' := by
  have hc : ∀ o p, ((w.alloc o).alloc p).cell? ⟨0, k, none⟩ = some (.int .i64 (pay k : Int)) := fun o p => ((ht.alloc o).alloc p).cell hk
  have hkn := Lib.hid (fun w => known_any (k : Int) w)
  rw [isK_yes hk] at hkn
  have hk0 : decide ((k : Int) < 8) = true := decide_eq_true (by omega)
  have hk1 : k < 8 := hk
  obtain ⟨p, hp⟩ : ∃ p, p = pay k := ⟨_, rfl⟩
  rw [← hp] at hc ⊢
  clear hp hk
  go_enter Tryz.func246, Tryz.ntmps246
  go_wp2_with fail
  refine (hkn.out _).mono ?_
  rintro e w1 ⟨rfl, rfl⟩
  go_wp2
  exact bodyPost_ret (v := kv k p) (by simp [results, Tryz.results246, go_sem]) rfl ⟨rfl, below2 _ _ _⟩
theorem kindOf_no (n : Int) (w : World) (hk : isK n = false) : Calls Tryz.prog 246 #[.int .i64 n] w fun e w' => e = .returned (kv n 0) ∧ Below w.heap.size w w' := by
  have hkn := Lib.hid (fun w => known_any n w)
  rw [hk] at hkn
  clear hk
  go_enter Tryz.func246, Tryz.ntmps246
  go_wp2_with fail
  refine (hkn.out _).mono ?_
  rintro e w1 ⟨rfl, rfl⟩
  go_wp2
  exact bodyPost_ret (v := kv n 0) (by simp [results, Tryz.results246, go_sem]) rfl ⟨rfl, below2 _ _ _⟩

theorem wrapI (a : Int) (h1 : -9223372036854775808 ≤ a) (h2 : a ≤ 9223372036854775807) : IntKind.i64.wrap a = a := IntWalk.i64_in a (by omega)

theorem slot_any (n : Int) (p : Nat) (w : World) (hp : p ≤ 256) : Calls Tryz.prog 176 #[kv n p] w fun e w' => e = .returned (.int .i64 ((p + 32 : Nat) : Int)) ∧ Below w.heap.size w w' := by
  have h1 : IntKind.i64.wrap (16 + (p : Int)) = ((16 + p : Nat) : Int) := wrapI ((16 + p : Nat) : Int) (by omega) (by omega)
  have h2 : IntKind.i64.wrap (((16 + p : Nat) : Int) + 16) = ((p + 32 : Nat) : Int) := by rw [wrapI _ (by omega) (by omega)]; omega
  obtain ⟨a, ha⟩ : ∃ a, a = 16 + p := ⟨_, rfl⟩
  obtain ⟨b, hb⟩ : ∃ b, b = p + 32 := ⟨_, rfl⟩
  rw [← ha] at h1 h2
  rw [← hb] at h2 ⊢
  clear ha hb hp
  go_enter Tryz.func176, Tryz.ntmps176
  go_wp2
  go_ret
  exact ⟨rfl, below1 _ _⟩

theorem div4096 (p : Nat) : IntKind.i64.wrap ((4096 : Int) / ((p : Nat) : Int)) = ((4096 / p : Nat) : Int) := by
  have : (4096 : Int) / ((p : Nat) : Int) = ((4096 / p : Nat) : Int) := rfl
  have hle := Nat.div_le_self 4096 p
  rw [this]
  obtain ⟨q, hq⟩ : ∃ q, q = 4096 / p := ⟨_, rfl⟩
  rw [← hq] at hle ⊢
  exact wrapI _ (by omega) (by omega)
theorem count_any (n : Int) (p : Nat) (w : World) (hp : p ≤ 256) : Calls Tryz.prog 178 #[kv n p] w fun e w' => e = .returned (.int .i64 ((4096 / (p + 32) : Nat) : Int)) ∧ Below w.heap.size w w' := by
  have hs := Lib.hid (fun w => slot_any n p w hp)
  have hd := div4096 (p + 32)
  have hne : ¬ ((p + 32 : Nat) : Int) = 0 := by omega
  have hne2 : (((p + 32 : Nat) : Int) == 0) = false := beq_eq_false_iff_ne.2 hne
  obtain ⟨a, ha⟩ : ∃ a, a = p + 32 := ⟨_, rfl⟩
  rw [← ha] at hs hd hne hne2 ⊢
  clear ha hp
  go_enter Tryz.func178, Tryz.ntmps178
  go_wp2_with fail
  refine (hs.out _).mono ?_
  rintro e w1 ⟨rfl, hb1⟩
  go_wp2
  go_ret
  exact ⟨rfl, (below1 _ _).trans (hb1.mono (by simp))⟩

theorem slot1_any (n : Int) (p : Nat) (w : World) (hp : p ≤ 256) : Calls Tryz.prog 175 #[kv n p] w fun e w' => e = .returned (.int .i64 ((p + 32 : Nat) : Int)) ∧ Below w.heap.size w w' := by
  have hs := Lib.hid (fun w => slot_any n p w hp)
  obtain ⟨a, ha⟩ : ∃ a, a = p + 32 := ⟨_, rfl⟩
  rw [← ha] at hs ⊢
  clear ha hp
  go_enter Tryz.func175, Tryz.ntmps175
  go_wp2_with fail
  refine (hs.out _).mono ?_
  rintro e w1 ⟨rfl, hb1⟩
  go_wp2
  go_ret
  exact ⟨rfl, (below1 _ _).trans (hb1.mono (by simp))⟩
theorem count1_any (n : Int) (p : Nat) (w : World) (hp : p ≤ 256) : Calls Tryz.prog 177 #[kv n p] w fun e w' => e = .returned (.int .i64 ((4096 / (p + 32) : Nat) : Int)) ∧ Below w.heap.size w w' := by
  have hs := Lib.hid (fun w => count_any n p w hp)
  obtain ⟨a, ha⟩ : ∃ a, a = 4096 / (p + 32) := ⟨_, rfl⟩
  rw [← ha] at hs ⊢
  clear ha hp
  go_enter Tryz.func177, Tryz.ntmps177
  go_wp2_with fail
  refine (hs.out _).mono ?_
  rintro e w1 ⟨rfl, hb1⟩
  go_wp2
  go_ret
  exact ⟨rfl, (below1 _ _).trans (hb1.mono (by simp))⟩

theorem told_no (n : Int) (g : Nat) (w : World) (hk : isK n = false) : Calls Tryz.prog 174 #[.int .i64 n, .func (.func g) #[] #[]] w fun e w' => e = .returned (.tuple #[.int .i64 0, .int .i64 2]) ∧ Below w.heap.size w w' := by
  have hkn := Lib.hid (fun w => known_any n w)
  have hko := Lib.hid (fun w => kindOf_no n w hk)
  rw [hk] at hkn
  clear hk
  go_enter Tryz.func174, Tryz.ntmps174
  go_wp2_with fail
  refine wp_scope_jump 1 fun R hR hG => ?_
  go_wp2_with fail
  refine (hko.out _).mono ?_
  rintro e w1 ⟨rfl, hb1⟩
  have hz := hb1.size
  go_wp2_with fail
  refine (hkn.out _).mono ?_
  rintro e w' ⟨rfl, rfl⟩
  go_wp2_with fail
  refine wp_goto (hG.out _ _ _ _ _ rfl ?_)
  go_wp2
  refine hR.out _ _ _ _ (by simp) ?_
  go_ret2
  exact ⟨rfl, hb1.alloc hz _⟩
theorem told_slot (k : Nat) (w : World) (ht : Tab w) (hk : k < 8) : Calls Tryz.prog 174 #[.int .i64 (k : Int), .func (.func 175) #[] #[]] w fun e w' => e = .returned (.tuple #[.int .i64 ((pay k + 32 : Nat)), .int .i64 0]) ∧ Below w.heap.size w w' := by
  have hkn := Lib.hid (fun w => known_any (k : Int) w)
  have hko := Lib.hid (kindOf_yes k w ht hk)
  have hg := Lib.hid (fun w => slot1_any (k : Int) (pay k) w (pay_bound hk).2.1)
  rw [isK_yes hk] at hkn
  obtain ⟨r, hr⟩ : ∃ r : Int, r = (pay k + 32 : Nat) := ⟨_, rfl⟩
  rw [← hr] at hg ⊢
  obtain ⟨p, hp⟩ : ∃ p, p = pay k := ⟨_, rfl⟩
  rw [← hp] at hko hg
  clear hk hp hr ht
  go_enter Tryz.func174, Tryz.ntmps174
  go_wp2_with fail
  refine wp_scope_jump 1 fun R hR hG => ?_
  go_wp2_with fail
  refine (hko.out).mono ?_
  rintro e w1 ⟨rfl, hb1⟩
  have hz := hb1.size
  go_wp2_with fail
  refine (hkn.out _).mono ?_
  rintro e w' ⟨rfl, rfl⟩
  go_wp2_with fail
  refine (hg.out _).mono ?_
  rintro e w2 ⟨rfl, hb2⟩
  go_wp2
  refine hR.out _ _ _ _ (by simp) ?_
  go_ret2
  exact ⟨rfl, (hb1.alloc hz _).trans (hb2.mono (by simp; omega))⟩
theorem told_count (k : Nat) (w : World) (ht : Tab w) (hk : k < 8) : Calls Tryz.prog 174 #[.int .i64 (k : Int), .func (.func 177) #[] #[]] w fun e w' => e = .returned (.tuple #[.int .i64 ((4096 / (pay k + 32) : Nat)), .int .i64 0]) ∧ Below w.heap.size w w' := by
  have hkn := Lib.hid (fun w => known_any (k : Int) w)
  have hko := Lib.hid (kindOf_yes k w ht hk)
  have hg := Lib.hid (fun w => count1_any (k : Int) (pay k) w (pay_bound hk).2.1)
  rw [isK_yes hk] at hkn
  obtain ⟨r, hr⟩ : ∃ r : Int, r = (4096 / (pay k + 32) : Nat) := ⟨_, rfl⟩
  rw [← hr] at hg ⊢
  obtain ⟨p, hp⟩ : ∃ p, p = pay k := ⟨_, rfl⟩
  rw [← hp] at hko hg
  clear hk hp hr ht
  go_enter Tryz.func174, Tryz.ntmps174
  go_wp2_with fail
  refine wp_scope_jump 1 fun R hR hG => ?_
  go_wp2_with fail
  refine (hko.out).mono ?_
  rintro e w1 ⟨rfl, hb1⟩
  have hz := hb1.size
  go_wp2_with fail
  refine (hkn.out _).mono ?_
  rintro e w' ⟨rfl, rfl⟩
  go_wp2_with fail
  refine (hg.out _).mono ?_
  rintro e w2 ⟨rfl, hb2⟩
  go_wp2
  refine hR.out _ _ _ _ (by simp) ?_
  go_ret2
  exact ⟨rfl, (hb1.alloc hz _).trans (hb2.mono (by simp; omega))⟩
theorem slot_yes (k : Nat) (w : World) (ht : Tab w) (hk : k < 8) : Calls Tryz.prog 88 #[.int .i64 (k : Int)] w fun e w' => e = .returned (.tuple #[.int .i64 ((pay k + 32 : Nat)), .int .i64 0]) ∧ Below w.heap.size w w' := by
  have hg := Lib.hid (told_slot k w ht hk)
  obtain ⟨r, hr⟩ : ∃ r : Int, r = (pay k + 32 : Nat) := ⟨_, rfl⟩
  rw [← hr] at hg ⊢
  clear hk hr ht
  go_enter Tryz.func88, Tryz.ntmps88
  go_wp2_with fail
  refine (hg.out).mono ?_
  rintro e w1 ⟨rfl, hb1⟩
  go_wp2
  go_ret2
  exact ⟨rfl, hb1⟩
theorem count_yes (k : Nat) (w : World) (ht : Tab w) (hk : k < 8) : Calls Tryz.prog 89 #[.int .i64 (k : Int)] w fun e w' => e = .returned (.tuple #[.int .i64 ((4096 / (pay k + 32) : Nat)), .int .i64 0]) ∧ Below w.heap.size w w' := by
  have hg := Lib.hid (told_count k w ht hk)
  obtain ⟨r, hr⟩ : ∃ r : Int, r = (4096 / (pay k + 32) : Nat) := ⟨_, rfl⟩
  rw [← hr] at hg ⊢
  clear hk hr ht
  go_enter Tryz.func89, Tryz.ntmps89
  go_wp2_with fail
  refine (hg.out).mono ?_
  rintro e w1 ⟨rfl, hb1⟩
  go_wp2
  go_ret2
  exact ⟨rfl, hb1⟩
theorem count_no (n : Int) (w : World) (hk : isK n = false) : Calls Tryz.prog 89 #[.int .i64 n] w fun e w' => e = .returned (.tuple #[.int .i64 0, .int .i64 2]) ∧ Below w.heap.size w w' := by
  have hg := Lib.hid (fun g => told_no n g w hk)
  clear hk
  go_enter Tryz.func89, Tryz.ntmps89
  go_wp2_with fail
  refine (hg.out _).mono ?_
  rintro e w1 ⟨rfl, hb1⟩
  go_wp2
  go_ret2
  exact ⟨rfl, hb1⟩
end Go.Proofs.YtiahmccchpmdgaaGreatDoor.Sz

namespace Go.Proofs.YtiahmccchpmdgaaGreatDoor.Wo
open Go.RowKit

/-- the table of widths stands in block 0 -/
def Tab (w : World) : Prop := ∃ t fr, w.heap[1]? = some (.cells #[.int .i64 1, .int .i64 2, .int .i64 4, .int .i64 8] t fr)

theorem Tab.lt {w : World} (h : Tab w) : 1 < w.heap.size := by
  obtain ⟨t, fr, h⟩ := h
  exact (Array.getElem?_eq_some_iff.1 h).1
theorem Tab.below {w w' : World} (h : Tab w) (hb : Below w.heap.size w w') : Tab w' := by
  have hl := h.lt
  obtain ⟨t, fr, h⟩ := h
  exact ⟨t, fr, (hb.block _ hl).trans h⟩
theorem Tab.alloc {w : World} (h : Tab w) (o : Obj) : Tab (w.alloc o) := h.below ((Below.refl _ _).alloc (Nat.le_refl _) _)
theorem Tab.drewN {w : World} (h : Tab w) (n : Nat) : Tab (w.drewN n) := h
theorem Tab.of {w : World} (h : Lib.TabIs Tryz.prog w "pinfold/word.widths" .i64 [1, 2, 4, 8]) : Tab w := by
  unfold Lib.TabIs World.var? at h
  have hg : Tryz.prog.globalNamed "pinfold/word.widths" = some 1 := by kernel_rfl
  rw [hg] at h
  simp only [Option.bind_some] at h
  split at h
  · rename_i cs t fr hh
    simp only [Option.some.injEq] at h
    subst h
    exact ⟨t, fr, hh⟩
  · cases h

theorem widths_size : (Tryz.prog.info? 339).map (·.size) = some (#[Value.int .i64 1, .int .i64 2, .int .i64 4, .int .i64 8] : Array Value).size := by kernel_rfl

/-- is it a width? -/
def wid (n : Int) : Bool := n == 1 || n == 2 || n == 4 || n == 8

def widFrom (n : Int) (k : Nat) : Bool := ([1, 2, 4, 8].drop k).any fun x => n == x
theorem wid_start (n : Int) : wid n = widFrom n 0 := by simp [wid, widFrom, Bool.or_assoc]
theorem wid_end {n : Int} (h : wid n = widFrom n 4) : wid n = false := h
theorem wid_here {n x : Int} {k : Nat} (hx : [1, 2, 4, 8][k]? = some x) (h : (n == x) = true) (hk : wid n = widFrom n k) : wid n = true := by
  rw [hk]
  unfold widFrom
  rw [List.any_eq_true]
  refine ⟨x, ?_, h⟩
  rw [List.mem_iff_getElem?]
  exact ⟨0, by simpa using hx⟩
theorem wid_step {n x : Int} {k : Nat} (hx : [1, 2, 4, 8][k]? = some x) (h : (n == x) = false) (hk : wid n = widFrom n k) : Hid (wid n = widFrom n (k + 1)) := by
  show wid n = _
  rw [hk]
  unfold widFrom
  obtain ⟨hl, rfl⟩ := List.getElem?_eq_some_iff.1 hx
  rw [List.drop_eq_getElem_cons hl, List.any_cons, h, Bool.false_or]

set_option maxHeartbeats 400000 in
theorem wknown_any (n : Int) (w : World) (ht : Tab w) : Calls Tryz.prog 267 #[.int .i64 n] w fun e w' => e = .returned (.bool (wid n)) ∧ w = w' := by
  obtain ⟨t, fr, ht⟩ := ht
  have i0 : ∀ w, (Instr.index 339 (.agg #[.int .i64 1, .int .i64 2, .int .i64 4, .int .i64 8]) (.int .i64 0)).run Tryz.prog w = .ok (.int .i64 1) w := fun _ => by kernel_rfl
  have i1 : ∀ w, (Instr.index 339 (.agg #[.int .i64 1, .int .i64 2, .int .i64 4, .int .i64 8]) (.int .i64 1)).run Tryz.prog w = .ok (.int .i64 2) w := fun _ => by kernel_rfl
  have i2 : ∀ w, (Instr.index 339 (.agg #[.int .i64 1, .int .i64 2, .int .i64 4, .int .i64 8]) (.int .i64 2)).run Tryz.prog w = .ok (.int .i64 4) w := fun _ => by kernel_rfl
  have i3 : ∀ w, (Instr.index 339 (.agg #[.int .i64 1, .int .i64 2, .int .i64 4, .int .i64 8]) (.int .i64 3)).run Tryz.prog w = .ok (.int .i64 8) w := fun _ => by kernel_rfl
  go_enter Tryz.func267, Tryz.ntmps267
  go_wp2_with (refine wpList_load_row rfl 339 _ rfl 1 rfl t _ fr _ ht Tryz.underlying339 rfl widths_size ?_)
  go_loop [6] (fun i => ∃ k : Nat, k ≤ 4 ∧ i = .int .i64 k ∧ Hid (wid n = widFrom n k)) (fun i => 4 - (intOf i).toNat)
  case atStart => exact ⟨0, by omega, rfl, wid_start n⟩
  case round =>
    obtain ⟨k, hk, rfl, H⟩ := hrel
    rcases (show k = 0 ∨ k = 1 ∨ k = 2 ∨ k = 3 ∨ k = 4 by omega) with rfl | rfl | rfl | rfl | rfl
    all_goals go_wp2
    all_goals first
      | (go_ret; exact ⟨by rw [wid_end H.out]; rfl, rfl⟩)
      | (go_ret; exact ⟨by rw [wid_here rfl ‹_› H.out]; rfl, rfl⟩)
      | (go_round
         case rel => exact ⟨_, by omega, by go_num, wid_step rfl ‹_› H.out⟩
         case measure => simp [intOf])
end Go.Proofs.YtiahmccchpmdgaaGreatDoor.Wo

namespace Go.Proofs.YtiahmccchpmdgaaGreatDoor.Wo
open Go.RowKit

set_option maxHeartbeats 400000 in
theorem numberOf_any (n k : Int) (w : World) : Calls Tryz.prog 266 #[.int .u64 n, .int .i64 k] w fun e w' => e = .returned (.agg #[.int .i64 k, .int .u64 n]) ∧ Below w.heap.size w w' := by
  go_enter Tryz.func266, Tryz.ntmps266
  go_wp2
  exact bodyPost_ret (v := .agg #[.int .i64 k, .int .u64 n]) (by simp [results, Tryz.results266, go_sem]) rfl ⟨rfl, ((Below.refl _ _).alloc (Nat.le_refl _) _)⟩

theorem top1 (w : World) : Calls Tryz.prog 277 #[.int .i64 1] w fun e w' => e = .returned (.int .u64 255) ∧ w = w' := by
  go_enter Tryz.func277, Tryz.ntmps277
  go_wp2
  go_ret
  exact ⟨rfl, rfl⟩
theorem top2 (w : World) : Calls Tryz.prog 277 #[.int .i64 2] w fun e w' => e = .returned (.int .u64 65535) ∧ w = w' := by
  go_enter Tryz.func277, Tryz.ntmps277
  go_wp2
  go_ret
  exact ⟨rfl, rfl⟩
theorem top4 (w : World) : Calls Tryz.prog 277 #[.int .i64 4] w fun e w' => e = .returned (.int .u64 4294967295) ∧ w = w' := by
  go_enter Tryz.func277, Tryz.ntmps277
  go_wp2
  go_ret
  exact ⟨rfl, rfl⟩
theorem top8 (w : World) : Calls Tryz.prog 277 #[.int .i64 8] w fun e w' => e = .returned (.int .u64 18446744073709551615) ∧ w = w' := by
  go_enter Tryz.func277, Tryz.ntmps277
  go_wp2
  go_ret
  exact ⟨rfl, rfl⟩

/-- the greatest number of a width -/
def topOf (k : Int) : Int := if k = 1 then 255 else if k = 2 then 65535 else if k = 4 then 4294967295 else 18446744073709551615
theorem wid_cases {k : Int} (h : wid k = true) : k = 1 ∨ k = 2 ∨ k = 4 ∨ k = 8 := by
  simp [wid] at h
  omega
theorem top_any (k : Int) (w : World) (h : wid k = true) : Calls Tryz.prog 277 #[.int .i64 k] w fun e w' => e = .returned (.int .u64 (topOf k)) ∧ w = w' := by
  rcases wid_cases h with rfl | rfl | rfl | rfl
  · exact top1 w
  · exact top2 w
  · exact top4 w
  · exact top8 w

set_option maxHeartbeats 400000 in
theorem fits_any (n k : Int) (w : World) (h : wid k = true) : Calls Tryz.prog 269 #[.agg #[.int .i64 k, .int .u64 n]] w fun e w' => e = .returned (.bool (decide (n ≤ topOf k))) ∧ Below w.heap.size w w' := by
  have ht : ∀ w : World, Hid (Calls Tryz.prog 277 #[.int .i64 k] w fun e w' => e = .returned (.int .u64 (topOf k)) ∧ w = w') := fun w => Lib.hid (top_any k w h)
  clear h
  go_enter Tryz.func269, Tryz.ntmps269
  go_wp2
  go_quiet ((go_at_call 277; exact quiet_l (ht _).out))
  go_wp2
  go_ret
  exact ⟨rfl, below_drewN ((Below.refl _ _).alloc (Nat.le_refl _) _) _⟩

/-- a number's bytes, the lowest ahead -/
def le : Nat → Nat → List UInt8
  | 0, _ => []
  | k + 1, n => UInt8.ofNat (n % 256) :: le k (n / 256)
theorem le_length : ∀ (k n : Nat), (le k n).length = k
  | 0, _ => rfl
  | k + 1, n => by simp [le, le_length k]
theorem le_get : ∀ (k n i : Nat) (h : i < k), (le k n)[i]'(by rw [le_length]; exact h) = UInt8.ofNat (n / 2 ^ (8 * i) % 256)
  | 0, _, i, h => absurd h (by omega)
  | k + 1, n, 0, _ => by simp [le]
  | k + 1, n, i + 1, h => by
    simp only [le, List.getElem_cons_succ]
    rw [le_get k (n / 256) i (by omega), Nat.div_div_eq_div_mul]
    congr 3
    rw [show 8 * (i + 1) = 8 + 8 * i by omega, Nat.pow_add]

theorem byte_info : (Tryz.prog.info? 5).map (fun i => (i.zero, i.size, i.bytes)) = some (some (.int .u8 0), 1, 1) := by kernel_rfl

theorem le_step {n k j : Nat} {xs : List Value} (_hk : k ≤ 8) (h : j < k) (hl : xs.length = k * 1) (H : xs.take j = byt ((le k n).take j)) :
    Hid ((xs.set j (.int .u8 ((n : Int) / 2 ^ (8 * j) % 256))).take (j + 1) = byt ((le k n).take (j + 1))) := by
  show _ = _
  rw [List.take_succ_eq_append_getElem (by simp; omega), List.getElem_set_self, List.take_set_of_le (Nat.le_refl _), H, List.take_succ_eq_append_getElem (by rw [le_length]; exact h), byt_append, le_get k n j h]
  simp [byt]
theorem le_end {n k j g cap : Nat} {xs : List Value} {w w' : World} (h : k ≤ j) (hl : xs.length = k * 1) (H : xs.take j = byt ((le k n).take j))
    (ho : w'.ownsRow (w.heap.size + 1) 5 1 (.slice (some ⟨g, 0, none⟩) k cap) k xs) : w'.ownsRow w.heap.size 5 1 (.slice (some ⟨g, 0, none⟩) k cap) k (byt (le k n)) := by
  rw [List.take_of_length_le (by omega), List.take_of_length_le (by rw [le_length]; exact h)] at H
  subst H
  obtain ⟨h1, h2 | ⟨g', c', cur, hv, hb, hr⟩⟩ := ho
  · exact ⟨h1, .inl h2⟩
  · exact ⟨h1, .inr ⟨g', c', cur, hv, by omega, hr⟩⟩

set_option maxHeartbeats 1000000 in
theorem bytes_any (n k : Nat) (w : World) (hk : k ≤ 8) : Calls Tryz.prog 270 #[.agg #[.int .i64 k, .int .u64 n]] w fun e w' => ∃ g cap, e = .returned (.slice (some ⟨g, 0, none⟩) k cap) ∧ w'.ownsRow w.heap.size 5 1 (.slice (some ⟨g, 0, none⟩) k cap) k (byt (le k n)) ∧ Below w.heap.size w w' := by
  obtain ⟨i0, hi, hz0, hz1, hz2⟩ := info_parts byte_info
  go_enter Tryz.func270, Tryz.ntmps270
  go_wp2_with (refine wpList_make_full _ rfl _ _ 62 rfl (w.heap.size + 1) 5 i0 _ 1 Tryz.underlying62 hi hz0 hz1 .i64 .i64 k k k rfl rfl rfl rfl (by rw [hz2]; omega) (by unfold maxLen; omega) (by simp) ?_; intro w1 hown1 hg1)
  have hbox : w1.cell? ⟨w.heap.size, 1, none⟩ = some (.int .u64 n) := by
    have := hg1.cell (a := ⟨w.heap.size, 1, none⟩) (v := .int .u64 n) (cell_alloc_new _ _ _ _) (by simp)
    exact this
  have hb1 : Below w.heap.size w w1 := ((Below.refl _ _).alloc (Nat.le_refl _) _).grown hg1 (by simp) (by simp)
  rw [World.size_alloc] at hown1
  clear hg1
  go_loopw [10] (fun i wr => ∃ (j : Nat) (xs : List Value), j ≤ k ∧ i = .int .i64 j ∧ wr.ownsRow (w.heap.size + 1) 5 1 (.slice (some ⟨w.heap.size + 1, 0, none⟩) k k) k xs ∧ Hid (xs.take j = byt ((le k n).take j)) ∧ wr.cell? ⟨w.heap.size, 1, none⟩ = some (.int .u64 n) ∧ Below w.heap.size w wr) (fun i _ => k - (intOf i).toNat)
  case atStart => exact ⟨0, _, Nat.zero_le _, rfl, hown1, rfl, hbox, hb1⟩
  case round =>
    obtain ⟨j, xs, hj, rfl, hown, H, hbx, hb⟩ := hrel
    have hlen := hown.1
    by_cases hlt : j < k
    · have hcx : wr.cell? ⟨w.heap.size + 1, j, none⟩ = some (xs.getD j undef) := by
        rw [hown.cellAt j (by omega)]
        simp [show j < xs.length by omega]
      have hfx := hown.frozenAt j
      go_wp2
      go_roundw
      case rel => exact ⟨j + 1, _, by omega, by go_num, (hown.stored j _).1, le_step hk hlt hlen H.out, (World.cell?_setCell_other _ _ _ _ (by simp)).trans hbx, hb.setCell (by simp) _⟩
      case measure => simp [intOf]; omega
    · go_wp2
      go_ret
      exact ⟨_, _, rfl, le_end (by omega) hlen H.out hown, hb⟩
end Go.Proofs.YtiahmccchpmdgaaGreatDoor.Wo

namespace Go.Proofs.YtiahmccchpmdgaaGreatDoor.Wo
open Go.RowKit

/-- the number that bytes say, the lowest ahead -/
def leVal : List UInt8 → Nat
  | [] => 0
  | b :: l => b.toNat + 256 * leVal l

theorem wrap_u64 (n : Nat) (h : n < 18446744073709551616) : IntKind.u64.wrap (n : Int) = (n : Int) := by
  simp [IntKind.wrap, IntKind.bits, IntKind.signed]
  omega
theorem leVal_snoc : ∀ (l : List UInt8) (b : UInt8), leVal (l ++ [b]) = leVal l + b.toNat * 2 ^ (8 * l.length)
  | [], b => by simp [leVal]
  | c :: l, b => by
    simp only [List.cons_append, leVal, leVal_snoc l b, List.length_cons]
    rw [show 8 * (l.length + 1) = 8 + 8 * l.length by omega, Nat.pow_add, Nat.mul_add]
    have : b.toNat * (2 ^ 8 * 2 ^ (8 * l.length)) = 256 * (b.toNat * 2 ^ (8 * l.length)) := by
      rw [Nat.mul_left_comm]
    omega
theorem leVal_lt : ∀ (l : List UInt8), leVal l < 2 ^ (8 * l.length)
  | [] => by simp [leVal]
  | b :: l => by
    have h := leVal_lt l
    have hb := b.toNat_lt
    simp only [leVal, List.length_cons]
    rw [show 8 * (l.length + 1) = 8 + 8 * l.length by omega, Nat.pow_add]
    omega
theorem pow_le8 {k : Nat} (h : k ≤ 8) : 2 ^ (8 * k) ≤ 18446744073709551616 := by
  have : 2 ^ (8 * k) ≤ 2 ^ 64 := Nat.pow_le_pow_right (by omega) (by omega)
  simpa using this
theorem or_step {l : List UInt8} {k : Nat} (h8 : l.length ≤ 8) (hk : k < l.length) :
    bits .or .u64 (leVal (l.take k)) (IntKind.u64.wrap (IntKind.u64.wrap (l[k].toNat : Int) * 2 ^ (8 * k))) = (leVal (l.take (k + 1)) : Int) := by
  have hb : l[k].toNat < 256 := l[k].toNat_lt
  have hl : (l.take k).length = k := by simp; omega
  have h1 := leVal_lt (l.take k)
  have h3 := leVal_lt (l.take (k + 1))
  rw [hl] at h1
  rw [show (l.take (k + 1)).length = k + 1 by simp; omega] at h3
  have h4 := pow_le8 (k := k + 1) (by omega)
  have h5 := pow_le8 (k := k) (by omega)
  rw [List.take_succ_eq_append_getElem hk, leVal_snoc, hl] at h3 ⊢
  rw [wrap_u64 _ (by omega)]
  have e : (l[k].toNat : Int) * 2 ^ (8 * k) = ((l[k].toNat * 2 ^ (8 * k) : Nat) : Int) := by simp
  rw [e, wrap_u64 _ (by omega), u64_or_nat _ _ (by omega) (by omega), Nat.or_comm, nat_join (8 * k) _ _ (by simp) h1]
  congr 1
  omega

set_option maxHeartbeats 1000000 in
theorem get_ok (l : List UInt8) (n c B : Nat) (A : Option Addr) (w : World) (ht : Tab w) (hn : l.length = n) (hk : wid n = true) (hr : Sees w B A (byt l)) (hB : B ≤ w.heap.size) : Calls Tryz.prog 213 #[.slice A n c] w fun e w' => e = .returned (.tuple #[.int .u64 (leVal l), .int .i64 0]) ∧ Below w.heap.size w w' := by
  have hk8 : n ≤ 8 := by have := wid_cases hk; omega
  have Hk := Lib.hid hk
  clear hk
  subst hn
  go_enter Tryz.func213, Tryz.ntmps213
  go_wp2_with fail
  refine wp_scope_jump 1 fun R hR hJ => ?_
  go_wp2_with fail
  refine (numberOf_any _ _ _).mono ?_
  rintro e w1 ⟨rfl, hb1⟩
  have ht1 := ht.below hb1
  go_wp2_with fail
  refine (wknown_any _ _ (ht1.alloc _)).mono ?_
  rintro e w2 ⟨rfl, rfl⟩
  rw [Hk.out]
  go_wp2_with fail
  have hs := hb1.size
  have hr1 : Sees (w1.alloc (.cells #[.int .i64 l.length, .int .u64 0] 331)) B A (byt l) := (hr.below (hb1.mono hB)).alloc (by omega) _
  have hb2 : Below w.heap.size w (w1.alloc (.cells #[.int .i64 l.length, .int .u64 0] 331)) := hb1.alloc hb1.size _
  obtain ⟨w2, hw2⟩ : ∃ w2, w2 = w1.alloc (.cells #[.int .i64 l.length, .int .u64 0] 331) := ⟨_, rfl⟩
  have hx : w2.cell? ⟨w1.heap.size, 1, none⟩ = some (.int .u64 0) := by rw [hw2]; exact cell_alloc_new _ _ _ _
  have hf : w2.frozen? ⟨w1.heap.size, 1, none⟩ = false := by rw [hw2]; exact frozen_alloc_new _ _ _ _
  have hw2s : w1.heap.size < w2.heap.size := by rw [hw2]; simp
  rw [← hw2] at hr1 hb2 ⊢
  clear hw2
  go_loopw [16] (fun i wr => ∃ k : Nat, k ≤ l.length ∧ i = .int .i64 k ∧ wr.cell? ⟨w1.heap.size, 1, none⟩ = some (.int .u64 (leVal (l.take k))) ∧ wr.frozen? ⟨w1.heap.size, 1, none⟩ = false ∧ Sees wr B A (byt l) ∧ Below w.heap.size w wr) (fun i _ => l.length - (intOf i).toNat)
  case atStart => exact ⟨0, Nat.zero_le _, rfl, hx, hf, hr1, hb2⟩
  case round =>
    obtain ⟨k, hk, rfl, hx, hf, hr, hb⟩ := hrel
    by_cases hlt : k < l.length
    · obtain ⟨ad, rfl, _, hc⟩ := hr.byte hlt
      go_wp2
      go_region
      rw [or_step hk8 hlt]
      go_wp2
      go_roundw
      case rel => exact ⟨k + 1, by omega, by go_num, World.cell?_setCell_same' _ _ _ (by rw [hx]; rfl), by rw [← hf]; exact World.frozen?_setCell _ _ _ _, (hr.setCell (by simp; omega) _).drew, (hb.setCell (by simp; omega) _).drew⟩
      case measure => simp [intOf]; omega
    · have hk' : l.length ≤ k := by omega
      have Hl : Hid (leVal (l.take k) = leVal l) := Lib.hid (by rw [List.take_of_length_le hk'])
      go_wp2
      refine hR.out _ _ _ _ (by simp) ?_
      go_ret2
      exact ⟨by rw [← Hl.out]; rfl, hb⟩
end Go.Proofs.YtiahmccchpmdgaaGreatDoor.Wo

namespace Go.Proofs.YtiahmccchpmdgaaGreatDoor.Me
open Go.RowKit Go.Shelf
attribute [local go_sem] Oper.semAt_some

/- THE DOCUMENT's SMALL ANSWERS: SLOTS, CLASSES, PAGES, PAYLOADS, COUNTS; SPOTS AND THEIR ADDRESSES. -/
def isB (n b : Int) : Bool := decide (0 ≤ n) && decide (n < b)
theorem isB_yes {k n : Nat} (h : k < n) : isB (k : Int) (n : Int) = true := by simp [isB]; omega
def pays : List Nat := [16, 32, 48, 64, 96, 128, 192, 256]
def pay (k : Nat) : Nat := pays.getD k 0
theorem pay_cases {k : Nat} (h : k < 8) : (k = 0 ∧ pay k = 16) ∨ (k = 1 ∧ pay k = 32) ∨ (k = 2 ∧ pay k = 48) ∨ (k = 3 ∧ pay k = 64) ∨ (k = 4 ∧ pay k = 96) ∨ (k = 5 ∧ pay k = 128) ∨ (k = 6 ∧ pay k = 192) ∨ (k = 7 ∧ pay k = 256) := by
  rcases (show k = 0 ∨ k = 1 ∨ k = 2 ∨ k = 3 ∨ k = 4 ∨ k = 5 ∨ k = 6 ∨ k = 7 by omega) with rfl | rfl | rfl | rfl | rfl | rfl | rfl | rfl <;> simp [pay, pays]
theorem pay_bound {k : Nat} (h : k < 8) : 16 ≤ pay k ∧ pay k ≤ 256 ∧ pay k % 16 = 0 := by
  rcases pay_cases h with h | h | h | h | h | h | h | h <;> omega

theorem rslot_any (n : Int) (w : World) : Calls Tryz.prog 31 #[.int .i64 n] w fun e w' => e = .returned (.bool (isB n 4)) ∧ w = w' := by
  by_cases h0 : 0 ≤ n
  · have e0 : decide (0 ≤ n) = true := decide_eq_true h0
    obtain ⟨c, hc⟩ : ∃ c, decide (n < 4) = c := ⟨_, rfl⟩
    rw [isB, e0, hc]
    go_enter Tryz.func31, Tryz.ntmps31
    go_wp2
    go_ret
    exact ⟨rfl, rfl⟩
  · have e0 : decide (0 ≤ n) = false := decide_eq_false h0
    rw [isB, e0]
    go_enter Tryz.func31, Tryz.ntmps31
    go_wp2
    go_ret
    exact ⟨rfl, rfl⟩
theorem rclass_any (n : Int) (w : World) : Calls Tryz.prog 44 #[.int .i64 n] w fun e w' => e = .returned (.bool (isB n 8)) ∧ w = w' := by
  by_cases h0 : 0 ≤ n
  · have e0 : decide (0 ≤ n) = true := decide_eq_true h0
    obtain ⟨c, hc⟩ : ∃ c, decide (n < 8) = c := ⟨_, rfl⟩
    rw [isB, e0, hc]
    go_enter Tryz.func44, Tryz.ntmps44
    go_wp2
    go_ret
    exact ⟨rfl, rfl⟩
  · have e0 : decide (0 ≤ n) = false := decide_eq_false h0
    rw [isB, e0]
    go_enter Tryz.func44, Tryz.ntmps44
    go_wp2
    go_ret
    exact ⟨rfl, rfl⟩
theorem rbase_any (k : Nat) (w : World) (hk : k < 64) : Calls Tryz.prog 90 #[.int .i64 (k : Int)] w fun e w' => e = .returned (.int .i64 ((4096 * k + 4096 : Nat) : Int)) ∧ w = w' := by
  have e0 : IntKind.i64.wrap ((k : Int) + 1) = ((k + 1 : Nat) : Int) := (wrapI _ (by omega) (by omega)).trans (by omega)
  have e1 : IntKind.i64.wrap (4096 * ((k + 1 : Nat) : Int)) = ((4096 * k + 4096 : Nat) : Int) := (wrapI _ (by omega) (by omega)).trans (by omega)
  obtain ⟨x, hx⟩ : ∃ x, x = k + 1 := ⟨_, rfl⟩
  obtain ⟨y, hy⟩ : ∃ y, y = 4096 * k + 4096 := ⟨_, rfl⟩
  rw [← hx] at e0 e1
  rw [← hy] at e1 ⊢
  clear hx hy hk
  go_enter Tryz.func90, Tryz.ntmps90
  go_wp2
  go_ret
  exact ⟨rfl, rfl⟩
theorem rbook_any (k : Nat) (w : World) (hk : k < 64) : Calls Tryz.prog 19 #[.int .i64 (k : Int)] w fun e w' => e = .returned (.int .i64 ((64 * k + 1 : Nat) : Int)) ∧ w = w' := by
  have e0 : IntKind.i64.wrap (64 * (k : Int)) = ((64 * k : Nat) : Int) := (wrapI _ (by omega) (by omega)).trans (by omega)
  have e1 : IntKind.i64.wrap (((64 * k : Nat) : Int) + 1) = ((64 * k + 1 : Nat) : Int) := (wrapI _ (by omega) (by omega)).trans (by omega)
  obtain ⟨x, hx⟩ : ∃ x, x = 64 * k := ⟨_, rfl⟩
  obtain ⟨y, hy⟩ : ∃ y, y = 64 * k + 1 := ⟨_, rfl⟩
  rw [← hy] at e1 ⊢
  rw [← hx] at e0 e1
  clear hx hy hk
  go_enter Tryz.func19, Tryz.ntmps19
  go_wp2
  go_ret
  exact ⟨rfl, rfl⟩
theorem rregion_any (k c : Nat) (w : World) (hk : k < 64) (hc : c < 64) : Calls Tryz.prog 46 #[.int .i64 (k : Int), .int .i64 (c : Int)] w fun e w' => e = .returned (.int .i64 ((4096 * k + 4097 + 17 * c : Nat) : Int)) ∧ w = w' := by
  have hb := Lib.hid (fun w => rbase_any k w hk)
  have e0 : IntKind.i64.wrap (((4096 * k + 4096 : Nat) : Int) + 1) = ((4096 * k + 4097 : Nat) : Int) := (wrapI _ (by omega) (by omega)).trans (by omega)
  have e1 : IntKind.i64.wrap (17 * (c : Int)) = ((17 * c : Nat) : Int) := (wrapI _ (by omega) (by omega)).trans (by omega)
  have e2 : IntKind.i64.wrap (((4096 * k + 4097 : Nat) : Int) + ((17 * c : Nat) : Int)) = ((4096 * k + 4097 + 17 * c : Nat) : Int) := (wrapI _ (by omega) (by omega)).trans (by omega)
  obtain ⟨x, hx⟩ : ∃ x, x = 4096 * k + 4096 := ⟨_, rfl⟩
  obtain ⟨z, hz⟩ : ∃ z, z = 4096 * k + 4097 + 17 * c := ⟨_, rfl⟩
  rw [← hz] at e2 ⊢
  obtain ⟨y, hy⟩ : ∃ y, y = 4096 * k + 4097 := ⟨_, rfl⟩
  obtain ⟨t, ht⟩ : ∃ t, t = 17 * c := ⟨_, rfl⟩
  rw [← hx] at e0 hb
  rw [← hy] at e0 e2
  rw [← ht] at e1 e2
  clear hx hy hz ht hk hc
  go_enter Tryz.func46, Tryz.ntmps46
  go_wp2_with fail
  refine (hb.out _).mono ?_
  rintro e w1 ⟨rfl, rfl⟩
  go_wp2
  go_ret
  exact ⟨rfl, rfl⟩

theorem refpay_yes (k : Nat) (w : World) (hk : k < 8) : Calls Tryz.prog 91 #[.int .i64 (k : Int)] w fun e w' => e = .returned (.int .i64 (pay k : Int)) ∧ w = w' := by
  rcases (show k = 0 ∨ k = 1 ∨ k = 2 ∨ k = 3 ∨ k = 4 ∨ k = 5 ∨ k = 6 ∨ k = 7 by omega) with rfl | rfl | rfl | rfl | rfl | rfl | rfl | rfl
  all_goals
    go_enter Tryz.func91, Tryz.ntmps91
    go_wp2
    go_ret
    exact ⟨rfl, rfl⟩
theorem refslot_yes (k : Nat) (w : World) (hk : k < 8) : Calls Tryz.prog 47 #[.int .i64 (k : Int)] w fun e w' => e = .returned (.int .i64 ((pay k + 32 : Nat) : Int)) ∧ w = w' := by
  have hr := Lib.hid (fun w => refpay_yes k w hk)
  have hp := (pay_bound hk).2.1
  obtain ⟨p, hpp⟩ : ∃ p, p = pay k := ⟨_, rfl⟩
  rw [← hpp] at hr hp ⊢
  have h1 : IntKind.i64.wrap (16 + (p : Int)) = ((16 + p : Nat) : Int) := wrapI ((16 + p : Nat) : Int) (by omega) (by omega)
  have h2 : IntKind.i64.wrap (((16 + p : Nat) : Int) + 16) = ((p + 32 : Nat) : Int) := by rw [wrapI _ (by omega) (by omega)]; omega
  obtain ⟨a, ha⟩ : ∃ a, a = 16 + p := ⟨_, rfl⟩
  obtain ⟨b, hb⟩ : ∃ b, b = p + 32 := ⟨_, rfl⟩
  rw [← ha] at h1 h2
  rw [← hb] at h2 ⊢
  clear ha hb hp hpp hk
  go_enter Tryz.func47, Tryz.ntmps47
  go_wp2_with fail
  refine (hr.out _).mono ?_
  rintro e w1 ⟨rfl, rfl⟩
  go_wp2
  go_ret
  exact ⟨rfl, rfl⟩

set_option maxHeartbeats 1000000 in
theorem refcount_yes (k : Nat) (w : World) (hk : k < 8) : Calls Tryz.prog 45 #[.int .i64 (k : Int)] w fun e w' => e = .returned (.int .i64 ((4096 / (pay k + 32) : Nat) : Int)) ∧ w = w' := by
  have hr := Lib.hid (fun w => refslot_yes k w hk)
  have hp := pay_bound hk
  obtain ⟨p, hpp⟩ : ∃ p, p = pay k + 32 := ⟨_, rfl⟩
  have hp1 : 48 ≤ p ∧ p ≤ 288 := by omega
  rw [← hpp] at hr ⊢
  have HP := Lib.hid hp1
  clear hpp hp hp1 hk
  go_enter Tryz.func45, Tryz.ntmps45
  go_wp2_with fail
  go_loop [3] (fun i => ∃ j : Nat, i = .int .i64 (j : Int) ∧ Hid (j * p ≤ 4096)) (fun i => 4096 - (intOf i).toNat)
  case atStart => exact ⟨0, rfl, Lib.hid (by omega)⟩
  case round =>
    obtain ⟨j, rfl, H⟩ := hrel
    have hj : j ≤ 85 := by
      have h1 := H.out
      have h2 := HP.out
      have h3 : j * 48 ≤ j * p := Nat.mul_le_mul_left _ h2.1
      omega
    have w1 : IntKind.i64.wrap ((j : Int) + 1) = ((j + 1 : Nat) : Int) := wrapI ((j + 1 : Nat) : Int) (by omega) (by omega)
    have hm : (j + 1) * p ≤ 86 * 288 := Nat.mul_le_mul (by omega) HP.out.2
    have w2 : IntKind.i64.wrap (((j + 1 : Nat) : Int) * (p : Int)) = (((j + 1) * p : Nat) : Int) := by
      rw [← Int.natCast_mul]; exact wrapI _ (by omega) (by omega)
    obtain ⟨m, hmm⟩ : ∃ m, m = (j + 1) * p := ⟨_, rfl⟩
    rw [← hmm] at w2 hm
    have HM := Lib.hid hmm
    have hj1 : j < 4096 := by omega
    obtain ⟨j1, hj2⟩ : ∃ j1, j1 = j + 1 := ⟨_, rfl⟩
    rw [← hj2] at w1 w2
    have HJ := Lib.hid hj2
    clear hmm hj2 hj
    by_cases hle : m ≤ 4096
    · have hl : decide (m ≤ 4096) = true := decide_eq_true hle
      have hl2 : decide ((m : Int) ≤ 4096) = true := decide_eq_true (by omega)
      have HL := Lib.hid hle
      clear hle hm
      go_wp2_with fail
      refine (hr.out _).mono ?_
      rintro e w' ⟨rfl, rfl⟩
      go_wp2
      go_round
      case rel => exact ⟨j1, by go_num, Lib.hid (by rw [HJ.out, ← HM.out]; exact HL.out)⟩
      case measure => have := HJ.out; simp [intOf]; omega
    · have hl : decide (m ≤ 4096) = false := decide_eq_false hle
      have hl2 : decide ((m : Int) ≤ 4096) = false := decide_eq_false (by omega)
      have HL := Lib.hid hle
      clear hle hm
      go_wp2_with fail
      refine (hr.out _).mono ?_
      rintro e w' ⟨rfl, rfl⟩
      go_wp2
      go_ret
      refine ⟨?_, rfl⟩
      have h1 := H.out
      have h2 := HM.out
      have h3 := HL.out
      have h4 := HP.out
      have : 4096 / p = j := by
        rw [Nat.div_eq_iff (by omega)]
        rw [h2, Nat.add_mul] at h3
        omega
      rw [this]
      rfl

def cnt (c : Nat) : Nat := 4096 / (pay c + 32)
theorem cnt_cases {c : Nat} (h : c < 8) : (pay c = 16 ∧ cnt c = 85) ∨ (pay c = 32 ∧ cnt c = 64) ∨ (pay c = 48 ∧ cnt c = 51) ∨ (pay c = 64 ∧ cnt c = 42) ∨ (pay c = 96 ∧ cnt c = 32) ∨ (pay c = 128 ∧ cnt c = 25) ∨ (pay c = 192 ∧ cnt c = 18) ∨ (pay c = 256 ∧ cnt c = 14) := by
  unfold cnt
  rcases pay_cases h with ⟨_, h⟩ | ⟨_, h⟩ | ⟨_, h⟩ | ⟨_, h⟩ | ⟨_, h⟩ | ⟨_, h⟩ | ⟨_, h⟩ | ⟨_, h⟩ <;> rw [h] <;> omega
theorem cnt_le {c : Nat} (h : c < 8) : 1 ≤ cnt c ∧ cnt c ≤ 85 ∧ cnt c * (pay c + 32) ≤ 4096 := by
  rcases cnt_cases h with h | h | h | h | h | h | h | h <;> rw [h.1, h.2] <;> omega
/-- is there such a spot? -/
def okS (s c i : Nat) : Prop := s < 4 ∧ c < 8 ∧ i < cnt c
def atS (s c i : Nat) : Nat := 256 * (4096 * s + 4097 + 17 * c) + i * (pay c + 32) + 16
theorem off_lt {c i : Nat} (hc : c < 8) (hi : i < cnt c) : i * (pay c + 32) + 48 ≤ 4096 := by
  have h1 := (cnt_le hc).2.2
  have h2 := (pay_bound hc).1
  have h3 : (i + 1) * (pay c + 32) ≤ cnt c * (pay c + 32) := Nat.mul_le_mul_right _ hi
  rw [Nat.succ_mul] at h3
  omega
theorem atS_lt {s c i : Nat} (h : okS s c i) : atS s c i < 4294967296 := by
  have := off_lt h.2.1 h.2.2
  have := h.1
  have := h.2.1
  unfold atS
  omega
theorem atS_inj {s c i s' c' i' : Nat} (h : okS s c i) (h' : okS s' c' i') (e : atS s c i = atS s' c' i') : s = s' ∧ c = c' ∧ i = i' := by
  have h1 := off_lt h.2.1 h.2.2
  have h2 := off_lt h'.2.1 h'.2.2
  obtain ⟨a1, a2, _⟩ := h
  obtain ⟨b1, b2, _⟩ := h'
  unfold atS at e
  obtain ⟨d, hd⟩ : ∃ d, d = i * (pay c + 32) := ⟨_, rfl⟩
  obtain ⟨d', hd'⟩ : ∃ d', d' = i' * (pay c' + 32) := ⟨_, rfl⟩
  rw [← hd] at h1 e
  rw [← hd'] at h2 e
  have hs : s = s' := by omega
  subst hs
  have hc : c = c' := by omega
  subst hc
  have he : d = d' := by omega
  rw [hd, hd'] at he
  exact ⟨rfl, rfl, Nat.eq_of_mul_eq_mul_right (by omega) he⟩
open Classical in
/-- whose address it is -/
noncomputable def findS (a : Nat) : Option (Nat × Nat × Nat) := if h : ∃ p : Nat × Nat × Nat, okS p.1 p.2.1 p.2.2 ∧ atS p.1 p.2.1 p.2.2 = a then some h.choose else none
theorem findS_some {s c i a : Nat} (h : okS s c i) (e : atS s c i = a) : findS a = some (s, c, i) := by
  have hx : ∃ p : Nat × Nat × Nat, okS p.1 p.2.1 p.2.2 ∧ atS p.1 p.2.1 p.2.2 = a := ⟨(s, c, i), h, e⟩
  unfold findS
  rw [dif_pos hx]
  obtain ⟨h1, h2⟩ := hx.choose_spec
  obtain ⟨e1, e2, e3⟩ := atS_inj h1 h (h2.trans e.symm)
  congr 1
  exact Prod.ext e1 (Prod.ext e2 e3)
theorem findS_none {a : Nat} (h : ∀ s c i, okS s c i → atS s c i ≠ a) : findS a = none := by
  unfold findS
  rw [dif_neg]
  rintro ⟨p, h1, h2⟩
  exact h _ _ _ h1 h2
theorem find_odd : findS 1048849 = none := by
  refine findS_none fun s c i h e => ?_
  obtain ⟨h1, h2, h3⟩ := h
  unfold atS at e
  rcases cnt_cases h2 with h | h | h | h | h | h | h | h <;> rw [h.1] at e <;> omega
theorem find_first : findS 1048848 = some (0, 0, 0) := findS_some ⟨by omega, by omega, by have := (cnt_le (c := 0) (by omega)).1; omega⟩ rfl
end Go.Proofs.YtiahmccchpmdgaaGreatDoor.Me

namespace Go.Proofs.YtiahmccchpmdgaaGreatDoor.Me
open Go.RowKit Go.Shelf
attribute [local go_sem] Oper.semAt_some

/- THE DOCUMENT's SPOTS: WHAT IS WRONG WITH ONE; ITS ADDRESS. -/
abbrev spV (s c i : Int) : Value := .agg #[.int .i64 s, .int .i64 c, .int .i64 i]
def asksS (s c i : Int) : Int := if isB s 4 = true ∧ isB c 8 = true then (if i < 0 ∨ (cnt c.toNat : Int) ≤ i then 4 else 0) else 2
theorem num_any (z : Int) (w : World) : Calls Tryz.prog 14 #[.int .i64 z] w fun e w' => e = .returned (.int .i64 z) ∧ w = w' := by
  go_enter Tryz.func14, Tryz.ntmps14
  go_wp2_with fail
  go_ret
  exact ⟨rfl, rfl⟩
theorem isB_nat {n : Int} {b : Nat} (h : isB n (b : Int) = true) : ∃ k : Nat, n = (k : Int) ∧ k < b := by
  unfold isB at h
  simp only [Bool.and_eq_true, decide_eq_true_eq] at h
  exact ⟨n.toNat, by omega, by omega⟩
theorem asks_cases (s c i : Int) : (isB s 4 = false ∧ asksS s c i = 2) ∨ (isB s 4 = true ∧ isB c 8 = false ∧ asksS s c i = 2) ∨ (isB s 4 = true ∧ isB c 8 = true ∧ i < 0 ∧ asksS s c i = 4) ∨
    (∃ a k : Nat, s = (a : Int) ∧ c = (k : Int) ∧ a < 4 ∧ k < 8 ∧ ((∃ j : Nat, i = (j : Int) ∧ j < cnt k ∧ asksS s c i = 0) ∨ ((cnt k : Int) ≤ i ∧ asksS s c i = 4))) := by
  unfold asksS
  cases hs : isB s 4
  · exact .inl ⟨rfl, by rw [if_neg (by simp)]⟩
  · cases hc : isB c 8
    · exact .inr (.inl ⟨rfl, rfl, by rw [if_neg (by simp)]⟩)
    · rw [if_pos ⟨rfl, rfl⟩]
      by_cases h0 : i < 0
      · exact .inr (.inr (.inl ⟨rfl, rfl, h0, by rw [if_pos (.inl h0)]⟩))
      · obtain ⟨a, rfl, ha⟩ := isB_nat (b := 4) hs
        obtain ⟨k, rfl, hk⟩ := isB_nat (b := 8) hc
        refine .inr (.inr (.inr ⟨a, k, rfl, rfl, ha, hk, ?_⟩))
        rw [Int.toNat_natCast]
        by_cases h1 : (cnt k : Int) ≤ i
        · exact .inr ⟨h1, by rw [if_pos (.inr h1)]⟩
        · exact .inl ⟨i.toNat, by omega, by omega, by rw [if_neg (by omega)]⟩
theorem box3 (w : World) (x y z : Value) (t : TypeId) : (w.alloc (.cells #[x, y, z] t)).cell? ⟨w.heap.size, 0, none⟩ = some x ∧ (w.alloc (.cells #[x, y, z] t)).cell? ⟨w.heap.size, 1, none⟩ = some y ∧ (w.alloc (.cells #[x, y, z] t)).cell? ⟨w.heap.size, 2, none⟩ = some z :=
  ⟨cell_alloc_new _ _ _ _, cell_alloc_new _ _ _ _, cell_alloc_new _ _ _ _⟩
set_option maxHeartbeats 1000000 in
theorem rasks_any (s c i : Int) (w : World) : Calls Tryz.prog 13 #[spV s c i] w fun e w' => e = .returned (.int .i64 (asksS s c i)) ∧ Below w.heap.size w w' := by
  have h1 := Lib.hid (fun V => rslot_any s V)
  have h2 := Lib.hid (fun V => rclass_any c V)
  have HB := Lib.hid (below1 w (.cells #[.int .i64 s, .int .i64 c, .int .i64 i] 37))
  have HBD := Lib.hid (show Below w.heap.size w (w.alloc (.cells #[.int .i64 s, .int .i64 c, .int .i64 i] 37)).drew from (below1 w _).drew)
  obtain ⟨b0, b1, b2⟩ := box3 w (.int .i64 s) (.int .i64 c) (.int .i64 i) 37
  have HSA : Hid (∀ W, Below (w.heap.size + 1) (w.alloc (.cells #[.int .i64 s, .int .i64 c, .int .i64 i] 37)).drew W → W.cell? ⟨w.heap.size, 0, none⟩ = some (.int .i64 s) ∧ W.cell? ⟨w.heap.size, 1, none⟩ = some (.int .i64 c) ∧ W.cell? ⟨w.heap.size, 2, none⟩ = some (.int .i64 i)) := Lib.hid (fun W hW => by
    obtain ⟨b0, b1, b2⟩ := box3 w (.int .i64 s) (.int .i64 c) (.int .i64 i) 37
    exact ⟨(hW.cell (p := ⟨w.heap.size, 0, none⟩) (by show w.heap.size < _; omega)).trans b0, (hW.cell (p := ⟨w.heap.size, 1, none⟩) (by show w.heap.size < _; omega)).trans b1, (hW.cell (p := ⟨w.heap.size, 2, none⟩) (by show w.heap.size < _; omega)).trans b2⟩)
  obtain ⟨E, hE⟩ : ∃ E, E = asksS s c i := ⟨_, rfl⟩
  have hcs := asks_cases s c i
  rw [← hE] at hcs ⊢
  clear hE
  rcases hcs with ⟨e1, e2⟩ | ⟨e1, e2, e3⟩ | ⟨e1, e2, e3, e4⟩ | ⟨a, k, rfl, rfl, ha, hk, hj⟩
  · rw [e1] at h1
    subst e2
    clear e1
    go_enter Tryz.func13, Tryz.ntmps13
    go_wp2_with fail
    refine (h1.out _).mono ?_
    rintro e w1 ⟨rfl, rfl⟩
    go_wp2_with fail
    go_ret
    exact ⟨rfl, HB.out⟩
  · rw [e1] at h1
    rw [e2] at h2
    subst e3
    clear e1 e2
    go_enter Tryz.func13, Tryz.ntmps13
    go_wp2_with fail
    refine (h1.out _).mono ?_
    rintro e w1 ⟨rfl, rfl⟩
    go_wp2_with fail
    refine (h2.out _).mono ?_
    rintro e w1 ⟨rfl, rfl⟩
    go_wp2_with fail
    go_ret
    exact ⟨rfl, HB.out⟩
  · rw [e1] at h1
    rw [e2] at h2
    subst e4
    have d0 : decide (i < 0) = true := decide_eq_true e3
    clear e1 e2
    go_enter Tryz.func13, Tryz.ntmps13
    go_wp2_with fail
    refine (h1.out _).mono ?_
    rintro e w1 ⟨rfl, rfl⟩
    go_wp2_with fail
    refine (h2.out _).mono ?_
    rintro e w1 ⟨rfl, rfl⟩
    go_wp2_with fail
    refine wp_region_noPanic ?_
    refine wp_region_held_drew (S := fun W => W.cell? ⟨w.heap.size, 0, none⟩ = some (.int .i64 s) ∧ W.cell? ⟨w.heap.size, 1, none⟩ = some (.int .i64 c) ∧ W.cell? ⟨w.heap.size, 2, none⟩ = some (.int .i64 i)) (by kernel_rfl) (HSA.out _ (Below.refl _ _)) (fun hHeld => ?_)
    refine wpAnyH_take (i := 0) (v := ?_) rfl (by kernel_rfl) (by kernel_rfl) (by kernel_rfl) (fun _ _ _ h => h) (Or.inl ⟨by kernel_rfl, ?_⟩) hHeld ?_
    rotate_left
    focus (intro w hSw; (try dsimp only at hSw); go_simp; try with_reducible rfl)
    simp only [Act.put]
    refine wpAnyH_take (i := 1) (v := ?_) rfl (by kernel_rfl) (by kernel_rfl) (by kernel_rfl) (fun _ _ _ h => h) (Or.inl ⟨by kernel_rfl, ?_⟩) hHeld ?_
    rotate_left
    focus (intro w hSw; (try dsimp only at hSw); go_simp; try with_reducible rfl)
    simp only [Act.put]
    refine wpAnyH_take (i := 2) (v := ?_) rfl (by kernel_rfl) (by kernel_rfl) (by kernel_rfl) (fun _ _ _ h => h) (Or.inl ⟨by kernel_rfl, ?_⟩) hHeld ?_
    rotate_left
    focus (intro w hSw; (try dsimp only at hSw); go_simp; try with_reducible rfl)
    simp only [Act.put]
    refine wpAnyH_take (i := 3) (v := ?_) rfl (by kernel_rfl) (by kernel_rfl) (by kernel_rfl) (fun _ _ _ h => h) (Or.inl ⟨by kernel_rfl, ?_⟩) hHeld ?_
    rotate_left
    focus (intro w hSw; (try dsimp only at hSw); go_simp; try with_reducible rfl)
    simp only [Act.put]
    refine wpAnyH_take (i := 4) (v := undef) rfl (by kernel_rfl) (by kernel_rfl) (by kernel_rfl) (fun _ _ _ h => h) (Or.inr ⟨by kernel_rfl, rfl⟩) hHeld ?_
    simp only [Act.put]
    refine wpAnyH_take (i := 5) (v := undef) rfl (by kernel_rfl) (by kernel_rfl) (by kernel_rfl) (fun _ _ _ h => h) (Or.inr ⟨by kernel_rfl, rfl⟩) hHeld ?_
    simp only [Act.put]
    refine wpAnyH_take (i := 6) (v := undef) rfl (by kernel_rfl) (by kernel_rfl) (by kernel_rfl) (fun _ _ _ h => h) (Or.inr ⟨by kernel_rfl, rfl⟩) hHeld ?_
    simp only [Act.put]
    refine wpAnyH_take (i := 7) (v := undef) rfl (by kernel_rfl) (by kernel_rfl) (by kernel_rfl) (fun _ _ _ h => h) (Or.inr ⟨by kernel_rfl, rfl⟩) hHeld ?_
    simp only [Act.put]
    refine wpAnyH_take (i := 8) (v := undef) rfl (by kernel_rfl) (by kernel_rfl) (by kernel_rfl) (fun _ _ _ h => h) (Or.inr ⟨by kernel_rfl, rfl⟩) hHeld ?_
    simp only [Act.put]
    refine wpAnyH_take (i := 9) (v := undef) rfl (by kernel_rfl) (by kernel_rfl) (by kernel_rfl) (fun _ _ _ h => h) (Or.inr ⟨by kernel_rfl, rfl⟩) hHeld ?_
    simp only [Act.put]
    refine wpAnyH_ready (rs := [10]) (by kernel_rfl) (by simp) ?_
    refine AllReadyH.cons rfl (fun K hK => ?_) (AllReadyH.nil)
    go_simp
    refine hK.out _ _ (HSA.out _ (Below.refl _ _)) (fun hHeld => ?_)
    clear hK K
    try simp only [Act.put]
    refine wpAnyH_done (by kernel_rfl) (NoPanic.normal ?_) _
    go_wp2
    go_ret
    exact ⟨rfl, HBD.out⟩
  · have i1 : isB (a : Int) 4 = true := isB_yes (n := 4) ha
    have i2 : isB (k : Int) 8 = true := isB_yes (n := 8) hk
    rw [i1] at h1
    rw [i2] at h2
    have h3 := Lib.hid (fun V => refcount_yes k V hk)
    have h3' : (4096 / (pay k + 32)) = cnt k := rfl
    rw [h3'] at h3
    obtain ⟨C, hC⟩ : ∃ C, C = cnt k := ⟨_, rfl⟩
    rw [← hC] at h3 hj
    clear hC h3' i1 i2 ha hk
    rcases hj with ⟨j, rfl, h4, rfl⟩ | ⟨h4, rfl⟩
    · have d0 : decide ((j : Int) < 0) = false := decide_eq_false (by omega)
      have d1 : decide ((C : Int) ≤ (j : Int)) = false := decide_eq_false (by omega)
      have d2 : ¬ C ≤ j := by omega
      clear h4
      go_enter Tryz.func13, Tryz.ntmps13
      go_wp2_with fail
      refine (h1.out _).mono ?_
      rintro e w1 ⟨rfl, rfl⟩
      go_wp2_with fail
      refine (h2.out _).mono ?_
      rintro e w1 ⟨rfl, rfl⟩
      go_wp2_with fail
      go_region_held3 (fun W => W.cell? ⟨w.heap.size, 0, none⟩ = some (.int .i64 (a : Int)) ∧ W.cell? ⟨w.heap.size, 1, none⟩ = some (.int .i64 (k : Int)) ∧ W.cell? ⟨w.heap.size, 2, none⟩ = some (.int .i64 (j : Int)))
        (first | exact HSA.out _ (Below.refl _ _) | exact HSA.out _ (by assumption) | (go_split_ands; exact HSA.out _ (by assumption)))
        (first | (go_at_call 45; refine (h3.out _).mono ?_; rintro e w2 ⟨rfl, rfl⟩))
      go_wp2
      go_ret
      exact ⟨rfl, HBD.out⟩
    · have d0 : decide (i < 0) = false := decide_eq_false (by omega)
      have d1 : decide ((C : Int) ≤ i) = true := decide_eq_true h4
      clear h4
      go_enter Tryz.func13, Tryz.ntmps13
      go_wp2_with fail
      refine (h1.out _).mono ?_
      rintro e w1 ⟨rfl, rfl⟩
      go_wp2_with fail
      refine (h2.out _).mono ?_
      rintro e w1 ⟨rfl, rfl⟩
      go_wp2_with fail
      go_region_held3 (fun W => W.cell? ⟨w.heap.size, 0, none⟩ = some (.int .i64 (a : Int)) ∧ W.cell? ⟨w.heap.size, 1, none⟩ = some (.int .i64 (k : Int)) ∧ W.cell? ⟨w.heap.size, 2, none⟩ = some (.int .i64 i))
        (first | exact HSA.out _ (Below.refl _ _) | exact HSA.out _ (by assumption) | (go_split_ands; exact HSA.out _ (by assumption)))
        (first | (go_at_call 45; refine (h3.out _).mono ?_; rintro e w2 ⟨rfl, rfl⟩))
      go_wp2
      go_ret
      exact ⟨rfl, HBD.out⟩
set_option maxHeartbeats 1000000 in
theorem rat_any (s c i : Nat) (h : okS s c i) (w : World) : Calls Tryz.prog 15 #[spV (s : Int) (c : Int) (i : Int)] w fun e w' => e = .returned (.int .u32 (atS s c i : Int)) ∧ Below w.heap.size w w' := by
  have h1 := Lib.hid (fun V => rregion_any s c V (by have := h.1; omega) (by have := h.2.1; omega))
  have h2 := Lib.hid (fun V => refslot_yes c V h.2.1)
  have hl := atS_lt h
  have ho := off_lt h.2.1 h.2.2
  have hs := h.1
  have hc := h.2.1
  have hat : atS s c i = 256 * (4096 * s + 4097 + 17 * c) + i * (pay c + 32) + 16 := rfl
  obtain ⟨A, hA⟩ : ∃ A, A = atS s c i := ⟨_, rfl⟩
  rw [← hA] at hat hl ⊢
  obtain ⟨R, hR⟩ : ∃ R, R = 4096 * s + 4097 + 17 * c := ⟨_, rfl⟩
  have hRb : R ≤ 20000 := by omega
  rw [← hR] at h1 hat
  obtain ⟨P, hP⟩ : ∃ P, P = pay c + 32 := ⟨_, rfl⟩
  rw [← hP] at h2 hat ho
  obtain ⟨D, hD⟩ : ∃ D, D = i * P := ⟨_, rfl⟩
  rw [← hD] at hat ho
  have e1 : IntKind.i64.wrap (256 * (R : Int)) = ((256 * R : Nat) : Int) := (wrapI _ (by omega) (by omega)).trans (by omega)
  have e2 : IntKind.i64.wrap ((i : Int) * (P : Int)) = (D : Int) := by rw [← Int.natCast_mul, ← hD]; exact wrapI _ (by omega) (by omega)
  have e3 : IntKind.i64.wrap (((256 * R : Nat) : Int) + (D : Int)) = ((256 * R + D : Nat) : Int) := (wrapI _ (by omega) (by omega)).trans (by omega)
  have e4 : IntKind.i64.wrap (((256 * R + D : Nat) : Int) + 16) = (A : Int) := (wrapI _ (by omega) (by omega)).trans (by omega)
  have e5 : IntKind.u32.wrap (A : Int) = (A : Int) := by rw [IntKind.wrap_u32]; omega
  obtain ⟨x1, hx1⟩ : ∃ x, x = 256 * R := ⟨_, rfl⟩
  obtain ⟨x2, hx2⟩ : ∃ x, x = 256 * R + D := ⟨_, rfl⟩
  rw [← hx2] at e3 e4
  rw [← hx1] at e1 e3
  have HB := Lib.hid (show Below w.heap.size w (w.alloc (.cells #[.int .i64 (s : Int), .int .i64 (c : Int), .int .i64 (i : Int)] 37)).drew from (below1 w _).drew)
  have HSA : Hid (∀ W, Below (w.heap.size + 1) (w.alloc (.cells #[.int .i64 (s : Int), .int .i64 (c : Int), .int .i64 (i : Int)] 37)).drew W → W.cell? ⟨w.heap.size, 0, none⟩ = some (.int .i64 (s : Int)) ∧ W.cell? ⟨w.heap.size, 1, none⟩ = some (.int .i64 (c : Int)) ∧ W.cell? ⟨w.heap.size, 2, none⟩ = some (.int .i64 (i : Int))) := Lib.hid (fun W hW => by
    obtain ⟨b0, b1, b2⟩ := box3 w (.int .i64 (s : Int)) (.int .i64 (c : Int)) (.int .i64 (i : Int)) 37
    exact ⟨(hW.cell (p := ⟨w.heap.size, 0, none⟩) (by show w.heap.size < _; omega)).trans b0, (hW.cell (p := ⟨w.heap.size, 1, none⟩) (by show w.heap.size < _; omega)).trans b1, (hW.cell (p := ⟨w.heap.size, 2, none⟩) (by show w.heap.size < _; omega)).trans b2⟩)
  clear hx1 hx2 hA hR hRb hP hD hat hl ho hs hc h
  go_enter Tryz.func15, Tryz.ntmps15
  go_wp2_with fail
  go_region_held3 (fun W => W.cell? ⟨w.heap.size, 0, none⟩ = some (.int .i64 (s : Int)) ∧ W.cell? ⟨w.heap.size, 1, none⟩ = some (.int .i64 (c : Int)) ∧ W.cell? ⟨w.heap.size, 2, none⟩ = some (.int .i64 (i : Int)))
    (first | exact HSA.out _ (Below.refl _ _) | exact HSA.out _ (by assumption) | (go_split_ands; exact HSA.out _ (by assumption)))
    (first | (go_at_call 46; refine (h1.out _).mono ?_; rintro e w2 ⟨rfl, rfl⟩) | (go_at_call 47; refine (h2.out _).mono ?_; rintro e w2 ⟨rfl, rfl⟩))
  go_wp2
  go_ret
  exact ⟨rfl, HB.out⟩
end Go.Proofs.YtiahmccchpmdgaaGreatDoor.Me
