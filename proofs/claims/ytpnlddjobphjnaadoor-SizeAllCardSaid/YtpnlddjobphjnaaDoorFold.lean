import Derived.Test.YtpnlddjobphjnaaDoorUps
import Derived.Test.YtpnlddjobphjnaaDoorPower
import Derived.LoopTactic
namespace Go.Proofs.YtpnlddjobphjnaaDoor
open Go.RowKit

/-- numbers as cells -/
def nums (l : List Nat) : List Value := l.map fun n : Nat => .int .u64 (n : Int)
theorem nums_length (l : List Nat) : (nums l).length = l.length := by simp [nums]
theorem Sees.num {w : World} {B : Nat} {A : Option Addr} {l : List Nat} (h : Sees w B A (nums l)) {k : Nat} (hk : k < l.length) :
    ∃ ad, A = some ad ∧ ad.block < B ∧ w.cell? (ad.add k) = some (.int .u64 (l[k] : Int)) := by
  obtain ⟨ad, e, hb, hc⟩ := h.at_ (k := k) (by rw [nums_length]; exact hk)
  exact ⟨ad, e, hb, by rw [hc]; simp [nums]⟩
def Fits (l : List Nat) : Prop := ∀ (k : Nat) (h : k < l.length), l[k] < 18446744073709551616

def plusP (p : Nat × Nat) (n : Nat) : Nat × Nat := (p.1 + (p.2 + n) / 18446744073709551616, (p.2 + n) % 18446744073709551616)
def timP (p : Nat × Nat) (n : Nat) : Nat × Nat := if n = 0 then (0, 0) else if 0 < p.1 then p else (p.2 * n / 18446744073709551616, p.2 * n % 18446744073709551616)
/-- what is told of two halves -/
def outN (q : Nat × Nat) : Nat := if 0 < q.1 then 0 else q.2
def outE (q : Nat × Nat) : Int := if 0 < q.1 then 120 else 0
/-- what the first k come to -/
def stP (g : Nat × Nat → Nat → Nat × Nat) (p : Nat × Nat) (l : List Nat) (k : Nat) : Nat × Nat := (l.take k).foldl g p
theorem stP_succ {g : Nat × Nat → Nat → Nat × Nat} {p : Nat × Nat} {l : List Nat} {k : Nat} (h : k < l.length) : stP g p l (k + 1) = g (stP g p l k) l[k] := by
  unfold stP
  rw [List.take_succ_eq_append_getElem h, List.foldl_append]
  rfl

theorem times_any (p : Nat × Nat) (n : Nat) (w : World) (hl : p.2 < 18446744073709551616) (hn : n < 18446744073709551616) :
    Calls Tryd.prog 50 #[hv p.1 p.2, .int .u64 (n : Int)] w fun e w' => e = .returned (hv (timP p n).1 (timP p n).2) ∧ Below w.heap.size w w' := by
  obtain ⟨h, l⟩ := p
  unfold timP
  by_cases h0 : n = 0
  · subst h0
    exact times_zero h l w
  · rw [if_neg h0]
    by_cases hh : 0 < h
    · rw [if_pos hh]
      exact times_over h l n w hh (by omega)
    · obtain rfl : h = 0 := by omega
      rw [if_neg hh]
      exact times_low l n w (by omega) hl hn

theorem mul1_any (p : Nat × Nat) (n : Nat) (w : World) (hl : p.2 < 18446744073709551616) (hn : n < 18446744073709551616) :
    Calls Tryd.prog 49 #[hv p.1 p.2, .int .u64 (n : Int)] w fun e w' => e = .returned (hv (timP p n).1 (timP p n).2) ∧ Below w.heap.size w w' := by
  have hp := Lib.hid (fun w => times_any p n w hl hn)
  obtain ⟨h, l⟩ := p
  obtain ⟨a, ha⟩ : ∃ a, a = (timP (h, l) n).1 := ⟨_, rfl⟩
  obtain ⟨b, hb⟩ : ∃ b, b = (timP (h, l) n).2 := ⟨_, rfl⟩
  rw [← ha, ← hb] at hp ⊢
  clear ha hb hl hn
  go_enter Tryd.func49, Tryd.ntmps49
  go_wp2_with fail
  refine (hp.out _).mono ?_
  rintro e w1 ⟨rfl, hb1⟩
  obtain ⟨hc, hf⟩ := bcell hb1
  have hz : w.heap.size + 1 < w1.heap.size := by have := hb1.size; simp at this; omega
  have hz0 : w.heap.size < w1.heap.size := by omega
  go_wp2
  exact bodyPost_ret (v := hv a b) (by simp [results, Tryd.results49, go_sem, hc]) rfl ⟨rfl, (((below2 _ _ _).trans (hb1.mono (by simp; omega))).setCell (by simp) _).setCell (by simp) _⟩

/-- a pair that lies in a block -/
structure Pair (w : World) (b : Nat) (p : Nat × Nat) : Prop where
  c0 : w.cell? ⟨b, 0, none⟩ = some (.int .u64 (p.1 : Int))
  c1 : w.cell? ⟨b, 1, none⟩ = some (.int .u64 (p.2 : Int))
  f0 : w.frozen? ⟨b, 0, none⟩ = false
  f1 : w.frozen? ⟨b, 1, none⟩ = false
  lt : b < w.heap.size
theorem Pair.below {w w' : World} {b n : Nat} {p : Nat × Nat} (h : Pair w b p) (hb : Below n w w') (hn : b < n) : Pair w' b p :=
  ⟨(hb.cell (p := ⟨b, 0, none⟩) hn).trans h.c0, (hb.cell (p := ⟨b, 1, none⟩) hn).trans h.c1, (hb.frozen (p := ⟨b, 0, none⟩) hn).trans h.f0, (hb.frozen (p := ⟨b, 1, none⟩) hn).trans h.f1, by have := hb.size; have := h.lt; omega⟩
theorem pair_new (w : World) (h l : Nat) (t : TypeId) {g : Nat} (hg : w.heap.size = g) : Pair (w.alloc (.cells #[.int .u64 (h : Int), .int .u64 (l : Int)] t)) g (h, l) := by
  subst hg
  exact ⟨cell_alloc_new _ _ _ _, cell_alloc_new _ _ _ _, frozen_alloc_new _ _ _ _, frozen_alloc_new _ _ _ _, by simp⟩
theorem Pair.set {w : World} {b : Nat} {p q : Nat × Nat} (h : Pair w b p) : Pair ((w.setCell ⟨b, 0, none⟩ (.int .u64 (q.1 : Int))).setCell ⟨b, 1, none⟩ (.int .u64 (q.2 : Int))) b q := by
  have n01 : (⟨b, 0, none⟩ : Addr) ≠ ⟨b, 1, none⟩ := by simp
  have n10 : (⟨b, 1, none⟩ : Addr) ≠ ⟨b, 0, none⟩ := by simp
  have h1 : (w.setCell ⟨b, 0, none⟩ (.int .u64 (q.1 : Int))).cell? ⟨b, 1, none⟩ = some (.int .u64 (p.2 : Int)) := (World.cell?_setCell_other _ _ _ _ n01).trans h.c1
  refine ⟨(World.cell?_setCell_other _ _ _ _ n10).trans (World.cell?_setCell_same _ _ _ h.c0), World.cell?_setCell_same _ _ _ h1, ?_, ?_, ?_⟩
  · rw [World.frozen?_setCell, World.frozen?_setCell]; exact h.f0
  · rw [World.frozen?_setCell, World.frozen?_setCell]; exact h.f1
  · rw [World.size_setCell, World.size_setCell]; exact h.lt

set_option maxHeartbeats 1000000 in
theorem worked_mul (l : List Nat) (p : Nat × Nat) (n c : Nat) (A : Option Addr) (w : World) (hn : l.length = n) (hm : n ≤ 9223372036854775807) (hl : Fits l) (hr : Sees w w.heap.size A (nums l))
    (hi : ∀ k, k < n → True ∧ (stP timP p l k).2 < 18446744073709551616) :
    Calls Tryd.prog 48 #[hv p.1 p.2, .slice A n c, .func (.func 49) #[] #[]] w fun e w' =>
      e = .returned (.tuple #[.int .u64 (outN (stP timP p l n) : Int), .int .i64 (outE (stP timP p l n))]) ∧ Below w.heap.size w w' := by
  subst hn
  have HI := Lib.hid hi
  have HL := Lib.hid hl
  clear hi hl
  obtain ⟨p1, p2⟩ := p
  have hw0 := below2 w (.cells #[.int .u64 (p1 : Int), .int .u64 (p2 : Int)] 77) (.cells #[.int .u64 (p1 : Int), .int .u64 (p2 : Int)] 77)
  have hp0 : Pair ((w.alloc (.cells #[.int .u64 (p1 : Int), .int .u64 (p2 : Int)] 77)).alloc (.cells #[.int .u64 (p1 : Int), .int .u64 (p2 : Int)] 77)) (w.heap.size + 1) (stP timP (p1, p2) l 0) := pair_new _ _ _ _ (by simp)
  go_enter Tryd.func48, Tryd.ntmps48
  go_wp2_with fail
  go_loopw [14] (fun i wr => ∃ k : Nat, k ≤ l.length ∧ i = .int .i64 k ∧ Pair wr (w.heap.size + 1) (stP timP (p1, p2) l k) ∧ Below w.heap.size w wr) (fun i _ => l.length - (intOf i).toNat)
  case atStart => exact ⟨0, Nat.zero_le _, rfl, hp0, hw0⟩
  case round =>
    obtain ⟨k, hk, rfl, hp, hb⟩ := hrel
    by_cases hlt : k < l.length
    · obtain ⟨ad, rfl, hadb, hcell⟩ := (hr.below hb).num hlt
      have hfit := HL.out k hlt
      obtain ⟨hi1, hi2⟩ := HI.out k hlt
      have hsucc := Lib.hid (stP_succ (g := timP) (p := (p1, p2)) hlt)
      obtain ⟨x, hx⟩ : ∃ x, x = l[k] := ⟨_, rfl⟩
      rw [← hx] at hcell hfit hsucc
      have hcall : Hid (∀ w : World, Calls Tryd.prog 49 #[hv (stP timP (p1, p2) l k).1 (stP timP (p1, p2) l k).2, .int .u64 (x : Int)] w fun e w' => e = .returned (hv (stP timP (p1, p2) l (k + 1)).1 (stP timP (p1, p2) l (k + 1)).2) ∧ Below w.heap.size w w') := Lib.hid fun w => by
        rw [hsucc.out]; exact mul1_any _ _ w hi2 hfit
      obtain ⟨q, hq⟩ : ∃ q, q = stP timP (p1, p2) l k := ⟨_, rfl⟩
      obtain ⟨r, hr'⟩ : ∃ r, r = stP timP (p1, p2) l (k + 1) := ⟨_, rfl⟩
      have HR := Lib.hid hr'
      rw [← hq] at hp hcall
      rw [← hr'] at hcall
      obtain ⟨hc0, hc1, hf0, hf1, hlt2⟩ := hp
      clear hq hr' hx hi1 hi2 hsucc hfit
      go_wp2_with fail
      refine (hcall.out _).mono ?_
      rintro e w1 ⟨rfl, hb1⟩
      have hp1 : Pair w1 (w.heap.size + 1) q := Pair.below ⟨hc0, hc1, hf0, hf1, hlt2⟩ hb1 hlt2
      obtain ⟨hd0, hd1, hg0, hg1, hlt3⟩ := hp1
      go_wp2_with fail
      go_roundw
      case rel => exact ⟨k + 1, by omega, by go_num, by rw [← HR.out]; exact Pair.set (p := q) ⟨hd0, hd1, hg0, hg1, hlt3⟩, (((hb.trans (hb1.mono hb.size)).setCell (by simp) _).setCell (by simp) _)⟩
      case measure => simp [intOf]; omega
    · obtain rfl : k = l.length := by omega
      obtain ⟨q, hq⟩ : ∃ q, q = stP timP (p1, p2) l l.length := ⟨_, rfl⟩
      have HQ := Lib.hid hq
      rw [← hq] at hp
      clear hq
      obtain ⟨hc0, hc1, hf0, hf1, hlt2⟩ := hp
      by_cases ho : 0 < q.1
      · have HO := Lib.hid ho
        clear ho
        go_wp2_with fail
        refine (number_over q.1 q.2 _ HO.out).mono ?_
        rintro e w1 ⟨rfl, hb1⟩
        go_wp2_with fail
        go_ret2
        exact ⟨by rw [← HQ.out, outN, outE, if_pos HO.out, if_pos HO.out]; rfl, hb.trans (hb1.mono hb.size)⟩
      · have HO := Lib.hid ho
        have h0 : q.1 = 0 := by omega
        have hok : Hid (∀ w : World, Calls Tryd.prog 54 #[hv q.1 q.2] w fun e w' => e = .returned (.tuple #[.int .u64 (q.2 : Int), .int .i64 0]) ∧ Below w.heap.size w w') := Lib.hid fun w => by
          rw [h0]; exact number_ok q.2 w
        clear ho h0
        go_wp2_with fail
        refine (hok.out _).mono ?_
        rintro e w1 ⟨rfl, hb1⟩
        go_wp2_with fail
        go_ret2
        exact ⟨by rw [← HQ.out, outN, outE, if_neg HO.out, if_neg HO.out]; rfl, hb.trans (hb1.mono hb.size)⟩
end Go.Proofs.YtpnlddjobphjnaaDoor
