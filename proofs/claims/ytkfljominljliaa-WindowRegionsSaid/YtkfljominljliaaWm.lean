import Derived.Test.YtkfljominljliaaWl
import Derived.Test.YtkfljominljliaaRangeBox
import Derived.Laws.EntriesVeiled
namespace Go.Proofs.Ytkfljominljliaa
open Go.RowKit Go.Shelf
attribute [local go_sem] Oper.semAt_some

def sF (k : Nat) : Nat := [49, 51, 53, 56].getD k 0
def sG (k : Nat) : Nat := [50, 52, 54, 57].getD k 0
abbrev srV (k : Nat) : Value := .agg #[Value.func (.func (sF k)) #[] #[], Value.func (.func (sG k)) #[] #[]]
def sortC : List Value := [Value.func (.func (sF 0)) #[] #[], Value.func (.func (sG 0)) #[] #[], Value.func (.func (sF 1)) #[] #[], Value.func (.func (sG 1)) #[] #[], Value.func (.func (sF 2)) #[] #[], Value.func (.func (sG 2)) #[] #[], Value.func (.func (sF 3)) #[] #[], Value.func (.func (sG 3)) #[] #[]]
theorem sortC_get {k : Nat} (h : k < 4) : sortC[k * 2]? = some (Value.func (.func (sF k)) #[] #[]) ∧ sortC[k * 2 + 1]? = some (Value.func (.func (sG k)) #[] #[]) := by
  rcases (show k = 0 ∨ k = 1 ∨ k = 2 ∨ k = 3 by omega) with rfl | rfl | rfl | rfl <;> exact ⟨rfl, rfl⟩

theorem sorts_any (w : World) : Calls Try.prog 42 #[] w fun e w' => e = .returned (.slice (some ⟨w.heap.size, 0, none⟩) 4 4) ∧ w' = w.alloc (.cells sortC.toArray 79) := by
  go_enter Try.func42, Try.ntmps42
  go_wp2
  go_ret
  exact ⟨rfl, rfl⟩
theorem values_any (A : Option Addr) (n c : Nat) (w : World) : Calls Try.prog 41 #[.slice A n c] w fun e w' => e = .returned (.func (.func 48) #[] #[.pointer (some ⟨w.heap.size, 0, none⟩)]) ∧ w' = w.alloc (.cells #[.slice A n c] 85) := by
  go_enter Try.func41, Try.ntmps41
  go_wp2
  go_ret
  exact ⟨rfl, rfl⟩

def encS (k : Nat) : Array Value := #[.agg #[Value.func (.func (sF k)) #[] #[], Value.func (.func (sG k)) #[] #[]]]
def preS (pre : List Nat) (x : Nat) (_ : World) : Prop := x = pre.length ∧ x < 4 ∧ pre = List.range x
def allS (xs : List Nat) : Prop := xs = List.range 4
def someS (xs : List Nat) : Prop := xs = List.range xs.length ∧ xs.length ≤ 4
theorem range_snoc {pre : List Nat} {k : Nat} (h : pre = List.range k) : Hid (pre ++ [k] = List.range (k + 1)) := by
  show _ = _
  rw [List.range_succ, h]

/-- the list of sorts, and the box in which its slice stands -/
structure Stands (w : World) (bx sl : Nat) : Prop where
  box : Boxed w bx 85 (.slice (some ⟨sl, 0, none⟩) 4 4)
  row : Row w sl 79 sortC
theorem Stands.same {w w' : World} {bx sl : Nat} (h : Stands w bx sl) (h1 : w'.heap[bx]? = w.heap[bx]?) (h2 : w'.heap[sl]? = w.heap[sl]?) : Stands w' bx sl := ⟨h1.trans h.box, h2.trans h.row⟩
theorem Stands.below {w w' : World} {bx sl : Nat} (h : Stands w bx sl) (hb : Below w.heap.size w w') : Stands w' bx sl := h.same (hb.block _ h.box.lt) (hb.block _ h.row.lt)

set_option maxHeartbeats 1000000 in
theorem vals_it (bx sl : Nat) (w0 : World) (ht : Stands w0 bx sl) : It Try.prog 48 #[.pointer (some ⟨bx, 0, none⟩)] encS (fun _ _ => False) preS (fun k => k = bx ∨ k = sl) allS someS w0 := by
  intro l J Jx W hpW hsW hJ hJx hY h0
  have htW : Stands W bx sl := ht.same (hpW _ (.inl rfl)) (hpW _ (.inr rfl))
  have hcb := htW.box.cell
  refine (callsIn_wide (n := 1)).1 ?_
  refine callsIn_of_wp Try.func48 rfl trivial ?_ rfl
  simp only [Try.ntmps48, List.size_toArray, List.length_cons, List.length_nil, Nat.reduceAdd, Nat.reduceSub, Array.replicate_succ, Array.replicate_zero, List.push_toArray, List.append_toArray, List.nil_append, List.cons_append]
  gi_wp2_with fail
  gi_loopw [7] (fun t wr => ∃ (k : Nat) (pre : List Nat) (O : Nat → Prop), t = .int .i64 k ∧ k ≤ 4 ∧ Hid (pre = List.range k) ∧ J pre O wr ∧ W.heap.size ≤ wr.heap.size ∧ (∀ b, O b → W.heap.size ≤ b ∧ b < wr.heap.size) ∧ Stands wr bx sl) (fun t _ => 4 - (intOf t).toNat)
  case atStart => exact ⟨0, [], fun _ => False, rfl, by omega, rfl, h0, Nat.le_refl _, fun b (h : False) => h.elim, htW⟩
  case round =>
    obtain ⟨k, pre, O, rfl, hk, Hpre, hj, hws, hO, htr⟩ := hrel
    by_cases hlt : k < 4
    · have hl8 : decide ((k : Int) < 4) = true := decide_eq_true (by omega)
      have hl9 : (k : Int) < 4 := by omega
      have hlen : pre.length = k := by rw [Hpre.out]; simp
      have Hlen := Lib.hid hlen
      have c0 : wr.cell? ⟨sl, k * 2, none⟩ = some (Value.func (.func (sF k)) #[] #[]) := (htr.row.cell _).trans (sortC_get hlt).1
      have c1 : wr.cell? ⟨sl, k * 2 + 1, none⟩ = some (Value.func (.func (sG k)) #[] #[]) := (htr.row.cell _).trans (sortC_get hlt).2
      clear hlen
      gi_wp2_with fail
      obtain ⟨w1, hw1⟩ : ∃ w1, w1 = wr.alloc (.cells #[Value.func (.func (sF k)) #[] #[], Value.func (.func (sG k)) #[] #[]] 79) := ⟨_, rfl⟩
      have hb1 : Below wr.heap.size wr w1 := by rw [hw1]; exact below1 _ _
      rw [← hw1]
      clear hw1
      obtain ⟨fn, tmps, assign, body, hy, hR⟩ := hY pre k O w1 (Nat.le_trans hws hb1.size) (fun b h => by have := hO b h; have := hb1.size; omega) (hJ.below hj (hb1.mono (by omega))) ⟨Hlen.out.symm, hlt, Hpre.out⟩ (fun b (h : False) => h.elim)
      simp only [encS] at hy
      gi_wp2
      rw [hy]
      gi_wp2
      refine hR.mono ?_
      rintro e W' ⟨hk', (⟨rfl, hj'⟩ | ⟨rfl, hjx⟩)⟩
      · gi_wp2
        go_roundw
        case rel => exact ⟨k + 1, _, _, by go_num, by omega, range_snoc Hpre.out, hj', Nat.le_trans (Nat.le_trans hws hb1.size) hk'.size, nextO_bound (M := fun _ => False) (fun b h => by have := hO b h; have := hb1.size; omega) (Nat.le_trans hws hb1.size) hk'.size, (htr.below hb1).same (hk'.same _ (htr.below hb1).box.lt (.inl (.inl rfl))) (hk'.same _ (htr.below hb1).row.lt (.inl (.inr rfl)))⟩
        case measure => simp [intOf]; omega
      · gi_wp2
        refine bodyPost_ret (results_none rfl _ _ _) rfl ?_
        have HX := range_snoc Hpre.out
        exact itEnd.part ⟨by rw [List.length_append, Hlen.out]; exact HX.out, by rw [List.length_append, Hlen.out]; simp; omega⟩ hjx
    · obtain rfl : k = 4 := by omega
      gi_wp2
      go_end0
      exact itEnd.all Hpre.out hj
end Go.Proofs.Ytkfljominljliaa
