import Derived.Test.YtkfljominljliaaWu
import Derived.Test.YtkfljominljliaaGatherK
namespace Go.Proofs.Ytkfljominljliaa
open Go.RowKit Go.Shelf
attribute [local go_sem] Oper.semAt_some

/- THE REGIONS, ONE BY ONE. -/
def encW (f s : Nat) (k : Nat) : Array Value := #[.int .i64 (k : Int), .int .i64 ((f + s * k : Nat) : Int)]
def preW (r : Nat) (pre : List Nat) (x : Nat) (_ : World) : Prop := x = pre.length ∧ x < r ∧ pre = List.range x
def allW (r : Nat) (xs : List Nat) : Prop := xs = List.range r
def someW (r : Nat) (xs : List Nat) : Prop := xs = List.range xs.length ∧ xs.length ≤ r
abbrev rowC (f s p r : Nat) : List Value := [.int .i64 (f : Int), .int .i64 (s : Int), .int .i64 (p : Int), .int .i64 (r : Int)]

set_option maxHeartbeats 2000000 in
theorem runs_it (f s p r : Nat) (hf : f < 1000000) (hs : s < 1000000) (hr : r < 1000) (bx : Nat) (w0 : World) (ht : Row w0 bx 58 (rowC f s p r)) :
    It Try.prog 58 #[.pointer (some ⟨bx, 0, none⟩)] (encW f s) (fun _ _ => False) (preW r) (fun k => k = bx) (allW r) (someW r) w0 := by
  intro l J Jx W hpW hsW hJ hJx hY h0
  have htW : Row W bx 58 (rowC f s p r) := ht.same (hpW _ rfl)
  have q3 : W.cell? ⟨bx, 3, none⟩ = some (.int .i64 (r : Int)) := htW.cell 3
  refine (callsIn_wide (n := 1)).1 ?_
  refine callsIn_of_wp Try.func58 rfl trivial ?_ rfl
  simp only [Try.ntmps58, List.size_toArray, List.length_cons, List.length_nil, Nat.reduceAdd, Nat.reduceSub, Array.replicate_succ, Array.replicate_zero, List.push_toArray, List.append_toArray, List.nil_append, List.cons_append]
  gi_wp2_with fail
  gi_loopw [6] (fun t wr => ∃ (k : Nat) (pre : List Nat) (O : Nat → Prop), t = .int .i64 k ∧ k ≤ r ∧ Hid (pre = List.range k) ∧ J pre O wr ∧ W.heap.size ≤ wr.heap.size ∧ (∀ b, O b → W.heap.size ≤ b ∧ b < wr.heap.size) ∧ Row wr bx 58 (rowC f s p r)) (fun t _ => r - (intOf t).toNat)
  case atStart => exact ⟨0, [], fun _ => False, rfl, Nat.zero_le _, rfl, h0, Nat.le_refl _, fun b (h : False) => h.elim, htW⟩
  case round =>
    obtain ⟨k, pre, O, rfl, hk, Hpre, hj, hws, hO, htr⟩ := hrel
    by_cases hlt : k < r
    · have hl8 : decide ((k : Int) < (r : Int)) = true := decide_eq_true (by omega)
      have hl9 : (k : Int) < (r : Int) := by omega
      have hl7 : decide (k < r) = true := decide_eq_true hlt
      have hlen : pre.length = k := by rw [Hpre.out]; simp
      have Hlen := Lib.hid hlen
      have hm : s * k ≤ 1000000 * 1000 := Nat.mul_le_mul (by omega) (by omega)
      have a0 : IntKind.i64.wrap ((k : Int) + 1) = (k : Int) + 1 := wrapI _ (by omega) (by omega)
      have hin := Lib.hid (fun w => in_any (k : Int) (f : Int) (s : Int) (p : Int) (r : Int) ((s * k : Nat) : Int) ((f + s * k : Nat) : Int) w (by omega) ((wrapI _ (by rw [← Int.natCast_mul, Nat.mul_comm]; omega) (by rw [← Int.natCast_mul, Nat.mul_comm]; omega)).trans (by rw [← Int.natCast_mul, Nat.mul_comm])) ((wrapI _ (by omega) (by omega)).trans (by omega)))
      obtain ⟨x, hx⟩ : ∃ x, x = f + s * k := ⟨_, rfl⟩
      rw [← hx] at hin
      have c0 : wr.cell? ⟨bx, 0, none⟩ = some (.int .i64 (f : Int)) := htr.cell 0
      have c1 : wr.cell? ⟨bx, 1, none⟩ = some (.int .i64 (s : Int)) := htr.cell 1
      have c2 : wr.cell? ⟨bx, 2, none⟩ = some (.int .i64 (p : Int)) := htr.cell 2
      have c3 : wr.cell? ⟨bx, 3, none⟩ = some (.int .i64 (r : Int)) := htr.cell 3
      have HX := Lib.hid hx
      clear hlen hm hx
      gi_wp2_with fail
      refine ⟨trivial, (callsIn_wide.2 (hin.out wr)).mono ?_⟩
      rintro e w1 ⟨rfl, hb1⟩
      obtain ⟨fn, tmps, assign, body, hy, hR⟩ := hY pre k O w1 (Nat.le_trans hws hb1.size) (fun b h => by have := hO b h; have := hb1.size; omega) (hJ.below hj (hb1.mono (by omega))) ⟨Hlen.out.symm, hlt, Hpre.out⟩ (fun b (h : False) => h.elim)
      simp only [encW] at hy
      rw [← HX.out] at hy
      clear c0 c1 c2 c3
      gi_wp2
      refine hR.mono ?_
      rintro e W' ⟨hk', (⟨rfl, hj'⟩ | ⟨rfl, hjx⟩)⟩
      · gi_wp2
        go_roundw
        case rel => exact ⟨k + 1, _, _, by go_num, by omega, range_snoc Hpre.out, hj', Nat.le_trans (Nat.le_trans hws hb1.size) hk'.size, nextO_bound (M := fun _ => False) (fun b h => by have := hO b h; have := hb1.size; omega) (Nat.le_trans hws hb1.size) hk'.size, (htr.below hb1).same (hk'.same _ (htr.below hb1).lt (.inl rfl))⟩
        case measure => simp [intOf]; omega
      · gi_wp2
        refine bodyPost_ret (results_none rfl _ _ _) rfl ?_
        have HX := range_snoc Hpre.out
        exact itEnd.part ⟨by rw [List.length_append, Hlen.out]; exact HX.out, by rw [List.length_append, Hlen.out]; simp; omega⟩ hjx
    · obtain rfl : k = r := by omega
      have hl8 : decide ((k : Int) < (k : Int)) = false := decide_eq_false (by omega)
      gi_wp2
      go_end0
      exact itEnd.all Hpre.out hj
theorem runs_any (f s p r : Int) (w : World) : Calls Try.prog 46 #[rw4 f s p r] w fun e w' => e = .returned (.func (.func 58) #[] #[.pointer (some ⟨w.heap.size, 0, none⟩)]) ∧ w' = w.alloc (.cells #[.int .i64 f, .int .i64 s, .int .i64 p, .int .i64 r] 58) := by
  go_enter Try.func46, Try.ntmps46
  go_wp2
  go_ret
  exact ⟨rfl, rfl⟩
end Go.Proofs.Ytkfljominljliaa
