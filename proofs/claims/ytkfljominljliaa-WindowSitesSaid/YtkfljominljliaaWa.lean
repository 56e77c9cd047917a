import Derived.Test.YtkfljominljliaaBaseIn
import Derived.Test.YtkfljominljliaaGen
import Derived.IntWalk
import Derived.Deep.RegionHeld3
namespace Go.Proofs.Ytkfljominljliaa
open Go.RowKit
attribute [local go_sem] Oper.semAt_some

abbrev rw4 (a b c d : Int) : Value := .agg #[.int .i64 a, .int .i64 b, .int .i64 c, .int .i64 d]
abbrev tn (s : Int) : Value := .agg #[.int .i64 s]
/-- is it one of those from 0 on below a bound? -/
def isB (n b : Int) : Bool := decide (0 ≤ n) && decide (n < b)
theorem isB_yes {k n : Nat} (h : k < n) : isB (k : Int) (n : Int) = true := by simp [isB]; omega

theorem below_any (n b : Int) (w : World) : Calls Try.prog 26 #[.int .i64 n, .int .i64 b] w fun e w' => e = .returned (.bool (isB n b)) ∧ w = w' := by
  by_cases h0 : 0 ≤ n
  · have e0 : decide (0 ≤ n) = true := decide_eq_true h0
    obtain ⟨c, hc⟩ : ∃ c, decide (n < b) = c := ⟨_, rfl⟩
    rw [isB, e0, hc]
    go_enter Try.func26, Try.ntmps26
    go_wp2
    go_ret
    exact ⟨rfl, rfl⟩
  · have e0 : decide (0 ≤ n) = false := decide_eq_false h0
    rw [isB, e0]
    go_enter Try.func26, Try.ntmps26
    go_wp2
    go_ret
    exact ⟨rfl, rfl⟩

set_option maxHeartbeats 1000000 in
theorem sum_any (a b s : Int) (g : Nat) (w : World) (h : Row w g 3 [.int .i64 a, .int .i64 b]) (ha : -9223372036854775808 ≤ a ∧ a ≤ 9223372036854775807) (hs : IntKind.i64.wrap (a + b) = s) :
    Calls Try.prog 34 #[.slice (some ⟨g, 0, none⟩) 2 2] w fun e w' => e = .returned (.int .i64 s) ∧ w = w' := by
  have c0 : w.cell? ⟨g, 0, none⟩ = some (.int .i64 a) := h.cell 0
  have c1 : w.cell? ⟨g, 1, none⟩ = some (.int .i64 b) := h.cell 1
  have wa : IntKind.i64.wrap a = a := wrapI a ha.1 ha.2
  clear h ha
  go_enter Try.func34, Try.ntmps34
  go_wp2_with fail
  go_loopw [3, 8] (fun t i V => ((i = .int .i64 0 ∧ t = .int .i64 0) ∨ (i = .int .i64 1 ∧ t = .int .i64 a) ∨ (i = .int .i64 2 ∧ t = .int .i64 s)) ∧ V = w) (fun _ i _ => 2 - (intOf i).toNat)
  case atStart => exact ⟨.inl ⟨rfl, rfl⟩, rfl⟩
  case round =>
    obtain ⟨⟨rfl, rfl⟩ | ⟨rfl, rfl⟩ | ⟨rfl, rfl⟩, rfl⟩ := hrel
    · go_wp2
      go_roundw
      case rel => exact ⟨.inr (.inl ⟨rfl, rfl⟩), by simp⟩
      case measure => simp [intOf]
    · go_wp2
      go_roundw
      case rel => exact ⟨.inr (.inr ⟨rfl, rfl⟩), by simp⟩
      case measure => simp [intOf]
    · go_wp2
      go_ret
      exact ⟨rfl, rfl⟩
end Go.Proofs.Ytkfljominljliaa
