import Derived.Test.YtpnlddjobphjnaaDoorBase
import Derived.BigQuiet
import Derived.Deep.QuietTactic
import Derived.Laws.Externs
import Derived.Laws.Bits64b
import Derived.Lib.Mul64
namespace Go.Proofs.YtpnlddjobphjnaaDoor
open Go.RowKit

theorem below1 (w : World) (o : Obj) : Below w.heap.size w (w.alloc o) := (Below.refl _ _).alloc (Nat.le_refl _) _
theorem below2 (w : World) (o p : Obj) : Below w.heap.size w ((w.alloc o).alloc p) := (below1 w o).alloc (by simp) _
theorem below3 (w : World) (o p q : Obj) : Below w.heap.size w (((w.alloc o).alloc p).alloc q) := (below2 w o p).alloc (by simp; omega) _
theorem bcell {W w1 : World} {n : Nat} (hb : Below n W w1) : (∀ b o, b < n → w1.cell? ⟨b, o, none⟩ = W.cell? ⟨b, o, none⟩) ∧ (∀ b o, b < n → w1.frozen? ⟨b, o, none⟩ = W.frozen? ⟨b, o, none⟩) :=
  ⟨fun b o h => hb.cell (p := ⟨b, o, none⟩) h, fun b o h => hb.frozen (p := ⟨b, o, none⟩) h⟩

/-- two halves, a number of 128 bits -/
abbrev hv (h l : Nat) : Value := .agg #[.int .u64 (h : Int), .int .u64 (l : Int)]

theorem num_any (n : Int) (w : World) : Calls Tryd.prog 13 #[.int .i64 n] w fun e w' => e = .returned (.int .i64 n) ∧ w = w' := by
  go_enter Tryd.func13, Tryd.ntmps13
  go_wp2
  go_ret
  exact ⟨rfl, rfl⟩

theorem run_add64' (l n : Nat) (w : World) : (callFunc 66 #[.int .u64 (l : Int), .int .u64 (n : Int), .int .u64 0]).run Tryd.prog w =
    .ok (.value (.tuple #[.int .u64 (((l + n) % 18446744073709551616 : Nat) : Int), .int .u64 (((l + n) / 18446744073709551616 : Nat) : Int)])) w := by
  rw [run_callFunc_extern Tryd.func66 (by kernel_rfl) (by kernel_rfl) (by kernel_rfl) (e := add64Entry) (by kernel_rfl), run_add64 (l : Int) (n : Int) 0 (by omega) (by omega) (by omega) (by omega)]
  simp only [Result.andThen]
  congr 5 <;> omega

theorem wrapN (a : Nat) (ha : a < 18446744073709551616) : IntKind.u64.wrap (a : Int) = (a : Int) := by rw [IntKind.wrap_u64]; omega
theorem wrapM (a : Nat) : IntKind.u64.wrap (a : Int) = ((a % 18446744073709551616 : Nat) : Int) := by rw [IntKind.wrap_u64]; omega

set_option maxHeartbeats 400000 in
theorem plus_any (h l n : Nat) (w : World) (hh : h < 1000) (hl : l < 18446744073709551616) (hn : n < 18446744073709551616) :
    Calls Tryd.prog 64 #[hv h l, .int .u64 (n : Int)] w fun e w' => e = .returned (hv (h + (l + n) / 18446744073709551616) ((l + n) % 18446744073709551616)) ∧ Below w.heap.size w w' := by
  have hw : IntKind.u64.wrap ((h : Int) + ((l + n) / 18446744073709551616 : Nat)) = ((h + (l + n) / 18446744073709551616 : Nat) : Int) := by rw [← Int.natCast_add, wrapN _ (by omega)]
  have hadd := run_add64' l n
  obtain ⟨a, ha⟩ : ∃ a, a = (l + n) / 18446744073709551616 := ⟨_, rfl⟩
  obtain ⟨b, hb⟩ : ∃ b, b = (l + n) % 18446744073709551616 := ⟨_, rfl⟩
  rw [← ha] at hw ⊢
  rw [← hb]
  have hadd2 : ∀ w, (callFunc 66 #[.int .u64 (l : Int), .int .u64 (n : Int), .int .u64 0]).run Tryd.prog w = .ok (.value (.tuple #[.int .u64 (b : Int), .int .u64 (a : Int)])) w := fun w => by rw [hadd w, ← ha, ← hb]
  clear hadd ha hb hh hl hn
  go_enter Tryd.func64, Tryd.ntmps64
  go_wp2_with (simp only [hadd2])
  exact bodyPost_ret (v := hv (h + a) b) (by simp [results, Tryd.results64, go_sem]) rfl ⟨rfl, below2 _ _ _⟩

set_option maxHeartbeats 400000 in
theorem over_no (l : Nat) (w : World) : Calls Tryd.prog 55 #[hv 0 l] w fun e w' => e = .returned (.bool false) ∧ Below w.heap.size w w' := by
  go_enter Tryd.func55, Tryd.ntmps55
  go_wp2
  go_ret
  exact ⟨rfl, below1 _ _⟩
set_option maxHeartbeats 400000 in
theorem over_yes (h l : Nat) (w : World) (hh : 0 < h) : Calls Tryd.prog 55 #[hv h l] w fun e w' => e = .returned (.bool true) ∧ Below w.heap.size w w' := by
  go_enter Tryd.func55, Tryd.ntmps55
  have hb : ((h : Int) != 0) = true := by simp; omega
  go_wp2
  go_ret
  exact ⟨rfl, below1 _ _⟩

namespace Mul64
theorem maskN (a : Nat) (ha : a < 18446744073709551616) : bits .and .u64 (a : Int) 4294967295 = ((a % 4294967296 : Nat) : Int) := by
  have h := bits_and_u64_nat a 4294967295 ha (by omega)
  have e : a &&& 4294967295 = a % 4294967296 := Nat.and_two_pow_sub_one_eq_mod a 32
  rw [e] at h
  exact h
theorem divN (a : Nat) : (a : Int) / 4294967296 = ((a / 4294967296 : Nat) : Int) := by omega
theorem mulN (a b : Nat) : (a : Int) * (b : Int) = ((a * b : Nat) : Int) := (Int.natCast_mul a b).symm
theorem addN (a b : Nat) : (a : Int) + (b : Int) = ((a + b : Nat) : Int) := (Int.natCast_add a b).symm
end Mul64

set_option maxHeartbeats 1000000 in
theorem mul64_any (x y : Nat) (hx : x < 18446744073709551616) (hy : y < 18446744073709551616) (w : World) :
    Calls Tryd.prog 56 #[.int .u64 (x : Int), .int .u64 (y : Int)] w fun e w' => e = .returned (.tuple #[.int .u64 ((x * y / 18446744073709551616 : Nat) : Int), .int .u64 ((x * y % 18446744073709551616 : Nat) : Int)]) ∧ w = w' := by
  obtain ⟨bd, bt, bw, hhi⟩ := Lib.mul64_hi x y hx hy
  have ba := Lib.half_mul_le (a := x / 4294967296) (b := y / 4294967296) (by omega) (by omega)
  have bb := Lib.half_mul_le (a := x / 4294967296) (b := y % 4294967296) (by omega) (by omega)
  have bc := Lib.half_mul_le (a := x % 4294967296) (b := y / 4294967296) (by omega) (by omega)
  have ba' : x / 4294967296 * (y / 4294967296) < 18446744073709551616 := by omega
  have bb' : x / 4294967296 * (y % 4294967296) < 18446744073709551616 := by omega
  have bc' : x % 4294967296 * (y / 4294967296) < 18446744073709551616 := by omega
  have bh1 : x / 4294967296 * (y / 4294967296) + (x / 4294967296 * (y % 4294967296) + x % 4294967296 * (y % 4294967296) / 4294967296) / 4294967296 < 18446744073709551616 := by omega
  have bh : x / 4294967296 * (y / 4294967296) + (x / 4294967296 * (y % 4294967296) + x % 4294967296 * (y % 4294967296) / 4294967296) / 4294967296 + ((x / 4294967296 * (y % 4294967296) + x % 4294967296 * (y % 4294967296) / 4294967296) % 4294967296 + x % 4294967296 * (y / 4294967296)) / 4294967296 < 18446744073709551616 := by omega
  go_enter Tryd.func56, Tryd.ntmps56
  go_wp2
  simp only [Mul64.maskN x hx, Mul64.maskN y hy, Mul64.divN, Mul64.mulN, Mul64.addN, wrapN _ bd, wrapN _ bb', wrapN _ bt, Mul64.maskN _ bt, wrapN _ bc', wrapN _ bw, wrapN _ ba', wrapN _ bh1, wrapN _ bh, wrapM (x * y)]
  rw [hhi]
  go_ret2
  exact ⟨rfl, rfl⟩

set_option maxHeartbeats 400000 in
theorem times_zero (h l : Nat) (w : World) : Calls Tryd.prog 50 #[hv h l, .int .u64 0] w fun e w' => e = .returned (hv 0 0) ∧ Below w.heap.size w w' := by
  go_enter Tryd.func50, Tryd.ntmps50
  go_wp2
  exact bodyPost_ret (v := hv 0 0) (by simp [results, Tryd.results50, go_sem]) rfl ⟨rfl, below2 _ _ _⟩
set_option maxHeartbeats 400000 in
theorem times_over (h l n : Nat) (w : World) (hh : 0 < h) (hn : 0 < n) : Calls Tryd.prog 50 #[hv h l, .int .u64 (n : Int)] w fun e w' => e = .returned (hv h l) ∧ Below w.heap.size w w' := by
  have hb : ((n : Int) == 0) = false := by simp; omega
  have HH := Lib.hid hh
  clear hn hh
  go_enter Tryd.func50, Tryd.ntmps50
  go_wp2_with fail
  refine (over_yes h l _ HH.out).mono ?_
  rintro e w1 ⟨rfl, hb1⟩
  obtain ⟨hc, hf⟩ := bcell hb1
  have hz : w.heap.size + 1 < w1.heap.size := by have := hb1.size; simp at this; omega
  go_wp2
  exact bodyPost_ret (v := hv h l) (by simp [results, Tryd.results50, go_sem, hc]) rfl ⟨rfl, (((below2 _ _ _).trans (hb1.mono (by simp; omega))).setCell (by simp) _).setCell (by simp) _⟩

set_option maxHeartbeats 400000 in
theorem times_low (l n : Nat) (w : World) (hn : 0 < n) (hl : l < 18446744073709551616) (hn2 : n < 18446744073709551616) : Calls Tryd.prog 50 #[hv 0 l, .int .u64 (n : Int)] w fun e w' => e = .returned (hv (l * n / 18446744073709551616) (l * n % 18446744073709551616)) ∧ Below w.heap.size w w' := by
  have hb : ((n : Int) == 0) = false := by simp; omega
  have hm := Lib.hid (fun w => mul64_any l n hl hn2 w)
  obtain ⟨a, ha⟩ : ∃ a, a = l * n / 18446744073709551616 := ⟨_, rfl⟩
  obtain ⟨b, hb'⟩ : ∃ b, b = l * n % 18446744073709551616 := ⟨_, rfl⟩
  rw [← ha, ← hb'] at hm ⊢
  clear ha hb' hl hn2 hn
  go_enter Tryd.func50, Tryd.ntmps50
  go_wp2_with fail
  refine (over_no l _).mono ?_
  rintro e w1 ⟨rfl, hb1⟩
  obtain ⟨hc, hf⟩ := bcell hb1
  have hz : w.heap.size + 1 < w1.heap.size := by have := hb1.size; simp at this; omega
  go_wp2_with fail
  refine (hm.out w1).mono ?_
  rintro e w2 ⟨rfl, rfl⟩
  go_wp2
  exact bodyPost_ret (v := hv a b) (by simp [results, Tryd.results50, go_sem, hc]) rfl ⟨rfl, (((below2 _ _ _).trans (hb1.mono (by simp; omega))).setCell (by simp) _).setCell (by simp) _⟩

set_option maxHeartbeats 400000 in
theorem number_ok (l : Nat) (w : World) : Calls Tryd.prog 54 #[hv 0 l] w fun e w' => e = .returned (.tuple #[.int .u64 (l : Int), .int .i64 0]) ∧ Below w.heap.size w w' := by
  go_enter Tryd.func54, Tryd.ntmps54
  go_wp2_with fail
  refine wp_scope_jump 1 fun R hR hG => ?_
  go_wp2_with fail
  refine (over_no l _).mono ?_
  rintro e w1 ⟨rfl, hb1⟩
  obtain ⟨hc, hf⟩ := bcell hb1
  have hz : w.heap.size < w1.heap.size := by have := hb1.size; simp at this; omega
  go_wp2
  refine hR.out _ _ _ _ (by simp) ?_
  go_ret2
  exact ⟨rfl, (below1 _ _).trans (hb1.mono (by simp))⟩
set_option maxHeartbeats 400000 in
theorem number_over (h l : Nat) (w : World) (hh : 0 < h) : Calls Tryd.prog 54 #[hv h l] w fun e w' => e = .returned (.tuple #[.int .u64 0, .int .i64 120]) ∧ Below w.heap.size w w' := by
  have HH := Lib.hid hh
  clear hh
  go_enter Tryd.func54, Tryd.ntmps54
  go_wp2_with fail
  refine wp_scope_jump 1 fun R hR hG => ?_
  go_wp2_with fail
  refine (over_yes h l _ HH.out).mono ?_
  rintro e w1 ⟨rfl, hb1⟩
  obtain ⟨hc, hf⟩ := bcell hb1
  have hz : w.heap.size < w1.heap.size := by have := hb1.size; simp at this; omega
  go_wp2
  refine wp_goto (hG.out _ _ _ _ _ rfl ?_)
  go_wp2
  refine hR.out _ _ _ _ (by simp) ?_
  go_ret2
  exact ⟨rfl, (below1 _ _).trans (hb1.mono (by simp))⟩
end Go.Proofs.YtpnlddjobphjnaaDoor
