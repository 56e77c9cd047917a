import Derived.Test.YtfmbfojlopibnaaDoorStir
import Derived.Test.YtfmbfojlopibnaaDoorGen
import Derived.Laws.Entries
import Derived.Laws.Shifts
import Derived.Laws.Bits64b
import Derived.Laws.BitsLemmas
namespace Go.Proofs.YtfmbfojlopibnaaDoor
open Go.RowKit Go.Shelf
attribute [local go_sem] Oper.semAt_some

/- THE SMALL FUNCTIONS OF HALVES AND WORDS. -/

theorem or32 (a b : Nat) (ha : a < 4294967296) (hb : b < 4294967296) : bits .or .u32 (a : Int) (b : Int) = ((a ||| b : Nat) : Int) := by
  have h1 : (BitVec.ofInt 32 (a : Int)).toNat = a := by
    rw [BitVec.ofInt_natCast, BitVec.toNat_ofNat]; exact Nat.mod_eq_of_lt (by omega)
  have h2 : (BitVec.ofInt 32 (b : Int)).toNat = b := by
    rw [BitVec.ofInt_natCast, BitVec.toNat_ofNat]; exact Nat.mod_eq_of_lt (by omega)
  have hx : a ||| b < 2 ^ 32 := Nat.or_lt_two_pow (by omega) (by omega)
  show IntKind.u32.wrap ((BitVec.ofInt 32 (a : Int) ||| BitVec.ofInt 32 (b : Int)).toNat : Int) = _
  rw [BitVec.toNat_or, h1, h2, IntKind.wrap_u32]
  omega
theorem xor32 (a b : Nat) (ha : a < 4294967296) (hb : b < 4294967296) : bits .xor .u32 (a : Int) (b : Int) = ((a ^^^ b : Nat) : Int) := by
  have h1 : (BitVec.ofInt 32 (a : Int)).toNat = a := by
    rw [BitVec.ofInt_natCast, BitVec.toNat_ofNat]; exact Nat.mod_eq_of_lt (by omega)
  have h2 : (BitVec.ofInt 32 (b : Int)).toNat = b := by
    rw [BitVec.ofInt_natCast, BitVec.toNat_ofNat]; exact Nat.mod_eq_of_lt (by omega)
  have hx : a ^^^ b < 2 ^ 32 := Nat.xor_lt_two_pow (by omega) (by omega)
  show IntKind.u32.wrap ((BitVec.ofInt 32 (a : Int) ^^^ BitVec.ofInt 32 (b : Int)).toNat : Int) = _
  rw [BitVec.toNat_xor, h1, h2, IntKind.wrap_u32]
  omega
theorem rot7_eq (x : Nat) (hx : x < 4294967296) : bits .or .u32 ((x : Int) * 128 % 4294967296) ((x : Int) / 33554432) = ((rot 7 x : Nat) : Int) := by
  rw [show ((x : Int) * 128 % 4294967296) = ((x * 128 % 4294967296 : Nat) : Int) by omega, show ((x : Int) / 33554432) = ((x / 33554432 : Nat) : Int) by omega, or32 _ _ (Nat.mod_lt _ (by decide)) (by omega)]
  rfl
theorem rot13_eq (x : Nat) (hx : x < 4294967296) : bits .or .u32 ((x : Int) * 8192 % 4294967296) ((x : Int) / 524288) = ((rot 13 x : Nat) : Int) := by
  rw [show ((x : Int) * 8192 % 4294967296) = ((x * 8192 % 4294967296 : Nat) : Int) by omega, show ((x : Int) / 524288) = ((x / 524288 : Nat) : Int) by omega, or32 _ _ (Nat.mod_lt _ (by decide)) (by omega)]
  rfl
theorem ret_val {a b : Value} (h : a = b) : Ending.returned a = .returned b := by rw [h]
theorem rotate7_any (x : Nat) (w : World) (hx : x < 4294967296) : Calls Tryd.prog 84 #[.int .u32 (x : Int), .int .i64 7] w fun e w' => e = .returned (.int .u32 (rot 7 x : Int)) ∧ w = w' := by
  have h1 : bits BinOp.and IntKind.u64 7 31 = 7 := by decide
  have h2 := Lib.hid (rot7_eq x hx)
  go_enter Tryd.func84, Tryd.ntmps84
  go_wp2_with fail
  go_ret
  exact ⟨by rw [← h2.out]; rfl, rfl⟩
theorem rotate13_any (x : Nat) (w : World) (hx : x < 4294967296) : Calls Tryd.prog 84 #[.int .u32 (x : Int), .int .i64 13] w fun e w' => e = .returned (.int .u32 (rot 13 x : Int)) ∧ w = w' := by
  have h1 : bits BinOp.and IntKind.u64 13 31 = 13 := by decide
  have h2 := Lib.hid (rot13_eq x hx)
  go_enter Tryd.func84, Tryd.ntmps84
  go_wp2_with fail
  go_ret
  exact ⟨by rw [← h2.out]; rfl, rfl⟩
theorem halves_any (x : Nat) (w : World) (hx : x < 18446744073709551616) : Calls Tryd.prog 74 #[.int .u64 (x : Int)] w fun e w' => e = .returned (.agg #[.int .u32 ((halvesN x).1 : Int), .int .u32 ((halvesN x).2 : Int)]) ∧ Below w.heap.size w w' := by
  have h1 : Hid ((.agg #[.int .u32 ((x : Int) / 4294967296), .int .u32 ((x : Int) % 4294967296)] : Value) = .agg #[.int .u32 ((halvesN x).1 : Int), .int .u32 ((halvesN x).2 : Int)]) := Lib.hid (by
    rw [show (x : Int) / 4294967296 = ((x / 4294967296 : Nat) : Int) by omega, show (x : Int) % 4294967296 = ((x % 4294967296 : Nat) : Int) by omega]; rfl)
  go_enter Tryd.func74, Tryd.ntmps74
  go_wp2_with fail
  exact bodyPost_ret (v := .agg #[.int .u32 ((x : Int) / 4294967296), .int .u32 ((x : Int) % 4294967296)]) (by simp [results, Tryd.results74, go_sem]) rfl ⟨by rw [h1.out], below1 _ _⟩
theorem halvesOf_any (x : Nat) (w : World) (hx : x < 18446744073709551616) : Calls Tryd.prog 57 #[.int .u64 (x : Int)] w fun e w' => e = .returned (.agg #[.int .u32 ((halvesN x).1 : Int), .int .u32 ((halvesN x).2 : Int)]) ∧ Below w.heap.size w w' := by
  have h1 := Lib.hid (fun w => halves_any x w hx)
  obtain ⟨a, ha⟩ : ∃ a, a = (halvesN x).1 := ⟨_, rfl⟩
  obtain ⟨b, hb⟩ : ∃ b, b = (halvesN x).2 := ⟨_, rfl⟩
  rw [← ha, ← hb] at h1 ⊢
  clear ha hb
  go_enter Tryd.func57, Tryd.ntmps57
  go_wp2_with fail
  refine (h1.out _).mono ?_
  rintro e w1 ⟨rfl, hb1⟩
  have hr : Row w1 w.heap.size 97 [.int .u32 0, .int .u32 0] := (Row.new w _ _).below hb1
  have hB := (below1 w (.cells #[.int .u32 0, .int .u32 0] 97)).trans (hb1.mono (by simp))
  have c0 : w1.cell? ⟨w.heap.size, 0, none⟩ = _ := hr.cell 0
  have c1 : w1.cell? ⟨w.heap.size, 1, none⟩ = _ := hr.cell 1
  have f0 := hr.frozen 0
  have f1 := hr.frozen 1
  have hr2 := (hr.set 0 (.int .u32 (a : Int))).set 1 (.int .u32 (b : Int))
  have HB := Lib.hid ((hB.setCell (p := ⟨w.heap.size, 0, none⟩) (by simp) (.int .u32 (a : Int))).setCell (p := ⟨w.heap.size, 1, none⟩) (by simp) (.int .u32 (b : Int)))
  have HR := Lib.hid hr2
  clear hr hb1 hr2 hB
  go_wp2_with fail
  obtain ⟨W', hW'⟩ : ∃ W', W' = (w1.setCell ⟨w.heap.size, 0, none⟩ (.int .u32 (a : Int))).setCell ⟨w.heap.size, 1, none⟩ (.int .u32 (b : Int)) := ⟨_, rfl⟩
  rw [← hW'] at HB HR ⊢
  have d0 : W'.cell? ⟨w.heap.size, 0, none⟩ = _ := HR.out.cell 0
  have d1 : W'.cell? ⟨w.heap.size, 1, none⟩ = _ := HR.out.cell 1
  exact bodyPost_ret (v := .agg #[.int .u32 (a : Int), .int .u32 (b : Int)]) (by simp [results, Tryd.results57, go_sem, d0, d1]) rfl ⟨rfl, HB.out⟩
theorem whole_any (a b : Nat) (w : World) (ha : a < 4294967296) (hb : b < 4294967296) : Calls Tryd.prog 62 #[.agg #[.int .u32 (a : Int), .int .u32 (b : Int)]] w fun e w' => e = .returned (.int .u64 ((wholeN (a, b) : Nat) : Int)) ∧ Below w.heap.size w w' := by
  have h1 : bits BinOp.or IntKind.u64 ((a : Int) * 4294967296) (b : Int) = ((wholeN (a, b) : Nat) : Int) := by
    rw [bits_join .u64 64 (Nat.le_refl _) (fun n h0 h1 => by rw [IntKind.wrap_u64]; omega) 32 _ _ (by omega) (by omega) (by omega) (by omega) (by omega) (by omega)]
    simp [wholeN]
  have H1 := Lib.hid h1
  clear h1
  go_enter Tryd.func62, Tryd.ntmps62
  go_wp2_with fail
  go_ret
  exact ⟨by rw [← H1.out]; rfl, below1 _ _⟩
theorem keyAt_any (k : Nat) (n : Int) (w : World) : Calls Tryd.prog 58 #[.int .u64 (k : Int), .int .i64 n] w fun e w' => e = .returned (.agg #[.int .u64 (k : Int), .int .i64 n]) ∧ Below w.heap.size w w' := by
  go_enter Tryd.func58, Tryd.ntmps58
  go_wp2_with fail
  exact bodyPost_ret (v := .agg #[.int .u64 (k : Int), .int .i64 n]) (by simp [results, Tryd.results58, go_sem]) rfl ⟨rfl, below1 _ _⟩
theorem known_any (k : Nat) (n : Int) (w : World) : Calls Tryd.prog 76 #[.agg #[.int .u64 (k : Int), .int .i64 n]] w fun e w' => e = .returned (.bool (decide (0 ≤ n) && decide (n ≤ 7))) ∧ Below w.heap.size w w' := by
  by_cases h0 : 0 ≤ n
  · have e0 : decide (0 ≤ n) = true := decide_eq_true h0
    obtain ⟨c, hd⟩ : ∃ c, c = decide (n ≤ 7) := ⟨_, rfl⟩
    have e1 : decide (n ≤ 7) = c := hd.symm
    rw [e0, e1]
    clear hd
    go_enter Tryd.func76, Tryd.ntmps76
    go_wp2
    go_ret
    exact ⟨rfl, below1 _ _⟩
  · have e0 : decide (0 ≤ n) = false := decide_eq_false h0
    rw [e0]
    go_enter Tryd.func76, Tryd.ntmps76
    go_wp2
    go_ret
    exact ⟨rfl, below1 _ _⟩
theorem stir_any (a b : Nat) (w : World) : Calls Tryd.prog 78 #[.int .u32 (a : Int), .int .u32 (b : Int)] w fun e w' => e = .returned (.int .u32 (stirN a b : Int)) ∧ w = w' := by
  obtain ⟨x, hx⟩ : ∃ x, x = (a + b) % 4294967296 := ⟨_, rfl⟩
  have hxl : x < 4294967296 := by omega
  have e1 : ((a : Int) + (b : Int)) % 4294967296 = (x : Int) := by omega
  have h1 := Lib.hid (fun w => rotate7_any x w hxl)
  have hr := rot_lt 7 x hxl
  obtain ⟨r, hrr⟩ : ∃ r, r = rot 7 x := ⟨_, rfl⟩
  rw [← hrr] at h1 hr
  have e2 := xor32 x r hxl hr
  have hyl := xor_lt32 hxl hr
  obtain ⟨y, hy⟩ : ∃ y, y = x ^^^ r := ⟨_, rfl⟩
  rw [← hy] at e2 hyl
  obtain ⟨z, hz⟩ : ∃ z, z = (y * 5 + 12345) % 4294967296 := ⟨_, rfl⟩
  have hzl : z < 4294967296 := by omega
  have e3 : ((y : Int) * 5 + 12345) % 4294967296 = (z : Int) := by omega
  have h2 := Lib.hid (fun w => rotate13_any z w hzl)
  have hs : stirN a b = rot 13 z := by rw [hz, hy, hrr, hx]; rfl
  rw [hs]
  clear hx hrr hy hz hs hr hyl hzl hxl
  go_enter Tryd.func78, Tryd.ntmps78
  go_wp2_with fail
  refine (h1.out _).mono ?_
  rintro e w1 ⟨rfl, rfl⟩
  go_wp2_with fail
  refine (h2.out _).mono ?_
  rintro e w1 ⟨rfl, rfl⟩
  go_wp2_with fail
  go_ret
  exact ⟨rfl, rfl⟩
end Go.Proofs.YtfmbfojlopibnaaDoor
