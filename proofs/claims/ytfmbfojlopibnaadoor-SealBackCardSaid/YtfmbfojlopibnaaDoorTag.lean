import Derived.Test.YtfmbfojlopibnaaDoorFold
namespace Go.Proofs.YtfmbfojlopibnaaDoor
open Go.RowKit Go.Shelf
attribute [local go_sem] Oper.semAt_some

/- TAGS UNDER WAY, THEIR WORDS. -/

/-- may such a tag be? -/
def okT (c s : Int) : Bool := decide (0 ≤ c) && (decide (c < 8) && (decide (0 ≤ s) && decide (s ≤ 65535)))
theorem okT_iff {c s : Int} : okT c s = true ↔ (0 ≤ c ∧ c < 8 ∧ 0 ≤ s ∧ s ≤ 65535) := by simp [okT]
def tagW (c s n : Nat) : Nat := n + s * 4294967296 + c * 281474976710656

set_option maxHeartbeats 1000000 in
theorem tknown_any (c s n : Int) (w : World) : Calls Tryd.prog 30 #[.agg #[.int .i64 c, .int .i64 s, .int .u32 n]] w fun e w' => e = .returned (.bool (okT c s)) ∧ Below w.heap.size w w' := by
  have hB := below1 w (.cells #[.int .i64 c, .int .i64 s, .int .u32 n] 60)
  cases h1 : decide ((0 : Int) ≤ c)
  · have hb : okT c s = false := by rw [okT, h1]; rfl
    rw [hb]
    clear hb
    go_enter Tryd.func30, Tryd.ntmps30
    go_wp2_with fail
    go_ret
    exact ⟨rfl, hB⟩
  cases h2 : decide (c < 8)
  · have hb : okT c s = false := by rw [okT, h1, h2]; rfl
    rw [hb]
    clear hb
    go_enter Tryd.func30, Tryd.ntmps30
    go_wp2_with fail
    go_ret
    exact ⟨rfl, hB⟩
  cases h3 : decide ((0 : Int) ≤ s)
  · have hb : okT c s = false := by rw [okT, h1, h2, h3]; rfl
    rw [hb]
    clear hb
    go_enter Tryd.func30, Tryd.ntmps30
    go_wp2_with fail
    go_ret
    exact ⟨rfl, hB⟩
  · have hb : okT c s = decide (s ≤ 65535) := by rw [okT, h1, h2, h3]; rfl
    rw [hb]
    clear hb
    go_enter Tryd.func30, Tryd.ntmps30
    go_wp2_with fail
    go_ret
    exact ⟨rfl, hB⟩

set_option maxHeartbeats 1000000 in
theorem right_any (c s n : Int) (w : World) : Calls Tryd.prog 10 #[.agg #[.int .i64 c, .int .i64 s, .int .u32 n]] w fun e w' => e = .returned (.bool (okT c s)) ∧ Below w.heap.size w w' := by
  have hB := below1 w (.cells #[.int .i64 c, .int .i64 s, .int .u32 n] 27)
  cases h1 : decide ((0 : Int) ≤ c)
  · have hb : okT c s = false := by rw [okT, h1]; rfl
    rw [hb]
    clear hb
    go_enter Tryd.func10, Tryd.ntmps10
    go_wp2_with fail
    go_ret
    exact ⟨rfl, hB⟩
  cases h2 : decide (c < 8)
  · have hb : okT c s = false := by rw [okT, h1, h2]; rfl
    rw [hb]
    clear hb
    go_enter Tryd.func10, Tryd.ntmps10
    go_wp2_with fail
    go_ret
    exact ⟨rfl, hB⟩
  cases h3 : decide ((0 : Int) ≤ s)
  · have hb : okT c s = false := by rw [okT, h1, h2, h3]; rfl
    rw [hb]
    clear hb
    go_enter Tryd.func10, Tryd.ntmps10
    go_wp2_with fail
    go_ret
    exact ⟨rfl, hB⟩
  · have hb : okT c s = decide (s ≤ 65535) := by rw [okT, h1, h2, h3]; rfl
    rw [hb]
    clear hb
    go_enter Tryd.func10, Tryd.ntmps10
    go_wp2_with fail
    go_ret
    exact ⟨rfl, hB⟩

theorem or_hi (a b k : Nat) (ha : a < 2 ^ k) : a ||| b * 2 ^ k = a + b * 2 ^ k := by
  rw [Nat.or_comm, Nat.mul_comm b, ← Nat.two_pow_add_eq_or_of_lt ha, Nat.add_comm]
theorem xor_all (x : Nat) (hx : x < 18446744073709551616) : 18446744073709551615 ^^^ x = 18446744073709551615 - x := by
  apply Nat.eq_of_testBit_eq
  intro i
  rw [Nat.testBit_xor, show 18446744073709551615 - x = 2 ^ 64 - (x + 1) by omega, Nat.testBit_two_pow_sub_succ (by omega), show 18446744073709551615 = 2 ^ 64 - 1 from rfl, Nat.testBit_two_pow_sub_one]
  by_cases h : i < 64
  · simp [h]
  · simp [h, Nat.testBit_lt_two_pow (Nat.lt_of_lt_of_le (show x < 2 ^ 64 from hx) (Nat.pow_le_pow_right (by decide) (show 64 ≤ i by omega)))]
theorem bits_not (x : Nat) (hx : x < 18446744073709551616) : bits BinOp.xor IntKind.u64 IntKind.u64.max (x : Int) = ((18446744073709551615 - x : Nat) : Int) := by
  rw [show IntKind.u64.max = ((18446744073709551615 : Nat) : Int) from rfl, bits_xor_u64_nat _ _ (by decide) hx, xor_all x hx]
theorem and_low (x : Nat) (hx : x < 18446744073709551616) : bits BinOp.and IntKind.u64 (x : Int) 65535 = ((x % 65536 : Nat) : Int) := by
  rw [show (65535 : Int) = ((65535 : Nat) : Int) from rfl, bits_and_u64_nat _ _ hx (by decide)]
  rw [show 65535 = 2 ^ 16 - 1 from rfl, Nat.and_two_pow_sub_one_eq_mod]

theorem tword_eq (c s n : Nat) (hc : c < 8) (hs : s ≤ 65535) (hn : n < 4294967296) :
    bits BinOp.or IntKind.u64 (bits BinOp.or IntKind.u64 (n : Int) ((s : Int) * 4294967296)) ((c : Int) * 281474976710656) = (tagW c s n : Int) := by
  rw [show (s : Int) * 4294967296 = ((s * 2 ^ 32 : Nat) : Int) by omega, show (c : Int) * 281474976710656 = ((c * 2 ^ 48 : Nat) : Int) by omega, bits_or_u64_nat _ _ (by omega) (by omega), or_hi n s 32 hn,
    bits_or_u64_nat _ _ (by omega) (by omega), or_hi _ c 48 (by omega)]
  rfl
theorem rword_eq (c s n : Nat) (hc : c < 8) (hs : s ≤ 65535) (hn : n < 4294967296) :
    bits BinOp.or IntKind.u64 (bits BinOp.or IntKind.u64 ((c : Int) * 281474976710656) ((s : Int) * 4294967296)) (n : Int) = (tagW c s n : Int) := by
  rw [show (s : Int) * 4294967296 = ((s * 2 ^ 32 : Nat) : Int) by omega, show (c : Int) * 281474976710656 = ((c * 2 ^ 48 : Nat) : Int) by omega, bits_or_u64_nat _ _ (by omega) (by omega),
    bits_or_u64_nat _ _ (by rw [Nat.or_comm, show c * 2 ^ 48 = (c * 2 ^ 16) * 2 ^ 32 by omega, ← Nat.or_comm]; exact Nat.or_lt_two_pow (n := 64) (by omega) (by omega)) (by omega), Nat.or_comm (c * 2 ^ 48), Nat.or_comm _ n, ← Nat.or_assoc, or_hi n s 32 hn, or_hi _ c 48 (by omega)]
  rfl

set_option maxHeartbeats 1000000 in
theorem tword_any (c s n : Nat) (w : World) (hc : c < 8) (hs : s ≤ 65535) (hn : n < 4294967296) : Calls Tryd.prog 23 #[.agg #[.int .i64 (c : Int), .int .i64 (s : Int), .int .u32 (n : Int)]] w fun e w' =>
    e = .returned (.int .u64 (tagW c s n : Int)) ∧ Below w.heap.size w w' := by
  have hB := below1 w (.cells #[.int .i64 (c : Int), .int .i64 (s : Int), .int .u32 (n : Int)] 60)
  have hE := Lib.hid (tword_eq c s n hc hs hn)
  go_enter Tryd.func23, Tryd.ntmps23
  go_wp2_with fail
  go_ret
  exact ⟨by rw [← hE.out]; rfl, hB⟩
set_option maxHeartbeats 1000000 in
theorem tagOf_any (x : Nat) (w : World) (hx : x < 18446744073709551616) : Calls Tryd.prog 28 #[.int .u64 (x : Int)] w fun e w' =>
    e = .returned (.agg #[.int .i64 ((x / 281474976710656 : Nat) : Int), .int .i64 ((x / 4294967296 % 65536 : Nat) : Int), .int .u32 ((x % 4294967296 : Nat) : Int)]) ∧ Below w.heap.size w w' := by
  have e1 : bits BinOp.and IntKind.u64 ((x : Int) / 4294967296) 65535 = ((x / 4294967296 % 65536 : Nat) : Int) := by
    rw [show (x : Int) / 4294967296 = ((x / 4294967296 : Nat) : Int) by omega, and_low _ (by omega)]
  obtain ⟨y, hy⟩ : ∃ y, y = x / 4294967296 % 65536 := ⟨_, rfl⟩
  rw [← hy] at e1 ⊢
  have hyl : y < 65536 := by omega
  have h1 : (x : Int) / 281474976710656 = ((x / 281474976710656 : Nat) : Int) := by omega
  have h2 : (x : Int) % 4294967296 = ((x % 4294967296 : Nat) : Int) := by omega
  have hE : Hid ((x : Int) / 281474976710656 = ((x / 281474976710656 : Nat) : Int) ∧ (x : Int) % 4294967296 = ((x % 4294967296 : Nat) : Int)) := ⟨h1, h2⟩
  clear hy h1 h2
  go_enter Tryd.func28, Tryd.ntmps28
  go_wp2_with fail
  rw [hE.out.1, hE.out.2]
  exact bodyPost_ret (v := .agg #[.int .i64 ((x / 281474976710656 : Nat) : Int), .int .i64 (y : Int), .int .u32 ((x % 4294967296 : Nat) : Int)]) (by simp [results, Tryd.results28, go_sem]) rfl ⟨rfl, below1 _ _⟩
set_option maxHeartbeats 1000000 in
theorem pairOf_any (x : Nat) (w : World) (hx : x < 18446744073709551616) : Calls Tryd.prog 44 #[.int .u64 (x : Int)] w fun e w' =>
    e = .returned (.agg #[.int .u64 (x : Int), .int .u64 ((18446744073709551615 - x : Nat) : Int)]) ∧ Below w.heap.size w w' := by
  have e1 := bits_not x hx
  obtain ⟨y, hy⟩ : ∃ y, y = 18446744073709551615 - x := ⟨_, rfl⟩
  rw [← hy] at e1 ⊢
  clear hy
  go_enter Tryd.func44, Tryd.ntmps44
  go_wp2_with fail
  exact bodyPost_ret (v := .agg #[.int .u64 (x : Int), .int .u64 (y : Int)]) (by simp [results, Tryd.results44, go_sem]) rfl ⟨rfl, below1 _ _⟩
set_option maxHeartbeats 1000000 in
theorem rword_any (c s n : Nat) (w : World) (hc : c < 8) (hs : s ≤ 65535) (hn : n < 4294967296) : Calls Tryd.prog 26 #[.agg #[.int .i64 (c : Int), .int .i64 (s : Int), .int .u32 (n : Int)]] w fun e w' =>
    e = .returned (.int .u64 (tagW c s n : Int)) ∧ Below w.heap.size w w' := by
  have hB := below1 w (.cells #[.int .i64 (c : Int), .int .i64 (s : Int), .int .u32 (n : Int)] 27)
  have hE := Lib.hid (rword_eq c s n hc hs hn)
  go_enter Tryd.func26, Tryd.ntmps26
  go_wp2_with fail
  go_ret
  exact ⟨by rw [← hE.out]; rfl, hB⟩
end Go.Proofs.YtfmbfojlopibnaaDoor
