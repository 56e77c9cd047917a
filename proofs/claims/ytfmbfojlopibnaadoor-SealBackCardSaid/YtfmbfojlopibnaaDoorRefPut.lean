import Derived.Test.YtfmbfojlopibnaaDoorNum
namespace Go.Proofs.YtfmbfojlopibnaaDoor
open Go.RowKit

theorem width_any (n : Int) (w : World) : Calls Tryd.prog 45 #[.int .i64 n] w fun e w' => e = .returned (.bool (wid n)) ∧ w = w' := by
  by_cases h1 : n = 1
  · subst h1
    go_enter Tryd.func45, Tryd.ntmps45
    go_wp2
    go_ret
    exact ⟨rfl, rfl⟩
  by_cases h2 : n = 2
  · subst h2
    go_enter Tryd.func45, Tryd.ntmps45
    go_wp2
    go_ret
    exact ⟨rfl, rfl⟩
  by_cases h4 : n = 4
  · subst h4
    go_enter Tryd.func45, Tryd.ntmps45
    go_wp2
    go_ret
    exact ⟨rfl, rfl⟩
  have hw : Hid (wid n = (n == 8)) := Lib.hid (by simp [wid, h1, h2, h4])
  have g1 : (n == 1) = false := by simp [h1]
  have g2 : (n == 2) = false := by simp [h2]
  have g4 : (n == 4) = false := by simp [h4]
  clear h1 h2 h4
  go_enter Tryd.func45, Tryd.ntmps45
  go_wp2
  go_ret
  exact ⟨by rw [hw.out]; rfl, rfl⟩

theorem le_snoc : ∀ (i n : Nat), le (i + 1) n = le i n ++ [UInt8.ofNat (n / 256 ^ i % 256)]
  | 0, n => by simp [le]
  | i + 1, n => by
    rw [le, le_snoc i (n / 256), le, List.cons_append, Nat.div_div_eq_div_mul, Nat.pow_succ, Nat.mul_comm 256]

theorem refput_arg (n k : Int) (w : World) (hk : wid k = false) : Calls Tryd.prog 36 #[.int .u64 n, .int .i64 k] w fun e w' => e = .returned (.tuple #[.slice none 0 0, .int .i64 2]) ∧ Below w.heap.size w w' := by
  have Hk := Lib.hid hk
  clear hk
  go_enter Tryd.func36, Tryd.ntmps36
  go_wp2_with fail
  refine (width_any _ _).mono ?_
  rintro e w2 ⟨rfl, rfl⟩
  rw [Hk.out]
  go_wp2
  go_ret2
  exact ⟨rfl, Below.refl _ _⟩

theorem step256 {m n j : Nat} (h : m = n / 256 ^ j) : Hid (m / 256 = n / 256 ^ (j + 1)) := by
  show _ = _
  rw [h, Nat.div_div_eq_div_mul, Nat.pow_succ]

theorem div_u64 {m : Nat} (h : m < 18446744073709551616) : Value.int .u64 (IntKind.u64.wrap ((m : Int) / 256)) = .int .u64 ((m / 256 : Nat) : Int) := by
  rw [show (m : Int) / 256 = ((m / 256 : Nat) : Int) by omega]
  congr 1
  simp [IntKind.wrap, IntKind.bits, IntKind.signed]
  omega
def rpv (n k : Nat) (v : Value) : Value := if n / 256 ^ k = 0 then .tuple #[v, .int .i64 0] else .tuple #[.slice none 0 0, .int .i64 4]

set_option maxHeartbeats 1000000 in
theorem refput_ok (n k : Nat) (w : World) (hk : wid k = true) (hn : n < 18446744073709551616) : Calls Tryd.prog 36 #[.int .u64 n, .int .i64 k] w fun e w' =>
    ∃ v, w'.ownsRow w.heap.size 5 1 v k (byt (le k n)) ∧ e = .returned (rpv n k v) ∧ Below w.heap.size w w' := by
  obtain ⟨i0, hi, hz0, hz1, hz2⟩ := info_parts byte_info
  have hk8 : k ≤ 8 := by have := wid_cases hk; omega
  have Hk := Lib.hid hk
  clear hk
  have Hn := Lib.hid hn
  clear hn
  go_enter Tryd.func36, Tryd.ntmps36
  go_wp2_with fail
  refine (width_any _ _).mono ?_
  rintro e w2 ⟨rfl, rfl⟩
  rw [Hk.out]
  go_wp2_with fail
  go_loopw [0, 6, 7] (fun x v i wr => ∃ (j m : Nat), j ≤ k ∧ i = .int .i64 j ∧ x = .int .u64 m ∧ Hid (m = n / 256 ^ j) ∧ Hid (m < 18446744073709551616) ∧ wr.ownsRow w.heap.size 5 1 v j (byt (le j n)) ∧ Below w.heap.size w wr) (fun _ _ i _ => k - (intOf i).toNat)
  case atStart => exact ⟨0, n, Nat.zero_le _, rfl, rfl, by simp [Hid], Hn, World.ownsRow_nil _ _ _ _, Below.refl _ _⟩
  case round =>
    obtain ⟨j, m, hj, rfl, rfl, H, Hm, hown, hb⟩ := hrel
    by_cases hlt : j < k
    · have hs := hb.size
      go_wp2_with (at_builtin; go_must (refine wpList_append_own _ rfl _ _ 28 rfl w.heap.size 5 i0 _ 1 1 Tryd.underlying28 hi hz0 hz1 hz2 rfl (by decide) _ _ _ rfl (hown.alloc _) ⟨_, 0, none⟩ 1 1 [.int .u8 ((m : Int) % 256)] rfl rfl (cell_one_new _ _ _) (by simp [Value.oneCell']) (by unfold maxLen; omega) (by omega) (by simp; omega) ?_; intro v' w1 hown' hg1 _))
      go_roundw
      case rel => exact ⟨j + 1, m / 256, by omega, by go_num, div_u64 Hm.out, step256 H.out, Nat.lt_of_le_of_lt (Nat.div_le_self _ _) Hm.out, by rw [le_snoc, byt_append, ← H.out]; simpa [byt] using hown', (hb.alloc hs _).grown hg1 (by simp; omega) (fun k e => (hown.lt k e).1)⟩
      case measure => simp [intOf]; omega
    · obtain rfl : j = k := by omega
      by_cases hm : m = 0
      · have hz : Hid (n / 256 ^ j = 0) := Lib.hid (by rw [← H.out]; exact hm)
        subst hm
        go_wp2
        go_ret2
        exact ⟨_, hown, by unfold rpv; rw [if_pos hz.out]; rfl, hb⟩
      · have hz : Hid (¬ n / 256 ^ j = 0) := Lib.hid (by rw [← H.out]; exact hm)
        have hp : 0 < m := by omega
        go_wp2
        go_ret2
        exact ⟨_, hown, by unfold rpv; rw [if_neg hz.out]; rfl, hb⟩
end Go.Proofs.YtfmbfojlopibnaaDoor
