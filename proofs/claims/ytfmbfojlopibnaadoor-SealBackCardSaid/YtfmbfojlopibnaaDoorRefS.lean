import Derived.Test.YtfmbfojlopibnaaDoorTag
import Derived.Test.YtfmbfojlopibnaaDoorBytes
import Derived.Test.YtfmbfojlopibnaaDoorRef
import Derived.Test.YtfmbfojlopibnaaDoorRefPut
import Derived.Test.YtfmbfojlopibnaaDoorRefGet
import Derived.BigQuiet
namespace Go.Proofs.YtfmbfojlopibnaaDoor
open Go.RowKit Go.Shelf
attribute [local go_sem] Oper.semAt_some

/- THE DOCUMENT'S ANSWERS OF THIS LAYER. -/

set_option maxHeartbeats 1000000 in
theorem rfold_any (l : List Nat) (A : Option Addr) (c : Nat) (w : World) (hl : Fit l) (hn : l.length ≤ 1000000) (hr : Sees w w.heap.size A (wds l)) :
    Calls Tryd.prog 25 #[.slice A l.length c] w fun e w' => e = .returned (.int .u64 (foldN l : Int)) ∧ Below w.heap.size w w' := by
  obtain ⟨n, hnn⟩ : ∃ n, n = l.length := ⟨_, rfl⟩
  rw [← hnn] at hn ⊢
  have HN := Lib.hid hnn
  clear hnn
  go_enter Tryd.func25, Tryd.ntmps25
  go_wp2_with fail
  go_loopw [3, 4] (fun v i wr => ∃ (k a : Nat), k ≤ n ∧ i = .int .i64 k ∧ v = .int .u64 (a : Int) ∧ Hid (a = foldN (l.take k)) ∧ Sees wr w.heap.size A (wds l) ∧ Below w.heap.size w wr) (fun _ i _ => n - (intOf i).toNat)
  case atStart => exact ⟨0, 0, Nat.zero_le _, rfl, rfl, rfl, hr, Below.refl _ _⟩
  case round =>
    obtain ⟨k, a, hk, rfl, rfl, HA, hrr, hB⟩ := hrel
    by_cases hlt : k < n
    · have hkl : k < l.length := by rw [← HN.out]; exact hlt
      obtain ⟨ad, rfl, hadb, hc⟩ := hrr.at_ (k := k) (by rw [wds_len]; exact hkl)
      rw [wds_at hkl] at hc
      have hxl := hl.at_ hkl
      have hal : a < 18446744073709551616 := by rw [HA.out]; exact foldN_lt (hl.take k)
      have hst := Lib.hid (show stepF a l[k] = foldN (l.take (k + 1)) by rw [← List.take_append_getElem hkl, foldN_one, ← HA.out])
      obtain ⟨x, hx⟩ : ∃ x, x = l[k] := ⟨_, rfl⟩
      rw [← hx] at hc hxl hst
      have h1 := Lib.hid (fun W => rmix_any x a W hxl hal)
      have h2 := bits_xor_u64_nat (mixN x a) x (mixN_lt hal) hxl
      rw [show mixN x a ^^^ x = stepF a x from rfl] at h2
      obtain ⟨m, hm⟩ : ∃ m, m = mixN x a := ⟨_, rfl⟩
      rw [← hm] at h1 h2
      obtain ⟨s, hs⟩ : ∃ s, s = stepF a x := ⟨_, rfl⟩
      rw [← hs] at h2 hst
      have i1 : (k : Int) < (n : Int) := by omega
      have i0 : (0 : Int) ≤ (k : Int) := by omega
      clear hx hs hal hxl hm
      go_wp2_with fail
      go_quiet ((go_at_call 37; exact quiet_l (h1.out _)))
      go_wp2_with fail
      go_roundw
      case rel => exact ⟨k + 1, s, by omega, by go_num, rfl, Lib.hid hst.out, hrr.drewN _, below_drewN hB _⟩
      case measure => simp [intOf]; omega
    · obtain rfl : k = n := by omega
      rw [List.take_of_length_le (by rw [HN.out]; exact Nat.le_refl _)] at HA
      go_wp2_with fail
      go_ret
      exact ⟨by rw [← HA.out]; rfl, hB⟩
theorem leVal_le : ∀ (k n : Nat), n < 256 ^ k → leVal (le k n) = n
  | 0, n, h => by simp at h; simp [le, leVal, h]
  | k + 1, n, h => by
    have hd : n / 256 < 256 ^ k := by
      rw [Nat.pow_succ] at h
      exact Nat.div_lt_of_lt_mul (by omega)
    simp only [le, leVal, leVal_le k (n / 256) hd]
    have : (UInt8.ofNat (n % 256)).toNat = n % 256 := by simp
    omega
theorem le_leVal : ∀ (l : List UInt8), le l.length (leVal l) = l
  | [] => rfl
  | b :: l => by
    have hb := b.toNat_lt
    simp only [List.length_cons, leVal, le]
    rw [show (b.toNat + 256 * leVal l) % 256 = b.toNat by omega, show (b.toNat + 256 * leVal l) / 256 = leVal l by omega, le_leVal l]
    simp
theorem leVal_lt256 (l : List UInt8) : leVal l < 256 ^ l.length := by
  have := leVal_lt l
  rw [show (256 : Nat) = 2 ^ 8 from rfl, ← Nat.pow_mul]
  exact this

theorem le_zero8 (n : Nat) (h : n < 18446744073709551616) : n / 256 ^ 8 = 0 := by omega
theorem rput8_any (n : Nat) (w : World) (hn : n < 18446744073709551616) : Calls Tryd.prog 36 #[.int .u64 (n : Int), .int .i64 8] w fun e w' => ∃ v, w'.ownsRow w.heap.size 5 1 v 8 (byt (le 8 n)) ∧ e = .returned (.tuple #[v, .int .i64 0]) ∧ Below w.heap.size w w' :=
  (refput_ok n 8 w rfl hn).mono fun e w' ⟨v, h1, h2, h3⟩ => ⟨v, h1, by rw [h2, rpv, if_pos (le_zero8 n hn)], h3⟩

set_option maxHeartbeats 1000000 in
theorem both_any (K x : Nat) (w : World) (hK : K < 18446744073709551616) (hx : x < 18446744073709551616) : Calls Tryd.prog 24 #[.int .u64 (K : Int), .int .u64 (x : Int)] w fun e w' =>
    ∃ v, e = .returned v ∧ w'.ownsRow w.heap.size 5 1 v 16 (byt (sealB K x)) ∧ Below w.heap.size w w' := by
  obtain ⟨i0, hi, hz0, hz1, hz2⟩ := info_parts byte_info
  have hy : 18446744073709551615 - x < 18446744073709551616 := by omega
  have h1 := Lib.hid (fun W => rmix_any K x W hK hx)
  have h2 := Lib.hid (fun W => rmix_any K (18446744073709551615 - x) W hK hy)
  have h3 := Lib.hid (fun W => rput8_any (mixN K x) W (mixN_lt hx))
  have h4 := Lib.hid (fun W => rput8_any (mixN K (18446744073709551615 - x)) W (mixN_lt hy))
  rw [sealB]
  obtain ⟨a, ha⟩ : ∃ a, a = mixN K x := ⟨_, rfl⟩
  obtain ⟨b, hb⟩ : ∃ b, b = mixN K (18446744073709551615 - x) := ⟨_, rfl⟩
  rw [← ha] at h1 h3 ⊢
  rw [← hb] at h2 h4 ⊢
  have e1 : (18446744073709551615 : Int) - (x : Int) = ((18446744073709551615 - x : Nat) : Int) := by omega
  have e2 : IntKind.u64.wrap ((18446744073709551615 : Int) - (x : Int)) = ((18446744073709551615 - x : Nat) : Int) := by rw [e1]; exact wrapN _ hy
  obtain ⟨y, hyy⟩ : ∃ y, y = 18446744073709551615 - x := ⟨_, rfl⟩
  rw [← hyy] at h2 e1 e2
  clear ha hb hyy hK hx hy
  go_enter Tryd.func24, Tryd.ntmps24
  go_wp2_with fail
  refine (h1.out _).mono ?_
  rintro e w1 ⟨rfl, rfl⟩
  go_wp2_with fail
  refine (h3.out _).mono ?_
  rintro e w1 ⟨v, ho1, rfl, hb1⟩
  go_wp2_with fail
  refine (h2.out _).mono ?_
  rintro e w2 ⟨rfl, rfl⟩
  go_wp2_with fail
  refine (h4.out _).mono ?_
  rintro e w2 ⟨v2, ho2, rfl, hb2⟩
  have hB2 := below0 hb1 hb2
  have ho1' := own_below ho1 hb2 (Nat.le_refl _)
  have hs1 := hb1.size
  have hs2 := hb2.size
  obtain ⟨A2, c2, rfl⟩ := own_slice ho2
  have hsb := Sees.of_own ho2
  clear hb1 hb2 h1 h2 h3 h4
  go_wp2_with (at_builtin; go_must (refine wpList_append_sees rfl (.tmp 24) (.tmp 25) 28 rfl w.heap.size 5 i0 _ 1 1 Tryd.underlying28 hi hz0 hz1 hz2 rfl (by decide) _ _ _ rfl ho1' w2.heap.size A2 8 c2 (byt (le 8 b)) rfl (by rw [byt_length, le_length]) hsb byt_one (by unfold maxLen; omega) (by omega) (by omega) ?_; intro v' w3 hown3 hg3 hv3))
  go_ret
  refine ⟨_, rfl, by rw [byt_append]; exact hown3, hB2.grown hg3 hB2.size (fun k e => (ho1'.lt k e).1)⟩
end Go.Proofs.YtfmbfojlopibnaaDoor
