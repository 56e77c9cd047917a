import Derived.Test.YtfmbfojlopibnaaDoorFold
namespace Go.Proofs.YtfmbfojlopibnaaDoor
open Go.RowKit Go.Shelf
attribute [local go_sem] Oper.semAt_some

/- THE DOCUMENT'S ANSWERS. -/

theorem and_mask (x : Nat) (hx : x < 18446744073709551616) : bits .and .u64 (x : Int) 4294967295 = ((x % 4294967296 : Nat) : Int) := by
  rw [show (4294967295 : Int) = ((4294967295 : Nat) : Int) from rfl, bits_and_u64_nat _ _ hx (by decide)]
  rw [show 4294967295 = 2 ^ 32 - 1 from rfl, Nat.and_two_pow_sub_one_eq_mod]
theorem or_mod (a b : Nat) (hb : b < 4294967296) : (a ||| b) % 4294967296 = a % 4294967296 ||| b := by
  rw [show (4294967296 : Nat) = 2 ^ 32 from rfl, Nat.or_mod_two_pow, Nat.mod_eq_of_lt (a := b) hb]
theorem turned7_any (x : Nat) (w : World) (hx : x < 4294967296) : Calls Tryd.prog 63 #[.int .u64 (x : Int), .int .i64 7] w fun e w' => e = .returned (.int .u64 (rot 7 x : Int)) ∧ w = w' := by
  have h1 := Lib.hid (show bits BinOp.and IntKind.u64 (bits BinOp.or IntKind.u64 ((x : Int) * 128) ((x : Int) / 33554432)) 4294967295 = (rot 7 x : Int) by
    rw [show ((x : Int) * 128) = ((x * 128 : Nat) : Int) by omega, show ((x : Int) / 33554432) = ((x / 33554432 : Nat) : Int) by omega, bits_or_u64_nat _ _ (by omega) (by omega),
      and_mask _ (Nat.or_lt_two_pow (n := 64) (by omega) (by omega)), or_mod _ _ (by omega)]
    rfl)
  go_enter Tryd.func63, Tryd.ntmps63
  go_wp2_with fail
  go_ret
  exact ⟨by rw [← h1.out]; rfl, rfl⟩
theorem turned13_any (x : Nat) (w : World) (hx : x < 4294967296) : Calls Tryd.prog 63 #[.int .u64 (x : Int), .int .i64 13] w fun e w' => e = .returned (.int .u64 (rot 13 x : Int)) ∧ w = w' := by
  have h1 := Lib.hid (show bits BinOp.and IntKind.u64 (bits BinOp.or IntKind.u64 ((x : Int) * 8192) ((x : Int) / 524288)) 4294967295 = (rot 13 x : Int) by
    rw [show ((x : Int) * 8192) = ((x * 8192 : Nat) : Int) by omega, show ((x : Int) / 524288) = ((x / 524288 : Nat) : Int) by omega, bits_or_u64_nat _ _ (by omega) (by omega),
      and_mask _ (Nat.or_lt_two_pow (n := 64) (by omega) (by omega)), or_mod _ _ (by omega)]
    rfl)
  go_enter Tryd.func63, Tryd.ntmps63
  go_wp2_with fail
  go_ret
  exact ⟨by rw [← h1.out]; rfl, rfl⟩
theorem rround_any (k n : Nat) (w : World) (hk : k < 18446744073709551616) (hn : n < 8) : Calls Tryd.prog 47 #[.int .u64 (k : Int), .int .i64 (n : Int)] w fun e w' => e = .returned (.int .u64 (rnum k n : Int)) ∧ w = w' := by
  have em := and_mask k hk
  by_cases hp : n % 2 = 1
  · have e0 : ((n : Int) % 2 == 1) = true := by simp; omega
    have h1 := Lib.hid (show bits BinOp.and IntKind.u64 ((k : Int) / 4294967296 + (n : Int) * 2654435769) 4294967295 = (rnum k n : Int) by
      rw [show (k : Int) / 4294967296 + (n : Int) * 2654435769 = ((k / 4294967296 + n * 2654435769 : Nat) : Int) by omega, and_mask _ (by omega)]
      simp only [rnum, if_pos hp])
    go_enter Tryd.func47, Tryd.ntmps47
    go_wp2_with fail
    go_ret
    exact ⟨by rw [← h1.out]; rfl, rfl⟩
  · have e0 : ((n : Int) % 2 == 1) = false := by simp; omega
    have h1 := Lib.hid (show bits BinOp.and IntKind.u64 ((k : Int) % 4294967296 + (n : Int) * 2654435769) 4294967295 = (rnum k n : Int) by
      rw [show (k : Int) % 4294967296 + (n : Int) * 2654435769 = ((k % 4294967296 + n * 2654435769 : Nat) : Int) by omega, and_mask _ (by omega)]
      simp only [rnum, if_neg hp])
    go_enter Tryd.func47, Tryd.ntmps47
    go_wp2_with fail
    go_ret
    exact ⟨by rw [← h1.out]; rfl, rfl⟩
theorem rstir_any (a b : Nat) (w : World) (ha : a < 4294967296) (hb : b < 4294967296) : Calls Tryd.prog 46 #[.int .u64 (a : Int), .int .u64 (b : Int)] w fun e w' => e = .returned (.int .u64 (stirN a b : Int)) ∧ w = w' := by
  obtain ⟨x, hx⟩ : ∃ x, x = (a + b) % 4294967296 := ⟨_, rfl⟩
  have hxl : x < 4294967296 := by omega
  have e1 : bits BinOp.and IntKind.u64 ((a : Int) + (b : Int)) 4294967295 = (x : Int) := by
    rw [show (a : Int) + (b : Int) = ((a + b : Nat) : Int) by omega, and_mask _ (by omega), ← hx]
  have h1 := Lib.hid (fun w => turned7_any x w hxl)
  have hr := rot_lt 7 x hxl
  obtain ⟨r, hrr⟩ : ∃ r, r = rot 7 x := ⟨_, rfl⟩
  rw [← hrr] at h1 hr
  have e2 := bits_xor_u64_nat x r (by omega) (by omega)
  have hyl := xor_lt32 hxl hr
  obtain ⟨y, hy⟩ : ∃ y, y = x ^^^ r := ⟨_, rfl⟩
  rw [← hy] at e2 hyl
  obtain ⟨z, hz⟩ : ∃ z, z = (y * 5 + 12345) % 4294967296 := ⟨_, rfl⟩
  have hzl : z < 4294967296 := by omega
  have e3 : bits BinOp.and IntKind.u64 ((y : Int) * 5 + 12345) 4294967295 = (z : Int) := by
    rw [show (y : Int) * 5 + 12345 = ((y * 5 + 12345 : Nat) : Int) by omega, and_mask _ (by omega), ← hz]
  have h2 := Lib.hid (fun w => turned13_any z w hzl)
  have hs : stirN a b = rot 13 z := by rw [hz, hy, hrr, hx]; rfl
  rw [hs]
  clear hx hrr hy hz hs hr hzl hxl
  go_enter Tryd.func46, Tryd.ntmps46
  go_wp2_with fail
  refine (h1.out _).mono ?_
  rintro e w1 ⟨rfl, rfl⟩
  go_wp2_with fail
  refine (h2.out _).mono ?_
  rintro e w1 ⟨rfl, rfl⟩
  go_wp2_with fail
  go_ret
  exact ⟨rfl, rfl⟩
theorem whole_eq (a b : Nat) (ha : a < 4294967296) (hb : b < 4294967296) : bits BinOp.or IntKind.u64 ((a : Int) * 4294967296) (b : Int) = ((wholeN (a, b) : Nat) : Int) := by
  rw [bits_join .u64 64 (Nat.le_refl _) (fun n h0 h1 => by rw [IntKind.wrap_u64]; omega) 32 _ _ (by omega) (by omega) (by omega) (by omega) (by omega) (by omega)]
  simp [wholeN]
theorem ups_take : ∀ j, j < 8 → ups.take (j + 1) = ups.take j ++ [j] := by decide
theorem downs_take : ∀ j, j < 8 → downs.take (j + 1) = downs.take j ++ [7 - j] := by decide

set_option maxHeartbeats 1000000 in
theorem rmix_any (k x : Nat) (w : World) (hk : k < 18446744073709551616) (hx : x < 18446744073709551616) : Calls Tryd.prog 37 #[.int .u64 (k : Int), .int .u64 (x : Int)] w fun e w' => e = .returned (.int .u64 (mixN k x : Int)) ∧ w = w' := by
  have em := and_mask x hx
  have hst := Lib.hid (show (x : Int) / 4294967296 = ((halvesN x).1 : Int) ∧ (x : Int) % 4294967296 = ((halvesN x).2 : Int) from ⟨by simp only [halvesN]; omega, by simp only [halvesN]; omega⟩)
  have HH := Lib.hid (halves_half hx)
  go_enter Tryd.func37, Tryd.ntmps37
  go_wp2_with fail
  go_loopw [5, 6, 7] (fun va vb i wr => ∃ (j a b : Nat), j ≤ 8 ∧ va = .int .u64 (a : Int) ∧ vb = .int .u64 (b : Int) ∧ i = .int .i64 (j : Int) ∧ Hid ((a, b) = goes mixedN k (ups.take j) (halvesN x)) ∧ w = wr) (fun _ _ i _ => 8 - (intOf i).toNat)
  case atStart => exact ⟨0, (halvesN x).1, (halvesN x).2, by omega, by rw [hst.out.1], by rw [hst.out.2], rfl, rfl, rfl⟩
  case round =>
    obtain ⟨j, a, b, hj, rfl, rfl, rfl, HG, rfl⟩ := hrel
    have hhf : Half (a, b) := by rw [HG.out]; exact goes_half (fun _ b hh => mixed_half hh b) k _ HH.out
    have ha : a < 4294967296 := hhf.1
    have hb : b < 4294967296 := hhf.2
    by_cases hlt : j < 8
    · have h1 := Lib.hid (fun W => rround_any k j W hk hlt)
      have h2 := Lib.hid (fun W => rstir_any b (rnum k j) W hb (rnum_lt _ _))
      have hn := Lib.hid (show (b, a ^^^ stirN b (rnum k j)) = goes mixedN k (ups.take (j + 1)) (halvesN x) by
        rw [ups_take j hlt, goes_one, ← HG.out]; rfl)
      have hsl := stirN_lt b (rnum k j)
      obtain ⟨s, hss⟩ : ∃ s, s = stirN b (rnum k j) := ⟨_, rfl⟩
      rw [← hss] at h2 hn hsl
      obtain ⟨r, hrr⟩ : ∃ r, r = rnum k j := ⟨_, rfl⟩
      rw [← hrr] at h1 h2
      have e1 := bits_xor_u64_nat a s (by omega) (by omega)
      obtain ⟨y, hy⟩ : ∃ y, y = a ^^^ s := ⟨_, rfl⟩
      rw [← hy] at e1 hn
      clear hss hrr hy hhf
      go_wp2_with fail
      refine (h1.out _).mono ?_
      rintro e w1 ⟨rfl, rfl⟩
      go_wp2_with fail
      refine (h2.out _).mono ?_
      rintro e w1 ⟨rfl, rfl⟩
      go_wp2_with fail
      go_roundw
      case rel => exact ⟨j + 1, b, y, by omega, rfl, rfl, by go_num, hn, by first | rfl | trivial⟩
      case measure => simp [intOf]; omega
    · obtain rfl : j = 8 := by omega
      have h1 := whole_eq a b ha hb
      rw [show wholeN (a, b) = mixN k x by rw [HG.out]; rfl] at h1
      have H1 := Lib.hid h1
      clear h1
      go_wp2_with fail
      go_ret
      exact ⟨by rw [← H1.out]; rfl, rfl⟩
set_option maxHeartbeats 1000000 in
theorem rundo_any (k x : Nat) (w : World) (hk : k < 18446744073709551616) (hx : x < 18446744073709551616) : Calls Tryd.prog 32 #[.int .u64 (k : Int), .int .u64 (x : Int)] w fun e w' => e = .returned (.int .u64 (undoN k x : Int)) ∧ w = w' := by
  have em := and_mask x hx
  have hst := Lib.hid (show (x : Int) / 4294967296 = ((halvesN x).1 : Int) ∧ (x : Int) % 4294967296 = ((halvesN x).2 : Int) from ⟨by simp only [halvesN]; omega, by simp only [halvesN]; omega⟩)
  have HH := Lib.hid (halves_half hx)
  go_enter Tryd.func32, Tryd.ntmps32
  go_wp2_with fail
  go_loopw [5, 6, 7] (fun va vb i wr => ∃ (j a b : Nat) (i' : Int), j ≤ 8 ∧ va = .int .u64 (a : Int) ∧ vb = .int .u64 (b : Int) ∧ i = .int .i64 i' ∧ i' = 7 - (j : Int) ∧ Hid ((a, b) = goes undoneN k (downs.take j) (halvesN x)) ∧ w = wr) (fun _ _ i _ => (1 + intOf i).toNat)
  case atStart => exact ⟨0, (halvesN x).1, (halvesN x).2, 7, by omega, by rw [hst.out.1], by rw [hst.out.2], rfl, rfl, rfl, rfl⟩
  case round =>
    obtain ⟨j, a, b, i', hj, rfl, rfl, rfl, hi', HG, rfl⟩ := hrel
    have hhf : Half (a, b) := by rw [HG.out]; exact goes_half (fun _ b hh => undone_half hh b) k _ HH.out
    have ha : a < 4294967296 := hhf.1
    have hb : b < 4294967296 := hhf.2
    by_cases hlt : j < 8
    · obtain rfl : i' = ((7 - j : Nat) : Int) := by omega
      have h1 := Lib.hid (fun W => rround_any k (7 - j) W hk (by omega))
      have h2 := Lib.hid (fun W => rstir_any a (rnum k (7 - j)) W ha (rnum_lt _ _))
      have hn := Lib.hid (show (b ^^^ stirN a (rnum k (7 - j)), a) = goes undoneN k (downs.take (j + 1)) (halvesN x) by
        rw [downs_take j hlt, goes_one, ← HG.out]; rfl)
      have hsl := stirN_lt a (rnum k (7 - j))
      obtain ⟨s, hss⟩ : ∃ s, s = stirN a (rnum k (7 - j)) := ⟨_, rfl⟩
      rw [← hss] at h2 hn hsl
      obtain ⟨r, hrr⟩ : ∃ r, r = rnum k (7 - j) := ⟨_, rfl⟩
      rw [← hrr] at h1 h2
      have e1 := bits_xor_u64_nat b s (by omega) (by omega)
      obtain ⟨y, hy⟩ : ∃ y, y = b ^^^ s := ⟨_, rfl⟩
      rw [← hy] at e1 hn
      clear hss hrr hy hhf
      obtain ⟨q, hq⟩ : ∃ q, q = 7 - j := ⟨_, rfl⟩
      have hqj : j + q = 7 := by omega
      rw [← hq] at h1 ⊢
      clear hq hi'
      have e0 : decide ((0 : Int) ≤ (q : Int)) = true := decide_eq_true (by omega)
      go_wp2_with fail
      refine (h1.out _).mono ?_
      rintro e w1 ⟨rfl, rfl⟩
      go_wp2_with fail
      refine (h2.out _).mono ?_
      rintro e w1 ⟨rfl, rfl⟩
      go_wp2_with fail
      go_roundw
      case rel => exact ⟨j + 1, y, a, (q : Int) - 1, by omega, rfl, rfl, by go_num, by omega, hn, by first | rfl | trivial⟩
      case measure => simp [intOf]; omega
    · obtain rfl : j = 8 := by omega
      obtain rfl : i' = -1 := by omega
      have h1 := whole_eq a b ha hb
      rw [show wholeN (a, b) = undoN k x by rw [HG.out]; rfl] at h1
      have H1 := Lib.hid h1
      clear h1
      go_wp2_with fail
      go_ret
      exact ⟨by rw [← H1.out]; rfl, rfl⟩
end Go.Proofs.YtfmbfojlopibnaaDoor
