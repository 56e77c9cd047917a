import Derived.Test.YtaggjfdmjpelhaaRef
namespace Go.Proofs.Ytaggjfdmjpelhaa
open Go.RowKit Go.Shelf
attribute [local go_sem] Oper.semAt_some

/- THE CHAPTER'S ROWS. -/

theorem num_any (n : Int) (w : World) : Calls Try.prog 9 #[.int .i64 n] w fun e w' => e = .returned (.int .i64 n) ∧ w = w' := by
  go_enter Try.func9, Try.ntmps9
  go_wp2
  go_ret
  exact ⟨rfl, rfl⟩

set_option maxHeartbeats 4000000 in
theorem works_any (w : World) : Calls Try.prog 13 #[] w fun e w' => e = .returned (.bool true) ∧ Below w.heap.size w w' := by
  have r1 := Lib.hid (fun W => (show Calls Try.prog 8 #[.int .u64 4294967303, .int .i64 0] W fun e w' => e = .returned (.tuple #[.int .u32 7, .int .i64 0]) ∧ Below W.heap.size W w' from round_in 4294967303 0 W (by decide) (by decide)))
  have r2 := Lib.hid (fun W => (show Calls Try.prog 8 #[.int .u64 4294967303, .int .i64 1] W fun e w' => e = .returned (.tuple #[.int .u32 2654435770, .int .i64 0]) ∧ Below W.heap.size W w' from round_in 4294967303 1 W (by decide) (by decide)))
  have r3 := Lib.hid (fun W => (show Calls Try.prog 8 #[.int .u64 0, .int .i64 8] W fun e w' => e = .returned (.tuple #[.int .u32 0, .int .i64 4]) ∧ Below W.heap.size W w' from round_out 0 8 W (.inr (by decide))))
  have s1 := Lib.hid (fun W => (show Calls Try.prog 11 #[.int .u32 0, .int .u32 0] W fun e w' => e = .returned (.int .u32 101130240) ∧ W = w' from stir_any 0 0 W))
  have m5 := Lib.hid (fun W => (show Calls Try.prog 14 #[.int .u64 9, .int .u64 5] W fun e w' => e = .returned (.int .u64 (mixN 9 5 : Int)) ∧ Below W.heap.size W w' from mix_any 9 5 W (by decide) (by decide)))
  have m6 := Lib.hid (fun W => (show Calls Try.prog 14 #[.int .u64 9, .int .u64 6] W fun e w' => e = .returned (.int .u64 (mixN 9 6 : Int)) ∧ Below W.heap.size W w' from mix_any 9 6 W (by decide) (by decide)))
  have u5 := Lib.hid (fun W => (show Calls Try.prog 16 #[.int .u64 9, .int .u64 (mixN 9 5 : Int)] W fun e w' => e = .returned (.int .u64 5) ∧ Below W.heap.size W w' from
    by have h := undo_any 9 (mixN 9 5) W (by decide) (mixN_lt (by decide)); rw [undo_mix (by decide)] at h; exact h))
  have f0 := Lib.hid (fun W => (show Calls Try.prog 18 #[.slice none 0 0] W fun e w' => e = .returned (.int .u64 0) ∧ Below W.heap.size W w' from fold_any [] none 0 W (by simp [Fit]) (by decide) Sees.nil_))
  have hne : ((mixN 9 5 : Int) == (mixN 9 6 : Int)) = false := by
    rw [beq_eq_false_iff_ne]
    intro h
    have := (mix_inj (key := 9) (a := 5) (b := 6) (by decide) (by decide)).1 (by omega)
    omega
  obtain ⟨x, hx⟩ : ∃ x, x = mixN 9 5 := ⟨_, rfl⟩
  obtain ⟨y, hy⟩ : ∃ y, y = mixN 9 6 := ⟨_, rfl⟩
  rw [← hx] at m5 u5 hne
  rw [← hy] at m6 hne
  have hne2 : ((x : Int) != (y : Int)) = true := by rw [bne, hne]; rfl
  clear hx hy
  go_enter Try.func13, Try.ntmps13
  go_wp2_with fail
  refine (r1.out _).mono ?_
  rintro e w1 ⟨rfl, hb1⟩
  go_wp2_with fail
  refine (r2.out _).mono ?_
  rintro e w2 ⟨rfl, hb⟩
  have hb2 := below0 hb1 hb
  clear hb hb1
  go_wp2_with fail
  refine (r3.out _).mono ?_
  rintro e w3 ⟨rfl, hb⟩
  have hb3 := below0 hb2 hb
  clear hb hb2
  go_wp2_with fail
  refine (s1.out _).mono ?_
  rintro e w4 ⟨rfl, rfl⟩
  go_wp2_with (go_at_call 9; refine (num_any _ _).mono ?_; rintro e w' ⟨rfl, rfl⟩)
  refine (m5.out _).mono ?_
  rintro e w5 ⟨rfl, hb⟩
  have hb5 := below0 hb3 hb
  clear hb hb3
  go_wp2_with fail
  refine (u5.out _).mono ?_
  rintro e w6 ⟨rfl, hb⟩
  have hb6 := below0 hb5 hb
  clear hb hb5
  go_wp2_with fail
  refine (m5.out _).mono ?_
  rintro e w7 ⟨rfl, hb⟩
  have hb7 := below0 hb6 hb
  clear hb hb6
  go_wp2_with fail
  refine (m6.out _).mono ?_
  rintro e w8 ⟨rfl, hb⟩
  have hb8 := below0 hb7 hb
  clear hb hb7
  go_wp2_with fail
  refine (f0.out _).mono ?_
  rintro e w9 ⟨rfl, hb⟩
  have hb9 := below0 hb8 hb
  clear hb hb8
  go_wp2_with fail
  go_ret
  exact ⟨rfl, hb9⟩

set_option maxHeartbeats 2000000 in
theorem mixStirs_any (half by_ k : Nat) (n : Int) (w : World) (h1 : half < 4294967296) (h2 : by_ < 4294967296) (hk : k < 18446744073709551616) :
    Calls Try.prog 3 #[.int .u32 (half : Int), .int .u32 (by_ : Int), .agg #[.int .u64 (k : Int), .int .i64 n]] w fun e w' => e = .returned (.bool true) ∧ Below w.heap.size w w' := by
  have hs := Lib.hid (fun W => stir_any half by_ W)
  have ht := Lib.hid (fun W => rStir_any half by_ W h1 h2)
  obtain ⟨s, hss⟩ : ∃ s, s = stirN half by_ := ⟨_, rfl⟩
  rw [← hss] at hs ht
  have hr0 := Row.new w 25 [.int .u64 (k : Int), .int .i64 n]
  have hB0 := below1 w (.cells #[.int .u64 (k : Int), .int .i64 n] 25)
  clear hss h1 h2
  by_cases hn : n < 0 ∨ 7 < n
  · have hR := Lib.hid (fun W => round_out k n W hn)
    by_cases h0 : n < 0
    · have e0 : decide (n < 0) = true := decide_eq_true h0
      clear hn
      go_enter Try.func3, Try.ntmps3
      go_wp2_with fail
      refine (hR.out _).mono ?_
      rintro e w1 ⟨rfl, hb1⟩
      have hr1 := hr0.below hb1
      have hB1 := hB0.trans (hb1.mono (by simp))
      have c0 : w1.cell? ⟨w.heap.size, 0, none⟩ = _ := hr1.cell 0
      have c1 : w1.cell? ⟨w.heap.size, 1, none⟩ = _ := hr1.cell 1
      clear hr0 hr1 hB0 hb1
      go_wp2_with fail
      refine (num_any _ _).mono ?_
      rintro e w2 ⟨rfl, rfl⟩
      go_wp2_with fail
      refine (hs.out _).mono ?_
      rintro e w2 ⟨rfl, rfl⟩
      go_wp2_with fail
      refine (ht.out _).mono ?_
      rintro e w2 ⟨rfl, rfl⟩
      go_wp2_with fail
      refine (works_any _).mono ?_
      rintro e w2 ⟨rfl, hb2⟩
      have hB2 := below0 hB1 hb2
      go_wp2_with fail
      go_ret
      exact ⟨rfl, hB2⟩
    · have e0 : decide (n < 0) = false := decide_eq_false h0
      have e1 : decide (7 < n) = true := decide_eq_true (by omega)
      clear hn
      go_enter Try.func3, Try.ntmps3
      go_wp2_with fail
      refine (hR.out _).mono ?_
      rintro e w1 ⟨rfl, hb1⟩
      have hr1 := hr0.below hb1
      have hB1 := hB0.trans (hb1.mono (by simp))
      have c0 : w1.cell? ⟨w.heap.size, 0, none⟩ = _ := hr1.cell 0
      have c1 : w1.cell? ⟨w.heap.size, 1, none⟩ = _ := hr1.cell 1
      clear hr0 hr1 hB0 hb1
      go_wp2_with fail
      refine (num_any _ _).mono ?_
      rintro e w2 ⟨rfl, rfl⟩
      go_wp2_with fail
      refine (hs.out _).mono ?_
      rintro e w2 ⟨rfl, rfl⟩
      go_wp2_with fail
      refine (ht.out _).mono ?_
      rintro e w2 ⟨rfl, rfl⟩
      go_wp2_with fail
      refine (works_any _).mono ?_
      rintro e w2 ⟨rfl, hb2⟩
      have hB2 := below0 hB1 hb2
      go_wp2_with fail
      go_ret
      exact ⟨rfl, hB2⟩
  · obtain ⟨m, rfl⟩ := Int.eq_ofNat_of_zero_le (show 0 ≤ n by omega)
    have hm : m < 8 := by omega
    have hR := Lib.hid (fun W => round_in k m W hk hm)
    have hQ := Lib.hid (fun W => rround_any k m W hk hm)
    have hl := rnum_lt k m
    obtain ⟨r, hrr⟩ : ∃ r, r = rnum k m := ⟨_, rfl⟩
    rw [← hrr] at hR hQ hl
    have e0 : decide ((m : Int) < 0) = false := decide_eq_false (by omega)
    have e1 : decide (7 < (m : Int)) = false := decide_eq_false (by omega)
    clear hn hrr
    go_enter Try.func3, Try.ntmps3
    go_wp2_with fail
    refine (hR.out _).mono ?_
    rintro e w1 ⟨rfl, hb1⟩
    have hr1 := hr0.below hb1
    have hB1 := hB0.trans (hb1.mono (by simp))
    have c0 : w1.cell? ⟨w.heap.size, 0, none⟩ = _ := hr1.cell 0
    have c1 : w1.cell? ⟨w.heap.size, 1, none⟩ = _ := hr1.cell 1
    clear hr0 hr1 hB0 hb1
    go_wp2_with fail
    refine (hQ.out _).mono ?_
    rintro e w2 ⟨rfl, rfl⟩
    go_wp2_with fail
    refine (num_any _ _).mono ?_
    rintro e w2 ⟨rfl, rfl⟩
    go_wp2_with fail
    refine (hs.out _).mono ?_
    rintro e w2 ⟨rfl, rfl⟩
    go_wp2_with fail
    refine (ht.out _).mono ?_
    rintro e w2 ⟨rfl, rfl⟩
    go_wp2_with fail
    refine (works_any _).mono ?_
    rintro e w2 ⟨rfl, hb2⟩
    have hB2 := below0 hB1 hb2
    go_wp2_with fail
    go_ret
    exact ⟨rfl, hB2⟩

theorem mixMixes_any (k x : Nat) (w : World) (hk : k < 18446744073709551616) (hx : x < 18446744073709551616) :
    Calls Try.prog 4 #[.int .u64 (k : Int), .int .u64 (x : Int)] w fun e w' => e = .returned (.bool true) ∧ Below w.heap.size w w' := by
  have h1 := Lib.hid (fun W => mix_any k x W hk hx)
  have h2 := Lib.hid (fun W => rmix_any k x W hk hx)
  have h3 := Lib.hid (fun W => undo_any k x W hk hx)
  have h4 := Lib.hid (fun W => rundo_any k x W hk hx)
  obtain ⟨a, ha⟩ : ∃ a, a = mixN k x := ⟨_, rfl⟩
  obtain ⟨b, hb⟩ : ∃ b, b = undoN k x := ⟨_, rfl⟩
  rw [← ha] at h1 h2
  rw [← hb] at h3 h4
  clear ha hb hk hx
  go_enter Try.func4, Try.ntmps4
  go_wp2_with fail
  refine (h1.out _).mono ?_
  rintro e w1 ⟨rfl, hb1⟩
  go_wp2_with fail
  refine (h2.out _).mono ?_
  rintro e w2 ⟨rfl, rfl⟩
  go_wp2_with fail
  refine (h3.out _).mono ?_
  rintro e w2 ⟨rfl, hb⟩
  have hb2 := below0 hb1 hb
  clear hb hb1
  go_wp2_with fail
  refine (h4.out _).mono ?_
  rintro e w3 ⟨rfl, rfl⟩
  go_wp2_with fail
  refine (works_any _).mono ?_
  rintro e w3 ⟨rfl, hb⟩
  have hb3 := below0 hb2 hb
  go_wp2_with fail
  go_ret
  exact ⟨rfl, hb3⟩
end Go.Proofs.Ytaggjfdmjpelhaa
