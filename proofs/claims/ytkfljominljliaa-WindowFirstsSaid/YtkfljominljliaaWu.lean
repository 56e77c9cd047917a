import Derived.Test.YtkfljominljliaaWt
namespace Go.Proofs.Ytkfljominljliaa
open Go.RowKit Go.Shelf
attribute [local go_sem] Oper.semAt_some

theorem isB_nat {n : Int} {b : Nat} (h : isB n (b : Int) = true) : ∃ k : Nat, n = (k : Int) ∧ k < b := by
  unfold isB at h
  simp only [Bool.and_eq_true, decide_eq_true_eq] at h
  exact ⟨n.toNat, by omega, by omega⟩
theorem region_no (n m : Int) (w : World) (h : isB n 4 = false ∨ isB m 8 = false) : Calls Try.prog 9 #[.int .i64 n, .int .i64 m] w fun e w' => e = .returned (.tuple #[.int .i64 0, .int .i64 2]) ∧ Below w.heap.size w w' := by
  by_cases hm : isB m 8 = false
  · exact region_noc n m w hm
  · obtain ⟨k, rfl, hk⟩ := isB_nat (b := 8) (by simpa using hm)
    exact region_nos n k w hk (h.resolve_right hm)

set_option maxRecDepth 100000 in
set_option maxHeartbeats 2000000 in
theorem firsts_no (n m : Int) (w : World) (h : isB n 4 = false) : Calls Try.prog 3 #[.int .i64 n, .int .i64 m] w fun e w' => e = .returned (.bool true) ∧ Below w.heap.size w w' := by
  have h1 := Lib.hid (fun w => base_no n w h)
  have h2 := Lib.hid (fun w => region_no n m w (.inl h))
  have h3 := Lib.hid (fun w => great_no n w h)
  have h4 := Lib.hid (fun w => book_no n w h)
  have h5 := Lib.hid (fun w => rslot_any n w)
  rw [h] at h5
  have hnum := Lib.hid num_any
  have hwk := Lib.hid works_any
  clear h
  go_enter Try.func3, Try.ntmps3
  go_wp2_with fail
  refine (h1.out _).mono ?_
  rintro e w1 ⟨rfl, b1⟩
  go_wp2_with fail
  refine (h2.out _).mono ?_
  rintro e w2 ⟨rfl, b2⟩
  have B2 := below0 b1 b2
  clear b1 b2 h1 h2
  go_wp2_with fail
  refine (h3.out _).mono ?_
  rintro e w3 ⟨rfl, b3⟩
  have B3 := below0 B2 b3
  clear B2 b3 h3
  go_wp2_with fail
  refine (h4.out _).mono ?_
  rintro e w4 ⟨rfl, b4⟩
  have B4 := below0 B3 b4
  clear B3 b4 h4
  go_wp2_with (first
    | (go_at_call 12; refine (h5.out _).mono ?_; rintro e wn ⟨rfl, rfl⟩)
    | (go_at_call 13; refine (hnum.out _ _).mono ?_; rintro e wn ⟨rfl, rfl⟩))
  refine (hwk.out _).mono ?_
  rintro e w5 ⟨rfl, b5⟩
  go_wp2
  go_ret
  exact ⟨rfl, below0 B4 b5⟩
set_option maxRecDepth 100000 in
set_option maxHeartbeats 2000000 in
theorem firsts_noc (k : Nat) (m : Int) (w : World) (hk : k < 4) (h : isB m 8 = false) : Calls Try.prog 3 #[.int .i64 (k : Int), .int .i64 m] w fun e w' => e = .returned (.bool true) ∧ Below w.heap.size w w' := by
  have h1 := Lib.hid (fun w => base_yes k w hk)
  have h2 := Lib.hid (fun w => region_no k m w (.inr h))
  have h3 := Lib.hid (fun w => great_yes k w hk)
  have h4 := Lib.hid (fun w => book_yes k w hk)
  have h5 := Lib.hid (fun w => rslot_any (k : Int) w)
  rw [show isB (k : Int) 4 = true from isB_yes (n := 4) hk] at h5
  have h6 := Lib.hid (fun w => rbase_any k w (by omega))
  have h7 := Lib.hid (fun w => rbook_any k w (by omega))
  have h8 := Lib.hid (fun w => rclass_any m w)
  rw [h] at h8
  have hnum := Lib.hid num_any
  have hwk := Lib.hid works_any
  obtain ⟨y, hy⟩ : ∃ y, y = 4096 * k + 4352 := ⟨_, rfl⟩
  obtain ⟨z, hz⟩ : ∃ z, z = 4096 * k + 8192 := ⟨_, rfl⟩
  obtain ⟨x, hx⟩ : ∃ x, x = 4096 * k + 4096 := ⟨_, rfl⟩
  obtain ⟨b, hb⟩ : ∃ b, b = 64 * k + 1 := ⟨_, rfl⟩
  have a0 : IntKind.i64.wrap ((x : Int) + 256) = (y : Int) := (wrapI _ (by omega) (by omega)).trans (by omega)
  have a1 : IntKind.i64.wrap ((x : Int) + 4096) = (z : Int) := (wrapI _ (by omega) (by omega)).trans (by omega)
  rw [← hx] at h1 h6
  rw [← hy, ← hz] at h3
  rw [← hb] at h4 h7
  clear h hx hy hz hb hk
  go_enter Try.func3, Try.ntmps3
  go_wp2_with fail
  refine (h1.out _).mono ?_
  rintro e w1 ⟨rfl, b1⟩
  go_wp2_with fail
  refine (h2.out _).mono ?_
  rintro e w2 ⟨rfl, b2⟩
  have B2 := below0 b1 b2
  clear b1 b2 h1 h2
  go_wp2_with fail
  refine (h3.out _).mono ?_
  rintro e w3 ⟨rfl, b3⟩
  have B3 := below0 B2 b3
  clear B2 b3 h3
  go_wp2_with fail
  refine (h4.out _).mono ?_
  rintro e w4 ⟨rfl, b4⟩
  have B4 := below0 B3 b4
  clear B3 b4 h4
  go_wp2_with (first
    | (go_at_call 12; refine (h5.out _).mono ?_; rintro e wn ⟨rfl, rfl⟩)
    | (go_at_call 15; refine (h6.out _).mono ?_; rintro e wn ⟨rfl, rfl⟩)
    | (go_at_call 16; refine (h7.out _).mono ?_; rintro e wn ⟨rfl, rfl⟩)
    | (go_at_call 17; refine (h8.out _).mono ?_; rintro e wn ⟨rfl, rfl⟩)
    | (go_at_call 13; refine (hnum.out _ _).mono ?_; rintro e wn ⟨rfl, rfl⟩))
  refine (hwk.out _).mono ?_
  rintro e w5 ⟨rfl, b5⟩
  go_wp2
  go_ret
  exact ⟨rfl, below0 B4 b5⟩
set_option maxRecDepth 100000 in
set_option maxHeartbeats 2000000 in
theorem firsts_yes (k c : Nat) (w : World) (hk : k < 4) (hc : c < 8) : Calls Try.prog 3 #[.int .i64 (k : Int), .int .i64 (c : Int)] w fun e w' => e = .returned (.bool true) ∧ Below w.heap.size w w' := by
  have h1 := Lib.hid (fun w => base_yes k w hk)
  have h2 := Lib.hid (fun w => region_yes k c w hk hc)
  have h3 := Lib.hid (fun w => great_yes k w hk)
  have h4 := Lib.hid (fun w => book_yes k w hk)
  have h5 := Lib.hid (fun w => rslot_any (k : Int) w)
  rw [show isB (k : Int) 4 = true from isB_yes (n := 4) hk] at h5
  have h6 := Lib.hid (fun w => rbase_any k w (by omega))
  have h7 := Lib.hid (fun w => rbook_any k w (by omega))
  have h8 := Lib.hid (fun w => rclass_any (c : Int) w)
  rw [show isB (c : Int) 8 = true from isB_yes (n := 8) hc] at h8
  have h9 := Lib.hid (fun w => rregion_any k c w (by omega) (by omega))
  have hnum := Lib.hid num_any
  have hwk := Lib.hid works_any
  obtain ⟨r, hr⟩ : ∃ r, r = 4096 * k + 4097 + 17 * c := ⟨_, rfl⟩
  obtain ⟨y, hy⟩ : ∃ y, y = 4096 * k + 4352 := ⟨_, rfl⟩
  obtain ⟨z, hz⟩ : ∃ z, z = 4096 * k + 8192 := ⟨_, rfl⟩
  obtain ⟨x, hx⟩ : ∃ x, x = 4096 * k + 4096 := ⟨_, rfl⟩
  obtain ⟨b, hb⟩ : ∃ b, b = 64 * k + 1 := ⟨_, rfl⟩
  have a0 : IntKind.i64.wrap ((x : Int) + 256) = (y : Int) := (wrapI _ (by omega) (by omega)).trans (by omega)
  have a1 : IntKind.i64.wrap ((x : Int) + 4096) = (z : Int) := (wrapI _ (by omega) (by omega)).trans (by omega)
  rw [← hr] at h2 h9
  rw [← hx] at h1 h6
  rw [← hy, ← hz] at h3
  rw [← hb] at h4 h7
  clear hx hy hz hb hk hr hc
  go_enter Try.func3, Try.ntmps3
  go_wp2_with fail
  refine (h1.out _).mono ?_
  rintro e w1 ⟨rfl, b1⟩
  go_wp2_with fail
  refine (h2.out _).mono ?_
  rintro e w2 ⟨rfl, b2⟩
  have B2 := below0 b1 b2
  clear b1 b2 h1 h2
  go_wp2_with fail
  refine (h3.out _).mono ?_
  rintro e w3 ⟨rfl, b3⟩
  have B3 := below0 B2 b3
  clear B2 b3 h3
  go_wp2_with fail
  refine (h4.out _).mono ?_
  rintro e w4 ⟨rfl, b4⟩
  have B4 := below0 B3 b4
  clear B3 b4 h4
  go_wp2_with (first
    | (go_at_call 12; refine (h5.out _).mono ?_; rintro e wn ⟨rfl, rfl⟩)
    | (go_at_call 15; refine (h6.out _).mono ?_; rintro e wn ⟨rfl, rfl⟩)
    | (go_at_call 16; refine (h7.out _).mono ?_; rintro e wn ⟨rfl, rfl⟩)
    | (go_at_call 17; refine (h8.out _).mono ?_; rintro e wn ⟨rfl, rfl⟩)
    | (go_at_call 18; refine (h9.out _).mono ?_; rintro e wn ⟨rfl, rfl⟩)
    | (go_at_call 13; refine (hnum.out _ _).mono ?_; rintro e wn ⟨rfl, rfl⟩))
  refine (hwk.out _).mono ?_
  rintro e w5 ⟨rfl, b5⟩
  go_wp2
  go_ret
  exact ⟨rfl, below0 B4 b5⟩
theorem windowFirsts_any (n m : Int) (w : World) : Calls Try.prog 3 #[.int .i64 n, .int .i64 m] w fun e w' => e = .returned (.bool true) ∧ Below w.heap.size w w' := by
  rcases h : isB n 4 with _ | _
  · exact firsts_no n m w h
  · obtain ⟨k, rfl, hk⟩ := isB_nat (b := 4) h
    rcases h2 : isB m 8 with _ | _
    · exact firsts_noc k m w hk h2
    · obtain ⟨c, rfl, hc⟩ := isB_nat (b := 8) h2
      exact firsts_yes k c w hk hc
end Go.Proofs.Ytkfljominljliaa
