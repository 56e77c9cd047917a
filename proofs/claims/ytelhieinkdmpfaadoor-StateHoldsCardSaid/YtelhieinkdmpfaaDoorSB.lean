import Derived.Test.YtelhieinkdmpfaaDoorSA
namespace Go.Proofs.YtelhieinkdmpfaaDoor.Sh
open Go.RowKit Go.Shelf
attribute [local go_sem] Oper.semAt_some

/- THE DOCUMENT's STATE, MAY, NAME, NEW. -/
theorem rstate_any (z : Int) (w : World) : Calls Tryd.prog 8 #[.int .i64 z] w fun e w' => e = .returned (.bool (stB z)) ∧ w = w' := by
  by_cases h0 : 0 ≤ z
  · have h1 : decide (0 ≤ z) = true := decide_eq_true h0
    have hr := Lib.hid (show stB z = decide (z ≤ 4) by unfold stB; simp [h0])
    go_enter Tryd.func8, Tryd.ntmps8
    go_wp2_with fail
    go_ret
    exact ⟨by rw [hr.out]; simp, rfl⟩
  · have h1 : decide (0 ≤ z) = false := decide_eq_false h0
    have hr := Lib.hid (show stB z = false by unfold stB; simp [h0])
    go_enter Tryd.func8, Tryd.ntmps8
    go_wp2_with fail
    go_ret
    exact ⟨by rw [hr.out]; rfl, rfl⟩
theorem rmay_two {a x y : Int} (b : Int) (w : World) (ha : (a = 1 ∧ x = 0 ∧ y = 2) ∨ (a = 2 ∧ x = 3 ∧ y = 4) ∨ (a = 3 ∧ x = 0 ∧ y = 4)) : Calls Tryd.prog 9 #[.int .i64 a, .int .i64 b] w fun e w' => e = .returned (.bool (b == x || b == y)) ∧ w = w' := by
  rcases ha with ⟨rfl, rfl, rfl⟩ | ⟨rfl, rfl, rfl⟩ | ⟨rfl, rfl, rfl⟩
  · cases h : (b == 0)
    · go_enter Tryd.func9, Tryd.ntmps9
      go_wp2_with fail
      go_ret
      exact ⟨by simp, rfl⟩
    · go_enter Tryd.func9, Tryd.ntmps9
      go_wp2_with fail
      go_ret
      exact ⟨by simp, rfl⟩
  · cases h : (b == 3)
    · go_enter Tryd.func9, Tryd.ntmps9
      go_wp2_with fail
      go_ret
      exact ⟨by simp, rfl⟩
    · go_enter Tryd.func9, Tryd.ntmps9
      go_wp2_with fail
      go_ret
      exact ⟨by simp, rfl⟩
  · cases h : (b == 0)
    · go_enter Tryd.func9, Tryd.ntmps9
      go_wp2_with fail
      go_ret
      exact ⟨by simp, rfl⟩
    · go_enter Tryd.func9, Tryd.ntmps9
      go_wp2_with fail
      go_ret
      exact ⟨by simp, rfl⟩
theorem rmay_any (a b : Int) (w : World) : Calls Tryd.prog 9 #[.int .i64 a, .int .i64 b] w fun e w' => e = .returned (.bool (mayB a b)) ∧ w = w' := by
  by_cases h0 : a = 0
  · subst h0
    go_enter Tryd.func9, Tryd.ntmps9
    go_wp2_with fail
    go_ret
    exact ⟨rfl, rfl⟩
  · by_cases h1 : a = 1
    · rw [show mayB a b = (b == 0 || b == 2) by unfold mayB; rw [if_neg h0, if_pos h1]]
      exact rmay_two b w (.inl ⟨h1, rfl, rfl⟩)
    · by_cases h2 : a = 2
      · rw [show mayB a b = (b == 3 || b == 4) by unfold mayB; rw [if_neg h0, if_neg h1, if_pos h2]]
        exact rmay_two b w (.inr (.inl ⟨h2, rfl, rfl⟩))
      · by_cases h3 : a = 3
        · rw [show mayB a b = (b == 0 || b == 4) by unfold mayB; rw [if_neg h0, if_neg h1, if_neg h2, if_pos h3]]
          exact rmay_two b w (.inr (.inr ⟨h3, rfl, rfl⟩))
        · rw [show mayB a b = false by unfold mayB; rw [if_neg h0, if_neg h1, if_neg h2, if_neg h3]]
          have e0 : (a == 0) = false := beq_eq_false_iff_ne.2 h0
          have e1 : (a == 1) = false := beq_eq_false_iff_ne.2 h1
          have e2 : (a == 2) = false := beq_eq_false_iff_ne.2 h2
          have e3 : (a == 3) = false := beq_eq_false_iff_ne.2 h3
          clear h0 h1 h2 h3
          go_enter Tryd.func9, Tryd.ntmps9
          go_wp2_with fail
          go_ret
          exact ⟨rfl, rfl⟩
theorem rname_any (z : Int) (w : World) : Calls Tryd.prog 11 #[.int .i64 z] w fun e w' => e = .returned (.string (nameB z)) ∧ Below w.heap.size w w' := by
  have HS := Lib.hid (fun w => rstate_any z w)
  cases hs : stB z
  · have hr := Lib.hid (show nameB z = ⟨#[]⟩ by
      have : ¬ (0 ≤ z ∧ z ≤ 4) := fun h => by rw [stB_iff.2 h] at hs; cases hs
      unfold nameB
      rw [if_neg (by omega), if_neg (by omega), if_neg (by omega), if_neg (by omega), if_neg (by omega)])
    rw [hs] at HS
    go_enter Tryd.func11, Tryd.ntmps11
    go_wp2_with fail
    refine (HS.out _).mono ?_
    rintro e w1 ⟨rfl, rfl⟩
    go_wp2_with fail
    go_ret
    exact ⟨by rw [hr.out]; rfl, Below.refl _ _⟩
  · have hz := stB_iff.1 hs
    rw [hs] at HS
    clear hs
    obtain rfl | rfl | rfl | rfl | rfl : z = 0 ∨ z = 1 ∨ z = 2 ∨ z = 3 ∨ z = 4 := by omega
    all_goals
      clear hz
      go_enter Tryd.func11, Tryd.ntmps11
      go_wp2_with fail
      refine (HS.out _).mono ?_
      rintro e w1 ⟨rfl, rfl⟩
      go_wp2_with fail
      go_ret
      exact ⟨rfl, below1 _ _⟩
theorem rnew_no (z : Int) (w : World) (h : z < 0 ∨ 256 < z) : Calls Tryd.prog 14 #[.int .i64 z] w fun e w' => e = .returned (.tuple #[.slice none 0 0, .int .i64 2]) ∧ w = w' := by
  by_cases h0 : z < 0
  · have h1 : decide (z < 0) = true := decide_eq_true h0
    clear h
    go_enter Tryd.func14, Tryd.ntmps14
    go_wp2_with fail
    go_ret2
    exact ⟨rfl, rfl⟩
  · have h1 : decide (z < 0) = false := decide_eq_false h0
    have h2 : decide (256 < z) = true := decide_eq_true (by omega)
    clear h h0
    go_enter Tryd.func14, Tryd.ntmps14
    go_wp2_with fail
    go_ret2
    exact ⟨rfl, rfl⟩
end Go.Proofs.YtelhieinkdmpfaaDoor.Sh
