import Derived.Test.YtnbehncbjbkjpaaRepr
namespace Go.Proofs.Ytnbehncbjbkjpaa
open Go.RowKit Go.Shelf Go.Maps
attribute [local go_sem] Oper.semAt_some

/- SMALL QUESTIONS. -/

theorem num_any (n : Int) (w : World) : Calls Try.prog 7 #[.int .i64 n] w fun e w' => e = .returned (.int .i64 n) ∧ w = w' := by
  go_enter Try.func7, Try.ntmps7
  go_wp2
  go_ret
  exact ⟨rfl, rfl⟩

theorem known_any (o : Int) (w : World) : Calls Try.prog 21 #[.int .i64 o] w fun e w' => e = .returned (.bool (ownerB o)) ∧ w = w' := by
  unfold ownerB
  go_enter Try.func21, Try.ntmps21
  by_cases h0 : 0 ≤ o
  · have e0 : decide (0 ≤ o) = true := decide_eq_true h0
    obtain ⟨q, hq⟩ : ∃ q, q = decide (o < 64) := ⟨_, rfl⟩
    rw [← hq]
    go_wp2
    go_ret
    exact ⟨by simp [hq, h0], rfl⟩
  · have e0 : decide (0 ≤ o) = false := decide_eq_false h0
    go_wp2
    go_ret
    exact ⟨by simp, rfl⟩

theorem holds_any (a m : Int) (w : World) (h1 : -9223372036854775808 ≤ a ∧ a ≤ 9223372036854775807) : Calls Try.prog 48 #[.int .i64 a, .int .i64 m] w fun e w' => e = .returned (.bool (holdsB a m)) ∧ w = w' := by
  unfold holdsB
  go_enter Try.func48, Try.ntmps48
  by_cases h0 : 0 ≤ a
  · have e0 : decide (0 ≤ a) = true := decide_eq_true h0
    have e4 : IntKind.i64.wrap (256 - a) = 256 - a := wrapI _ (by omega) (by omega)
    by_cases h2 : a ≤ 256
    · have e1 : decide (a ≤ 256) = true := decide_eq_true h2
      by_cases h3 : 0 ≤ m
      · have e2 : decide (0 ≤ m) = true := decide_eq_true h3
        go_wp2
        go_ret
        exact ⟨by simp [h0, h2, h3], rfl⟩
      · have e2 : decide (0 ≤ m) = false := decide_eq_false h3
        go_wp2
        go_ret
        exact ⟨by simp, rfl⟩
    · have e1 : decide (a ≤ 256) = false := decide_eq_false h2
      go_wp2
      go_ret
      exact ⟨by simp, rfl⟩
  · have e0 : decide (0 ≤ a) = false := decide_eq_false h0
    go_wp2
    go_ret
    exact ⟨by simp, rfl⟩

theorem there_non (m : Value) (w : World) (h : Non w m) : Calls Try.prog 19 #[m] w fun e w' => e = .returned (.bool false) ∧ w = w' := by
  have hq := fun w => run_neq_map_nil (P := Try.prog) w 35 _ _ none Try.underlying35
  rcases h with rfl | ⟨b, rfl, hc⟩
  · go_enter Try.func19, Try.ntmps19
    go_wp2
    go_ret
    exact ⟨rfl, rfl⟩
  · go_enter Try.func19, Try.ntmps19
    go_wp2
    go_ret
    exact ⟨rfl, rfl⟩
theorem there_map (b bm : Nat) (w : World) (hc : w.cell? ⟨b, 1, none⟩ = some (.map (some bm))) : Calls Try.prog 19 #[.pointer (some ⟨b, 0, none⟩)] w fun e w' => e = .returned (.bool true) ∧ w = w' := by
  have hq := fun w => run_neq_map_nil (P := Try.prog) w 35 _ _ (some bm) Try.underlying35
  go_enter Try.func19, Try.ntmps19
  go_wp2
  go_ret
  exact ⟨rfl, rfl⟩

theorem is_any (b n : Nat) (i : Int) (w : World) (hc : w.cell? ⟨b, 0, none⟩ = some (.int .i64 (n : Int))) :
    Calls Try.prog 32 #[.pointer (some ⟨b, 0, none⟩), .int .i64 i] w fun e w' => e = .returned (.bool (decide (0 ≤ i) && decide (i < n))) ∧ w = w' := by
  go_enter Try.func32, Try.ntmps32
  by_cases h0 : 0 ≤ i
  · have e0 : decide (0 ≤ i) = true := decide_eq_true h0
    obtain ⟨q, hq⟩ : ∃ q, q = decide (i < (n : Int)) := ⟨_, rfl⟩
    rw [← hq]
    go_wp2
    go_ret
    exact ⟨by simp [hq, h0], rfl⟩
  · have e0 : decide (0 ≤ i) = false := decide_eq_false h0
    go_wp2
    go_ret
    exact ⟨by simp, rfl⟩

theorem law : Keyed Try.prog 3 := int_keyed Try.underlying3
theorem zeroE (w : World) : (zeroValue 3).run Try.prog w = .ok (.int .i64 0) w := by kernel_rfl
theorem wf_i64 {a : Int} (h1 : -9223372036854775808 ≤ a) (h2 : a ≤ 9223372036854775807) : (Lit.int .i64 a).wf = true := WalkArith.wf_i64 (by omega)
theorem keyZ {a : Int} (h1 : -9223372036854775808 ≤ a) (h2 : a ≤ 9223372036854775807) : keyOf Try.prog 3 (.int .i64 a) = some (.int .i64 a) := keyOf_int_mk Try.underlying3 (wf_i64 h1 h2)

/-- the owner that a look-up tells -/
def ownN (l : List (Option Nat)) (z : Int) : Nat := (ownAt l z).getD 0
theorem mapD_ownN {l : List (Option Nat)} {z c : Int} (h : (mapD l).atKey (.int .i64 z) (.lit (.int .i64 0)) = .lit (.int .i64 c)) : c = ownN l z := by
  rw [mapD_at] at h
  unfold ownN
  cases hx : ownAt l z <;> rw [hx] at h <;> simp at h ⊢
  · exact h.symm
  · exact h.symm

theorem owned_any (b bm n : Nat) (l : List (Option Nat)) (i : Int) (w : World) (hi : -9223372036854775808 ≤ i ∧ i ≤ 9223372036854775807) (hc : w.cell? ⟨b, 1, none⟩ = some (.map (some bm))) (hown : w.ownsMap Try.prog 3 (plainElem Try.prog 3) bm n (mapD l)) :
    Calls Try.prog 34 #[.pointer (some ⟨b, 0, none⟩), .int .i64 i] w fun e w' => e = .returned (.bool (ownAt l i).isSome) ∧ w = w' := by
  have hkey := keyZ hi.1 hi.2
  have hh := mapD_has l i
  obtain ⟨q, hq⟩ : ∃ q, q = (ownAt l i).isSome := ⟨_, rfl⟩
  rw [← hq] at hh ⊢
  obtain ⟨D, hD⟩ : ∃ D, D = mapD l := ⟨_, rfl⟩
  rw [← hD] at hown hh
  clear hD hq
  go_enter Try.func34, Try.ntmps34
  go_wp2_with (at_lookup; refine wpList_lookup_own_ok_int _ rfl _ _ 35 rfl 3 3 .i64 law Try.underlying35 Try.underlying3 (zeroE _) bm n D rfl hown _ _ rfl hkey ?_; intro c hat hwc; rw [hh])
  go_ret
  exact ⟨rfl, rfl⟩
end Go.Proofs.Ytnbehncbjbkjpaa
