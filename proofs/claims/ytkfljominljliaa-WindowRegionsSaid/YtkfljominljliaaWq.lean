import Derived.Test.YtkfljominljliaaWp
namespace Go.Proofs.Ytkfljominljliaa
open Go.RowKit Go.Shelf
attribute [local go_sem] Oper.semAt_some

/- WHAT A PAGE IS, PLAINLY. -/
def isBook (n : Nat) : Prop := 1 ≤ n ∧ n < 257 ∧ (n - 1) % 64 < 48
def isWin (n : Nat) : Prop := 4096 ≤ n ∧ n < 20480
def isReg (n : Nat) : Prop := isWin n ∧ 1 ≤ n % 4096 ∧ n % 4096 ≤ 136 ∧ (n % 4096 - 1) % 17 < 16
instance (n : Nat) : Decidable (isBook n) := by unfold isBook; infer_instance
instance (n : Nat) : Decidable (isWin n) := by unfold isWin; infer_instance
instance (n : Nat) : Decidable (isReg n) := by unfold isReg; infer_instance
/-- kind, slot, class, place -/
def plc (n : Nat) : Nat × Nat × Nat × Nat :=
  if isBook n then (1, (n - 1) / 64, 0, (n - 1) % 64)
  else if isReg n then (2, n / 4096 - 1, (n % 4096 - 1) / 17, (n % 4096 - 1) % 17)
  else if isWin n then (if 256 ≤ n % 4096 then (3, n / 4096 - 1, 0, n % 4096) else (4, n / 4096 - 1, 0, n % 4096))
  else (0, 0, 0, 0)
theorem bookO_yes {n : Nat} (h : isBook n) : bookO n = some ((n - 1) / 64, (n - 1) % 64) := by
  unfold isBook at h
  unfold bookO fnd
  rw [if_pos (by omega)]
theorem bookO_no {n : Nat} (h : ¬ isBook n) : bookO n = none := by
  unfold isBook at h
  unfold bookO fnd
  rw [if_neg (by omega)]
theorem windO_yes {n : Nat} (h : isWin n) : windO n = some (n / 4096 - 1, n % 4096) := by
  unfold isWin at h
  unfold windO fnd
  rw [if_pos (by omega), show (n - 4096) / 4096 = n / 4096 - 1 by omega, show (n - 4096) % 4096 = n % 4096 by omega]
theorem windO_no {n : Nat} (h : ¬ isWin n) : windO n = none := by
  unfold isWin at h
  unfold windO fnd
  rw [if_neg (by omega)]
theorem regiO_yes {n : Nat} (h : isReg n) : regiO n = some ((n % 4096 - 1) / 17, (n % 4096 - 1) % 17) := by
  have hw := windO_yes h.1
  unfold isReg isWin at h
  unfold regiO
  rw [hw]
  simp only
  unfold fnd
  have e : n - (4096 * (n / 4096 - 1) + 4097) = n % 4096 - 1 := by omega
  rw [e, if_pos (by omega)]
theorem regiO_no {n : Nat} (h : ¬ isReg n) : regiO n = none := by
  by_cases hw : isWin n
  · unfold regiO
    rw [windO_yes hw]
    simp only
    unfold fnd
    have h2 := hw
    unfold isReg at h
    unfold isWin at h2
    refine if_neg fun h9 => h ⟨hw, ?_⟩
    have e : n - (4096 * (n / 4096 - 1) + 4097) = n % 4096 - 1 := by omega
    rw [e] at h9
    omega
  · unfold regiO
    rw [windO_no hw]
theorem srO_cases (hold : Nat → Bool) : srO hold = if hold 0 then some 0 else if hold 1 then some 1 else if hold 2 then some 2 else if hold 3 then some 3 else none := by
  unfold srO
  simp only [show List.range 4 = [0, 1, 2, 3] from rfl, List.find?]
  cases hold 0 <;> cases hold 1 <;> cases hold 2 <;> cases hold 3 <;> rfl
theorem siteV_eq (n : Nat) : siteV n = siV ((plc n).1 : Int) ((plc n).2.1 : Int) ((plc n).2.2.1 : Int) ((plc n).2.2.2 : Int) := by
  unfold siteV
  rw [srO_cases]
  have h0 : holdN n 0 = (bookO n).isSome := rfl
  have h1 : holdN n 1 = (regiO n).isSome := rfl
  have h2 : holdN n 2 = ((windO n).isSome && decide (256 ≤ (sB (windO n) : Int))) := rfl
  have h3 : holdN n 3 = (windO n).isSome := rfl
  unfold plc
  by_cases hb : isBook n
  · rw [if_pos hb]
    rw [h0, bookO_yes hb]
    rfl
  · rw [if_neg hb]
    rw [h0, bookO_no hb]
    by_cases hr : isReg n
    · rw [if_pos hr]
      rw [h1, regiO_yes hr, windO_yes hr.1]
      rfl
    · rw [if_neg hr]
      rw [h1, regiO_no hr]
      by_cases hw : isWin n
      · rw [if_pos hw]
        rw [h2, h3, windO_yes hw]
        by_cases h5 : 256 ≤ n % 4096
        · rw [if_pos h5, show decide (256 ≤ (sB (some (n / 4096 - 1, n % 4096)) : Int)) = true from decide_eq_true (by show (256 : Int) ≤ ((n % 4096 : Nat) : Int); omega)]
          rfl
        · rw [if_neg h5, show decide (256 ≤ (sB (some (n / 4096 - 1, n % 4096)) : Int)) = false from decide_eq_false (by show ¬ (256 : Int) ≤ ((n % 4096 : Nat) : Int); omega)]
          rfl
      · rw [if_neg hw]
        rw [h2, h3, windO_no hw]
        rfl

theorem of_no (n : Int) (w : World) (h : isB n 65536 = false) : Calls Try.prog 19 #[.int .i64 n] w fun e w' => e = .returned (.tuple #[siV 0 0 0 0, .int .i64 4]) ∧ Below w.heap.size w w' := by
  have hb := Lib.hid (fun w => below_any n 65536 w)
  rw [h] at hb
  clear h
  go_enter Try.func19, Try.ntmps19
  go_wp2_with fail
  refine wp_scope_jump 1 fun R hR hG => ?_
  go_wp2_with fail
  refine (hb.out _).mono ?_
  rintro e w1 ⟨rfl, rfl⟩
  go_wp2_with fail
  refine wp_goto (hG.out _ _ _ _ _ rfl ?_)
  go_wp2
  refine hR.out _ _ _ _ (by simp) ?_
  exact bodyPost_ret (v := .tuple #[siV 0 0 0 0, .int .i64 4]) (by simp [results, Try.results19, go_sem]) rfl ⟨rfl, below1 _ _⟩
set_option maxHeartbeats 1000000 in
theorem of_yes (n : Nat) (w : World) (h : n < 65536) : Calls Try.prog 19 #[.int .i64 (n : Int)] w fun e w' => e = .returned (.tuple #[siV ((plc n).1 : Int) ((plc n).2.1 : Int) ((plc n).2.2.1 : Int) ((plc n).2.2.2 : Int), .int .i64 0]) ∧ Below w.heap.size w w' := by
  have hb := Lib.hid (fun w => below_any (n : Int) 65536 w)
  rw [show isB (n : Int) 65536 = true from isB_yes (n := 65536) h] at hb
  have hs := Lib.hid (fun w => siteOf_any n w (by omega))
  rw [siteV_eq] at hs
  obtain ⟨x, hx⟩ : ∃ x, x = (plc n).1 := ⟨_, rfl⟩
  obtain ⟨y, hy⟩ : ∃ y, y = (plc n).2.1 := ⟨_, rfl⟩
  obtain ⟨z, hz⟩ : ∃ z, z = (plc n).2.2.1 := ⟨_, rfl⟩
  obtain ⟨t, ht⟩ : ∃ t, t = (plc n).2.2.2 := ⟨_, rfl⟩
  rw [← hx, ← hy, ← hz, ← ht] at hs ⊢
  clear hx hy hz ht h
  go_enter Try.func19, Try.ntmps19
  go_wp2_with fail
  refine wp_scope_jump 1 fun R hR hG => ?_
  go_wp2_with fail
  refine (hb.out _).mono ?_
  rintro e w1 ⟨rfl, rfl⟩
  go_wp2_with fail
  refine (hs.out _).mono ?_
  rintro e w2 ⟨rfl, hb2⟩
  have r2 : Row w2 w.heap.size 36 [.int .i64 0, .int .i64 0, .int .i64 0, .int .i64 0] := (Row.new w 36 [.int .i64 0, .int .i64 0, .int .i64 0, .int .i64 0]).below hb2
  have B2 : Below w.heap.size w w2 := (below1 _ _).trans (hb2.mono (by simp))
  have c0 : w2.cell? ⟨w.heap.size, 0, none⟩ = _ := r2.cell 0
  have c1 : w2.cell? ⟨w.heap.size, 1, none⟩ = _ := r2.cell 1
  have c2 : w2.cell? ⟨w.heap.size, 2, none⟩ = _ := r2.cell 2
  have c3 : w2.cell? ⟨w.heap.size, 3, none⟩ = _ := r2.cell 3
  have f0 := r2.frozen 0
  have f1 := r2.frozen 1
  have f2 := r2.frozen 2
  have f3 := r2.frozen 3
  have HR := Lib.hid r2
  have HB := Lib.hid B2
  clear r2 B2 hb2
  go_wp2
  refine hR.out _ _ _ _ (by simp) ?_
  have R8 := row_set4 (.int .i64 (x : Int)) (.int .i64 (y : Int)) (.int .i64 (z : Int)) (.int .i64 (t : Int)) HR.out
  have B8 := below_set4 (b := w.heap.size) (.int .i64 (x : Int)) (.int .i64 (y : Int)) (.int .i64 (z : Int)) (.int .i64 (t : Int)) HB.out (Nat.le_refl _)
  clear c0 c1 c2 c3 f0 f1 f2 f3
  have d0 : World.cell? _ ⟨w.heap.size, 0, none⟩ = _ := R8.cell 0
  have d1 : World.cell? _ ⟨w.heap.size, 1, none⟩ = _ := R8.cell 1
  have d2 : World.cell? _ ⟨w.heap.size, 2, none⟩ = _ := R8.cell 2
  have d3 : World.cell? _ ⟨w.heap.size, 3, none⟩ = _ := R8.cell 3
  exact bodyPost_ret (v := .tuple #[siV x y z t, .int .i64 0]) (by simp [results, Try.results19, go_sem, d0, d1, d2, d3]) rfl ⟨rfl, B8⟩
end Go.Proofs.Ytkfljominljliaa
