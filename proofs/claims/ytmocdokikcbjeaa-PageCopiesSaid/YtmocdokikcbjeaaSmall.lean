import Derived.Test.YtmocdokikcbjeaaRepr
import Derived.Laws.ResultCell
import Derived.Deep.MidRow
namespace Go.Proofs.Ytmocdokikcbjeaa
open Go.RowKit Go.Shelf Go.Maps
attribute [local go_sem] Oper.semAt_some

/- SMALL QUESTIONS. -/

theorem num_any (n : Int) (w : World) : Calls Try.prog 24 #[.int .i64 n] w fun e w' => e = .returned (.int .i64 n) ∧ w = w' := by
  go_enter Try.func24, Try.ntmps24
  go_wp2
  go_ret
  exact ⟨rfl, rfl⟩

theorem known_any (z : Int) (w : World) : Calls Try.prog 44 #[.int .i64 z] w fun e w' => e = .returned (.bool (pageB z)) ∧ w = w' := by
  unfold pageB
  go_enter Try.func44, Try.ntmps44
  by_cases h0 : 0 ≤ z
  · have e0 : decide (0 ≤ z) = true := decide_eq_true h0
    obtain ⟨q, hq⟩ : ∃ q, q = decide (z < 65536) := ⟨_, rfl⟩
    rw [← hq]
    go_wp2
    go_ret
    exact ⟨by simp [hq, h0], rfl⟩
  · have e0 : decide (0 ≤ z) = false := decide_eq_false h0
    go_wp2
    go_ret
    exact ⟨by simp, rfl⟩
theorem allowed_any (z : Int) (w : World) : Calls Try.prog 56 #[.int .i64 z] w fun e w' => e = .returned (.bool (mayB z)) ∧ w = w' := by
  unfold mayB
  go_enter Try.func56, Try.ntmps56
  by_cases h0 : 0 ≤ z
  · have e0 : decide (0 ≤ z) = true := decide_eq_true h0
    obtain ⟨q, hq⟩ : ∃ q, q = decide (z ≤ 2) := ⟨_, rfl⟩
    rw [← hq]
    go_wp2
    go_ret
    exact ⟨by simp [hq, h0], rfl⟩
  · have e0 : decide (0 ≤ z) = false := decide_eq_false h0
    go_wp2
    go_ret
    exact ⟨by simp, rfl⟩
theorem whole_any (a m : Int) (w : World) : Calls Try.prog 50 #[.int .i64 a, .int .i64 m] w fun e w' => e = .returned (.bool (wholeB a m)) ∧ w = w' := by
  have h1 := Lib.hid (fun w => known_any a w)
  have h2 := @pageB_iff a
  unfold wholeB
  obtain ⟨p, hp⟩ : ∃ p, p = pageB a := ⟨_, rfl⟩
  rw [← hp] at h1 h2 ⊢
  clear hp
  cases p
  · clear h2
    go_enter Try.func50, Try.ntmps50
    go_wp2_with fail
    refine (h1.out _).mono ?_
    rintro e w1 ⟨rfl, rfl⟩
    go_wp2
    go_ret
    exact ⟨rfl, rfl⟩
  · have h3 := h2.1 rfl
    have e4 : IntKind.i64.wrap (65536 - a) = 65536 - a := wrapI _ (by omega) (by omega)
    clear h2 h3
    go_enter Try.func50, Try.ntmps50
    go_wp2_with fail
    refine (h1.out _).mono ?_
    rintro e w1 ⟨rfl, rfl⟩
    go_wp2
    go_ret
    exact ⟨by simp, rfl⟩
theorem proper_any (x : En) (w : World) : Calls Try.prog 42 #[enV x] w fun e w' => e = .returned (.bool (rightB x)) ∧ Below w.heap.size w w' := by
  obtain ⟨o, m, f⟩ := x
  have h1 := Lib.hid (fun w => allowed_any m w)
  unfold rightB
  simp only
  obtain ⟨q, hq⟩ : ∃ q, q = mayB m := ⟨_, rfl⟩
  rw [← hq] at h1 ⊢
  clear hq
  have hb := Lib.hid (below1 w (.cells #[.int .i64 o, .int .i64 m, .int .i64 f] 34))
  show Calls _ _ #[.agg #[.int .i64 o, .int .i64 m, .int .i64 f]] _ _
  go_enter Try.func42, Try.ntmps42
  by_cases h0 : -1 ≤ o
  · have e0 : decide (-1 ≤ o) = true := decide_eq_true h0
    by_cases h2 : o < 64
    · have e1 : decide (o < 64) = true := decide_eq_true h2
      have e3 : decide (o ≤ 63) = true := decide_eq_true (by omega)
      cases q
      · go_wp2_with fail
        refine (h1.out _).mono ?_
        rintro e w1 ⟨rfl, rfl⟩
        go_wp2
        go_ret
        exact ⟨by simp, hb.out⟩
      · go_wp2_with fail
        refine (h1.out _).mono ?_
        rintro e w1 ⟨rfl, rfl⟩
        go_wp2
        go_ret
        exact ⟨by simp [e0, e3], hb.out⟩
    · have e1 : decide (o < 64) = false := decide_eq_false h2
      have e3 : decide (o ≤ 63) = false := decide_eq_false (by omega)
      go_wp2
      go_ret
      exact ⟨by simp, hb.out⟩
  · have e0 : decide (-1 ≤ o) = false := decide_eq_false h0
    go_wp2
    go_ret
    exact ⟨by simp, hb.out⟩

theorem there_non (m : Value) (w : World) (h : Non w m) : Calls Try.prog 32 #[m] w fun e w' => e = .returned (.bool false) ∧ w = w' := by
  have hq := fun w => run_neq_map_nil (P := Try.prog) w 70 _ _ none Try.underlying70
  rcases h with rfl | ⟨b, rfl, hc⟩
  · go_enter Try.func32, Try.ntmps32
    go_wp2
    go_ret
    exact ⟨rfl, rfl⟩
  · go_enter Try.func32, Try.ntmps32
    go_wp2
    go_ret
    exact ⟨rfl, rfl⟩
theorem there_map (b bp : Nat) (w : World) (hc : w.cell? ⟨b, 0, none⟩ = some (.map (some bp))) : Calls Try.prog 32 #[bx b] w fun e w' => e = .returned (.bool true) ∧ w = w' := by
  have hq := fun w => run_neq_map_nil (P := Try.prog) w 70 _ _ (some bp) Try.underlying70
  go_enter Try.func32, Try.ntmps32
  go_wp2
  go_ret
  exact ⟨rfl, rfl⟩
theorem right_any (x : En) (w : World) : Calls Try.prog 39 #[enV x] w fun e w' => e = .returned (.bool (rightB x)) ∧ Below w.heap.size w w' := by
  obtain ⟨o, m, f⟩ := x
  unfold rightB mayB
  simp only
  have hb := Lib.hid (below1 w (.cells #[.int .i64 o, .int .i64 m, .int .i64 f] 34))
  show Calls _ _ #[.agg #[.int .i64 o, .int .i64 m, .int .i64 f]] _ _
  go_enter Try.func39, Try.ntmps39
  by_cases h0 : -1 ≤ o
  · have e0 : decide (-1 ≤ o) = true := decide_eq_true h0
    by_cases h2 : o ≤ 63
    · have e1 : decide (o ≤ 63) = true := decide_eq_true h2
      by_cases h3 : 0 ≤ m
      · have e2 : decide (0 ≤ m) = true := decide_eq_true h3
        by_cases h4 : m ≤ 2
        · have e3 : decide (m ≤ 2) = true := decide_eq_true h4
          go_wp2
          go_ret
          exact ⟨by simp [e0, e1, e2, e3], hb.out⟩
        · have e3 : decide (m ≤ 2) = false := decide_eq_false h4
          go_wp2
          go_ret
          exact ⟨by simp, hb.out⟩
      · have e2 : decide (0 ≤ m) = false := decide_eq_false h3
        go_wp2
        go_ret
        exact ⟨by simp, hb.out⟩
    · have e1 : decide (o ≤ 63) = false := decide_eq_false h2
      go_wp2
      go_ret
      exact ⟨by simp, hb.out⟩
  · have e0 : decide (-1 ≤ o) = false := decide_eq_false h0
    go_wp2
    go_ret
    exact ⟨by simp, hb.out⟩
/-! results that lie in a cell -/
theorem res_cell1 {fn : Func} {p : Tmp} {ty : TypeId} (h : fn.results = #[.cell p ty]) {tmps : Array Value} {P : Program} {w : World} {a : Addr} (ha : tmps.getD p undef = .pointer (some a)) {v : Value} (hv : (loadVar ty a).run P w = .ok v w) :
    (results fn tmps).run P w = .ok v w := by
  have h1 : (results fn tmps).run P w = ((asAddr (tmps.getD p undef)).run P w).andThen fun a w₁ => (loadVar ty a).run P w₁ := by
    simp only [results, h]
    simp [Sem.run_bind, Result.andThen]
  rw [h1, ha]
  exact hv
theorem res_cell2 {fn : Func} {p u : Tmp} {ty : TypeId} (h : fn.results = #[.cell p ty, .tmp u]) {tmps : Array Value} {P : Program} {w : World} {a : Addr} (ha : tmps.getD p undef = .pointer (some a)) {v : Value} (hv : (loadVar ty a).run P w = .ok v w) :
    (results fn tmps).run P w = .ok (.tuple #[v, tmps.getD u undef]) w := by
  rw [results_cell_tmp h, ha]
  show ((loadVar ty a).run P w).andThen _ = _
  rw [hv]
  rfl
theorem res_cell3 {fn : Func} {p u t : Tmp} {ty : TypeId} (h : fn.results = #[.cell p ty, .tmp u, .tmp t]) {tmps : Array Value} {P : Program} {w : World} {a : Addr} (ha : tmps.getD p undef = .pointer (some a)) {v : Value} (hv : (loadVar ty a).run P w = .ok v w) :
    (results fn tmps).run P w = .ok (.tuple #[v, tmps.getD u undef, tmps.getD t undef]) w := by
  have h1 : (results fn tmps).run P w = ((asAddr (tmps.getD p undef)).run P w).andThen fun a w₁ => ((loadVar ty a).run P w₁).andThen fun v w₂ => .ok (.tuple #[v, tmps.getD u undef, tmps.getD t undef]) w₂ := by
    simp only [results, h]
    simp [Sem.run_bind, Result.andThen]
  rw [h1, ha]
  show ((loadVar ty a).run P w).andThen _ = _
  rw [hv]
  rfl
theorem load_en {W : World} {b : Nat} {x : En} (h : ∀ (j : Nat) v, (enC x)[j]? = some v → W.cell? ⟨b, j, none⟩ = some v) : (loadVar 34 ⟨b, 0, none⟩).run Try.prog W = .ok (enV x) W :=
  run_loadVar_mid _ b 0 _ (enC x) _ (fun j v hj => by rw [Nat.zero_add]; exact h j v hj) Try.underlying34 rfl (by kernel_rfl)
theorem load_en1 (w : World) (a b c : Int) : (loadVar 34 ⟨w.heap.size, 0, none⟩).run Try.prog (w.alloc (.cells #[.int .i64 a, .int .i64 b, .int .i64 c] 34)) = .ok (enV (a, b, c)) (w.alloc (.cells #[.int .i64 a, .int .i64 b, .int .i64 c] 34)) :=
  load_en (x := (a, b, c)) fun j v hj => (cell_alloc_new _ _ _ _).trans (by rw [← hj]; simp [enC])
theorem load_en2 (w : World) (a b c : Int) (o : Obj) : (loadVar 34 ⟨w.heap.size, 0, none⟩).run Try.prog ((w.alloc (.cells #[.int .i64 a, .int .i64 b, .int .i64 c] 34)).alloc o) = .ok (enV (a, b, c)) ((w.alloc (.cells #[.int .i64 a, .int .i64 b, .int .i64 c] 34)).alloc o) :=
  load_en (x := (a, b, c)) fun j v hj => (World.cell?_alloc_lt _ _ _ (by simp)).trans ((cell_alloc_new _ _ _ _).trans (by rw [← hj]; simp [enC]))
end Go.Proofs.Ytmocdokikcbjeaa
