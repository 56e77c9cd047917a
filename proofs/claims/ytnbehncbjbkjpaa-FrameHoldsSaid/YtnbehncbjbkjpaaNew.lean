import Derived.Test.YtnbehncbjbkjpaaAsked
namespace Go.Proofs.Ytnbehncbjbkjpaa
open Go.RowKit Go.Shelf Go.Maps Go.Sort
attribute [local go_sem] Oper.semAt_some

/- NEW. -/

theorem below_row {w w' : World} {b : Nat} {t : TypeId} {l : List Value} (h : Row w b t l) (hb : Below w.heap.size w w') (o : Nat) : w'.cell? ⟨b, o, none⟩ = l[o]? := (h.below hb).cell o

theorem new1_any (g : Nat) (n : Int) (w : World) (hc : w.cell? ⟨g, 0, none⟩ = some (.int .i64 n)) : Calls Try.prog 18 #[.pointer (some ⟨g, 0, none⟩)] w fun e w' => e = .returned (.bool (decide (0 ≤ n) && decide (n ≤ 16384))) ∧ Below w.heap.size w w' := by
  have hb := lt_of_cell hc
  go_enter Try.func18, Try.ntmps18
  by_cases h0 : 0 ≤ n
  · have e0 : decide (0 ≤ n) = true := decide_eq_true h0
    obtain ⟨q, hq⟩ : ∃ q, q = decide (n ≤ 16384) := ⟨_, rfl⟩
    rw [← hq]
    go_wp2
    go_ret
    exact ⟨by simp, Below.refl _ _⟩
  · have e0 : decide (0 ≤ n) = false := decide_eq_false h0
    go_wp2
    go_ret
    exact ⟨by simp, Below.refl _ _⟩

def newQ (g : Nat) (a : Bool) : Ask := ⟨18, #[], #[.pointer (some ⟨g, 0, none⟩)], 2, a⟩
theorem new_asked (n : Int) (q : Bool) (w : World) (hq : (decide (0 ≤ n) && decide (n ≤ 16384)) = q) :
    Calls Try.prog 17 #[.slice (some ⟨w.heap.size + 1, 0, none⟩) 1 1] ((w.alloc (.cells #[.int .i64 n] 3)).alloc (.cells #[.func (.func 18) #[] #[.pointer (some ⟨w.heap.size, 0, none⟩)], .int .i64 2] 53)) fun e w' =>
      e = .returned (.int .i64 (if q then 0 else 2)) ∧ Below w.heap.size w w' ∧ w'.cell? ⟨w.heap.size, 0, none⟩ = some (.int .i64 n) := by
  obtain ⟨W, hW⟩ : ∃ W, W = ((w.alloc (.cells #[.int .i64 n] 3)).alloc (.cells #[.func (.func 18) #[] #[.pointer (some ⟨w.heap.size, 0, none⟩)], .int .i64 2] 53)) := ⟨_, rfl⟩
  have hb : Below w.heap.size w W := by rw [hW]; exact below2 _ _ _
  have hr : Row W (w.heap.size + 1) 53 (askCells [newQ w.heap.size q]) := by rw [hW]; exact Row.new_at _ _ _ (by simp)
  have hc : W.cell? ⟨w.heap.size, 0, none⟩ = some (.int .i64 n) := by rw [hW]; exact (World.cell?_alloc_lt _ _ _ (by simp)).trans (cell_alloc_new _ _ _ _)
  have hlt := lt_of_cell hc
  rw [← hW]
  refine (asked_any [newQ w.heap.size q] (w.heap.size + 1) 1 1 W rfl (by omega) hr ?_).mono ?_
  · intro k hk _
    obtain rfl : k = 0 := by simp at hk; omega
    refine ⟨enters_of Try.func18 (by kernel_rfl) rfl, fun V hV => ?_⟩
    have := new1_any w.heap.size n V ((hV.cell (p := ⟨w.heap.size, 0, none⟩) hlt).trans hc)
    rw [hq] at this
    exact this
  · rintro e w' ⟨rfl, h2⟩
    refine ⟨?_, below0 hb (h2.mono (Nat.le_refl _)), (h2.cell (p := ⟨w.heap.size, 0, none⟩) hlt).trans hc⟩
    cases q <;> rfl

set_option maxHeartbeats 1000000 in
theorem new_no (n : Int) (w : World) (h : ¬ (0 ≤ n ∧ n ≤ 16384)) : Calls Try.prog 6 #[.int .i64 n] w fun e w' => e = .returned (.tuple #[.pointer none, .int .i64 2]) ∧ Below w.heap.size w w' := by
  have h1 := Lib.hid (new_asked n false w (by
    rcases Classical.em (0 ≤ n) with h0 | h0
    · rw [decide_eq_true h0, decide_eq_false (fun h2 => h ⟨h0, h2⟩)]; rfl
    · rw [decide_eq_false h0]; rfl))
  clear h
  go_enter Try.func6, Try.ntmps6
  go_wp2_with fail
  refine wp_scope_jump 1 fun R hR hJm => ?_
  go_wp2_with fail
  refine (h1.out).mono ?_
  rintro e w1 ⟨rfl, hb, _⟩
  go_wp2_with fail
  refine wp_goto (hJm.out _ _ _ _ _ rfl ?_)
  go_wp2_with fail
  refine hR.out _ _ _ _ (by simp) ?_
  go_ret2
  exact ⟨rfl, hb⟩

theorem newP_rep (n : Nat) (w1 : World) (hn : n ≤ 16384) :
    Rep ((w1.alloc (.map #[] 0)).alloc (.cells (poolL n w1.heap.size (List.replicate 64 0) (.slice none 0 0) (.slice none 0 0)).toArray 60)) (w1.heap.size + 1) (newP n) w1.heap.size (.slice none 0 0) (.slice none 0 0) [] none none := by
  have hown := World.ownsMap_made w1 Try.prog 3 (plainElem (H := Unit) Try.prog 3)
  have hd : mapD (owns (newP n).fr) = .map [] := by
    have h1 : ∀ m s, entsF s (owns (List.replicate m none)) = [] := by
      intro m
      induction m with
      | zero => intro s; rfl
      | succ m ih => intro s; rw [List.replicate_succ]; exact ih (s + 1)
    unfold mapD newP
    rw [h1]
  have hf : ∀ i, frameO (newP n) i = none := fun i => by
    unfold frameO newP
    rw [List.getElem?_replicate]
    split <;> rfl
  refine ⟨newP_ok hn, ?_, ?_, ?_, ?_, Nat.zero_le _, fun i _ => hf i, by simp, ?_⟩
  · have := Row.new_at (w1.alloc (.map #[] 0)) 60 (poolL n w1.heap.size (List.replicate 64 0) (.slice none 0 0) (.slice none 0 0)) (g := w1.heap.size + 1) (by simp)
    simpa [newP] using this
  · rw [hd]
    exact owns_same (hown.mono (Nat.zero_le _)) (Below.heap_alloc _ _ _ (by simp))
  · exact Own.nil _ _ _
  · exact Own.nil _ _ _
  · intro i o bs h
    have := hf i
    unfold frameO at this
    rw [h] at this
    cases this

theorem new_cells (n g : Nat) : Array.foldl (fun cs x => cs.setIfInBounds x.snd x.fst) Try.zeroCells60 ((Try.zeroCells56.setIfInBounds 0 (Value.int IntKind.i64 (n : Int))).setIfInBounds 1 (Value.map (some g))).zipIdx 0 66 =
    (poolL n g (List.replicate 64 0) (.slice none 0 0) (.slice none 0 0)).toArray := by kernel_rfl

set_option maxRecDepth 100000 in
set_option maxHeartbeats 1000000 in
theorem new_yes (n : Nat) (w : World) (hn : n ≤ 16384) : Calls Try.prog 6 #[.int .i64 (n : Int)] w fun e w' => ∃ b F, e = .returned (.tuple #[.pointer (some ⟨b, 0, none⟩), .int .i64 0]) ∧ Has w' b (newP n) F ∧ (∀ k, F k → w.heap.size ≤ k) ∧ Below w.heap.size w w' := by
  have hmm := @run_makeMap Try.prog
  have h1 := Lib.hid (new_asked n true w (by rw [decide_eq_true (by omega), decide_eq_true (by omega)]; rfl))
  have hfin := Lib.hid (fun (w1 : World) (hb : Below w.heap.size w w1) => (show ∃ b F, Ending.returned (.tuple #[.pointer (some ⟨w1.heap.size + 1, 0, none⟩), .int .i64 0]) = .returned (.tuple #[.pointer (some ⟨b, 0, none⟩), .int .i64 0]) ∧
      Has ((w1.alloc (.map #[] 0)).alloc (.cells (poolL n w1.heap.size (List.replicate 64 0) (.slice none 0 0) (.slice none 0 0)).toArray 60)) b (newP n) F ∧ (∀ k, F k → w.heap.size ≤ k) ∧
      Below w.heap.size w ((w1.alloc (.map #[] 0)).alloc (.cells (poolL n w1.heap.size (List.replicate 64 0) (.slice none 0 0) (.slice none 0 0)).toArray 60)) from by
    have hs := hb.size
    refine ⟨_, _, rfl, ⟨_, _, _, _, _, _, newP_rep n w1 hn, rfl⟩, ?_, (hb.alloc hs _).alloc (by simp; omega) _⟩
    rintro k (rfl | rfl | h | h)
    · omega
    · exact hs
    · cases h
    · cases h))
  clear hn
  go_enter Try.func6, Try.ntmps6
  go_wp2_with fail
  refine wp_scope_jump 1 fun R hR hJm => ?_
  go_wp2_with fail
  refine (h1.out).mono ?_
  rintro e w1 ⟨rfl, hb, hc⟩
  have hfin1 := Lib.hid (hfin.out w1 hb)
  obtain ⟨C2, hC2⟩ : ∃ C2, C2 = (poolL n w1.heap.size (List.replicate 64 0) (.slice none 0 0) (.slice none 0 0)).toArray := ⟨_, rfl⟩
  have hnc := Lib.hid (new_cells n w1.heap.size)
  rw [← hC2] at hnc hfin1
  clear hfin hC2
  go_wp2_with fail
  rw [hnc.out]
  refine hR.out _ _ _ _ (by simp) ?_
  go_ret2
  exact hfin1.out
end Go.Proofs.Ytnbehncbjbkjpaa
