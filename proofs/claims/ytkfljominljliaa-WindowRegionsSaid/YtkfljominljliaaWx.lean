import Derived.Test.YtkfljominljliaaWw
namespace Go.Proofs.Ytkfljominljliaa
open Go.RowKit Go.Shelf
attribute [local go_sem] Oper.semAt_some

section
variable (l0 : Nat) (J Jx : List Nat → (Nat → Prop) → World → Prop) (W : World)
/-- what holds between two rounds of the inner loop -/
def aI (pre : List Nat) (O' : Nat → Prop) (V : World) : Prop :=
  ∃ O, J pre O V ∧ (∀ k, O k → O' k) ∧ (∀ k, O k → W.heap.size + 4 ≤ k) ∧ V.cell? ⟨W.heap.size, 0, none⟩ = some (.func (.yield l0) #[] #[])
/-- what holds where a round has said no more -/
def aX (c' : Code) (pre' : List Nat) (O' : Nat → Prop) (V : World) : Prop :=
  c' = .exit 0 ∧ ∃ O, (∀ k, O k → O' k) ∧ (∀ k, O k → W.heap.size + 4 ≤ k) ∧ Jx pre' O V
end

set_option maxHeartbeats 2000000 in
theorem regs_it (f s p r : Nat) (hf : f < 1000000) (hs : s < 1000000) (hr : r < 1000) (bo : Nat) (w0 : World) (ht : Row w0 bo 58 (rowC f s p r)) :
    It Try.prog 45 #[.pointer (some ⟨bo, 0, none⟩)] (encW f s) (fun _ _ => False) (preW r) (fun k => k = bo) (allW r) (someW r) w0 := by
  intro l0 J Jx W hpW hsW hJ hJx hY h0
  have htW : Row W bo 58 (rowC f s p r) := ht.same (hpW _ rfl)
  have hbo := htW.lt
  have htA := htW.below (below1 W (.cells #[.func (.yield l0) #[] #[]] 33))
  have c0 : (W.alloc (.cells #[.func (.yield l0) #[] #[]] 33)).cell? ⟨bo, 0, none⟩ = some (.int .i64 (f : Int)) := htA.cell 0
  have c1 : (W.alloc (.cells #[.func (.yield l0) #[] #[]] 33)).cell? ⟨bo, 1, none⟩ = some (.int .i64 (s : Int)) := htA.cell 1
  have c2 : (W.alloc (.cells #[.func (.yield l0) #[] #[]] 33)).cell? ⟨bo, 2, none⟩ = some (.int .i64 (p : Int)) := htA.cell 2
  have c3 : (W.alloc (.cells #[.func (.yield l0) #[] #[]] 33)).cell? ⟨bo, 3, none⟩ = some (.int .i64 (r : Int)) := htA.cell 3
  clear htA
  refine calls_marks Try.func45 rfl ?_
  simp only [Try.ntmps45, List.size_toArray, List.length_cons, List.length_nil, Nat.reduceAdd, Nat.reduceSub, Array.replicate_succ, Array.replicate_zero, List.push_toArray, List.append_toArray, List.nil_append, List.cons_append]
  go_wp2_with fail
  refine wp_scope_jump 0 fun R hR hJm => ?_
  go_wp2_with fail
  go_step3
  go_wp2_with fail
  refine (runs_any _ _ _ _ _).mono ?_
  rintro e w2 ⟨rfl, hw2⟩
  have hsz2 : w2.heap.size = W.heap.size + 2 := by rw [hw2]; simp
  have hb2 : Below W.heap.size W w2 := by rw [hw2]; exact below2 _ _ _
  have hcy : w2.cell? ⟨W.heap.size, 0, none⟩ = some (.func (.yield l0) #[] #[]) := by
    rw [hw2, World.cell?_alloc_lt _ _ _ (by simp)]
    exact cell_alloc_new _ _ _ _
  have hcs2 : Row w2 (W.heap.size + 1) 58 (rowC f s p r) := by
    rw [hw2]
    exact Row.new_at _ 58 (rowC f s p r) (by simp)
  have hj2 : J [] (fun _ => False) w2 := hJ.below h0 hb2
  have hit := runs_it f s p r hf hs hr (W.heap.size + 1) w2 hcs2
  clear hw2 c0 c1 c2 c3
  go_wp2_with fail
  refine wpIn_wide.1 (wpIn_range_it (gf := 58) (lb := #[.pointer (some ⟨W.heap.size + 1, 0, none⟩)]) rfl (enters_of Try.func58 (by kernel_rfl) rfl) hit (fun k hk => by have : k = W.heap.size + 1 := hk; omega) (fun _ => rfl) (fun _ _ _ _ _ h => h)
    (aI l0 J W) (aX Jx W) ?hI ?hIx ?h0
    (fun x => { tmps := #[.func (.yield l0) #[] #[], .pointer (some ⟨bo, 0, none⟩), .pointer (some ⟨W.heap.size, 0, none⟩), .int .i64 (x : Int), .int .i64 ((f + s * x : Nat) : Int), rw4 f s p r, .func (.func 58) #[] #[.pointer (some ⟨W.heap.size + 1, 0, none⟩)], .int .i64 (x : Int), .int .i64 ((f + s * x : Nat) : Int), undef, undef, undef, undef, undef], defers := [] }) ?assign ?body ?done ?stop)
  case assign =>
    intro l' x W' K hK
    simp only [encW]
    gi_wp2
    exact hK
  case h0 => exact ⟨fun _ => False, hj2, fun _ h => h.elim, fun _ h => h.elim, hcy⟩
  case hI =>
    rintro s' O' V V' row ⟨O, h2, h3, h4, h6⟩ hg hr
    have hne : ∀ k, k < w2.heap.size → some k ≠ row := fun k hk e => by have := (hr k e.symm).1; omega
    exact ⟨O, hJ _ _ _ _ row h2 hg (fun r e => ⟨by have := (hr r e).1; omega, fun h => (hr r e).2 (h3 r h)⟩), h3, h4, (World.cell?_of_block (hg.block _ (lt_of_cell h6) (hne W.heap.size (by omega)))).trans h6⟩
  case hIx =>
    rintro c' s' O' V V' row ⟨e0, O, h3, h4, hjx⟩ hg hr
    have hr' : ∀ r, row = some r → W.heap.size ≤ r ∧ ¬ O r := fun r e => ⟨by have := (hr r e).1; omega, fun h => (hr r e).2 (h3 r h)⟩
    exact ⟨e0, O, h3, h4, hJx _ _ _ _ row hjx hg hr'⟩
  case body =>
    rintro l' pre x O' V hVs hO' ⟨O, hj, hOO, hO5, hcy⟩ hpk _
    obtain ⟨fn, tmps, assign, body, hy, hR⟩ := hY pre x O V (by omega) (fun k h => by have := hO5 k h; have := hO' k (hOO k h); omega) hj hpk (fun b (h : False) => h.elim)
    have Hs2 := Lib.hid hsz2
    simp only [encW] at hy
    obtain ⟨y, hyy⟩ : ∃ y, y = f + s * x := ⟨_, rfl⟩
    rw [← hyy] at hy ⊢
    clear hj2 hit hsz2 hcs2 hpk hyy
    gi_wp2
    refine ⟨rfl, ?_⟩
    refine hR.mono ?_
    have keeps : ∀ W', Keeps (fun k => k = bo) W.heap.size O (fun _ => False) V W' → Keeps (fun k => k = W.heap.size + 1) w2.heap.size O' (fun _ => False) V W' := fun W' hk => by
      have := Hs2.out
      refine ⟨hk.size, fun k hkl hp => ?_⟩
      rcases hp with rfl | ⟨h, h2, _⟩
      · exact hk.same _ hkl (.inr ⟨by omega, fun ho => by have := hO5 _ ho; omega, fun h => h⟩)
      · exact hk.same k hkl (.inr ⟨by omega, fun ho => h2 (hOO k ho), fun h => h⟩)
    have sub : ∀ W', V.heap.size ≤ W'.heap.size → (∀ k, nextO O (fun _ => False) V W' k → nextO O' (fun _ => False) V W' k) ∧ ∀ k, nextO O (fun _ => False) V W' k → W.heap.size + 4 ≤ k := fun W' hsW' => by
      have := Hs2.out
      refine ⟨fun k h => ?_, fun k h => ?_⟩
      · rcases h with h | h | h
        · exact .inl (hOO k h)
        · exact h.elim
        · exact .inr (.inr h)
      · rcases h with h | h | h
        · exact hO5 k h
        · exact h.elim
        · omega
    have Hkeeps := Lib.hid keeps
    have Hsub := Lib.hid sub
    clear keeps sub
    rintro e W' ⟨hk, (⟨rfl, hj'⟩ | ⟨rfl, hjx⟩)⟩
    · obtain ⟨s1, s2⟩ := Hsub.out W' hk.size
      have hfin : Hid (Keeps (fun k => k = W.heap.size + 1) w2.heap.size O' (fun _ => False) V W' ∧ aI l0 J W (pre ++ [x]) (nextO O' (fun _ => False) V W') W') :=
        Lib.hid ⟨Hkeeps.out W' hk, _, hj', s1, s2, (World.cell?_of_block (hk.same W.heap.size (lt_of_cell hcy) (.inr ⟨Nat.le_refl _, fun h => by have := hO5 _ h; omega, fun h => h⟩))).trans hcy⟩
      clear s1 s2 hj' hk
      gi_wp2
      exact hfin.out
    · obtain ⟨s1, s2⟩ := Hsub.out W' hk.size
      have hfin : Hid (Keeps (fun k => k = W.heap.size + 1) w2.heap.size O' (fun _ => False) V W' ∧ aX Jx W (.exit 0) (pre ++ [x]) (nextO O' (fun _ => False) V W') W') :=
        Lib.hid ⟨Hkeeps.out W' hk, rfl, _, s1, s2, hjx⟩
      clear s1 s2 hjx hk
      gi_wp2
      exact hfin.out
  case done =>
    rintro xs O' V hall ⟨O, hj, hOO, hO5, _⟩ hD
    have Hall := Lib.hid hall
    have hjD : J xs O (V.putObj w2.heap.size (.deferred none)) := hJ _ _ _ _ _ hj (putObj_grown V _ _) (fun r e => by cases e; exact ⟨by omega, fun h => by have := hO5 _ h; omega⟩)
    clear hall
    go_wp2
    refine hR.out _ _ _ _ (by simp) ?_
    refine ⟨by simp, .inl ⟨_, _, rfl, run_takeDeferred hD, ?_⟩⟩
    exact ⟨_, results_none rfl _ _ _, itEnd.all Hall.out hjD⟩
  case stop =>
    rintro c' pre' O' V hsp ⟨rfl, O, hOO, hO5, hjx⟩ hD
    have hOD : ∀ r, some w2.heap.size = some r → W.heap.size ≤ r ∧ ¬ O r := fun r e => by cases e; exact ⟨by omega, fun h => by have := hO5 _ h; omega⟩
    have hend : Hid (itEnd (allW r) (someW r) J Jx (.returned (.tuple #[])) (V.putObj w2.heap.size (.deferred none))) := Lib.hid (itEnd.part hsp (hJx _ _ _ _ _ hjx (putObj_grown V _ _) hOD))
    clear hsp hjx
    refine wpIn_wide.2 ?_
    go_wp2
    refine hR.out _ _ _ _ (by simp) ?_
    refine ⟨by simp, .inl ⟨_, _, rfl, run_takeDeferred hD, ?_⟩⟩
    exact ⟨_, results_none rfl _ _ _, hend.out⟩

/-- Regions' answer: an iterator over a row that stands -/
def RegP (f s p r : Nat) (w : World) (e : Ending) (w' : World) : Prop :=
  ∃ bo, e = .returned (.func (.func 45) #[] #[.pointer (some ⟨bo, 0, none⟩)]) ∧ w.heap.size ≤ bo ∧ Row w' bo 58 (rowC f s p r) ∧ Below w.heap.size w w'
theorem regs_no (n : Int) (w : World) (h : isB n 4 = false) : Calls Try.prog 35 #[.int .i64 n] w (RegP 0 0 0 0 w) := by
  have ht := Lib.hid (fun g w => toldR_no n g #[] w h)
  clear h
  go_enter Try.func35, Try.ntmps35
  go_wp2_with fail
  refine (ht.out _ _).mono ?_
  rintro e w1 ⟨rfl, hb1⟩
  have hfin := Lib.hid (show RegP 0 0 0 0 w (.returned (.func (.func 45) #[] #[.pointer (some ⟨w1.heap.size, 0, none⟩)])) (w1.alloc (.cells #[.int .i64 0, .int .i64 0, .int .i64 0, .int .i64 0] 58)) from
    ⟨w1.heap.size, rfl, hb1.size, Row.new w1 58 (rowC 0 0 0 0), hb1.alloc hb1.size _⟩)
  clear hb1
  go_wp2
  go_ret
  exact hfin.out
theorem regs_yes (k : Nat) (w : World) (h : k < 4) : Calls Try.prog 35 #[.int .i64 (k : Int)] w (RegP (4096 * k + 4097) 17 16 8 w) := by
  have ht := Lib.hid (toldR_yes k 29 #[] ((4096 * k + 4097 : Nat) : Int) w h (enters_of Try.func29 (by kernel_rfl) rfl) (fun W _ => tregions_any k W h))
  obtain ⟨f, hf⟩ : ∃ f, f = 4096 * k + 4097 := ⟨_, rfl⟩
  rw [← hf] at ht ⊢
  clear h hf
  go_enter Try.func35, Try.ntmps35
  go_wp2_with fail
  refine (ht.out).mono ?_
  rintro e w1 ⟨rfl, hb1⟩
  have hfin := Lib.hid (show RegP f 17 16 8 w (.returned (.func (.func 45) #[] #[.pointer (some ⟨w1.heap.size, 0, none⟩)])) (w1.alloc (.cells #[.int .i64 (f : Int), .int .i64 17, .int .i64 16, .int .i64 8] 58)) from
    ⟨w1.heap.size, rfl, hb1.size, Row.new w1 58 (rowC f 17 16 8), hb1.alloc hb1.size _⟩)
  clear hb1
  go_wp2
  go_ret
  exact hfin.out
end Go.Proofs.Ytkfljominljliaa
