import Derived.Test.YtmocdokikcbjeaaFall
namespace Go.Proofs.Ytmocdokikcbjeaa
open Go.RowKit Go.Shelf Go.Maps
attribute [local go_sem] Oper.semAt_some

/- THE FIRST PAGE THAT IS MAPPED, FROM A RUN's END ON. -/
section
variable (l : Tb) (b : Nat) (w : World)
/-- what holds between two pages: none was mapped -/
def fI (pre : List Int) (_ : Nat → Prop) (V : World) : Prop :=
  (∀ j ∈ pre, look l j = none) ∧ Boxed V w.heap.size 93 (.func (.func 46) #[bx b] #[]) ∧
    Boxed V (w.heap.size + 1) 3 (.int .i64 0) ∧ Boxed V (w.heap.size + 1 + 1) 4 (.bool false) ∧ Below w.heap.size w V
/-- what holds where one has been found -/
def fX (a m : Int) (c : Code) (pre' : List Int) (_ : Nat → Prop) (V : World) : Prop :=
  c = .exit 0 ∧ ∃ pre x, pre' = pre ++ [x] ∧ (∀ j ∈ pre, look l j = none) ∧ preF a m pre x V ∧ (look l x).isSome = true ∧
    Boxed V (w.heap.size + 1) 3 (.int .i64 x) ∧ Boxed V (w.heap.size + 1 + 1) 4 (.bool true) ∧ Below w.heap.size w V
end
section
variable {l : Tb} {b : Nat} {w : World}
theorem fI.abid {B : Nat} (hB : w.heap.size + 3 ≤ B) : Abid B (fI l b w) := by
  rintro s O V V' row ⟨h1, h2, h3, h4, h5⟩ hg hr
  have hne : ∀ k, k < B → some k ≠ row := fun k hk e => by have := (hr k e.symm).1; omega
  exact ⟨h1, h2.kept hg (hne _ (by omega)), h3.kept hg (hne _ (by omega)), h4.kept hg (hne _ (by omega)), h5.grown hg h5.size (fun r e => by have := (hr r e).1; omega)⟩
theorem fX.abid {B : Nat} (hB : w.heap.size + 3 ≤ B) (a m : Int) (c : Code) : Abid B (fX l w a m c) := by
  rintro s O V V' row ⟨h1, pre, x, e1, h2, h2', h2'', h3, h4, h5⟩ hg hr
  have hne : ∀ k, k < B → some k ≠ row := fun k hk e => by have := (hr k e.symm).1; omega
  exact ⟨h1, pre, x, e1, h2, h2', h2'', h3.kept hg (hne _ (by omega)), h4.kept hg (hne _ (by omega)), h5.grown hg h5.size (fun r e => by have := (hr r e).1; omega)⟩
end
set_option maxHeartbeats 2000000 in
theorem first_any {b bp bf : Nat} {l : Tb} {w : World} (h : Rep w b l bp bf) (a m : Int) (ga gm : Nat) (h0 : 0 ≤ a) (h1 : 1 ≤ m) (h2 : a + m ≤ 65536) (ha : w.cell? ⟨ga, 0, none⟩ = some (.int .i64 a)) (hm : w.cell? ⟨gm, 0, none⟩ = some (.int .i64 m)) :
    Calls Try.prog 67 #[.func (.func 73) #[] #[bx ga, bx gm], .func (.func 46) #[bx b] #[]] w fun e w' =>
      ∃ k q, e = .returned (.tuple #[.int .i64 k, .bool q]) ∧ LastA l a m k q ∧ Below w.heap.size w w' := by
  have l1 := lt_of_cell ha
  have l2 := lt_of_cell hm
  simp only at l1 l2
  refine calls_marks Try.func67 rfl ?_
  simp only [Try.ntmps67, List.size_toArray, List.length_cons, List.length_nil, Nat.reduceAdd, Nat.reduceSub, Array.replicate_succ, Array.replicate_zero, List.push_toArray, List.append_toArray, List.nil_append, List.cons_append]
  go_wp2_with fail
  go_step3
  go_wp2_with fail
  refine wp_label ?_
  go_wp2_with fail
  obtain ⟨w2, hw2⟩ : ∃ w2, w2 = ((w.alloc (Obj.cells #[Value.func (Fn.func 46) #[bx b] #[]] 93)).alloc (Obj.cells #[Value.int IntKind.i64 0] 3)).alloc (Obj.cells #[Value.bool false] 4) := ⟨_, rfl⟩
  have hs2 : w2.heap.size = w.heap.size + 3 := by rw [hw2]; simp
  have hB2 : Below w.heap.size w w2 := by rw [hw2]; exact below3 _ _ _ _
  have hX1 : Boxed w2 w.heap.size 93 (.func (.func 46) #[bx b] #[]) := by rw [hw2]; exact ((Boxed.new w _ _).alloc _).alloc _
  have hX2 : Boxed w2 (w.heap.size + 1) 3 (.int .i64 0) := by
    have h := Boxed.new (w.alloc (Obj.cells #[Value.func (Fn.func 46) #[bx b] #[]] 93)) 3 (.int .i64 0)
    rw [World.size_alloc] at h
    rw [hw2]
    exact h.alloc _
  have hX3 : Boxed w2 (w.heap.size + 1 + 1) 4 (.bool false) := by
    have h := Boxed.new ((w.alloc (Obj.cells #[Value.func (Fn.func 46) #[bx b] #[]] 93)).alloc (Obj.cells #[Value.int IntKind.i64 0] 3)) 4 (.bool false)
    rw [World.size_alloc, World.size_alloc] at h
    rw [hw2]
    exact h
  have hit := fall1_it a m ga gm w2 h0 h1 h2 ((hB2.cell (p := ⟨ga, 0, none⟩) l1).trans ha) ((hB2.cell (p := ⟨gm, 0, none⟩) l2).trans hm)
  have HM := Lib.hid (fun (V : World) (hV : Below w.heap.size w V) (z : Int) (hz : I64 z) => mapped_any b bp l z V hz (h.below hV).c0 (h.below hV).pages)
  rw [← hw2]
  clear hw2
  refine wpIn_wide.1 (wpIn_range_it (gf := 73) (lb := #[bx ga, bx gm]) rfl (enters_of Try.func73 (by kernel_rfl) rfl) hit (fun k hk => by rcases hk with rfl | rfl <;> omega) (fun _ => rfl) (fun _ _ _ _ _ h => h)
    (fI l b w) (fX l w a m) (fI.abid (by omega)) (fX.abid (by omega) a m) ⟨fun j h => by simp at h, hX1, hX2, hX3, hB2⟩
    (fun x => { tmps := #[.func (.func 73) #[] #[bx ga, bx gm], .func (.func 46) #[bx b] #[], undef, .pointer (some ⟨w.heap.size, 0, none⟩), .int .i64 0, .bool false, .pointer (some ⟨w.heap.size + 1, 0, none⟩), .pointer (some ⟨w.heap.size + 1 + 1, 0, none⟩), .int .i64 x, .func (.func 73) #[] #[bx ga, bx gm], .int .i64 x, undef, undef, undef, undef, undef, undef, undef], defers := [] }) ?assign ?body ?done ?stop)
  case assign =>
    intro l' x W' K hK
    simp only [encI]
    gi_wp2
    exact hK
  case body =>
    rintro l' pre x O V hVs hO ⟨hp, hx1, hx2, hx3, hkl⟩ hpp _
    have hx64 : I64 x := by have := hpp.1; have := hpp.2.1; unfold I64; omega
    have hg := Lib.hid (HM.out V hkl x hx64)
    have e1 := hx1.cell
    have Hp := Lib.hid hp
    have HPP := Lib.hid hpp
    obtain ⟨cc, hcc⟩ : ∃ cc, cc = (look l x).isSome := ⟨_, rfl⟩
    rw [← hcc] at hg
    have HC := Lib.hid hcc
    clear hp hX1 hX2 hX3 hit hcc hpp hx64
    have hfr : ∀ W' : World, Below V.heap.size V W' → ∀ k, k < V.heap.size → W'.heap[k]? = V.heap[k]? := fun W' h k h1 => h.block k h1
    cases cc
    · gi_wp2_with fail
      refine ⟨trivial, rfl, CallsIn.inRound l' ((callsIn_wide.2 hg.out).mono ?_)⟩
      rintro e w1 ⟨rfl, hb1⟩
      have hz3 : Boxed w1 (w.heap.size + 1 + 1) 4 (.bool false) := (hfr _ hb1 _ (by omega)).trans hx3
      have k0 := hz3.cell
      have k1 := hz3.frozen
      obtain ⟨W', hW'⟩ : ∃ W', W' = w1.setCell ⟨w.heap.size + 1 + 1, 0, none⟩ (.bool false) := ⟨_, rfl⟩
      have hoth : ∀ k, k ≠ w.heap.size + 1 + 1 → W'.heap[k]? = w1.heap[k]? := fun k h => by rw [hW', heap_set h]
      have hfin : Hid (Keeps (fun k => k = ga ∨ k = gm) w2.heap.size O (fun _ => False) V W' ∧ fI l b w (pre ++ [x]) (nextO O (fun _ => False) V W') W') := Lib.hid (by
        have hws : W'.heap.size = w1.heap.size := by rw [hW']; simp [World.setCell]
        have hks := hb1.size
        refine ⟨⟨by omega, fun k hk hp => ?_⟩, fun j hj => ?_, ?_, ?_, ?_, ?_⟩
        · refine (hoth k ?_).trans (hfr _ hb1 k hk)
          rcases hp with (rfl | rfl) | ⟨h, _⟩ <;> omega
        · rcases List.mem_append.1 hj with hj | hj
          · exact Hp.out j hj
          · rw [List.mem_singleton] at hj
            rw [hj]
            cases hl : look l x with
            | none => rfl
            | some e => have := HC.out; rw [hl] at this; cases this
        · exact (hoth _ (by omega)).trans ((hfr _ hb1 _ (by omega)).trans hx1)
        · exact (hoth _ (by omega)).trans ((hfr _ hb1 _ (by omega)).trans hx2)
        · rw [hW']
          exact hz3.set _
        · rw [hW']
          exact (below0 hkl hb1).setCell (show w.heap.size ≤ w.heap.size + 1 + 1 by omega) _)
      rw [hW'] at hfin
      clear hW' hoth hfr hb1 hz3
      gi_wp2
      exact hfin.out
    · gi_wp2_with fail
      refine ⟨trivial, rfl, CallsIn.inRound l' ((callsIn_wide.2 hg.out).mono ?_)⟩
      rintro e w1 ⟨rfl, hb1⟩
      have hz2 : Boxed w1 (w.heap.size + 1) 3 (.int .i64 0) := (hfr _ hb1 _ (by omega)).trans hx2
      have hz3 : Boxed w1 (w.heap.size + 1 + 1) 4 (.bool false) := (hfr _ hb1 _ (by omega)).trans hx3
      have k0 := hz3.cell
      have k1 := hz3.frozen
      have hy2 : Boxed (w1.setCell ⟨w.heap.size + 1 + 1, 0, none⟩ (.bool true)) (w.heap.size + 1) 3 (.int .i64 0) := (heap_set (by omega)).trans hz2
      have i0 := hy2.cell
      have i1 := hy2.frozen
      obtain ⟨W', hW'⟩ : ∃ W', W' = (w1.setCell ⟨w.heap.size + 1 + 1, 0, none⟩ (.bool true)).setCell ⟨w.heap.size + 1, 0, none⟩ (.int .i64 x) := ⟨_, rfl⟩
      have hoth : ∀ k, k ≠ w.heap.size + 1 → k ≠ w.heap.size + 1 + 1 → W'.heap[k]? = w1.heap[k]? := fun k h1 h2 => by rw [hW', heap_set h1, heap_set h2]
      have hfin : Hid (Keeps (fun k => k = ga ∨ k = gm) w2.heap.size O (fun _ => False) V W' ∧ fX l w a m (.exit 0) (pre ++ [x]) (nextO O (fun _ => False) V W') W') := Lib.hid (by
        have hws : W'.heap.size = w1.heap.size := by rw [hW']; simp [World.setCell]
        have hks := hb1.size
        refine ⟨⟨by omega, fun k hk hp => ?_⟩, rfl, pre, x, rfl, Hp.out, HPP.out, HC.out.symm, ?_, ?_, ?_⟩
        · refine (hoth k ?_ ?_).trans (hfr _ hb1 k hk)
          · rcases hp with (rfl | rfl) | ⟨h, _⟩ <;> omega
          · rcases hp with (rfl | rfl) | ⟨h, _⟩ <;> omega
        · rw [hW']
          exact hy2.set _
        · rw [hW']
          exact (heap_set (by omega)).trans (Boxed.set _ (t := 4) (v := .bool false) hz3)
        · rw [hW']
          exact ((below0 hkl hb1).setCell (show w.heap.size ≤ w.heap.size + 1 + 1 by omega) _).setCell (show w.heap.size ≤ w.heap.size + 1 by omega) _)
      rw [hW'] at hfin
      clear hW' hoth hfr hb1 hz3 hz2 hy2
      gi_wp2
      exact hfin.out
  case done =>
    rintro xs O V hall ⟨hp, hx1, hx2, hx3, hkl⟩ hD
    have hlast : LastA l a m 0 false := ⟨fun h => (by cases h), fun _ => rfl, fun j g1 g2 _ => hp j (hall j g1 g2)⟩
    have HF := Lib.hid (And.intro hlast (fun nq => (below_drewN hkl nq).grown (putObj_grown (V.drewN nq) w2.heap.size (.deferred none)) hkl.size (fun r e => by cases e; omega)))
    have j1 := hx2.cell
    have k1 := hx3.cell
    clear hit hX1 hX2 hX3 hp hlast hall
    go_wp2
    go_quiet (fail)
    go_wp2
    refine ⟨by simp, .inl ⟨_, _, rfl, run_takeDeferred hD, ?_⟩⟩
    exact ⟨_, results_tmp2 rfl _ _ _, _, _, rfl, HF.out.1, HF.out.2 _⟩
  case stop =>
    rintro c' pre' O V hall ⟨rfl, pre, k, rfl, hp, hpp, hk, hx2, hx3, hkl⟩ hD
    have hlast : LastA l a m k true := ⟨fun _ => ⟨hpp.1, hpp.2.1, hk⟩, fun h => (by cases h), fun j g1 g2 g3 => hp j (hpp.2.2 j (g3 rfl) g2)⟩
    have HF := Lib.hid (And.intro hlast (fun nq => (below_drewN hkl nq).grown (putObj_grown (V.drewN nq) w2.heap.size (.deferred none)) hkl.size (fun r e => by cases e; omega)))
    have j1 := hx2.cell
    have k1 := hx3.cell
    clear hit hX1 hX2 hX3 hp hlast hall hpp hk
    refine wpIn_wide.2 ?_
    go_wp2
    go_quiet (fail)
    go_wp2
    refine ⟨by simp, .inl ⟨_, _, rfl, run_takeDeferred hD, ?_⟩⟩
    exact ⟨_, results_tmp2 rfl _ _ _, _, _, rfl, HF.out.1, HF.out.2 _⟩
end Go.Proofs.Ytmocdokikcbjeaa
