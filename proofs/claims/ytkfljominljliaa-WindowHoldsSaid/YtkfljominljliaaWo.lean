import Derived.Test.YtkfljominljliaaWn
namespace Go.Proofs.Ytkfljominljliaa
open Go.RowKit Go.Shelf
attribute [local go_sem] Oper.semAt_some

/-- the first sort that fits, if there is one -/
def srO (hold : Nat → Bool) : Option Nat := (List.range 4).find? hold
def srOV : Option Nat → Value
  | some k => .agg #[Value.func (.func (sF k)) #[] #[], Value.func (.func (sG k)) #[] #[]]
  | none => .agg #[.nilFunc, .nilFunc]
theorem srO_some {hold : Nat → Bool} {pre : List Nat} {k : Nat} (hk : pre ++ [k] = List.range (pre.length + 1)) (h8 : pre.length < 4) (hp : ∀ y ∈ pre, hold y = false) (h : hold k = true) : srO hold = some k := by
  have hr : List.range 4 = (pre ++ [k]) ++ (List.range 4).drop (pre.length + 1) := by
    rw [hk]
    have h2 : (List.range 4).take (pre.length + 1) = List.range (pre.length + 1) := by rw [List.take_range]; congr 1; omega
    rw [← h2, List.take_append_drop]
  unfold srO
  rw [hr, List.append_assoc, List.find?_append, List.find?_eq_none.2 (fun x hx => by rw [hp x hx]; decide)]
  simp [h]
theorem srO_none {hold : Nat → Bool} {xs : List Nat} (hx : xs = List.range 4) (hp : ∀ y ∈ xs, hold y = false) : srO hold = none := by
  unfold srO
  rw [← hx, List.find?_eq_none]
  intro x hx
  rw [hp x hx]
  decide

section
variable (hold : Nat → Bool) (bl : Nat) (w : World)
abbrev fitV (bl : Nat) : Value := .func (.func 43) #[] #[.pointer (some ⟨bl, 0, none⟩)]
/-- what holds between two sorts -/
def fI (pre : List Nat) (_ : Nat → Prop) (V : World) : Prop :=
  (∀ y ∈ pre, hold y = false) ∧ Boxed V w.heap.size 87 (fitV bl) ∧ Row V (w.heap.size + 1) 79 [.nilFunc, .nilFunc] ∧
    Row V (w.heap.size + 1 + 1) 79 [.nilFunc, .nilFunc] ∧ Boxed V (w.heap.size + 1 + 1 + 1) 4 (.bool false) ∧ Below w.heap.size w V
/-- what holds where one has been found -/
def fX (c : Code) (pre' : List Nat) (_ : Nat → Prop) (V : World) : Prop :=
  c = .exit 0 ∧ ∃ pre k, pre' = pre ++ [k] ∧ (∀ y ∈ pre, hold y = false) ∧ hold k = true ∧ Row V (w.heap.size + 1) 79 [.nilFunc, .nilFunc] ∧
    Row V (w.heap.size + 1 + 1) 79 [Value.func (.func (sF k)) #[] #[], Value.func (.func (sG k)) #[] #[]] ∧ Boxed V (w.heap.size + 1 + 1 + 1) 4 (.bool true) ∧ Below w.heap.size w V
end
theorem fI.abid {hold : Nat → Bool} {bl B : Nat} {w : World} (hB : w.heap.size + 4 ≤ B) : Abid B (fI hold bl w) := by
  rintro s O V V' row ⟨h1, h2, h6, h3, h4, h5⟩ hg hr
  have hne : ∀ k, k < B → some k ≠ row := fun k hk e => by have := (hr k e.symm).1; omega
  exact ⟨h1, h2.kept hg (hne _ (by omega)), h6.same (hg.block _ h6.lt (hne _ (by omega))), h3.same (hg.block _ h3.lt (hne _ (by omega))), h4.kept hg (hne _ (by omega)), h5.grown hg h5.size (fun r e => by have := (hr r e).1; omega)⟩
theorem fX.abid {hold : Nat → Bool} {B : Nat} {w : World} (hB : w.heap.size + 4 ≤ B) (c : Code) : Abid B (fX hold w c) := by
  rintro s O V V' row ⟨h1, pre, k, e1, h2, h2', h6, h3, h4, h5⟩ hg hr
  have hne : ∀ k, k < B → some k ≠ row := fun k hk e => by have := (hr k e.symm).1; omega
  exact ⟨h1, pre, k, e1, h2, h2', h6.same (hg.block _ h6.lt (hne _ (by omega))), h3.same (hg.block _ h3.lt (hne _ (by omega))), h4.kept hg (hne _ (by omega)), h5.grown hg h5.size (fun r e => by have := (hr r e).1; omega)⟩

/-- how the call ends, once the deferred list has been taken -/
theorem first_close {p q : Value} {c : Bool} {w V : World} (h2 : Row V (w.heap.size + 1) 79 [p, q]) (hb : Below w.heap.size w V)
    (tmps : Array Value) (t4 : tmps[4]?.getD undef = .pointer (some ⟨w.heap.size + 1, 0, none⟩)) (t5 : tmps[5]?.getD undef = .bool c) :
    ∃ v, (results Try.f40 tmps).run Try.prog (V.putObj (w.heap.size + 4) (.deferred none)) = .ok v (V.putObj (w.heap.size + 4) (.deferred none)) ∧
      (Ending.returned v = .returned (.tuple #[.agg #[p, q], .bool c]) ∧ Below w.heap.size w (V.putObj (w.heap.size + 4) (.deferred none))) := by
  have e1 : Row (V.putObj (w.heap.size + 4) (.deferred none)) (w.heap.size + 1) 79 [p, q] := h2.same (World.putObj_heap_other (by omega))
  have e3 : Below w.heap.size w (V.putObj (w.heap.size + 4) (.deferred none)) := hb.grown (putObj_grown V _ _) hb.size (fun r e => by cases e; omega)
  obtain ⟨V', hV'⟩ : ∃ V', V' = V.putObj (w.heap.size + 4) (.deferred none) := ⟨_, rfl⟩
  rw [← hV'] at e1 e3 ⊢
  have c0 : V'.cell? ⟨w.heap.size + 1, 0, none⟩ = _ := e1.cell 0
  have c1 : V'.cell? ⟨w.heap.size + 1, 1, none⟩ = _ := e1.cell 1
  refine ⟨.tuple #[.agg #[p, q], .bool c], ?_, rfl, e3⟩
  simp [results, Try.results40, go_sem, c0, c1, t4, t5]

set_option maxHeartbeats 2000000 in
theorem first_any (hold : Nat → Bool) (bl bx sl : Nat) (w : World) (ht : Stands w bx sl)
    (hfit : ∀ k, k < 4 → ∀ W, Below w.heap.size w W → Calls Try.prog 43 #[.agg #[Value.func (.func (sF k)) #[] #[], Value.func (.func (sG k)) #[] #[]], .pointer (some ⟨bl, 0, none⟩)] W fun e w' => e = .returned (.bool (hold k)) ∧ Below W.heap.size W w') :
    Calls Try.prog 40 #[.func (.func 48) #[] #[.pointer (some ⟨bx, 0, none⟩)], fitV bl] w fun e w' =>
      e = .returned (.tuple #[srOV (srO hold), .bool (srO hold).isSome]) ∧ Below w.heap.size w w' := by
  have HF := Lib.hid hfit
  clear hfit
  refine calls_marks Try.func40 rfl ?_
  simp only [Try.ntmps40, List.size_toArray, List.length_cons, List.length_nil, Nat.reduceAdd, Nat.reduceSub, Array.replicate_succ, Array.replicate_zero, List.push_toArray, List.append_toArray, List.nil_append, List.cons_append]
  go_wp2_with fail
  refine wp_scope_jump 0 fun R hR hJm => ?_
  go_wp2_with fail
  go_step3
  go_wp2_with fail
  obtain ⟨w2, hw2⟩ : ∃ w2, w2 = (((w.alloc (.cells #[fitV bl] 87)).alloc (.cells #[.nilFunc, .nilFunc] 79)).alloc (.cells #[.nilFunc, .nilFunc] 79)).alloc (.cells #[.bool false] 4) := ⟨_, rfl⟩
  have hs2 : w2.heap.size = w.heap.size + 4 := by rw [hw2]; simp
  have hB2 : Below w.heap.size w w2 := by rw [hw2]; exact (below3 _ _ _ _).alloc (by simp; omega) _
  have ht2 : Stands w2 bx sl := ht.below hB2
  have hX1 : Boxed w2 w.heap.size 87 (fitV bl) := by rw [hw2]; exact (((Boxed.new w _ _).alloc _).alloc _).alloc _
  have hX0 : Row w2 (w.heap.size + 1) 79 [.nilFunc, .nilFunc] := by
    rw [hw2]
    exact ((Row.new_at _ 79 [.nilFunc, .nilFunc] (by simp)).below (below1 _ _)).below (below1 _ _)
  have hX2 : Row w2 (w.heap.size + 1 + 1) 79 [.nilFunc, .nilFunc] := by
    rw [hw2]
    exact (Row.new_at _ 79 [.nilFunc, .nilFunc] (by simp)).below (below1 _ _)
  have hX3 : Boxed w2 (w.heap.size + 1 + 1 + 1) 4 (.bool false) := by
    rw [hw2]
    exact Row.new_at _ 4 [.bool false] (by simp)
  have hbx := ht.box.lt
  have hsl := ht.row.lt
  have hit := vals_it bx sl w2 ht2
  rw [← hw2]
  clear hw2
  refine wpIn_wide.1 (wpIn_range_box (gf := 48) (lb := #[.pointer (some ⟨bx, 0, none⟩)]) rfl (enters_of Try.func48 (by kernel_rfl) rfl) hit (by rintro k (rfl | rfl); exact ht2.box.lt; exact ht2.row.lt) (fun _ => rfl) (fun _ _ _ _ _ h => h)
    (fI hold bl w) (fX hold w) (fI.abid (by omega)) (fX.abid (by omega)) ⟨by simp, hX1, hX0, hX2, hX3, hB2⟩
    (fun g x => { tmps := #[.func (.func 48) #[] #[.pointer (some ⟨bx, 0, none⟩)], fitV bl, undef, .pointer (some ⟨w.heap.size, 0, none⟩), .pointer (some ⟨w.heap.size + 1, 0, none⟩), .bool false, .pointer (some ⟨w.heap.size + 1 + 1, 0, none⟩), .pointer (some ⟨w.heap.size + 1 + 1 + 1, 0, none⟩), .pointer (some ⟨g, 0, none⟩), .func (.func 48) #[] #[.pointer (some ⟨bx, 0, none⟩)], .agg #[Value.func (.func (sF x)) #[] #[], Value.func (.func (sG x)) #[] #[]], undef, undef, undef, undef, undef, undef], defers := [] })
    (fun x => .cells #[Value.func (.func (sF x)) #[] #[], Value.func (.func (sG x)) #[] #[]] 79) ?assign ?body ?done ?stop)
  case assign =>
    intro l' x W' K hK
    simp only [encS]
    gi_wp2
    exact hK
  case body =>
    rintro l' pre x O V hVs hO ⟨hp, hx1, hx0, hx2, hx3, hbl⟩ ⟨hxl, hx8, _⟩ _
    obtain ⟨V1, hV1⟩ : ∃ V1, V1 = V.alloc (Obj.cells #[Value.func (.func (sF x)) #[] #[], Value.func (.func (sG x)) #[] #[]] 79) := ⟨_, rfl⟩
    have hb1 : Below V.heap.size V V1 := by rw [hV1]; exact below1 _ _
    have hz1 : V1.heap.size = V.heap.size + 1 := by rw [hV1]; simp
    have hy0 : Row V1 V.heap.size 79 [Value.func (.func (sF x)) #[] #[], Value.func (.func (sG x)) #[] #[]] := by rw [hV1]; exact Row.new _ _ _
    have hy1 : Boxed V1 w.heap.size 87 (fitV bl) := (hb1.block _ (by omega)).trans hx1
    have hg := Lib.hid (HF.out x hx8 V1 (hbl.trans (hb1.mono hbl.size)))
    have e1 := hy1.cell
    have e2 : V1.cell? ⟨V.heap.size, 0, none⟩ = _ := hy0.cell 0
    have e3 : V1.cell? ⟨V.heap.size, 1, none⟩ = _ := hy0.cell 1
    have Hp := Lib.hid hp
    have Hxl := Lib.hid hxl
    rw [← hV1]
    clear hV1 hp hxl hX1 hX2 hX3 hX0 hit hy1 HF
    by_cases hh : hold x = true
    · rw [hh] at hg
      have HH := Lib.hid hh
      clear hh
      gi_wp2_with fail
      refine ⟨trivial, rfl, CallsIn.inRound l' ((callsIn_wide.2 hg.out).mono ?_)⟩
      rintro e w1 ⟨rfl, hb2⟩
      have hB := hb1.trans (hb2.mono hb1.size)
      have hz0 := hy0.below hb2
      have hz2 : Row w1 (w.heap.size + 1 + 1) 79 [.nilFunc, .nilFunc] := hx2.same (hB.block _ (by omega))
      have hz4 : Row w1 (w.heap.size + 1) 79 [.nilFunc, .nilFunc] := hx0.same (hB.block _ (by omega))
      have hz3 : Boxed w1 (w.heap.size + 1 + 1 + 1) 4 (.bool false) := (hB.block _ (by omega)).trans hx3
      have i0 : w1.cell? ⟨V.heap.size, 0, none⟩ = _ := hz0.cell 0
      have i1 : w1.cell? ⟨V.heap.size, 1, none⟩ = _ := hz0.cell 1
      have j0 : w1.cell? ⟨w.heap.size + 1 + 1, 0, none⟩ = _ := hz2.cell 0
      have j1 : w1.cell? ⟨w.heap.size + 1 + 1, 1, none⟩ = _ := hz2.cell 1
      have j2 := hz2.frozen 0
      have j3 := hz2.frozen 1
      have k0 := hz3.cell
      have k1 := hz3.frozen
      obtain ⟨W', hW'⟩ : ∃ W', W' = ((w1.setCell ⟨w.heap.size + 1 + 1, 0, none⟩ (Value.func (.func (sF x)) #[] #[])).setCell ⟨w.heap.size + 1 + 1, 1, none⟩ (Value.func (.func (sG x)) #[] #[])).setCell ⟨w.heap.size + 1 + 1 + 1, 0, none⟩ (.bool true) := ⟨_, rfl⟩
      have hoth : ∀ k, k ≠ w.heap.size + 1 + 1 → k ≠ w.heap.size + 1 + 1 + 1 → W'.heap[k]? = w1.heap[k]? := fun k h1 h2 => by
        rw [hW', heap_set h2, heap_set h1, heap_set h1]
      have hfin : Hid (Keeps (fun k => k = bx ∨ k = sl) w2.heap.size O (fun _ => False) V W' ∧ fX hold w (.exit 0) (pre ++ [x]) (nextO O (fun _ => False) V W') W') := Lib.hid (by
        have hws : W'.heap.size = w1.heap.size := by rw [hW']; simp [World.setCell]
        have hbs := hB.size
        have hbz := hbl.size
        refine ⟨⟨by omega, fun k hk hp => ?_⟩, rfl, pre, x, rfl, Hp.out, HH.out, ?_, ?_, ?_, ?_⟩
        · have h12 : k ≠ w.heap.size + 1 + 1 ∧ k ≠ w.heap.size + 1 + 1 + 1 := by
            rcases hp with h | ⟨h, _⟩
            · have : k < w.heap.size := by rcases h with h | h <;> omega
              omega
            · omega
          exact (hoth k h12.1 h12.2).trans (hB.block k hk)
        · exact hz4.same (hoth _ (by omega) (by omega))
        · rw [hW']
          exact ((hz2.set 0 _).set 1 _).same (heap_set (by omega))
        · rw [hW']
          refine Boxed.set _ (t := 4) (v := .bool false) ?_
          exact ((heap_set (by omega)).trans (heap_set (by omega))).trans hz3
        · rw [hW']
          exact (((hbl.trans (hB.mono hbz)).setCell (by simp; omega) _).setCell (by simp; omega) _).setCell (by simp; omega) _)
      rw [hW'] at hfin
      clear hW' hoth
      gi_wp2
      exact hfin.out
    · have hh2 : hold x = false := by simpa using hh
      have HH := Lib.hid hh2
      rw [hh2] at hg
      clear hh hh2
      gi_wp2_with fail
      refine ⟨trivial, rfl, CallsIn.inRound l' ((callsIn_wide.2 hg.out).mono ?_)⟩
      rintro e w1 ⟨rfl, hb2⟩
      have hB := hb1.trans (hb2.mono hb1.size)
      have hfin : Hid (Keeps (fun k => k = bx ∨ k = sl) w2.heap.size O (fun _ => False) V w1 ∧ fI hold bl w (pre ++ [x]) (nextO O (fun _ => False) V w1) w1) := Lib.hid (by
        have hbz := hbl.size
        refine ⟨⟨hB.size, fun k hk _ => hB.block k hk⟩, fun y hy => ?_, (hB.block _ (by omega)).trans hx1, hx0.same (hB.block _ (by omega)), hx2.same (hB.block _ (by omega)), (hB.block _ (by omega)).trans hx3, hbl.trans (hB.mono hbz)⟩
        rcases List.mem_append.1 hy with h | h
        · exact Hp.out y h
        · rw [List.mem_singleton.1 h]; exact HH.out)
      gi_wp2
      exact hfin.out
  case done =>
    rintro xs O V hall ⟨hp, hx1, hx0, hx2, hx3, hbl⟩ hD
    have hcl := Lib.hid (srO_none hall hp)
    have j0 : V.cell? ⟨w.heap.size + 1 + 1, 0, none⟩ = _ := hx2.cell 0
    have j1 : V.cell? ⟨w.heap.size + 1 + 1, 1, none⟩ = _ := hx2.cell 1
    have k0 : V.cell? ⟨w.heap.size + 1 + 1 + 1, 0, none⟩ = _ := hx3.cell
    have r0 : V.cell? ⟨w.heap.size + 1, 0, none⟩ = _ := hx0.cell 0
    have r1 : V.cell? ⟨w.heap.size + 1, 1, none⟩ = _ := hx0.cell 1
    have r2 := hx0.frozen 0
    have r3 := hx0.frozen 1
    have HX0 := Lib.hid hx0
    have HBL := Lib.hid hbl
    have HD := Lib.hid hD
    have HSA := Lib.hid (show ∀ v v' : Value, (((V.drew.setCell ⟨w.heap.size + 1, 0, none⟩ v).setCell ⟨w.heap.size + 1, 1, none⟩ v').cell? ⟨w.heap.size + 1 + 1, 0, none⟩ = some (.nilFunc) ∧ ((V.drew.setCell ⟨w.heap.size + 1, 0, none⟩ v).setCell ⟨w.heap.size + 1, 1, none⟩ v').cell? ⟨w.heap.size + 1 + 1, 1, none⟩ = some (.nilFunc)) ∧ ((V.drew.setCell ⟨w.heap.size + 1, 0, none⟩ v).setCell ⟨w.heap.size + 1, 1, none⟩ v').cell? ⟨w.heap.size + 1 + 1 + 1, 0, none⟩ = some (.bool false) from fun v v' =>
      ⟨⟨(World.cell?_setCell_other _ _ _ _ (fun e => by injection e; omega)).trans ((World.cell?_setCell_other _ _ _ _ (fun e => by injection e; omega)).trans j0), (World.cell?_setCell_other _ _ _ _ (fun e => by injection e; omega)).trans ((World.cell?_setCell_other _ _ _ _ (fun e => by injection e; omega)).trans j1)⟩, (World.cell?_setCell_other _ _ _ _ (fun e => by injection e; omega)).trans ((World.cell?_setCell_other _ _ _ _ (fun e => by injection e; omega)).trans k0)⟩)
    clear hit hX1 hX2 hX3 hX0 hp hx0 hx2 hx3 hbl hD HF
    go_wp2_with fail
    go_region_held3 (fun W => W.cell? ⟨w.heap.size + 1 + 1, 0, none⟩ = some (.nilFunc) ∧ W.cell? ⟨w.heap.size + 1 + 1, 1, none⟩ = some (.nilFunc) ∧ W.cell? ⟨w.heap.size + 1 + 1 + 1, 0, none⟩ = some (.bool false)) (first | exact ⟨j0, j1, k0⟩ | exact ⟨(HSA.out _ _).1.1, (HSA.out _ _).1.2, (HSA.out _ _).2⟩) (fail)
    all_goals
      obtain ⟨W', hW'⟩ : ∃ W', W' = ((V.setCell ⟨w.heap.size + 1, 0, none⟩ (.nilFunc)).setCell ⟨w.heap.size + 1, 1, none⟩ (.nilFunc)).drew := ⟨_, rfl⟩
      have hR2 : Row W' (w.heap.size + 1) 79 [.nilFunc, .nilFunc] := by rw [hW']; exact (HX0.out.set 0 (.nilFunc)).set 1 (.nilFunc)
      have hB2 : Below w.heap.size w W' := by rw [hW']; exact ((HBL.out.setCell (by simp) _).setCell (by simp) _).drew
      have hD2 : W'.heap[w.heap.size + 4]? = some (.deferred (some [])) := by
        have h9 := HD.out
        rw [hs2] at h9
        rw [hW']
        exact (heap_set (by omega)).trans ((heap_set (by omega)).trans h9)
      have hres := Lib.hid (first_close (c := false) hR2 hB2)
      rw [← hW']
      clear hW' hR2 hB2 j0 j1 k0 r0 r1 r2 r3
      go_wp2
      refine hR.out _ _ _ _ (by simp) ?_
      refine ⟨by simp, .inl ⟨_, _, rfl, run_takeDeferred hD2, ?_⟩⟩
      rw [hcl.out]
      exact hres.out _ rfl rfl
  case stop =>
    rintro c' pre' O V hall ⟨rfl, pre, k, rfl, hp, hk, hx0, hx2, hx3, hbl⟩ hD
    have hcl := Lib.hid (show srO hold = some k from srO_some (by have := hall.1; simpa using this) (by have := hall.2; simp at this; omega) hp hk)
    clear hk
    refine wpIn_wide.2 ?_
    have j0 : V.cell? ⟨w.heap.size + 1 + 1, 0, none⟩ = _ := hx2.cell 0
    have j1 : V.cell? ⟨w.heap.size + 1 + 1, 1, none⟩ = _ := hx2.cell 1
    have k0 : V.cell? ⟨w.heap.size + 1 + 1 + 1, 0, none⟩ = _ := hx3.cell
    have r0 : V.cell? ⟨w.heap.size + 1, 0, none⟩ = _ := hx0.cell 0
    have r1 : V.cell? ⟨w.heap.size + 1, 1, none⟩ = _ := hx0.cell 1
    have r2 := hx0.frozen 0
    have r3 := hx0.frozen 1
    have HX0 := Lib.hid hx0
    have HBL := Lib.hid hbl
    have HD := Lib.hid hD
    have HSA := Lib.hid (show ∀ v v' : Value, (((V.drew.setCell ⟨w.heap.size + 1, 0, none⟩ v).setCell ⟨w.heap.size + 1, 1, none⟩ v').cell? ⟨w.heap.size + 1 + 1, 0, none⟩ = some (Value.func (.func (sF k)) #[] #[]) ∧ ((V.drew.setCell ⟨w.heap.size + 1, 0, none⟩ v).setCell ⟨w.heap.size + 1, 1, none⟩ v').cell? ⟨w.heap.size + 1 + 1, 1, none⟩ = some (Value.func (.func (sG k)) #[] #[])) ∧ ((V.drew.setCell ⟨w.heap.size + 1, 0, none⟩ v).setCell ⟨w.heap.size + 1, 1, none⟩ v').cell? ⟨w.heap.size + 1 + 1 + 1, 0, none⟩ = some (.bool true) from fun v v' =>
      ⟨⟨(World.cell?_setCell_other _ _ _ _ (fun e => by injection e; omega)).trans ((World.cell?_setCell_other _ _ _ _ (fun e => by injection e; omega)).trans j0), (World.cell?_setCell_other _ _ _ _ (fun e => by injection e; omega)).trans ((World.cell?_setCell_other _ _ _ _ (fun e => by injection e; omega)).trans j1)⟩, (World.cell?_setCell_other _ _ _ _ (fun e => by injection e; omega)).trans ((World.cell?_setCell_other _ _ _ _ (fun e => by injection e; omega)).trans k0)⟩)
    clear hit hX1 hX2 hX3 hX0 hp hx0 hx2 hx3 hbl hD HF
    go_wp2_with fail
    go_region_held3 (fun W => W.cell? ⟨w.heap.size + 1 + 1, 0, none⟩ = some (Value.func (.func (sF k)) #[] #[]) ∧ W.cell? ⟨w.heap.size + 1 + 1, 1, none⟩ = some (Value.func (.func (sG k)) #[] #[]) ∧ W.cell? ⟨w.heap.size + 1 + 1 + 1, 0, none⟩ = some (.bool true)) (first | exact ⟨j0, j1, k0⟩ | exact ⟨(HSA.out _ _).1.1, (HSA.out _ _).1.2, (HSA.out _ _).2⟩) (fail)
    all_goals
      obtain ⟨W', hW'⟩ : ∃ W', W' = ((V.setCell ⟨w.heap.size + 1, 0, none⟩ (Value.func (.func (sF k)) #[] #[])).setCell ⟨w.heap.size + 1, 1, none⟩ (Value.func (.func (sG k)) #[] #[])).drew := ⟨_, rfl⟩
      have hR2 : Row W' (w.heap.size + 1) 79 [Value.func (.func (sF k)) #[] #[], Value.func (.func (sG k)) #[] #[]] := by rw [hW']; exact (HX0.out.set 0 (Value.func (.func (sF k)) #[] #[])).set 1 (Value.func (.func (sG k)) #[] #[])
      have hB2 : Below w.heap.size w W' := by rw [hW']; exact ((HBL.out.setCell (by simp) _).setCell (by simp) _).drew
      have hD2 : W'.heap[w.heap.size + 4]? = some (.deferred (some [])) := by
        have h9 := HD.out
        rw [hs2] at h9
        rw [hW']
        exact (heap_set (by omega)).trans ((heap_set (by omega)).trans h9)
      have hres := Lib.hid (first_close (c := true) hR2 hB2)
      rw [← hW']
      clear hW' hR2 hB2 j0 j1 k0 r0 r1 r2 r3
      go_wp2
      refine hR.out _ _ _ _ (by simp) ?_
      refine ⟨by simp, .inl ⟨_, _, rfl, run_takeDeferred hD2, ?_⟩⟩
      rw [hcl.out]
      exact hres.out _ rfl rfl
end Go.Proofs.Ytkfljominljliaa
