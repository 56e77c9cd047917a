import Derived.Test.YtnbehncbjbkjpaaRise
namespace Go.Proofs.Ytnbehncbjbkjpaa
open Go.RowKit Go.Shelf Go.Maps Go.Sort
attribute [local go_sem] Oper.semAt_some

/- ALL: THE FRAMES THAT ARE SOMEBODY's, AS THEY WERE. -/

theorem rising_any (pb : Nat) (w : World) : Calls Try.prog 52 #[bx pb] w fun e w' =>
    e = .returned (.func (.func 56) #[] #[.pointer (some ⟨w.heap.size, 0, none⟩)]) ∧ w.alloc (.cells #[bx pb] 72) = w' := by
  go_enter Try.func52, Try.ntmps52
  go_wp2
  go_ret
  exact ⟨rfl, rfl⟩
theorem clone_any (bm n : Nat) (D : DataW Unit) (w : World) (hown : w.ownsMap Try.prog 3 (plainElem Try.prog 3) bm n D) :
    Calls Try.prog 50 #[.map (some bm)] w fun e w' => e = .returned (.map (some w.heap.size)) ∧ w'.ownsMap Try.prog 3 (plainElem Try.prog 3) w.heap.size n D ∧ Below w.heap.size w w' :=
  (AnyW.maps_Clone_owns cloneL 3 _ bm n D w hown).mono fun _ _ ⟨e1, e2, _, e3⟩ => ⟨e1, e2, e3⟩

section
variable (l0 : Nat) (J Jx : List (Nat × Nat) → (Nat → Prop) → World → Prop) (W : World)
/-- what holds between two rounds of the inner loop -/
def aI (pre : List (Nat × Nat)) (O' : Nat → Prop) (V : World) : Prop :=
  ∃ O, J pre O V ∧ (∀ k, O k → O' k) ∧ (∀ k, O k → W.heap.size + 4 ≤ k) ∧ V.cell? ⟨W.heap.size, 0, none⟩ = some (.func (.yield l0) #[] #[])
/-- what holds where a round has said no more -/
def aX (c' : Code) (pre' : List (Nat × Nat)) (O' : Nat → Prop) (V : World) : Prop :=
  c' = .exit 0 ∧ ∃ O, (∀ k, O k → O' k) ∧ (∀ k, O k → W.heap.size + 4 ≤ k) ∧ Jx pre' O V
end

set_option maxHeartbeats 2000000 in
theorem all1_it (l : List (Option Nat)) (bw bm nn : Nat) (w0 : World) (hl : l.length ≤ 16384) (hcw : w0.cell? ⟨bw, 1, none⟩ = some (.map (some bm))) (hown : w0.ownsMap Try.prog 3 (plainElem Try.prog 3) bm nn (mapD l)) :
    It Try.prog 51 #[.pointer (some ⟨bw, 0, none⟩)] encP (fun _ _ => False) (preR l) (fun k => k = bw ∨ k = bm) (allR l) (someR l) w0 := by
  intro l0 J Jx W hpW hsW hJ hJx hY h0
  have hWc : W.cell? ⟨bw, 1, none⟩ = some (.map (some bm)) := (World.cell?_of_block (hpW bw (.inl rfl))).trans hcw
  have hWm := owns_same hown (hpW bm (.inr rfl))
  have hpl : ∀ k, (k = bw ∨ k = bm) → k < W.heap.size := by
    rintro k (rfl | rfl)
    · exact lt_of_cell hWc
    · exact hWm.lt
  have HRS := Lib.hid (fun w => rising_any bw w)
  refine calls_marks Try.func51 rfl ?_
  simp only [Try.ntmps51, List.size_toArray, List.length_cons, List.length_nil, Nat.reduceAdd, Nat.reduceSub, Array.replicate_succ, Array.replicate_zero, List.push_toArray, List.append_toArray, List.nil_append, List.cons_append]
  go_wp2_with fail
  go_step3
  go_wp2_with fail
  refine wp_label ?_
  go_wp2_with fail
  refine (HRS.out _).mono ?_
  rintro e w2' ⟨rfl, rfl⟩
  obtain ⟨w2, hw2⟩ : ∃ w2, w2 = (W.alloc (.cells #[.func (.yield l0) #[] #[]] 82)).alloc (.cells #[bx bw] 72) := ⟨_, rfl⟩
  have hsz2 : w2.heap.size = W.heap.size + 2 := by rw [hw2]; simp
  have hb2 : Below W.heap.size W w2 := by rw [hw2]; exact below2 _ _ _
  have hcy : w2.cell? ⟨W.heap.size, 0, none⟩ = some (.func (.yield l0) #[] #[]) := by
    rw [hw2, World.cell?_alloc_lt _ _ _ (by simp)]
    exact cell_alloc_new _ _ _ _
  have hcs2 : w2.cell? ⟨W.heap.size + 1, 0, none⟩ = some (bx bw) := by
    rw [hw2]
    exact cell_new_at _ _ _ _ (by simp)
  have hj2 : J [] (fun _ => False) w2 := hJ.below h0 hb2
  have hit := rise1_it l (W.heap.size + 1) bw bm nn w2 hl hcs2 ((hb2.cell (p := ⟨bw, 1, none⟩) (hpl bw (.inl rfl))).trans hWc) (owns_same hWm (hb2.block _ (hpl bm (.inr rfl))))
  have hpl2 : ∀ k, (k = W.heap.size + 1 ∨ k = bw ∨ k = bm) → k < w2.heap.size ∧ (k = W.heap.size + 1 ∨ (k = bw ∨ k = bm)) := by
    rintro k (rfl | h | h)
    · exact ⟨by omega, .inl rfl⟩
    · have := hpl k (.inl h); exact ⟨by omega, .inr (.inl h)⟩
    · have := hpl k (.inr h); exact ⟨by omega, .inr (.inr h)⟩
  rw [← hw2]
  clear hw2 hWm hown
  go_wp2_with fail
  refine wpIn_wide.1 (wpIn_range_it (gf := 56) (lb := #[.pointer (some ⟨W.heap.size + 1, 0, none⟩)]) rfl (enters_of Try.func56 (by kernel_rfl) rfl) hit (fun k hk => (hpl2 k hk).1) (fun _ => rfl) (fun _ _ _ _ _ h => h)
    (aI l0 J W) (aX Jx W) ?hI ?hIx ?h0
    (fun x => { tmps := #[.func (.yield l0) #[] #[], .pointer (some ⟨bw, 0, none⟩), .pointer (some ⟨W.heap.size, 0, none⟩), .int .i64 (x.1 : Int), .int .i64 (x.2 : Int), .func (.func 56) #[] #[.pointer (some ⟨W.heap.size + 1, 0, none⟩)], .int .i64 (x.1 : Int), .int .i64 (x.2 : Int), undef, undef, undef, undef, undef], defers := [] }) ?assign ?body ?done ?stop)
  case assign =>
    intro l' x W' K hK
    simp only [encP]
    gi_wp2
    exact hK
  case h0 => exact ⟨fun _ => False, hj2, fun _ h => h.elim, fun _ h => h.elim, hcy⟩
  case hI =>
    rintro s' O' V V' row ⟨O, h2, h3, h4, h6⟩ hg hr
    have hne : ∀ k, k < w2.heap.size → some k ≠ row := fun k hk e => by have := (hr k e.symm).1; omega
    exact ⟨O, hJ _ _ _ _ row h2 hg (fun r e => ⟨by have := (hr r e).1; omega, fun h => (hr r e).2 (h3 r h)⟩), h3, h4, (World.cell?_of_block (hg.block _ (lt_of_cell h6) (hne W.heap.size (by omega)))).trans h6⟩
  case hIx =>
    rintro c' s' O' V V' row ⟨e0, O, h3, h4, hjx⟩ hg hr
    have hr' : ∀ r, row = some r → W.heap.size ≤ r ∧ ¬ O r := fun r e => ⟨by have := (hr r e).1; omega, fun h => (hr r e).2 (h3 r h)⟩
    exact ⟨e0, O, h3, h4, hJx _ _ _ _ row hjx hg hr'⟩
  case body =>
    rintro l' pre x O' V hVs hO' ⟨O, hj, hOO, hO5, hcy⟩ hpk _
    obtain ⟨fn, tmps, assign, body, hy, hR⟩ := hY pre x O V (by omega) (fun k h => by have := hO5 k h; have := hO' k (hOO k h); omega) hj hpk (fun b (h : False) => h.elim)
    have Hs2 := Lib.hid hsz2
    simp only [encP] at hy
    clear hj2 hit hsz2 hcs2 hWc hcw hpk HRS
    gi_wp2
    refine ⟨rfl, ?_⟩
    refine hR.mono ?_
    have keeps : ∀ W', Keeps (fun k => k = bw ∨ k = bm) W.heap.size O (fun _ => False) V W' → Keeps (fun k => k = W.heap.size + 1 ∨ k = bw ∨ k = bm) w2.heap.size O' (fun _ => False) V W' := fun W' hk => by
      have := Hs2.out
      refine ⟨hk.size, fun k hkl hp => ?_⟩
      rcases hp with h | ⟨h, h2, _⟩
      · rcases (hpl2 k h).2 with rfl | h3
        · exact hk.same _ hkl (.inr ⟨by omega, fun ho => by have := hO5 _ ho; omega, fun h => h⟩)
        · exact hk.same k hkl (.inl h3)
      · exact hk.same k hkl (.inr ⟨by omega, fun ho => h2 (hOO k ho), fun h => h⟩)
    have sub : ∀ W', V.heap.size ≤ W'.heap.size → (∀ k, nextO O (fun _ => False) V W' k → nextO O' (fun _ => False) V W' k) ∧ ∀ k, nextO O (fun _ => False) V W' k → W.heap.size + 4 ≤ k := fun W' hsW' => by
      have := Hs2.out
      refine ⟨fun k h => ?_, fun k h => ?_⟩
      · rcases h with h | h | h
        · exact .inl (hOO k h)
        · exact h.elim
        · exact .inr (.inr h)
      · rcases h with h | h | h
        · exact hO5 k h
        · exact h.elim
        · omega
    have Hkeeps := Lib.hid keeps
    have Hsub := Lib.hid sub
    clear keeps sub
    rintro e W' ⟨hk, (⟨rfl, hj'⟩ | ⟨rfl, hjx⟩)⟩
    · obtain ⟨s1, s2⟩ := Hsub.out W' hk.size
      have hfin : Hid (Keeps (fun k => k = W.heap.size + 1 ∨ k = bw ∨ k = bm) w2.heap.size O' (fun _ => False) V W' ∧ aI l0 J W (pre ++ [x]) (nextO O' (fun _ => False) V W') W') :=
        Lib.hid ⟨Hkeeps.out W' hk, _, hj', s1, s2, (World.cell?_of_block (hk.same W.heap.size (lt_of_cell hcy) (.inr ⟨Nat.le_refl _, fun h => by have := hO5 _ h; omega, fun h => h⟩))).trans hcy⟩
      clear s1 s2 hj' hk
      gi_wp2
      exact hfin.out
    · obtain ⟨s1, s2⟩ := Hsub.out W' hk.size
      have hfin : Hid (Keeps (fun k => k = W.heap.size + 1 ∨ k = bw ∨ k = bm) w2.heap.size O' (fun _ => False) V W' ∧ aX Jx W (.exit 0) (pre ++ [x]) (nextO O' (fun _ => False) V W') W') :=
        Lib.hid ⟨Hkeeps.out W' hk, rfl, _, s1, s2, hjx⟩
      clear s1 s2 hjx hk
      gi_wp2
      exact hfin.out
  case done =>
    rintro xs O' V hall ⟨O, hj, hOO, hO5, _⟩ hD
    have Hall := Lib.hid hall
    have hjD : J xs O (V.putObj w2.heap.size (.deferred none)) := hJ _ _ _ _ _ hj (putObj_grown V _ _) (fun r e => by cases e; exact ⟨by omega, fun h => by have := hO5 _ h; omega⟩)
    clear hall
    go_wp2
    refine ⟨by simp, .inl ⟨_, _, rfl, run_takeDeferred hD, ?_⟩⟩
    exact ⟨_, results_none rfl _ _ _, itEnd.all Hall.out hjD⟩
  case stop =>
    rintro c' pre' O' V hsp ⟨rfl, O, hOO, hO5, hjx⟩ hD
    have hOD : ∀ r, some w2.heap.size = some r → W.heap.size ≤ r ∧ ¬ O r := fun r e => by cases e; exact ⟨by omega, fun h => by have := hO5 _ h; omega⟩
    have hend : Hid (itEnd (allR l) (someR l) J Jx (.returned (.tuple #[])) (V.putObj w2.heap.size (.deferred none))) := Lib.hid (itEnd.part hsp (hJx _ _ _ _ _ hjx (putObj_grown V _ _) hOD))
    clear hsp hjx
    refine wpIn_wide.2 ?_
    go_wp2
    refine ⟨by simp, .inl ⟨_, _, rfl, run_takeDeferred hD, ?_⟩⟩
    exact ⟨_, results_none rfl _ _ _, hend.out⟩

def AllP (w : World) (l : List (Option Nat)) (e : Ending) (w' : World) : Prop :=
  ∃ bw bm, e = .returned (.func (.func 51) #[] #[.pointer (some ⟨bw, 0, none⟩)]) ∧ w.heap.size ≤ bw ∧ w.heap.size ≤ bm ∧
    w'.cell? ⟨bw, 1, none⟩ = some (.map (some bm)) ∧ w'.ownsMap Try.prog 3 (plainElem Try.prog 3) bm 16384 (mapD l) ∧ Below w.heap.size w w'
set_option maxRecDepth 100000 in
set_option maxHeartbeats 1000000 in
theorem allF_any {b : Nat} {p : Pl} {F : Nat → Prop} {w : World} (h : Has w b p F) : Calls Try.prog 41 #[bx b] w (AllP w (owns p.fr)) := by
  obtain ⟨bm0, fv, sv, fb, gf, gs, hr, rfl⟩ := h
  have hb1 := below1 w (.cells Try.zeroCells56 56)
  have hr1 := hr.below hb1
  have hbl := hr.obj.lt
  have H1 := Lib.hid (there_map b bm0 _ hr1.c1)
  have c1 := hr1.c1
  have hnew : (w.alloc (.cells Try.zeroCells56 56)).heap[w.heap.size]? = some (.cells Try.zeroCells56 56 (0, 0)) := World.alloc_heap_new w _
  have H2 := Lib.hid (show Calls Try.prog 50 #[.map (some bm0)] (w.alloc (.cells Try.zeroCells56 56)) (fun e w' => e = .returned (.map (some (w.heap.size + 1))) ∧ (w'.cell? ⟨w.heap.size, 1, none⟩ = some (.map none) ∧ w'.frozen? ⟨w.heap.size, 1, none⟩ = false) ∧
      AllP w (owns p.fr) (.returned (.func (.func 51) #[] #[.pointer (some ⟨w.heap.size, 0, none⟩)])) (w'.setCell ⟨w.heap.size, 1, none⟩ (.map (some (w.heap.size + 1))))) from by
    refine (clone_any bm0 16384 (mapD (owns p.fr)) _ hr1.map).mono ?_
    rintro e w' ⟨rfl, hm, hb⟩
    rw [World.size_alloc] at hm hb ⊢
    have hk : w'.heap[w.heap.size]? = some (.cells Try.zeroCells56 56 (0, 0)) := (hb.block _ (by omega)).trans hnew
    refine ⟨rfl, ⟨?_, by simp [World.frozen?, hk]⟩, w.heap.size, w.heap.size + 1, rfl, Nat.le_refl _, by omega, ?_, ?_, ?_⟩
    · simp only [World.cell?, hk]
      kernel_rfl
    · have := set_cells (o := 1) (.map (some (w.heap.size + 1))) hk
      unfold World.cell?
      rw [this]
      show (Try.zeroCells56.setIfInBounds 1 (Value.map (some (w.heap.size + 1))))[1]? = _
      rw [Array.getElem?_setIfInBounds_self_of_lt (by decide +kernel)]
    · exact owns_same hm (heap_set (by omega))
    · exact (hb1.trans (hb.mono (by omega))).setCell (Nat.le_refl _) _)
  clear hr hr1 hnew hb1
  go_enter Try.func41, Try.ntmps41
  go_wp2_with fail
  refine (H1.out).mono ?_
  rintro e w1 ⟨rfl, rfl⟩
  go_wp2_with fail
  refine (H2.out).mono ?_
  rintro e w2 ⟨rfl, ⟨d1, d2⟩, hfin⟩
  have HF := Lib.hid hfin
  clear hfin H1 H2 c1
  go_wp2
  go_ret
  exact HF.out
end Go.Proofs.Ytnbehncbjbkjpaa
