import Derived.Test.YtmocdokikcbjeaaRise
import Derived.Test.YtmocdokikcbjeaaRangeBox
namespace Go.Proofs.Ytmocdokikcbjeaa
open Go.RowKit Go.Shelf Go.Maps Go.Sort
attribute [local go_sem] Oper.semAt_some

/- ALL: AN OWNER's PAGES, AS THEY WERE. -/
section
variable (l0 : Nat) (J Jx : Tb → (Nat → Prop) → World → Prop) (W : World)
/-- what holds between two rounds of the inner loop -/
def aI (pre : Tb) (O' : Nat → Prop) (V : World) : Prop :=
  ∃ O, J pre O V ∧ (∀ k, O k → O' k) ∧ (∀ k, O k → W.heap.size + 4 ≤ k) ∧ V.cell? ⟨W.heap.size, 0, none⟩ = some (.func (.yield l0) #[] #[])
/-- what holds where a round has said no more -/
def aX (c' : Code) (pre' : Tb) (O' : Nat → Prop) (V : World) : Prop :=
  c' = .exit 0 ∧ ∃ O, (∀ k, O k → O' k) ∧ (∀ k, O k → W.heap.size + 4 ≤ k) ∧ Jx pre' O V
end

set_option maxHeartbeats 2000000 in
theorem all2_it (l : Tb) (bw bm : Nat) (w0 : World) (hok : Tok l) (hcw : w0.cell? ⟨bw, 0, none⟩ = some (.map (some bm))) (hown : PMap w0 bm l) :
    It Try.prog 37 #[bx bw] encP (fun _ _ => False) (preR l) (fun k => k = bw ∨ k = bm) (allR l) (someR l) w0 := by
  intro l0 J Jx W hpW hsW hJ hJx hY h0
  have hWc : W.cell? ⟨bw, 0, none⟩ = some (.map (some bm)) := (World.cell?_of_block (hpW bw (.inl rfl))).trans hcw
  have hWm := owns_same hown (hpW bm (.inr rfl))
  have hpl : ∀ k, (k = bw ∨ k = bm) → k < W.heap.size := by
    rintro k (rfl | rfl)
    · exact lt_of_cell hWc
    · exact hWm.lt
  have HRS := Lib.hid (fun w => rising_any bw w)
  refine calls_marks Try.func37 rfl ?_
  simp only [Try.ntmps37, List.size_toArray, List.length_cons, List.length_nil, Nat.reduceAdd, Nat.reduceSub, Array.replicate_succ, Array.replicate_zero, List.push_toArray, List.append_toArray, List.nil_append, List.cons_append]
  go_wp2_with fail
  go_step3
  go_wp2_with fail
  refine wp_label ?_
  go_wp2_with fail
  refine (HRS.out _).mono ?_
  rintro e w2' ⟨rfl, rfl⟩
  obtain ⟨w2, hw2⟩ : ∃ w2, w2 = (W.alloc (.cells #[.func (.yield l0) #[] #[]] 88)).alloc (.cells #[bx bw] 98) := ⟨_, rfl⟩
  have hsz2 : w2.heap.size = W.heap.size + 2 := by rw [hw2]; simp
  have hb2 : Below W.heap.size W w2 := by rw [hw2]; exact below2 _ _ _
  have hcy : w2.cell? ⟨W.heap.size, 0, none⟩ = some (.func (.yield l0) #[] #[]) := by
    rw [hw2, World.cell?_alloc_lt _ _ _ (by simp)]
    exact cell_alloc_new _ _ _ _
  have hcs2 : w2.cell? ⟨W.heap.size + 1, 0, none⟩ = some (bx bw) := by
    rw [hw2]
    exact cell_new_at _ _ _ _ (by simp)
  have hj2 : J [] (fun _ => False) w2 := hJ.below h0 hb2
  have hit := rise1_it l (W.heap.size + 1) bw bm w2 hok hcs2 ((hb2.cell (p := ⟨bw, 0, none⟩) (hpl bw (.inl rfl))).trans hWc) (owns_same hWm (hb2.block _ (hpl bm (.inr rfl))))
  have hpl2 : ∀ k, (k = W.heap.size + 1 ∨ k = bw ∨ k = bm) → k < w2.heap.size ∧ (k = W.heap.size + 1 ∨ (k = bw ∨ k = bm)) := by
    rintro k (rfl | h | h)
    · exact ⟨by omega, .inl rfl⟩
    · have := hpl k (.inl h); exact ⟨by omega, .inr (.inl h)⟩
    · have := hpl k (.inr h); exact ⟨by omega, .inr (.inr h)⟩
  rw [← hw2]
  clear hw2 hWm hown
  go_wp2_with fail
  refine wpIn_wide.1 (wpIn_range_box (gf := 64) (lb := #[bx (W.heap.size + 1)]) rfl (enters_of Try.func64 (by kernel_rfl) rfl) hit (fun k hk => (hpl2 k hk).1) (fun _ => rfl) (fun _ _ _ _ _ h => h)
    (aI l0 J W) (aX Jx W) ?hI ?hIx ?h0
    (fun g x => { tmps := #[.func (.yield l0) #[] #[], bx bw, bx W.heap.size, .int .i64 x.1, bx g, .func (.func 64) #[] #[bx (W.heap.size + 1)], .int .i64 x.1, .agg #[.int .i64 x.2.1, .int .i64 x.2.2.1, .int .i64 x.2.2.2], undef, undef, undef, undef, undef], defers := [] })
    (fun x => .cells #[.int .i64 x.2.1, .int .i64 x.2.2.1, .int .i64 x.2.2.2] 34) ?assign ?body ?done ?stop)
  case assign =>
    intro l' x W' K hK
    simp only [encP]
    gi_wp2
    exact hK
  case h0 => exact ⟨fun _ => False, hj2, fun _ h => h.elim, fun _ h => h.elim, hcy⟩
  case hI =>
    rintro s' O' V V' row ⟨O, h2, h3, h4, h6⟩ hg hr
    have hne : ∀ k, k < w2.heap.size → some k ≠ row := fun k hk e => by have := (hr k e.symm).1; omega
    exact ⟨O, hJ _ _ _ _ row h2 hg (fun r e => ⟨by have := (hr r e).1; omega, fun h => (hr r e).2 (h3 r h)⟩), h3, h4, (World.cell?_of_block (hg.block _ (lt_of_cell h6) (hne W.heap.size (by omega)))).trans h6⟩
  case hIx =>
    rintro c' s' O' V V' row ⟨e0, O, h3, h4, hjx⟩ hg hr
    have hr' : ∀ r, row = some r → W.heap.size ≤ r ∧ ¬ O r := fun r e => ⟨by have := (hr r e).1; omega, fun h => (hr r e).2 (h3 r h)⟩
    exact ⟨e0, O, h3, h4, hJx _ _ _ _ row hjx hg hr'⟩
  case body =>
    rintro l' pre x O' V hVs hO' ⟨O, hj, hOO, hO5, hcy⟩ hpk _
    obtain ⟨V1, hV1⟩ : ∃ V1, V1 = V.alloc (Obj.cells #[Value.int IntKind.i64 x.2.1, Value.int IntKind.i64 x.2.2.1, Value.int IntKind.i64 x.2.2.2] 34) := ⟨_, rfl⟩
    have hb1 : Below V.heap.size V V1 := by rw [hV1]; exact below1 _ _
    have hz1 : V1.heap.size = V.heap.size + 1 := by rw [hV1]; simp
    have hrow : Row V1 V.heap.size 34 [.int .i64 x.2.1, .int .i64 x.2.2.1, .int .i64 x.2.2.2] := by rw [hV1]; exact Row.new _ _ _
    have e2 : V1.cell? ⟨V.heap.size, 0, none⟩ = some (.int .i64 x.2.1) := hrow.cell 0
    have e3 : V1.cell? ⟨V.heap.size, 1, none⟩ = some (.int .i64 x.2.2.1) := hrow.cell 1
    have e4 : V1.cell? ⟨V.heap.size, 2, none⟩ = some (.int .i64 x.2.2.2) := hrow.cell 2
    have hcy1 : V1.cell? ⟨W.heap.size, 0, none⟩ = some (.func (.yield l0) #[] #[]) := (hb1.cell (p := ⟨W.heap.size, 0, none⟩) (lt_of_cell hcy)).trans hcy
    obtain ⟨fn, tmps, assign, body, hy, hR⟩ := hY pre x O V1 (by omega) (fun k h => by have := hO5 k h; have := hO' k (hOO k h); omega) (hJ.below hj hb1) hpk (fun b (h : False) => h.elim)
    have Hs2 := Lib.hid hsz2
    simp only [encP] at hy
    rw [← hV1]
    clear hV1 hj2 hit hsz2 hcs2 hWc hcw hpk HRS hrow
    gi_wp2
    refine ⟨rfl, ?_⟩
    refine hR.mono ?_
    have keeps : ∀ W', Keeps (fun k => k = bw ∨ k = bm) W.heap.size O (fun _ => False) V1 W' → Keeps (fun k => k = W.heap.size + 1 ∨ k = bw ∨ k = bm) w2.heap.size O' (fun _ => False) V W' := fun W' hk => by
      have := Hs2.out
      refine ⟨by have := hk.size; omega, fun k hkl hp => (hk.same k (by omega) ?_).trans (hb1.block k hkl)⟩
      rcases hp with h | ⟨h, h2, _⟩
      · rcases (hpl2 k h).2 with rfl | h3
        · exact .inr ⟨by omega, fun ho => by have := hO5 _ ho; omega, fun h => h⟩
        · exact .inl h3
      · exact .inr ⟨by omega, fun ho => h2 (hOO k ho), fun h => h⟩
    have sub : ∀ W', V1.heap.size ≤ W'.heap.size → (∀ k, nextO O (fun _ => False) V1 W' k → nextO O' (fun _ => False) V W' k) ∧ ∀ k, nextO O (fun _ => False) V1 W' k → W.heap.size + 4 ≤ k := fun W' hsW' => by
      have := Hs2.out
      refine ⟨fun k h => ?_, fun k h => ?_⟩
      · rcases h with h | h | h
        · exact .inl (hOO k h)
        · exact h.elim
        · exact .inr (.inr (by omega))
      · rcases h with h | h | h
        · exact hO5 k h
        · exact h.elim
        · omega
    have Hkeeps := Lib.hid keeps
    have Hsub := Lib.hid sub
    clear keeps sub
    rintro e W' ⟨hk, (⟨rfl, hj'⟩ | ⟨rfl, hjx⟩)⟩
    · obtain ⟨s1, s2⟩ := Hsub.out W' hk.size
      have hfin : Hid (Keeps (fun k => k = W.heap.size + 1 ∨ k = bw ∨ k = bm) w2.heap.size O' (fun _ => False) V W' ∧ aI l0 J W (pre ++ [x]) (nextO O' (fun _ => False) V W') W') :=
        Lib.hid ⟨Hkeeps.out W' hk, _, hj', s1, s2, (World.cell?_of_block (hk.same W.heap.size (lt_of_cell hcy1) (.inr ⟨Nat.le_refl _, fun h => by have := hO5 _ h; omega, fun h => h⟩))).trans hcy1⟩
      clear s1 s2 hj' hk
      gi_wp2
      exact hfin.out
    · obtain ⟨s1, s2⟩ := Hsub.out W' hk.size
      have hfin : Hid (Keeps (fun k => k = W.heap.size + 1 ∨ k = bw ∨ k = bm) w2.heap.size O' (fun _ => False) V W' ∧ aX Jx W (.exit 0) (pre ++ [x]) (nextO O' (fun _ => False) V W') W') :=
        Lib.hid ⟨Hkeeps.out W' hk, rfl, _, s1, s2, hjx⟩
      clear s1 s2 hjx hk
      gi_wp2
      exact hfin.out
  case done =>
    rintro xs O' V hall ⟨O, hj, hOO, hO5, _⟩ hD
    have Hall := Lib.hid hall
    have hjD : J xs O (V.putObj w2.heap.size (.deferred none)) := hJ _ _ _ _ _ hj (putObj_grown V _ _) (fun r e => by cases e; exact ⟨by omega, fun h => by have := hO5 _ h; omega⟩)
    clear hall
    go_wp2
    refine ⟨by simp, .inl ⟨_, _, rfl, run_takeDeferred hD, ?_⟩⟩
    exact ⟨_, results_none rfl _ _ _, itEnd.all Hall.out hjD⟩
  case stop =>
    rintro c' pre' O' V hsp ⟨rfl, O, hOO, hO5, hjx⟩ hD
    have hOD : ∀ r, some w2.heap.size = some r → W.heap.size ≤ r ∧ ¬ O r := fun r e => by cases e; exact ⟨by omega, fun h => by have := hO5 _ h; omega⟩
    have hend : Hid (itEnd (allR l) (someR l) J Jx (.returned (.tuple #[])) (V.putObj w2.heap.size (.deferred none))) := Lib.hid (itEnd.part hsp (hJx _ _ _ _ _ hjx (putObj_grown V _ _) hOD))
    clear hsp hjx
    refine wpIn_wide.2 ?_
    go_wp2
    refine ⟨by simp, .inl ⟨_, _, rfl, run_takeDeferred hD, ?_⟩⟩
    exact ⟨_, results_none rfl _ _ _, hend.out⟩

def AllP (w : World) (l : Tb) (e : Ending) (w' : World) : Prop :=
  ∃ bw bm, e = .returned (.func (.func 37) #[] #[bx bw]) ∧ w.heap.size ≤ bw ∧ w.heap.size ≤ bm ∧
    w'.cell? ⟨bw, 0, none⟩ = some (.map (some bm)) ∧ PMap w' bm l ∧ Below w.heap.size w w'
set_option maxRecDepth 100000 in
set_option maxHeartbeats 1000000 in
theorem allF_any {b bp bf : Nat} {l : Tb} {w : World} (h : Rep w b l bp bf) (o : Int) : Calls Try.prog 14 #[bx b, .int .i64 o] w (AllP w (ofO l o)) := by
  obtain ⟨w1, hw1⟩ : ∃ w1, w1 = (w.alloc (.cells #[.int .i64 o] 3)).alloc (.cells #[.map none, .map none] 73) := ⟨_, rfl⟩
  have hb1 : Below w.heap.size w w1 := hw1 ▸ below2 w _ _
  have hs1 : w1.heap.size = w.heap.size + 1 + 1 := by rw [hw1]; simp
  have hr1 := h.below hb1
  have hbl := h.obj.lt
  have H1 := Lib.hid (there_map b bp _ hr1.c0)
  have c0 := hr1.c0
  have hog : w1.cell? ⟨w.heap.size, 0, none⟩ = some (.int .i64 o) := by
    rw [hw1]
    exact (World.cell?_alloc_lt _ _ _ (by simp)).trans (cell_alloc_new _ _ _ _)
  have hrow : Row w1 (w.heap.size + 1) 73 [.map none, .map none] := by
    rw [hw1]
    exact Row.new_at _ _ _ (by simp)
  have H2 := Lib.hid (show Calls Try.prog 35 #[.map (some bp), .func (.func 36) #[] #[bx w.heap.size]] w1 (fun e w' => e = .returned (.map (some w1.heap.size)) ∧ (w'.cell? ⟨w.heap.size + 1, 0, none⟩ = some (.map none) ∧ w'.frozen? ⟨w.heap.size + 1, 0, none⟩ = false) ∧
      AllP w (ofO l o) (.returned (.func (.func 37) #[] #[bx (w.heap.size + 1)])) (w'.setCell ⟨w.heap.size + 1, 0, none⟩ (.map (some w1.heap.size)))) from by
    refine (such_any h.ok hr1.pages w.heap.size o hog).mono ?_
    rintro e w' ⟨rfl, hm, hb⟩
    have hr2 := hrow.below hb
    refine ⟨rfl, ⟨hr2.cell 0, hr2.frozen 0⟩, w.heap.size + 1, w1.heap.size, rfl, by omega, by omega, ?_, ?_, ?_⟩
    · exact (hr2.set 0 _).cell 0
    · exact owns_same hm (heap_set (by omega))
    · exact (below0 hb1 hb).setCell (show w.heap.size ≤ w.heap.size + 1 by omega) _)
  have HW := Lib.hid hw1
  clear hr1 hrow hog hw1 h hs1
  rw [HW.out] at c0
  go_enter Try.func14, Try.ntmps14
  go_wp2_with fail
  rw [← HW.out]
  refine H1.out.mono ?_
  rintro e w2 ⟨rfl, rfl⟩
  rw [← HW.out] at c0
  go_wp2_with fail
  refine H2.out.mono ?_
  rintro e w2 ⟨rfl, ⟨d1, d2⟩, hfin⟩
  have HF := Lib.hid hfin
  clear hfin H1 H2 c0
  go_wp2
  go_ret
  exact HF.out
end Go.Proofs.Ytmocdokikcbjeaa
