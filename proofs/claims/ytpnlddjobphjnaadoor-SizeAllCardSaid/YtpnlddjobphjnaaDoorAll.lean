import Derived.Test.YtpnlddjobphjnaaDoorFirst
namespace Go.Proofs.YtpnlddjobphjnaaDoor
open Go.RowKit Go.Shelf
attribute [local go_sem] Oper.semAt_some

def encTwo (k : Nat) : Array Value := #[.int .i64 k, .int .i64 (pay k)]

section
variable (l0 : Nat) (J Jx : List Nat → (Nat → Prop) → World → Prop) (W : World)
/-- what holds between two rounds of the inner loop -/
def aI (pre : List Nat) (O' : Nat → Prop) (V : World) : Prop :=
  ∃ O, J pre O V ∧ (∀ k, O k → O' k) ∧ (∀ k, O k → W.heap.size + 3 ≤ k) ∧ V.cell? ⟨W.heap.size, 0, none⟩ = some (.func (.yield l0) #[] #[])
/-- what holds where a round has said no more -/
def aX (c' : Code) (pre' : List Nat) (O' : Nat → Prop) (V : World) : Prop :=
  c' = .exit 0 ∧ ∃ O, (∀ k, O k → O' k) ∧ (∀ k, O k → W.heap.size + 3 ≤ k) ∧ Jx pre' O V
end

set_option maxHeartbeats 2000000 in
theorem all1_it (w0 : World) (ht : Tab w0) : It Tryd.prog 46 #[] encTwo (fun _ _ => False) preK payG allK someK w0 := by
  intro l0 J Jx W hpW hsW hJ hJx hY h0
  have htW : Tab W := ht.same (hpW _ rfl)
  have hgW : 0 < W.heap.size := htW.lt
  refine calls_marks Tryd.func46 rfl ?_
  simp only [Tryd.ntmps46, List.size_toArray, List.length_cons, List.length_nil, Nat.reduceAdd, Nat.reduceSub, Array.replicate_succ, Array.replicate_zero, List.push_toArray, List.append_toArray, List.nil_append, List.cons_append]
  go_wp2_with fail
  refine wp_scope_jump 0 fun R hR hJm => ?_
  go_wp2_with fail
  go_step3
  go_wp2_with fail
  refine (kinds_any _).mono ?_
  rintro e w2' ⟨rfl, rfl⟩
  obtain ⟨w2, hw2⟩ : ∃ w2, w2 = W.alloc (.cells #[.func (.yield l0) #[] #[]] 73) := ⟨_, rfl⟩
  have hsz2 : w2.heap.size = W.heap.size + 1 := by rw [hw2]; simp
  have hb2 : Below W.heap.size W w2 := by rw [hw2]; exact below1 _ _
  have hcy : w2.cell? ⟨W.heap.size, 0, none⟩ = some (.func (.yield l0) #[] #[]) := by
    rw [hw2]
    exact cell_alloc_new _ _ _ _
  have hj2 : J [] (fun _ => False) w2 := hJ.below h0 hb2
  have ht2 : Tab w2 := htW.below hb2
  have hit := kinds1_it w2 ht2
  rw [← hw2]
  clear hw2
  go_wp2_with fail
  refine wpIn_wide.1 (wpIn_range_box (gf := 47) (lb := #[]) rfl (enters_of Tryd.func47 (by kernel_rfl) rfl) hit (by rintro k rfl; exact ht2.lt) (fun _ => rfl) (fun _ _ _ _ _ h => h)
    (aI l0 J W) (aX Jx W) ?hI ?hIx ?h0
    (fun g x => { tmps := #[.func (.yield l0) #[] #[], .pointer (some ⟨W.heap.size, 0, none⟩), .pointer (some ⟨g, 0, none⟩), .func (.func 47) #[] #[], kv (x : Int) (pay x), undef, undef, undef, undef, undef, undef, undef], defers := [] })
    (fun x => .cells #[.int .i64 (x : Int), .int .i64 (pay x)] 50) ?assign ?body ?done ?stop)
  case assign =>
    intro l' x W' K hK
    simp only [encKind]
    gi_wp2
    exact hK
  case h0 => exact ⟨fun _ => False, hj2, fun _ h => h.elim, fun _ h => h.elim, hcy⟩
  case hI =>
    rintro s' O' V V' row ⟨O, h2, h3, h4, h6⟩ hg hr
    have hne : ∀ k, k < w2.heap.size → some k ≠ row := fun k hk e => by have := (hr k e.symm).1; omega
    exact ⟨O, hJ _ _ _ _ row h2 hg (fun r e => ⟨by have := (hr r e).1; omega, fun h => (hr r e).2 (h3 r h)⟩), h3, h4, (World.cell?_of_block (hg.block _ (lt_of_cell h6) (hne W.heap.size (by omega)))).trans h6⟩
  case hIx =>
    rintro c' s' O' V V' row ⟨e0, O, h3, h4, hjx⟩ hg hr
    have hr' : ∀ r, row = some r → W.heap.size ≤ r ∧ ¬ O r := fun r e => ⟨by have := (hr r e).1; omega, fun h => (hr r e).2 (h3 r h)⟩
    exact ⟨e0, O, h3, h4, hJx _ _ _ _ row hjx hg hr'⟩
  case body =>
    rintro l' pre x O' V hVs hO' ⟨O, hj, hOO, hO5, hcy⟩ hpk _
    obtain ⟨V1, hV1⟩ : ∃ V1, V1 = V.alloc (Obj.cells #[Value.int IntKind.i64 (x : Int), Value.int IntKind.i64 (pay x)] 50) := ⟨_, rfl⟩
    have hb1 : Below V.heap.size V V1 := by rw [hV1]; exact below1 _ _
    have hz1 : V1.heap.size = V.heap.size + 1 := by rw [hV1]; simp
    have hy0 : Blk V1 V.heap.size 50 (.int .i64 x) (.int .i64 (pay x)) := by rw [hV1]; exact Blk.new _ _ _ _
    have hcy1 : V1.cell? ⟨W.heap.size, 0, none⟩ = some (.func (.yield l0) #[] #[]) := (hb1.cell (p := ⟨W.heap.size, 0, none⟩) (lt_of_cell hcy)).trans hcy
    have e2 := hy0.cell0
    have e3 := hy0.cell1
    obtain ⟨fn, tmps, assign, body, hy, hR⟩ := hY pre x O V1 (by omega) (fun k h => by have := hO5 k h; have := hO' k (hOO k h); omega) (hJ.below hj hb1) hpk (fun b (h : False) => h.elim)
    simp only [encTwo] at hy
    rw [← hV1]
    clear hV1 hpk hj2 hit
    gi_wp2
    refine ⟨rfl, ?_⟩
    refine hR.mono ?_
    have keeps : ∀ W', Keeps payG W.heap.size O (fun _ => False) V1 W' → Keeps payG w2.heap.size O' (fun _ => False) V W' := fun W' hk => by
      refine ⟨by have := hk.size; omega, fun k hkl hp => (hk.same k (by omega) ?_).trans (hb1.block k hkl)⟩
      rcases hp with h | ⟨h, h2, _⟩
      · exact .inl h
      · exact .inr ⟨by omega, fun ho => h2 (hOO k ho), fun h => h⟩
    have sub : ∀ W', V1.heap.size ≤ W'.heap.size → (∀ k, nextO O (fun _ => False) V1 W' k → nextO O' (fun _ => False) V W' k) ∧ ∀ k, nextO O (fun _ => False) V1 W' k → W.heap.size + 3 ≤ k := fun W' hsW' => by
      refine ⟨fun k h => ?_, fun k h => ?_⟩
      · rcases h with h | h | h
        · exact .inl (hOO k h)
        · exact h.elim
        · exact .inr (.inr (by omega))
      · rcases h with h | h | h
        · exact hO5 k h
        · exact h.elim
        · omega
    have Hkeeps := Lib.hid keeps
    have Hsub := Lib.hid sub
    clear keeps sub
    rintro e W' ⟨hk, (⟨rfl, hj'⟩ | ⟨rfl, hjx⟩)⟩
    · obtain ⟨s1, s2⟩ := Hsub.out W' hk.size
      have hfin : Hid (Keeps payG w2.heap.size O' (fun _ => False) V W' ∧ aI l0 J W (pre ++ [x]) (nextO O' (fun _ => False) V W') W') :=
        Lib.hid ⟨Hkeeps.out W' hk, _, hj', s1, s2, (World.cell?_of_block (hk.same W.heap.size (lt_of_cell hcy1) (.inr ⟨Nat.le_refl _, fun h => by have := hO5 _ h; omega, fun h => h⟩))).trans hcy1⟩
      clear s1 s2 hj' hk
      gi_wp2
      exact hfin.out
    · obtain ⟨s1, s2⟩ := Hsub.out W' hk.size
      have hfin : Hid (Keeps payG w2.heap.size O' (fun _ => False) V W' ∧ aX Jx W (.exit 0) (pre ++ [x]) (nextO O' (fun _ => False) V W') W') :=
        Lib.hid ⟨Hkeeps.out W' hk, rfl, _, s1, s2, hjx⟩
      clear s1 s2 hjx hk
      gi_wp2
      exact hfin.out
  case done =>
    rintro xs O' V hall ⟨O, hj, hOO, hO5, _⟩ hD
    have Hall := Lib.hid hall
    have hjD : J xs O (V.putObj w2.heap.size (.deferred none)) := hJ _ _ _ _ _ hj (putObj_grown V _ _) (fun r e => by cases e; exact ⟨by omega, fun h => by have := hO5 _ h; omega⟩)
    clear hall
    go_wp2
    refine hR.out _ _ _ _ (by simp) ?_
    refine ⟨by simp, .inl ⟨_, _, rfl, run_takeDeferred hD, ?_⟩⟩
    exact ⟨_, results_none rfl _ _ _, itEnd.all Hall.out hjD⟩
  case stop =>
    rintro c' pre' O' V hsp ⟨rfl, O, hOO, hO5, hjx⟩ hD
    have hOD : ∀ r, some w2.heap.size = some r → W.heap.size ≤ r ∧ ¬ O r := fun r e => by cases e; exact ⟨by omega, fun h => by have := hO5 _ h; omega⟩
    have hend : Hid (itEnd allK someK J Jx (.returned (.tuple #[])) (V.putObj w2.heap.size (.deferred none))) := Lib.hid (itEnd.part hsp (hJx _ _ _ _ _ hjx (putObj_grown V _ _) hOD))
    clear hsp hjx
    refine wpIn_wide.2 ?_
    go_wp2
    refine hR.out _ _ _ _ (by simp) ?_
    refine ⟨by simp, .inl ⟨_, _, rfl, run_takeDeferred hD, ?_⟩⟩
    exact ⟨_, results_none rfl _ _ _, hend.out⟩

theorem allF_any (w : World) : Calls Tryd.prog 36 #[] w fun e w' => e = .returned (.func (.func 46) #[] #[]) ∧ w = w' := by
  go_enter Tryd.func36, Tryd.ntmps36
  go_wp2
  go_ret
  exact ⟨rfl, rfl⟩
end Go.Proofs.YtpnlddjobphjnaaDoor
