import Derived.Test.YtbiopegophdgiaaDoorParse
namespace Go.Proofs.YtbiopegophdgiaaDoor
open Go.RowKit Go.Shelf
attribute [local go_sem] Oper.semAt_some

/- ALL: THOSE THAT ARE MARKED, AS THEY WERE. -/

/-- the blocks that the iterator reads -/
def privA (bw : Nat) (A : Option Addr) (k : Nat) : Prop := k = bw ∨ A = some ⟨k, 0, none⟩ ∨ k = 0

section
variable (l0 : Nat) (J Jx : List Nat → (Nat → Prop) → World → Prop) (W : World)
/-- what holds between two rounds of the inner loop -/
def aI (pre : List Nat) (O' : Nat → Prop) (V : World) : Prop :=
  ∃ O, J pre O V ∧ (∀ k, O k → O' k) ∧ (∀ k, O k → W.heap.size + 4 ≤ k) ∧ V.cell? ⟨W.heap.size, 0, none⟩ = some (.func (.yield l0) #[] #[])
/-- what holds where a round has said no more -/
def aX (c' : Code) (pre' : List Nat) (O' : Nat → Prop) (V : World) : Prop :=
  c' = .exit 0 ∧ ∃ O, (∀ k, O k → O' k) ∧ (∀ k, O k → W.heap.size + 4 ≤ k) ∧ Jx pre' O V
end

set_option maxHeartbeats 2000000 in
theorem all1_it (l : List Bool) (A : Option Addr) (c bw : Nat) (w0 : World) (hl : l.length ≤ 4096) (hcw : w0.cell? ⟨bw, 0, none⟩ = some (.slice A (nw l.length) c)) (hsrc : Src w0 A l) (ht : Tab w0) :
    It Tryd.prog 47 #[.pointer (some ⟨bw, 0, none⟩)] encAt (fun _ _ => False) (preA l) (privA bw A) (allA l) (someP l) w0 := by
  intro l0 J Jx W hpW hsW hJ hJx hY h0
  have hWc : W.cell? ⟨bw, 0, none⟩ = some (.slice A (nw l.length) c) := (World.cell?_of_block (hpW bw (.inl rfl))).trans hcw
  have hWs : Src W A l := hsrc.same fun k hk => hpW k (.inr (.inl hk))
  have hWt : Tab W := ht.same (hpW _ (.inr (.inr rfl)))
  have hpl : ∀ k, privA bw A k → k < W.heap.size := by
    rintro k (rfl | h | rfl)
    · exact lt_of_cell hWc
    · exact hWs.lt h
    · exact hWt.lt
  have hac : (W.alloc (.cells #[.func (.yield l0) #[] #[]] 40)).cell? ⟨bw, 0, none⟩ = some (.slice A (nw l.length) c) := (World.cell?_alloc_lt _ _ _ (lt_of_cell hWc)).trans hWc
  refine calls_marks Tryd.func47 rfl ?_
  simp only [Tryd.ntmps47, List.size_toArray, List.length_cons, List.length_nil, Nat.reduceAdd, Nat.reduceSub, Array.replicate_succ, Array.replicate_zero, List.push_toArray, List.append_toArray, List.nil_append, List.cons_append]
  go_wp2_with fail
  refine wp_scope_jump 0 fun R hR hJm => ?_
  go_wp2_with fail
  go_step3
  go_wp2_with fail
  refine (places_any _ _ _ _).mono ?_
  rintro e w2' ⟨rfl, rfl⟩
  obtain ⟨w2, hw2⟩ : ∃ w2, w2 = (W.alloc (.cells #[.func (.yield l0) #[] #[]] 40)).alloc (.cells #[.slice A (nw l.length) c] 32) := ⟨_, rfl⟩
  have hsz2 : w2.heap.size = W.heap.size + 2 := by rw [hw2]; simp
  have hb2 : Below W.heap.size W w2 := by rw [hw2]; exact below2 _ _ _
  have hcy : w2.cell? ⟨W.heap.size, 0, none⟩ = some (.func (.yield l0) #[] #[]) := by
    rw [hw2, World.cell?_alloc_lt _ _ _ (by simp)]
    exact cell_alloc_new _ _ _ _
  have hcs2 : w2.cell? ⟨W.heap.size + 1, 0, none⟩ = some (.slice A (nw l.length) c) := by
    rw [hw2]
    exact cell_new_at _ _ _ _ (by simp)
  have hj2 : J [] (fun _ => False) w2 := hJ.below h0 hb2
  have hit := places1_it l A c (W.heap.size + 1) w2 hl hcs2 (hWs.below hb2) (hWt.below hb2)
  have hpl2 : ∀ k, (k = W.heap.size + 1 ∨ A = some ⟨k, 0, none⟩ ∨ k = 0) → k < w2.heap.size ∧ (k = W.heap.size + 1 ∨ privA bw A k) := by
    rintro k (rfl | h | h)
    · exact ⟨by omega, .inl rfl⟩
    · have := hpl k (.inr (.inl h)); exact ⟨by omega, .inr (.inr (.inl h))⟩
    · have := hpl k (.inr (.inr h)); exact ⟨by omega, .inr (.inr (.inr h))⟩
  rw [← hw2]
  clear hw2 hac
  go_wp2_with fail
  refine wpIn_wide.1 (wpIn_range_it (gf := 48) (lb := #[.pointer (some ⟨W.heap.size + 1, 0, none⟩)]) rfl (enters_of Tryd.func48 (by kernel_rfl) rfl) hit (fun k hk => (hpl2 k hk).1) (fun _ => rfl) (fun _ _ _ _ _ h => h)
    (aI l0 J W) (aX Jx W) ?hI ?hIx ?h0
    (fun x => { tmps := #[.func (.yield l0) #[] #[], .pointer (some ⟨bw, 0, none⟩), .pointer (some ⟨W.heap.size, 0, none⟩), .int .i64 (x : Int), .slice A (nw l.length) c, .func (.func 48) #[] #[.pointer (some ⟨W.heap.size + 1, 0, none⟩)], .int .i64 (x : Int), undef, undef, undef, undef], defers := [] }) ?assign ?body ?done ?stop)
  case assign =>
    intro l' x W' K hK
    simp only [encAt]
    gi_wp2
    exact hK
  case h0 => exact ⟨fun _ => False, hj2, fun _ h => h.elim, fun _ h => h.elim, hcy⟩
  case hI =>
    rintro s' O' V V' row ⟨O, h2, h3, h4, h6⟩ hg hr
    have hne : ∀ k, k < w2.heap.size → some k ≠ row := fun k hk e => by have := (hr k e.symm).1; omega
    exact ⟨O, hJ _ _ _ _ row h2 hg (fun r e => ⟨by have := (hr r e).1; omega, fun h => (hr r e).2 (h3 r h)⟩), h3, h4, (World.cell?_of_block (hg.block _ (lt_of_cell h6) (hne W.heap.size (by omega)))).trans h6⟩
  case hIx =>
    rintro c' s' O' V V' row ⟨e0, O, h3, h4, hjx⟩ hg hr
    have hr' : ∀ r, row = some r → W.heap.size ≤ r ∧ ¬ O r := fun r e => ⟨by have := (hr r e).1; omega, fun h => (hr r e).2 (h3 r h)⟩
    exact ⟨e0, O, h3, h4, hJx _ _ _ _ row hjx hg hr'⟩
  case body =>
    rintro l' pre x O' V hVs hO' ⟨O, hj, hOO, hO5, hcy⟩ hpk _
    obtain ⟨fn, tmps, assign, body, hy, hR⟩ := hY pre x O V (by omega) (fun k h => by have := hO5 k h; have := hO' k (hOO k h); omega) hj hpk (fun b (h : False) => h.elim)
    have Hs2 := Lib.hid hsz2
    simp only [encAt] at hy
    clear hj2 hit hsz2 hcs2 hWc hcw hsrc hpk
    gi_wp2
    refine ⟨rfl, ?_⟩
    refine hR.mono ?_
    have keeps : ∀ W', Keeps (privA bw A) W.heap.size O (fun _ => False) V W' → Keeps (fun k => k = W.heap.size + 1 ∨ A = some ⟨k, 0, none⟩ ∨ k = 0) w2.heap.size O' (fun _ => False) V W' := fun W' hk => by
      have := Hs2.out
      refine ⟨hk.size, fun k hkl hp => ?_⟩
      rcases hp with h | ⟨h, h2, _⟩
      · rcases (hpl2 k h).2 with rfl | h3
        · exact hk.same _ hkl (.inr ⟨by omega, fun ho => by have := hO5 _ ho; omega, fun h => h⟩)
        · exact hk.same k hkl (.inl h3)
      · exact hk.same k hkl (.inr ⟨by omega, fun ho => h2 (hOO k ho), fun h => h⟩)
    have sub : ∀ W', V.heap.size ≤ W'.heap.size → (∀ k, nextO O (fun _ => False) V W' k → nextO O' (fun _ => False) V W' k) ∧ ∀ k, nextO O (fun _ => False) V W' k → W.heap.size + 4 ≤ k := fun W' hsW' => by
      have := Hs2.out
      refine ⟨fun k h => ?_, fun k h => ?_⟩
      · rcases h with h | h | h
        · exact .inl (hOO k h)
        · exact h.elim
        · exact .inr (.inr h)
      · rcases h with h | h | h
        · exact hO5 k h
        · exact h.elim
        · omega
    have Hkeeps := Lib.hid keeps
    have Hsub := Lib.hid sub
    clear keeps sub
    rintro e W' ⟨hk, (⟨rfl, hj'⟩ | ⟨rfl, hjx⟩)⟩
    · obtain ⟨s1, s2⟩ := Hsub.out W' hk.size
      have hfin : Hid (Keeps (fun k => k = W.heap.size + 1 ∨ A = some ⟨k, 0, none⟩ ∨ k = 0) w2.heap.size O' (fun _ => False) V W' ∧ aI l0 J W (pre ++ [x]) (nextO O' (fun _ => False) V W') W') :=
        Lib.hid ⟨Hkeeps.out W' hk, _, hj', s1, s2, (World.cell?_of_block (hk.same W.heap.size (lt_of_cell hcy) (.inr ⟨Nat.le_refl _, fun h => by have := hO5 _ h; omega, fun h => h⟩))).trans hcy⟩
      clear s1 s2 hj' hk
      gi_wp2
      exact hfin.out
    · obtain ⟨s1, s2⟩ := Hsub.out W' hk.size
      have hfin : Hid (Keeps (fun k => k = W.heap.size + 1 ∨ A = some ⟨k, 0, none⟩ ∨ k = 0) w2.heap.size O' (fun _ => False) V W' ∧ aX Jx W (.exit 0) (pre ++ [x]) (nextO O' (fun _ => False) V W') W') :=
        Lib.hid ⟨Hkeeps.out W' hk, rfl, _, s1, s2, hjx⟩
      clear s1 s2 hjx hk
      gi_wp2
      exact hfin.out
  case done =>
    rintro xs O' V hall ⟨O, hj, hOO, hO5, _⟩ hD
    have Hall := Lib.hid hall
    have hjD : J xs O (V.putObj w2.heap.size (.deferred none)) := hJ _ _ _ _ _ hj (putObj_grown V _ _) (fun r e => by cases e; exact ⟨by omega, fun h => by have := hO5 _ h; omega⟩)
    clear hall
    go_wp2
    refine hR.out _ _ _ _ (by simp) ?_
    refine ⟨by simp, .inl ⟨_, _, rfl, run_takeDeferred hD, ?_⟩⟩
    exact ⟨_, results_none rfl _ _ _, itEnd.all Hall.out hjD⟩
  case stop =>
    rintro c' pre' O' V hsp ⟨rfl, O, hOO, hO5, hjx⟩ hD
    have hOD : ∀ r, some w2.heap.size = some r → W.heap.size ≤ r ∧ ¬ O r := fun r e => by cases e; exact ⟨by omega, fun h => by have := hO5 _ h; omega⟩
    have hend : Hid (itEnd (allA l) (someP l) J Jx (.returned (.tuple #[])) (V.putObj w2.heap.size (.deferred none))) := Lib.hid (itEnd.part hsp (hJx _ _ _ _ _ hjx (putObj_grown V _ _) hOD))
    clear hsp hjx
    refine wpIn_wide.2 ?_
    go_wp2
    refine hR.out _ _ _ _ (by simp) ?_
    refine ⟨by simp, .inl ⟨_, _, rfl, run_takeDeferred hD, ?_⟩⟩
    exact ⟨_, results_none rfl _ _ _, hend.out⟩

def AllP (w : World) (l : List Bool) (e : Ending) (w' : World) : Prop :=
  ∃ A c bw, e = .returned (.func (.func 47) #[] #[.pointer (some ⟨bw, 0, none⟩)]) ∧ w.heap.size ≤ bw ∧ (∀ g, A = some ⟨g, 0, none⟩ → w.heap.size ≤ g) ∧
    w'.cell? ⟨bw, 0, none⟩ = some (.slice A (nw l.length) c) ∧ Src w' A l ∧ Below w.heap.size w w'
theorem allF_any (m : Value) (l : List Bool) (w : World) (h : Mk w m l) : Calls Tryd.prog 27 #[m] w (AllP w l) := by
  have hs := Lib.hid (suchM_any true l m w h)
  clear h
  go_enter Tryd.func27, Tryd.ntmps27
  go_wp2_with fail
  refine (hs.out).mono ?_
  rintro e w1 ⟨A, c, rfl, hA, hsrc, hb1⟩
  rw [such_true] at hsrc ⊢
  have hfin := Lib.hid (show AllP w l (.returned (.func (.func 47) #[] #[.pointer (some ⟨w1.heap.size, 0, none⟩)])) (w1.alloc (.cells #[.slice A (nw l.length) c] 32)) from
    ⟨A, c, w1.heap.size, rfl, hb1.size, hA, cell_alloc_new _ _ _ _, hsrc.below (below1 _ _), hb1.alloc hb1.size _⟩)
  clear hA hsrc hb1
  go_wp2
  go_ret
  exact hfin.out
end Go.Proofs.YtbiopegophdgiaaDoor
