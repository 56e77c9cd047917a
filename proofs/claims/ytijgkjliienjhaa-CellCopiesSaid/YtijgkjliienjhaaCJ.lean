import Derived.Test.YtijgkjliienjhaaCI
import Derived.Test.YtijgkjliienjhaaRangeBox
namespace Go.Proofs.Ytijgkjliienjhaa
open Go.RowKit Go.Shelf
attribute [local go_sem] Oper.semAt_some

/- ALL: THE CELLS THAT ARE NOT ZERO, AS THEY WERE. -/
section
variable (l0 : Nat) (J Jx : List (Nat × Nat) → (Nat → Prop) → World → Prop) (W : World)
/-- what holds between two rounds of the inner loop -/
def aI (pre : List (Nat × Nat)) (O' : Nat → Prop) (V : World) : Prop :=
  ∃ O, J pre O V ∧ (∀ k, O k → O' k) ∧ (∀ k, O k → W.heap.size + 4 ≤ k) ∧ V.cell? ⟨W.heap.size, 0, none⟩ = some (.func (.yield l0) #[] #[])
/-- what holds where a round has said no more -/
def aX (c' : Code) (pre' : List (Nat × Nat)) (O' : Nat → Prop) (V : World) : Prop :=
  c' = .exit 0 ∧ ∃ O, (∀ k, O k → O' k) ∧ (∀ k, O k → W.heap.size + 4 ≤ k) ∧ Jx pre' O V
end

set_option maxHeartbeats 2000000 in
theorem all1_it (l : List Nat) (A : Option Addr) (c bw : Nat) (w0 : World) (hl : l.length ≤ 1024) (hcw : w0.cell? ⟨bw, 0, none⟩ = some (.slice A l.length c)) (hsrc : Src w0 A l) :
    It Try.prog 38 #[.pointer (some ⟨bw, 0, none⟩)] encA (fun _ _ => False) (preA (nz l)) (privA bw A) (allA (nz l)) (someA (nz l)) w0 := by
  intro l0 J Jx W hpW hsW hJ hJx hY h0
  have hWc : W.cell? ⟨bw, 0, none⟩ = some (.slice A l.length c) := (World.cell?_of_block (hpW bw (.inl rfl))).trans hcw
  have hWs : Src W A l := hsrc.same fun k hk => hpW k (.inr hk)
  have hpl : ∀ k, privA bw A k → k < W.heap.size := by
    rintro k (rfl | h)
    · exact lt_of_cell hWc
    · exact hWs.lt h
  have hac : (W.alloc (.cells #[.func (.yield l0) #[] #[]] 84)).cell? ⟨bw, 0, none⟩ = some (.slice A l.length c) := (World.cell?_alloc_lt _ _ _ (lt_of_cell hWc)).trans hWc
  refine calls_marks Try.func38 rfl ?_
  simp only [Try.ntmps38, List.size_toArray, List.length_cons, List.length_nil, Nat.reduceAdd, Nat.reduceSub, Array.replicate_succ, Array.replicate_zero, List.push_toArray, List.append_toArray, List.nil_append, List.cons_append]
  go_wp2_with fail
  refine wp_scope_jump 0 fun R hR hJm => ?_
  go_wp2_with fail
  go_step3
  go_wp2_with fail
  refine (notz_any _ _ _ _).mono ?_
  rintro e w2' ⟨rfl, rfl⟩
  obtain ⟨w2, hw2⟩ : ∃ w2, w2 = (W.alloc (.cells #[.func (.yield l0) #[] #[]] 84)).alloc (.cells #[.slice A l.length c] 65) := ⟨_, rfl⟩
  have hsz2 : w2.heap.size = W.heap.size + 2 := by rw [hw2]; simp
  have hb2 : Below W.heap.size W w2 := by rw [hw2]; exact below2 _ _ _
  have hcy : w2.cell? ⟨W.heap.size, 0, none⟩ = some (.func (.yield l0) #[] #[]) := by
    rw [hw2, World.cell?_alloc_lt _ _ _ (by simp)]
    exact cell_alloc_new _ _ _ _
  have hcs2 : w2.cell? ⟨W.heap.size + 1, 0, none⟩ = some (.slice A l.length c) := by
    rw [hw2]
    exact cell_new_at _ _ _ _ (by simp)
  have hj2 : J [] (fun _ => False) w2 := hJ.below h0 hb2
  have hit := notz_it l A c (W.heap.size + 1) w2 hl hcs2 (hWs.below hb2)
  have hpl2 : ∀ k, (k = W.heap.size + 1 ∨ A = some ⟨k, 0, none⟩) → k < w2.heap.size ∧ (k = W.heap.size + 1 ∨ privA bw A k) := by
    rintro k (rfl | h)
    · exact ⟨by omega, .inl rfl⟩
    · have := hpl k (.inr h); exact ⟨by omega, .inr (.inr h)⟩
  rw [← hw2]
  clear hw2 hac
  go_wp2_with fail
  refine wpIn_wide.1 (wpIn_range_it (gf := 41) (lb := #[.pointer (some ⟨W.heap.size + 1, 0, none⟩)]) rfl (enters_of Try.func41 (by kernel_rfl) rfl) hit (fun k hk => (hpl2 k hk).1) (fun _ => rfl) (fun _ _ _ _ _ h => h)
    (aI l0 J W) (aX Jx W) ?hI ?hIx ?h0
    (fun x => { tmps := #[.func (.yield l0) #[] #[], .pointer (some ⟨bw, 0, none⟩), .pointer (some ⟨W.heap.size, 0, none⟩), .int .i64 (x.1 : Int), .int .u64 (x.2 : Int), .slice A l.length c, .func (.func 41) #[] #[.pointer (some ⟨W.heap.size + 1, 0, none⟩)], .int .i64 (x.1 : Int), .int .u64 (x.2 : Int), undef, undef, undef, undef, undef], defers := [] }) ?assign ?body ?done ?stop)
  case assign =>
    intro l' x W' K hK
    simp only [encA]
    gi_wp2
    exact hK
  case h0 => exact ⟨fun _ => False, hj2, fun _ h => h.elim, fun _ h => h.elim, hcy⟩
  case hI =>
    rintro s' O' V V' row ⟨O, h2, h3, h4, h6⟩ hg hr
    have hne : ∀ k, k < w2.heap.size → some k ≠ row := fun k hk e => by have := (hr k e.symm).1; omega
    exact ⟨O, hJ _ _ _ _ row h2 hg (fun r e => ⟨by have := (hr r e).1; omega, fun h => (hr r e).2 (h3 r h)⟩), h3, h4, (World.cell?_of_block (hg.block _ (lt_of_cell h6) (hne W.heap.size (by omega)))).trans h6⟩
  case hIx =>
    rintro c' s' O' V V' row ⟨e0, O, h3, h4, hjx⟩ hg hr
    have hr' : ∀ r, row = some r → W.heap.size ≤ r ∧ ¬ O r := fun r e => ⟨by have := (hr r e).1; omega, fun h => (hr r e).2 (h3 r h)⟩
    exact ⟨e0, O, h3, h4, hJx _ _ _ _ row hjx hg hr'⟩
  case body =>
    rintro l' pre x O' V hVs hO' ⟨O, hj, hOO, hO5, hcy⟩ hpk _
    obtain ⟨fn, tmps, assign, body, hy, hR⟩ := hY pre x O V (by omega) (fun k h => by have := hO5 k h; have := hO' k (hOO k h); omega) hj hpk (fun b (h : False) => h.elim)
    have Hs2 := Lib.hid hsz2
    simp only [encA] at hy
    clear hj2 hit hsz2 hcs2 hWc hcw hsrc hpk
    gi_wp2
    refine ⟨rfl, ?_⟩
    refine hR.mono ?_
    have keeps : ∀ W', Keeps (privA bw A) W.heap.size O (fun _ => False) V W' → Keeps (fun k => k = W.heap.size + 1 ∨ A = some ⟨k, 0, none⟩) w2.heap.size O' (fun _ => False) V W' := fun W' hk => by
      have := Hs2.out
      refine ⟨hk.size, fun k hkl hp => ?_⟩
      rcases hp with h | ⟨h, h2, _⟩
      · rcases (hpl2 k h).2 with rfl | h3
        · exact hk.same _ hkl (.inr ⟨by omega, fun ho => by have := hO5 _ ho; omega, fun h => h⟩)
        · exact hk.same k hkl (.inl h3)
      · exact hk.same k hkl (.inr ⟨by omega, fun ho => h2 (hOO k ho), fun h => h⟩)
    have sub : ∀ W', V.heap.size ≤ W'.heap.size → (∀ k, nextO O (fun _ => False) V W' k → nextO O' (fun _ => False) V W' k) ∧ ∀ k, nextO O (fun _ => False) V W' k → W.heap.size + 4 ≤ k := fun W' hsW' => by
      have := Hs2.out
      refine ⟨fun k h => ?_, fun k h => ?_⟩
      · rcases h with h | h | h
        · exact .inl (hOO k h)
        · exact h.elim
        · exact .inr (.inr h)
      · rcases h with h | h | h
        · exact hO5 k h
        · exact h.elim
        · omega
    have Hkeeps := Lib.hid keeps
    have Hsub := Lib.hid sub
    clear keeps sub
    rintro e W' ⟨hk, (⟨rfl, hj'⟩ | ⟨rfl, hjx⟩)⟩
    · obtain ⟨s1, s2⟩ := Hsub.out W' hk.size
      have hfin : Hid (Keeps (fun k => k = W.heap.size + 1 ∨ A = some ⟨k, 0, none⟩) w2.heap.size O' (fun _ => False) V W' ∧ aI l0 J W (pre ++ [x]) (nextO O' (fun _ => False) V W') W') :=
        Lib.hid ⟨Hkeeps.out W' hk, _, hj', s1, s2, (World.cell?_of_block (hk.same W.heap.size (lt_of_cell hcy) (.inr ⟨Nat.le_refl _, fun h => by have := hO5 _ h; omega, fun h => h⟩))).trans hcy⟩
      clear s1 s2 hj' hk
      gi_wp2
      exact hfin.out
    · obtain ⟨s1, s2⟩ := Hsub.out W' hk.size
      have hfin : Hid (Keeps (fun k => k = W.heap.size + 1 ∨ A = some ⟨k, 0, none⟩) w2.heap.size O' (fun _ => False) V W' ∧ aX Jx W (.exit 0) (pre ++ [x]) (nextO O' (fun _ => False) V W') W') :=
        Lib.hid ⟨Hkeeps.out W' hk, rfl, _, s1, s2, hjx⟩
      clear s1 s2 hjx hk
      gi_wp2
      exact hfin.out
  case done =>
    rintro xs O' V hall ⟨O, hj, hOO, hO5, _⟩ hD
    have Hall := Lib.hid hall
    have hjD : J xs O (V.putObj w2.heap.size (.deferred none)) := hJ _ _ _ _ _ hj (putObj_grown V _ _) (fun r e => by cases e; exact ⟨by omega, fun h => by have := hO5 _ h; omega⟩)
    clear hall
    go_wp2
    refine hR.out _ _ _ _ (by simp) ?_
    refine ⟨by simp, .inl ⟨_, _, rfl, run_takeDeferred hD, ?_⟩⟩
    exact ⟨_, results_none rfl _ _ _, itEnd.all Hall.out hjD⟩
  case stop =>
    rintro c' pre' O' V hsp ⟨rfl, O, hOO, hO5, hjx⟩ hD
    have hOD : ∀ r, some w2.heap.size = some r → W.heap.size ≤ r ∧ ¬ O r := fun r e => by cases e; exact ⟨by omega, fun h => by have := hO5 _ h; omega⟩
    have hend : Hid (itEnd (allA (nz l)) (someA (nz l)) J Jx (.returned (.tuple #[])) (V.putObj w2.heap.size (.deferred none))) := Lib.hid (itEnd.part hsp (hJx _ _ _ _ _ hjx (putObj_grown V _ _) hOD))
    clear hsp hjx
    refine wpIn_wide.2 ?_
    go_wp2
    refine hR.out _ _ _ _ (by simp) ?_
    refine ⟨by simp, .inl ⟨_, _, rfl, run_takeDeferred hD, ?_⟩⟩
    exact ⟨_, results_none rfl _ _ _, hend.out⟩

def AllP (w : World) (ws : List Nat) (e : Ending) (w' : World) : Prop :=
  ∃ A c bw, e = .returned (.func (.func 38) #[] #[.pointer (some ⟨bw, 0, none⟩)]) ∧ w.heap.size ≤ bw ∧ (∀ g, A = some ⟨g, 0, none⟩ → w.heap.size ≤ g) ∧
    w'.cell? ⟨bw, 0, none⟩ = some (.slice A ws.length c) ∧ Src w' A ws ∧ Below w.heap.size w w'
theorem allF_non (v : Value) (w : World) (h : Non w v) : Calls Try.prog 20 #[v] w (AllP w []) := by
  have h1 := Lib.hid (there_non v _ (h.below (below1 w (.cells #[.slice none 0 0] 65))))
  obtain ⟨pv, rfl⟩ := h.ptr
  clear h
  go_enter Try.func20, Try.ntmps20
  go_wp2_with fail
  refine h1.out.mono ?_
  rintro e w1 ⟨rfl, rfl⟩
  go_wp2_with fail
  go_ret
  exact ⟨none, 0, w.heap.size, rfl, Nat.le_refl _, fun g h => by (cases h), cell_alloc_new _ _ _ _, .inl ⟨rfl, rfl⟩, below1 _ _⟩
theorem allF_rep (b g c : Nat) (l : Cs) (w : World) (h : Rep w b g c l) (hn : l.length ≤ 1024) : Calls Try.prog 20 #[bx b] w (AllP w (wordsOf l)) := by
  have hb1 := below1 w (.cells #[.slice none 0 0] 65)
  have hr := h.below hb1
  have hc := hr.cel
  have h1 := Lib.hid (there_at b _ _ _ _ hc)
  have h2 := Lib.hid (show Calls Try.prog 37 #[.slice (some ⟨g, 0, none⟩) l.length c] (w.alloc (.cells #[.slice none 0 0] 65)) (fun e w' => e = .returned (.slice (some ⟨w.heap.size + 1, 0, none⟩) l.length l.length) ∧ (∃ u, w'.cell? ⟨w.heap.size, 0, none⟩ = some u) ∧ w'.frozen? ⟨w.heap.size, 0, none⟩ = false ∧
      AllP w (wordsOf l) (.returned (.func (.func 38) #[] #[bx w.heap.size])) (w'.setCell ⟨w.heap.size, 0, none⟩ (.slice (some ⟨w.heap.size + 1, 0, none⟩) l.length l.length))) from by
    refine (words_any g l.length c l _ rfl hn hr.row).mono ?_
    rintro e w' ⟨rfl, hrow, hb⟩
    rw [World.size_alloc] at hrow
    have hbx := (Row.new w 65 [.slice none 0 0]).below hb
    refine ⟨by rw [World.size_alloc], ⟨_, hbx.cell 0⟩, hbx.frozen 0, some ⟨w.heap.size + 1, 0, none⟩, l.length, w.heap.size, rfl, Nat.le_refl _, fun g e => by simp at e; omega, ?_, .inr ⟨_, rfl, ?_⟩, ?_⟩
    · rw [wordsOf_len]
      exact (hbx.set 0 _).cell 0
    · exact hrow.same (heap_set (by omega))
    · exact (below0 hb1 hb).setCell (Nat.le_refl _) _)
  obtain ⟨n, hln⟩ : ∃ n, n = l.length := ⟨_, rfl⟩
  rw [← hln] at hc h2
  clear h hr hn hln hb1
  go_enter Try.func20, Try.ntmps20
  go_wp2_with fail
  refine h1.out.mono ?_
  rintro e w1 ⟨rfl, rfl⟩
  go_wp2_with fail
  refine h2.out.mono ?_
  rintro e w2 ⟨rfl, ⟨u, d1⟩, d2, hfin⟩
  have HF := Lib.hid hfin
  clear hfin h1 h2
  go_wp2_with fail
  go_ret
  exact HF.out
end Go.Proofs.Ytijgkjliienjhaa
