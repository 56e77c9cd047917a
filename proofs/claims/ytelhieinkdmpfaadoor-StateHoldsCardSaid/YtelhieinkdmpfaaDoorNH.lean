import Derived.Test.YtelhieinkdmpfaaDoorNG
namespace Go.Proofs.YtelhieinkdmpfaaDoor.Sh
open Go.RowKit Go.Shelf
attribute [local go_sem] Oper.semAt_some

/- THE CODE's ALL. -/
theorem places_any (x : Int) (A : Option Addr) (n c : Nat) (w : World) : Calls Tryd.prog 43 #[.int .i64 x, .slice A n c] w fun e w' => e = .returned (.func (.func 45) #[] #[pb (w.heap.size + 1), pb w.heap.size]) ∧
    (w.alloc (.cells #[.int .i64 x] 23)).alloc (.cells #[.slice A n c] 37) = w' := by
  go_enter Tryd.func43, Tryd.ntmps43
  go_wp2
  go_ret
  exact ⟨rfl, rfl⟩
section
variable (l0 : Nat) (J Jx : List Nat → (Nat → Prop) → World → Prop) (W : World)
/-- what holds between two rounds of the inner loop -/
def aI (pre : List Nat) (O' : Nat → Prop) (V : World) : Prop :=
  ∃ O, J pre O V ∧ (∀ k, O k → O' k) ∧ (∀ k, O k → W.heap.size + 5 ≤ k) ∧ V.cell? ⟨W.heap.size, 0, none⟩ = some (.func (.yield l0) #[] #[])
/-- what holds where a round has said no more -/
def aX (c' : Code) (pre' : List Nat) (O' : Nat → Prop) (V : World) : Prop :=
  c' = .exit 0 ∧ ∃ O, (∀ k, O k → O' k) ∧ (∀ k, O k → W.heap.size + 5 ≤ k) ∧ Jx pre' O V
end
set_option maxHeartbeats 2000000 in
theorem all1_it (bs bx n c : Nat) (A : Option Addr) (x : Int) (l : Ls) (w0 : World) (h : Plc w0 bs bx A n c x l) (hn : l.length = n) (hm : n ≤ 256) :
    It Tryd.prog 42 #[pb bx, pb bs] encN (fun _ _ => False) (preN (places l x)) (pvP bs bx A) (allN (places l x)) (someN (places l x)) w0 := by
  intro l0 J Jx W hpW hsW hJ hJx hY h0
  have hp := h.same hpW
  have hpl := hp.lt
  have hb1 := below1 W (.cells #[.func (.yield l0) #[] #[]] 24)
  have ac := (World.cell?_alloc_lt W (.cells #[.func (.yield l0) #[] #[]] 24) _ (lt_of_cell hp.cs)).trans hp.cs
  have ax := (World.cell?_alloc_lt W (.cells #[.func (.yield l0) #[] #[]] 24) _ (lt_of_cell hp.cx)).trans hp.cx
  refine calls_marks Tryd.func42 rfl ?_
  simp only [Tryd.ntmps42, List.size_toArray, List.length_cons, List.length_nil, Nat.reduceAdd, Nat.reduceSub, Array.replicate_succ, Array.replicate_zero, List.push_toArray, List.append_toArray, List.nil_append, List.cons_append]
  go_wp2_with fail
  refine wp_scope_jump 0 fun R hR hJm => ?_
  go_wp2_with fail
  go_step3
  go_wp2_with fail
  refine (places_any _ _ _ _ _).mono ?_
  rintro e w2' ⟨rfl, rfl⟩
  obtain ⟨w2, hw2⟩ : ∃ w2, w2 = ((W.alloc (.cells #[.func (.yield l0) #[] #[]] 24)).alloc (.cells #[.int .i64 x] 23)).alloc (.cells #[.slice A n c] 37) := ⟨_, rfl⟩
  have hsz2 : w2.heap.size = W.heap.size + 3 := by rw [hw2]; simp
  have hb2 : Below W.heap.size W w2 := by rw [hw2]; exact below3 _ _ _ _
  have hcy : w2.cell? ⟨W.heap.size, 0, none⟩ = some (.func (.yield l0) #[] #[]) := by
    rw [hw2, World.cell?_alloc_lt _ _ _ (by simp; omega), World.cell?_alloc_lt _ _ _ (by simp)]
    exact cell_alloc_new _ _ _ _
  have hpp : Plc w2 (W.heap.size + 2) (W.heap.size + 1) A n c x l := by
    refine ⟨?_, ?_, fun g e => (by obtain ⟨rest, hr⟩ := hp.row g e; exact ⟨rest, hr.below hb2⟩), hp.ne⟩
    · rw [hw2]
      exact cell_new_at _ _ _ _ (by simp)
    · rw [hw2, World.cell?_alloc_lt _ _ _ (by simp)]
      exact cell_new_at _ _ _ _ (by simp)
  have hj2 : J [] (fun _ => False) w2 := hJ.below h0 hb2
  have hit := places1_it (W.heap.size + 2) (W.heap.size + 1) n c A x l w2 hpp hn hm
  have hpl2 : ∀ k, pvP (W.heap.size + 2) (W.heap.size + 1) A k → k < w2.heap.size ∧ (k = W.heap.size + 2 ∨ k = W.heap.size + 1 ∨ pvP bs bx A k) := by
    rintro k (rfl | rfl | e)
    · exact ⟨by omega, .inl rfl⟩
    · exact ⟨by omega, .inr (.inl rfl)⟩
    · have := hpl k (.inr (.inr e)); exact ⟨by omega, .inr (.inr (.inr (.inr e)))⟩
  have e4 : (W.alloc (.cells #[.func (.yield l0) #[] #[]] 24)).heap.size = W.heap.size + 1 := by simp
  rw [e4, ← hw2]
  clear hw2 ac ax hb1 e4
  go_wp2_with fail
  refine wpIn_wide.1 (wpIn_range_it (gf := 45) (lb := #[pb (W.heap.size + 2), pb (W.heap.size + 1)]) rfl (enters_of Tryd.func45 (by kernel_rfl) rfl) hit (fun k hk => (hpl2 k hk).1) (fun _ => rfl) (fun _ _ _ _ _ h => h)
    (aI l0 J W) (aX Jx W) ?hI ?hIx ?h0
    (fun i => { tmps := #[.func (.yield l0) #[] #[], pb bx, pb bs, pb W.heap.size, .int .i64 (i : Int), .int .i64 x, .slice A n c, .func (.func 45) #[] #[pb (W.heap.size + 2), pb (W.heap.size + 1)], .int .i64 (i : Int), undef, undef, undef, undef], defers := [] }) ?assign ?body ?done ?stop)
  case assign =>
    intro l' i W' K hK
    simp only [encN]
    gi_wp2
    exact hK
  case h0 => exact ⟨fun _ => False, hj2, fun _ h => h.elim, fun _ h => h.elim, hcy⟩
  case hI =>
    rintro s' O' V V' row ⟨O, h2, h3, h4, h6⟩ hg hr
    have hne : ∀ k, k < w2.heap.size → some k ≠ row := fun k hk e => by have := (hr k e.symm).1; omega
    exact ⟨O, hJ _ _ _ _ row h2 hg (fun r e => ⟨by have := (hr r e).1; omega, fun h => (hr r e).2 (h3 r h)⟩), h3, h4, (World.cell?_of_block (hg.block _ (lt_of_cell h6) (hne W.heap.size (by omega)))).trans h6⟩
  case hIx =>
    rintro c' s' O' V V' row ⟨e0, O, h3, h4, hjx⟩ hg hr
    have hr' : ∀ r, row = some r → W.heap.size ≤ r ∧ ¬ O r := fun r e => ⟨by have := (hr r e).1; omega, fun h => (hr r e).2 (h3 r h)⟩
    exact ⟨e0, O, h3, h4, hJx _ _ _ _ row hjx hg hr'⟩
  case body =>
    rintro l' pre i O' V hVs hO' ⟨O, hj, hOO, hO5, hcy⟩ hpk _
    obtain ⟨fn, tmps, assign, body, hy, hR⟩ := hY pre i O V (by omega) (fun k h => by have := hO5 k h; have := hO' k (hOO k h); omega) hj hpk (fun b (h : False) => h.elim)
    have Hs2 := Lib.hid hsz2
    have HPL2 := Lib.hid hpl2
    have HVS := Lib.hid hVs
    simp only [encN] at hy
    clear hj2 hit hsz2 hpp hp h hpk hpl2 hVs
    gi_wp2
    refine ⟨rfl, ?_⟩
    refine hR.mono ?_
    have keeps : ∀ W', Keeps (pvP bs bx A) W.heap.size O (fun _ => False) V W' → Keeps (pvP (W.heap.size + 2) (W.heap.size + 1) A) w2.heap.size O' (fun _ => False) V W' := fun W' hk => by
      have := Hs2.out
      refine ⟨hk.size, fun k hkl hp => ?_⟩
      rcases hp with h | ⟨h, h2, _⟩
      · rcases (HPL2.out k h).2 with rfl | rfl | h3
        · exact hk.same _ hkl (.inr ⟨by omega, fun ho => by have := hO5 _ ho; omega, fun h => h⟩)
        · exact hk.same _ hkl (.inr ⟨by omega, fun ho => by have := hO5 _ ho; omega, fun h => h⟩)
        · exact hk.same k hkl (.inl h3)
      · exact hk.same k hkl (.inr ⟨by omega, fun ho => h2 (hOO k ho), fun h => h⟩)
    have sub : ∀ W', V.heap.size ≤ W'.heap.size → (∀ k, nextO O (fun _ => False) V W' k → nextO O' (fun _ => False) V W' k) ∧ ∀ k, nextO O (fun _ => False) V W' k → W.heap.size + 5 ≤ k := fun W' hsW' => by
      have := Hs2.out
      have := HVS.out
      refine ⟨fun k h => ?_, fun k h => ?_⟩
      · rcases h with h | h | h
        · exact .inl (hOO k h)
        · exact h.elim
        · exact .inr (.inr h)
      · rcases h with h | h | h
        · exact hO5 k h
        · exact h.elim
        · omega
    have Hkeeps := Lib.hid keeps
    have Hsub := Lib.hid sub
    clear keeps sub
    rintro e W' ⟨hk, (⟨rfl, hj'⟩ | ⟨rfl, hjx⟩)⟩
    · obtain ⟨s1, s2⟩ := Hsub.out W' hk.size
      have hfin : Hid (Keeps (pvP (W.heap.size + 2) (W.heap.size + 1) A) w2.heap.size O' (fun _ => False) V W' ∧ aI l0 J W (pre ++ [i]) (nextO O' (fun _ => False) V W') W') :=
        Lib.hid ⟨Hkeeps.out W' hk, _, hj', s1, s2, (World.cell?_of_block (hk.same W.heap.size (lt_of_cell hcy) (.inr ⟨Nat.le_refl _, fun h => by have := hO5 _ h; omega, fun h => h⟩))).trans hcy⟩
      clear s1 s2 hj' hk
      gi_wp2
      exact hfin.out
    · obtain ⟨s1, s2⟩ := Hsub.out W' hk.size
      have hfin : Hid (Keeps (pvP (W.heap.size + 2) (W.heap.size + 1) A) w2.heap.size O' (fun _ => False) V W' ∧ aX Jx W (.exit 0) (pre ++ [i]) (nextO O' (fun _ => False) V W') W') :=
        Lib.hid ⟨Hkeeps.out W' hk, rfl, _, s1, s2, hjx⟩
      clear s1 s2 hjx hk
      gi_wp2
      exact hfin.out
  case done =>
    rintro xs O' V hall ⟨O, hj, hOO, hO5, _⟩ hD
    have Hall := Lib.hid hall
    have hjD : J xs O (V.putObj w2.heap.size (.deferred none)) := hJ _ _ _ _ _ hj (putObj_grown V _ _) (fun r e => by cases e; exact ⟨by omega, fun h => by have := hO5 _ h; omega⟩)
    clear hall
    go_wp2
    refine hR.out _ _ _ _ (by simp) ?_
    refine ⟨by simp, .inl ⟨_, _, rfl, run_takeDeferred hD, ?_⟩⟩
    exact ⟨_, results_none rfl _ _ _, itEnd.all Hall.out hjD⟩
  case stop =>
    rintro c' pre' O' V hsp ⟨rfl, O, hOO, hO5, hjx⟩ hD
    have hOD : ∀ r, some w2.heap.size = some r → W.heap.size ≤ r ∧ ¬ O r := fun r e => by cases e; exact ⟨by omega, fun h => by have := hO5 _ h; omega⟩
    have hend : Hid (itEnd (allN (places l x)) (someN (places l x)) J Jx (.returned (.tuple #[])) (V.putObj w2.heap.size (.deferred none))) := Lib.hid (itEnd.part hsp (hJx _ _ _ _ _ hjx (putObj_grown V _ _) hOD))
    clear hsp hjx
    refine wpIn_wide.2 ?_
    go_wp2
    refine hR.out _ _ _ _ (by simp) ?_
    refine ⟨by simp, .inl ⟨_, _, rfl, run_takeDeferred hD, ?_⟩⟩
    exact ⟨_, results_none rfl _ _ _, hend.out⟩
theorem nn_func (a b : Nat) (V : World) : (binOp .eql 62 (.func (.func 42) #[] #[pb a, pb b]) .nilFunc).run Tryd.prog V = .ok (.bool false) V := by kernel_rfl
theorem all_gen (v : Value) (x : Int) (l : Ls) (A : Option Addr) (c0 : Nat) (w : World) (hm : l.length ≤ 256)
    (hs : ∀ W, Below w.heap.size w W → Calls Tryd.prog 35 #[v] W fun e w' => e = .returned (.slice A l.length c0) ∧ W = w')
    (hc : ∀ W, Below w.heap.size w W → Calls Tryd.prog 38 #[.slice A l.length c0] W fun e w' => ∃ B d, e = .returned (.slice B l.length d) ∧ (∀ g, B = some ⟨g, 0, none⟩ → W.heap.size ≤ g ∧ ∃ rest, Row w' g 23 (izs l ++ rest)) ∧ (l ≠ [] → ∃ g, B = some ⟨g, 0, none⟩) ∧ Below W.heap.size W w') :
    Calls Tryd.prog 28 #[v, .int .i64 x] w (AllP w (places l x)) := by
  obtain ⟨W1, hW1⟩ : ∃ W1, W1 = w.alloc (.cells #[.int .i64 x] 23) := ⟨_, rfl⟩
  have hb1 : Below w.heap.size w W1 := by rw [hW1]; exact below1 _ _
  have hx : W1.cell? ⟨w.heap.size, 0, none⟩ = some (.int .i64 x) := by rw [hW1]; exact cell_alloc_new _ _ _ _
  have HS := Lib.hid (hs W1 hb1)
  have HC := Lib.hid (hc W1 hb1)
  have HF : Hid (∀ (W2 : World) (B : Option Addr) (d : Nat), (∀ g, B = some ⟨g, 0, none⟩ → W1.heap.size ≤ g ∧ ∃ rest, Row W2 g 23 (izs l ++ rest)) → (l ≠ [] → ∃ g, B = some ⟨g, 0, none⟩) → Below W1.heap.size W1 W2 →
      AllP w (places l x) (.returned (.func (.func 42) #[] #[pb w.heap.size, pb W2.heap.size])) (W2.alloc (.cells #[.slice B l.length d] 38))) := Lib.hid (fun W2 B d h1 h2 h3 => by
    have hbw : Below w.heap.size w W2 := below0 hb1 h3
    have hwl : w.heap.size < W1.heap.size := lt_of_cell hx
    have hs2 := h3.size
    have hk : Below W2.heap.size W2 (W2.alloc (.cells #[.slice B l.length d] 38)) := below1 W2 _
    have hrow := Row.new W2 38 [.slice B l.length d]
    have hP : Plc (W2.alloc (.cells #[.slice B l.length d] 38)) W2.heap.size w.heap.size B l.length d x l :=
      ⟨hrow.cell 0, (hk.cell (p := ⟨w.heap.size, 0, none⟩) (by show w.heap.size < _; omega)).trans ((h3.cell (p := ⟨w.heap.size, 0, none⟩) hwl).trans hx), fun g e => by
        obtain ⟨_, rest, hr⟩ := h1 g e
        exact ⟨rest, hr.below hk⟩, h2⟩
    refine ⟨_, _, pvP W2.heap.size w.heap.size B, rfl, enters_of Tryd.func42 (by kernel_rfl) rfl, nn_func _ _, all1_it _ _ _ _ B x l _ hP rfl hm, fun k hk2 => ⟨?_, hP.lt k hk2⟩, below0 hbw hk⟩
    rcases hk2 with rfl | rfl | e
    · omega
    · exact Nat.le_refl _
    · have := (h1 k e).1
      omega)
  obtain ⟨L, hL⟩ : ∃ L, L = places l x := ⟨_, rfl⟩
  rw [← hL] at HF ⊢
  obtain ⟨n, hn⟩ : ∃ n, n = l.length := ⟨_, rfl⟩
  rw [← hn] at HS HC HF
  have HW1 := Lib.hid hW1
  clear hL hb1 hx hs hc hW1 hm hn
  go_enter Tryd.func28, Tryd.ntmps28
  go_wp2_with fail
  rw [← HW1.out]
  refine HS.out.mono ?_
  rintro e w1 ⟨rfl, rfl⟩
  go_wp2_with fail
  refine HC.out.mono ?_
  rintro e w2 ⟨B, d, rfl, h1, h2, h3⟩
  have HFIN := Lib.hid (HF.out w2 B d h1 h2 h3)
  clear h1 h2 h3 HF HC HS
  go_wp2_with fail
  go_ret
  exact HFIN.out
theorem clone_nil (w : World) : Calls Tryd.prog 38 #[.slice none 0 0] w fun e w' => e = .returned (.slice none 0 0) ∧ w = w' := by
  have hnn : ∀ W, (binOp .eql 38 (.slice none 0 0) (.slice none 0 0)).run Tryd.prog W = .ok (.bool true) W := fun W => by kernel_rfl
  go_enter Tryd.func38, Tryd.ntmps38
  go_wp2_with fail
  go_ret
  exact ⟨rfl, rfl⟩
section
variable {w : World} {v : Value} {l : Ls} {F G : Nat → Prop}
theorem sall (x : Int) (h : HasS w v l F) : Calls Tryd.prog 28 #[v, .int .i64 x] w (AllP w (places l x)) := by
  obtain ⟨b, g, c, rest, rfl, h, rfl⟩ := h
  refine all_gen (pb b) x l (some ⟨g, 0, none⟩) c w h.most (fun W hb => slots_at b _ _ _ W (h.below hb).c0) (fun W hb => ?_)
  refine (clone_any ⟨g, 0, none⟩ l.length c l W rfl (by have := h.most; omega) (h.below hb).sees).mono ?_
  rintro e w' ⟨g', c', rest', rfl, h1, h2, h3, h4⟩
  exact ⟨_, c', rfl, fun k e => by cases e; exact ⟨h2, rest', h3⟩, fun _ => ⟨g', rfl⟩, h4⟩
theorem all_non (x : Int) (h : NonS w v G) : Calls Tryd.prog 28 #[v, .int .i64 x] w (AllP w []) := by
  refine all_gen v x [] none 0 w (by simp) (fun W hb => slots_non v G W (nons_below h hb)) (fun W hb => ?_)
  refine (clone_nil W).mono ?_
  rintro e w' ⟨rfl, rfl⟩
  exact ⟨none, 0, rfl, fun k e => (by cases e), fun h => absurd rfl h, Below.refl _ _⟩
end
end Go.Proofs.YtelhieinkdmpfaaDoor.Sh
