import Derived.Test.YtmifkbjdamhoiaaDoorRise
namespace Go.Proofs.YtmifkbjdamhoiaaDoor
open Go.RowKit Go.Shelf
attribute [local go_sem] Oper.semAt_some

theorem rising_any (s f : Nat) (w : World) : Calls Tryd.prog 47 #[hv s f] w fun e w' =>
    e = .returned (.func (.func 48) #[] #[.pointer (some ⟨w.heap.size, 0, none⟩)]) ∧ w.alloc (.cells #[.int .u64 (s : Int), .int .u64 (f : Int)] 53) = w' := by
  go_enter Tryd.func47, Tryd.ntmps47
  go_wp2
  go_ret
  exact ⟨rfl, rfl⟩

def preStep (f s u : Nat) (pre : List Nat) (x : Nat) (_ : World) : Prop := x = stepk f s pre.length ∧ x < u ∧ 0 < s
def allStep (f s u : Nat) (xs : List Nat) : Prop := xs = (List.range xs.length).map (stepk f s) ∧ (s = 0 → xs = []) ∧ (∀ x ∈ xs, x < u) ∧ (0 < s → u ≤ stepk f s xs.length)
def someStep (f s u : Nat) (xs : List Nat) : Prop := xs = (List.range xs.length).map (stepk f s) ∧ 0 < s ∧ ∀ x ∈ xs, x < u

section
variable (u : Nat) (l0 : Nat) (J Jx : List Nat → (Nat → Prop) → World → Prop) (W : World) (bu : Nat)
/-- what holds between two rounds of the inner loop -/
def stI (pre : List Nat) (O' : Nat → Prop) (V : World) : Prop :=
  ∃ O, J pre O V ∧ (∀ k, O k → O' k) ∧ (∀ k, O k → W.heap.size + 4 ≤ k) ∧ (∀ x ∈ pre, x < u) ∧
    V.cell? ⟨W.heap.size, 0, none⟩ = some (.func (.yield l0) #[] #[]) ∧ V.cell? ⟨bu, 0, none⟩ = some (.int .u64 (u : Int))
/-- what holds where a round has said no more, or the bound is reached -/
def stX (c' : Code) (pre' : List Nat) (O' : Nat → Prop) (V : World) : Prop :=
  c' = .exit 0 ∧ ∃ O, (∀ k, O k → O' k) ∧ (∀ k, O k → W.heap.size + 4 ≤ k) ∧ ((∃ pre x, pre' = pre ++ [x] ∧ u ≤ x ∧ (∀ y ∈ pre, y < u) ∧ J pre O V) ∨ ((∀ y ∈ pre', y < u) ∧ Jx pre' O V))
end

set_option maxHeartbeats 2000000 in
theorem step1_it (f s u bn bu : Nat) (w0 : World) (hf : f < big) (hs : s < big) (hu : u < big) (hcs : w0.cell? ⟨bn, 0, none⟩ = some (.int .u64 (s : Int))) (hcf : w0.cell? ⟨bn, 1, none⟩ = some (.int .u64 (f : Int))) (hcu : w0.cell? ⟨bu, 0, none⟩ = some (.int .u64 (u : Int))) :
    It Tryd.prog 46 #[.pointer (some ⟨bn, 0, none⟩), .pointer (some ⟨bu, 0, none⟩)] encNum (fun _ _ => False) (preStep f s u) (fun k => k = bn ∨ k = bu) (allStep f s u) (someStep f s u) w0 := by
  intro l0 J Jx W hpW hsW hJ hJx hY h0
  have hbn : bn < w0.heap.size := lt_of_cell hcs
  have hbu : bu < w0.heap.size := lt_of_cell hcu
  have hWs : W.cell? ⟨bn, 0, none⟩ = some (.int .u64 (s : Int)) := (World.cell?_of_block (hpW bn (.inl rfl))).trans hcs
  have hWf : W.cell? ⟨bn, 1, none⟩ = some (.int .u64 (f : Int)) := (World.cell?_of_block (hpW bn (.inl rfl))).trans hcf
  have hWu : W.cell? ⟨bu, 0, none⟩ = some (.int .u64 (u : Int)) := (World.cell?_of_block (hpW bu (.inr rfl))).trans hcu
  have has : (W.alloc (.cells #[.func (.yield l0) #[] #[]] 39)).cell? ⟨bn, 0, none⟩ = some (.int .u64 (s : Int)) := (World.cell?_alloc_lt _ _ _ (by simp; omega)).trans hWs
  have haf : (W.alloc (.cells #[.func (.yield l0) #[] #[]] 39)).cell? ⟨bn, 1, none⟩ = some (.int .u64 (f : Int)) := (World.cell?_alloc_lt _ _ _ (by simp; omega)).trans hWf
  refine calls_marks Tryd.func46 rfl ?_
  simp only [Tryd.ntmps46, List.size_toArray, List.length_cons, List.length_nil, Nat.reduceAdd, Nat.reduceSub, Array.replicate_succ, Array.replicate_zero, List.push_toArray, List.append_toArray, List.nil_append, List.cons_append]
  go_wp2_with fail
  refine wp_scope_jump 0 fun R hR hJm => ?_
  go_wp2_with fail
  go_step3
  go_wp2_with fail
  refine (rising_any s f _).mono ?_
  rintro e w2' ⟨rfl, rfl⟩
  obtain ⟨w2, hw2⟩ : ∃ w2, w2 = (W.alloc (.cells #[.func (.yield l0) #[] #[]] 39)).alloc (.cells #[.int .u64 (s : Int), .int .u64 (f : Int)] 53) := ⟨_, rfl⟩
  have hsz2 : w2.heap.size = W.heap.size + 2 := by rw [hw2]; simp
  have hb2 : Below W.heap.size W w2 := by rw [hw2]; exact below2 _ _ _
  have hcy : w2.cell? ⟨W.heap.size, 0, none⟩ = some (.func (.yield l0) #[] #[]) := by
    rw [hw2, World.cell?_alloc_lt _ _ _ (by simp)]
    exact cell_alloc_new _ _ _ _
  have hcs2 : w2.cell? ⟨W.heap.size + 1, 0, none⟩ = some (.int .u64 (s : Int)) := by
    rw [hw2]
    exact cell_new_at _ _ _ _ (by simp)
  have hcf2 : w2.cell? ⟨W.heap.size + 1, 1, none⟩ = some (.int .u64 (f : Int)) := by
    rw [hw2]
    exact cell_new_at _ _ _ _ (by simp)
  have hcu2 : w2.cell? ⟨bu, 0, none⟩ = some (.int .u64 (u : Int)) := (hb2.cell (by simp; omega)).trans hWu
  have hj2 : J [] (fun _ => False) w2 := hJ.below h0 hb2
  have hit := rise1_it f s (W.heap.size + 1) w2 hf hs hcs2 hcf2
  rw [← hw2]
  clear hw2 has haf
  go_wp2_with fail
  refine wpIn_wide.1 (wpIn_range_it (gf := 48) (lb := #[.pointer (some ⟨W.heap.size + 1, 0, none⟩)]) rfl (enters_of Tryd.func48 (by kernel_rfl) rfl) hit (by rintro k rfl; omega) (fun _ => rfl) (fun _ _ _ _ _ h => h)
    (stI u l0 J W bu) (stX u J Jx W) ?hI ?hIx ?h0
    (fun x => { tmps := #[.func (.yield l0) #[] #[], .pointer (some ⟨bn, 0, none⟩), .pointer (some ⟨bu, 0, none⟩), .pointer (some ⟨W.heap.size, 0, none⟩), .int .u64 (x : Int), .agg #[.int .u64 (s : Int), .int .u64 (f : Int)], .func (.func 48) #[] #[.pointer (some ⟨W.heap.size + 1, 0, none⟩)], .int .u64 (x : Int), undef, undef, undef, undef, undef, undef, undef, undef, undef], defers := [] }) ?assign ?body ?done ?stop)
  case assign =>
    intro l' x W' K hK
    simp only [encNum]
    gi_wp2
    exact hK
  case h0 => exact ⟨fun _ => False, hj2, fun _ h => h.elim, fun _ h => h.elim, by simp, hcy, hcu2⟩
  case hI =>
    rintro s' O' V V' row ⟨O, h2, h3, h4, h5, h6, h7⟩ hg hr
    have hne : ∀ k, k < w2.heap.size → some k ≠ row := fun k hk e => by have := (hr k e.symm).1; omega
    exact ⟨O, hJ _ _ _ _ row h2 hg (fun r e => ⟨by have := (hr r e).1; omega, fun h => (hr r e).2 (h3 r h)⟩), h3, h4, h5, (World.cell?_of_block (hg.block _ (lt_of_cell h6) (hne W.heap.size (by omega)))).trans h6, (World.cell?_of_block (hg.block _ (lt_of_cell h7) (hne bu (by omega)))).trans h7⟩
  case hIx =>
    rintro c' s' O' V V' row ⟨e0, O, h3, h4, hd⟩ hg hr
    have hr' : ∀ r, row = some r → W.heap.size ≤ r ∧ ¬ O r := fun r e => ⟨by have := (hr r e).1; omega, fun h => (hr r e).2 (h3 r h)⟩
    refine ⟨e0, O, h3, h4, ?_⟩
    rcases hd with ⟨pre, x, e1, e2, e3, hj⟩ | ⟨e3, hjx⟩
    · exact .inl ⟨pre, x, e1, e2, e3, hJ _ _ _ _ row hj hg hr'⟩
    · exact .inr ⟨e3, hJx _ _ _ _ row hjx hg hr'⟩
  case body =>
    rintro l' pre x O' V hVs hO' ⟨O, hj, hOO, hO5, hpu, hcy, hcu⟩ ⟨hx, hxb, hs1⟩ _
    have Hx := Lib.hid hx
    have Hs1 := Lib.hid hs1
    have Hs2 := Lib.hid hsz2
    have Hpu := Lib.hid hpu
    clear hx hsz2 hpu hxb hs1 hcs2 hcf2 hcu2 hj2 hit hWs hWf hWu hcs hcf h0 hf hs hu
    by_cases hux : u ≤ x
    · have hux2 : decide (u ≤ x) = true := decide_eq_true hux
      have Hux := Lib.hid hux
      clear hux
      gi_wp2
      refine ⟨(fun _ h => by cases h), ?_⟩
      gi_wp2
      exact ⟨Keeps.refl _, rfl, O, fun k h => .inl (hOO k h), hO5, .inl ⟨pre, x, rfl, Hux.out, Hpu.out, hj⟩⟩
    · have hux2 : decide (u ≤ x) = false := decide_eq_false hux
      have Hux := Lib.hid hux
      obtain ⟨fn, tmps, assign, body, hy, hR⟩ := hY pre x O V (by have := Hs2.out; omega) (fun k h => by have := hO5 k h; have := hO' k (hOO k h); omega) hj ⟨Hx.out, by omega, Hs1.out⟩ (fun b (h : False) => h.elim)
      clear hux
      simp only [encNum] at hy
      gi_wp2
      refine ⟨rfl, ?_⟩
      refine hR.mono ?_
      have keeps : ∀ W', Keeps (fun k => k = bn ∨ k = bu) W.heap.size O (fun _ => False) V W' → Keeps (fun k => k = W.heap.size + 1) w2.heap.size O' (fun _ => False) V W' := fun W' hk => by
        have := Hs2.out
        refine ⟨hk.size, fun k hkl hp => hk.same k hkl (.inr ⟨?_, ?_, fun h => h⟩)⟩
        · rcases hp with rfl | ⟨h, _⟩ <;> omega
        · intro ho
          rcases hp with rfl | ⟨_, h, _⟩
          · have := hO5 _ ho; omega
          · exact h (hOO k ho)
      have sub : ∀ W', V.heap.size ≤ W'.heap.size → (∀ k, nextO O (fun _ => False) V W' k → nextO O' (fun _ => False) V W' k) ∧ ∀ k, nextO O (fun _ => False) V W' k → W.heap.size + 4 ≤ k := fun W' hsW' => by
        have := Hs2.out
        refine ⟨fun k h => ?_, fun k h => ?_⟩
        · rcases h with h | h | h
          · exact .inl (hOO k h)
          · exact h.elim
          · exact .inr (.inr h)
        · rcases h with h | h | h
          · exact hO5 k h
          · exact h.elim
          · omega
      have hall : ∀ y ∈ pre ++ [x], y < u := fun y hy => by
        rcases List.mem_append.1 hy with h | h
        · exact Hpu.out y h
        · have := List.mem_singleton.1 h
          have := Hux.out
          omega
      have Hall := Lib.hid hall
      have Hkeeps := Lib.hid keeps
      have Hsub := Lib.hid sub
      clear hall keeps sub
      rintro e W' ⟨hk, (⟨rfl, hj'⟩ | ⟨rfl, hjx⟩)⟩
      · obtain ⟨s1, s2⟩ := Hsub.out W' hk.size
        have hfin : Hid (Keeps (fun k => k = W.heap.size + 1) w2.heap.size O' (fun _ => False) V W' ∧ stI u l0 J W bu (pre ++ [x]) (nextO O' (fun _ => False) V W') W') :=
          Lib.hid ⟨Hkeeps.out W' hk, _, hj', s1, s2, Hall.out, (World.cell?_of_block (hk.same W.heap.size (lt_of_cell hcy) (.inr ⟨Nat.le_refl _, fun h => by have := hO5 _ h; omega, fun h => h⟩))).trans hcy, (World.cell?_of_block (hk.same bu (lt_of_cell hcu) (.inl (.inr rfl)))).trans hcu⟩
        clear s1 s2 hj' hk
        gi_wp2
        exact hfin.out
      · obtain ⟨s1, s2⟩ := Hsub.out W' hk.size
        have hfin : Hid (Keeps (fun k => k = W.heap.size + 1) w2.heap.size O' (fun _ => False) V W' ∧ stX u J Jx W (.exit 0) (pre ++ [x]) (nextO O' (fun _ => False) V W') W') :=
          Lib.hid ⟨Hkeeps.out W' hk, rfl, _, s1, s2, .inr ⟨Hall.out, hjx⟩⟩
        clear s1 s2 hjx hk
        gi_wp2
        exact hfin.out
  case done =>
    rintro xs O' V ⟨hall, hsl, hge⟩ ⟨O, hj, hOO, hO5, hpu, _⟩ hD
    have hap : Hid (allStep f s u xs) := Lib.hid ⟨hall, hsl, hpu, fun h => by have := hge h; omega⟩
    have hjD : J xs O (V.putObj w2.heap.size (.deferred none)) := hJ _ _ _ _ _ hj (putObj_grown V _ _) (fun r e => by cases e; exact ⟨by omega, fun h => by have := hO5 _ h; omega⟩)
    clear hall hsl hge hpu
    go_wp2
    refine hR.out _ _ _ _ (by simp) ?_
    refine ⟨by simp, .inl ⟨_, _, rfl, run_takeDeferred hD, ?_⟩⟩
    exact ⟨_, results_none rfl _ _ _, itEnd.all hap.out hjD⟩
  case stop =>
    rintro c' pre' O' V ⟨hsc, hs1⟩ ⟨rfl, O, hOO, hO5, hd⟩ hD
    have hOD : ∀ r, some w2.heap.size = some r → W.heap.size ≤ r ∧ ¬ O r := fun r e => by cases e; exact ⟨by omega, fun h => by have := hO5 _ h; omega⟩
    have hend : Hid (itEnd (allStep f s u) (someStep f s u) J Jx (.returned (.tuple #[])) (V.putObj w2.heap.size (.deferred none))) := by
      rcases hd with ⟨pre, x, e1, e2, e3, hj⟩ | ⟨e3, hjx⟩
      · subst e1
        rw [List.length_append, List.length_singleton, List.range_succ, List.map_append, List.map_singleton] at hsc
        obtain ⟨h1, h2⟩ := List.append_inj' hsc rfl
        injection h2 with h2 _
        exact itEnd.all ⟨h1, fun h => by omega, e3, fun _ => by rw [← h2]; exact e2⟩ (hJ _ _ _ _ _ hj (putObj_grown V _ _) hOD)
      · exact itEnd.part ⟨hsc, hs1, e3⟩ (hJx _ _ _ _ _ hjx (putObj_grown V _ _) hOD)
    clear hsc hs1 hd
    refine wpIn_wide.2 ?_
    go_wp2
    refine hR.out _ _ _ _ (by simp) ?_
    refine ⟨by simp, .inl ⟨_, _, rfl, run_takeDeferred hD, ?_⟩⟩
    exact ⟨_, results_none rfl _ _ _, hend.out⟩
end Go.Proofs.YtmifkbjdamhoiaaDoor
