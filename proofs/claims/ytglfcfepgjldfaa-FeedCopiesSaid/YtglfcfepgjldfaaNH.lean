import Derived.Test.YtglfcfepgjldfaaNG
namespace Go.Proofs.Ytglfcfepgjldfaa.Fe
open Go.RowKit Go.Shelf
attribute [local go_sem] Oper.semAt_some

/- PICKS: THE ITERATOR THAT IS HANDED OUT. -/
def RestP (w : World) (b : Nat) (n : Nat) (e : Ending) (w' : World) : Prop := e = .returned (.func (.func 48) #[] #[pb w.heap.size, pb (w.heap.size + 1)]) ∧ w'.cell? ⟨w.heap.size, 0, none⟩ = some (pb b) ∧ w'.cell? ⟨w.heap.size + 1, 0, none⟩ = some (.int .i64 (n : Int)) ∧ w'.heap.size = w.heap.size + 2 ∧ Below w.heap.size w w'
theorem two_boxes (w : World) (x y : Value) (t t' : TypeId) : ((w.alloc (.cells #[x] t)).alloc (.cells #[y] t')).cell? ⟨w.heap.size, 0, none⟩ = some x ∧ ((w.alloc (.cells #[x] t)).alloc (.cells #[y] t')).cell? ⟨w.heap.size + 1, 0, none⟩ = some y ∧ ((w.alloc (.cells #[x] t)).alloc (.cells #[y] t')).heap.size = w.heap.size + 2 ∧ Below w.heap.size w ((w.alloc (.cells #[x] t)).alloc (.cells #[y] t')) :=
  ⟨(World.cell?_alloc_lt _ _ _ (by simp)).trans (cell_alloc_new _ _ _ _), cell_new_at _ _ _ _ (by simp), by simp, below2 _ _ _⟩
theorem rest_any (b n : Nat) (w : World) : Calls Try.prog 47 #[pb b, .int .i64 (n : Int)] w (RestP w b n) := by
  have hfin := Lib.hid (two_boxes w (pb b) (.int .i64 (n : Int)) 25 3)
  go_enter Try.func47, Try.ntmps47
  go_wp2_with fail
  go_ret
  exact ⟨rfl, hfin.out⟩
section
variable (l0 : Nat) (J Jx : List Nat → (Nat → Prop) → World → Prop) (W : World) (B : Nat)
/-- what holds between two rounds of the inner loop -/
def oI (pre : List Nat) (O' : Nat → Prop) (V : World) : Prop :=
  ∃ O, J pre O V ∧ (∀ k, O k → O' k) ∧ (∀ k, O k → B ≤ k) ∧ V.cell? ⟨W.heap.size, 0, none⟩ = some (.func (.yield l0) #[] #[])
/-- what holds where a round has said no more -/
def oX (c' : Code) (pre' : List Nat) (O' : Nat → Prop) (V : World) : Prop :=
  c' = .exit 0 ∧ ∃ O, (∀ k, O k → O' k) ∧ (∀ k, O k → B ≤ k) ∧ Jx pre' O V
end
theorem pa_keep {b g p : Nat} {l : List UInt8} {z : Int} {xs : List Nat} {V V' : World} (hk : ∀ k, fe2 b g k → V'.heap[k]? = V.heap[k]?) (h : PA HasF (pb b) l p z (fe2 b g) xs V) : PA HasF (pb b) l p z (fe2 b g) xs V' := by
  obtain ⟨h1, h2, b', g', e, h3, h4⟩ := h
  injection e with e
  injection e with e
  injection e with e
  subst e
  have hg' : fe2 b g g' := by rw [h4]; exact .inr rfl
  exact ⟨h1, h2, b, g', rfl, h3.same (hk b (.inl rfl)) (hk g' hg'), h4⟩
set_option maxHeartbeats 2000000 in
theorem picks1_it {w0 : World} {b g p : Nat} {l : List UInt8} (h : FRep w0 b g l p) (z : Int) (s2 s3 : Nat) (hc2 : w0.cell? ⟨s2, 0, none⟩ = some (pb b)) (hc3 : w0.cell? ⟨s3, 0, none⟩ = some (.int .i64 z)) (hn2 : s2 ≠ b) (hn3 : s3 ≠ b) :
    ItW Try.prog 46 #[pb s2, pb s3] encI (fun _ _ => False) (fun _ _ _ => True) (privR s2 s3 b g) (fe2 b g) (fun xs W => PA HasF (pb b) l p z (fe2 b g) xs W ∧ xs.length = cnt l p z) (PA HasF (pb b) l p z (fe2 b g)) w0 := by
  intro l0 J Jx W hpW hsW hJ hJx hY h0
  have hW : FRep W b g l p := h.same (hpW b (.inr (.inr (.inl rfl)))) (hpW g (.inr (.inr (.inr rfl))))
  have hW2 : W.cell? ⟨s2, 0, none⟩ = some (pb b) := (World.cell?_of_block (hpW s2 (.inl rfl))).trans hc2
  have hW3 : W.cell? ⟨s3, 0, none⟩ = some (.int .i64 z) := (World.cell?_of_block (hpW s3 (.inr (.inl rfl)))).trans hc3
  have hpl : ∀ k, privR s2 s3 b g k → k < W.heap.size := by
    rintro k (rfl | rfl | rfl | rfl)
    · exact lt_of_cell hW2
    · exact lt_of_cell hW3
    · exact hW.obj.lt
    · exact hW.row.lt
  obtain ⟨w1, hw1⟩ : ∃ w1, w1 = W.alloc (.cells #[.func (.yield l0) #[] #[]] 70) := ⟨_, rfl⟩
  have hs1 : w1.heap.size = W.heap.size + 1 := by rw [hw1]; simp
  have hb1 : Below W.heap.size W w1 := by rw [hw1]; exact below1 _ _
  have hcy : w1.cell? ⟨W.heap.size, 0, none⟩ = some (.func (.yield l0) #[] #[]) := by
    rw [hw1]
    exact cell_alloc_new _ _ _ _
  have hc21 : w1.cell? ⟨s2, 0, none⟩ = some (pb b) := (hb1.cell (p := ⟨s2, 0, none⟩) (lt_of_cell hW2)).trans hW2
  have hc31 : w1.cell? ⟨s3, 0, none⟩ = some (.int .i64 z) := (hb1.cell (p := ⟨s3, 0, none⟩) (lt_of_cell hW3)).trans hW3
  have HA := Lib.hid (picked_any (hW.below hb1) z)
  have hx2 := hc21
  have hx3 := hc31
  have HW1 := Lib.hid hw1
  rw [hw1] at hx2 hx3
  rw [hw1] at HA
  clear hw1
  have HS1 := Lib.hid (And.intro hs1 (And.intro hb1 (And.intro hcy (And.intro hc21 hc31))))
  clear hs1 hb1 hcy hc21 hc31
  refine calls_marks Try.func46 rfl ?_
  simp only [Try.ntmps46, List.size_toArray, List.length_cons, List.length_nil, Nat.reduceAdd, Nat.reduceSub, Array.replicate_succ, Array.replicate_zero, List.push_toArray, List.append_toArray, List.nil_append, List.cons_append]
  go_wp2_with fail
  refine wp_scope_jump 0 fun R hR hJm => ?_
  go_wp2_with fail
  refine HA.out.mono ?_
  rintro e w2 ⟨rfl, hb2⟩
  rw [← HW1.out] at hb2
  obtain ⟨hs1, hb1, hcy, hc21, hc31⟩ := HS1.out
  have hcy2 : w2.cell? ⟨W.heap.size, 0, none⟩ = some (.func (.yield l0) #[] #[]) := (hb2.cell (p := ⟨W.heap.size, 0, none⟩) (by show W.heap.size < _; omega)).trans hcy
  have hc22 : w2.cell? ⟨s2, 0, none⟩ = some (pb b) := (hb2.cell (p := ⟨s2, 0, none⟩) (lt_of_cell hc21)).trans hc21
  have hc32 : w2.cell? ⟨s3, 0, none⟩ = some (.int .i64 z) := (hb2.cell (p := ⟨s3, 0, none⟩) (lt_of_cell hc31)).trans hc31
  have hB2 : Below W.heap.size W w2 := below0 hb1 hb2
  have hs2 : W.heap.size + 1 ≤ w2.heap.size := by have := hb2.size; omega
  clear hb2 hb1 hcy hc21 hc31 hs1 HS1 hx2 hx3 HW1
  by_cases hz : okN z
  · obtain ⟨n, rfl⟩ : ∃ n : Nat, z = (n : Int) := ⟨z.toNat, by have := hz.1; omega⟩
    have hn1 : 1 ≤ n := by have := hz.1; omega
    have hn2' : n ≤ 256 := by have := hz.2; omega
    rw [if_pos hz]
    have HR := Lib.hid (rest_any b n w2)
    go_wp2_with fail
    refine wp_label ?_
    go_wp2_with fail
    refine HR.out.mono ?_
    rintro e w4 ⟨rfl, ha, hb, hs4, hb4⟩
    have hcy4 : w4.cell? ⟨W.heap.size, 0, none⟩ = some (.func (.yield l0) #[] #[]) := (hb4.cell (p := ⟨W.heap.size, 0, none⟩) (by show W.heap.size < _; omega)).trans hcy2
    have hB4 : Below W.heap.size W w4 := below0 hB2 (hb4.mono (Nat.le_refl _))
    have hj4 : J [] (fun _ => False) w4 := hJ _ _ _ _ none h0 (⟨hB4.os, hB4.tape, hB4.output, hB4.size, fun k hk _ => hB4.block k hk⟩) (fun r e => by cases e)
    have hV4 : FRep w4 b g l p := hW.below hB4
    have hlb : b < W.heap.size := hW.obj.lt
    have hlg : g < W.heap.size := hW.row.lt
    have hit := rest1_it hV4 n w2.heap.size (w2.heap.size + 1) hn1 hn2' ha hb (by omega) (by omega)
    have hpl4 : ∀ k, privR w2.heap.size (w2.heap.size + 1) b g k → k < w4.heap.size := by
      rintro k (rfl | rfl | rfl | rfl) <;> omega
    clear HR ha hb hcy2 hc22 hc32
    go_wp2_with fail
    refine wpIn_wide.1 (wpIn_range_itW (gf := 48) (lb := #[pb w2.heap.size, pb (w2.heap.size + 1)]) rfl (enters_of Try.func48 (by kernel_rfl) rfl) hit (fun k hk => by rcases hk with rfl | rfl; exact .inr (.inr (.inl rfl)); exact .inr (.inr (.inr rfl)))
      (fun xs V V' hV hp => ⟨pa_keep (fun k hk => hV k (by rcases hk with rfl | rfl; exact .inr (.inr (.inl rfl)); exact .inr (.inr (.inr rfl)))) hp.1, hp.2⟩) (fun xs V V' hV hp => pa_keep (fun k hk => hV k (by rcases hk with rfl | rfl; exact .inr (.inr (.inl rfl)); exact .inr (.inr (.inr rfl)))) hp)
      hpl4 (fun _ => rfl) (fun _ _ _ _ _ h => h)
      (oI l0 J W (w4.heap.size + 2)) (oX Jx (w4.heap.size + 2)) ?hI ?hIx ?h0
      ?a1 ?assign ?body ?done ?stop)
    case assign =>
      intro l' x W' K hK
      simp only [encI]
      gi_wp2
      exact hK
    case h0 => exact ⟨fun _ => False, hj4, fun _ h => h.elim, fun _ h => h.elim, hcy4⟩
    case hI =>
      rintro s' O' V V' row ⟨O, e2, e3, e4, e6⟩ hg hr
      have hne : some W.heap.size ≠ row := fun e => by
        rcases hr _ e.symm with h | h
        · omega
        · rcases h with h | h <;> omega
      exact ⟨O, hJ _ _ _ _ row e2 hg (fun r e => (hr r e).imp_left fun h => ⟨by omega, fun ho => h.2 (e3 r ho)⟩), e3, e4, (World.cell?_of_block (hg.block _ (lt_of_cell e6) hne)).trans e6⟩
    case hIx =>
      rintro c' s' O' V V' row ⟨e0, O, e3, e4, hjx⟩ hg hr
      exact ⟨e0, O, e3, e4, hJx _ _ _ _ row hjx hg (fun r e => (hr r e).imp_left fun h => ⟨by omega, fun ho => h.2 (e3 r ho)⟩)⟩
    case body =>
      rintro l' pre x O' V hVs hO' ⟨O, hj, hOO, hO5, hcyV⟩ _ _
      obtain ⟨fn, tmps, assign, body, hy, hRR⟩ := hY pre x O V (by omega) (fun k h => by have := hO5 k h; have := hO' k (hOO k h); omega) hj trivial (fun b (h : False) => h.elim)
      simp only [encI] at hy
      have Hs4 := Lib.hid (And.intro hs4 (And.intro hs2 (And.intro hlb hlg)))
      have HK : Hid (∀ W', Keeps (privR s2 s3 b g) W.heap.size O (fun _ => False) V W' → Keeps (privR w2.heap.size (w2.heap.size + 1) b g) w4.heap.size O' (fun _ => False) V W' ∧ (∀ k, nextO O (fun _ => False) V W' k → nextO O' (fun _ => False) V W' k) ∧ (∀ k, nextO O (fun _ => False) V W' k → w4.heap.size + 2 ≤ k) ∧ W'.cell? ⟨W.heap.size, 0, none⟩ = some (.func (.yield l0) #[] #[])) := Lib.hid (fun W' hk => by
        obtain ⟨hs4, hs2, hlb, hlg⟩ := Hs4.out
        refine ⟨⟨hk.size, fun k hkl hp => ?_⟩, fun k h => ?_, fun k h => ?_, (World.cell?_of_block (hk.same W.heap.size (lt_of_cell hcyV) (.inr ⟨Nat.le_refl _, fun h => by have := hO5 _ h; omega, fun h => h⟩))).trans hcyV⟩
        · rcases hp with (rfl | rfl | rfl | rfl) | ⟨h, h2, _⟩
          · exact hk.same _ hkl (.inr ⟨by omega, fun ho => by have := hO5 _ ho; omega, fun h => h⟩)
          · exact hk.same _ hkl (.inr ⟨by omega, fun ho => by have := hO5 _ ho; omega, fun h => h⟩)
          · exact hk.same _ hkl (.inl (.inr (.inr (.inl rfl))))
          · exact hk.same _ hkl (.inl (.inr (.inr (.inr rfl))))
          · exact hk.same k hkl (.inr ⟨by omega, fun ho => h2 (hOO k ho), fun h => h⟩)
        · rcases h with h | h | h
          · exact .inl (hOO k h)
          · exact h.elim
          · exact .inr (.inr h)
        · rcases h with h | h | h
          · exact hO5 k h
          · exact h.elim
          · omega)
      clear hj4 hit hpl4 hcy4 hV4 hW2 hW3 hc2 hc3 hB2 hB4 hb4 hs4 hs2 hlb hlg hj
      gi_wp2_with fail
      refine ⟨rfl, ?_⟩
      refine hRR.mono ?_
      rintro e W' ⟨hk, (⟨rfl, hj'⟩ | ⟨rfl, hjx⟩)⟩
      · obtain ⟨k1, k2, k3, k4⟩ := HK.out W' hk
        have hfin : Hid (Keeps (privR w2.heap.size (w2.heap.size + 1) b g) w4.heap.size O' (fun _ => False) V W' ∧ oI l0 J W (w4.heap.size + 2) (pre ++ [x]) (nextO O' (fun _ => False) V W') W') := Lib.hid ⟨k1, _, hj', k2, k3, k4⟩
        clear k1 k2 k3 k4 hk hj'
        gi_wp2
        exact hfin.out
      · obtain ⟨k1, k2, k3, k4⟩ := HK.out W' hk
        have hfin : Hid (Keeps (privR w2.heap.size (w2.heap.size + 1) b g) w4.heap.size O' (fun _ => False) V W' ∧ oX Jx (w4.heap.size + 2) (.exit 0) (pre ++ [x]) (nextO O' (fun _ => False) V W') W') := Lib.hid ⟨k1, rfl, _, k2, k3, hjx⟩
        clear k1 k2 k3 k4 hk hjx
        gi_wp2
        exact hfin.out
    case done =>
      rintro xs O' V hall ⟨O, hj, hOO, hO5, _⟩ hD
      have hjD : J xs O (V.putObj w4.heap.size (.deferred none)) := hJ _ _ _ _ _ hj (putObj_grown V _ _) (fun r e => by cases e; exact .inl ⟨by omega, fun h => by have := hO5 _ h; omega⟩)
      have Hall := Lib.hid (show PA HasF (pb b) l p (n : Int) (fe2 b g) xs (V.putObj w4.heap.size (.deferred none)) ∧ xs.length = cnt l p (n : Int) from ⟨pa_keep (fun k hk => World.putObj_heap_other (by rcases hk with rfl | rfl <;> omega)) hall.1, hall.2⟩)
      clear hall hj
      go_wp2
      refine hR.out _ _ _ _ (by simp) ?_
      refine ⟨by simp, .inl ⟨_, _, rfl, run_takeDeferred hD, ?_⟩⟩
      exact ⟨_, results_none rfl _ _ _, itEndW.all Hall.out hjD⟩
    case stop =>
      rintro c' pre' O' V hsp ⟨rfl, O, hOO, hO5, hjx⟩ hD
      have hend : Hid (itEndW (fun xs W => PA HasF (pb b) l p (n : Int) (fe2 b g) xs W ∧ xs.length = cnt l p (n : Int)) (PA HasF (pb b) l p (n : Int) (fe2 b g)) J Jx (.returned (.tuple #[])) (V.putObj w4.heap.size (.deferred none))) := Lib.hid (itEndW.part (pa_keep (fun k hk => World.putObj_heap_other (by rcases hk with rfl | rfl <;> omega)) hsp) (hJx _ _ _ _ _ hjx (putObj_grown V _ _) (fun r e => by cases e; exact .inl ⟨by omega, fun h => by have := hO5 _ h; omega⟩)))
      clear hsp hjx
      refine wpIn_wide.2 ?_
      go_wp2
      refine hR.out _ _ _ _ (by simp) ?_
      refine ⟨by simp, .inl ⟨_, _, rfl, run_takeDeferred hD, ?_⟩⟩
      exact ⟨_, results_none rfl _ _ _, hend.out⟩
  · rw [if_neg hz]
    have hfin := Lib.hid (itEndW.all (S := fun xs W => PA HasF (pb b) l p z (fe2 b g) xs W ∧ xs.length = cnt l p z) (Sp := PA HasF (pb b) l p z (fe2 b g)) (Jx := Jx) (v := .tuple #[]) (xs := []) (O := fun _ => False) (W' := w2) (J := J)
      ⟨⟨Nat.zero_le _, rfl, ⟨b, g, rfl, hW.below hB2, rfl⟩⟩, by rw [cnt, if_neg hz]; rfl⟩ (hJ _ _ _ _ none h0 (⟨hB2.os, hB2.tape, hB2.output, hB2.size, fun k hk _ => hB2.block k hk⟩) (fun r e => by cases e)))
    clear hB2 hcy2
    go_wp2_with fail
    refine hR.out _ _ _ _ (by simp) ?_
    exact ⟨_, results_none rfl _ _ _, hfin.out⟩
theorem seq_nn (lb : Array Value) (V : World) : (binOp .eql 77 (.func (.func 46) #[] lb) .nilFunc).run Try.prog V = .ok (.bool false) V := by kernel_rfl
theorem picks_ent (args : Array Value) (V : World) : (callFunc 46 args).run Try.prog V = .ok (.enter 46 args) V := enters_of Try.func46 (by kernel_rfl) rfl args V
def PicksP (w : World) (v : Value) (z : Int) (e : Ending) (w' : World) : Prop := e = .returned (.func (.func 46) #[] #[pb w.heap.size, pb (w.heap.size + 1)]) ∧ w'.cell? ⟨w.heap.size, 0, none⟩ = some v ∧ w'.cell? ⟨w.heap.size + 1, 0, none⟩ = some (.int .i64 z) ∧ w'.heap.size = w.heap.size + 2 ∧ Below w.heap.size w w'
theorem picks_fun (pv : Option Addr) (z : Int) (w : World) : Calls Try.prog 40 #[.pointer pv, .int .i64 z] w (PicksP w (.pointer pv) z) := by
  have hfin := Lib.hid (two_boxes w (.pointer pv) (.int .i64 z) 25 3)
  go_enter Try.func40, Try.ntmps40
  go_wp2_with fail
  go_ret
  exact ⟨rfl, hfin.out⟩
theorem fpicks {w : World} {v : Value} {l : List UInt8} {p : Nat} {F : Nat → Prop} (z : Int) (h : HasF w v l p F) : Calls Try.prog 40 #[v, .int .i64 z] w fun e w' => ∃ gf lb Pv, e = .returned (.func (.func gf) #[] lb) ∧ (∀ (args : Array Value) (V : World), (callFunc gf args).run Try.prog V = .ok (.enter gf args) V) ∧
    (∀ V : World, (binOp .eql 77 (.func (.func gf) #[] lb) .nilFunc).run Try.prog V = .ok (.bool false) V) ∧
    ItW Try.prog gf lb encI (fun _ _ => False) (fun _ _ _ => True) Pv F (fun xs W => PA HasF v l p z F xs W ∧ xs.length = cnt l p z) (PA HasF v l p z F) w' ∧ (∀ k, F k → Pv k) ∧ (∀ k, Pv k → F k ∨ (w.heap.size ≤ k ∧ k < w'.heap.size)) ∧ Below w.heap.size w w' := by
  obtain ⟨b, g, rfl, h, rfl⟩ := h
  have lb := h.obj.lt
  refine (picks_fun (some ⟨b, 0, none⟩) z w).mono ?_
  rintro e w' ⟨rfl, h1, h2, h3, h4⟩
  refine ⟨_, _, privR w.heap.size (w.heap.size + 1) b g, rfl, picks_ent, seq_nn _, picks1_it (h.below h4) z w.heap.size (w.heap.size + 1) h1 h2 (by omega) (by omega), fun k hk => .inr (.inr hk), ?_, h4⟩
  rintro k (rfl | rfl | hk)
  · exact .inr ⟨Nat.le_refl _, by omega⟩
  · exact .inr ⟨by omega, by omega⟩
  · exact .inl hk
theorem api : Api HasF where
  keep := fun ⟨b, g, e, h, hF⟩ hk => by subst hF; exact ⟨b, g, e, h.same (hk b (.inl rfl)) (hk g (.inr rfl)), rfl⟩
  lt := fun ⟨b, g, e, h, hF⟩ k hk => by
    subst hF
    rcases hk with rfl | rfl
    · exact h.obj.lt
    · exact h.row.lt
  sm := fun ⟨b, g, e, h, hF⟩ => ⟨h.le, by have := h.most; omega⟩
  ptr := fun ⟨b, g, e, h, hF⟩ => ⟨_, e⟩
  new := fun w A n c bs hs hl hn => (new_any w A n c bs hs hl hn).mono fun e w' ⟨b, g, e1, e2, e3, e4, e5⟩ => ⟨_, _, e1, ⟨b, g, rfl, e4, rfl⟩, fun k hk => by rcases hk with rfl | rfl; exact e2; exact e3, e5⟩
  pick := fun n h h1 h2 => fpick n h h1 h2
  pickNo := fun z h _ hz => fpick_no z h hz
  draw := fun h => fdraw h
  take := fun m h hm => ftake m h hm
  takeNo := fun z h _ hz => ftake_no z h hz
  seek := fun q h hq => fseek q h hq
  seekNo := fun z h _ hz => fseek_no z h hz
  at_ := fun h => fat h
  left := fun h => fleft h
  picks := fun z h _ => fpicks z h
  copy := fun h => fcopy h
  same := fun h h' => fsame h h'
  sameN := fun h => same_one h (.inl rfl)
  sameN' := fun h => same_two h (.inl rfl)
end Go.Proofs.Ytglfcfepgjldfaa.Fe
