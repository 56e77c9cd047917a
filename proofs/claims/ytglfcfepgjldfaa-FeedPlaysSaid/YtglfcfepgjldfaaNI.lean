import Derived.Test.YtglfcfepgjldfaaNH
import Derived.Test.YtglfcfepgjldfaaFD
namespace Go.Proofs.Ytglfcfepgjldfaa.Fe
open Go.RowKit Go.Shelf
attribute [local go_sem] Oper.semAt_some

/- NO FEED: ITS PICKS; THE LAW's "NONE". -/
set_option maxHeartbeats 2000000 in
theorem picks1_non {w0 : World} {v : Value} (h : NonF w0 v) (z : Int) (s2 s3 : Nat) (hc2 : w0.cell? ⟨s2, 0, none⟩ = some v) (hc3 : w0.cell? ⟨s3, 0, none⟩ = some (.int .i64 z)) (Pv : Nat → Prop) (hP2 : Pv s2) (hP3 : Pv s3) (hPb : ∀ b, v = pb b → Pv b) :
    ItW Try.prog 46 #[pb s2, pb s3] encI (fun _ _ => False) (fun _ _ _ => False) Pv (fun _ => False) (fun xs _ => xs = []) (fun xs _ => xs = []) w0 := by
  intro l0 J Jx W hpW hsW hJ hJx hY h0
  have hW : NonF W v := by
    rcases h with rfl | ⟨b, rfl, hc⟩
    · exact .inl rfl
    · exact .inr ⟨b, rfl, (World.cell?_of_block (hpW b (hPb b rfl))).trans hc⟩
  have hW2 : W.cell? ⟨s2, 0, none⟩ = some v := (World.cell?_of_block (hpW s2 hP2)).trans hc2
  have hW3 : W.cell? ⟨s3, 0, none⟩ = some (.int .i64 z) := (World.cell?_of_block (hpW s3 hP3)).trans hc3
  have hb1 : Below W.heap.size W (W.alloc (.cells #[.func (.yield l0) #[] #[]] 70)) := below1 _ _
  have hx2 : (W.alloc (.cells #[.func (.yield l0) #[] #[]] 70)).cell? ⟨s2, 0, none⟩ = some v := (hb1.cell (p := ⟨s2, 0, none⟩) (lt_of_cell hW2)).trans hW2
  have hx3 : (W.alloc (.cells #[.func (.yield l0) #[] #[]] 70)).cell? ⟨s3, 0, none⟩ = some (.int .i64 z) := (hb1.cell (p := ⟨s3, 0, none⟩) (lt_of_cell hW3)).trans hW3
  have HA := Lib.hid (picked_non (hW.below hb1) z)
  obtain ⟨pv, rfl⟩ := h.ptr
  have HB := Lib.hid hb1
  clear hb1
  refine calls_marks Try.func46 rfl ?_
  simp only [Try.ntmps46, List.size_toArray, List.length_cons, List.length_nil, Nat.reduceAdd, Nat.reduceSub, Array.replicate_succ, Array.replicate_zero, List.push_toArray, List.append_toArray, List.nil_append, List.cons_append]
  go_wp2_with fail
  refine wp_scope_jump 0 fun R hR hJm => ?_
  go_wp2_with fail
  refine HA.out.mono ?_
  rintro e w2 ⟨rfl, hb2⟩
  have hB2 : Below W.heap.size W w2 := below0 HB.out hb2
  have hfin := Lib.hid (itEndW.all (S := fun xs _ => xs = []) (Sp := fun xs _ => xs = []) (Jx := Jx) (v := .tuple #[]) (xs := []) (O := fun _ => False) (W' := w2) (J := J) rfl (hJ _ _ _ _ none h0 (⟨hB2.os, hB2.tape, hB2.output, hB2.size, fun k hk _ => hB2.block k hk⟩) (fun r e => by cases e)))
  clear hB2 hb2 hx2 hx3
  go_wp2_with fail
  refine hR.out _ _ _ _ (by simp) ?_
  exact ⟨_, results_none rfl _ _ _, hfin.out⟩
def noI (w : World) (B : Nat) (pre : List Nat) (_ : Nat → Prop) (V : World) : Prop := pre = [] ∧ Boxed V (w.heap.size + 1) 61 (.slice none 0 0) ∧ Below w.heap.size w V ∧ B ≤ V.heap.size
theorem noI.abid {w : World} {B : Nat} (h : w.heap.size + 2 ≤ B) : AbidG B (fun _ => False) (noI w B) := by
  rintro pre O V V' row ⟨h1, h2, h3, h4⟩ hg hr
  have hne : ∀ k, k < B → some k ≠ row := fun k hk e => by
    rcases hr k e.symm with h | h
    · omega
    · exact h
  exact ⟨h1, h2.kept hg (hne _ (by omega)), ⟨hg.os.trans h3.os, hg.tape.trans h3.tape, hg.output.trans h3.output, Nat.le_trans h3.size hg.size, fun k hk => (hg.block k (Nat.lt_of_lt_of_le hk h3.size) (hne k (by omega))).trans (h3.block k hk)⟩, Nat.le_trans h4 hg.size⟩
set_option maxHeartbeats 4000000 in
theorem picks_non {w : World} {v : Value} (h : NonF w v) (z : Int) (most : Nat) :
    Calls Try.prog 25 #[v, .int .i64 z, .int .i64 (most : Int)] w fun e w' => e = .returned (.slice none 0 0) ∧ Below w.heap.size w w' := by
  have hN := h
  obtain ⟨pv, rfl⟩ := h.ptr
  clear h
  have hP := Lib.hid (fun W => (show Calls Try.prog 40 #[.pointer pv, .int .i64 z] W (fun e w' => ∃ lb s2 s3, e = .returned (.func (.func 46) #[] lb) ∧ lb = #[pb s2, pb s3] ∧ w'.cell? ⟨s2, 0, none⟩ = some (.pointer pv) ∧ w'.cell? ⟨s3, 0, none⟩ = some (.int .i64 z) ∧ s2 < w'.heap.size ∧ s3 < w'.heap.size ∧ Below W.heap.size W w') from
    (picks_fun pv z W).mono fun e w' ⟨e1, e2, e3, e4, e5⟩ => ⟨_, _, _, e1, rfl, e2, e3, by omega, by omega, e5⟩))
  refine calls_marks Try.func25 rfl ?_
  simp only [Try.ntmps25, List.size_toArray, List.length_cons, List.length_nil, Nat.reduceAdd, Nat.reduceSub, Array.replicate_succ, Array.replicate_zero, List.push_toArray, List.append_toArray, List.nil_append, List.cons_append]
  go_wp2_with fail
  refine (hP.out _).mono ?_
  rintro e w2 ⟨lb1, _, _, rfl, hlb1, _, _, _, _, hb1⟩
  clear hlb1
  have hnn2 := seq_nn lb1 w2
  have hs2 : w.heap.size + 2 ≤ w2.heap.size := by have := hb1.size; simpa using this
  have hL2 : Boxed w2 (w.heap.size + 1) 61 (.slice none 0 0) := (hb1.block _ (by simp only [World.size_alloc]; omega)).trans (by have := Boxed.new (w.alloc (.cells #[.int .i64 (most : Int)] 3)) 61 (.slice none 0 0); rwa [World.size_alloc] at this)
  have hB2 : Below w.heap.size w w2 := (below2 _ _ _).trans (hb1.mono (by simp only [World.size_alloc]; omega))
  clear hb1
  go_wp2_with fail
  refine (hP.out _).mono ?_
  rintro e w3 ⟨lb, s2, s3, rfl, hlb, hc2, hc3, hl2, hl3, hb2⟩
  have hB3 : Below w.heap.size w w3 := hB2.trans (hb2.mono (by omega))
  have hL3 : Boxed w3 (w.heap.size + 1) 61 (.slice none 0 0) := (hb2.block _ (by omega)).trans hL2
  have hit := picks1_non (hN.below hB3) z s2 s3 hc2 hc3 (fun k => k < w3.heap.size) hl2 hl3 (fun b e => by
    rcases hN with h | ⟨b', h, hc⟩
    · rw [h] at e; cases e
    · rw [h] at e; injection e with e; injection e with e; injection e with e; subst e; have := lt_of_cell hc; have := hB3.size; simp only at *; omega)
  rw [← hlb] at hit
  have hs3 : w.heap.size + 2 ≤ w3.heap.size := by have := hb2.size; omega
  clear hL2 hB2 hb2 hnn2 hc2 hc3 hlb hl2 hl3
  go_wp2_with fail
  refine wpIn_wide.1 (wpIn_range_itW (gf := 46) (lb := lb) rfl picks_ent hit (fun k hk => hk.elim) (fun xs V V' _ hp => hp) (fun xs V V' _ hp => hp) (fun k hk => hk) (fun _ => rfl) (fun _ _ _ _ _ h => h)
    (noI w w3.heap.size) (fun _ _ _ _ => False) (noI.abid (by omega)) (fun _ _ _ _ _ _ h => h.elim) ?h0
    ?a1 ?assign ?body ?done ?stop)
  case h0 => exact ⟨rfl, hL3, hB3, Nat.le_refl _⟩
  case assign =>
    intro l' x W' K hK
    simp only [encI]
    gi_wp2
    exact hK
  case body => exact fun _ _ _ _ _ _ _ _ h _ => h.elim
  case done =>
    rintro xs O V rfl ⟨_, hbx, hbl, hsz⟩ hD
    have hcv := hbx.cell
    have hfin := Lib.hid (show Below w.heap.size w (V.putObj w3.heap.size (.deferred none)) from hbl.grown (putObj_grown V w3.heap.size (.deferred none)) hbl.size (fun k e => by injection e with e; omega))
    clear hbx hbl hit hL3
    go_wp2
    refine ⟨by simp, .inl ⟨_, _, rfl, run_takeDeferred hD, ?_⟩⟩
    exact ⟨_, results_tmp (t := 6) rfl _ _ _, rfl, hfin.out⟩
  case stop => exact fun _ _ _ _ _ h _ => h.elim
theorem zero_non (w : World) : NonF (w.alloc (.cells #[.slice none 0 0, .int .i64 0] 54)) (pb w.heap.size) := .inr ⟨_, rfl, cell_alloc_new _ _ _ _⟩
theorem none_no (w : World) : Calls Try.prog 10 #[.bool false] w fun e w' => e = .returned (.bool true) ∧ Below w.heap.size w w' := by
  have H : Hid (∀ V, Below w.heap.size w V → NonF V (.pointer none)) := Lib.hid (fun _ _ => .inl rfl)
  go_enter Try.func10, Try.ntmps10
  have hb := Below.refl w.heap.size w
  go_wp2_with fail
  refine (pick_non (H.out _ hb) 1).mono ?_
  rintro e w1 ⟨rfl, hb'⟩
  have hb := below0 hb hb'
  clear hb'
  go_wp2_with fail
  refine (draw_non (H.out _ hb)).mono ?_
  rintro e w1 ⟨rfl, hb'⟩
  have hb := below0 hb hb'
  clear hb'
  go_wp2_with fail
  refine (take_non (H.out _ hb) 1).mono ?_
  rintro e w1 ⟨rfl, hb'⟩
  have hb := below0 hb hb'
  clear hb'
  go_wp2_with fail
  refine (seek_non (H.out _ hb) 0).mono ?_
  rintro e w1 ⟨rfl, hb'⟩
  have hb := below0 hb hb'
  clear hb'
  go_wp2_with fail
  refine (num_any 1 _).mono ?_
  rintro e w1 ⟨rfl, rfl⟩
  go_wp2_with fail
  refine (num_any 1 _).mono ?_
  rintro e w1 ⟨rfl, rfl⟩
  go_wp2_with fail
  refine (num_any 1 _).mono ?_
  rintro e w1 ⟨rfl, rfl⟩
  go_wp2_with fail
  refine (num_any 1 _).mono ?_
  rintro e w1 ⟨rfl, rfl⟩
  go_wp2_with fail
  refine (at_non (H.out _ hb)).mono ?_
  rintro e w1 ⟨rfl, hb'⟩
  have hb := below0 hb hb'
  clear hb'
  go_wp2_with fail
  refine (fleft_non (H.out _ hb)).mono ?_
  rintro e w1 ⟨rfl, hb'⟩
  have hb := below0 hb hb'
  clear hb'
  go_wp2_with fail
  refine (picks_non (H.out _ hb) 2 9).mono ?_
  rintro e w1 ⟨rfl, hb'⟩
  have hb := below0 hb hb'
  clear hb'
  go_wp2_with fail
  refine (copy_non (H.out _ hb)).mono ?_
  rintro e w1 ⟨rfl, hb'⟩
  have hb := below0 hb hb'
  clear hb'
  go_wp2_with fail
  refine (same_non (H.out _ hb) (.inl rfl)).mono ?_
  rintro e w1 ⟨rfl, hb'⟩
  have hb := below0 hb hb'
  clear hb'
  go_wp2_with fail
  go_ret
  exact ⟨rfl, hb⟩
theorem none_zero (w : World) : Calls Try.prog 10 #[.bool true] w fun e w' => e = .returned (.bool true) ∧ Below w.heap.size w w' := by
  have HZ := Lib.hid (zero_non w)
  have HB0 := Lib.hid (below1 w (.cells #[.slice none 0 0, .int .i64 0] 54))
  have H : Hid (∀ V, Below (w.alloc (.cells #[.slice none 0 0, .int .i64 0] 54)).heap.size (w.alloc (.cells #[.slice none 0 0, .int .i64 0] 54)) V → NonF V (pb w.heap.size)) := Lib.hid (fun _ h => HZ.out.below h)
  go_enter Try.func10, Try.ntmps10
  have hb := Below.refl (w.alloc (.cells #[.slice none 0 0, .int .i64 0] 54)).heap.size (w.alloc (.cells #[.slice none 0 0, .int .i64 0] 54))
  go_wp2_with fail
  refine (pick_non (H.out _ hb) 1).mono ?_
  rintro e w1 ⟨rfl, hb'⟩
  have hb := below0 hb hb'
  clear hb'
  go_wp2_with fail
  refine (draw_non (H.out _ hb)).mono ?_
  rintro e w1 ⟨rfl, hb'⟩
  have hb := below0 hb hb'
  clear hb'
  go_wp2_with fail
  refine (take_non (H.out _ hb) 1).mono ?_
  rintro e w1 ⟨rfl, hb'⟩
  have hb := below0 hb hb'
  clear hb'
  go_wp2_with fail
  refine (seek_non (H.out _ hb) 0).mono ?_
  rintro e w1 ⟨rfl, hb'⟩
  have hb := below0 hb hb'
  clear hb'
  go_wp2_with fail
  refine (num_any 1 _).mono ?_
  rintro e w1 ⟨rfl, rfl⟩
  go_wp2_with fail
  refine (num_any 1 _).mono ?_
  rintro e w1 ⟨rfl, rfl⟩
  go_wp2_with fail
  refine (num_any 1 _).mono ?_
  rintro e w1 ⟨rfl, rfl⟩
  go_wp2_with fail
  refine (num_any 1 _).mono ?_
  rintro e w1 ⟨rfl, rfl⟩
  go_wp2_with fail
  refine (at_non (H.out _ hb)).mono ?_
  rintro e w1 ⟨rfl, hb'⟩
  have hb := below0 hb hb'
  clear hb'
  go_wp2_with fail
  refine (fleft_non (H.out _ hb)).mono ?_
  rintro e w1 ⟨rfl, hb'⟩
  have hb := below0 hb hb'
  clear hb'
  go_wp2_with fail
  refine (picks_non (H.out _ hb) 2 9).mono ?_
  rintro e w1 ⟨rfl, hb'⟩
  have hb := below0 hb hb'
  clear hb'
  go_wp2_with fail
  refine (copy_non (H.out _ hb)).mono ?_
  rintro e w1 ⟨rfl, hb'⟩
  have hb := below0 hb hb'
  clear hb'
  go_wp2_with fail
  refine (same_non (H.out _ hb) (.inl rfl)).mono ?_
  rintro e w1 ⟨rfl, hb'⟩
  have hb := below0 hb hb'
  clear hb'
  go_wp2_with fail
  go_ret
  exact ⟨rfl, below0 HB0.out hb⟩
theorem none_any (z : Bool) (w : World) : Calls Try.prog 10 #[.bool z] w fun e w' => e = .returned (.bool true) ∧ Below w.heap.size w w' := by
  cases z
  · exact none_no w
  · exact none_zero w
end Go.Proofs.Ytglfcfepgjldfaa.Fe
