import Derived.Test.YtkfljominljliaaGreatVl
namespace Go.Proofs.YtkfljominljliaaGreat.Vm
open Go.RowKit Go.Shelf Go.Maps Go.Sort
attribute [local go_sem] Oper.semAt_some

/- UNMAP. -/
theorem unmapN {w : World} {t : Nat} {l : Pg.Tb} {F : Nat → Prop} (h : Pg.Has w t l F) (z : Int) : Calls Tryz.prog 31 #[bx t, .int .i64 z] w fun e w' => e = .returned (.tuple #[Pg.enV (Pg.unmapX l z), .int .i64 (Pg.unmapE l z : Int)]) ∧ Pg.Next w t (Pg.unmapT l z) F w' := by
  by_cases hE : Pg.unmapE l z = 0
  · rw [hE]
    exact Pg.unmap_yes h z hE
  · exact Pg.unmap_no h z hE
theorem unmapX_i64 {l : Pg.Tb} (h : Pg.Tok l) (z : Int) : Pg.I64 (Pg.unmapX l z).2.2 := by
  unfold Pg.unmapX
  split
  · exact getX_i64 h z
  · simp [Pg.zeroEn, Pg.I64]
def unmE (p : Pl) (l : Pg.Tb) (z : Int) : Nat := if Pg.unmapE l z = 0 then giveE p (Pg.unmapX l z).2.2 else Pg.unmapE l z
def unmP (p : Pl) (l : Pg.Tb) (z : Int) : Pl := if Pg.unmapE l z = 0 then giveP p (Pg.unmapX l z).2.2 else p
set_option maxHeartbeats 1000000 in
theorem unmap_any {w : World} {b t q : Nat} {l : Pg.Tb} {p : Pl} {F1 F2 : Nat → Prop} (h : MRep w b t q l p F1 F2) (z : Int) :
    Calls Tryz.prog 10 #[bx b, .int .i64 z] w fun e w' => e = .returned (.int .i64 (unmE p l z : Int)) ∧ MNext w b t q (Pg.unmapT l z) (unmP p l z) F1 F2 w' := by
  have HE := Lib.hid (entries_any b t q w h.c0 h.c1)
  have HU := Lib.hid ((unmapN h.tab z).mono fun e w' ⟨e1, e2⟩ => (show e = Ending.returned (.tuple #[Pg.enV (Pg.unmapX l z), .int .i64 (Pg.unmapE l z : Int)]) ∧ MNext w b t q (Pg.unmapT l z) p F1 F2 w' from ⟨e1, MNext.tab h (Below.refl _ _) e2⟩))
  have hfi := unmapX_i64 h.tab.ok z
  unfold Pg.I64 at hfi
  have HFI := Lib.hid hfi
  unfold unmE unmP
  obtain ⟨l', hl'⟩ : ∃ l', l' = Pg.unmapT l z := ⟨_, rfl⟩
  rw [← hl'] at HU ⊢
  obtain ⟨⟨x1, x2, f⟩, hx⟩ : ∃ x, x = Pg.unmapX l z := ⟨_, rfl⟩
  rw [← hx] at HU HFI ⊢
  simp only [Pg.enV, Pg.enC] at HU HFI ⊢
  obtain ⟨E, hE⟩ : ∃ E, E = Pg.unmapE l z := ⟨_, rfl⟩
  rw [← hE] at HU ⊢
  clear hl' hx hE hfi h
  by_cases h0 : E = 0
  · subst h0
    rw [if_pos rfl, if_pos rfl]
    rw [show ((0 : Nat) : Int) = 0 from rfl] at HU
    obtain ⟨E, hE⟩ : ∃ E, E = giveE p f := ⟨_, rfl⟩
    rw [← hE]
    have HEE := Lib.hid hE
    clear hE
    go_enter Tryz.func10, Tryz.ntmps10
    go_wp2_with fail
    refine wp_scope_jump 1 fun R hR hJm => ?_
    go_wp2_with fail
    refine (HE.out).mono ?_
    rintro e w0 ⟨rfl, rfl⟩
    go_wp2_with fail
    refine (HU.out).mono ?_
    rintro e w1 ⟨rfl, F3, hm, hF3, hk⟩
    obtain ⟨W2, hW2⟩ : ∃ W2, W2 = w1.alloc (.cells #[.int .i64 x1, .int .i64 x2, .int .i64 f] 64) := ⟨_, rfl⟩
    have hb2 : Below w1.heap.size w1 W2 := by rw [hW2]; exact below1 _ _
    have hr2 : Row W2 w1.heap.size 64 [.int .i64 x1, .int .i64 x2, .int .i64 f] := by rw [hW2]; exact Row.new w1 64 [.int .i64 x1, .int .i64 x2, .int .i64 f]
    have HSS := Lib.hid (fun (W : World) (hb : Below W2.heap.size W2 W) => (show W.cell? ⟨b, 1, none⟩ = some (bx q) ∧ W.cell? ⟨w1.heap.size, 2, none⟩ = some (.int .i64 f) from ⟨(hm.below (below0 hb2 hb)).c1, (hr2.below hb).cell 2⟩))
    have HG := Lib.hid (fun (W : World) (hb : Below W2.heap.size W2 W) => (giveN (hm.below (below0 hb2 hb)).pool f HFI.out.2).mono fun e w' ⟨e1, e2⟩ => (show e = Ending.returned (Value.int .i64 (giveE p f : Int)) ∧ MNext w b t q l' (giveP p f) F1 F2 w' ∧ w'.cell? ⟨w1.heap.size, 2, none⟩ = some (Value.int .i64 f) from
      ⟨e1, MNext.trans hF3 hk (MNext.pool hm (below0 hb2 hb) e2), by
        obtain ⟨_, _, hkk, _⟩ := e2
        exact (hkk.cell (p := ⟨w1.heap.size, 2, none⟩) (by show w1.heap.size < _; have := hr2.lt; have := hb.size; omega) (fun hf => by have := hm.pool.lt _ hf; simp only at this; omega)).trans ((hr2.below hb).cell 2)⟩))
    rw [← HEE.out] at HG
    have HW := Lib.hid hW2
    clear hm hF3 hk hb2 hr2 hW2
    go_wp2_with fail
    rw [← HW.out]
    have hdr : Below W2.heap.size W2 W2.drew := (Below.refl _ _).drew
    refine wp_region_noPanic ?_
    refine wp_region_held_drew (S := fun W => W.cell? ⟨b, 1, none⟩ = some (bx q) ∧ W.cell? ⟨w1.heap.size, 2, none⟩ = some (.int .i64 f)) (by kernel_rfl) (HSS.out _ hdr) (fun hHeld => ?_)
    refine wpAnyH_take (i := 0) (v := ?_) rfl (by kernel_rfl) (by kernel_rfl) (by kernel_rfl) (fun _ _ _ h => h) (Or.inl ⟨by kernel_rfl, ?_⟩) hHeld ?_
    rotate_left
    focus (intro w hSw; (try dsimp only at hSw); go_simp; try with_reducible rfl)
    simp only [Act.put]
    refine wpAnyH_take (i := 1) (v := ?_) rfl (by kernel_rfl) (by kernel_rfl) (by kernel_rfl) (fun _ _ _ h => h) (Or.inl ⟨by kernel_rfl, ?_⟩) hHeld ?_
    rotate_left
    focus (intro w hSw; (try dsimp only at hSw); go_simp; try with_reducible rfl)
    simp only [Act.put]
    refine wpAnyH_take (i := 2) (v := ?_) rfl (by kernel_rfl) (by kernel_rfl) (by kernel_rfl) (fun _ _ _ h => h) (Or.inl ⟨by kernel_rfl, ?_⟩) hHeld ?_
    rotate_left
    focus (intro w hSw; (try dsimp only at hSw); go_simp; try with_reducible rfl)
    simp only [Act.put]
    refine wpAnyH_take (i := 3) (v := ?_) rfl (by kernel_rfl) (by kernel_rfl) (by kernel_rfl) (fun _ _ _ h => h) (Or.inl ⟨by kernel_rfl, ?_⟩) hHeld ?_
    rotate_left
    focus (intro w hSw; (try dsimp only at hSw); go_simp; try with_reducible rfl)
    simp only [Act.put]
    refine wpAnyH_take (i := 4) (v := ?_) rfl (by kernel_rfl) (by kernel_rfl) (by kernel_rfl) (fun _ _ _ h => h) (Or.inl ⟨by kernel_rfl, ?_⟩) hHeld ?_
    rotate_left
    focus (intro w hSw; (try dsimp only at hSw); go_simp; try with_reducible rfl)
    simp only [Act.put]
    refine wpAnyH_take (i := 5) (v := ?_) rfl (by kernel_rfl) (by kernel_rfl) (by kernel_rfl) (fun _ _ _ h => h) (Or.inl ⟨by kernel_rfl, ?_⟩) hHeld ?_
    rotate_left
    focus (intro w hSw; (try dsimp only at hSw); go_simp; try with_reducible rfl)
    simp only [Act.put]
    refine wpAnyH_ready (rs := [6]) (by kernel_rfl) (by simp) ?_
    refine AllReadyH.cons rfl (fun K hK => ?_) (AllReadyH.nil)
    go_simp
    refine (HG.out _ hdr).mono ?_
    rintro e W3 ⟨rfl, hn, hc3⟩
    have HS3 : W3.cell? ⟨b, 1, none⟩ = some (bx q) := by
      obtain ⟨F3, hm, _⟩ := hn
      exact hm.c1
    have HN := Lib.hid hn
    clear hn
    refine hK.out _ _ ⟨HS3, hc3⟩ (fun hHeld => ?_)
    clear hK K
    try simp only [Act.put]
    refine wpAnyH_ready (rs := [7]) (by kernel_rfl) (by simp) ?_
    refine AllReadyH.cons rfl (fun K hK => ?_) (AllReadyH.nil)
    go_simp
    refine hK.out _ _ ⟨HS3, hc3⟩ (fun hHeld => ?_)
    clear hK K
    try simp only [Act.put]
    refine wpAnyH_done (by kernel_rfl) ?_ _
    refine NoPanic.normal ?_
    clear HSS HG hc3 HS3 hdr
    go_wp2_with fail
    refine hR.out _ _ _ _ (by simp) ?_
    go_ret
    exact ⟨rfl, HN.out⟩
  · rw [if_neg h0, if_neg h0]
    have e0 : (((E : Int)) == 0) = false := by rw [beq_eq_false_iff_ne]; omega
    have e1 : ¬ ((E : Int) = 0) := by omega
    clear h0
    go_enter Tryz.func10, Tryz.ntmps10
    go_wp2_with fail
    refine wp_scope_jump 1 fun R hR hJm => ?_
    go_wp2_with fail
    refine (HE.out).mono ?_
    rintro e w0 ⟨rfl, rfl⟩
    go_wp2_with fail
    refine (HU.out).mono ?_
    rintro e w1 ⟨rfl, F3, hm, hF3, hk⟩
    have HN := Lib.hid (show MNext w b t q l' p F1 F2 (w1.alloc (.cells #[.int .i64 x1, .int .i64 x2, .int .i64 f] 64)) from ⟨F3, hm.below (below1 _ _), hF3, hk.alloc _⟩)
    clear hm hF3 hk
    go_wp2_with fail
    refine wp_goto (hJm.out _ _ _ _ _ rfl ?_)
    go_wp2_with fail
    refine hR.out _ _ _ _ (by simp) ?_
    go_ret
    exact ⟨rfl, HN.out⟩
end Go.Proofs.YtkfljominljliaaGreat.Vm
