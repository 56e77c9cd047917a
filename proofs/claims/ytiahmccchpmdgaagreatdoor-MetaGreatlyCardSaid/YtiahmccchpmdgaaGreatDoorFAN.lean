import Derived.Test.YtiahmccchpmdgaaGreatDoorFAM
namespace Go.Proofs.YtiahmccchpmdgaaGreatDoor.Vm
open Go.RowKit Go.Shelf Go.Maps Go.Sort
attribute [local go_sem] Oper.semAt_some

/- UNMAP. -/
theorem unmapN {w : World} {t : Nat} {l : Pg.Tb} {F : Nat → Prop} (h : Pg.Has w t l F) (z : Int) : Calls Tryz.prog 164 #[bx t, .int .i64 z] w fun e w' => e = .returned (.tuple #[Pg.enV (Pg.unmapX l z), .int .i64 (Pg.unmapE l z : Int)]) ∧ Pg.Next w t (Pg.unmapT l z) F w' := by
  by_cases hE : Pg.unmapE l z = 0
  · rw [hE]
    exact Pg.unmap_yes h z hE
  · exact Pg.unmap_no h z hE
theorem unmapX_i64 {l : Pg.Tb} (h : Pg.Tok l) (z : Int) : Pg.I64 (Pg.unmapX l z).2.2 := by
  unfold Pg.unmapX
  split
  · exact getX_i64 h z
  · simp [Pg.zeroEn, Pg.I64]
def unmE (p : Pl) (l : Pg.Tb) (z : Int) : Nat := if Pg.unmapE l z = 0 then giveE p (Pg.unmapX l z).2.2 else Pg.unmapE l z
def unmP (p : Pl) (l : Pg.Tb) (z : Int) : Pl := if Pg.unmapE l z = 0 then giveP p (Pg.unmapX l z).2.2 else p
set_option maxHeartbeats 1000000 in
theorem unmap_any {w : World} {b t q : Nat} {l : Pg.Tb} {p : Pl} {F1 F2 : Nat → Prop} (h : MRep w b t q l p F1 F2) (z : Int) :
    Calls Tryz.prog 80 #[bx b, .int .i64 z] w fun e w' => e = .returned (.int .i64 (unmE p l z : Int)) ∧ MNext w b t q (Pg.unmapT l z) (unmP p l z) F1 F2 w' := by
  have HE := Lib.hid (entries_any b t q w h.c0 h.c1)
  have HU := Lib.hid ((unmapN h.tab z).mono fun e w' ⟨e1, e2⟩ => (show e = Ending.returned (.tuple #[Pg.enV (Pg.unmapX l z), .int .i64 (Pg.unmapE l z : Int)]) ∧ MNext w b t q (Pg.unmapT l z) p F1 F2 w' from ⟨e1, MNext.tab h (Below.refl _ _) e2⟩))
  have hfi := unmapX_i64 h.tab.ok z
  unfold Pg.I64 at hfi
  have HFI := Lib.hid hfi
  unfold unmE unmP
  obtain ⟨l', hl'⟩ : ∃ l', l' = Pg.unmapT l z := ⟨_, rfl⟩
  rw [← hl'] at HU ⊢
  obtain ⟨⟨x1, x2, f⟩, hx⟩ : ∃ x, x = Pg.unmapX l z := ⟨_, rfl⟩
  rw [← hx] at HU HFI ⊢
  simp only [Pg.enV, Pg.enC] at HU HFI ⊢
  obtain ⟨E, hE⟩ : ∃ E, E = Pg.unmapE l z := ⟨_, rfl⟩
  rw [← hE] at HU ⊢
  clear hl' hx hE hfi h
  by_cases h0 : E = 0
  · subst h0
    rw [if_pos rfl, if_pos rfl]
    rw [show ((0 : Nat) : Int) = 0 from rfl] at HU
    obtain ⟨E, hE⟩ : ∃ E, E = giveE p f := ⟨_, rfl⟩
    rw [← hE]
    have HEE := Lib.hid hE
    clear hE
    go_enter Tryz.func80, Tryz.ntmps80
    go_wp2_with fail
    refine wp_scope_jump 1 fun R hR hJm => ?_
    go_wp2_with fail
    refine (HE.out).mono ?_
    rintro e w0 ⟨rfl, rfl⟩
    go_wp2_with fail
    refine (HU.out).mono ?_
    rintro e w1 ⟨rfl, F3, hm, hF3, hk⟩
    obtain ⟨W2, hW2⟩ : ∃ W2, W2 = w1.alloc (.cells #[.int .i64 x1, .int .i64 x2, .int .i64 f] 181) := ⟨_, rfl⟩
    have hb2 : Below w1.heap.size w1 W2 := by rw [hW2]; exact below1 _ _
    have hr2 : Row W2 w1.heap.size 181 [.int .i64 x1, .int .i64 x2, .int .i64 f] := by rw [hW2]; exact Row.new w1 181 [.int .i64 x1, .int .i64 x2, .int .i64 f]
    have HSS := Lib.hid (fun (W : World) (hb : Below W2.heap.size W2 W) => (show W.cell? ⟨b, 1, none⟩ = some (bx q) ∧ W.cell? ⟨w1.heap.size, 2, none⟩ = some (.int .i64 f) from ⟨(hm.below (below0 hb2 hb)).c1, (hr2.below hb).cell 2⟩))
    have HG := Lib.hid (fun (W : World) (hb : Below W2.heap.size W2 W) => (giveN (hm.below (below0 hb2 hb)).pool f HFI.out.2).mono fun e w' ⟨e1, e2⟩ => (show e = Ending.returned (Value.int .i64 (giveE p f : Int)) ∧ MNext w b t q l' (giveP p f) F1 F2 w' ∧ w'.cell? ⟨w1.heap.size, 2, none⟩ = some (Value.int .i64 f) from
      ⟨e1, MNext.trans hF3 hk (MNext.pool hm (below0 hb2 hb) e2), by
        obtain ⟨_, _, hkk, _⟩ := e2
        exact (hkk.cell (p := ⟨w1.heap.size, 2, none⟩) (by show w1.heap.size < _; have := hr2.lt; have := hb.size; omega) (fun hf => by have := hm.pool.lt _ hf; simp only at this; omega)).trans ((hr2.below hb).cell 2)⟩))
    rw [← HEE.out] at HG
    have HW := Lib.hid hW2
    clear hm hF3 hk hb2 hr2 hW2
    go_wp2_with fail
    rw [← HW.out]
    have hdr : Below W2.heap.size W2 W2.drew := (Below.refl _ _).drew
    refine wp_region_noPanic ?_
    refine wp_region_held_drew (S := fun W => W.cell? ⟨b, 1, none⟩ = some (bx q) ∧ W.cell? ⟨w1.heap.size, 2, none⟩ = some (.int .i64 f)) (by kernel_rfl) (HSS.out _ hdr) (fun hHeld => ?_)
    refine wpAnyH_take (i := 0) (v := ?_) rfl (by kernel_rfl) (by kernel_rfl) (by kernel_rfl) (fun _ _ _ h => h) (Or.inl ⟨by kernel_rfl, ?_⟩) hHeld ?_
    rotate_left
    focus (intro w hSw; (try dsimp only at hSw); go_simp; try with_reducible rfl)
    simp only [Act.put]
    refine wpAnyH_take (i := 1) (v := ?_) rfl (by kernel_rfl) (by kernel_rfl) (by kernel_rfl) (fun _ _ _ h => h) (Or.inl ⟨by kernel_rfl, ?_⟩) hHeld ?_
    rotate_left
    focus (intro w hSw; (try dsimp only at hSw); go_simp; try with_reducible rfl)
    simp only [Act.put]
    refine wpAnyH_take (i := 2) (v := ?_) rfl (by kernel_rfl) (by kernel_rfl) (by kernel_rfl) (fun _ _ _ h => h) (Or.inl ⟨by kernel_rfl, ?_⟩) hHeld ?_
    rotate_left
    focus (intro w hSw; (try dsimp only at hSw); go_simp; try with_reducible rfl)
    simp only [Act.put]
    refine wpAnyH_take (i := 3) (v := ?_) rfl (by kernel_rfl) (by kernel_rfl) (by kernel_rfl) (fun _ _ _ h => h) (Or.inl ⟨by kernel_rfl, ?_⟩) hHeld ?_
    rotate_left
    focus (intro w hSw; (try dsimp only at hSw); go_simp; try with_reducible rfl)
    simp only [Act.put]
    refine wpAnyH_take (i := 4) (v := ?_) rfl (by kernel_rfl) (by kernel_rfl) (by kernel_rfl) (fun _ _ _ h => h) (Or.inl ⟨by kernel_rfl, ?_⟩) hHeld ?_
    rotate_left
    focus (intro w hSw; (try dsimp only at hSw); go_simp; try with_reducible rfl)
    simp only [Act.put]
    refine wpAnyH_take (i := 5) (v := ?_) rfl (by kernel_rfl) (by kernel_rfl) (by kernel_rfl) (fun _ _ _ h => h) (Or.inl ⟨by kernel_rfl, ?_⟩) hHeld ?_
    rotate_left
    focus (intro w hSw; (try dsimp only at hSw); go_simp; try with_reducible rfl)
    simp only [Act.put]
    refine wpAnyH_ready (rs := [6]) (by kernel_rfl) (by simp) ?_
    refine AllReadyH.cons rfl (fun K hK => ?_) (AllReadyH.nil)
    go_simp
    refine (HG.out _ hdr).mono ?_
    rintro e W3 ⟨rfl, hn, hc3⟩
    have HS3 : W3.cell? ⟨b, 1, none⟩ = some (bx q) := by
      obtain ⟨F3, hm, _⟩ := hn
      exact hm.c1
    have HN := Lib.hid hn
    clear hn
    refine hK.out _ _ ⟨HS3, hc3⟩ (fun hHeld => ?_)
    clear hK K
    try simp only [Act.put]
    refine wpAnyH_ready (rs := [7]) (by kernel_rfl) (by simp) ?_
    refine AllReadyH.cons rfl (fun K hK => ?_) (AllReadyH.nil)
    go_simp
    refine hK.out _ _ ⟨HS3, hc3⟩ (fun hHeld => ?_)
    clear hK K
    try simp only [Act.put]
    refine wpAnyH_done (by kernel_rfl) ?_ _
    refine NoPanic.normal ?_
    clear HSS HG hc3 HS3 hdr
    go_wp2_with fail
    refine hR.out _ _ _ _ (by simp) ?_
    go_ret
    exact ⟨rfl, HN.out⟩
  · rw [if_neg h0, if_neg h0]
    have e0 : (((E : Int)) == 0) = false := by rw [beq_eq_false_iff_ne]; omega
    have e1 : ¬ ((E : Int) = 0) := by omega
    clear h0
    go_enter Tryz.func80, Tryz.ntmps80
    go_wp2_with fail
    refine wp_scope_jump 1 fun R hR hJm => ?_
    go_wp2_with fail
    refine (HE.out).mono ?_
    rintro e w0 ⟨rfl, rfl⟩
    go_wp2_with fail
    refine (HU.out).mono ?_
    rintro e w1 ⟨rfl, F3, hm, hF3, hk⟩
    have HN := Lib.hid (show MNext w b t q l' p F1 F2 (w1.alloc (.cells #[.int .i64 x1, .int .i64 x2, .int .i64 f] 181)) from ⟨F3, hm.below (below1 _ _), hF3, hk.alloc _⟩)
    clear hm hF3 hk
    go_wp2_with fail
    refine wp_goto (hJm.out _ _ _ _ _ rfl ?_)
    go_wp2_with fail
    refine hR.out _ _ _ _ (by simp) ?_
    go_ret
    exact ⟨rfl, HN.out⟩
end Go.Proofs.YtiahmccchpmdgaaGreatDoor.Vm

namespace Go.Proofs.YtiahmccchpmdgaaGreatDoor.Vm
open Go.RowKit Go.Shelf Go.Maps Go.Sort
attribute [local go_sem] Oper.semAt_some

/- MAP. -/
theorem map1_any (o y m : Int) (g1 g2 g3 : Nat) (w : World) (h1 : w.cell? ⟨g1, 0, none⟩ = some (.int .i64 o)) (h2 : w.cell? ⟨g2, 0, none⟩ = some (.int .i64 y)) (h3 : w.cell? ⟨g3, 0, none⟩ = some (.int .i64 m)) :
    Calls Tryz.prog 101 #[bx g1, bx g2, bx g3] w fun e w' => e = .returned (.bool (ownsB o && ownerB y && Pg.mayB m)) ∧ w = w' := by
  have k1 := Lib.hid (owns_any o w)
  have k2 := Lib.hid (pays_any y w)
  have k3 := Lib.hid (allowed_any m w)
  obtain ⟨q1, hq1⟩ : ∃ q, q = ownsB o := ⟨_, rfl⟩
  obtain ⟨q2, hq2⟩ : ∃ q, q = ownerB y := ⟨_, rfl⟩
  obtain ⟨q3, hq3⟩ : ∃ q, q = Pg.mayB m := ⟨_, rfl⟩
  rw [← hq1] at k1 ⊢
  rw [← hq2] at k2 ⊢
  rw [← hq3] at k3 ⊢
  clear hq1 hq2 hq3
  cases q1
  · go_enter Tryz.func101, Tryz.ntmps101
    go_wp2_with fail
    refine (k1.out).mono ?_
    rintro e _ ⟨rfl, rfl⟩
    go_wp2_with fail
    go_ret
    exact ⟨rfl, rfl⟩
  · cases q2
    · go_enter Tryz.func101, Tryz.ntmps101
      go_wp2_with fail
      refine (k1.out).mono ?_
      rintro e _ ⟨rfl, rfl⟩
      go_wp2_with fail
      refine (k2.out).mono ?_
      rintro e _ ⟨rfl, rfl⟩
      go_wp2_with fail
      go_ret
      exact ⟨rfl, rfl⟩
    · go_enter Tryz.func101, Tryz.ntmps101
      go_wp2_with fail
      refine (k1.out).mono ?_
      rintro e _ ⟨rfl, rfl⟩
      go_wp2_with fail
      refine (k2.out).mono ?_
      rintro e _ ⟨rfl, rfl⟩
      go_wp2_with fail
      refine (k3.out).mono ?_
      rintro e _ ⟨rfl, rfl⟩
      go_wp2_with fail
      go_ret
      exact ⟨rfl, rfl⟩
theorem map2_any (z : Int) (g : Nat) (w : World) (h1 : w.cell? ⟨g, 0, none⟩ = some (.int .i64 z)) : Calls Tryz.prog 105 #[bx g] w fun e w' => e = .returned (.bool (Pg.pageB z)) ∧ w = w' := by
  have k1 := Lib.hid (known_any z w)
  obtain ⟨q1, hq1⟩ : ∃ q, q = Pg.pageB z := ⟨_, rfl⟩
  rw [← hq1] at k1 ⊢
  clear hq1
  go_enter Tryz.func105, Tryz.ntmps105
  go_wp2_with fail
  refine (k1.out).mono ?_
  rintro e _ ⟨rfl, rfl⟩
  go_wp2_with fail
  go_ret
  exact ⟨rfl, rfl⟩
set_option maxHeartbeats 1000000 in
theorem map3_any {w : World} {b t g1 g2 : Nat} {l : Pg.Tb} {F : Nat → Prop} (z : Int) (hz : Pg.I64 z) (ht : Pg.Has w t l F) (hb0 : w.cell? ⟨b, 0, none⟩ = some (bx t)) (h1 : w.cell? ⟨g1, 0, none⟩ = some (bx b)) (h2 : w.cell? ⟨g2, 0, none⟩ = some (.int .i64 z)) :
    Calls Tryz.prog 107 #[bx g1, bx g2] w fun e w' => e = .returned (.bool (!(Pg.look l z).isSome)) ∧ Below w.heap.size w w' := by
  have HSS := Lib.hid (fun (W : World) (hb : Below w.heap.size w W) => (show W.cell? ⟨g1, 0, none⟩ = some (bx b) ∧ W.cell? ⟨b, 0, none⟩ = some (bx t) ∧ W.cell? ⟨g2, 0, none⟩ = some (.int .i64 z) from
    ⟨(hb.cell (p := ⟨g1, 0, none⟩) (lt_of_cell h1)).trans h1, (hb.cell (p := ⟨b, 0, none⟩) (lt_of_cell hb0)).trans hb0, (hb.cell (p := ⟨g2, 0, none⟩) (lt_of_cell h2)).trans h2⟩))
  have HG := Lib.hid (fun (W : World) (hb : Below w.heap.size w W) => mapped_any (ht.below hb) z hz)
  obtain ⟨r, hr⟩ : ∃ r, r = (Pg.look l z).isSome := ⟨_, rfl⟩
  rw [← hr] at HG ⊢
  clear hr ht hb0 h1 h2 hz
  go_enter Tryz.func107, Tryz.ntmps107
  go_wp2_with fail
  have hdr : Below w.heap.size w w.drew := (Below.refl _ _).drew
  refine wp_region_held_drew (S := fun W => W.cell? ⟨g1, 0, none⟩ = some (bx b) ∧ W.cell? ⟨b, 0, none⟩ = some (bx t) ∧ W.cell? ⟨g2, 0, none⟩ = some (.int .i64 z)) (by kernel_rfl) (HSS.out _ hdr) (fun hHeld => ?_)
  refine wpAnyH_take (i := 0) (v := ?_) rfl (by kernel_rfl) (by kernel_rfl) (by kernel_rfl) (fun _ _ _ h => h) (Or.inl ⟨by kernel_rfl, ?_⟩) hHeld ?_
  rotate_left
  focus (intro w hSw; (try dsimp only at hSw); go_simp; try with_reducible rfl)
  simp only [Act.put]
  refine wpAnyH_take (i := 1) (v := ?_) rfl (by kernel_rfl) (by kernel_rfl) (by kernel_rfl) (fun _ _ _ h => h) (Or.inl ⟨by kernel_rfl, ?_⟩) hHeld ?_
  rotate_left
  focus (intro w hSw; (try dsimp only at hSw); go_simp; try with_reducible rfl)
  simp only [Act.put]
  refine wpAnyH_take (i := 2) (v := ?_) rfl (by kernel_rfl) (by kernel_rfl) (by kernel_rfl) (fun _ _ _ h => h) (Or.inl ⟨by kernel_rfl, ?_⟩) hHeld ?_
  rotate_left
  focus (intro w hSw; (try dsimp only at hSw); go_simp; try with_reducible rfl)
  simp only [Act.put]
  refine wpAnyH_take (i := 3) (v := ?_) rfl (by kernel_rfl) (by kernel_rfl) (by kernel_rfl) (fun _ _ _ h => h) (Or.inl ⟨by kernel_rfl, ?_⟩) hHeld ?_
  rotate_left
  focus (intro w hSw; (try dsimp only at hSw); go_simp; try with_reducible rfl)
  simp only [Act.put]
  refine wpAnyH_take (i := 4) (v := ?_) rfl (by kernel_rfl) (by kernel_rfl) (by kernel_rfl) (fun _ _ _ h => h) (Or.inl ⟨by kernel_rfl, ?_⟩) hHeld ?_
  rotate_left
  focus (intro w hSw; (try dsimp only at hSw); go_simp; try with_reducible rfl)
  simp only [Act.put]
  refine wpAnyH_ready (rs := [5]) (by kernel_rfl) (by simp) ?_
  refine AllReadyH.cons rfl (fun K hK => ?_) (AllReadyH.nil)
  go_simp
  refine (HG.out _ hdr).mono ?_
  rintro e W1 ⟨rfl, hb2⟩
  replace hb2 := below0 hdr hb2
  refine hK.out _ _ (HSS.out _ hb2) (fun hHeld => ?_)
  clear hK K hdr
  try simp only [Act.put]
  refine wpAnyH_take (i := 6) (v := ?_) rfl (by kernel_rfl) (by kernel_rfl) (by kernel_rfl) (fun _ _ _ h => h) (Or.inl ⟨by kernel_rfl, ?_⟩) hHeld ?_
  rotate_left
  focus (intro w hSw; (try dsimp only at hSw); go_simp; try with_reducible rfl)
  simp only [Act.put]
  refine wpAnyH_ready (rs := [7]) (by kernel_rfl) (by simp) ?_
  refine AllReadyH.cons rfl (fun K hK => ?_) (AllReadyH.nil)
  go_simp
  refine hK.out _ _ (HSS.out _ hb2) (fun hHeld => ?_)
  clear hK K
  try simp only [Act.put]
  refine wpAnyH_done (by kernel_rfl) ?_ _
  clear HSS HG
  go_wp2_with fail
  go_ret
  exact ⟨rfl, hb2⟩
def mqE (l : Pg.Tb) (z o y m : Int) : Nat := if ¬ (ownsB o && ownerB y && Pg.mayB m) = true then 2 else if ¬ Pg.pageB z = true then 4 else if (Pg.look l z).isSome = true then 180 else 0
def mqL (b : Nat) (s : Nat) (a2 a3 a4 : Bool) : List Ask :=
  [⟨100, #[bx b], #[], 1, true⟩, ⟨101, #[], #[bx (s + 2), bx (s + 3), bx (s + 4)], 2, a2⟩, ⟨105, #[], #[bx (s + 1)], 4, a3⟩, ⟨107, #[], #[bx s, bx (s + 1)], 180, a4⟩]
theorem mq_asked {w : World} {b t q : Nat} {l : Pg.Tb} {p : Pl} {F1 F2 : Nat → Prop} (h : MRep w b t q l p F1 F2) (z o y m : Int) :
    Calls Tryz.prog 99 #[.slice (some ⟨w.heap.size + 5, 0, none⟩) 4 4] (askW w [([bx b], 24), ([.int .i64 z], 3), ([.int .i64 o], 3), ([.int .i64 y], 3), ([.int .i64 m], 121)] (mqL b w.heap.size true true true)) fun e w' => e = .returned (.int .i64 (mqE l z o y m : Int)) ∧ Boxes w [[bx b], [.int .i64 z], [.int .i64 o], [.int .i64 y], [.int .i64 m]] w' := by
  obtain ⟨a2, ha2⟩ : ∃ a2, a2 = (ownsB o && ownerB y && Pg.mayB m) := ⟨_, rfl⟩
  obtain ⟨a3, ha3⟩ : ∃ a3, a3 = Pg.pageB z := ⟨_, rfl⟩
  obtain ⟨a4, ha4⟩ : ∃ a4, a4 = !(Pg.look l z).isSome := ⟨_, rfl⟩
  have hE : askE (mqL b w.heap.size a2 a3 a4) = (mqE l z o y m : Int) := by
    unfold mqE
    have e4 : (Pg.look l z).isSome = !a4 := by rw [ha4]; simp
    rw [← ha2, ← ha3, e4]
    cases a2 <;> cases a3 <;> cases a4 <;> rfl
  refine (asked_box [([bx b], 24), ([.int .i64 z], 3), ([.int .i64 o], 3), ([.int .i64 y], 3), ([.int .i64 m], 121)] (mqL b w.heap.size a2 a3 a4) 4 4 _ rfl rfl (by omega) fun k hk hall => ?_).mono fun e w' ⟨e1, e2, _⟩ => ⟨by rw [e1, hE], e2⟩
  rcases k with _ | _ | _ | _ | k
  · refine ⟨enters_of Tryz.func100 (by kernel_rfl) rfl, fun V hV => ?_⟩
    exact (there_any b q V (h.below hV.below).c1).mono fun e w' ⟨e1, e2⟩ => ⟨e1, e2 ▸ Below.refl _ _⟩
  · refine ⟨enters_of Tryz.func101 (by kernel_rfl) rfl, fun V hV => ?_⟩
    have := (map1_any o y m (w.heap.size + 2) (w.heap.size + 3) (w.heap.size + 4) V (hV.cell 2 _ rfl 0 _ rfl) (hV.cell 3 _ rfl 0 _ rfl) (hV.cell 4 _ rfl 0 _ rfl))
    rw [← ha2] at this
    exact this.mono fun e w' ⟨e1, e2⟩ => ⟨e1, e2 ▸ Below.refl _ _⟩
  · refine ⟨enters_of Tryz.func105 (by kernel_rfl) rfl, fun V hV => ?_⟩
    have := map2_any z (w.heap.size + 1) V (hV.cell 1 _ rfl 0 _ rfl)
    rw [← ha3] at this
    exact this.mono fun e w' ⟨e1, e2⟩ => ⟨e1, e2 ▸ Below.refl _ _⟩
  · have t3 : a3 = true := hall 2 (by simp [mqL]) (by omega)
    rw [ha3] at t3
    refine ⟨enters_of Tryz.func107 (by kernel_rfl) rfl, fun V hV => ?_⟩
    have := map3_any z (Pg.page64 t3) (h.below hV.below).tab (h.below hV.below).c0 (hV.cell 0 _ rfl 0 _ rfl) (hV.cell 1 _ rfl 0 _ rfl)
    rw [← ha4] at this
    exact this
  · simp [mqL] at hk
    omega
theorem mapN {w : World} {t : Nat} {l : Pg.Tb} {F : Nat → Prop} (h : Pg.Has w t l F) (z : Int) (x : Pg.En) (hx : Pg.En64 x) : Calls Tryz.prog 110 #[bx t, .int .i64 z, Pg.enV x] w fun e w' => e = .returned (.int .i64 (Pg.mapE l z x : Int)) ∧ Pg.Next w t (Pg.mapT l z x) F w' := by
  by_cases hE : Pg.mapE l z x = 0
  · rw [hE]
    exact Pg.map_yes h z x hx hE
  · exact Pg.map_no h z x hx hE
def mapME (p : Pl) (l : Pg.Tb) (z o y m : Int) : Nat := if mqE l z o y m = 0 then if takeE p y = 0 then Pg.mapE l z (o, m, (takeI p y : Int)) else takeE p y else mqE l z o y m
def mapML (p : Pl) (l : Pg.Tb) (z o y m : Int) : Pg.Tb := if mqE l z o y m = 0 then if takeE p y = 0 then Pg.mapT l z (o, m, (takeI p y : Int)) else l else l
def mapMP (p : Pl) (l : Pg.Tb) (z o y m : Int) : Pl := if mqE l z o y m = 0 then takeP p y else p
theorem Boxes.kept {w V V' : World} {ls : List (List Value)} (h : Boxes w ls V) (hk : ∀ k, w.heap.size ≤ k → k < V.heap.size → V'.heap[k]? = V.heap[k]?) (k : Nat) (cs : List Value) (hc : ls[k]? = some cs) : ∃ t, Row V' (w.heap.size + k) t cs := by
  obtain ⟨t, hr⟩ := h.row k cs hc
  exact ⟨t, hr.same (hk _ (by omega) hr.lt)⟩
set_option maxRecDepth 100000 in
set_option maxHeartbeats 2000000 in
theorem map_q {w : World} {b t q : Nat} {l : Pg.Tb} {p : Pl} {F1 F2 : Nat → Prop} (h : MRep w b t q l p F1 F2) (z o y m : Int) (hE : mqE l z o y m ≠ 0) :
    Calls Tryz.prog 59 #[bx b, .int .i64 z, .int .i64 o, .int .i64 y, .int .i64 m] w fun e w' => e = .returned (.int .i64 (mqE l z o y m : Int)) ∧ MNext w b t q l p F1 F2 w' := by
  have HQ := Lib.hid ((mq_asked h z o y m).mono fun e w' ⟨e1, e2⟩ => (show e = Ending.returned (Value.int .i64 (mqE l z o y m : Int)) ∧ MNext w b t q l p F1 F2 w' from ⟨e1, MNext.same h e2.below⟩))
  obtain ⟨E, hE2⟩ : ∃ E, E = mqE l z o y m := ⟨_, rfl⟩
  rw [← hE2] at HQ hE ⊢
  have e0 : (((E : Int)) == 0) = false := by rw [beq_eq_false_iff_ne]; omega
  have e1 : ¬ ((E : Int) = 0) := by omega
  clear hE2 h hE
  go_enter Tryz.func59, Tryz.ntmps59
  go_wp2_with fail
  refine wp_scope_jump 1 fun R hR hJm => ?_
  go_wp2_with fail
  refine (HQ.out).mono ?_
  rintro e w1 ⟨rfl, hn⟩
  have HN := Lib.hid hn
  clear hn HQ
  go_wp2_with fail
  refine wp_goto (hJm.out _ _ _ _ _ rfl ?_)
  go_wp2_with fail
  refine hR.out _ _ _ _ (by simp) ?_
  go_ret
  exact ⟨rfl, HN.out⟩
set_option maxRecDepth 100000 in
set_option maxHeartbeats 2000000 in
theorem map_no {w : World} {b t q : Nat} {l : Pg.Tb} {p : Pl} {F1 F2 : Nat → Prop} (h : MRep w b t q l p F1 F2) (z o y m : Int) (hE : mqE l z o y m = 0) (hT : takeE p y ≠ 0) :
    Calls Tryz.prog 59 #[bx b, .int .i64 z, .int .i64 o, .int .i64 y, .int .i64 m] w fun e w' => e = .returned (.int .i64 (takeE p y : Int)) ∧ MNext w b t q l (takeP p y) F1 F2 w' := by
  have HQ := Lib.hid (mq_asked h z o y m)
  rw [hE] at HQ
  rw [show ((0 : Nat) : Int) = 0 from rfl] at HQ
  have HSB := Lib.hid (fun (W1 : World) (hB : Boxes w [[bx b], [.int .i64 z], [.int .i64 o], [.int .i64 y], [.int .i64 m]] W1) (W : World) (hb : Below W1.heap.size W1 W) => (show W.cell? ⟨w.heap.size, 0, none⟩ = some (bx b) ∧ W.cell? ⟨w.heap.size + 1, 0, none⟩ = some (.int .i64 z) ∧ W.cell? ⟨w.heap.size + 1 + 1, 0, none⟩ = some (.int .i64 o) ∧ W.cell? ⟨w.heap.size + 1 + 1 + 1, 0, none⟩ = some (.int .i64 y) ∧ W.cell? ⟨w.heap.size + 1 + 1 + 1 + 1, 0, none⟩ = some (.int .i64 m) ∧ W.cell? ⟨b, 0, none⟩ = some (bx t) ∧ W.cell? ⟨b, 1, none⟩ = some (bx q) from
    have h9 := hB.more hb
    ⟨h9.cell 0 _ rfl 0 _ rfl, h9.cell 1 _ rfl 0 _ rfl, h9.cell 2 _ rfl 0 _ rfl, h9.cell 3 _ rfl 0 _ rfl, h9.cell 4 _ rfl 0 _ rfl, (h.below h9.below).c0, (h.below h9.below).c1⟩))
  have HSN := Lib.hid (fun (V W : World) (hs : V.cell? ⟨w.heap.size, 0, none⟩ = some (bx b) ∧ V.cell? ⟨w.heap.size + 1, 0, none⟩ = some (.int .i64 z) ∧ V.cell? ⟨w.heap.size + 1 + 1, 0, none⟩ = some (.int .i64 o) ∧ V.cell? ⟨w.heap.size + 1 + 1 + 1, 0, none⟩ = some (.int .i64 y) ∧ V.cell? ⟨w.heap.size + 1 + 1 + 1 + 1, 0, none⟩ = some (.int .i64 m) ∧ V.cell? ⟨b, 0, none⟩ = some (bx t) ∧ V.cell? ⟨b, 1, none⟩ = some (bx q)) (hk : Keep F2 V W) => (show W.cell? ⟨w.heap.size, 0, none⟩ = some (bx b) ∧ W.cell? ⟨w.heap.size + 1, 0, none⟩ = some (.int .i64 z) ∧ W.cell? ⟨w.heap.size + 1 + 1, 0, none⟩ = some (.int .i64 o) ∧ W.cell? ⟨w.heap.size + 1 + 1 + 1, 0, none⟩ = some (.int .i64 y) ∧ W.cell? ⟨w.heap.size + 1 + 1 + 1 + 1, 0, none⟩ = some (.int .i64 m) ∧ W.cell? ⟨b, 0, none⟩ = some (bx t) ∧ W.cell? ⟨b, 1, none⟩ = some (bx q) from by
    obtain ⟨s1, s2, s3, s4, s5, s6, s7⟩ := hs
    have nf : ∀ k, w.heap.size ≤ k → ¬ F2 k := fun k hk hf => by have := h.pool.lt k hf; omega
    exact ⟨(hk.cell (lt_of_cell s1) (nf _ (by simp))).trans s1, (hk.cell (lt_of_cell s2) (nf _ (by simp))).trans s2, (hk.cell (lt_of_cell s3) (nf _ (by simp; omega))).trans s3, (hk.cell (lt_of_cell s4) (nf _ (by simp; omega))).trans s4, (hk.cell (lt_of_cell s5) (nf _ (by simp; omega))).trans s5, (hk.cell (lt_of_cell s6) h.b2).trans s6, (hk.cell (lt_of_cell s7) h.b2).trans s7⟩))
  have HTK := Lib.hid (fun (W1 : World) (hB : Boxes w [[bx b], [.int .i64 z], [.int .i64 o], [.int .i64 y], [.int .i64 m]] W1) (W : World) (hb : Below W1.heap.size W1 W) => (takeN (h.below (below0 hB.below hb)).pool y).mono fun e w' ⟨e1, e2⟩ => (show e = Ending.returned (.tuple #[.int .i64 (takeI p y : Int), .int .i64 (takeE p y : Int)]) ∧ MNext w b t q l (takeP p y) F1 F2 w' ∧ Keep F2 W w' from
    ⟨e1, MNext.pool h (below0 hB.below hb) e2, by
      obtain ⟨_, _, hkk, _⟩ := e2
      exact hkk⟩))
  obtain ⟨E, hE2⟩ : ∃ E, E = takeE p y := ⟨_, rfl⟩
  rw [← hE2] at HTK hT ⊢
  obtain ⟨f, hf⟩ : ∃ f, f = takeI p y := ⟨_, rfl⟩
  rw [← hf] at HTK
  have e0 : (((E : Int)) == 0) = false := by rw [beq_eq_false_iff_ne]; omega
  have e1 : ¬ ((E : Int) = 0) := by omega
  clear hE2 h hE hT hf
  go_enter Tryz.func59, Tryz.ntmps59
  go_wp2_with fail
  refine wp_scope_jump 1 fun R hR hJm => ?_
  go_wp2_with fail
  refine (HQ.out).mono ?_
  rintro e W1 ⟨rfl, hB⟩
  have HB := Lib.hid hB
  clear hB HQ
  go_wp2_with fail
  have hdr : Below W1.heap.size W1 W1.drew := (Below.refl _ _).drew
  refine wp_region_noPanic ?_
  refine wp_region_held_drew (S := fun W => W.cell? ⟨w.heap.size, 0, none⟩ = some (bx b) ∧ W.cell? ⟨w.heap.size + 1, 0, none⟩ = some (.int .i64 z) ∧ W.cell? ⟨w.heap.size + 1 + 1, 0, none⟩ = some (.int .i64 o) ∧ W.cell? ⟨w.heap.size + 1 + 1 + 1, 0, none⟩ = some (.int .i64 y) ∧ W.cell? ⟨w.heap.size + 1 + 1 + 1 + 1, 0, none⟩ = some (.int .i64 m) ∧ W.cell? ⟨b, 0, none⟩ = some (bx t) ∧ W.cell? ⟨b, 1, none⟩ = some (bx q)) (by kernel_rfl) (HSB.out _ HB.out _ hdr) (fun hHeld => ?_)
  refine wpAnyH_take (i := 0) (v := ?_) rfl (by kernel_rfl) (by kernel_rfl) (by kernel_rfl) (fun _ _ _ h => h) (Or.inl ⟨by kernel_rfl, ?_⟩) hHeld ?_
  rotate_left
  focus (intro w hSw; (try dsimp only at hSw); go_simp; try with_reducible rfl)
  simp only [Act.put]
  refine wpAnyH_take (i := 1) (v := ?_) rfl (by kernel_rfl) (by kernel_rfl) (by kernel_rfl) (fun _ _ _ h => h) (Or.inl ⟨by kernel_rfl, ?_⟩) hHeld ?_
  rotate_left
  focus (intro w hSw; (try dsimp only at hSw); go_simp; try with_reducible rfl)
  simp only [Act.put]
  refine wpAnyH_take (i := 2) (v := ?_) rfl (by kernel_rfl) (by kernel_rfl) (by kernel_rfl) (fun _ _ _ h => h) (Or.inl ⟨by kernel_rfl, ?_⟩) hHeld ?_
  rotate_left
  focus (intro w hSw; (try dsimp only at hSw); go_simp; try with_reducible rfl)
  simp only [Act.put]
  refine wpAnyH_take (i := 3) (v := ?_) rfl (by kernel_rfl) (by kernel_rfl) (by kernel_rfl) (fun _ _ _ h => h) (Or.inl ⟨by kernel_rfl, ?_⟩) hHeld ?_
  rotate_left
  focus (intro w hSw; (try dsimp only at hSw); go_simp; try with_reducible rfl)
  simp only [Act.put]
  refine wpAnyH_take (i := 4) (v := ?_) rfl (by kernel_rfl) (by kernel_rfl) (by kernel_rfl) (fun _ _ _ h => h) (Or.inl ⟨by kernel_rfl, ?_⟩) hHeld ?_
  rotate_left
  focus (intro w hSw; (try dsimp only at hSw); go_simp; try with_reducible rfl)
  simp only [Act.put]
  refine wpAnyH_ready (rs := [5]) (by kernel_rfl) (by simp) ?_
  refine AllReadyH.cons rfl (fun K hK => ?_) (AllReadyH.nil)
  go_simp
  refine (HTK.out _ HB.out _ hdr).mono ?_
  rintro e W2 ⟨rfl, hn, hk2⟩
  have hS2 := HSN.out _ _ (HSB.out _ HB.out _ hdr) hk2
  have HN := Lib.hid hn
  clear hn hk2
  refine hK.out _ _ hS2 (fun hHeld => ?_)
  clear hK K hdr
  try simp only [Act.put]
  refine wpAnyH_take (i := 6) (v := ?_) rfl (by kernel_rfl) (by kernel_rfl) (by kernel_rfl) (fun _ _ _ h => h) (Or.inl ⟨by kernel_rfl, ?_⟩) hHeld ?_
  rotate_left
  focus (intro w hSw; (try dsimp only at hSw); go_simp; try with_reducible rfl)
  simp only [Act.put]
  refine wpAnyH_take (i := 7) (v := ?_) rfl (by kernel_rfl) (by kernel_rfl) (by kernel_rfl) (fun _ _ _ h => h) (Or.inl ⟨by kernel_rfl, ?_⟩) hHeld ?_
  rotate_left
  focus (intro w hSw; (try dsimp only at hSw); go_simp; try with_reducible rfl)
  simp only [Act.put]
  refine wpAnyH_take (i := 8) (v := ?_) rfl (by kernel_rfl) (by kernel_rfl) (by kernel_rfl) (fun _ _ _ h => h) (Or.inl ⟨by kernel_rfl, ?_⟩) hHeld ?_
  rotate_left
  focus (intro w hSw; (try dsimp only at hSw); go_simp; try with_reducible rfl)
  simp only [Act.put]
  refine wpAnyH_ready (rs := [9]) (by kernel_rfl) (by simp) ?_
  refine AllReadyH.cons rfl (fun K hK => ?_) (AllReadyH.nil)
  go_simp
  refine hK.out _ _ hS2 (fun hHeld => ?_)
  clear hK K
  try simp only [Act.put]
  refine wpAnyH_ready (rs := [10]) (by kernel_rfl) (by simp) ?_
  refine AllReadyH.cons rfl (fun K hK => ?_) (AllReadyH.nil)
  go_simp
  refine hK.out _ _ hS2 (fun hHeld => ?_)
  clear hK K
  try simp only [Act.put]
  refine wpAnyH_done (by kernel_rfl) ?_ _
  refine NoPanic.normal ?_
  have HS2 := Lib.hid hS2
  clear hS2 HSB HSN HTK HB
  go_wp2_with fail
  refine wp_goto (hJm.out _ _ _ _ _ rfl ?_)
  go_wp2_with fail
  refine hR.out _ _ _ _ (by simp) ?_
  go_ret
  exact ⟨rfl, HN.out⟩
set_option maxRecDepth 100000 in
set_option maxHeartbeats 2000000 in
theorem map_yes {w : World} {b t q : Nat} {l : Pg.Tb} {p : Pl} {F1 F2 : Nat → Prop} (h : MRep w b t q l p F1 F2) (z o y m : Int) (hE : mqE l z o y m = 0) (hT : takeE p y = 0) (ho : Pg.I64 o) (hmm : Pg.I64 m) :
    Calls Tryz.prog 59 #[bx b, .int .i64 z, .int .i64 o, .int .i64 y, .int .i64 m] w fun e w' => e = .returned (.int .i64 (Pg.mapE l z (o, m, (takeI p y : Int)) : Int)) ∧ MNext w b t q (Pg.mapT l z (o, m, (takeI p y : Int))) (takeP p y) F1 F2 w' := by
  have HQ := Lib.hid (mq_asked h z o y m)
  rw [hE] at HQ
  rw [show ((0 : Nat) : Int) = 0 from rfl] at HQ
  have HSB := Lib.hid (fun (W1 : World) (hB : Boxes w [[bx b], [.int .i64 z], [.int .i64 o], [.int .i64 y], [.int .i64 m]] W1) (W : World) (hb : Below W1.heap.size W1 W) => (show W.cell? ⟨w.heap.size, 0, none⟩ = some (bx b) ∧ W.cell? ⟨w.heap.size + 1, 0, none⟩ = some (.int .i64 z) ∧ W.cell? ⟨w.heap.size + 1 + 1, 0, none⟩ = some (.int .i64 o) ∧ W.cell? ⟨w.heap.size + 1 + 1 + 1, 0, none⟩ = some (.int .i64 y) ∧ W.cell? ⟨w.heap.size + 1 + 1 + 1 + 1, 0, none⟩ = some (.int .i64 m) ∧ W.cell? ⟨b, 0, none⟩ = some (bx t) ∧ W.cell? ⟨b, 1, none⟩ = some (bx q) from
    have h9 := hB.more hb
    ⟨h9.cell 0 _ rfl 0 _ rfl, h9.cell 1 _ rfl 0 _ rfl, h9.cell 2 _ rfl 0 _ rfl, h9.cell 3 _ rfl 0 _ rfl, h9.cell 4 _ rfl 0 _ rfl, (h.below h9.below).c0, (h.below h9.below).c1⟩))
  have HSN := Lib.hid (fun (V W : World) (hs : V.cell? ⟨w.heap.size, 0, none⟩ = some (bx b) ∧ V.cell? ⟨w.heap.size + 1, 0, none⟩ = some (.int .i64 z) ∧ V.cell? ⟨w.heap.size + 1 + 1, 0, none⟩ = some (.int .i64 o) ∧ V.cell? ⟨w.heap.size + 1 + 1 + 1, 0, none⟩ = some (.int .i64 y) ∧ V.cell? ⟨w.heap.size + 1 + 1 + 1 + 1, 0, none⟩ = some (.int .i64 m) ∧ V.cell? ⟨b, 0, none⟩ = some (bx t) ∧ V.cell? ⟨b, 1, none⟩ = some (bx q)) (hk : Keep F2 V W) => (show W.cell? ⟨w.heap.size, 0, none⟩ = some (bx b) ∧ W.cell? ⟨w.heap.size + 1, 0, none⟩ = some (.int .i64 z) ∧ W.cell? ⟨w.heap.size + 1 + 1, 0, none⟩ = some (.int .i64 o) ∧ W.cell? ⟨w.heap.size + 1 + 1 + 1, 0, none⟩ = some (.int .i64 y) ∧ W.cell? ⟨w.heap.size + 1 + 1 + 1 + 1, 0, none⟩ = some (.int .i64 m) ∧ W.cell? ⟨b, 0, none⟩ = some (bx t) ∧ W.cell? ⟨b, 1, none⟩ = some (bx q) from by
    obtain ⟨s1, s2, s3, s4, s5, s6, s7⟩ := hs
    have nf : ∀ k, w.heap.size ≤ k → ¬ F2 k := fun k hk hf => by have := h.pool.lt k hf; omega
    exact ⟨(hk.cell (lt_of_cell s1) (nf _ (by simp))).trans s1, (hk.cell (lt_of_cell s2) (nf _ (by simp))).trans s2, (hk.cell (lt_of_cell s3) (nf _ (by simp; omega))).trans s3, (hk.cell (lt_of_cell s4) (nf _ (by simp; omega))).trans s4, (hk.cell (lt_of_cell s5) (nf _ (by simp; omega))).trans s5, (hk.cell (lt_of_cell s6) h.b2).trans s6, (hk.cell (lt_of_cell s7) h.b2).trans s7⟩))
  have HTK := Lib.hid (fun (W1 : World) (hB : Boxes w [[bx b], [.int .i64 z], [.int .i64 o], [.int .i64 y], [.int .i64 m]] W1) (W : World) (hb : Below W1.heap.size W1 W) => (takeN (h.below (below0 hB.below hb)).pool y).mono fun e w' ⟨e1, e2⟩ => (show e = Ending.returned (.tuple #[.int .i64 (takeI p y : Int), .int .i64 (takeE p y : Int)]) ∧ MNext w b t q l (takeP p y) F1 F2 w' ∧ Keep F2 W w' from
    ⟨e1, MNext.pool h (below0 hB.below hb) e2, by
      obtain ⟨_, _, hkk, _⟩ := e2
      exact hkk⟩))
  rw [hT] at HTK
  rw [show ((0 : Nat) : Int) = 0 from rfl] at HTK
  have hti : takeI p y ≤ 16384 := by
    have h1 := (takeE_left h.pool.ok hT).2.2.2.1
    have h2 := (List.getElem?_eq_some_iff.1 (free1_spec _ _ h1).1).1
    have := h.pool.ok.most
    omega
  obtain ⟨f, hf⟩ : ∃ f, f = takeI p y := ⟨_, rfl⟩
  rw [← hf] at HTK hti ⊢
  have HMP := Lib.hid (fun (W2 : World) (hn : MNext w b t q l (takeP p y) F1 F2 W2) (W : World) (hb : Below W2.heap.size W2 W) => (show Calls Tryz.prog 110 #[bx t, .int .i64 z, .agg #[.int .i64 o, .int .i64 m, .int .i64 (f : Int)]] W (fun e w' => e = .returned (.int .i64 (Pg.mapE l z (o, m, (f : Int)) : Int)) ∧ MNext w b t q (Pg.mapT l z (o, m, (f : Int))) (takeP p y) F1 F2 w' ∧ Keep F1 W w') from by
    obtain ⟨F3, hm, hF3, hk⟩ := hn
    exact (mapN (hm.below hb).tab z (o, m, (f : Int)) ⟨ho, hmm, by unfold Pg.I64; simp only; omega⟩).mono fun e w' ⟨e1, e2⟩ => ⟨e1, MNext.trans hF3 hk (MNext.tab hm hb e2), e2.2⟩))
  have HSM := Lib.hid (fun (V W : World) (hs : V.cell? ⟨w.heap.size, 0, none⟩ = some (bx b) ∧ V.cell? ⟨w.heap.size + 1, 0, none⟩ = some (.int .i64 z) ∧ V.cell? ⟨w.heap.size + 1 + 1, 0, none⟩ = some (.int .i64 o) ∧ V.cell? ⟨w.heap.size + 1 + 1 + 1, 0, none⟩ = some (.int .i64 y) ∧ V.cell? ⟨w.heap.size + 1 + 1 + 1 + 1, 0, none⟩ = some (.int .i64 m) ∧ V.cell? ⟨b, 0, none⟩ = some (bx t) ∧ V.cell? ⟨b, 1, none⟩ = some (bx q)) (hk : Keep F1 V W) => (show W.cell? ⟨w.heap.size, 0, none⟩ = some (bx b) ∧ W.cell? ⟨w.heap.size + 1, 0, none⟩ = some (.int .i64 z) ∧ W.cell? ⟨w.heap.size + 1 + 1, 0, none⟩ = some (.int .i64 o) ∧ W.cell? ⟨w.heap.size + 1 + 1 + 1, 0, none⟩ = some (.int .i64 y) ∧ W.cell? ⟨w.heap.size + 1 + 1 + 1 + 1, 0, none⟩ = some (.int .i64 m) ∧ W.cell? ⟨b, 0, none⟩ = some (bx t) ∧ W.cell? ⟨b, 1, none⟩ = some (bx q) from by
    obtain ⟨s1, s2, s3, s4, s5, s6, s7⟩ := hs
    have nf : ∀ k, w.heap.size ≤ k → ¬ F1 k := fun k hk hf => by have := h.tab.lt k hf; omega
    exact ⟨(hk.cell (lt_of_cell s1) (nf _ (by simp))).trans s1, (hk.cell (lt_of_cell s2) (nf _ (by simp))).trans s2, (hk.cell (lt_of_cell s3) (nf _ (by simp; omega))).trans s3, (hk.cell (lt_of_cell s4) (nf _ (by simp; omega))).trans s4, (hk.cell (lt_of_cell s5) (nf _ (by simp; omega))).trans s5, (hk.cell (lt_of_cell s6) h.b1).trans s6, (hk.cell (lt_of_cell s7) h.b1).trans s7⟩))
  obtain ⟨E, hE9⟩ : ∃ E, E = Pg.mapE l z (o, m, (f : Int)) := ⟨_, rfl⟩
  rw [← hE9] at HMP ⊢
  obtain ⟨l', hl'⟩ : ∃ l', l' = Pg.mapT l z (o, m, (f : Int)) := ⟨_, rfl⟩
  rw [← hl'] at HMP ⊢
  clear h hE hT hf hti hE9 hl' ho hmm
  go_enter Tryz.func59, Tryz.ntmps59
  go_wp2_with fail
  refine wp_scope_jump 1 fun R hR hJm => ?_
  go_wp2_with fail
  refine (HQ.out).mono ?_
  rintro e W1 ⟨rfl, hB⟩
  have HB := Lib.hid hB
  clear hB HQ
  go_wp2_with fail
  have hdr : Below W1.heap.size W1 W1.drew := (Below.refl _ _).drew
  refine wp_region_noPanic ?_
  refine wp_region_held_drew (S := fun W => W.cell? ⟨w.heap.size, 0, none⟩ = some (bx b) ∧ W.cell? ⟨w.heap.size + 1, 0, none⟩ = some (.int .i64 z) ∧ W.cell? ⟨w.heap.size + 1 + 1, 0, none⟩ = some (.int .i64 o) ∧ W.cell? ⟨w.heap.size + 1 + 1 + 1, 0, none⟩ = some (.int .i64 y) ∧ W.cell? ⟨w.heap.size + 1 + 1 + 1 + 1, 0, none⟩ = some (.int .i64 m) ∧ W.cell? ⟨b, 0, none⟩ = some (bx t) ∧ W.cell? ⟨b, 1, none⟩ = some (bx q)) (by kernel_rfl) (HSB.out _ HB.out _ hdr) (fun hHeld => ?_)
  refine wpAnyH_take (i := 0) (v := ?_) rfl (by kernel_rfl) (by kernel_rfl) (by kernel_rfl) (fun _ _ _ h => h) (Or.inl ⟨by kernel_rfl, ?_⟩) hHeld ?_
  rotate_left
  focus (intro w hSw; (try dsimp only at hSw); go_simp; try with_reducible rfl)
  simp only [Act.put]
  refine wpAnyH_take (i := 1) (v := ?_) rfl (by kernel_rfl) (by kernel_rfl) (by kernel_rfl) (fun _ _ _ h => h) (Or.inl ⟨by kernel_rfl, ?_⟩) hHeld ?_
  rotate_left
  focus (intro w hSw; (try dsimp only at hSw); go_simp; try with_reducible rfl)
  simp only [Act.put]
  refine wpAnyH_take (i := 2) (v := ?_) rfl (by kernel_rfl) (by kernel_rfl) (by kernel_rfl) (fun _ _ _ h => h) (Or.inl ⟨by kernel_rfl, ?_⟩) hHeld ?_
  rotate_left
  focus (intro w hSw; (try dsimp only at hSw); go_simp; try with_reducible rfl)
  simp only [Act.put]
  refine wpAnyH_take (i := 3) (v := ?_) rfl (by kernel_rfl) (by kernel_rfl) (by kernel_rfl) (fun _ _ _ h => h) (Or.inl ⟨by kernel_rfl, ?_⟩) hHeld ?_
  rotate_left
  focus (intro w hSw; (try dsimp only at hSw); go_simp; try with_reducible rfl)
  simp only [Act.put]
  refine wpAnyH_take (i := 4) (v := ?_) rfl (by kernel_rfl) (by kernel_rfl) (by kernel_rfl) (fun _ _ _ h => h) (Or.inl ⟨by kernel_rfl, ?_⟩) hHeld ?_
  rotate_left
  focus (intro w hSw; (try dsimp only at hSw); go_simp; try with_reducible rfl)
  simp only [Act.put]
  refine wpAnyH_ready (rs := [5]) (by kernel_rfl) (by simp) ?_
  refine AllReadyH.cons rfl (fun K hK => ?_) (AllReadyH.nil)
  go_simp
  refine (HTK.out _ HB.out _ hdr).mono ?_
  rintro e W2 ⟨rfl, hn, hk2⟩
  have hS2 := HSN.out _ _ (HSB.out _ HB.out _ hdr) hk2
  have HN := Lib.hid hn
  clear hn hk2
  refine hK.out _ _ hS2 (fun hHeld => ?_)
  clear hK K hdr
  try simp only [Act.put]
  refine wpAnyH_take (i := 6) (v := ?_) rfl (by kernel_rfl) (by kernel_rfl) (by kernel_rfl) (fun _ _ _ h => h) (Or.inl ⟨by kernel_rfl, ?_⟩) hHeld ?_
  rotate_left
  focus (intro w hSw; (try dsimp only at hSw); go_simp; try with_reducible rfl)
  simp only [Act.put]
  refine wpAnyH_take (i := 7) (v := ?_) rfl (by kernel_rfl) (by kernel_rfl) (by kernel_rfl) (fun _ _ _ h => h) (Or.inl ⟨by kernel_rfl, ?_⟩) hHeld ?_
  rotate_left
  focus (intro w hSw; (try dsimp only at hSw); go_simp; try with_reducible rfl)
  simp only [Act.put]
  refine wpAnyH_take (i := 8) (v := ?_) rfl (by kernel_rfl) (by kernel_rfl) (by kernel_rfl) (fun _ _ _ h => h) (Or.inl ⟨by kernel_rfl, ?_⟩) hHeld ?_
  rotate_left
  focus (intro w hSw; (try dsimp only at hSw); go_simp; try with_reducible rfl)
  simp only [Act.put]
  refine wpAnyH_ready (rs := [9]) (by kernel_rfl) (by simp) ?_
  refine AllReadyH.cons rfl (fun K hK => ?_) (AllReadyH.nil)
  go_simp
  refine hK.out _ _ hS2 (fun hHeld => ?_)
  clear hK K
  try simp only [Act.put]
  refine wpAnyH_ready (rs := [10]) (by kernel_rfl) (by simp) ?_
  refine AllReadyH.cons rfl (fun K hK => ?_) (AllReadyH.nil)
  go_simp
  refine hK.out _ _ hS2 (fun hHeld => ?_)
  clear hK K
  try simp only [Act.put]
  refine wpAnyH_done (by kernel_rfl) ?_ _
  refine NoPanic.normal ?_
  have HS2 := Lib.hid hS2
  clear hS2 HSB HSN HTK HB
  go_wp2_with fail
  have hdr : Below W2.heap.size W2 W2.drew := (Below.refl _ _).drew
  refine wp_region_noPanic ?_
  refine wp_region_held_drew (S := fun W => W.cell? ⟨w.heap.size, 0, none⟩ = some (bx b) ∧ W.cell? ⟨w.heap.size + 1, 0, none⟩ = some (.int .i64 z) ∧ W.cell? ⟨w.heap.size + 1 + 1, 0, none⟩ = some (.int .i64 o) ∧ W.cell? ⟨w.heap.size + 1 + 1 + 1, 0, none⟩ = some (.int .i64 y) ∧ W.cell? ⟨w.heap.size + 1 + 1 + 1 + 1, 0, none⟩ = some (.int .i64 m) ∧ W.cell? ⟨b, 0, none⟩ = some (bx t) ∧ W.cell? ⟨b, 1, none⟩ = some (bx q)) (by kernel_rfl) (show W2.drew.cell? ⟨w.heap.size, 0, none⟩ = some (bx b) ∧ W2.drew.cell? ⟨w.heap.size + 1, 0, none⟩ = some (.int .i64 z) ∧ W2.drew.cell? ⟨w.heap.size + 1 + 1, 0, none⟩ = some (.int .i64 o) ∧ W2.drew.cell? ⟨w.heap.size + 1 + 1 + 1, 0, none⟩ = some (.int .i64 y) ∧ W2.drew.cell? ⟨w.heap.size + 1 + 1 + 1 + 1, 0, none⟩ = some (.int .i64 m) ∧ W2.drew.cell? ⟨b, 0, none⟩ = some (bx t) ∧ W2.drew.cell? ⟨b, 1, none⟩ = some (bx q) from HS2.out) (fun hHeld => ?_)
  refine wpAnyH_take (i := 0) (v := ?_) rfl (by kernel_rfl) (by kernel_rfl) (by kernel_rfl) (fun _ _ _ h => h) (Or.inl ⟨by kernel_rfl, ?_⟩) hHeld ?_
  rotate_left
  focus (intro w hSw; (try dsimp only at hSw); go_simp; try with_reducible rfl)
  simp only [Act.put]
  refine wpAnyH_take (i := 1) (v := ?_) rfl (by kernel_rfl) (by kernel_rfl) (by kernel_rfl) (fun _ _ _ h => h) (Or.inl ⟨by kernel_rfl, ?_⟩) hHeld ?_
  rotate_left
  focus (intro w hSw; (try dsimp only at hSw); go_simp; try with_reducible rfl)
  simp only [Act.put]
  refine wpAnyH_take (i := 2) (v := ?_) rfl (by kernel_rfl) (by kernel_rfl) (by kernel_rfl) (fun _ _ _ h => h) (Or.inl ⟨by kernel_rfl, ?_⟩) hHeld ?_
  rotate_left
  focus (intro w hSw; (try dsimp only at hSw); go_simp; try with_reducible rfl)
  simp only [Act.put]
  refine wpAnyH_take (i := 3) (v := ?_) rfl (by kernel_rfl) (by kernel_rfl) (by kernel_rfl) (fun _ _ _ h => h) (Or.inl ⟨by kernel_rfl, ?_⟩) hHeld ?_
  rotate_left
  focus (intro w hSw; (try dsimp only at hSw); go_simp; try with_reducible rfl)
  simp only [Act.put]
  refine wpAnyH_take (i := 4) (v := ?_) rfl (by kernel_rfl) (by kernel_rfl) (by kernel_rfl) (fun _ _ _ h => h) (Or.inl ⟨by kernel_rfl, ?_⟩) hHeld ?_
  rotate_left
  focus (intro w hSw; (try dsimp only at hSw); go_simp; try with_reducible rfl)
  simp only [Act.put]
  refine wpAnyH_take (i := 5) (v := ?_) rfl (by kernel_rfl) (by kernel_rfl) (by kernel_rfl) (fun _ _ _ h => h) (Or.inl ⟨by kernel_rfl, ?_⟩) hHeld ?_
  rotate_left
  focus (intro w hSw; (try dsimp only at hSw); go_simp; try with_reducible rfl)
  simp only [Act.put]
  refine wpAnyH_take (i := 6) (v := ?_) rfl (by kernel_rfl) (by kernel_rfl) (by kernel_rfl) (fun _ _ _ h => h) (Or.inl ⟨by kernel_rfl, ?_⟩) hHeld ?_
  rotate_left
  focus (intro w hSw; (try dsimp only at hSw); go_simp; try with_reducible rfl)
  simp only [Act.put]
  refine wpAnyH_take (i := 7) (v := ?_) rfl (by kernel_rfl) (by kernel_rfl) (by kernel_rfl) (fun _ _ _ h => h) (Or.inl ⟨by kernel_rfl, ?_⟩) hHeld ?_
  rotate_left
  focus (intro w hSw; (try dsimp only at hSw); go_simp; try with_reducible rfl)
  simp only [Act.put]
  refine wpAnyH_take (i := 8) (v := ?_) rfl (by kernel_rfl) (by kernel_rfl) (by kernel_rfl) (fun _ _ _ h => h) (Or.inl ⟨by kernel_rfl, ?_⟩) hHeld ?_
  rotate_left
  focus (intro w hSw; (try dsimp only at hSw); go_simp; try with_reducible rfl)
  simp only [Act.put]
  refine wpAnyH_take (i := 9) (v := ?_) rfl (by kernel_rfl) (by kernel_rfl) (by kernel_rfl) (fun _ _ _ h => h) (Or.inl ⟨by kernel_rfl, ?_⟩) hHeld ?_
  rotate_left
  focus (intro w hSw; (try dsimp only at hSw); go_simp; try with_reducible rfl)
  simp only [Act.put]
  refine wpAnyH_ready (rs := [10]) (by kernel_rfl) (by simp) ?_
  refine AllReadyH.cons rfl (fun K hK => ?_) (AllReadyH.nil)
  go_simp
  refine (HMP.out _ HN.out _ hdr).mono ?_
  rintro e W3 ⟨rfl, hn, hk3⟩
  have hS3 := HSM.out W2.drew W3 HS2.out hk3
  have HN3 := Lib.hid hn
  clear hn hk3
  refine hK.out _ _ hS3 (fun hHeld => ?_)
  clear hK K hdr
  try simp only [Act.put]
  refine wpAnyH_ready (rs := [11]) (by kernel_rfl) (by simp) ?_
  refine AllReadyH.cons rfl (fun K hK => ?_) (AllReadyH.nil)
  go_simp
  refine hK.out _ _ hS3 (fun hHeld => ?_)
  clear hK K
  try simp only [Act.put]
  refine wpAnyH_done (by kernel_rfl) ?_ _
  refine NoPanic.normal ?_
  clear hS3 HS2 HMP HSM HN
  go_wp2_with fail
  refine hR.out _ _ _ _ (by simp) ?_
  go_ret
  exact ⟨rfl, HN3.out⟩
theorem map_any {w : World} {b t q : Nat} {l : Pg.Tb} {p : Pl} {F1 F2 : Nat → Prop} (h : MRep w b t q l p F1 F2) (z o y m : Int) (ho : Pg.I64 o) (hm : Pg.I64 m) :
    Calls Tryz.prog 59 #[bx b, .int .i64 z, .int .i64 o, .int .i64 y, .int .i64 m] w fun e w' => e = .returned (.int .i64 (mapME p l z o y m : Int)) ∧ MNext w b t q (mapML p l z o y m) (mapMP p l z o y m) F1 F2 w' := by
  unfold mapME mapML mapMP
  by_cases h0 : mqE l z o y m = 0
  · rw [if_pos h0, if_pos h0, if_pos h0]
    by_cases h1 : takeE p y = 0
    · rw [if_pos h1, if_pos h1]
      exact map_yes h z o y m h0 h1 ho hm
    · rw [if_neg h1, if_neg h1]
      exact map_no h z o y m h0 h1
  · rw [if_neg h0, if_neg h0, if_neg h0]
    exact map_q h z o y m h0
end Go.Proofs.YtiahmccchpmdgaaGreatDoor.Vm

namespace Go.Proofs.YtiahmccchpmdgaaGreatDoor.Vm
open Go.RowKit Go.Shelf Go.Maps Go.Sort

/- A MEMORY BY PAGES, PLAINLY: PAGES OF NOBODY, PAID BY 63. -/
abbrev Bys := Nat → UInt8
def upz (V : Int → Option Bys) (z : Int) (o : Option Bys) : Int → Option Bys := fun y => if y = z then o else V y
theorem upz_same (V : Int → Option Bys) (z : Int) (o : Option Bys) : upz V z o z = o := by unfold upz; rw [if_pos rfl]
theorem upz_other (V : Int → Option Bys) (z : Int) (o : Option Bys) {y : Int} (h : y ≠ z) : upz V z o y = V y := by unfold upz; rw [if_neg h]
theorem look_insW {l : Pg.Tb} (h : l.Pairwise (fun a b => a.1 < b.1)) {z : Int} (x : Pg.En) (hz : Pg.look l z = none) (y : Int) : Pg.look (Pg.ins l z x) y = if y = z then some x else Pg.look l y := by
  have hs := Pg.ins_sorted (x := x) h (Pg.look_none.1 hz)
  apply Option.ext
  intro e
  rw [Pg.look_mem hs, Pg.mem_ins]
  split
  · rename_i h1
    subst h1
    constructor
    · rintro (h2 | h2)
      · simp only [Prod.mk.injEq, true_and] at h2
        rw [h2]
      · exact absurd rfl (Pg.look_none.1 hz _ h2)
    · intro h2
      injection h2 with h2
      exact .inl (by rw [h2])
  · rename_i h1
    rw [← Pg.look_mem h]
    constructor
    · rintro (h2 | h2)
      · simp only [Prod.mk.injEq] at h2
        exact absurd h2.1 h1
      · exact h2
    · exact fun h2 => .inr h2
theorem look_delW {l : Pg.Tb} (h : Pg.Tok l) (z y : Int) : Pg.look (Pg.del l z) y = if y = z then none else Pg.look l y := by
  have hs := (Pg.del_ok h z).sorted
  split
  · rename_i h1
    subst h1
    rw [Pg.look_none]
    intro r hr
    unfold Pg.del at hr
    have := (List.mem_filter.1 hr).2
    simpa using this
  · rename_i h1
    apply Option.ext
    intro e
    rw [Pg.look_mem hs, Pg.look_mem h.sorted]
    unfold Pg.del
    rw [List.mem_filter]
    constructor
    · exact fun h2 => h2.1
    · exact fun h2 => ⟨h2, by simpa using h1⟩
theorem frames_neW {l : Pg.Tb} (h : Pg.Tok l) {z y : Int} {e d : Pg.En} (h1 : Pg.look l z = some e) (h2 : Pg.look l y = some d) (hf : e.2.2 = d.2.2) : z = y := by
  obtain ⟨i, hi, e1⟩ := List.getElem_of_mem ((Pg.look_mem h.sorted).1 h1)
  obtain ⟨j, hj, e2⟩ := List.getElem_of_mem ((Pg.look_mem h.sorted).1 h2)
  have hp := List.pairwise_iff_getElem.1 h.frame
  rcases Nat.lt_trichotomy i j with h3 | h3 | h3
  · have := hp i j hi hj h3
    rw [e1, e2] at this
    exact absurd hf this
  · subst h3
    have := e1.symm.trans e2
    exact congrArg Prod.fst this
  · have := hp j i hj hi h3
    rw [e1, e2] at this
    exact absurd hf.symm this
theorem frame_readW {p : Pl} {f fo : Nat} {bs : List UInt8} (h : p.fr[f]? = some (some (fo, bs))) {a n : Nat} (han : a + n ≤ 256) : reachE p (f : Int) (a : Int) (n : Int) = 0 ∧ frameO p f = some (fo, bs) := by
  have hlt := (List.getElem?_eq_some_iff.1 h).1
  have h1 : frameO p f = some (fo, bs) := by unfold frameO; rw [h]; rfl
  refine ⟨?_, h1⟩
  unfold reachE
  rw [if_neg, if_neg (by rw [Int.toNat_natCast, h1]; simp)]
  simp only [frameB, holdsB, Bool.and_eq_true, decide_eq_true_eq]
  omega
structure Pv (p : Pl) (l : Pg.Tb) (V : Int → Option Bys) (n : Nat) : Prop where
  ok : p.ok
  tok : Pg.Tok l
  shut : ∀ z, V z = none → Pg.look l z = none
  opn : ∀ z g, V z = some g → ∃ (m : Int) (i : Nat) (bs : List UInt8), Pg.look l z = some (-1, m, (i : Int)) ∧ p.fr[i]? = some (some (63, bs)) ∧ bs.length = 256 ∧ ∀ j, j < 256 → bs[j]? = some (g j)
  left : leftN p 63 = n
theorem Pv.new {p : Pl} {n : Nat} (h : p.ok) (hl : leftN p 63 = n) : Pv p [] (fun _ => none) n :=
  ⟨h, Pg.Tok.nil, fun _ _ => rfl, fun _ _ e => (by cases e), hl⟩
theorem zero_lenW : zero256.length = 256 := List.length_replicate ..
section
variable {p : Pl} {l : Pg.Tb} {V : Int → Option Bys} {n : Nat}
/-- a page is mapped: nobody's, 0 -/
theorem Pv.map (h : Pv p l V n) {z m : Int} (hz : Pg.pageB z = true) (hm : Pg.mayB m = true) (hv : V z = none) (hn : 0 < n) :
    mapME p l z (-1) 63 m = 0 ∧ Pv (mapMP p l z (-1) 63 m) (mapML p l z (-1) 63 m) (upz V z (some fun _ => 0)) (n - 1) := by
  have hl := h.shut z hv
  have hm0 : mqE l z (-1) 63 m = 0 := by
    unfold mqE
    rw [if_neg (by rw [hm]; decide), if_neg (by rw [hz]; simp), if_neg (by rw [hl]; simp)]
  have ht : takeE p 63 = 0 := by
    unfold takeE
    rw [if_neg (by decide), if_neg (by rw [show (63 : Int).toNat = 63 from rfl, h.left]; omega)]
  obtain ⟨_, _, _, hf1, _⟩ := takeE_left h.ok ht
  obtain ⟨f, hf⟩ : ∃ f, f = takeI p 63 := ⟨_, rfl⟩
  unfold mapME mapMP mapML
  rw [if_pos hm0, if_pos hm0, if_pos hm0, if_pos ht, if_pos ht]
  rw [← hf] at hf1 ⊢
  have hfn := (free1_spec _ _ hf1).1
  have hfl := (List.getElem?_eq_some_iff.1 hfn).1
  have hfr : Pg.framed l (f : Int) = false := by
    rw [Pg.framed_false]
    intro r hr hrf
    have hlk := (Pg.look_mem h.tok.sorted (z := r.1) (e := r.2)).2 hr
    cases hvr : V r.1 with
    | none =>
      rw [h.shut _ hvr] at hlk
      cases hlk
    | some g =>
      obtain ⟨m', i', bs', hl', hf', _⟩ := h.opn _ g hvr
      rw [hl'] at hlk
      injection hlk with hlk
      rw [← hlk] at hrf
      simp only at hrf
      have : i' = f := by omega
      subst this
      rw [hfn] at hf'
      cases hf'
  have hmost := h.ok.most
  have hE : Pg.mapE l z ((-1 : Int), m, (f : Int)) = 0 := by
    unfold Pg.mapE
    rw [if_neg, if_neg (by rw [hz]; simp), if_neg (by rw [hl]; simp), if_neg (by simp only; rw [hfr]; simp)]
    have : Pg.rightB ((-1 : Int), m, (f : Int)) = true := by
      have hm' := hm
      simp only [Pg.mayB, Bool.and_eq_true, decide_eq_true_eq] at hm'
      simp only [Pg.rightB, Pg.mayB, Bool.and_eq_true, decide_eq_true_eq]
      omega
    rw [this]
    simp
  have hT : Pg.mapT l z ((-1 : Int), m, (f : Int)) = Pg.ins l z ((-1 : Int), m, (f : Int)) := by unfold Pg.mapT; rw [if_pos hE]
  have hTk : takeP p 63 = { fr := p.fr.set f (some (63, zero256)), left := p.left.set 63 (leftN p 63 - 1) } := by
    unfold takeP
    rw [if_pos ht, ← hf]
    rfl
  have hm64 : Pg.I64 m := by
    simp only [Pg.mayB, Bool.and_eq_true, decide_eq_true_eq] at hm
    unfold Pg.I64
    omega
  refine ⟨hE, take_ok h.ok _, Pg.map_ok h.tok _ _ ⟨by unfold Pg.I64; simp only; omega, hm64, by unfold Pg.I64; simp only; omega⟩, fun y hy => ?_, fun y g hy => ?_, ?_⟩
  · have hyz : y ≠ z := by
      rintro rfl
      rw [upz_same] at hy
      cases hy
    rw [upz_other _ _ _ hyz] at hy
    rw [hT, look_insW h.tok.sorted _ hl, if_neg hyz]
    exact h.shut y hy
  · by_cases hyz : y = z
    · subst hyz
      rw [upz_same] at hy
      injection hy with hy
      subst hy
      refine ⟨m, f, zero256, by rw [hT, look_insW h.tok.sorted _ hl, if_pos rfl], by rw [hTk]; exact List.getElem?_set_self hfl, zero_lenW, fun j hj => ?_⟩
      unfold zero256
      rw [List.getElem?_replicate, if_pos hj]
    · rw [upz_other _ _ _ hyz] at hy
      obtain ⟨m', i', bs', hl', hf', hlen, hb⟩ := h.opn y g hy
      refine ⟨m', i', bs', by rw [hT, look_insW h.tok.sorted _ hl, if_neg hyz]; exact hl', ?_, hlen, hb⟩
      have hne : f ≠ i' := by
        rintro rfl
        rw [hfn] at hf'
        cases hf'
      rw [hTk]
      simp only
      rw [List.getElem?_set_ne hne]
      exact hf'
  · rw [hTk]
    unfold leftN
    simp only
    rw [List.getElem?_set_self (by rw [h.ok.l64]; omega)]
    have := h.left
    unfold leftN at this
    simp only [Option.getD_some]
    omega
/-- a page is unmapped -/
theorem Pv.unmap (h : Pv p l V n) {z : Int} {g : Bys} (hz : Pg.pageB z = true) (hv : V z = some g) :
    unmE p l z = 0 ∧ Pv (unmP p l z) (Pg.unmapT l z) (upz V z none) (n + 1) := by
  obtain ⟨m, f, bs, hl, hf, hlen, hb⟩ := h.opn z g hv
  have hfl := (List.getElem?_eq_some_iff.1 hf).1
  have hE : Pg.unmapE l z = 0 := by unfold Pg.unmapE; rw [hz, hl]; rfl
  have hX : (Pg.unmapX l z).2.2 = (f : Int) := by unfold Pg.unmapX; rw [if_pos hE, hl]; rfl
  have hT : Pg.unmapT l z = Pg.del l z := by unfold Pg.unmapT; rw [if_pos hE]
  have hfo : frameO p f = some (63, bs) := by unfold frameO; rw [hf]; rfl
  have hfb : frameB p (f : Int) = true := by simp only [frameB, Bool.and_eq_true, decide_eq_true_eq]; omega
  have hg : giveE p (f : Int) = 0 := by
    unfold giveE
    rw [if_neg (by rw [hfb]; simp), if_neg (by rw [Int.toNat_natCast, hfo]; simp)]
  have hP : unmP p l z = giveP p (f : Int) := by unfold unmP; rw [if_pos hE, hX]
  have hgp : giveP p (f : Int) = { fr := p.fr.set f none, left := p.left.set 63 (leftN p 63 + 1) } := by
    unfold giveP
    rw [if_pos hfb, Int.toNat_natCast, hfo]
  refine ⟨by unfold unmE; rw [if_pos hE, hX]; exact hg, ?_⟩
  rw [hP, hT]
  refine ⟨give_ok h.ok _, Pg.del_ok h.tok _, fun y hy => ?_, fun y g' hy => ?_, ?_⟩
  · rw [look_delW h.tok]
    split
    · rfl
    · rename_i h1
      rw [upz_other _ _ _ h1] at hy
      exact h.shut y hy
  · have hyz : y ≠ z := by
      rintro rfl
      rw [upz_same] at hy
      cases hy
    rw [upz_other _ _ _ hyz] at hy
    obtain ⟨m', i', bs', hl', hf', hlen', hb'⟩ := h.opn y g' hy
    refine ⟨m', i', bs', by rw [look_delW h.tok, if_neg hyz]; exact hl', ?_, hlen', hb'⟩
    have hne : f ≠ i' := by
      rintro rfl
      exact hyz (frames_neW h.tok hl' hl rfl)
    rw [hgp]
    simp only
    rw [List.getElem?_set_ne hne]
    exact hf'
  · rw [hgp]
    unfold leftN
    simp only
    rw [List.getElem?_set_self (by rw [h.ok.l64]; omega)]
    have := h.left
    unfold leftN at this
    simp only [Option.getD_some]
    omega
/-- a part is read -/
theorem Pv.pce (h : Pv p l V n) {z a k : Nat} {g : Bys} (hv : V (z : Int) = some g) (hak : a + k ≤ 256) : Vm.pce p l (z, a, k) = (List.range k).map fun j => g (a + j) := by
  obtain ⟨m, f, bs, hl, hf, hlen, hb⟩ := h.opn _ g hv
  obtain ⟨h1, h2⟩ := frame_readW hf hak
  unfold Vm.pce
  simp only
  rw [show (Pg.getX l (z : Int)).2.2 = (f : Int) by unfold Pg.getX; rw [hl]; rfl]
  unfold readP
  rw [if_pos h1, Int.toNat_natCast, h2]
  simp only [Int.toNat_natCast]
  apply List.ext_getElem?
  intro j
  rw [List.getElem?_take, List.getElem?_drop, List.getElem?_map]
  by_cases hj : j < k
  · rw [if_pos hj, List.getElem?_range hj, hb _ (by omega)]
    rfl
  · rw [if_neg hj, List.getElem?_eq_none (by simp; omega)]
    rfl
/-- a part is written -/
theorem Pv.part (h : Pv p l V n) {z a : Nat} {g : Bys} {b : List UInt8} (hv : V (z : Int) = some g) (hab : a + b.length ≤ 256) :
    Pv (writeP p (Pg.getX l (z : Int)).2.2 (a : Int) b) l (upz V z (some fun k => if a ≤ k ∧ k < a + b.length then b.getD (k - a) 0 else g k)) n := by
  obtain ⟨m, f, bs, hl, hf, hlen, hb⟩ := h.opn _ g hv
  obtain ⟨h1, h2⟩ := frame_readW hf hab
  have hfl := (List.getElem?_eq_some_iff.1 hf).1
  have hp : writeP p (Pg.getX l (z : Int)).2.2 (a : Int) b = { p with fr := p.fr.set f (some (63, putB bs a b)) } := by
    rw [show (Pg.getX l (z : Int)).2.2 = (f : Int) by unfold Pg.getX; rw [hl]; rfl]
    unfold writeP
    rw [if_pos h1, Int.toNat_natCast, h2]
    simp
  refine ⟨write_ok h.ok _ _ _, h.tok, fun y hy => ?_, fun y g' hy => ?_, by rw [hp]; exact h.left⟩
  · by_cases hyz : y = (z : Int)
    · subst hyz
      rw [upz_same] at hy
      cases hy
    · rw [upz_other _ _ _ hyz] at hy
      exact h.shut y hy
  · by_cases hyz : y = (z : Int)
    · subst hyz
      rw [upz_same] at hy
      injection hy with hy
      subst hy
      have hpl : (putB bs a b).length = 256 := by
        unfold putB
        simp only [List.length_append, List.length_take, List.length_drop]
        omega
      refine ⟨m, f, putB bs a b, hl, by rw [hp]; exact List.getElem?_set_self hfl, hpl, fun j hj => ?_⟩
      unfold putB
      simp only
      have hta : (bs.take a).length = a := by rw [List.length_take]; omega
      by_cases c1 : j < a
      · rw [if_neg (by omega), List.append_assoc, List.getElem?_append_left (by omega), List.getElem?_take, if_pos c1]
        exact hb j hj
      · by_cases c2 : j < a + b.length
        · rw [if_pos ⟨by omega, c2⟩, List.append_assoc, List.getElem?_append_right (by omega), hta, List.getElem?_append_left (by omega), List.getD_eq_getElem?_getD, List.getElem?_eq_getElem (by omega)]
          rfl
        · rw [if_neg (by omega), List.getElem?_append_right (by rw [List.length_append, hta]; omega), List.length_append, hta, List.getElem?_drop, show a + b.length + (j - (a + b.length)) = j by omega]
          exact hb j hj
    · rw [upz_other _ _ _ hyz] at hy
      obtain ⟨m', i', bs', hl', hf', hlen', hb'⟩ := h.opn y g' hy
      refine ⟨m', i', bs', hl', ?_, hlen', hb'⟩
      have hne : f ≠ i' := by
        rintro rfl
        exact hyz (frames_neW h.tok hl' hl rfl)
      rw [hp]
      simp only
      rw [List.getElem?_set_ne hne]
      exact hf'
end
end Go.Proofs.YtiahmccchpmdgaaGreatDoor.Vm
