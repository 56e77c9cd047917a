import Derived.Test.YtkfljominljliaaGreatVi
namespace Go.Proofs.YtkfljominljliaaGreat.Vm
open Go.RowKit Go.Shelf Go.Maps Go.Sort
attribute [local go_sem] Oper.semAt_some

/- WHO REACHES WHAT. -/

/-- what is wrong with a reach by somebody who may be or not -/
def rE (may : Bool) (f : Nat → Bool) (a : Nat) (n : Int) : Nat := if ¬ (may && properB n) = true then 2 else if ¬ withinB a n = true then 4 else if ¬ seenB f a n.toNat = true then 190 else 0
theorem reached1_any (a : Nat) (n : Int) (may : Bool) (g1 g2 : Nat) (w : World) (h1 : w.cell? ⟨g1, 0, none⟩ = some (.bool may)) (h2 : w.cell? ⟨g2, 0, none⟩ = some (.int .u32 (a : Int))) (h3 : w.cell? ⟨g2, 1, none⟩ = some (.int .i64 n)) :
    Calls Tryz.prog 92 #[bx g1, bx g2] w fun e w' => e = .returned (.bool (may && properB n)) ∧ Below w.heap.size w w' := by
  have hp := Lib.hid (proper_any a n w)
  obtain ⟨q, hq⟩ : ∃ q, q = properB n := ⟨_, rfl⟩
  rw [← hq] at hp ⊢
  clear hq
  cases may
  · go_enter Tryz.func92, Tryz.ntmps92
    go_wp2_with fail
    go_ret
    exact ⟨rfl, Below.refl _ _⟩
  · go_enter Tryz.func92, Tryz.ntmps92
    go_wp2_with fail
    refine hp.out.mono ?_
    rintro e w1 ⟨rfl, hb⟩
    go_wp2_with fail
    go_ret
    exact ⟨rfl, hb⟩
theorem reached2_any (f : Nat → Bool) (a n cf : Nat) (cap : Array Value) (g1 g2 : Nat) (w : World) (han : a + n ≤ 16777216) (h1 : w.cell? ⟨g1, 0, none⟩ = some (.int .u32 (a : Int))) (h2 : w.cell? ⟨g1, 1, none⟩ = some (.int .i64 (n : Int))) (h3 : w.cell? ⟨g2, 0, none⟩ = some (.func (.func cf) #[] cap))
    (eg : ∀ args w, (callFunc cf args).run Tryz.prog w = .ok (.enter cf args) w)
    (HF : ∀ (z : Nat) V, z < 65536 → Below w.heap.size w V → Calls Tryz.prog cf (#[.int .i64 (z : Int)] ++ cap) V fun e V' => e = .returned (.bool (f z)) ∧ Below V.heap.size V V') :
    Calls Tryz.prog 95 #[bx g1, bx g2] w fun e w' => e = .returned (.bool (seenB f a n)) ∧ Below w.heap.size w w' := by
  have hp := Lib.hid (seen_any f a n cf cap w han eg HF)
  obtain ⟨q, hq⟩ : ∃ q, q = seenB f a n := ⟨_, rfl⟩
  rw [← hq] at hp ⊢
  clear hq HF eg
  go_enter Tryz.func95, Tryz.ntmps95
  go_wp2_with fail
  refine hp.out.mono ?_
  rintro e w1 ⟨rfl, hb⟩
  go_wp2_with fail
  go_ret
  exact ⟨rfl, hb⟩
def rchB (a : Nat) (n : Int) (may : Bool) (fv : Value) : List (List Value × TypeId) := [([.int .u32 (a : Int), .int .i64 n], 68), ([.bool may], 4), ([fv], 58)]
def rchL (b a : Nat) (n : Int) (s : Nat) (a2 a3 a4 : Bool) : List Ask :=
  [⟨19, #[bx b], #[], 1, true⟩, ⟨92, #[], #[bx (s + 1), bx s], 2, a2⟩, ⟨94, #[.agg #[.int .u32 (a : Int), .int .i64 n]], #[], 4, a3⟩, ⟨95, #[], #[bx s, bx (s + 2)], 190, a4⟩]
theorem rch_asked {w : World} (b q a : Nat) (n : Int) (may : Bool) (f : Nat → Bool) (cf : Nat) (cap : Array Value) (hc : w.cell? ⟨b, 1, none⟩ = some (bx q)) (ha : a < 4294967296) (eg : ∀ args w, (callFunc cf args).run Tryz.prog w = .ok (.enter cf args) w)
    (HF : ∀ (z : Nat) V, z < 65536 → Below w.heap.size w V → Calls Tryz.prog cf (#[.int .i64 (z : Int)] ++ cap) V fun e V' => e = .returned (.bool (f z)) ∧ Below V.heap.size V V') :
    Calls Tryz.prog 18 #[.slice (some ⟨w.heap.size + 3, 0, none⟩) 4 4] (askW w (rchB a n may (.func (.func cf) #[] cap)) (rchL b a n w.heap.size true true true)) fun e w' => e = .returned (.int .i64 (rE may f a n : Int)) ∧ Below w.heap.size w w' := by
  obtain ⟨a2, ha2⟩ : ∃ a2, a2 = (may && properB n) := ⟨_, rfl⟩
  obtain ⟨a3, ha3⟩ : ∃ a3, a3 = withinB a n := ⟨_, rfl⟩
  obtain ⟨a4, ha4⟩ : ∃ a4, a4 = seenB f a n.toNat := ⟨_, rfl⟩
  have hE : askE (rchL b a n w.heap.size a2 a3 a4) = (rE may f a n : Int) := by
    unfold rE
    rw [← ha2, ← ha3, ← ha4]
    cases a2 <;> cases a3 <;> cases a4 <;> rfl
  refine (asked_box (rchB a n may (.func (.func cf) #[] cap)) (rchL b a n w.heap.size a2 a3 a4) 4 4 _ rfl rfl (by omega) fun k hk hall => ?_).mono fun e w' ⟨e1, e2, _⟩ => ⟨by rw [e1, hE], e2.below⟩
  rcases k with _ | _ | _ | _ | k
  · refine ⟨enters_of Tryz.func19 (by kernel_rfl) rfl, fun V hV => ?_⟩
    exact (there_any b q V ((hV.below.cell (p := ⟨b, 1, none⟩) (lt_of_cell hc)).trans hc)).mono fun e w' ⟨e1, e2⟩ => ⟨e1, e2 ▸ Below.refl _ _⟩
  · refine ⟨enters_of Tryz.func92 (by kernel_rfl) rfl, fun V hV => ?_⟩
    have := reached1_any a n may (w.heap.size + 1) w.heap.size V (hV.cell 1 _ rfl 0 _ rfl) (hV.cell 0 _ rfl 0 _ rfl) (hV.cell 0 _ rfl 1 _ rfl)
    rw [← ha2] at this
    exact this
  · refine ⟨enters_of Tryz.func94 (by kernel_rfl) rfl, fun V hV => ?_⟩
    have := within_any a n V ha
    rw [← ha3] at this
    exact this
  · have t2 : a2 = true := hall 1 (by simp [rchL]) (by omega)
    have t3 : a3 = true := hall 2 (by simp [rchL]) (by omega)
    rw [ha2] at t2
    rw [ha3] at t3
    simp only [properB, withinB, Bool.and_eq_true, decide_eq_true_eq] at t2 t3
    obtain ⟨m, rfl⟩ : ∃ m : Nat, n = m := ⟨n.toNat, by omega⟩
    refine ⟨enters_of Tryz.func95 (by kernel_rfl) rfl, fun V hV => ?_⟩
    have := reached2_any f a m cf cap w.heap.size (w.heap.size + 2) V (by omega) (hV.cell 0 _ rfl 0 _ rfl) (hV.cell 0 _ rfl 1 _ rfl) (hV.cell 2 _ rfl 0 _ rfl) eg (fun z V' hz hb => HF z V' hz (below0 hV.below hb))
    rw [Int.toNat_natCast] at ha4
    rw [← ha4] at this
    exact this
  · simp [rchL] at hk
    omega
set_option maxHeartbeats 1000000 in
theorem reached_any {w : World} (b q a : Nat) (n : Int) (may : Bool) (f : Nat → Bool) (cf : Nat) (cap : Array Value) (hc : w.cell? ⟨b, 1, none⟩ = some (bx q)) (ha : a < 4294967296) (eg : ∀ args w, (callFunc cf args).run Tryz.prog w = .ok (.enter cf args) w)
    (HF : ∀ (z : Nat) V, z < 65536 → Below w.heap.size w V → Calls Tryz.prog cf (#[.int .i64 (z : Int)] ++ cap) V fun e V' => e = .returned (.bool (f z)) ∧ Below V.heap.size V V') :
    Calls Tryz.prog 74 #[bx b, .agg #[.int .u32 (a : Int), .int .i64 n], .bool may, .func (.func cf) #[] cap] w fun e w' => e = .returned (.int .i64 (rE may f a n : Int)) ∧ Below w.heap.size w w' := by
  have h1 := Lib.hid (rch_asked b q a n may f cf cap hc ha eg HF)
  obtain ⟨E, hE⟩ : ∃ E, E = rE may f a n := ⟨_, rfl⟩
  rw [← hE] at h1 ⊢
  clear hE HF eg hc
  go_enter Tryz.func74, Tryz.ntmps74
  go_wp2_with fail
  refine (h1.out).mono ?_
  rintro e w1 ⟨rfl, hb⟩
  go_wp2_with fail
  go_ret
  exact ⟨rfl, hb⟩
set_option maxHeartbeats 1000000 in
theorem owned1_any {w : World} {b t g1 g2 g3 : Nat} {l : Pg.Tb} {F : Nat → Prop} (o m : Int) (z : Nat) (hz : z < 65536) (ht : Pg.Has w t l F) (hb0 : w.cell? ⟨b, 0, none⟩ = some (bx t)) (h1 : w.cell? ⟨g1, 0, none⟩ = some (bx b)) (h2 : w.cell? ⟨g2, 0, none⟩ = some (.int .i64 o)) (h3 : w.cell? ⟨g3, 0, none⟩ = some (.int .i64 m)) :
    Calls Tryz.prog 75 #[.int .i64 (z : Int), bx g1, bx g2, bx g3] w fun e w' => e = .returned (.bool (grantB l z o m)) ∧ Below w.heap.size w w' := by
  have HSS := Lib.hid (fun (W : World) (hb : Below w.heap.size w W) => (show W.cell? ⟨g1, 0, none⟩ = some (bx b) ∧ W.cell? ⟨b, 0, none⟩ = some (bx t) ∧ W.cell? ⟨g2, 0, none⟩ = some (.int .i64 o) ∧ W.cell? ⟨g3, 0, none⟩ = some (.int .i64 m) from
    ⟨(hb.cell (p := ⟨g1, 0, none⟩) (lt_of_cell h1)).trans h1, (hb.cell (p := ⟨b, 0, none⟩) (lt_of_cell hb0)).trans hb0, (hb.cell (p := ⟨g2, 0, none⟩) (lt_of_cell h2)).trans h2, (hb.cell (p := ⟨g3, 0, none⟩) (lt_of_cell h3)).trans h3⟩))
  have HG := Lib.hid (fun (W : World) (hb : Below w.heap.size w W) => grants_any (ht.below hb) (z : Int) (by unfold Pg.I64; omega) o m)
  obtain ⟨r, hr⟩ : ∃ r, r = grantB l z o m := ⟨_, rfl⟩
  rw [← hr] at HG ⊢
  clear hr ht hb0 h1 h2 h3
  go_enter Tryz.func75, Tryz.ntmps75
  go_wp2_with fail
  have hdr : Below w.heap.size w w.drew := (Below.refl _ _).drew
  refine wp_region_held_drew (S := fun W => W.cell? ⟨g1, 0, none⟩ = some (bx b) ∧ W.cell? ⟨b, 0, none⟩ = some (bx t) ∧ W.cell? ⟨g2, 0, none⟩ = some (.int .i64 o) ∧ W.cell? ⟨g3, 0, none⟩ = some (.int .i64 m)) (by kernel_rfl) (HSS.out _ hdr) (fun hHeld => ?_)
  refine wpAnyH_take (i := 0) (v := ?_) rfl (by kernel_rfl) (by kernel_rfl) (by kernel_rfl) (fun _ _ _ h => h) (Or.inl ⟨by kernel_rfl, ?_⟩) hHeld ?_
  rotate_left
  focus (intro w hSw; (try dsimp only at hSw); go_simp; try with_reducible rfl)
  simp only [Act.put]
  refine wpAnyH_take (i := 1) (v := ?_) rfl (by kernel_rfl) (by kernel_rfl) (by kernel_rfl) (fun _ _ _ h => h) (Or.inl ⟨by kernel_rfl, ?_⟩) hHeld ?_
  rotate_left
  focus (intro w hSw; (try dsimp only at hSw); go_simp; try with_reducible rfl)
  simp only [Act.put]
  refine wpAnyH_take (i := 2) (v := ?_) rfl (by kernel_rfl) (by kernel_rfl) (by kernel_rfl) (fun _ _ _ h => h) (Or.inl ⟨by kernel_rfl, ?_⟩) hHeld ?_
  rotate_left
  focus (intro w hSw; (try dsimp only at hSw); go_simp; try with_reducible rfl)
  simp only [Act.put]
  refine wpAnyH_take (i := 3) (v := ?_) rfl (by kernel_rfl) (by kernel_rfl) (by kernel_rfl) (fun _ _ _ h => h) (Or.inl ⟨by kernel_rfl, ?_⟩) hHeld ?_
  rotate_left
  focus (intro w hSw; (try dsimp only at hSw); go_simp; try with_reducible rfl)
  simp only [Act.put]
  refine wpAnyH_take (i := 4) (v := ?_) rfl (by kernel_rfl) (by kernel_rfl) (by kernel_rfl) (fun _ _ _ h => h) (Or.inl ⟨by kernel_rfl, ?_⟩) hHeld ?_
  rotate_left
  focus (intro w hSw; (try dsimp only at hSw); go_simp; try with_reducible rfl)
  simp only [Act.put]
  refine wpAnyH_take (i := 5) (v := ?_) rfl (by kernel_rfl) (by kernel_rfl) (by kernel_rfl) (fun _ _ _ h => h) (Or.inl ⟨by kernel_rfl, ?_⟩) hHeld ?_
  rotate_left
  focus (intro w hSw; (try dsimp only at hSw); go_simp; try with_reducible rfl)
  simp only [Act.put]
  refine wpAnyH_take (i := 6) (v := ?_) rfl (by kernel_rfl) (by kernel_rfl) (by kernel_rfl) (fun _ _ _ h => h) (Or.inl ⟨by kernel_rfl, ?_⟩) hHeld ?_
  rotate_left
  focus (intro w hSw; (try dsimp only at hSw); go_simp; try with_reducible rfl)
  simp only [Act.put]
  refine wpAnyH_ready (rs := [7]) (by kernel_rfl) (by simp) ?_
  refine AllReadyH.cons rfl (fun K hK => ?_) (AllReadyH.nil)
  go_simp
  refine (HG.out _ hdr).mono ?_
  rintro e W1 ⟨rfl, hb2⟩
  replace hb2 := below0 hdr hb2
  refine hK.out _ _ (HSS.out _ hb2) (fun hHeld => ?_)
  clear hK K hdr
  try simp only [Act.put]
  refine wpAnyH_ready (rs := [8]) (by kernel_rfl) (by simp) ?_
  refine AllReadyH.cons rfl (fun K hK => ?_) (AllReadyH.nil)
  go_simp
  refine hK.out _ _ (HSS.out _ hb2) (fun hHeld => ?_)
  clear hK K
  try simp only [Act.put]
  refine wpAnyH_done (by kernel_rfl) ?_ _
  clear HSS HG
  go_wp2_with fail
  go_ret
  exact ⟨rfl, hb2⟩
def ownE (l : Pg.Tb) (o m : Int) (a : Nat) (n : Int) : Nat := rE (ownsB o) (fun z => grantB l z o m) a n
set_option maxHeartbeats 1000000 in
theorem owned_any {w : World} {b t q : Nat} {l : Pg.Tb} {p : Pl} {F1 F2 : Nat → Prop} (h : MRep w b t q l p F1 F2) (a : Nat) (n o m : Int) (ha : a < 4294967296) :
    Calls Tryz.prog 33 #[bx b, .agg #[.int .u32 (a : Int), .int .i64 n], .int .i64 o, .int .i64 m] w fun e w' => e = .returned (.int .i64 (ownE l o m a n : Int)) ∧ Below w.heap.size w w' := by
  obtain ⟨W0, hW⟩ : ∃ W0, W0 = boxW w [([bx b], 25), ([.int .u32 (a : Int), .int .i64 n], 68), ([.int .i64 o], 3), ([.int .i64 m], 33)] := ⟨_, rfl⟩
  have hrow := fun k x hk => box_row [([bx b], 25), ([.int .u32 (a : Int), .int .i64 n], 68), ([.int .i64 o], 3), ([.int .i64 m], 33)] w k x hk
  have hbb := box_below [([bx b], 25), ([.int .u32 (a : Int), .int .i64 n], 68), ([.int .i64 o], 3), ([.int .i64 m], 33)] w w (Below.refl _ _)
  rw [← hW] at hrow hbb
  have r0 := hrow 0 _ rfl
  have r1 := hrow 1 _ rfl
  have r2 := hrow 2 _ rfl
  have r3 := hrow 3 _ rfl
  clear hrow
  have HSS := Lib.hid (fun (W : World) (hb : Below W0.heap.size W0 W) => (show W.cell? ⟨w.heap.size, 0, none⟩ = some (bx b) ∧ W.cell? ⟨w.heap.size + 1, 0, none⟩ = some (.int .u32 (a : Int)) ∧ W.cell? ⟨w.heap.size + 1, 1, none⟩ = some (.int .i64 n) ∧ W.cell? ⟨w.heap.size + 1 + 1, 0, none⟩ = some (.int .i64 o) from
    ⟨(r0.below hb).cell 0, (r1.below hb).cell 0, (r1.below hb).cell 1, (r2.below hb).cell 0⟩))
  have HOW := Lib.hid (fun w => owns_any o w)
  have HRC := Lib.hid (fun (W : World) (hb : Below W0.heap.size W0 W) => reached_any b q a n (ownsB o) (fun z => grantB l z o m) 75 #[bx w.heap.size, bx (w.heap.size + 2), bx (w.heap.size + 3)] (h.below (below0 hbb hb)).c1 ha (enters_of Tryz.func75 (by kernel_rfl) rfl)
    (fun z V hz hbV => owned1_any o m z hz (h.below (below0 (below0 hbb hb) hbV)).tab (h.below (below0 (below0 hbb hb) hbV)).c0 ((r0.below (below0 hb hbV)).cell 0) ((r2.below (below0 hb hbV)).cell 0) ((r3.below (below0 hb hbV)).cell 0)))
  have HB := Lib.hid hbb
  unfold ownE
  obtain ⟨E, hE⟩ : ∃ E, E = rE (ownsB o) (fun z => grantB l z o m) a n := ⟨_, rfl⟩
  rw [← hE] at HRC ⊢
  obtain ⟨ob, hob⟩ : ∃ ob, ob = ownsB o := ⟨_, rfl⟩
  rw [← hob] at HRC HOW
  have hW' : W0 = (((w.alloc (.cells #[bx b] 25)).alloc (.cells #[.int .u32 (a : Int), .int .i64 n] 68)).alloc (.cells #[.int .i64 o] 3)).alloc (.cells #[.int .i64 m] 33) := hW
  have HW := Lib.hid hW'
  clear hE hob hW hW' h hbb r0 r1 r2 r3
  go_enter Tryz.func33, Tryz.ntmps33
  go_wp2_with fail
  rw [← HW.out]
  have hdr : Below W0.heap.size W0 W0.drew := (Below.refl _ _).drew
  refine wp_region_held_drew (S := fun W => W.cell? ⟨w.heap.size, 0, none⟩ = some (bx b) ∧ W.cell? ⟨w.heap.size + 1, 0, none⟩ = some (.int .u32 (a : Int)) ∧ W.cell? ⟨w.heap.size + 1, 1, none⟩ = some (.int .i64 n) ∧ W.cell? ⟨w.heap.size + 1 + 1, 0, none⟩ = some (.int .i64 o)) (by kernel_rfl) (HSS.out _ hdr) (fun hHeld => ?_)
  refine wpAnyH_take (i := 0) (v := ?_) rfl (by kernel_rfl) (by kernel_rfl) (by kernel_rfl) (fun _ _ _ h => h) (Or.inl ⟨by kernel_rfl, ?_⟩) hHeld ?_
  rotate_left
  focus (intro w hSw; (try dsimp only at hSw); go_simp; try with_reducible rfl)
  simp only [Act.put]
  refine wpAnyH_take (i := 1) (v := ?_) rfl (by kernel_rfl) (by kernel_rfl) (by kernel_rfl) (fun _ _ _ h => h) (Or.inl ⟨by kernel_rfl, ?_⟩) hHeld ?_
  rotate_left
  focus (intro w hSw; (try dsimp only at hSw); go_simp; try with_reducible rfl)
  simp only [Act.put]
  refine wpAnyH_take (i := 2) (v := ?_) rfl (by kernel_rfl) (by kernel_rfl) (by kernel_rfl) (fun _ _ _ h => h) (Or.inl ⟨by kernel_rfl, ?_⟩) hHeld ?_
  rotate_left
  focus (intro w hSw; (try dsimp only at hSw); go_simp; try with_reducible rfl)
  simp only [Act.put]
  refine wpAnyH_take (i := 4) (v := ?_) rfl (by kernel_rfl) (by kernel_rfl) (by kernel_rfl) (fun _ _ _ h => h) (Or.inl ⟨by kernel_rfl, ?_⟩) hHeld ?_
  rotate_left
  focus (intro w hSw; (try dsimp only at hSw); go_simp; try with_reducible rfl)
  simp only [Act.put]
  refine wpAnyH_ready (rs := [3]) (by kernel_rfl) (by simp) ?_
  refine AllReadyH.cons rfl (fun K hK => ?_) (AllReadyH.nil)
  go_simp
  refine (HOW.out _).mono ?_
  rintro e W1 ⟨rfl, rfl⟩
  refine hK.out _ _ (HSS.out _ hdr) (fun hHeld => ?_)
  clear hK K
  try simp only [Act.put]
  refine wpAnyH_ready (rs := [5]) (by kernel_rfl) (by simp) ?_
  refine AllReadyH.cons rfl (fun K hK => ?_) (AllReadyH.nil)
  go_simp
  refine (HRC.out _ hdr).mono ?_
  rintro e W1 ⟨rfl, hb2⟩
  replace hb2 := below0 hdr hb2
  refine hK.out _ _ (HSS.out _ hb2) (fun hHeld => ?_)
  clear hK K hdr
  try simp only [Act.put]
  refine wpAnyH_ready (rs := [6]) (by kernel_rfl) (by simp) ?_
  refine AllReadyH.cons rfl (fun K hK => ?_) (AllReadyH.nil)
  go_simp
  refine hK.out _ _ (HSS.out _ hb2) (fun hHeld => ?_)
  clear hK K
  try simp only [Act.put]
  refine wpAnyH_done (by kernel_rfl) ?_ _
  have HF := Lib.hid (below0 HB.out hb2)
  clear HSS HRC HOW hb2
  go_wp2_with fail
  go_ret
  exact ⟨rfl, HF.out⟩
end Go.Proofs.YtkfljominljliaaGreat.Vm
