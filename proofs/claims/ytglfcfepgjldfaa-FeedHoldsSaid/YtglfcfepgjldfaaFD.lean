import Derived.Test.YtglfcfepgjldfaaFC
namespace Go.Proofs.Ytglfcfepgjldfaa.Fe
open Go.RowKit Go.Shelf
attribute [local go_sem] Oper.semAt_some

/- A CALL BY BOTH. -/
theorem num_any (z : Int) (w : World) : Calls Try.prog 15 #[.int .i64 z] w fun e w' => e = .returned (.int .i64 z) ∧ w = w' := by
  go_enter Try.func15, Try.ntmps15
  go_wp2
  go_ret
  exact ⟨rfl, rfl⟩
structure Ac where
  what : Int
  n : Int
def Ac.cells (x : Ac) : List Value := [.int .i64 x.what, .int .i64 x.n]
def Ac.fits (x : Ac) : Prop := i64 x.n
/-- the place behind a call -/
def actP (l : List UInt8) (p : Nat) (what n : Int) : Nat :=
  if what = 0 then (if okN n then pickP l p else p) else if what = 1 then p + min 4 (l.length - p) else if what = 2 then (if n < 0 then p else p + min n.toNat (l.length - p)) else if what = 3 then (if n < 0 ∨ (l.length : Int) < n then p else n.toNat) else if what = 4 then p + min 2 (cnt l p n) else p
def ActP (Has : HasT) (w : World) (F : Nat → Prop) (l : List UInt8) (p' : Nat) (e : Ending) (w' : World) : Prop :=
  ∃ v' F', e = .returned (.tuple #[v', fv l p', .bool true]) ∧ Has w' v' l p' F' ∧ Keep F w w' ∧ ∀ k, F' k → F k ∨ w.heap.size ≤ k
/-- what is known of a world within the call -/
structure AM (Has : HasT) (w : World) (F : Nat → Prop) (v : Value) (l : List UInt8) (p p' : Nat) (what n : Int) (V : World) : Prop where
  has : Has V v l p' F
  keep : Keep F w V
  box : Row V w.heap.size 28 (fc l p)
  act : Row V (w.heap.size + 1) 32 [.int .i64 what, .int .i64 n]
  res : Row V (w.heap.size + 2) 28 [.string (str []), .int .i64 0]
  fl : ∀ k, F k → k < w.heap.size
section
variable {Has : HasT} (H : Api Has) {w V V' : World} {F : Nat → Prop} {v : Value} {l : List UInt8} {p p' q : Nat} {what n : Int}
include H
theorem AM.start (h : Has w v l p F) : AM Has w F v l p p what n (((w.alloc (.cells #[.string (str l), .int .i64 (p : Int)] 28)).alloc (.cells #[.int .i64 what, .int .i64 n] 32)).alloc (.cells #[.string (str []), .int .i64 0] 28)) := by
  refine ⟨H.below h (below3 _ _ _ _), Keep.of_below (below3 _ _ _ _), ?_, ?_, ?_, H.lt h⟩
  · exact ((Row.new w _ (fc l p)).below (below1 _ _)).below (below1 _ _)
  · have := (Row.new (w.alloc (.cells #[.string (str l), .int .i64 (p : Int)] 28)) 32 [.int .i64 what, .int .i64 n]).below (below1 _ (.cells #[.string (str []), .int .i64 0] 28))
    rwa [World.size_alloc] at this
  · have := Row.new ((w.alloc (.cells #[.string (str l), .int .i64 (p : Int)] 28)).alloc (.cells #[.int .i64 what, .int .i64 n] 32)) 28 [.string (str []), .int .i64 0]
    rwa [World.size_alloc, World.size_alloc] at this
theorem AM.more (h : AM Has w F v l p p' what n V) (hb : Below V.heap.size V V') : AM Has w F v l p p' what n V' :=
  ⟨H.below h.has hb, keep_low h.keep (hb.mono h.keep.size), h.box.below hb, h.act.below hb, h.res.below hb, h.fl⟩
omit H in
theorem AM.step (h : AM Has w F v l p p' what n V) (hn : Nx Has V v l q F V') : AM Has w F v l p q what n V' := by
  have hne : ∀ k, w.heap.size ≤ k → ¬ F k := fun k hk hf => by have := h.fl k hf; omega
  exact ⟨hn.1, h.keep.trans hn.2 (fun _ _ hf => hf), hn.2.row h.box (hne _ (Nat.le_refl _)), hn.2.row h.act (hne _ (by omega)), hn.2.row h.res (hne _ (by omega)), h.fl⟩
/-- behind the result's cells -/
theorem AM.fin (h : AM Has w F v l p p' what n V) (W : World) (hW : W.heap = ((V.setCell ⟨w.heap.size + 2, 0, none⟩ (.string (str l))).setCell ⟨w.heap.size + 2, 1, none⟩ (.int .i64 (q : Int))).heap) (ho : W.os = V.os) (ht : W.tape = V.tape) (hu : W.output = V.output) :
    Has W v l p' F ∧ Keep F w W ∧ W.cell? ⟨w.heap.size + 2, 0, none⟩ = some (.string (str l)) ∧ W.cell? ⟨w.heap.size + 2, 1, none⟩ = some (.int .i64 (q : Int)) := by
  have hr := (h.res.set 0 (.string (str l))).set 1 (.int .i64 (q : Int))
  have hr2 : Row W (w.heap.size + 2) 28 [.string (str l), .int .i64 (q : Int)] := by
    unfold Row
    rw [hW]
    exact hr
  have hk : Keep F w ((V.setCell ⟨w.heap.size + 2, 0, none⟩ (.string (str l))).setCell ⟨w.heap.size + 2, 1, none⟩ (.int .i64 (q : Int))) := (h.keep.set _ (.inr (by omega))).set _ (.inr (by omega))
  refine ⟨H.keep h.has (fun k hk => ?_), ⟨ho.trans h.keep.os, ht.trans h.keep.tape, hu.trans h.keep.output, by rw [hW]; exact hk.size, fun k hk1 hk2 => by rw [hW]; exact hk.block k hk1 hk2⟩, hr2.cell 0, hr2.cell 1⟩
  have := h.fl k hk
  rw [hW]
  exact (heap_set (by omega)).trans (heap_set (by omega))
end
set_option maxRecDepth 100000 in
set_option maxHeartbeats 4000000 in
theorem act_pickNo {Has : HasT} (H : Api Has) (v : Value) (l : List UInt8) (p : Nat) (F : Nat → Prop) (what n : Int) (w : World) (h : Has w v l p F) (hf : i64 n) (hw : what = 0) (hz : ¬ okN n) :
    Calls Try.prog 8 #[v, fv l p, .agg #[.int .i64 what, .int .i64 n]] w (ActP Has w F l p) := by
  have hn := Lib.hid (fun n w => num_any n w)
  have hsm := H.sm h
  obtain ⟨W0, hW0⟩ : ∃ W0, W0 = ((w.alloc (.cells #[.string (str l), .int .i64 (p : Int)] 28)).alloc (.cells #[.int .i64 what, .int .i64 n] 32)).alloc (.cells #[.string { data := #[] }, .int .i64 0] 28) := ⟨_, rfl⟩
  have hM : AM Has w F v l p p what n W0 := by rw [hW0]; exact AM.start H h
  have HM := Lib.hid hM
  have HW0 := Lib.hid hW0
  clear hW0 hM h
  subst hw
  have HR := Lib.hid (fun w => rpick_no l p n (by unfold okN at hz; omega) w)
  have HP := Lib.hid (fun (V : World) (hV : Has V v l p F) => H.pickNo n hV hf hz)
  clear hz hf hsm
  go_enter Try.func8, Try.ntmps8
  go_wp2_with fail
  rw [← HW0.out]
  refine (HR.out _).mono ?_
  rintro e W1 ⟨rfl, hb1⟩
  have HM1 := Lib.hid (AM.more H HM.out hb1)
  have HM2 := Lib.hid (AM.more H HM1.out (below1 W1 (.cells #[.string (str l), .int .i64 ((p : Nat) : Int)] 28)))
  have a1 : (W1.alloc (.cells #[.string (str l), .int .i64 ((p : Nat) : Int)] 28)).cell? ⟨w.heap.size + 1, 1, none⟩ = some (.int .i64 n) := HM2.out.act.cell 1
  have HS1 := Lib.hid (show w.heap.size + 3 ≤ W1.heap.size by have := HM1.out.res.lt; omega)
  clear hb1
  go_wp2_with fail
  refine (HP.out _ HM2.out.has).mono ?_
  rintro e W3 ⟨rfl, hn3⟩
  have HM3 := Lib.hid (AM.step HM2.out hn3)
  have hbx : Row W3 W1.heap.size 28 (fc l (p)) := hn3.2.row (Row.new W1 _ (fc l (p))) (fun hf => by have := HM3.out.fl _ hf; have := HS1.out; omega)
  have b0 : W3.cell? ⟨W1.heap.size, 0, none⟩ = some (.string (str l)) := hbx.cell 0
  have b1 : W3.cell? ⟨W1.heap.size, 1, none⟩ = some (.int .i64 ((p : Nat) : Int)) := hbx.cell 1
  have c0 : W3.cell? ⟨w.heap.size + 1 + 1, 0, none⟩ = some (.string (str [])) := HM3.out.res.cell 0
  have c1 : W3.cell? ⟨w.heap.size + 1 + 1, 1, none⟩ = some (.int .i64 0) := HM3.out.res.cell 1
  have f0 : W3.frozen? ⟨w.heap.size + 1 + 1, 0, none⟩ = false := HM3.out.res.frozen 0
  have f1 : W3.frozen? ⟨w.heap.size + 1 + 1, 1, none⟩ = false := HM3.out.res.frozen 1
  have hlt : w.heap.size + 1 + 1 < W3.heap.size := HM3.out.res.lt
  have hlt1 : w.heap.size + 1 + 1 < W1.heap.size := by have := HS1.out; omega
  have hlt2 : W1.heap.size < W3.heap.size := hbx.lt
  have HBZ := Lib.hid (show ((W3.drew.setCell ⟨w.heap.size + 1 + 1, 0, none⟩ (.string (str l))).setCell ⟨w.heap.size + 1 + 1, 1, none⟩ (.int .i64 ((p : Nat) : Int))).cell? ⟨W1.heap.size, 0, none⟩ = some (.string (str l)) ∧ ((W3.drew.setCell ⟨w.heap.size + 1 + 1, 0, none⟩ (.string (str l))).setCell ⟨w.heap.size + 1 + 1, 1, none⟩ (.int .i64 ((p : Nat) : Int))).cell? ⟨W1.heap.size, 1, none⟩ = some (.int .i64 ((p : Nat) : Int)) from by
    have hd : Row W3.drew W1.heap.size 28 (fc l (p)) := hbx
    have hz : Row ((W3.drew.setCell ⟨w.heap.size + 1 + 1, 0, none⟩ (.string (str l))).setCell ⟨w.heap.size + 1 + 1, 1, none⟩ (.int .i64 ((p : Nat) : Int))) W1.heap.size 28 (fc l (p)) := hd.same ((heap_set (by omega)).trans (heap_set (by omega)))
    exact ⟨hz.cell 0, hz.cell 1⟩)
  clear hn3 hbx a1
  go_wp2_with fail
  refine wp_region_noPanic ?_
  refine wp_region_held_drew (S := fun W => W.cell? ⟨W1.heap.size, 0, none⟩ = some (.string (str l)) ∧ W.cell? ⟨W1.heap.size, 1, none⟩ = some (.int .i64 ((p : Nat) : Int))) (by kernel_rfl) ?_ (fun hHeld => ?_)
  · exact ⟨b0, b1⟩
  refine wpAnyH_take (i := 0) (v := ?_) rfl (by kernel_rfl) (by kernel_rfl) (by kernel_rfl) (fun _ _ _ h => h) (Or.inl ⟨by kernel_rfl, ?_⟩) hHeld ?_
  rotate_left
  focus (intro w hSw; (try dsimp only at hSw); go_simp; try with_reducible rfl)
  try simp only [Act.put]
  refine wpAnyH_take (i := 1) (v := ?_) rfl (by kernel_rfl) (by kernel_rfl) (by kernel_rfl) (fun _ _ _ h => h) (Or.inl ⟨by kernel_rfl, ?_⟩) hHeld ?_
  rotate_left
  focus (intro w hSw; (try dsimp only at hSw); go_simp; try with_reducible rfl)
  try simp only [Act.put]
  refine wpAnyH_take (i := 2) (v := ?_) rfl (by kernel_rfl) (by kernel_rfl) (by kernel_rfl) (fun _ _ _ h => h) (Or.inl ⟨by kernel_rfl, ?_⟩) hHeld ?_
  rotate_left
  focus (intro w hSw; (try dsimp only at hSw); go_simp; try with_reducible rfl)
  try simp only [Act.put]
  refine wpAnyH_take (i := 3) (v := ?_) rfl (by kernel_rfl) (by kernel_rfl) (by kernel_rfl) (fun _ _ _ h => h) (Or.inl ⟨by kernel_rfl, ?_⟩) hHeld ?_
  rotate_left
  focus (intro w hSw; (try dsimp only at hSw); go_simp; try with_reducible rfl)
  try simp only [Act.put]
  refine wpAnyH_take (i := 4) (v := ?_) rfl (by kernel_rfl) (by kernel_rfl) (by kernel_rfl) (fun _ _ _ h => h) (Or.inl ⟨by kernel_rfl, ?_⟩) hHeld ?_
  rotate_left
  focus (intro w hSw; (try dsimp only at hSw); go_simp; try with_reducible rfl)
  try simp only [Act.put]
  refine wpAnyH_take (i := 5) (v := ?_) rfl (by kernel_rfl) (by kernel_rfl) (by kernel_rfl) (fun _ _ _ h => h) (Or.inl ⟨by kernel_rfl, ?_⟩) hHeld ?_
  rotate_left
  focus (intro w hSw; (try dsimp only at hSw); go_simp; try with_reducible rfl)
  try simp only [Act.put]
  refine wpAnyH_take (i := 6) (v := ?_) rfl (by kernel_rfl) (by kernel_rfl) (by kernel_rfl) (fun _ _ _ h => h) (Or.inl ⟨by kernel_rfl, ?_⟩) hHeld ?_
  rotate_left
  focus (intro w hSw; (try dsimp only at hSw); go_simp; try with_reducible rfl)
  try simp only [Act.put]
  refine wpAnyH_take (i := 8) (v := ?_) rfl (by kernel_rfl) (by kernel_rfl) (by kernel_rfl) (fun _ _ _ h => h) (Or.inl ⟨by kernel_rfl, ?_⟩) hHeld ?_
  rotate_left
  focus (intro w hSw; (try dsimp only at hSw); go_simp; try with_reducible rfl)
  try simp only [Act.put]
  refine wpAnyH_ready (rs := [7]) (by kernel_rfl) (by simp) ?_
  refine AllReadyH.cons rfl (fun K hK => ?_) (AllReadyH.nil)
  go_simp
  go_at_call 15
  refine (hn.out _ _).mono ?_
  rintro e u0 ⟨rfl, rfl⟩
  go_simp
  refine hK.out _ _ ?_ (fun hHeld => ?_)
  · exact ⟨b0, b1⟩
  clear hK K
  try simp only [Act.put]
  refine wpAnyH_take (i := 9) (v := ?_) rfl (by kernel_rfl) (by kernel_rfl) (by kernel_rfl) (fun _ _ _ h => h) (Or.inl ⟨by kernel_rfl, ?_⟩) hHeld ?_
  rotate_left
  focus (intro w hSw; (try dsimp only at hSw); go_simp; try with_reducible rfl)
  try simp only [Act.put]
  refine wpAnyH_take (i := 10) (v := ?_) rfl (by kernel_rfl) (by kernel_rfl) (by kernel_rfl) (fun _ _ _ h => h) (Or.inl ⟨by kernel_rfl, ?_⟩) hHeld ?_
  rotate_left
  focus (intro w hSw; (try dsimp only at hSw); go_simp; try with_reducible rfl)
  try simp only [Act.put]
  refine wpAnyH_take (i := 11) (v := ?_) rfl (by kernel_rfl) (by kernel_rfl) (by kernel_rfl) (fun _ _ _ h => h) (Or.inl ⟨by kernel_rfl, ?_⟩) hHeld ?_
  rotate_left
  focus (intro w hSw; (try dsimp only at hSw); go_simp; try with_reducible rfl)
  try simp only [Act.put]
  refine wpAnyH_ready (rs := [12]) (by kernel_rfl) (by simp) ?_
  refine AllReadyH.cons rfl (fun K hK => ?_) (AllReadyH.nil)
  go_simp
  refine hK.out _ _ ?_ (fun hHeld => ?_)
  · exact ⟨HBZ.out.1, HBZ.out.2⟩
  clear hK K
  try simp only [Act.put]
  refine wpAnyH_ready (rs := [13]) (by kernel_rfl) (by simp) ?_
  refine AllReadyH.cons rfl (fun K hK => ?_) (AllReadyH.nil)
  go_simp
  refine hK.out _ _ ?_ (fun hHeld => ?_)
  · exact ⟨HBZ.out.1, HBZ.out.2⟩
  clear hK K
  try simp only [Act.put]
  refine wpAnyH_done (by kernel_rfl) ?_ _
  refine NoPanic.normal ?_
  go_wp2_with fail
  obtain ⟨Z, hZ⟩ : ∃ Z, Z = ((W3.setCell ⟨w.heap.size + 1 + 1, 0, none⟩ (.string (str l))).setCell ⟨w.heap.size + 1 + 1, 1, none⟩ (.int .i64 ((p : Nat) : Int))).drew := ⟨_, rfl⟩
  have k : Has Z v l (p) F ∧ Keep F w Z ∧ Z.cell? ⟨w.heap.size + 1 + 1, 0, none⟩ = some (.string (str l)) ∧ Z.cell? ⟨w.heap.size + 1 + 1, 1, none⟩ = some (.int .i64 ((p : Nat) : Int)) := by
    rw [hZ]
    exact AM.fin H (q := p) HM3.out ((W3.setCell ⟨w.heap.size + 1 + 1, 0, none⟩ (.string (str l))).setCell ⟨w.heap.size + 1 + 1, 1, none⟩ (.int .i64 ((p : Nat) : Int))).drew rfl rfl rfl rfl
  rw [← hZ]
  obtain ⟨z1, z2, k0, k1⟩ := k
  exact bodyPost_ret (v := .tuple #[v, fv l (p), .bool true]) (by simp [results, Try.results8, go_sem, k0, k1]) rfl ⟨v, F, rfl, z1, z2, fun _ hk => .inl hk⟩
set_option maxRecDepth 100000 in
set_option maxHeartbeats 4000000 in
theorem act_pick {Has : HasT} (H : Api Has) (v : Value) (l : List UInt8) (p : Nat) (F : Nat → Prop) (what n : Int) (w : World) (h : Has w v l p F) (_hf : i64 n) (hw : what = 0) (hz : okN n) :
    Calls Try.prog 8 #[v, fv l p, .agg #[.int .i64 what, .int .i64 n]] w (ActP Has w F l (pickP l p)) := by
  have hn := Lib.hid (fun n w => num_any n w)
  have hsm := H.sm h
  obtain ⟨W0, hW0⟩ : ∃ W0, W0 = ((w.alloc (.cells #[.string (str l), .int .i64 (p : Int)] 28)).alloc (.cells #[.int .i64 what, .int .i64 n] 32)).alloc (.cells #[.string { data := #[] }, .int .i64 0] 28) := ⟨_, rfl⟩
  have hM : AM Has w F v l p p what n W0 := by rw [hW0]; exact AM.start H h
  have HM := Lib.hid hM
  have HW0 := Lib.hid hW0
  clear hW0 hM h
  subst hw
  obtain ⟨m, rfl⟩ : ∃ m : Nat, n = m := ⟨n.toNat, by unfold okN at hz; omega⟩
  have HR := Lib.hid (fun w => rpick_ok l p m hsm (by unfold okN at hz; omega) (by unfold okN at hz; omega) w)
  have HP := Lib.hid (fun (V : World) (hV : Has V v l p F) => H.pick m hV (by unfold okN at hz; omega) (by unfold okN at hz; omega))
  obtain ⟨n, hn'⟩ : ∃ n : Int, n = (m : Int) := ⟨_, rfl⟩
  obtain ⟨r, hr⟩ : ∃ r, r = pickN l p m := ⟨_, rfl⟩
  rw [← hr] at HR HP
  have hrr : ((r : Int) == (r : Int)) = true := by simp
  rw [← hn'] at HR HP HM HW0 ⊢
  clear hz hsm hr hn'
  go_enter Try.func8, Try.ntmps8
  go_wp2_with fail
  rw [← HW0.out]
  refine (HR.out _).mono ?_
  rintro e W1 ⟨rfl, hb1⟩
  have HM1 := Lib.hid (AM.more H HM.out hb1)
  have HM2 := Lib.hid (AM.more H HM1.out (below1 W1 (.cells #[.string (str l), .int .i64 ((pickP l p : Nat) : Int)] 28)))
  have a1 : (W1.alloc (.cells #[.string (str l), .int .i64 ((pickP l p : Nat) : Int)] 28)).cell? ⟨w.heap.size + 1, 1, none⟩ = some (.int .i64 n) := HM2.out.act.cell 1
  have HS1 := Lib.hid (show w.heap.size + 3 ≤ W1.heap.size by have := HM1.out.res.lt; omega)
  clear hb1
  go_wp2_with fail
  refine (HP.out _ HM2.out.has).mono ?_
  rintro e W3 ⟨rfl, hn3⟩
  have HM3 := Lib.hid (AM.step HM2.out hn3)
  have hbx : Row W3 W1.heap.size 28 (fc l (pickP l p)) := hn3.2.row (Row.new W1 _ (fc l (pickP l p))) (fun hf => by have := HM3.out.fl _ hf; have := HS1.out; omega)
  have b0 : W3.cell? ⟨W1.heap.size, 0, none⟩ = some (.string (str l)) := hbx.cell 0
  have b1 : W3.cell? ⟨W1.heap.size, 1, none⟩ = some (.int .i64 ((pickP l p : Nat) : Int)) := hbx.cell 1
  have c0 : W3.cell? ⟨w.heap.size + 1 + 1, 0, none⟩ = some (.string (str [])) := HM3.out.res.cell 0
  have c1 : W3.cell? ⟨w.heap.size + 1 + 1, 1, none⟩ = some (.int .i64 0) := HM3.out.res.cell 1
  have f0 : W3.frozen? ⟨w.heap.size + 1 + 1, 0, none⟩ = false := HM3.out.res.frozen 0
  have f1 : W3.frozen? ⟨w.heap.size + 1 + 1, 1, none⟩ = false := HM3.out.res.frozen 1
  have hlt : w.heap.size + 1 + 1 < W3.heap.size := HM3.out.res.lt
  have hlt1 : w.heap.size + 1 + 1 < W1.heap.size := by have := HS1.out; omega
  have hlt2 : W1.heap.size < W3.heap.size := hbx.lt
  have HBZ := Lib.hid (show ((W3.drew.setCell ⟨w.heap.size + 1 + 1, 0, none⟩ (.string (str l))).setCell ⟨w.heap.size + 1 + 1, 1, none⟩ (.int .i64 ((pickP l p : Nat) : Int))).cell? ⟨W1.heap.size, 0, none⟩ = some (.string (str l)) ∧ ((W3.drew.setCell ⟨w.heap.size + 1 + 1, 0, none⟩ (.string (str l))).setCell ⟨w.heap.size + 1 + 1, 1, none⟩ (.int .i64 ((pickP l p : Nat) : Int))).cell? ⟨W1.heap.size, 1, none⟩ = some (.int .i64 ((pickP l p : Nat) : Int)) from by
    have hd : Row W3.drew W1.heap.size 28 (fc l (pickP l p)) := hbx
    have hz : Row ((W3.drew.setCell ⟨w.heap.size + 1 + 1, 0, none⟩ (.string (str l))).setCell ⟨w.heap.size + 1 + 1, 1, none⟩ (.int .i64 ((pickP l p : Nat) : Int))) W1.heap.size 28 (fc l (pickP l p)) := hd.same ((heap_set (by omega)).trans (heap_set (by omega)))
    exact ⟨hz.cell 0, hz.cell 1⟩)
  clear hn3 hbx a1
  go_wp2_with fail
  refine wp_region_noPanic ?_
  refine wp_region_held_drew (S := fun W => W.cell? ⟨W1.heap.size, 0, none⟩ = some (.string (str l)) ∧ W.cell? ⟨W1.heap.size, 1, none⟩ = some (.int .i64 ((pickP l p : Nat) : Int))) (by kernel_rfl) ?_ (fun hHeld => ?_)
  · exact ⟨b0, b1⟩
  refine wpAnyH_take (i := 0) (v := ?_) rfl (by kernel_rfl) (by kernel_rfl) (by kernel_rfl) (fun _ _ _ h => h) (Or.inl ⟨by kernel_rfl, ?_⟩) hHeld ?_
  rotate_left
  focus (intro w hSw; (try dsimp only at hSw); go_simp; try with_reducible rfl)
  try simp only [Act.put]
  refine wpAnyH_take (i := 1) (v := ?_) rfl (by kernel_rfl) (by kernel_rfl) (by kernel_rfl) (fun _ _ _ h => h) (Or.inl ⟨by kernel_rfl, ?_⟩) hHeld ?_
  rotate_left
  focus (intro w hSw; (try dsimp only at hSw); go_simp; try with_reducible rfl)
  try simp only [Act.put]
  refine wpAnyH_take (i := 2) (v := ?_) rfl (by kernel_rfl) (by kernel_rfl) (by kernel_rfl) (fun _ _ _ h => h) (Or.inl ⟨by kernel_rfl, ?_⟩) hHeld ?_
  rotate_left
  focus (intro w hSw; (try dsimp only at hSw); go_simp; try with_reducible rfl)
  try simp only [Act.put]
  refine wpAnyH_take (i := 3) (v := ?_) rfl (by kernel_rfl) (by kernel_rfl) (by kernel_rfl) (fun _ _ _ h => h) (Or.inl ⟨by kernel_rfl, ?_⟩) hHeld ?_
  rotate_left
  focus (intro w hSw; (try dsimp only at hSw); go_simp; try with_reducible rfl)
  try simp only [Act.put]
  refine wpAnyH_take (i := 4) (v := ?_) rfl (by kernel_rfl) (by kernel_rfl) (by kernel_rfl) (fun _ _ _ h => h) (Or.inl ⟨by kernel_rfl, ?_⟩) hHeld ?_
  rotate_left
  focus (intro w hSw; (try dsimp only at hSw); go_simp; try with_reducible rfl)
  try simp only [Act.put]
  refine wpAnyH_take (i := 5) (v := ?_) rfl (by kernel_rfl) (by kernel_rfl) (by kernel_rfl) (fun _ _ _ h => h) (Or.inl ⟨by kernel_rfl, ?_⟩) hHeld ?_
  rotate_left
  focus (intro w hSw; (try dsimp only at hSw); go_simp; try with_reducible rfl)
  try simp only [Act.put]
  refine wpAnyH_take (i := 6) (v := ?_) rfl (by kernel_rfl) (by kernel_rfl) (by kernel_rfl) (fun _ _ _ h => h) (Or.inl ⟨by kernel_rfl, ?_⟩) hHeld ?_
  rotate_left
  focus (intro w hSw; (try dsimp only at hSw); go_simp; try with_reducible rfl)
  try simp only [Act.put]
  refine wpAnyH_take (i := 8) (v := ?_) rfl (by kernel_rfl) (by kernel_rfl) (by kernel_rfl) (fun _ _ _ h => h) (Or.inl ⟨by kernel_rfl, ?_⟩) hHeld ?_
  rotate_left
  focus (intro w hSw; (try dsimp only at hSw); go_simp; try with_reducible rfl)
  try simp only [Act.put]
  refine wpAnyH_ready (rs := [7]) (by kernel_rfl) (by simp) ?_
  refine AllReadyH.cons rfl (fun K hK => ?_) (AllReadyH.nil)
  go_simp
  go_at_call 15
  refine (hn.out _ _).mono ?_
  rintro e u0 ⟨rfl, rfl⟩
  go_simp
  refine hK.out _ _ ?_ (fun hHeld => ?_)
  · exact ⟨b0, b1⟩
  clear hK K
  try simp only [Act.put]
  refine wpAnyH_take (i := 9) (v := ?_) rfl (by kernel_rfl) (by kernel_rfl) (by kernel_rfl) (fun _ _ _ h => h) (Or.inl ⟨by kernel_rfl, ?_⟩) hHeld ?_
  rotate_left
  focus (intro w hSw; (try dsimp only at hSw); go_simp; try with_reducible rfl)
  try simp only [Act.put]
  refine wpAnyH_take (i := 10) (v := ?_) rfl (by kernel_rfl) (by kernel_rfl) (by kernel_rfl) (fun _ _ _ h => h) (Or.inl ⟨by kernel_rfl, ?_⟩) hHeld ?_
  rotate_left
  focus (intro w hSw; (try dsimp only at hSw); go_simp; try with_reducible rfl)
  try simp only [Act.put]
  refine wpAnyH_take (i := 11) (v := ?_) rfl (by kernel_rfl) (by kernel_rfl) (by kernel_rfl) (fun _ _ _ h => h) (Or.inl ⟨by kernel_rfl, ?_⟩) hHeld ?_
  rotate_left
  focus (intro w hSw; (try dsimp only at hSw); go_simp; try with_reducible rfl)
  try simp only [Act.put]
  refine wpAnyH_ready (rs := [12]) (by kernel_rfl) (by simp) ?_
  refine AllReadyH.cons rfl (fun K hK => ?_) (AllReadyH.nil)
  go_simp
  refine hK.out _ _ ?_ (fun hHeld => ?_)
  · exact ⟨HBZ.out.1, HBZ.out.2⟩
  clear hK K
  try simp only [Act.put]
  refine wpAnyH_ready (rs := [13]) (by kernel_rfl) (by simp) ?_
  refine AllReadyH.cons rfl (fun K hK => ?_) (AllReadyH.nil)
  go_simp
  refine hK.out _ _ ?_ (fun hHeld => ?_)
  · exact ⟨HBZ.out.1, HBZ.out.2⟩
  clear hK K
  try simp only [Act.put]
  refine wpAnyH_done (by kernel_rfl) ?_ _
  refine NoPanic.normal ?_
  go_wp2_with fail
  obtain ⟨Z, hZ⟩ : ∃ Z, Z = ((W3.setCell ⟨w.heap.size + 1 + 1, 0, none⟩ (.string (str l))).setCell ⟨w.heap.size + 1 + 1, 1, none⟩ (.int .i64 ((pickP l p : Nat) : Int))).drew := ⟨_, rfl⟩
  have k : Has Z v l (pickP l p) F ∧ Keep F w Z ∧ Z.cell? ⟨w.heap.size + 1 + 1, 0, none⟩ = some (.string (str l)) ∧ Z.cell? ⟨w.heap.size + 1 + 1, 1, none⟩ = some (.int .i64 ((pickP l p : Nat) : Int)) := by
    rw [hZ]
    exact AM.fin H (q := pickP l p) HM3.out ((W3.setCell ⟨w.heap.size + 1 + 1, 0, none⟩ (.string (str l))).setCell ⟨w.heap.size + 1 + 1, 1, none⟩ (.int .i64 ((pickP l p : Nat) : Int))).drew rfl rfl rfl rfl
  rw [← hZ]
  obtain ⟨z1, z2, k0, k1⟩ := k
  exact bodyPost_ret (v := .tuple #[v, fv l (pickP l p), .bool true]) (by simp [results, Try.results8, go_sem, k0, k1]) rfl ⟨v, F, rfl, z1, z2, fun _ hk => .inl hk⟩
set_option maxRecDepth 100000 in
set_option maxHeartbeats 4000000 in
theorem act_draw {Has : HasT} (H : Api Has) (v : Value) (l : List UInt8) (p : Nat) (F : Nat → Prop) (what n : Int) (w : World) (h : Has w v l p F) (_hf : i64 n) (hw : what = 1) :
    Calls Try.prog 8 #[v, fv l p, .agg #[.int .i64 what, .int .i64 n]] w (ActP Has w F l (p + min 4 (l.length - p))) := by
  have hn := Lib.hid (fun n w => num_any n w)
  have hsm := H.sm h
  obtain ⟨W0, hW0⟩ : ∃ W0, W0 = ((w.alloc (.cells #[.string (str l), .int .i64 (p : Int)] 28)).alloc (.cells #[.int .i64 what, .int .i64 n] 32)).alloc (.cells #[.string { data := #[] }, .int .i64 0] 28) := ⟨_, rfl⟩
  have hM : AM Has w F v l p p what n W0 := by rw [hW0]; exact AM.start H h
  have HM := Lib.hid hM
  have HW0 := Lib.hid hW0
  clear hW0 hM h
  subst hw
  have HR := Lib.hid (fun w => rdraw_any l p hsm w)
  have HP := Lib.hid (fun (V : World) (hV : Has V v l p F) => H.draw hV)
  obtain ⟨r, hr⟩ : ∃ r, r = le ((l.drop p).take 4) := ⟨_, rfl⟩
  rw [← hr] at HR HP
  have hrr : ((r : Int) == (r : Int)) = true := by simp
  obtain ⟨q, hq⟩ : ∃ q, q = p + min 4 (l.length - p) := ⟨_, rfl⟩
  rw [← hq] at HR HP ⊢
  clear hsm hr hq
  go_enter Try.func8, Try.ntmps8
  go_wp2_with fail
  rw [← HW0.out]
  refine (HR.out _).mono ?_
  rintro e W1 ⟨rfl, hb1⟩
  have HM1 := Lib.hid (AM.more H HM.out hb1)
  have HM2 := Lib.hid (AM.more H HM1.out (below1 W1 (.cells #[.string (str l), .int .i64 ((q : Nat) : Int)] 28)))
  have a1 : (W1.alloc (.cells #[.string (str l), .int .i64 ((q : Nat) : Int)] 28)).cell? ⟨w.heap.size + 1, 1, none⟩ = some (.int .i64 n) := HM2.out.act.cell 1
  have HS1 := Lib.hid (show w.heap.size + 3 ≤ W1.heap.size by have := HM1.out.res.lt; omega)
  clear hb1
  go_wp2_with fail
  refine (HP.out _ HM2.out.has).mono ?_
  rintro e W3 ⟨rfl, hn3⟩
  have HM3 := Lib.hid (AM.step HM2.out hn3)
  have hbx : Row W3 W1.heap.size 28 (fc l (q)) := hn3.2.row (Row.new W1 _ (fc l (q))) (fun hf => by have := HM3.out.fl _ hf; have := HS1.out; omega)
  have b0 : W3.cell? ⟨W1.heap.size, 0, none⟩ = some (.string (str l)) := hbx.cell 0
  have b1 : W3.cell? ⟨W1.heap.size, 1, none⟩ = some (.int .i64 ((q : Nat) : Int)) := hbx.cell 1
  have c0 : W3.cell? ⟨w.heap.size + 1 + 1, 0, none⟩ = some (.string (str [])) := HM3.out.res.cell 0
  have c1 : W3.cell? ⟨w.heap.size + 1 + 1, 1, none⟩ = some (.int .i64 0) := HM3.out.res.cell 1
  have f0 : W3.frozen? ⟨w.heap.size + 1 + 1, 0, none⟩ = false := HM3.out.res.frozen 0
  have f1 : W3.frozen? ⟨w.heap.size + 1 + 1, 1, none⟩ = false := HM3.out.res.frozen 1
  have hlt : w.heap.size + 1 + 1 < W3.heap.size := HM3.out.res.lt
  have hlt1 : w.heap.size + 1 + 1 < W1.heap.size := by have := HS1.out; omega
  have hlt2 : W1.heap.size < W3.heap.size := hbx.lt
  have HBZ := Lib.hid (show ((W3.drew.setCell ⟨w.heap.size + 1 + 1, 0, none⟩ (.string (str l))).setCell ⟨w.heap.size + 1 + 1, 1, none⟩ (.int .i64 ((q : Nat) : Int))).cell? ⟨W1.heap.size, 0, none⟩ = some (.string (str l)) ∧ ((W3.drew.setCell ⟨w.heap.size + 1 + 1, 0, none⟩ (.string (str l))).setCell ⟨w.heap.size + 1 + 1, 1, none⟩ (.int .i64 ((q : Nat) : Int))).cell? ⟨W1.heap.size, 1, none⟩ = some (.int .i64 ((q : Nat) : Int)) from by
    have hd : Row W3.drew W1.heap.size 28 (fc l (q)) := hbx
    have hz : Row ((W3.drew.setCell ⟨w.heap.size + 1 + 1, 0, none⟩ (.string (str l))).setCell ⟨w.heap.size + 1 + 1, 1, none⟩ (.int .i64 ((q : Nat) : Int))) W1.heap.size 28 (fc l (q)) := hd.same ((heap_set (by omega)).trans (heap_set (by omega)))
    exact ⟨hz.cell 0, hz.cell 1⟩)
  clear hn3 hbx a1
  go_wp2_with fail
  refine wp_region_noPanic ?_
  refine wp_region_held_drew (S := fun W => W.cell? ⟨W1.heap.size, 0, none⟩ = some (.string (str l)) ∧ W.cell? ⟨W1.heap.size, 1, none⟩ = some (.int .i64 ((q : Nat) : Int))) (by kernel_rfl) ?_ (fun hHeld => ?_)
  · exact ⟨b0, b1⟩
  refine wpAnyH_take (i := 0) (v := ?_) rfl (by kernel_rfl) (by kernel_rfl) (by kernel_rfl) (fun _ _ _ h => h) (Or.inl ⟨by kernel_rfl, ?_⟩) hHeld ?_
  rotate_left
  focus (intro w hSw; (try dsimp only at hSw); go_simp; try with_reducible rfl)
  try simp only [Act.put]
  refine wpAnyH_take (i := 1) (v := ?_) rfl (by kernel_rfl) (by kernel_rfl) (by kernel_rfl) (fun _ _ _ h => h) (Or.inl ⟨by kernel_rfl, ?_⟩) hHeld ?_
  rotate_left
  focus (intro w hSw; (try dsimp only at hSw); go_simp; try with_reducible rfl)
  try simp only [Act.put]
  refine wpAnyH_take (i := 2) (v := ?_) rfl (by kernel_rfl) (by kernel_rfl) (by kernel_rfl) (fun _ _ _ h => h) (Or.inl ⟨by kernel_rfl, ?_⟩) hHeld ?_
  rotate_left
  focus (intro w hSw; (try dsimp only at hSw); go_simp; try with_reducible rfl)
  try simp only [Act.put]
  refine wpAnyH_take (i := 3) (v := ?_) rfl (by kernel_rfl) (by kernel_rfl) (by kernel_rfl) (fun _ _ _ h => h) (Or.inl ⟨by kernel_rfl, ?_⟩) hHeld ?_
  rotate_left
  focus (intro w hSw; (try dsimp only at hSw); go_simp; try with_reducible rfl)
  try simp only [Act.put]
  refine wpAnyH_take (i := 4) (v := ?_) rfl (by kernel_rfl) (by kernel_rfl) (by kernel_rfl) (fun _ _ _ h => h) (Or.inl ⟨by kernel_rfl, ?_⟩) hHeld ?_
  rotate_left
  focus (intro w hSw; (try dsimp only at hSw); go_simp; try with_reducible rfl)
  try simp only [Act.put]
  refine wpAnyH_take (i := 5) (v := ?_) rfl (by kernel_rfl) (by kernel_rfl) (by kernel_rfl) (fun _ _ _ h => h) (Or.inl ⟨by kernel_rfl, ?_⟩) hHeld ?_
  rotate_left
  focus (intro w hSw; (try dsimp only at hSw); go_simp; try with_reducible rfl)
  try simp only [Act.put]
  refine wpAnyH_take (i := 6) (v := ?_) rfl (by kernel_rfl) (by kernel_rfl) (by kernel_rfl) (fun _ _ _ h => h) (Or.inl ⟨by kernel_rfl, ?_⟩) hHeld ?_
  rotate_left
  focus (intro w hSw; (try dsimp only at hSw); go_simp; try with_reducible rfl)
  try simp only [Act.put]
  refine wpAnyH_ready (rs := [7]) (by kernel_rfl) (by simp) ?_
  refine AllReadyH.cons rfl (fun K hK => ?_) (AllReadyH.nil)
  go_simp
  go_at_call 15
  refine (hn.out _ _).mono ?_
  rintro e u0 ⟨rfl, rfl⟩
  go_simp
  refine hK.out _ _ ?_ (fun hHeld => ?_)
  · exact ⟨b0, b1⟩
  clear hK K
  try simp only [Act.put]
  refine wpAnyH_take (i := 8) (v := ?_) rfl (by kernel_rfl) (by kernel_rfl) (by kernel_rfl) (fun _ _ _ h => h) (Or.inl ⟨by kernel_rfl, ?_⟩) hHeld ?_
  rotate_left
  focus (intro w hSw; (try dsimp only at hSw); go_simp; try with_reducible rfl)
  try simp only [Act.put]
  refine wpAnyH_take (i := 9) (v := ?_) rfl (by kernel_rfl) (by kernel_rfl) (by kernel_rfl) (fun _ _ _ h => h) (Or.inl ⟨by kernel_rfl, ?_⟩) hHeld ?_
  rotate_left
  focus (intro w hSw; (try dsimp only at hSw); go_simp; try with_reducible rfl)
  try simp only [Act.put]
  refine wpAnyH_take (i := 10) (v := ?_) rfl (by kernel_rfl) (by kernel_rfl) (by kernel_rfl) (fun _ _ _ h => h) (Or.inl ⟨by kernel_rfl, ?_⟩) hHeld ?_
  rotate_left
  focus (intro w hSw; (try dsimp only at hSw); go_simp; try with_reducible rfl)
  try simp only [Act.put]
  refine wpAnyH_ready (rs := [11]) (by kernel_rfl) (by simp) ?_
  refine AllReadyH.cons rfl (fun K hK => ?_) (AllReadyH.nil)
  go_simp
  refine hK.out _ _ ?_ (fun hHeld => ?_)
  · exact ⟨HBZ.out.1, HBZ.out.2⟩
  clear hK K
  try simp only [Act.put]
  refine wpAnyH_ready (rs := [12]) (by kernel_rfl) (by simp) ?_
  refine AllReadyH.cons rfl (fun K hK => ?_) (AllReadyH.nil)
  go_simp
  refine hK.out _ _ ?_ (fun hHeld => ?_)
  · exact ⟨HBZ.out.1, HBZ.out.2⟩
  clear hK K
  try simp only [Act.put]
  refine wpAnyH_done (by kernel_rfl) ?_ _
  refine NoPanic.normal ?_
  go_wp2_with fail
  obtain ⟨Z, hZ⟩ : ∃ Z, Z = ((W3.setCell ⟨w.heap.size + 1 + 1, 0, none⟩ (.string (str l))).setCell ⟨w.heap.size + 1 + 1, 1, none⟩ (.int .i64 ((q : Nat) : Int))).drew := ⟨_, rfl⟩
  have k : Has Z v l (q) F ∧ Keep F w Z ∧ Z.cell? ⟨w.heap.size + 1 + 1, 0, none⟩ = some (.string (str l)) ∧ Z.cell? ⟨w.heap.size + 1 + 1, 1, none⟩ = some (.int .i64 ((q : Nat) : Int)) := by
    rw [hZ]
    exact AM.fin H (q := q) HM3.out ((W3.setCell ⟨w.heap.size + 1 + 1, 0, none⟩ (.string (str l))).setCell ⟨w.heap.size + 1 + 1, 1, none⟩ (.int .i64 ((q : Nat) : Int))).drew rfl rfl rfl rfl
  rw [← hZ]
  obtain ⟨z1, z2, k0, k1⟩ := k
  exact bodyPost_ret (v := .tuple #[v, fv l (q), .bool true]) (by simp [results, Try.results8, go_sem, k0, k1]) rfl ⟨v, F, rfl, z1, z2, fun _ hk => .inl hk⟩
set_option maxRecDepth 100000 in
set_option maxHeartbeats 4000000 in
theorem act_seekNo {Has : HasT} (H : Api Has) (v : Value) (l : List UInt8) (p : Nat) (F : Nat → Prop) (what n : Int) (w : World) (h : Has w v l p F) (hf : i64 n) (hw : what = 3) (hz : n < 0 ∨ (l.length : Int) < n) :
    Calls Try.prog 8 #[v, fv l p, .agg #[.int .i64 what, .int .i64 n]] w (ActP Has w F l p) := by
  have hn := Lib.hid (fun n w => num_any n w)
  obtain ⟨W0, hW0⟩ : ∃ W0, W0 = ((w.alloc (.cells #[.string (str l), .int .i64 (p : Int)] 28)).alloc (.cells #[.int .i64 what, .int .i64 n] 32)).alloc (.cells #[.string { data := #[] }, .int .i64 0] 28) := ⟨_, rfl⟩
  have hM : AM Has w F v l p p what n W0 := by rw [hW0]; exact AM.start H h
  have HM := Lib.hid hM
  have HW0 := Lib.hid hW0
  clear hW0 hM h
  subst hw
  have HR := Lib.hid (fun w => rseek_no l p n hz w)
  have HP := Lib.hid (fun (V : World) (hV : Has V v l p F) => H.seekNo n hV hf hz)
  clear hz hf
  go_enter Try.func8, Try.ntmps8
  go_wp2_with fail
  rw [← HW0.out]
  refine (HR.out _).mono ?_
  rintro e W1 ⟨rfl, hb1⟩
  have HM1 := Lib.hid (AM.more H HM.out hb1)
  have HM2 := Lib.hid (AM.more H HM1.out (below1 W1 (.cells #[.string (str l), .int .i64 ((p : Nat) : Int)] 28)))
  have a1 : (W1.alloc (.cells #[.string (str l), .int .i64 ((p : Nat) : Int)] 28)).cell? ⟨w.heap.size + 1, 1, none⟩ = some (.int .i64 n) := HM2.out.act.cell 1
  have HS1 := Lib.hid (show w.heap.size + 3 ≤ W1.heap.size by have := HM1.out.res.lt; omega)
  clear hb1
  go_wp2_with fail
  refine (HP.out _ HM2.out.has).mono ?_
  rintro e W3 ⟨rfl, hn3⟩
  have HM3 := Lib.hid (AM.step HM2.out hn3)
  have hbx : Row W3 W1.heap.size 28 (fc l (p)) := hn3.2.row (Row.new W1 _ (fc l (p))) (fun hf => by have := HM3.out.fl _ hf; have := HS1.out; omega)
  have b0 : W3.cell? ⟨W1.heap.size, 0, none⟩ = some (.string (str l)) := hbx.cell 0
  have b1 : W3.cell? ⟨W1.heap.size, 1, none⟩ = some (.int .i64 ((p : Nat) : Int)) := hbx.cell 1
  have c0 : W3.cell? ⟨w.heap.size + 1 + 1, 0, none⟩ = some (.string (str [])) := HM3.out.res.cell 0
  have c1 : W3.cell? ⟨w.heap.size + 1 + 1, 1, none⟩ = some (.int .i64 0) := HM3.out.res.cell 1
  have f0 : W3.frozen? ⟨w.heap.size + 1 + 1, 0, none⟩ = false := HM3.out.res.frozen 0
  have f1 : W3.frozen? ⟨w.heap.size + 1 + 1, 1, none⟩ = false := HM3.out.res.frozen 1
  have hlt : w.heap.size + 1 + 1 < W3.heap.size := HM3.out.res.lt
  have hlt1 : w.heap.size + 1 + 1 < W1.heap.size := by have := HS1.out; omega
  have hlt2 : W1.heap.size < W3.heap.size := hbx.lt
  have HBZ := Lib.hid (show ((W3.drew.setCell ⟨w.heap.size + 1 + 1, 0, none⟩ (.string (str l))).setCell ⟨w.heap.size + 1 + 1, 1, none⟩ (.int .i64 ((p : Nat) : Int))).cell? ⟨W1.heap.size, 0, none⟩ = some (.string (str l)) ∧ ((W3.drew.setCell ⟨w.heap.size + 1 + 1, 0, none⟩ (.string (str l))).setCell ⟨w.heap.size + 1 + 1, 1, none⟩ (.int .i64 ((p : Nat) : Int))).cell? ⟨W1.heap.size, 1, none⟩ = some (.int .i64 ((p : Nat) : Int)) from by
    have hd : Row W3.drew W1.heap.size 28 (fc l (p)) := hbx
    have hz : Row ((W3.drew.setCell ⟨w.heap.size + 1 + 1, 0, none⟩ (.string (str l))).setCell ⟨w.heap.size + 1 + 1, 1, none⟩ (.int .i64 ((p : Nat) : Int))) W1.heap.size 28 (fc l (p)) := hd.same ((heap_set (by omega)).trans (heap_set (by omega)))
    exact ⟨hz.cell 0, hz.cell 1⟩)
  clear hn3 hbx a1
  go_wp2_with fail
  refine wp_region_noPanic ?_
  refine wp_region_held_drew (S := fun W => W.cell? ⟨W1.heap.size, 0, none⟩ = some (.string (str l)) ∧ W.cell? ⟨W1.heap.size, 1, none⟩ = some (.int .i64 ((p : Nat) : Int))) (by kernel_rfl) ?_ (fun hHeld => ?_)
  · exact ⟨b0, b1⟩
  refine wpAnyH_take (i := 0) (v := ?_) rfl (by kernel_rfl) (by kernel_rfl) (by kernel_rfl) (fun _ _ _ h => h) (Or.inl ⟨by kernel_rfl, ?_⟩) hHeld ?_
  rotate_left
  focus (intro w hSw; (try dsimp only at hSw); go_simp; try with_reducible rfl)
  try simp only [Act.put]
  refine wpAnyH_take (i := 1) (v := ?_) rfl (by kernel_rfl) (by kernel_rfl) (by kernel_rfl) (fun _ _ _ h => h) (Or.inl ⟨by kernel_rfl, ?_⟩) hHeld ?_
  rotate_left
  focus (intro w hSw; (try dsimp only at hSw); go_simp; try with_reducible rfl)
  try simp only [Act.put]
  refine wpAnyH_take (i := 2) (v := ?_) rfl (by kernel_rfl) (by kernel_rfl) (by kernel_rfl) (fun _ _ _ h => h) (Or.inl ⟨by kernel_rfl, ?_⟩) hHeld ?_
  rotate_left
  focus (intro w hSw; (try dsimp only at hSw); go_simp; try with_reducible rfl)
  try simp only [Act.put]
  refine wpAnyH_take (i := 3) (v := ?_) rfl (by kernel_rfl) (by kernel_rfl) (by kernel_rfl) (fun _ _ _ h => h) (Or.inl ⟨by kernel_rfl, ?_⟩) hHeld ?_
  rotate_left
  focus (intro w hSw; (try dsimp only at hSw); go_simp; try with_reducible rfl)
  try simp only [Act.put]
  refine wpAnyH_take (i := 4) (v := ?_) rfl (by kernel_rfl) (by kernel_rfl) (by kernel_rfl) (fun _ _ _ h => h) (Or.inl ⟨by kernel_rfl, ?_⟩) hHeld ?_
  rotate_left
  focus (intro w hSw; (try dsimp only at hSw); go_simp; try with_reducible rfl)
  try simp only [Act.put]
  refine wpAnyH_take (i := 5) (v := ?_) rfl (by kernel_rfl) (by kernel_rfl) (by kernel_rfl) (fun _ _ _ h => h) (Or.inl ⟨by kernel_rfl, ?_⟩) hHeld ?_
  rotate_left
  focus (intro w hSw; (try dsimp only at hSw); go_simp; try with_reducible rfl)
  try simp only [Act.put]
  refine wpAnyH_take (i := 6) (v := ?_) rfl (by kernel_rfl) (by kernel_rfl) (by kernel_rfl) (fun _ _ _ h => h) (Or.inl ⟨by kernel_rfl, ?_⟩) hHeld ?_
  rotate_left
  focus (intro w hSw; (try dsimp only at hSw); go_simp; try with_reducible rfl)
  try simp only [Act.put]
  refine wpAnyH_take (i := 8) (v := ?_) rfl (by kernel_rfl) (by kernel_rfl) (by kernel_rfl) (fun _ _ _ h => h) (Or.inl ⟨by kernel_rfl, ?_⟩) hHeld ?_
  rotate_left
  focus (intro w hSw; (try dsimp only at hSw); go_simp; try with_reducible rfl)
  try simp only [Act.put]
  refine wpAnyH_ready (rs := [7]) (by kernel_rfl) (by simp) ?_
  refine AllReadyH.cons rfl (fun K hK => ?_) (AllReadyH.nil)
  go_simp
  go_at_call 15
  refine (hn.out _ _).mono ?_
  rintro e u0 ⟨rfl, rfl⟩
  go_simp
  refine hK.out _ _ ?_ (fun hHeld => ?_)
  · exact ⟨b0, b1⟩
  clear hK K
  try simp only [Act.put]
  refine wpAnyH_take (i := 9) (v := ?_) rfl (by kernel_rfl) (by kernel_rfl) (by kernel_rfl) (fun _ _ _ h => h) (Or.inl ⟨by kernel_rfl, ?_⟩) hHeld ?_
  rotate_left
  focus (intro w hSw; (try dsimp only at hSw); go_simp; try with_reducible rfl)
  try simp only [Act.put]
  refine wpAnyH_take (i := 10) (v := ?_) rfl (by kernel_rfl) (by kernel_rfl) (by kernel_rfl) (fun _ _ _ h => h) (Or.inl ⟨by kernel_rfl, ?_⟩) hHeld ?_
  rotate_left
  focus (intro w hSw; (try dsimp only at hSw); go_simp; try with_reducible rfl)
  try simp only [Act.put]
  refine wpAnyH_take (i := 11) (v := ?_) rfl (by kernel_rfl) (by kernel_rfl) (by kernel_rfl) (fun _ _ _ h => h) (Or.inl ⟨by kernel_rfl, ?_⟩) hHeld ?_
  rotate_left
  focus (intro w hSw; (try dsimp only at hSw); go_simp; try with_reducible rfl)
  try simp only [Act.put]
  refine wpAnyH_ready (rs := [12]) (by kernel_rfl) (by simp) ?_
  refine AllReadyH.cons rfl (fun K hK => ?_) (AllReadyH.nil)
  go_simp
  refine hK.out _ _ ?_ (fun hHeld => ?_)
  · exact ⟨HBZ.out.1, HBZ.out.2⟩
  clear hK K
  try simp only [Act.put]
  refine wpAnyH_ready (rs := [13]) (by kernel_rfl) (by simp) ?_
  refine AllReadyH.cons rfl (fun K hK => ?_) (AllReadyH.nil)
  go_simp
  refine hK.out _ _ ?_ (fun hHeld => ?_)
  · exact ⟨HBZ.out.1, HBZ.out.2⟩
  clear hK K
  try simp only [Act.put]
  refine wpAnyH_done (by kernel_rfl) ?_ _
  refine NoPanic.normal ?_
  go_wp2_with fail
  obtain ⟨Z, hZ⟩ : ∃ Z, Z = ((W3.setCell ⟨w.heap.size + 1 + 1, 0, none⟩ (.string (str l))).setCell ⟨w.heap.size + 1 + 1, 1, none⟩ (.int .i64 ((p : Nat) : Int))).drew := ⟨_, rfl⟩
  have k : Has Z v l (p) F ∧ Keep F w Z ∧ Z.cell? ⟨w.heap.size + 1 + 1, 0, none⟩ = some (.string (str l)) ∧ Z.cell? ⟨w.heap.size + 1 + 1, 1, none⟩ = some (.int .i64 ((p : Nat) : Int)) := by
    rw [hZ]
    exact AM.fin H (q := p) HM3.out ((W3.setCell ⟨w.heap.size + 1 + 1, 0, none⟩ (.string (str l))).setCell ⟨w.heap.size + 1 + 1, 1, none⟩ (.int .i64 ((p : Nat) : Int))).drew rfl rfl rfl rfl
  rw [← hZ]
  obtain ⟨z1, z2, k0, k1⟩ := k
  exact bodyPost_ret (v := .tuple #[v, fv l (p), .bool true]) (by simp [results, Try.results8, go_sem, k0, k1]) rfl ⟨v, F, rfl, z1, z2, fun _ hk => .inl hk⟩
set_option maxRecDepth 100000 in
set_option maxHeartbeats 4000000 in
theorem act_seek {Has : HasT} (H : Api Has) (v : Value) (l : List UInt8) (p : Nat) (F : Nat → Prop) (what n : Int) (w : World) (h : Has w v l p F) (_hf : i64 n) (hw : what = 3) (hz : ¬ (n < 0 ∨ (l.length : Int) < n)) :
    Calls Try.prog 8 #[v, fv l p, .agg #[.int .i64 what, .int .i64 n]] w (ActP Has w F l n.toNat) := by
  have hn := Lib.hid (fun n w => num_any n w)
  obtain ⟨W0, hW0⟩ : ∃ W0, W0 = ((w.alloc (.cells #[.string (str l), .int .i64 (p : Int)] 28)).alloc (.cells #[.int .i64 what, .int .i64 n] 32)).alloc (.cells #[.string { data := #[] }, .int .i64 0] 28) := ⟨_, rfl⟩
  have hM : AM Has w F v l p p what n W0 := by rw [hW0]; exact AM.start H h
  have HM := Lib.hid hM
  have HW0 := Lib.hid hW0
  clear hW0 hM h
  subst hw
  obtain ⟨m, rfl⟩ : ∃ m : Nat, n = m := ⟨n.toNat, by omega⟩
  rw [Int.toNat_natCast]
  have HR := Lib.hid (fun w => rseek_ok l p m (by omega) w)
  have HP := Lib.hid (fun (V : World) (hV : Has V v l p F) => H.seek m hV (by omega))
  have hrr : ((p : Int) == (p : Int)) = true := by simp
  obtain ⟨n, hn'⟩ : ∃ n : Int, n = (m : Int) := ⟨_, rfl⟩
  rw [← hn'] at HR HP HM HW0 ⊢
  clear hz hn'
  go_enter Try.func8, Try.ntmps8
  go_wp2_with fail
  rw [← HW0.out]
  refine (HR.out _).mono ?_
  rintro e W1 ⟨rfl, hb1⟩
  have HM1 := Lib.hid (AM.more H HM.out hb1)
  have HM2 := Lib.hid (AM.more H HM1.out (below1 W1 (.cells #[.string (str l), .int .i64 ((m : Nat) : Int)] 28)))
  have a1 : (W1.alloc (.cells #[.string (str l), .int .i64 ((m : Nat) : Int)] 28)).cell? ⟨w.heap.size + 1, 1, none⟩ = some (.int .i64 n) := HM2.out.act.cell 1
  have HS1 := Lib.hid (show w.heap.size + 3 ≤ W1.heap.size by have := HM1.out.res.lt; omega)
  clear hb1
  go_wp2_with fail
  refine (HP.out _ HM2.out.has).mono ?_
  rintro e W3 ⟨rfl, hn3⟩
  have HM3 := Lib.hid (AM.step HM2.out hn3)
  have hbx : Row W3 W1.heap.size 28 (fc l (m)) := hn3.2.row (Row.new W1 _ (fc l (m))) (fun hf => by have := HM3.out.fl _ hf; have := HS1.out; omega)
  have b0 : W3.cell? ⟨W1.heap.size, 0, none⟩ = some (.string (str l)) := hbx.cell 0
  have b1 : W3.cell? ⟨W1.heap.size, 1, none⟩ = some (.int .i64 ((m : Nat) : Int)) := hbx.cell 1
  have c0 : W3.cell? ⟨w.heap.size + 1 + 1, 0, none⟩ = some (.string (str [])) := HM3.out.res.cell 0
  have c1 : W3.cell? ⟨w.heap.size + 1 + 1, 1, none⟩ = some (.int .i64 0) := HM3.out.res.cell 1
  have f0 : W3.frozen? ⟨w.heap.size + 1 + 1, 0, none⟩ = false := HM3.out.res.frozen 0
  have f1 : W3.frozen? ⟨w.heap.size + 1 + 1, 1, none⟩ = false := HM3.out.res.frozen 1
  have hlt : w.heap.size + 1 + 1 < W3.heap.size := HM3.out.res.lt
  have hlt1 : w.heap.size + 1 + 1 < W1.heap.size := by have := HS1.out; omega
  have hlt2 : W1.heap.size < W3.heap.size := hbx.lt
  have HBZ := Lib.hid (show ((W3.drew.setCell ⟨w.heap.size + 1 + 1, 0, none⟩ (.string (str l))).setCell ⟨w.heap.size + 1 + 1, 1, none⟩ (.int .i64 ((m : Nat) : Int))).cell? ⟨W1.heap.size, 0, none⟩ = some (.string (str l)) ∧ ((W3.drew.setCell ⟨w.heap.size + 1 + 1, 0, none⟩ (.string (str l))).setCell ⟨w.heap.size + 1 + 1, 1, none⟩ (.int .i64 ((m : Nat) : Int))).cell? ⟨W1.heap.size, 1, none⟩ = some (.int .i64 ((m : Nat) : Int)) from by
    have hd : Row W3.drew W1.heap.size 28 (fc l (m)) := hbx
    have hz : Row ((W3.drew.setCell ⟨w.heap.size + 1 + 1, 0, none⟩ (.string (str l))).setCell ⟨w.heap.size + 1 + 1, 1, none⟩ (.int .i64 ((m : Nat) : Int))) W1.heap.size 28 (fc l (m)) := hd.same ((heap_set (by omega)).trans (heap_set (by omega)))
    exact ⟨hz.cell 0, hz.cell 1⟩)
  clear hn3 hbx a1
  go_wp2_with fail
  refine wp_region_noPanic ?_
  refine wp_region_held_drew (S := fun W => W.cell? ⟨W1.heap.size, 0, none⟩ = some (.string (str l)) ∧ W.cell? ⟨W1.heap.size, 1, none⟩ = some (.int .i64 ((m : Nat) : Int))) (by kernel_rfl) ?_ (fun hHeld => ?_)
  · exact ⟨b0, b1⟩
  refine wpAnyH_take (i := 0) (v := ?_) rfl (by kernel_rfl) (by kernel_rfl) (by kernel_rfl) (fun _ _ _ h => h) (Or.inl ⟨by kernel_rfl, ?_⟩) hHeld ?_
  rotate_left
  focus (intro w hSw; (try dsimp only at hSw); go_simp; try with_reducible rfl)
  try simp only [Act.put]
  refine wpAnyH_take (i := 1) (v := ?_) rfl (by kernel_rfl) (by kernel_rfl) (by kernel_rfl) (fun _ _ _ h => h) (Or.inl ⟨by kernel_rfl, ?_⟩) hHeld ?_
  rotate_left
  focus (intro w hSw; (try dsimp only at hSw); go_simp; try with_reducible rfl)
  try simp only [Act.put]
  refine wpAnyH_take (i := 2) (v := ?_) rfl (by kernel_rfl) (by kernel_rfl) (by kernel_rfl) (fun _ _ _ h => h) (Or.inl ⟨by kernel_rfl, ?_⟩) hHeld ?_
  rotate_left
  focus (intro w hSw; (try dsimp only at hSw); go_simp; try with_reducible rfl)
  try simp only [Act.put]
  refine wpAnyH_take (i := 3) (v := ?_) rfl (by kernel_rfl) (by kernel_rfl) (by kernel_rfl) (fun _ _ _ h => h) (Or.inl ⟨by kernel_rfl, ?_⟩) hHeld ?_
  rotate_left
  focus (intro w hSw; (try dsimp only at hSw); go_simp; try with_reducible rfl)
  try simp only [Act.put]
  refine wpAnyH_take (i := 4) (v := ?_) rfl (by kernel_rfl) (by kernel_rfl) (by kernel_rfl) (fun _ _ _ h => h) (Or.inl ⟨by kernel_rfl, ?_⟩) hHeld ?_
  rotate_left
  focus (intro w hSw; (try dsimp only at hSw); go_simp; try with_reducible rfl)
  try simp only [Act.put]
  refine wpAnyH_take (i := 5) (v := ?_) rfl (by kernel_rfl) (by kernel_rfl) (by kernel_rfl) (fun _ _ _ h => h) (Or.inl ⟨by kernel_rfl, ?_⟩) hHeld ?_
  rotate_left
  focus (intro w hSw; (try dsimp only at hSw); go_simp; try with_reducible rfl)
  try simp only [Act.put]
  refine wpAnyH_take (i := 6) (v := ?_) rfl (by kernel_rfl) (by kernel_rfl) (by kernel_rfl) (fun _ _ _ h => h) (Or.inl ⟨by kernel_rfl, ?_⟩) hHeld ?_
  rotate_left
  focus (intro w hSw; (try dsimp only at hSw); go_simp; try with_reducible rfl)
  try simp only [Act.put]
  refine wpAnyH_take (i := 8) (v := ?_) rfl (by kernel_rfl) (by kernel_rfl) (by kernel_rfl) (fun _ _ _ h => h) (Or.inl ⟨by kernel_rfl, ?_⟩) hHeld ?_
  rotate_left
  focus (intro w hSw; (try dsimp only at hSw); go_simp; try with_reducible rfl)
  try simp only [Act.put]
  refine wpAnyH_ready (rs := [7]) (by kernel_rfl) (by simp) ?_
  refine AllReadyH.cons rfl (fun K hK => ?_) (AllReadyH.nil)
  go_simp
  go_at_call 15
  refine (hn.out _ _).mono ?_
  rintro e u0 ⟨rfl, rfl⟩
  go_simp
  refine hK.out _ _ ?_ (fun hHeld => ?_)
  · exact ⟨b0, b1⟩
  clear hK K
  try simp only [Act.put]
  refine wpAnyH_take (i := 9) (v := ?_) rfl (by kernel_rfl) (by kernel_rfl) (by kernel_rfl) (fun _ _ _ h => h) (Or.inl ⟨by kernel_rfl, ?_⟩) hHeld ?_
  rotate_left
  focus (intro w hSw; (try dsimp only at hSw); go_simp; try with_reducible rfl)
  try simp only [Act.put]
  refine wpAnyH_take (i := 10) (v := ?_) rfl (by kernel_rfl) (by kernel_rfl) (by kernel_rfl) (fun _ _ _ h => h) (Or.inl ⟨by kernel_rfl, ?_⟩) hHeld ?_
  rotate_left
  focus (intro w hSw; (try dsimp only at hSw); go_simp; try with_reducible rfl)
  try simp only [Act.put]
  refine wpAnyH_take (i := 11) (v := ?_) rfl (by kernel_rfl) (by kernel_rfl) (by kernel_rfl) (fun _ _ _ h => h) (Or.inl ⟨by kernel_rfl, ?_⟩) hHeld ?_
  rotate_left
  focus (intro w hSw; (try dsimp only at hSw); go_simp; try with_reducible rfl)
  try simp only [Act.put]
  refine wpAnyH_ready (rs := [12]) (by kernel_rfl) (by simp) ?_
  refine AllReadyH.cons rfl (fun K hK => ?_) (AllReadyH.nil)
  go_simp
  refine hK.out _ _ ?_ (fun hHeld => ?_)
  · exact ⟨HBZ.out.1, HBZ.out.2⟩
  clear hK K
  try simp only [Act.put]
  refine wpAnyH_ready (rs := [13]) (by kernel_rfl) (by simp) ?_
  refine AllReadyH.cons rfl (fun K hK => ?_) (AllReadyH.nil)
  go_simp
  refine hK.out _ _ ?_ (fun hHeld => ?_)
  · exact ⟨HBZ.out.1, HBZ.out.2⟩
  clear hK K
  try simp only [Act.put]
  refine wpAnyH_done (by kernel_rfl) ?_ _
  refine NoPanic.normal ?_
  go_wp2_with fail
  obtain ⟨Z, hZ⟩ : ∃ Z, Z = ((W3.setCell ⟨w.heap.size + 1 + 1, 0, none⟩ (.string (str l))).setCell ⟨w.heap.size + 1 + 1, 1, none⟩ (.int .i64 ((m : Nat) : Int))).drew := ⟨_, rfl⟩
  have k : Has Z v l (m) F ∧ Keep F w Z ∧ Z.cell? ⟨w.heap.size + 1 + 1, 0, none⟩ = some (.string (str l)) ∧ Z.cell? ⟨w.heap.size + 1 + 1, 1, none⟩ = some (.int .i64 ((m : Nat) : Int)) := by
    rw [hZ]
    exact AM.fin H (q := m) HM3.out ((W3.setCell ⟨w.heap.size + 1 + 1, 0, none⟩ (.string (str l))).setCell ⟨w.heap.size + 1 + 1, 1, none⟩ (.int .i64 ((m : Nat) : Int))).drew rfl rfl rfl rfl
  rw [← hZ]
  obtain ⟨z1, z2, k0, k1⟩ := k
  exact bodyPost_ret (v := .tuple #[v, fv l (m), .bool true]) (by simp [results, Try.results8, go_sem, k0, k1]) rfl ⟨v, F, rfl, z1, z2, fun _ hk => .inl hk⟩
end Go.Proofs.Ytglfcfepgjldfaa.Fe
