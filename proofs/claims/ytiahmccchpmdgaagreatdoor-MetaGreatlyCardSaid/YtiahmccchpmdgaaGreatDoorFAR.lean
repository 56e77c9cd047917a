import Derived.Test.YtiahmccchpmdgaaGreatDoorFAQ
import Derived.Test.YtiahmccchpmdgaaGreatDoorFAD
import Derived.Test.YtiahmccchpmdgaaGreatDoorFAE
import Derived.Test.YtiahmccchpmdgaaGreatDoorFAA
namespace Go.Proofs.YtiahmccchpmdgaaGreatDoor.Me
open Go.RowKit Go.Shelf
open Vm (Ask askCells askE Asks)
attribute [local go_sem] Oper.semAt_some

/- THE CODE's OPEN AND CLOSE. -/
section
variable {w w2 w' : World} {v : Value} {V V' : Int → Option Vm.Bys} {n n' : Nat} {F : Nat → Prop} {B : Bks}
theorem HasV.bx (h : HasV w v V n F) : ∃ b, v = bx b := by
  obtain ⟨b, t, q, l, p, F1, F2, rfl, hr, hp, rfl⟩ := h
  exact ⟨b, rfl⟩
theorem HasV.lt (h : HasV w v V n F) : ∀ k, F k → k < w.heap.size := by
  obtain ⟨b, t, q, l, p, F1, F2, rfl, hr, hp, rfl⟩ := h
  intro k hk
  rcases hk with rfl | hk | hk
  · exact lt_of_cell hr.c0
  · exact hr.tab.lt k hk
  · exact hr.pool.lt k hk
/-- what is laid beside is not of the question -/
theorem NxV.base (hb : Below w.heap.size w w2) (h : NxV w2 v V n F w') : NxV w v V n F w' := by
  obtain ⟨F', h1, h2, h3⟩ := h
  refine ⟨F', h1, (Keep.of_below hb).trans h2 (fun k _ h => h), fun k hk => ?_⟩
  rcases h3 k hk with h | h
  · exact .inl h
  · exact .inr (Nat.le_trans hb.size h)
theorem NxV.step {F' : Nat → Prop} (a2 : Keep F w w2) (a3 : ∀ k, F' k → F k ∨ w.heap.size ≤ k) (h : NxV w2 v V n F' w') : NxV w v V n F w' := by
  obtain ⟨F2, b1, b2, b3⟩ := h
  have hs := a2.size
  refine ⟨F2, b1, ⟨b2.os.trans a2.os, b2.tape.trans a2.tape, b2.output.trans a2.output, Nat.le_trans hs b2.size, fun k hk hf => ?_⟩, fun k hk => ?_⟩
  · refine (b2.block k (by omega) (fun h' => ?_)).trans (a2.block k hk hf)
    rcases a3 k h' with h9 | h9
    · exact hf h9
    · omega
  · rcases b3 k hk with h9 | h9
    · exact a3 k h9
    · exact .inr (by omega)
theorem NxV.row (h : NxV w v V n F w') {b : Nat} {t : TypeId} {l : List Value} (hr : Row w b t l) (hf : ¬ F b) : Row w' b t l := by
  obtain ⟨F', _, h2, _⟩ := h
  exact h2.row hr hf
theorem book_some (B : Bks) {k : Nat} (hk : k < 4) : ∀ j, j < 48 → (bookV B (((64 * k + 1 + j) : Nat) : Int)).isSome = (B k).isSome := fun j hj => by
  rw [bookV_at B hk hj]
  cases B k <;> rfl
/-! what Open asks -/
set_option maxHeartbeats 1000000 in
theorem open1c_any (h : HasV w v V n F) (s : Int) (b p : Nat) (hb : Row w b 117 [v, .int .i64 s]) (hp : w.cell? ⟨p, 0, none⟩ = some (.int .i64 63)) : Calls Tryz.prog 52 #[.pointer (some ⟨b, 0, none⟩), .pointer (some ⟨p, 0, none⟩)] w fun e w' => e = .returned (.bool (isB s 4)) ∧ Below w.heap.size w w' := by
  have h1 := Lib.hid (owned_any v s w)
  have h2 := Lib.hid (fun W (hb : Below w.heap.size w W) => pays_has (h.below hb) s)
  have HC := Lib.hid (fun W (hw : Below w.heap.size w W) => (show W.cell? ⟨b, 0, none⟩ = some v ∧ W.cell? ⟨b, 1, none⟩ = some (.int .i64 s) ∧ W.cell? ⟨p, 0, none⟩ = some (.int .i64 63) from ⟨(hb.below hw).cell 0, (hb.below hw).cell 1, (hw.cell (p := ⟨p, 0, none⟩) (lt_of_cell hp)).trans hp⟩))
  have c0 : w.cell? ⟨b, 0, none⟩ = _ := hb.cell 0
  have c1 : w.cell? ⟨b, 1, none⟩ = _ := hb.cell 1
  obtain ⟨q, hq⟩ : ∃ q, q = isB s 4 := ⟨_, rfl⟩
  rw [← hq] at h1 ⊢
  clear hq h hb
  cases q
  · go_enter Tryz.func52, Tryz.ntmps52
    go_wp2_with fail
    refine h1.out.mono ?_
    rintro e w1 ⟨rfl, hb1⟩
    obtain ⟨d0, d1, d2⟩ := HC.out _ hb1
    clear c0 c1 hp
    go_wp2
    go_ret
    exact ⟨rfl, hb1⟩
  · go_enter Tryz.func52, Tryz.ntmps52
    go_wp2_with fail
    refine h1.out.mono ?_
    rintro e w1 ⟨rfl, hb1⟩
    obtain ⟨d0, d1, d2⟩ := HC.out _ hb1
    have HB1 := Lib.hid hb1
    clear c0 c1 hp hb1
    go_wp2_with fail
    refine (h2.out _ HB1.out).mono ?_
    rintro e w3 ⟨rfl, hb3⟩
    have HB3 := Lib.hid (below0 HB1.out hb3)
    clear hb3
    go_wp2
    go_ret
    exact ⟨rfl, HB3.out⟩
theorem open2c_any (h : HasV w v V n F) (s : Int) (b p : Nat) (hb : Row w b 117 [v, .int .i64 s]) (hp : w.cell? ⟨p, 0, none⟩ = some (.int .i64 63)) : Calls Tryz.prog 56 #[.pointer (some ⟨b, 0, none⟩), .pointer (some ⟨p, 0, none⟩)] w fun e w' => e = .returned (.bool (decide (48 ≤ n))) ∧ Below w.heap.size w w' := by
  have h1 := Lib.hid (v_left h)
  have c0 : w.cell? ⟨b, 0, none⟩ = _ := hb.cell 0
  have hx : ∃ q, decide (48 ≤ n) = q ∧ decide ((n : Int) ≥ 48) = q := by
    by_cases hn : 48 ≤ n
    · exact ⟨true, decide_eq_true hn, decide_eq_true (by omega)⟩
    · exact ⟨false, decide_eq_false hn, decide_eq_false (by omega)⟩
  obtain ⟨q, hq1, hq2⟩ := hx
  rw [hq1]
  clear h hb
  go_enter Tryz.func56, Tryz.ntmps56
  go_wp2_with fail
  refine h1.out.mono ?_
  rintro e w1 ⟨rfl, hb1⟩
  go_wp2
  go_ret
  exact ⟨rfl, hb1⟩
def opL (v : Value) (s : Int) (b p : Nat) (a2 a3 a4 : Bool) : List Ask :=
  [⟨51, #[boV v s], #[], 1, true⟩, ⟨52, #[], #[.pointer (some ⟨b, 0, none⟩), .pointer (some ⟨p, 0, none⟩)], 2, a2⟩,
   ⟨55, #[boV v s], #[], 180, a3⟩, ⟨56, #[], #[.pointer (some ⟨b, 0, none⟩), .pointer (some ⟨p, 0, none⟩)], 171, a4⟩]
theorem opL_E (v : Value) (B : Bks) (n : Nat) (s : Int) (b p : Nat) : askE (opL v s b p (isB s 4) (!(B s.toNat).isSome) (decide (48 ≤ n))) = openA B n s := by
  unfold openA
  rcases h1 : isB s 4 with _ | _
  · rw [if_pos rfl]; rfl
  · rw [if_neg (by decide)]
    rcases h2 : (B s.toNat).isSome with _ | _
    · rw [if_neg (by decide)]
      by_cases h3 : n < 48
      · rw [if_pos h3, decide_eq_false (by omega)]; rfl
      · rw [if_neg h3, decide_eq_true (by omega)]; rfl
    · rw [if_pos rfl]; rfl
theorem opL_asks (h : HasV w v (bookV B) n F) {s : Int} {b p : Nat} (hb : Row w b 117 [v, .int .i64 s]) (hp : w.cell? ⟨p, 0, none⟩ = some (.int .i64 63)) : Asks w (opL v s b p (isB s 4) (!(B s.toNat).isSome) (decide (48 ≤ n))) := by
  intro q hq hall
  rcases q with _ | _ | _ | _ | q
  · exact ⟨enters_of Tryz.func51 (by kernel_rfl) rfl, fun V hV => there_has (h.below hV) s⟩
  · exact ⟨enters_of Tryz.func52 (by kernel_rfl) rfl, fun V hV => open1c_any (h.below hV) s b p (hb.below hV) ((hV.cell (p := ⟨p, 0, none⟩) (lt_of_cell hp)).trans hp)⟩
  · have t2 : isB s 4 = true := hall 1 (by simp [opL]) (by omega)
    obtain ⟨k, rfl, hk⟩ := isB_nat t2
    refine ⟨enters_of Tryz.func55 (by kernel_rfl) rfl, fun V hV => ?_⟩
    exact bare_has (h.below hV) k _ hk (book_some B hk)
  · exact ⟨enters_of Tryz.func56 (by kernel_rfl) rfl, fun V hV => open2c_any (h.below hV) s b p (hb.below hV) ((hV.cell (p := ⟨p, 0, none⟩) (lt_of_cell hp)).trans hp)⟩
  · simp [opL] at hq
    omega
/-- while the pages are mapped -/
def OI (B : Bks) (n : Nat) (v : Value) (s bb pb : Nat) (F : Nat → Prop) (w2 : World) (m : Nat) (W : World) : Prop := NxV w2 v (partV B s m (some fun _ => 0)) (n - m) F W ∧ Row W bb 117 [v, .int .i64 (s : Int)] ∧ W.cell? ⟨pb, 0, none⟩ = some (.int .i64 63)
theorem OI.map {s bb pb m : Nat} {W : World} (h : OI B n v s bb pb F w2 m W) (hm : m < 48) (hs : s < 4) (hn : 48 ≤ n) (hB : B s = none) (hF : ∀ k, F k → k < w.heap.size) (hb1 : w.heap.size ≤ bb) (hb2 : bb < w2.heap.size) (hp1 : w.heap.size ≤ pb) (hp2 : pb < w2.heap.size) :
    Calls Tryz.prog 59 #[v, .int .i64 (((64 * s + 1 + m) : Nat) : Int), .int .i64 (-1), .int .i64 63, .int .i64 0] W fun e w' => e = .returned (.int .i64 0) ∧ Hid (OI B n v s bb pb F w2 (m + 1) w') := by
  obtain ⟨h1, h2, h3⟩ := h
  obtain ⟨F', a1, a2, a3⟩ := h1
  have hv : partV B s m (some fun _ => 0) (((64 * s + 1 + m) : Nat) : Int) = none := by
    rw [partV_next, bookV_at B hs hm, hB]
    rfl
  refine (v_map (m := 0) a1 (by unfold Pg.pageB; rw [Bool.and_eq_true, decide_eq_true_eq, decide_eq_true_eq]; omega) rfl hv (by omega)).mono fun e w' ⟨e1, e2⟩ => ⟨e1, Lib.hid ⟨?_, ?_, ?_⟩⟩
  · rw [partV_step, show n - m - 1 = n - (m + 1) by omega] at e2
    exact NxV.step a2 a3 e2
  · exact e2.row h2 (fun hf => by rcases a3 _ hf with h | h; have := hF _ h; omega; omega)
  · obtain ⟨F3, _, e3, _⟩ := e2
    exact (e3.cell (p := ⟨pb, 0, none⟩) (lt_of_cell h3) (fun hf => by rcases a3 _ hf with h | h; have := hF _ h; simp only at this; omega; simp only at h; omega)).trans h3
theorem nx_low (h : HasM w v B n F) (hb : Below w.heap.size w w') : Nx HasM w v B n F w' := NxV.refl h hb
set_option maxRecDepth 100000 in
set_option maxHeartbeats 4000000 in
theorem open_yes (h : HasM w v B n F) (s0 : Nat) (hE : openA B n (s0 : Int) = 0) : Calls Tryz.prog 18 #[v, .int .i64 (s0 : Int), .int .i64 63] w fun e w' => e = .returned (.int .i64 0) ∧ Nx HasM w v (upd B s0 (some zeroB)) (n - 48) F w' := by
  obtain ⟨b0, rfl⟩ := HasV.bx h
  have hcs : isB (s0 : Int) 4 = true ∧ B s0 = none ∧ 48 ≤ n := by
    unfold openA at hE
    rcases h1 : isB (s0 : Int) 4 with _ | _
    · rw [h1, if_pos rfl] at hE; simp at hE
    · rw [h1, if_neg (by decide), Int.toNat_natCast] at hE
      rcases h2 : B s0 with _ | f
      · by_cases h3 : n < 48
        · simp [h2, h3] at hE
        · exact ⟨rfl, rfl, by omega⟩
      · simp [h2] at hE
  obtain ⟨hs4, hBn, hn⟩ := hcs
  have hs : s0 < 4 := by
    obtain ⟨k, e, hk⟩ := isB_nat (b := 4) hs4
    omega
  have HPG := Lib.hid (fun W => pages_any (bx b0) s0 W hs)
  have HIX := Lib.hid (fun j (hj : j < 48) W => pg_index s0 hj W)
  obtain ⟨A, hA⟩ : ∃ A, A = pgC s0 := ⟨_, rfl⟩
  rw [← hA] at HPG HIX
  clear hA
  have hFl := HasV.lt h
  have HMAP := Lib.hid (fun (w2 W : World) (bb pb m : Nat) (hI : OI B n (bx b0) s0 bb pb F w2 m W) (hm : m < 48) hb1 hb2 hp1 hp2 => OI.map (w := w) hI hm hs hn hBn hFl hb1 hb2 hp1 hp2)
  have HEND := Lib.hid (fun (w2 W : World) (bb pb : Nat) (hb : Below w.heap.size w w2) (hI : OI B n (bx b0) s0 bb pb F w2 48 W) => (show Nx HasM w (bx b0) (upd B s0 (some zeroB)) (n - 48) F W from by
    have h2 := NxV.base hb hI.1
    rw [partV_open B hs] at h2
    exact h2))
  obtain ⟨z, hz⟩ : ∃ z, z = (s0 : Int) := ⟨_, rfl⟩
  have HZ := Lib.hid hz
  have HE0 := Lib.hid (show openA B n z = 0 by rw [hz]; exact hE)
  rw [← hz] at HPG ⊢
  have HST := Lib.hid (fun (w2 : World) (bb pb : Nat) (hb : Below w.heap.size w w2) (r : Row w2 bb 117 [bx b0, .int .i64 z]) (c : w2.cell? ⟨pb, 0, none⟩ = some (.int .i64 63)) => (show OI B n (bx b0) s0 bb pb F w2 0 w2 from
    ⟨by rw [partV_zero]; exact NxV.refl (HasV.below h hb) (Below.refl _ _), by rw [← hz]; exact r, c⟩))
  clear hz hE hs4 hBn hn hs hFl
  obtain ⟨W1, hW1⟩ : ∃ W1, W1 = (w.alloc (.cells #[.int .i64 63] 3)).alloc (.cells #[bx b0, .int .i64 z] 117) := ⟨_, rfl⟩
  have hr1 : Row W1 (w.heap.size + 1) 117 [bx b0, .int .i64 z] := by rw [hW1]; exact Row.new_at _ _ _ (by simp)
  have hrp : Row W1 w.heap.size 3 [.int .i64 63] := by rw [hW1]; exact (Row.new w _ _).below (below1 _ _)
  have hp1 : W1.cell? ⟨w.heap.size, 0, none⟩ = some (.int .i64 63) := hrp.cell 0
  have hb1 : Below w.heap.size w W1 := by rw [hW1]; exact ((Below.refl _ _).alloc (Nat.le_refl _) _).alloc (by simp) _
  have hs1 : W1.heap.size = w.heap.size + 1 + 1 := by rw [hW1]; simp
  have HA := Lib.hid (asked_at (opL (bx b0) z (w.heap.size + 1) w.heap.size (isB z 4) (!(B z.toNat).isSome) (decide (48 ≤ n))) 4 (w.heap.size + 1 + 1) W1 rfl (by omega) hs1 (opL_asks (HasV.below h hb1) hr1 hp1))
  rw [opL_E (bx b0) B n z (w.heap.size + 1) w.heap.size] at HA
  simp only [opL, askCells, Ask.val, List.flatMap_cons, List.flatMap_nil, List.append_nil, List.cons_append, List.nil_append] at HA
  have HR1 := Lib.hid hrp
  have HRB := Lib.hid hr1
  have HB1 := Lib.hid hb1
  have HW1 := Lib.hid hW1
  have HS1 := Lib.hid hs1
  rw [HE0.out] at HA
  clear h hW1 hr1 hrp hp1 hb1 hs1 HE0
  go_enter Tryz.func18, Tryz.ntmps18
  go_wp2_with fail
  refine wp_scope_jump 1 fun R hR hJm => ?_
  go_wp2_with fail
  rw [← HW1.out]
  refine HA.out.mono ?_
  rintro e w1 ⟨rfl, hb2⟩
  have HB2 := Lib.hid (below0 HB1.out hb2)
  have HRP2 := Lib.hid (HR1.out.below hb2)
  have HRB2 := Lib.hid (HRB.out.below hb2)
  have c0 : w1.cell? ⟨w.heap.size + 1, 0, none⟩ = _ := HRB2.out.cell 0
  have c1 : w1.cell? ⟨w.heap.size + 1, 1, none⟩ = _ := HRB2.out.cell 1
  clear hb2 HA HB1 HR1 HRB HW1
  go_wp2_with fail
  refine (HPG.out _).mono ?_
  rintro e w2 ⟨rfl, hb3⟩
  have HB3 := Lib.hid (below0 HB2.out hb3)
  have HI0 := Lib.hid (HST.out w2 (w.heap.size + 1) w.heap.size HB3.out (HRB2.out.below hb3) ((HRP2.out.below hb3).cell 0))
  have HL := Lib.hid (show w.heap.size + 1 < w2.heap.size from (HRB2.out.below hb3).lt)
  clear hb3 c0 c1 HPG HST HB2 HRP2 HRB2
  go_wp2_with fail
  go_loopw [30] (fun s W => ∃ m : Nat, s = .int .i64 (m : Int) ∧ m ≤ 48 ∧ Hid (OI B n (bx b0) s0 (w.heap.size + 1) w.heap.size F w2 m W)) (fun s _ => 48 - (intOf s).toNat)
  case atStart => exact ⟨0, rfl, Nat.zero_le _, HI0⟩
  case round =>
    obtain ⟨m, rfl, hm, HI⟩ := hrel
    by_cases h8 : m < 48
    · have d0 : decide ((m : Int) < 48) = true := decide_eq_true (by omega)
      have a1 : IntKind.i64.wrap ((m : Int) + 1) = ((m + 1 : Nat) : Int) := (wrapI _ (by omega) (by omega)).trans (by omega)
      have hix := HIX.out m h8
      have hlt := HL.out
      have HM := Lib.hid (HMAP.out w2 wr (w.heap.size + 1) w.heap.size m HI.out h8 (by omega) hlt (Nat.le_refl _) (by omega))
      obtain ⟨p, hp⟩ : ∃ p, p = 64 * s0 + 1 + m := ⟨_, rfl⟩
      rw [← hp] at hix HM
      have c0 : wr.cell? ⟨w.heap.size + 1, 0, none⟩ = _ := HI.out.2.1.cell 0
      have c1 : wr.cell? ⟨w.heap.size, 0, none⟩ = _ := HI.out.2.2
      clear hp hlt HI HI0 HIX HMAP
      go_wp2_with fail
      refine HM.out.mono ?_
      rintro e w3 ⟨rfl, hI2⟩
      clear c0 c1 HM
      go_wp2
      refine ⟨⟨m + 1, rfl, by omega, hI2⟩, ?_⟩
      show 48 - ((m : Int) + 1).toNat < 48 - ((m : Int)).toNat
      omega
    · have d0 : decide ((m : Int) < 48) = false := decide_eq_false (by omega)
      obtain rfl : m = 48 := by omega
      have HF := Lib.hid (HEND.out w2 wr _ _ HB3.out HI.out)
      clear HI HI0 HIX HMAP HEND
      go_wp2
      refine hR.out _ _ _ _ (by simp) ?_
      go_ret
      exact ⟨rfl, HF.out⟩
set_option maxRecDepth 100000 in
set_option maxHeartbeats 4000000 in
theorem open_no (h : HasM w v B n F) (z : Int) (hE : openA B n z ≠ 0) : Calls Tryz.prog 18 #[v, .int .i64 z, .int .i64 63] w fun e w' => e = .returned (.int .i64 (openA B n z)) ∧ Nx HasM w v B n F w' := by
  obtain ⟨b0, rfl⟩ := HasV.bx h
  have HLOW := Lib.hid (fun W (hb : Below w.heap.size w W) => nx_low h hb)
  obtain ⟨W1, hW1⟩ : ∃ W1, W1 = (w.alloc (.cells #[.int .i64 63] 3)).alloc (.cells #[bx b0, .int .i64 z] 117) := ⟨_, rfl⟩
  have hr1 : Row W1 (w.heap.size + 1) 117 [bx b0, .int .i64 z] := by rw [hW1]; exact Row.new_at _ _ _ (by simp)
  have hrp : Row W1 w.heap.size 3 [.int .i64 63] := by rw [hW1]; exact (Row.new w _ _).below (below1 _ _)
  have hp1 : W1.cell? ⟨w.heap.size, 0, none⟩ = some (.int .i64 63) := hrp.cell 0
  have hb1 : Below w.heap.size w W1 := by rw [hW1]; exact ((Below.refl _ _).alloc (Nat.le_refl _) _).alloc (by simp) _
  have hs1 : W1.heap.size = w.heap.size + 1 + 1 := by rw [hW1]; simp
  have HA := Lib.hid (asked_at (opL (bx b0) z (w.heap.size + 1) w.heap.size (isB z 4) (!(B z.toNat).isSome) (decide (48 ≤ n))) 4 (w.heap.size + 1 + 1) W1 rfl (by omega) hs1 (opL_asks (HasV.below h hb1) hr1 hp1))
  rw [opL_E (bx b0) B n z (w.heap.size + 1) w.heap.size] at HA
  simp only [opL, askCells, Ask.val, List.flatMap_cons, List.flatMap_nil, List.append_nil, List.cons_append, List.nil_append] at HA
  have HR1 := Lib.hid hrp
  have HRB := Lib.hid hr1
  have HB1 := Lib.hid hb1
  have HW1 := Lib.hid hW1
  have HS1 := Lib.hid hs1
  obtain ⟨E, hEE⟩ : ∃ E, E = openA B n z := ⟨_, rfl⟩
  rw [← hEE] at HA hE ⊢
  have e0 : (E == 0) = false := by rw [beq_eq_false_iff_ne]; exact hE
  clear h hW1 hr1 hrp hp1 hb1 hs1 hEE
  go_enter Tryz.func18, Tryz.ntmps18
  go_wp2_with fail
  refine wp_scope_jump 1 fun R hR hJm => ?_
  go_wp2_with fail
  rw [← HW1.out]
  refine HA.out.mono ?_
  rintro e w1 ⟨rfl, hb2⟩
  have HF := Lib.hid (HLOW.out _ (below0 HB1.out hb2))
  clear hb2 HA HB1 HR1 HRB HW1
  go_wp2_with fail
  refine wp_goto (hJm.out _ _ _ _ _ rfl ?_)
  go_wp2
  refine hR.out _ _ _ _ (by simp) ?_
  go_ret
  exact ⟨rfl, HF.out⟩
end
end Go.Proofs.YtiahmccchpmdgaaGreatDoor.Me

namespace Go.Proofs.YtiahmccchpmdgaaGreatDoor.Me
open Go.RowKit Go.Shelf
open Vm (Ask askCells askE Asks)
attribute [local go_sem] Oper.semAt_some

/- THE CODE's CLOSE; NO MEMORY. -/
section
variable {w w2 w' : World} {v : Value} {V V' : Int → Option Vm.Bys} {n n' : Nat} {F : Nat → Prop} {B : Bks}
def clL (v : Value) (s : Int) (a1 a2 a3 : Bool) : List Ask := [⟨51, #[boV v s], #[], 1, a1⟩, ⟨53, #[boV v s], #[], 2, a2⟩, ⟨79, #[boV v s], #[], 5, a3⟩]
theorem clL_E (v : Value) (B : Bks) (s : Int) : askE (clL v s true (isB s 4) (B s.toNat).isSome) = closeA B s := by
  unfold closeA openE
  rcases h1 : isB s 4 with _ | _
  · rw [if_pos rfl]; rfl
  · rw [if_neg (by decide)]
    rcases h2 : B s.toNat with _ | f <;> rfl
theorem clL_asks (h : HasV w v (bookV B) n F) {s : Int} : Asks w (clL v s true (isB s 4) (B s.toNat).isSome) := by
  intro q hq hall
  rcases q with _ | _ | _ | q
  · exact ⟨enters_of Tryz.func51 (by kernel_rfl) rfl, fun V hV => there_has (h.below hV) s⟩
  · exact ⟨enters_of Tryz.func53 (by kernel_rfl) rfl, fun V _ => owned_any v s V⟩
  · have t2 : isB s 4 = true := hall 1 (by simp [clL]) (by omega)
    obtain ⟨k, rfl, hk⟩ := isB_nat t2
    exact ⟨enters_of Tryz.func79 (by kernel_rfl) rfl, fun V hV => open_has (h.below hV) k _ hk (book_some B hk)⟩
  · simp [clL] at hq
    omega
/-- no memory: the first question -/
theorem nil_asks (qs : List Ask) (s : Int) (e : Int) : Asks w (⟨51, #[boV (.pointer none) s], #[], e, false⟩ :: qs) := by
  intro q hq hall
  rcases q with _ | q
  · exact ⟨enters_of Tryz.func51 (by kernel_rfl) rfl, fun V _ => there_not s⟩
  · exact absurd (hall 0 (by simp) (by omega)) (by simp)
/-- while the pages are unmapped -/
def CI (B : Bks) (n : Nat) (v : Value) (s bb : Nat) (F : Nat → Prop) (w2 : World) (m : Nat) (W : World) : Prop := NxV w2 v (partV B s m none) (n + m) F W ∧ Row W bb 117 [v, .int .i64 (s : Int)]
theorem CI.unmap {s bb m : Nat} {W : World} {f : Byts} (h : CI B n v s bb F w2 m W) (hm : m < 48) (hs : s < 4) (hB : B s = some f) (hF : ∀ k, F k → k < w.heap.size) (hb1 : w.heap.size ≤ bb) (hb2 : bb < w2.heap.size) :
    Calls Tryz.prog 80 #[v, .int .i64 (((64 * s + 1 + m) : Nat) : Int)] W fun e w' => e = .returned (.int .i64 0) ∧ Hid (CI B n v s bb F w2 (m + 1) w') := by
  obtain ⟨h1, h2⟩ := h
  obtain ⟨F', a1, a2, a3⟩ := h1
  have hv : partV B s m none (((64 * s + 1 + m) : Nat) : Int) = some fun j => if j < 256 then f (256 * m + j) else 0 := by
    rw [partV_next, bookV_at B hs hm, hB]
    rfl
  refine (v_unmap a1 (by unfold Pg.pageB; rw [Bool.and_eq_true, decide_eq_true_eq, decide_eq_true_eq]; omega) hv).mono fun e w' ⟨e1, e2⟩ => ⟨e1, Lib.hid ⟨?_, ?_⟩⟩
  · rw [partV_step, show n + m + 1 = n + (m + 1) by omega] at e2
    exact NxV.step a2 a3 e2
  · exact e2.row h2 (fun hf => by rcases a3 _ hf with h | h; have := hF _ h; omega; omega)
set_option maxRecDepth 100000 in
set_option maxHeartbeats 4000000 in
theorem close_yes (h : HasM w v B n F) (s0 : Nat) (hE : closeA B (s0 : Int) = 0) : Calls Tryz.prog 30 #[v, .int .i64 (s0 : Int)] w fun e w' => e = .returned (.int .i64 0) ∧ Nx HasM w v (upd B s0 none) (n + 48) F w' := by
  obtain ⟨b0, rfl⟩ := HasV.bx h
  have hcs : isB (s0 : Int) 4 = true ∧ ∃ f, B s0 = some f := by
    unfold closeA openE at hE
    rcases h1 : isB (s0 : Int) 4 with _ | _
    · simp [h1] at hE
    · rw [h1, if_neg (by decide), Int.toNat_natCast] at hE
      rcases h2 : B s0 with _ | f
      · simp [h2] at hE
      · exact ⟨rfl, f, rfl⟩
  obtain ⟨hs4, f, hBf⟩ := hcs
  have hs : s0 < 4 := by
    obtain ⟨k, e, hk⟩ := isB_nat (b := 4) hs4
    omega
  have HPG := Lib.hid (fun W => pages_any (bx b0) s0 W hs)
  have HIX := Lib.hid (fun j (hj : j < 48) W => pg_index s0 hj W)
  obtain ⟨A, hA⟩ : ∃ A, A = pgC s0 := ⟨_, rfl⟩
  rw [← hA] at HPG HIX
  clear hA
  have hFl := HasV.lt h
  have HMAP := Lib.hid (fun (w2 W : World) (bb m : Nat) (hI : CI B n (bx b0) s0 bb F w2 m W) (hm : m < 48) hb1 hb2 => CI.unmap (w := w) hI hm hs hBf hFl hb1 hb2)
  have HEND := Lib.hid (fun (w2 W : World) (bb : Nat) (hb : Below w.heap.size w w2) (hI : CI B n (bx b0) s0 bb F w2 48 W) => (show Nx HasM w (bx b0) (upd B s0 none) (n + 48) F W from by
    have h2 := NxV.base hb hI.1
    rw [partV_close B hs] at h2
    exact h2))
  obtain ⟨z, hz⟩ : ∃ z, z = (s0 : Int) := ⟨_, rfl⟩
  have HE0 := Lib.hid (show closeA B z = 0 by rw [hz]; exact hE)
  rw [← hz] at HPG ⊢
  have HST := Lib.hid (fun (w2 : World) (bb : Nat) (hb : Below w.heap.size w w2) (r : Row w2 bb 117 [bx b0, .int .i64 z]) => (show CI B n (bx b0) s0 bb F w2 0 w2 from
    ⟨by rw [partV_zero]; exact NxV.refl (HasV.below h hb) (Below.refl _ _), by rw [← hz]; exact r⟩))
  clear hz hE hs4 hBf hs hFl
  obtain ⟨W1, hW1⟩ : ∃ W1, W1 = w.alloc (.cells #[bx b0, .int .i64 z] 117) := ⟨_, rfl⟩
  have hr1 : Row W1 w.heap.size 117 [bx b0, .int .i64 z] := by rw [hW1]; exact Row.new _ _ _
  have hb1 : Below w.heap.size w W1 := by rw [hW1]; exact below1 _ _
  have hs1 : W1.heap.size = w.heap.size + 1 := by rw [hW1]; simp
  have HA := Lib.hid (asked_at (clL (bx b0) z true (isB z 4) (B z.toNat).isSome) 3 (w.heap.size + 1) W1 rfl (by omega) hs1 (clL_asks (HasV.below h hb1)))
  rw [clL_E (bx b0) B z] at HA
  simp only [clL, askCells, Ask.val, List.flatMap_cons, List.flatMap_nil, List.append_nil, List.cons_append, List.nil_append] at HA
  have HRB := Lib.hid hr1
  have HB1 := Lib.hid hb1
  have HW1 := Lib.hid hW1
  rw [HE0.out] at HA
  clear h hW1 hr1 hb1 hs1 HE0
  go_enter Tryz.func30, Tryz.ntmps30
  go_wp2_with fail
  refine wp_scope_jump 1 fun R hR hJm => ?_
  go_wp2_with fail
  rw [← HW1.out]
  refine HA.out.mono ?_
  rintro e w1 ⟨rfl, hb2⟩
  have HB2 := Lib.hid (below0 HB1.out hb2)
  have HRB2 := Lib.hid (HRB.out.below hb2)
  have c0 : w1.cell? ⟨w.heap.size, 0, none⟩ = _ := HRB2.out.cell 0
  have c1 : w1.cell? ⟨w.heap.size, 1, none⟩ = _ := HRB2.out.cell 1
  clear hb2 HA HB1 HRB HW1
  go_wp2_with fail
  refine (HPG.out _).mono ?_
  rintro e w2 ⟨rfl, hb3⟩
  have HB3 := Lib.hid (below0 HB2.out hb3)
  have HI0 := Lib.hid (HST.out w2 w.heap.size HB3.out (HRB2.out.below hb3))
  have HL := Lib.hid (show w.heap.size < w2.heap.size from (HRB2.out.below hb3).lt)
  clear hb3 c0 c1 HPG HST HB2 HRB2
  go_wp2_with fail
  go_loopw [27] (fun s W => ∃ m : Nat, s = .int .i64 (m : Int) ∧ m ≤ 48 ∧ Hid (CI B n (bx b0) s0 w.heap.size F w2 m W)) (fun s _ => 48 - (intOf s).toNat)
  case atStart => exact ⟨0, rfl, Nat.zero_le _, HI0⟩
  case round =>
    obtain ⟨m, rfl, hm, HI⟩ := hrel
    by_cases h8 : m < 48
    · have d0 : decide ((m : Int) < 48) = true := decide_eq_true (by omega)
      have a1 : IntKind.i64.wrap ((m : Int) + 1) = ((m + 1 : Nat) : Int) := (wrapI _ (by omega) (by omega)).trans (by omega)
      have hix := HIX.out m h8
      have hlt := HL.out
      have HM := Lib.hid (HMAP.out w2 wr w.heap.size m HI.out h8 (Nat.le_refl _) hlt)
      obtain ⟨p, hp⟩ : ∃ p, p = 64 * s0 + 1 + m := ⟨_, rfl⟩
      rw [← hp] at hix HM
      have c0 : wr.cell? ⟨w.heap.size, 0, none⟩ = _ := HI.out.2.cell 0
      clear hp hlt HI HI0 HIX HMAP
      go_wp2_with fail
      refine HM.out.mono ?_
      rintro e w3 ⟨rfl, hI2⟩
      clear c0 HM
      go_wp2
      refine ⟨⟨m + 1, rfl, by omega, hI2⟩, ?_⟩
      show 48 - ((m : Int) + 1).toNat < 48 - ((m : Int)).toNat
      omega
    · have d0 : decide ((m : Int) < 48) = false := decide_eq_false (by omega)
      obtain rfl : m = 48 := by omega
      have HF := Lib.hid (HEND.out w2 wr _ HB3.out HI.out)
      clear HI HI0 HIX HMAP HEND
      go_wp2
      refine hR.out _ _ _ _ (by simp) ?_
      go_ret
      exact ⟨rfl, HF.out⟩
set_option maxRecDepth 100000 in
set_option maxHeartbeats 4000000 in
theorem close_no (h : HasM w v B n F) (z : Int) (hE : closeA B z ≠ 0) : Calls Tryz.prog 30 #[v, .int .i64 z] w fun e w' => e = .returned (.int .i64 (closeA B z)) ∧ Nx HasM w v B n F w' := by
  obtain ⟨b0, rfl⟩ := HasV.bx h
  have HLOW := Lib.hid (fun W (hb : Below w.heap.size w W) => nx_low h hb)
  obtain ⟨W1, hW1⟩ : ∃ W1, W1 = w.alloc (.cells #[bx b0, .int .i64 z] 117) := ⟨_, rfl⟩
  have hr1 : Row W1 w.heap.size 117 [bx b0, .int .i64 z] := by rw [hW1]; exact Row.new _ _ _
  have hb1 : Below w.heap.size w W1 := by rw [hW1]; exact below1 _ _
  have hs1 : W1.heap.size = w.heap.size + 1 := by rw [hW1]; simp
  have HA := Lib.hid (asked_at (clL (bx b0) z true (isB z 4) (B z.toNat).isSome) 3 (w.heap.size + 1) W1 rfl (by omega) hs1 (clL_asks (HasV.below h hb1)))
  rw [clL_E (bx b0) B z] at HA
  simp only [clL, askCells, Ask.val, List.flatMap_cons, List.flatMap_nil, List.append_nil, List.cons_append, List.nil_append] at HA
  have HRB := Lib.hid hr1
  have HB1 := Lib.hid hb1
  have HW1 := Lib.hid hW1
  obtain ⟨E, hEE⟩ : ∃ E, E = closeA B z := ⟨_, rfl⟩
  rw [← hEE] at HA hE ⊢
  have e0 : (E == 0) = false := by rw [beq_eq_false_iff_ne]; exact hE
  clear h hW1 hr1 hb1 hs1 hEE
  go_enter Tryz.func30, Tryz.ntmps30
  go_wp2_with fail
  refine wp_scope_jump 1 fun R hR hJm => ?_
  go_wp2_with fail
  rw [← HW1.out]
  refine HA.out.mono ?_
  rintro e w1 ⟨rfl, hb2⟩
  have HF := Lib.hid (HLOW.out _ (below0 HB1.out hb2))
  clear hb2 HA HB1 HRB HW1
  go_wp2_with fail
  refine wp_goto (hJm.out _ _ _ _ _ rfl ?_)
  go_wp2
  refine hR.out _ _ _ _ (by simp) ?_
  go_ret
  exact ⟨rfl, HF.out⟩
set_option maxHeartbeats 4000000 in
theorem close_nil (z : Int) (w : World) : Calls Tryz.prog 30 #[.pointer none, .int .i64 z] w fun e w' => e = .returned (.int .i64 1) ∧ Below w.heap.size w w' := by
  obtain ⟨W1, hW1⟩ : ∃ W1, W1 = w.alloc (.cells #[.pointer none, .int .i64 z] 117) := ⟨_, rfl⟩
  have hr1 : Row W1 w.heap.size 117 [.pointer none, .int .i64 z] := by rw [hW1]; exact Row.new _ _ _
  have hb1 : Below w.heap.size w W1 := by rw [hW1]; exact below1 _ _
  have hs1 : W1.heap.size = w.heap.size + 1 := by rw [hW1]; simp
  have HA := Lib.hid (asked_at (clL (.pointer none) z false true true) 3 (w.heap.size + 1) W1 rfl (by omega) hs1 (nil_asks _ _ _))
  rw [show askE (clL (.pointer none) z false true true) = 1 from rfl] at HA
  simp only [clL, askCells, Ask.val, List.flatMap_cons, List.flatMap_nil, List.append_nil, List.cons_append, List.nil_append] at HA
  have HRB := Lib.hid hr1
  have HB1 := Lib.hid hb1
  have HW1 := Lib.hid hW1
  clear hW1 hr1 hb1 hs1
  go_enter Tryz.func30, Tryz.ntmps30
  go_wp2_with fail
  refine wp_scope_jump 1 fun R hR hJm => ?_
  go_wp2_with fail
  rw [← HW1.out]
  refine HA.out.mono ?_
  rintro e w1 ⟨rfl, hb2⟩
  have HF := Lib.hid (below0 HB1.out hb2)
  clear hb2 HA HB1 HRB HW1
  go_wp2_with fail
  refine wp_goto (hJm.out _ _ _ _ _ rfl ?_)
  go_wp2
  refine hR.out _ _ _ _ (by simp) ?_
  go_ret
  exact ⟨rfl, HF.out⟩
set_option maxHeartbeats 4000000 in
theorem open_nil (z y : Int) (w : World) : Calls Tryz.prog 18 #[.pointer none, .int .i64 z, .int .i64 y] w fun e w' => e = .returned (.int .i64 1) ∧ Below w.heap.size w w' := by
  obtain ⟨W1, hW1⟩ : ∃ W1, W1 = (w.alloc (.cells #[.int .i64 y] 3)).alloc (.cells #[.pointer none, .int .i64 z] 117) := ⟨_, rfl⟩
  have hb1 : Below w.heap.size w W1 := by rw [hW1]; exact ((Below.refl _ _).alloc (Nat.le_refl _) _).alloc (by simp) _
  have hs1 : W1.heap.size = w.heap.size + 1 + 1 := by rw [hW1]; simp
  have HA := Lib.hid (asked_at (⟨51, #[boV (.pointer none) z], #[], 1, false⟩ :: (opL (.pointer none) z (w.heap.size + 1) w.heap.size true true true).tail) 4 (w.heap.size + 1 + 1) W1 rfl (by omega) hs1 (nil_asks _ _ _))
  rw [show askE (⟨51, #[boV (.pointer none) z], #[], 1, false⟩ :: (opL (.pointer none) z (w.heap.size + 1) w.heap.size true true true).tail) = 1 from rfl] at HA
  simp only [opL, List.tail_cons, askCells, Ask.val, List.flatMap_cons, List.flatMap_nil, List.append_nil, List.cons_append, List.nil_append] at HA
  have HB1 := Lib.hid hb1
  have HW1 := Lib.hid hW1
  clear hW1 hb1 hs1
  go_enter Tryz.func18, Tryz.ntmps18
  go_wp2_with fail
  refine wp_scope_jump 1 fun R hR hJm => ?_
  go_wp2_with fail
  rw [← HW1.out]
  refine HA.out.mono ?_
  rintro e w1 ⟨rfl, hb2⟩
  have HF := Lib.hid (below0 HB1.out hb2)
  clear hb2 HA HB1 HW1
  go_wp2_with fail
  refine wp_goto (hJm.out _ _ _ _ _ rfl ?_)
  go_wp2
  refine hR.out _ _ _ _ (by simp) ?_
  go_ret
  exact ⟨rfl, HF.out⟩
end
end Go.Proofs.YtiahmccchpmdgaaGreatDoor.Me

namespace Go.Proofs.YtiahmccchpmdgaaGreatDoor.Me
open Go.RowKit Go.Shelf
open Vm (Ask askCells askE Asks)
attribute [local go_sem] Oper.semAt_some

/- WHERE A RECORD IS ASKED FOR; WHY NONE MAY BE READ THERE. -/
abbrev liC (p : Option Addr) (t f k m : Int) (kn : Bool) (i : Int) : List Value := [.pointer p, .int .i64 t, .int .u32 f, .int .i64 k, .int .i64 m, .bool kn, .int .i64 i]
abbrev liV (p : Option Addr) (t f k m : Int) (kn : Bool) (i : Int) : Value := .agg #[.pointer p, .int .i64 t, .int .u32 f, .int .i64 k, .int .i64 m, .bool kn, .int .i64 i]
def recR (s c : Int) : Int × Int × Int × Bool := if isB s 4 = true ∧ isB c 8 = true then ((256 * (64 * s.toNat + 1) + 768 * c.toNat : Nat), 8, (cnt c.toNat : Nat), true) else (0, 0, 0, false)
def greR (s : Int) : Int × Int × Int × Bool := if isB s 4 = true then ((256 * (64 * s.toNat + 1) + 6144 : Nat), 16, 384, true) else (0, 0, 0, false)
theorem records_any (s c : Int) (w : World) (hT : Tabs w) : Calls Tryz.prog 125 #[.int .i64 s, .int .i64 c] w fun e w' => e = .returned (.tuple #[roV (recR s c).1 (recR s c).2.1 (recR s c).2.2.1, .bool (recR s c).2.2.2]) ∧ Below w.heap.size w w' := by
  unfold recR
  by_cases h : isB s 4 = true ∧ isB c 8 = true
  · rw [if_pos h]
    obtain ⟨s, rfl, hs⟩ := isB_nat h.1
    obtain ⟨c, rfl, hc⟩ := isB_nat h.2
    simp only [Int.toNat_natCast]
    exact records_yes s c w hT hs hc
  · rw [if_neg h]
    refine records_no s c w hT ?_
    rcases h1 : isB s 4 with _ | _
    · exact .inl rfl
    · rcases h2 : isB c 8 with _ | _
      · exact .inr rfl
      · exact absurd ⟨h1, h2⟩ h
theorem greats_any (s : Int) (w : World) : Calls Tryz.prog 136 #[.int .i64 s] w fun e w' => e = .returned (.tuple #[roV (greR s).1 (greR s).2.1 (greR s).2.2.1, .bool (greR s).2.2.2]) ∧ Below w.heap.size w w' := by
  unfold greR
  by_cases h : isB s 4 = true
  · rw [if_pos h]
    obtain ⟨s, rfl, hs⟩ := isB_nat h
    simp only [Int.toNat_natCast]
    exact greats_yes s w hs
  · rw [if_neg h]
    exact greats_no s w (by cases hq : isB s 4; rfl; exact absurd hq h)
set_option maxRecDepth 100000 in
set_option maxHeartbeats 4000000 in
theorem smallLine_any (p : Option Addr) (s c i : Int) (w : World) (hT : Tabs w) : Calls Tryz.prog 64 #[.pointer p, spV s c i] w fun e w' => e = .returned (liV p s (recR s c).1 (recR s c).2.1 (recR s c).2.2.1 (recR s c).2.2.2 i) ∧ Below w.heap.size w w' := by
  obtain ⟨W1, hW1⟩ : ∃ W1, W1 = (w.alloc (.cells #[.int .i64 s, .int .i64 c, .int .i64 i] 37)).alloc (.cells #[.pointer none, .int .i64 0, .int .u32 0, .int .i64 0, .int .i64 0, .bool false, .int .i64 0] 134) := ⟨_, rfl⟩
  have hb1 : Below w.heap.size w W1 := by rw [hW1]; exact ((Below.refl _ _).alloc (Nat.le_refl _) _).alloc (by simp) _
  have hrs : Row W1 w.heap.size 37 [.int .i64 s, .int .i64 c, .int .i64 i] := by rw [hW1]; exact (Row.new w _ _).below (below1 _ _)
  have hrl : Row W1 (w.heap.size + 1) 134 [.pointer none, .int .i64 0, .int .u32 0, .int .i64 0, .int .i64 0, .bool false, .int .i64 0] := by rw [hW1]; exact Row.new_at _ _ _ (by simp)
  have HRC := Lib.hid (records_any s c W1 (hT.below hb1))
  obtain ⟨⟨f, k, m, kn⟩, hr⟩ : ∃ r, r = (recR s c) := ⟨_, rfl⟩
  rw [← hr] at HRC ⊢
  simp only at HRC ⊢
  have HB1 := Lib.hid hb1
  have HRL := Lib.hid hrl
  have HW1 := Lib.hid hW1
  have HRS := Lib.hid hrs
  have a0 : World.cell? W1 ⟨w.heap.size, 0, none⟩ = _ := hrs.cell 0
  have a1 : World.cell? W1 ⟨w.heap.size, 1, none⟩ = _ := hrs.cell 1
  have a2 : World.cell? W1 ⟨w.heap.size, 2, none⟩ = _ := hrs.cell 2
  clear hr hb1 hrl hW1 hrs hT
  go_enter Tryz.func64, Tryz.ntmps64
  go_wp2_with fail
  rw [← HW1.out]
  refine HRC.out.mono ?_
  rintro e w2 ⟨rfl, hb2⟩
  have HB2 := Lib.hid (below0 HB1.out hb2)
  have r2 := (HRL.out.below hb2).below (below1 w2 (.cells #[.int .u32 f, .int .i64 k, .int .i64 m] 99))
  have HR2 := Lib.hid r2
  have HB3 := Lib.hid (HB2.out.alloc HB2.out.size (.cells #[.int .u32 f, .int .i64 k, .int .i64 m] 99))
  have hlt := r2.lt
  have c0 : World.cell? (w2.alloc (.cells #[.int .u32 f, .int .i64 k, .int .i64 m] 99)) ⟨w.heap.size + 1, 0, none⟩ = _ := r2.cell 0
  have c1 : World.cell? (w2.alloc (.cells #[.int .u32 f, .int .i64 k, .int .i64 m] 99)) ⟨w.heap.size + 1, 1, none⟩ = _ := r2.cell 1
  have c2 : World.cell? (w2.alloc (.cells #[.int .u32 f, .int .i64 k, .int .i64 m] 99)) ⟨w.heap.size + 1, 2, none⟩ = _ := r2.cell 2
  have c3 : World.cell? (w2.alloc (.cells #[.int .u32 f, .int .i64 k, .int .i64 m] 99)) ⟨w.heap.size + 1, 3, none⟩ = _ := r2.cell 3
  have c4 : World.cell? (w2.alloc (.cells #[.int .u32 f, .int .i64 k, .int .i64 m] 99)) ⟨w.heap.size + 1, 4, none⟩ = _ := r2.cell 4
  have c5 : World.cell? (w2.alloc (.cells #[.int .u32 f, .int .i64 k, .int .i64 m] 99)) ⟨w.heap.size + 1, 5, none⟩ = _ := r2.cell 5
  have c6 : World.cell? (w2.alloc (.cells #[.int .u32 f, .int .i64 k, .int .i64 m] 99)) ⟨w.heap.size + 1, 6, none⟩ = _ := r2.cell 6
  have f0 := r2.frozen 0
  have f1 := r2.frozen 1
  have f2 := r2.frozen 2
  have f3 := r2.frozen 3
  have f4 := r2.frozen 4
  have f5 := r2.frozen 5
  have f6 := r2.frozen 6
  have s2 := (HRS.out.below hb2).below (below1 w2 (.cells #[.int .u32 f, .int .i64 k, .int .i64 m] 99))
  have b0 : World.cell? (w2.alloc (.cells #[.int .u32 f, .int .i64 k, .int .i64 m] 99)) ⟨w.heap.size, 0, none⟩ = _ := s2.cell 0
  have b1 : World.cell? (w2.alloc (.cells #[.int .u32 f, .int .i64 k, .int .i64 m] 99)) ⟨w.heap.size, 1, none⟩ = _ := s2.cell 1
  have b2 : World.cell? (w2.alloc (.cells #[.int .u32 f, .int .i64 k, .int .i64 m] 99)) ⟨w.heap.size, 2, none⟩ = _ := s2.cell 2
  clear r2 hb2 HRC HB1 HRL HW1 HRS s2 a0 a1 a2
  go_wp2
  have R8 := row_set7 (.pointer p) (.int .i64 s) (.int .u32 f) (.int .i64 k) (.int .i64 m) (.bool kn) (.int .i64 i) HR2.out
  have B8 := below_set7 (b := w.heap.size + 1) (.pointer p) (.int .i64 s) (.int .u32 f) (.int .i64 k) (.int .i64 m) (.bool kn) (.int .i64 i) HB3.out (by omega)
  clear c0 f0 c1 f1 c2 f2 c3 f3 c4 f4 c5 f5 c6 f6
  have d0 : World.cell? _ ⟨w.heap.size + 1, 0, none⟩ = _ := R8.cell 0
  have d1 : World.cell? _ ⟨w.heap.size + 1, 1, none⟩ = _ := R8.cell 1
  have d2 : World.cell? _ ⟨w.heap.size + 1, 2, none⟩ = _ := R8.cell 2
  have d3 : World.cell? _ ⟨w.heap.size + 1, 3, none⟩ = _ := R8.cell 3
  have d4 : World.cell? _ ⟨w.heap.size + 1, 4, none⟩ = _ := R8.cell 4
  have d5 : World.cell? _ ⟨w.heap.size + 1, 5, none⟩ = _ := R8.cell 5
  have d6 : World.cell? _ ⟨w.heap.size + 1, 6, none⟩ = _ := R8.cell 6
  exact bodyPost_ret (v := liV p s f k m kn i) (by simp [results, Tryz.results64, go_sem, d0, d1, d2, d3, d4, d5, d6]) rfl ⟨rfl, B8⟩
set_option maxRecDepth 100000 in
set_option maxHeartbeats 4000000 in
theorem greatLine_any (p : Option Addr) (s i : Int) (w : World) : Calls Tryz.prog 67 #[.pointer p, .int .i64 s, .int .i64 i] w fun e w' => e = .returned (liV p s (greR s).1 (greR s).2.1 (greR s).2.2.1 (greR s).2.2.2 i) ∧ Below w.heap.size w w' := by
  obtain ⟨W1, hW1⟩ : ∃ W1, W1 = w.alloc (.cells #[.pointer none, .int .i64 0, .int .u32 0, .int .i64 0, .int .i64 0, .bool false, .int .i64 0] 134) := ⟨_, rfl⟩
  have hb1 : Below w.heap.size w W1 := by rw [hW1]; exact below1 _ _
  have hrl : Row W1 w.heap.size 134 [.pointer none, .int .i64 0, .int .u32 0, .int .i64 0, .int .i64 0, .bool false, .int .i64 0] := by rw [hW1]; exact Row.new _ _ _
  have HRC := Lib.hid (greats_any s W1)
  obtain ⟨⟨f, k, m, kn⟩, hr⟩ : ∃ r, r = (greR s) := ⟨_, rfl⟩
  rw [← hr] at HRC ⊢
  simp only at HRC ⊢
  have HB1 := Lib.hid hb1
  have HRL := Lib.hid hrl
  have HW1 := Lib.hid hW1
  clear hr hb1 hrl hW1
  go_enter Tryz.func67, Tryz.ntmps67
  go_wp2_with fail
  rw [← HW1.out]
  refine HRC.out.mono ?_
  rintro e w2 ⟨rfl, hb2⟩
  have HB2 := Lib.hid (below0 HB1.out hb2)
  have r2 := (HRL.out.below hb2).below (below1 w2 (.cells #[.int .u32 f, .int .i64 k, .int .i64 m] 99))
  have HR2 := Lib.hid r2
  have HB3 := Lib.hid (HB2.out.alloc HB2.out.size (.cells #[.int .u32 f, .int .i64 k, .int .i64 m] 99))
  have hlt := r2.lt
  have c0 : World.cell? (w2.alloc (.cells #[.int .u32 f, .int .i64 k, .int .i64 m] 99)) ⟨w.heap.size, 0, none⟩ = _ := r2.cell 0
  have c1 : World.cell? (w2.alloc (.cells #[.int .u32 f, .int .i64 k, .int .i64 m] 99)) ⟨w.heap.size, 1, none⟩ = _ := r2.cell 1
  have c2 : World.cell? (w2.alloc (.cells #[.int .u32 f, .int .i64 k, .int .i64 m] 99)) ⟨w.heap.size, 2, none⟩ = _ := r2.cell 2
  have c3 : World.cell? (w2.alloc (.cells #[.int .u32 f, .int .i64 k, .int .i64 m] 99)) ⟨w.heap.size, 3, none⟩ = _ := r2.cell 3
  have c4 : World.cell? (w2.alloc (.cells #[.int .u32 f, .int .i64 k, .int .i64 m] 99)) ⟨w.heap.size, 4, none⟩ = _ := r2.cell 4
  have c5 : World.cell? (w2.alloc (.cells #[.int .u32 f, .int .i64 k, .int .i64 m] 99)) ⟨w.heap.size, 5, none⟩ = _ := r2.cell 5
  have c6 : World.cell? (w2.alloc (.cells #[.int .u32 f, .int .i64 k, .int .i64 m] 99)) ⟨w.heap.size, 6, none⟩ = _ := r2.cell 6
  have f0 := r2.frozen 0
  have f1 := r2.frozen 1
  have f2 := r2.frozen 2
  have f3 := r2.frozen 3
  have f4 := r2.frozen 4
  have f5 := r2.frozen 5
  have f6 := r2.frozen 6
  clear r2 hb2 HRC HB1 HRL HW1
  go_wp2
  have R8 := row_set7 (.pointer p) (.int .i64 s) (.int .u32 f) (.int .i64 k) (.int .i64 m) (.bool kn) (.int .i64 i) HR2.out
  have B8 := below_set7 (b := w.heap.size) (.pointer p) (.int .i64 s) (.int .u32 f) (.int .i64 k) (.int .i64 m) (.bool kn) (.int .i64 i) HB3.out (by omega)
  clear c0 f0 c1 f1 c2 f2 c3 f3 c4 f4 c5 f5 c6 f6
  have d0 : World.cell? _ ⟨w.heap.size, 0, none⟩ = _ := R8.cell 0
  have d1 : World.cell? _ ⟨w.heap.size, 1, none⟩ = _ := R8.cell 1
  have d2 : World.cell? _ ⟨w.heap.size, 2, none⟩ = _ := R8.cell 2
  have d3 : World.cell? _ ⟨w.heap.size, 3, none⟩ = _ := R8.cell 3
  have d4 : World.cell? _ ⟨w.heap.size, 4, none⟩ = _ := R8.cell 4
  have d5 : World.cell? _ ⟨w.heap.size, 5, none⟩ = _ := R8.cell 5
  have d6 : World.cell? _ ⟨w.heap.size, 6, none⟩ = _ := R8.cell 6
  exact bodyPost_ret (v := liV p s f k m kn i) (by simp [results, Tryz.results67, go_sem, d0, d1, d2, d3, d4, d5, d6]) rfl ⟨rfl, B8⟩
/-- why none may be read there, or written -/
def refE (B : Bks) (t : Int) (kn may : Bool) (i m : Int) : Int := if kn = true ∧ may = true then (if isB i m = true then openE B t else 4) else 2
theorem ref1_any (g b : Nat) (p : Option Addr) (t f k m i : Int) (kn may : Bool) (w : World) (h : Row w g 134 (liC p t f k m kn i)) (hb : w.cell? ⟨b, 0, none⟩ = some (.bool may)) : Calls Tryz.prog 157 #[.pointer (some ⟨g, 0, none⟩), .pointer (some ⟨b, 0, none⟩)] w fun e w' => e = .returned (.bool (kn && may)) ∧ Below w.heap.size w w' := by
  have c5 : w.cell? ⟨g, 5, none⟩ = _ := h.cell 5
  clear h
  cases kn
  all_goals
    go_enter Tryz.func157, Tryz.ntmps157
    go_wp2
    go_ret
    exact ⟨rfl, Below.refl _ _⟩
theorem ref2_any (g : Nat) (p : Option Addr) (t f k m i : Int) (kn : Bool) (w : World) (h : Row w g 134 (liC p t f k m kn i)) : Calls Tryz.prog 158 #[.pointer (some ⟨g, 0, none⟩)] w fun e w' => e = .returned (.bool (isB i m)) ∧ Below w.heap.size w w' := by
  have c2 : w.cell? ⟨g, 2, none⟩ = _ := h.cell 2
  have c3 : w.cell? ⟨g, 3, none⟩ = _ := h.cell 3
  have c4 : w.cell? ⟨g, 4, none⟩ = _ := h.cell 4
  have c6 : w.cell? ⟨g, 6, none⟩ = _ := h.cell 6
  have h1 := Lib.hid (has_any f k m i w)
  obtain ⟨q, hq⟩ : ∃ q, q = isB i m := ⟨_, rfl⟩
  rw [← hq] at h1 ⊢
  clear h hq
  go_enter Tryz.func158, Tryz.ntmps158
  go_wp2_with fail
  refine h1.out.mono ?_
  rintro e w1 ⟨rfl, hb1⟩
  go_wp2
  go_ret
  exact ⟨rfl, hb1⟩
def reL (v : Value) (t : Int) (g b : Nat) (a1 a2 a3 a4 : Bool) : List Ask := [⟨51, #[boV v t], #[], 1, a1⟩, ⟨157, #[], #[.pointer (some ⟨g, 0, none⟩), .pointer (some ⟨b, 0, none⟩)], 2, a2⟩, ⟨158, #[], #[.pointer (some ⟨g, 0, none⟩)], 4, a3⟩, ⟨79, #[boV v t], #[], 5, a4⟩]
theorem reL_E (v : Value) (B : Bks) (t : Int) (g b : Nat) (kn may : Bool) (i m : Int) : askE (reL v t g b true (kn && may) (isB i m) (B t.toNat).isSome) = refE B t kn may i m := by
  unfold refE openE
  cases kn <;> cases may <;> cases isB i m <;> cases B t.toNat <;> rfl
theorem reL_asks {w : World} {v : Value} {B : Bks} {n : Nat} {F : Nat → Prop} (h : HasV w v (bookV B) n F) {p : Option Addr} {t f k m i : Int} {kn may : Bool} {g b : Nat} (hr : Row w g 134 (liC p t f k m kn i)) (hb : w.cell? ⟨b, 0, none⟩ = some (.bool may)) (hk : kn = true → isB t 4 = true) : Asks w (reL v t g b true (kn && may) (isB i m) (B t.toNat).isSome) := by
  intro q hq hall
  rcases q with _ | _ | _ | _ | q
  · exact ⟨enters_of Tryz.func51 (by kernel_rfl) rfl, fun V hV => there_has (h.below hV) t⟩
  · exact ⟨enters_of Tryz.func157 (by kernel_rfl) rfl, fun V hV => ref1_any g b p t f k m i kn may V (hr.below hV) ((hV.cell (p := ⟨b, 0, none⟩) (lt_of_cell hb)).trans hb)⟩
  · exact ⟨enters_of Tryz.func158 (by kernel_rfl) rfl, fun V hV => ref2_any g p t f k m i kn V (hr.below hV)⟩
  · have t2 : (kn && may) = true := hall 1 (by simp [reL]) (by omega)
    rw [Bool.and_eq_true] at t2
    obtain ⟨j, rfl, hj⟩ := isB_nat (b := 4) (hk t2.1)
    exact ⟨enters_of Tryz.func79 (by kernel_rfl) rfl, fun V hV => open_has (h.below hV) j _ hj (book_some B hj)⟩
  · simp [reL] at hq
    omega
set_option maxHeartbeats 4000000 in
theorem refusal_has {w : World} {B : Bks} {n : Nat} {F : Nat → Prop} (p : Option Addr) (h : HasV w (.pointer p) (bookV B) n F) (t f k m i : Int) (kn may : Bool) (hk : kn = true → isB t 4 = true) : Calls Tryz.prog 76 #[liV p t f k m kn i, .bool may] w fun e w' => e = .returned (.int .i64 (refE B t kn may i m)) ∧ Below w.heap.size w w' := by
  obtain ⟨W1, hW1⟩ : ∃ W1, W1 = (w.alloc (.cells #[.pointer p, .int .i64 t, .int .u32 f, .int .i64 k, .int .i64 m, .bool kn, .int .i64 i] 134)).alloc (.cells #[.bool may] 4) := ⟨_, rfl⟩
  have hr1 : Row W1 w.heap.size 134 (liC p t f k m kn i) := by rw [hW1]; exact (Row.new w _ _).below (below1 _ _)
  have hrb : Row W1 (w.heap.size + 1) 4 [.bool may] := by rw [hW1]; exact Row.new_at _ _ _ (by simp)
  have hb1 : Below w.heap.size w W1 := by rw [hW1]; exact ((Below.refl _ _).alloc (Nat.le_refl _) _).alloc (by simp) _
  have hs1 : W1.heap.size = w.heap.size + 1 + 1 := by rw [hW1]; simp
  have HA := Lib.hid (asked_at (reL (.pointer p) t w.heap.size (w.heap.size + 1) true (kn && may) (isB i m) (B t.toNat).isSome) 4 (w.heap.size + 1 + 1) W1 rfl (by omega) hs1 (reL_asks (HasV.below h hb1) hr1 (hrb.cell 0) hk))
  rw [reL_E (.pointer p) B t w.heap.size (w.heap.size + 1) kn may i m] at HA
  simp only [reL, askCells, Ask.val, List.flatMap_cons, List.flatMap_nil, List.append_nil, List.cons_append, List.nil_append] at HA
  obtain ⟨E, hE⟩ : ∃ E, E = refE B t kn may i m := ⟨_, rfl⟩
  rw [← hE] at HA ⊢
  clear hE h hk
  have HB1 := Lib.hid hb1
  have HW1 := Lib.hid hW1
  have c0 : W1.cell? ⟨w.heap.size, 0, none⟩ = _ := hr1.cell 0
  have c1 : W1.cell? ⟨w.heap.size, 1, none⟩ = _ := hr1.cell 1
  clear hW1 hr1 hrb hb1 hs1
  go_enter Tryz.func76, Tryz.ntmps76
  go_wp2_with fail
  rw [← HW1.out]
  refine HA.out.mono ?_
  rintro e w2 ⟨rfl, hb2⟩
  have HF := Lib.hid (below0 HB1.out hb2)
  clear hb2 HA HB1 HW1 c0 c1
  go_wp2
  go_ret
  exact ⟨rfl, HF.out⟩
set_option maxHeartbeats 4000000 in
theorem refusal_nil (t f k m i : Int) (kn may : Bool) (w : World) : Calls Tryz.prog 76 #[liV none t f k m kn i, .bool may] w fun e w' => e = .returned (.int .i64 1) ∧ Below w.heap.size w w' := by
  obtain ⟨p, hp⟩ : ∃ p : Option Addr, p = none := ⟨_, rfl⟩
  rw [show liV none t f k m kn i = liV p t f k m kn i by rw [hp]]
  obtain ⟨W1, hW1⟩ : ∃ W1, W1 = (w.alloc (.cells #[.pointer p, .int .i64 t, .int .u32 f, .int .i64 k, .int .i64 m, .bool kn, .int .i64 i] 134)).alloc (.cells #[.bool may] 4) := ⟨_, rfl⟩
  have hr1 : Row W1 w.heap.size 134 (liC p t f k m kn i) := by rw [hW1]; exact (Row.new w _ _).below (below1 _ _)
  have hrb : Row W1 (w.heap.size + 1) 4 [.bool may] := by rw [hW1]; exact Row.new_at _ _ _ (by simp)
  have hb1 : Below w.heap.size w W1 := by rw [hW1]; exact ((Below.refl _ _).alloc (Nat.le_refl _) _).alloc (by simp) _
  have hs1 : W1.heap.size = w.heap.size + 1 + 1 := by rw [hW1]; simp
  have HA := Lib.hid (asked_at (⟨51, #[boV (.pointer p) t], #[], 1, false⟩ :: (reL (.pointer p) t w.heap.size (w.heap.size + 1) true true true true).tail) 4 (w.heap.size + 1 + 1) W1 rfl (by omega) hs1 (by rw [hp]; exact nil_asks _ _ _))
  rw [show askE (⟨51, #[boV (.pointer p) t], #[], 1, false⟩ :: (reL (.pointer p) t w.heap.size (w.heap.size + 1) true true true true).tail) = 1 from rfl] at HA
  simp only [reL, List.tail_cons, askCells, Ask.val, List.flatMap_cons, List.flatMap_nil, List.append_nil, List.cons_append, List.nil_append] at HA
  clear hp
  have HB1 := Lib.hid hb1
  have HW1 := Lib.hid hW1
  have c0 : W1.cell? ⟨w.heap.size, 0, none⟩ = _ := hr1.cell 0
  have c1 : W1.cell? ⟨w.heap.size, 1, none⟩ = _ := hr1.cell 1
  clear hW1 hr1 hrb hb1 hs1
  go_enter Tryz.func76, Tryz.ntmps76
  go_wp2_with fail
  rw [← HW1.out]
  refine HA.out.mono ?_
  rintro e w2 ⟨rfl, hb2⟩
  have HF := Lib.hid (below0 HB1.out hb2)
  clear hb2 HA HB1 HW1 c0 c1
  go_wp2
  go_ret
  exact ⟨rfl, HF.out⟩
end Go.Proofs.YtiahmccchpmdgaaGreatDoor.Me

namespace Go.Proofs.YtiahmccchpmdgaaGreatDoor.Wo
open Go.RowKit

set_option maxHeartbeats 1000000 in
theorem put_ok (n k : Nat) (w : World) (ht : Tab w) (hk : wid k = true) (hn : (n : Int) ≤ topOf k) : Calls Tryz.prog 221 #[.int .u64 n, .int .i64 k] w fun e w' => ∃ g cap, e = .returned (.tuple #[.slice (some ⟨g, 0, none⟩) k cap, .int .i64 0]) ∧ w'.ownsRow w.heap.size 5 1 (.slice (some ⟨g, 0, none⟩) k cap) k (byt (le k n)) ∧ Below w.heap.size w w' := by
  have hk8 : k ≤ 8 := by have := wid_cases hk; omega
  have Hk := Lib.hid hk
  clear hk
  have Hn := Lib.hid (show decide ((n : Int) ≤ topOf k) = true by simpa using hn)
  clear hn
  go_enter Tryz.func221, Tryz.ntmps221
  go_wp2_with fail
  refine wp_scope_jump 1 fun R hR hJ => ?_
  go_wp2_with fail
  refine (numberOf_any _ _ _).mono ?_
  rintro e w1 ⟨rfl, hb1⟩
  have ht1 := ht.below hb1
  go_wp2_with fail
  refine (wknown_any _ _ (ht1.alloc _)).mono ?_
  rintro e w2 ⟨rfl, rfl⟩
  rw [Hk.out]
  go_wp2_with fail
  refine (fits_any _ _ _ Hk.out).mono ?_
  rintro e w2 ⟨rfl, hb2⟩
  rw [Hn.out]
  have hc0 : w2.cell? ⟨w1.heap.size, 0, none⟩ = some (.int .i64 k) := (hb2.cell (by simp)).trans (cell_alloc_new _ _ _ _)
  have hc1 : w2.cell? ⟨w1.heap.size, 1, none⟩ = some (.int .u64 n) := (hb2.cell (by simp)).trans (cell_alloc_new _ _ _ _)
  go_wp2_with fail
  refine (bytes_any _ _ _ hk8).mono ?_
  rintro e w3 ⟨g, cap, rfl, ho, hb3⟩
  go_wp2
  refine hR.out _ _ _ _ (by simp) ?_
  go_ret2
  have hs := hb1.size
  have hs2 := hb2.size
  simp at hs2
  refine ⟨g, cap, rfl, own_mono ho (by omega), (hb1.alloc hb1.size _).trans ((hb2.mono (by simp; omega)).trans (hb3.mono (by omega)))⟩
end Go.Proofs.YtiahmccchpmdgaaGreatDoor.Wo

namespace Go.Proofs.YtiahmccchpmdgaaGreatDoor.Me
open Go.RowKit Go.Shelf

/- A RECORD's NUMBERS AND ITS BYTES, PLAINLY. -/
theorem le_one {n : Nat} : Wo.le 1 n = [UInt8.ofNat n] := by
  simp only [Wo.le]
  rw [show UInt8.ofNat (n % 256) = UInt8.ofNat n from UInt8.toNat_inj.1 (by simp)]
theorem ofNat_mod (n : Nat) : UInt8.ofNat (n % 256) = UInt8.ofNat n := UInt8.toNat_inj.1 (by simp)
theorem le_two {n : Nat} : Wo.le 2 n = by2 n := by
  simp only [Wo.le, by2, ofNat_mod]
theorem le_four {n : Nat} : Wo.le 4 n = by4 n := by
  simp only [Wo.le, by4, by2, ofNat_mod, Nat.div_div_eq_div_mul, List.cons_append, List.nil_append]
theorem val_one (a : UInt8) : Wo.leVal [a] = a.toNat := by simp [Wo.leVal]
theorem val_two (f : Byts) (o : Nat) : Wo.leVal [f o, f (o + 1)] = le2 f o := by simp [Wo.leVal, le2]
theorem val_four (f : Byts) (o : Nat) : Wo.leVal [f o, f (o + 1), f (o + 2), f (o + 3)] = le4 f o := by
  simp only [Wo.leVal, le4, le2, show o + 2 + 1 = o + 3 from rfl]
  omega
/-- so many bytes of a book from a place on -/
def cutL (f : Byts) (o k : Nat) : List UInt8 := (List.range k).map fun j => f (o + j)
theorem cutL_len (f : Byts) (o k : Nat) : (cutL f o k).length = k := by simp [cutL]
theorem cutL_cut (f : Byts) (o k a m : Nat) (h : a + m ≤ k) : ((cutL f o k).drop a).take m = cutL f (o + a) m := by
  refine List.ext_getElem (by simp [cutL]; omega) fun i h1 h2 => ?_
  simp [cutL, Nat.add_assoc]
theorem cut_one (f : Byts) (o : Nat) : cutL f o 1 = [f o] := rfl
theorem cut_two (f : Byts) (o : Nat) : cutL f o 2 = [f o, f (o + 1)] := rfl
theorem cut_four (f : Byts) (o : Nat) : cutL f o 4 = [f o, f (o + 1), f (o + 2), f (o + 3)] := rfl
theorem le2_lt (f : Byts) (o : Nat) : le2 f o ≤ 65535 := by
  have h1 := (f o).toNat_lt
  have h2 := (f (o + 1)).toNat_lt
  unfold le2
  omega
theorem le4_lt (f : Byts) (o : Nat) : le4 f o ≤ 4294967295 := by
  have h1 := le2_lt f o
  have h2 := le2_lt f (o + 2)
  unfold le4
  omega
theorem byte_zero {b : UInt8} : b.toNat ≤ 0 ↔ b = 0 := by
  constructor
  · intro h
    exact UInt8.toNat_inj.1 (by have : b.toNat = 0 := by omega
                                rw [this]; rfl)
  · rintro rfl
    exact Nat.le_refl _
end Go.Proofs.YtiahmccchpmdgaaGreatDoor.Me
