import Derived.Test.YtiahmccchpmdgaaGreatDoorFAR
import Derived.Test.YtiahmccchpmdgaaGreatDoorFAV
namespace Go.Proofs.YtiahmccchpmdgaaGreatDoor.Me
open Go.RowKit Go.Shelf
attribute [local go_sem] Oper.semAt_some

/- A RECORD LAID. -/
set_option maxRecDepth 100000 in
set_option maxHeartbeats 8000000 in
theorem laid_small_no (p : Option Addr) (t f k m i : Int) (kn : Bool) (st sz no : Int) (g c : Nat) (E : Int) (hE : E ≠ 0) (ok : Bool) (w : World) (HF : ∀ W, Below w.heap.size w W → Calls Tryz.prog 137 #[.agg #[.int .i64 st, .int .i64 sz, .int .u32 no], .slice (some ⟨g, 0, none⟩) 4 c] W fun e w' => e = .returned (.bool ok) ∧ Below W.heap.size W w') (HR : ∀ W, Below w.heap.size w W → Calls Tryz.prog 76 #[liV p t f k m kn i, .bool ok] W fun e w' => e = .returned (.int .i64 E) ∧ Below W.heap.size W w') :
    Calls Tryz.prog 68 #[liV p t f k m kn i, .agg #[.int .i64 st, .int .i64 sz, .int .u32 no], .slice (some ⟨g, 0, none⟩) 4 c] w fun e w' => e = .returned (.int .i64 E) ∧ Below w.heap.size w w' := by
  obtain ⟨W1, hW1⟩ : ∃ W1, W1 = (w.alloc (.cells #[.pointer p, .int .i64 t, .int .u32 f, .int .i64 k, .int .i64 m, .bool kn, .int .i64 i] 134)).alloc (.cells #[.int .i64 st, .int .i64 sz, .int .u32 no] 41) := ⟨_, rfl⟩
  have hb1 : Below w.heap.size w W1 := by rw [hW1]; exact ((Below.refl _ _).alloc (Nat.le_refl _) _).alloc (by simp) _
  have hrl : Row W1 w.heap.size 134 (liC p t f k m kn i) := by rw [hW1]; exact (Row.new w _ _).below (below1 _ _)
  have hrr : Row W1 (w.heap.size + 1) 41 [.int .i64 st, .int .i64 sz, .int .u32 no] := by rw [hW1]; exact Row.new_at _ _ _ (by simp)
  have HSP := Lib.hid (fun W (hw : Below W1.heap.size W1 W) => (show W.cell? ⟨w.heap.size, 0, none⟩ = some (.pointer p) ∧ W.cell? ⟨w.heap.size, 1, none⟩ = some (.int .i64 t) ∧ W.cell? ⟨w.heap.size, 2, none⟩ = some (.int .u32 f) ∧ W.cell? ⟨w.heap.size, 3, none⟩ = some (.int .i64 k) ∧ W.cell? ⟨w.heap.size, 4, none⟩ = some (.int .i64 m) ∧ W.cell? ⟨w.heap.size, 5, none⟩ = some (.bool kn) ∧ W.cell? ⟨w.heap.size, 6, none⟩ = some (.int .i64 i) ∧ W.cell? ⟨w.heap.size + 1, 0, none⟩ = some (.int .i64 st) ∧ W.cell? ⟨w.heap.size + 1, 1, none⟩ = some (.int .i64 sz) ∧ W.cell? ⟨w.heap.size + 1, 2, none⟩ = some (.int .u32 no) from ⟨(hrl.below hw).cell 0, (hrl.below hw).cell 1, (hrl.below hw).cell 2, (hrl.below hw).cell 3, (hrl.below hw).cell 4, (hrl.below hw).cell 5, (hrl.below hw).cell 6, (hrr.below hw).cell 0, (hrr.below hw).cell 1, (hrr.below hw).cell 2⟩))
  have HB1 := Lib.hid hb1
  have HW1 := Lib.hid hW1
  have HFF := Lib.hid HF
  have HRR := Lib.hid HR
  have e0 : (E == 0) = false := by rw [beq_eq_false_iff_ne]; exact hE
  clear HF HR hb1 hrl hrr hW1
  have hd1 : Below W1.heap.size W1 W1.drew := (Below.refl _ _).drew
  go_enter Tryz.func68, Tryz.ntmps68
  go_wp2_with fail
  refine wp_scope_jump 1 fun R hR hJm => ?_
  go_wp2_with fail
  rw [← HW1.out]
  refine wp_region_noPanic ?_
  refine wp_region_held_drew (S := fun W => W.cell? ⟨w.heap.size, 0, none⟩ = some (.pointer p) ∧ W.cell? ⟨w.heap.size, 1, none⟩ = some (.int .i64 t) ∧ W.cell? ⟨w.heap.size, 2, none⟩ = some (.int .u32 f) ∧ W.cell? ⟨w.heap.size, 3, none⟩ = some (.int .i64 k) ∧ W.cell? ⟨w.heap.size, 4, none⟩ = some (.int .i64 m) ∧ W.cell? ⟨w.heap.size, 5, none⟩ = some (.bool kn) ∧ W.cell? ⟨w.heap.size, 6, none⟩ = some (.int .i64 i) ∧ W.cell? ⟨w.heap.size + 1, 0, none⟩ = some (.int .i64 st) ∧ W.cell? ⟨w.heap.size + 1, 1, none⟩ = some (.int .i64 sz) ∧ W.cell? ⟨w.heap.size + 1, 2, none⟩ = some (.int .u32 no)) (by kernel_rfl) (HSP.out _ hd1) (fun hHeld => ?_)
  refine wpAnyH_take (i := 0) (v := ?_) rfl (by kernel_rfl) (by kernel_rfl) (by kernel_rfl) (fun _ _ _ h => h) (Or.inl ⟨by kernel_rfl, ?_⟩) hHeld ?_
  rotate_left
  focus (intro w hSw; (try dsimp only at hSw); go_simp; try with_reducible rfl)
  simp only [Act.put]
  refine wpAnyH_take (i := 1) (v := ?_) rfl (by kernel_rfl) (by kernel_rfl) (by kernel_rfl) (fun _ _ _ h => h) (Or.inl ⟨by kernel_rfl, ?_⟩) hHeld ?_
  rotate_left
  focus (intro w hSw; (try dsimp only at hSw); go_simp; try with_reducible rfl)
  simp only [Act.put]
  refine wpAnyH_take (i := 2) (v := ?_) rfl (by kernel_rfl) (by kernel_rfl) (by kernel_rfl) (fun _ _ _ h => h) (Or.inl ⟨by kernel_rfl, ?_⟩) hHeld ?_
  rotate_left
  focus (intro w hSw; (try dsimp only at hSw); go_simp; try with_reducible rfl)
  simp only [Act.put]
  refine wpAnyH_ready (rs := [3]) (by kernel_rfl) (by simp) ?_
  refine AllReadyH.cons rfl (fun K hK => ?_) (AllReadyH.nil)
  go_simp
  refine (HFF.out _ (below0 HB1.out hd1)).mono ?_
  rintro e w2 ⟨rfl, hb2⟩
  have hd2 := below0 hd1 hb2
  refine hK.out _ _ (HSP.out _ hd2) (fun hHeld => ?_)
  clear hK K
  try simp only [Act.put]
  refine wpAnyH_ready (rs := [4]) (by kernel_rfl) (by simp) ?_
  refine AllReadyH.cons rfl (fun K hK => ?_) (AllReadyH.nil)
  go_simp
  refine (HRR.out _ (below0 HB1.out hd2)).mono ?_
  rintro e w3 ⟨rfl, hb3⟩
  have hd3 := below0 hd2 hb3
  refine hK.out _ _ (HSP.out _ hd3) (fun hHeld => ?_)
  clear hK K
  try simp only [Act.put]
  refine wpAnyH_ready (rs := [5]) (by kernel_rfl) (by simp) ?_
  refine AllReadyH.cons rfl (fun K hK => ?_) (AllReadyH.nil)
  go_simp
  refine hK.out _ _ (HSP.out _ hd3) (fun hHeld => ?_)
  clear hK K
  try simp only [Act.put]
  refine wpAnyH_done (by kernel_rfl) ?_ _
  refine NoPanic.normal ?_
  have HB9 := Lib.hid (below0 HB1.out hd3)
  clear hd1 hd2 hd3 hb2 hb3 HFF HRR HSP HB1 HW1 hHeld
  go_wp2_with fail
  refine wp_goto (hJm.out _ _ _ _ _ rfl ?_)
  go_wp2
  refine hR.out _ _ _ _ (by simp) ?_
  go_ret
  exact ⟨rfl, HB9.out⟩
set_option maxRecDepth 100000 in
set_option maxHeartbeats 8000000 in
theorem laid_small_yes (p : Option Addr) (t f k m i : Int) (kn : Bool) (st sz no : Int) (g c : Nat) (a : Int) (bs : List UInt8) (ok : Bool) (F : Nat → Prop) (Q : World → Prop) (w : World) (hFl : ∀ b, F b → b < w.heap.size) (HF : ∀ W, Below w.heap.size w W → Calls Tryz.prog 137 #[.agg #[.int .i64 st, .int .i64 sz, .int .u32 no], .slice (some ⟨g, 0, none⟩) 4 c] W fun e w' => e = .returned (.bool ok) ∧ Below W.heap.size W w') (HR : ∀ W, Below w.heap.size w W → Calls Tryz.prog 76 #[liV p t f k m kn i, .bool ok] W fun e w' => e = .returned (.int .i64 0) ∧ Below W.heap.size W w')
    (HAT : ∀ W, Calls Tryz.prog 43 #[roV f k m, .int .i64 i] W fun e w' => e = .returned (.int .u32 a) ∧ Below W.heap.size W w')
    (HPA : ∀ W, Below w.heap.size w W → Calls Tryz.prog 138 #[.agg #[.int .i64 st, .int .i64 sz, .int .u32 no], .slice (some ⟨g, 0, none⟩) 4 c] W fun e w' => ∃ A cp, e = .returned (.slice A 8 cp) ∧ w'.ownsRow W.heap.size 5 1 (.slice A 8 cp) 8 (byt bs) ∧ Below W.heap.size W w')
    (HPO : ∀ W A cp, Below w.heap.size w W → 8 ≤ cp → Sees W W.heap.size A (byt bs) → (∀ ad, A = some ad → w.heap.size ≤ ad.block) → Calls Tryz.prog 20 #[.pointer p, .int .u32 a, .slice A 8 cp] W fun e w' => e = .returned (.int .i64 0) ∧ Keep F W w' ∧ Q w') :
    Calls Tryz.prog 68 #[liV p t f k m kn i, .agg #[.int .i64 st, .int .i64 sz, .int .u32 no], .slice (some ⟨g, 0, none⟩) 4 c] w fun e w' => e = .returned (.int .i64 0) ∧ Keep F w w' ∧ Q w' := by
  obtain ⟨W1, hW1⟩ : ∃ W1, W1 = (w.alloc (.cells #[.pointer p, .int .i64 t, .int .u32 f, .int .i64 k, .int .i64 m, .bool kn, .int .i64 i] 134)).alloc (.cells #[.int .i64 st, .int .i64 sz, .int .u32 no] 41) := ⟨_, rfl⟩
  have hb1 : Below w.heap.size w W1 := by rw [hW1]; exact ((Below.refl _ _).alloc (Nat.le_refl _) _).alloc (by simp) _
  have hrl : Row W1 w.heap.size 134 (liC p t f k m kn i) := by rw [hW1]; exact (Row.new w _ _).below (below1 _ _)
  have hrr : Row W1 (w.heap.size + 1) 41 [.int .i64 st, .int .i64 sz, .int .u32 no] := by rw [hW1]; exact Row.new_at _ _ _ (by simp)
  have HSP := Lib.hid (fun W (hw : Below W1.heap.size W1 W) => (show W.cell? ⟨w.heap.size, 0, none⟩ = some (.pointer p) ∧ W.cell? ⟨w.heap.size, 1, none⟩ = some (.int .i64 t) ∧ W.cell? ⟨w.heap.size, 2, none⟩ = some (.int .u32 f) ∧ W.cell? ⟨w.heap.size, 3, none⟩ = some (.int .i64 k) ∧ W.cell? ⟨w.heap.size, 4, none⟩ = some (.int .i64 m) ∧ W.cell? ⟨w.heap.size, 5, none⟩ = some (.bool kn) ∧ W.cell? ⟨w.heap.size, 6, none⟩ = some (.int .i64 i) ∧ W.cell? ⟨w.heap.size + 1, 0, none⟩ = some (.int .i64 st) ∧ W.cell? ⟨w.heap.size + 1, 1, none⟩ = some (.int .i64 sz) ∧ W.cell? ⟨w.heap.size + 1, 2, none⟩ = some (.int .u32 no) from ⟨(hrl.below hw).cell 0, (hrl.below hw).cell 1, (hrl.below hw).cell 2, (hrl.below hw).cell 3, (hrl.below hw).cell 4, (hrl.below hw).cell 5, (hrl.below hw).cell 6, (hrr.below hw).cell 0, (hrr.below hw).cell 1, (hrr.below hw).cell 2⟩))
  have HSK := Lib.hid (fun W W' (hw : Below W1.heap.size W1 W) (hk : Keep F W W') => (show W'.cell? ⟨w.heap.size, 0, none⟩ = some (.pointer p) ∧ W'.cell? ⟨w.heap.size, 1, none⟩ = some (.int .i64 t) ∧ W'.cell? ⟨w.heap.size, 2, none⟩ = some (.int .u32 f) ∧ W'.cell? ⟨w.heap.size, 3, none⟩ = some (.int .i64 k) ∧ W'.cell? ⟨w.heap.size, 4, none⟩ = some (.int .i64 m) ∧ W'.cell? ⟨w.heap.size, 5, none⟩ = some (.bool kn) ∧ W'.cell? ⟨w.heap.size, 6, none⟩ = some (.int .i64 i) ∧ W'.cell? ⟨w.heap.size + 1, 0, none⟩ = some (.int .i64 st) ∧ W'.cell? ⟨w.heap.size + 1, 1, none⟩ = some (.int .i64 sz) ∧ W'.cell? ⟨w.heap.size + 1, 2, none⟩ = some (.int .u32 no) from ⟨(hk.row (hrl.below hw) (fun hf => by have := hFl _ hf; omega)).cell 0, (hk.row (hrl.below hw) (fun hf => by have := hFl _ hf; omega)).cell 1, (hk.row (hrl.below hw) (fun hf => by have := hFl _ hf; omega)).cell 2, (hk.row (hrl.below hw) (fun hf => by have := hFl _ hf; omega)).cell 3, (hk.row (hrl.below hw) (fun hf => by have := hFl _ hf; omega)).cell 4, (hk.row (hrl.below hw) (fun hf => by have := hFl _ hf; omega)).cell 5, (hk.row (hrl.below hw) (fun hf => by have := hFl _ hf; omega)).cell 6, (hk.row (hrr.below hw) (fun hf => by have := hFl _ hf; omega)).cell 0, (hk.row (hrr.below hw) (fun hf => by have := hFl _ hf; omega)).cell 1, (hk.row (hrr.below hw) (fun hf => by have := hFl _ hf; omega)).cell 2⟩))
  have HB1 := Lib.hid hb1
  have HW1 := Lib.hid hW1
  have HFF := Lib.hid HF
  have HRR := Lib.hid HR
  have HATT := Lib.hid HAT
  have HPAA := Lib.hid HPA
  have HPOO := Lib.hid HPO
  clear HF HR HAT HPA HPO hb1 hrl hrr hW1
  have hd1 : Below W1.heap.size W1 W1.drew := (Below.refl _ _).drew
  go_enter Tryz.func68, Tryz.ntmps68
  go_wp2_with fail
  refine wp_scope_jump 1 fun R hR hJm => ?_
  go_wp2_with fail
  rw [← HW1.out]
  refine wp_region_noPanic ?_
  refine wp_region_held_drew (S := fun W => W.cell? ⟨w.heap.size, 0, none⟩ = some (.pointer p) ∧ W.cell? ⟨w.heap.size, 1, none⟩ = some (.int .i64 t) ∧ W.cell? ⟨w.heap.size, 2, none⟩ = some (.int .u32 f) ∧ W.cell? ⟨w.heap.size, 3, none⟩ = some (.int .i64 k) ∧ W.cell? ⟨w.heap.size, 4, none⟩ = some (.int .i64 m) ∧ W.cell? ⟨w.heap.size, 5, none⟩ = some (.bool kn) ∧ W.cell? ⟨w.heap.size, 6, none⟩ = some (.int .i64 i) ∧ W.cell? ⟨w.heap.size + 1, 0, none⟩ = some (.int .i64 st) ∧ W.cell? ⟨w.heap.size + 1, 1, none⟩ = some (.int .i64 sz) ∧ W.cell? ⟨w.heap.size + 1, 2, none⟩ = some (.int .u32 no)) (by kernel_rfl) (HSP.out _ hd1) (fun hHeld => ?_)
  refine wpAnyH_take (i := 0) (v := ?_) rfl (by kernel_rfl) (by kernel_rfl) (by kernel_rfl) (fun _ _ _ h => h) (Or.inl ⟨by kernel_rfl, ?_⟩) hHeld ?_
  rotate_left
  focus (intro w hSw; (try dsimp only at hSw); go_simp; try with_reducible rfl)
  simp only [Act.put]
  refine wpAnyH_take (i := 1) (v := ?_) rfl (by kernel_rfl) (by kernel_rfl) (by kernel_rfl) (fun _ _ _ h => h) (Or.inl ⟨by kernel_rfl, ?_⟩) hHeld ?_
  rotate_left
  focus (intro w hSw; (try dsimp only at hSw); go_simp; try with_reducible rfl)
  simp only [Act.put]
  refine wpAnyH_take (i := 2) (v := ?_) rfl (by kernel_rfl) (by kernel_rfl) (by kernel_rfl) (fun _ _ _ h => h) (Or.inl ⟨by kernel_rfl, ?_⟩) hHeld ?_
  rotate_left
  focus (intro w hSw; (try dsimp only at hSw); go_simp; try with_reducible rfl)
  simp only [Act.put]
  refine wpAnyH_ready (rs := [3]) (by kernel_rfl) (by simp) ?_
  refine AllReadyH.cons rfl (fun K hK => ?_) (AllReadyH.nil)
  go_simp
  refine (HFF.out _ (below0 HB1.out hd1)).mono ?_
  rintro e w2 ⟨rfl, hb2⟩
  have hd2 := below0 hd1 hb2
  refine hK.out _ _ (HSP.out _ hd2) (fun hHeld => ?_)
  clear hK K
  try simp only [Act.put]
  refine wpAnyH_ready (rs := [4]) (by kernel_rfl) (by simp) ?_
  refine AllReadyH.cons rfl (fun K hK => ?_) (AllReadyH.nil)
  go_simp
  refine (HRR.out _ (below0 HB1.out hd2)).mono ?_
  rintro e w3 ⟨rfl, hb3⟩
  have hd3 := below0 hd2 hb3
  refine hK.out _ _ (HSP.out _ hd3) (fun hHeld => ?_)
  clear hK K
  try simp only [Act.put]
  refine wpAnyH_ready (rs := [5]) (by kernel_rfl) (by simp) ?_
  refine AllReadyH.cons rfl (fun K hK => ?_) (AllReadyH.nil)
  go_simp
  refine hK.out _ _ (HSP.out _ hd3) (fun hHeld => ?_)
  clear hK K
  try simp only [Act.put]
  refine wpAnyH_done (by kernel_rfl) ?_ _
  refine NoPanic.normal ?_
  have HD3 := Lib.hid hd3
  have hd4 : Below W1.heap.size W1 w3.drew := hd3.drew
  clear hd1 hd2 hd3 hb2 hb3 HFF HRR HW1 hHeld
  go_wp2_with fail
  refine wp_region_noPanic ?_
  refine wp_region_held_drew (S := fun W => W.cell? ⟨w.heap.size, 0, none⟩ = some (.pointer p) ∧ W.cell? ⟨w.heap.size, 1, none⟩ = some (.int .i64 t) ∧ W.cell? ⟨w.heap.size, 2, none⟩ = some (.int .u32 f) ∧ W.cell? ⟨w.heap.size, 3, none⟩ = some (.int .i64 k) ∧ W.cell? ⟨w.heap.size, 4, none⟩ = some (.int .i64 m) ∧ W.cell? ⟨w.heap.size, 5, none⟩ = some (.bool kn) ∧ W.cell? ⟨w.heap.size, 6, none⟩ = some (.int .i64 i) ∧ W.cell? ⟨w.heap.size + 1, 0, none⟩ = some (.int .i64 st) ∧ W.cell? ⟨w.heap.size + 1, 1, none⟩ = some (.int .i64 sz) ∧ W.cell? ⟨w.heap.size + 1, 2, none⟩ = some (.int .u32 no)) (by kernel_rfl) (HSP.out _ hd4) (fun hHeld => ?_)
  refine wpAnyH_take (i := 0) (v := ?_) rfl (by kernel_rfl) (by kernel_rfl) (by kernel_rfl) (fun _ _ _ h => h) (Or.inl ⟨by kernel_rfl, ?_⟩) hHeld ?_
  rotate_left
  focus (intro w hSw; (try dsimp only at hSw); go_simp; try with_reducible rfl)
  simp only [Act.put]
  refine wpAnyH_take (i := 1) (v := ?_) rfl (by kernel_rfl) (by kernel_rfl) (by kernel_rfl) (fun _ _ _ h => h) (Or.inl ⟨by kernel_rfl, ?_⟩) hHeld ?_
  rotate_left
  focus (intro w hSw; (try dsimp only at hSw); go_simp; try with_reducible rfl)
  simp only [Act.put]
  refine wpAnyH_take (i := 2) (v := ?_) rfl (by kernel_rfl) (by kernel_rfl) (by kernel_rfl) (fun _ _ _ h => h) (Or.inl ⟨by kernel_rfl, ?_⟩) hHeld ?_
  rotate_left
  focus (intro w hSw; (try dsimp only at hSw); go_simp; try with_reducible rfl)
  simp only [Act.put]
  refine wpAnyH_take (i := 3) (v := ?_) rfl (by kernel_rfl) (by kernel_rfl) (by kernel_rfl) (fun _ _ _ h => h) (Or.inl ⟨by kernel_rfl, ?_⟩) hHeld ?_
  rotate_left
  focus (intro w hSw; (try dsimp only at hSw); go_simp; try with_reducible rfl)
  simp only [Act.put]
  refine wpAnyH_take (i := 4) (v := ?_) rfl (by kernel_rfl) (by kernel_rfl) (by kernel_rfl) (fun _ _ _ h => h) (Or.inl ⟨by kernel_rfl, ?_⟩) hHeld ?_
  rotate_left
  focus (intro w hSw; (try dsimp only at hSw); go_simp; try with_reducible rfl)
  simp only [Act.put]
  refine wpAnyH_take (i := 5) (v := ?_) rfl (by kernel_rfl) (by kernel_rfl) (by kernel_rfl) (fun _ _ _ h => h) (Or.inl ⟨by kernel_rfl, ?_⟩) hHeld ?_
  rotate_left
  focus (intro w hSw; (try dsimp only at hSw); go_simp; try with_reducible rfl)
  simp only [Act.put]
  refine wpAnyH_take (i := 6) (v := ?_) rfl (by kernel_rfl) (by kernel_rfl) (by kernel_rfl) (fun _ _ _ h => h) (Or.inl ⟨by kernel_rfl, ?_⟩) hHeld ?_
  rotate_left
  focus (intro w hSw; (try dsimp only at hSw); go_simp; try with_reducible rfl)
  simp only [Act.put]
  refine wpAnyH_take (i := 8) (v := ?_) rfl (by kernel_rfl) (by kernel_rfl) (by kernel_rfl) (fun _ _ _ h => h) (Or.inl ⟨by kernel_rfl, ?_⟩) hHeld ?_
  rotate_left
  focus (intro w hSw; (try dsimp only at hSw); go_simp; try with_reducible rfl)
  simp only [Act.put]
  refine wpAnyH_take (i := 9) (v := ?_) rfl (by kernel_rfl) (by kernel_rfl) (by kernel_rfl) (fun _ _ _ h => h) (Or.inl ⟨by kernel_rfl, ?_⟩) hHeld ?_
  rotate_left
  focus (intro w hSw; (try dsimp only at hSw); go_simp; try with_reducible rfl)
  simp only [Act.put]
  refine wpAnyH_ready (rs := [7]) (by kernel_rfl) (by simp) ?_
  refine AllReadyH.cons rfl (fun K hK => ?_) (AllReadyH.nil)
  go_simp
  refine (HATT.out _).mono ?_
  rintro e w4 ⟨rfl, hb4⟩
  have hd5 := below0 hd4 hb4
  refine hK.out _ _ (HSP.out _ hd5) (fun hHeld => ?_)
  clear hK K
  try simp only [Act.put]
  refine wpAnyH_ready (rs := [10]) (by kernel_rfl) (by simp) ?_
  refine AllReadyH.cons rfl (fun K hK => ?_) (AllReadyH.nil)
  go_simp
  refine (HPAA.out _ (below0 HB1.out hd5)).mono ?_
  rintro e w5 ⟨A, cp, rfl, hown, hb5⟩
  have hd6 := below0 hd5 hb5
  refine hK.out _ _ (HSP.out _ hd6) (fun hHeld => ?_)
  clear hK K
  try simp only [Act.put]
  refine wpAnyH_ready (rs := [11]) (by kernel_rfl) (by simp) ?_
  refine AllReadyH.cons rfl (fun K hK => ?_) (AllReadyH.nil)
  go_simp
  have hcp := (own_cap hown).1
  refine (HPOO.out _ A cp (below0 HB1.out hd6) (by omega) (Vm.sees_own hown) (fun ad hA => ?_)).mono ?_
  · subst hA
    obtain ⟨gb, cb, hAA, hgb, _⟩ := hown.form (by omega)
    injection hAA with hA1 hA2 hA3
    injection hA1 with hA1
    subst hA1
    have := (below0 HB1.out hd5).size
    exact Nat.le_trans this hgb
  rintro e w6 ⟨rfl, hk6, hq6⟩
  refine hK.out _ _ (HSK.out _ _ hd6 hk6) (fun hHeld => ?_)
  clear hK K
  try simp only [Act.put]
  refine wpAnyH_ready (rs := [12]) (by kernel_rfl) (by simp) ?_
  refine AllReadyH.cons rfl (fun K hK => ?_) (AllReadyH.nil)
  go_simp
  refine hK.out _ _ (HSK.out _ _ hd6 hk6) (fun hHeld => ?_)
  clear hK K
  try simp only [Act.put]
  refine wpAnyH_done (by kernel_rfl) ?_ _
  refine NoPanic.normal ?_
  have HF9 := Lib.hid (And.intro ((Keep.of_below (below0 HB1.out hd6)).trans hk6 (fun b _ h => h)) hq6)
  clear hd4 hd5 hd6 hb4 hb5 hown hcp hk6 hq6 HATT HPAA HPOO HSP HSK HB1 HD3 hHeld
  go_wp2
  refine hR.out _ _ _ _ (by simp) ?_
  go_ret
  exact ⟨rfl, HF9.out⟩
set_option maxRecDepth 100000 in
set_option maxHeartbeats 8000000 in
theorem laid_great_no (p : Option Addr) (t f k m i : Int) (kn : Bool) (st pg sz fi : Int) (g c : Nat) (E : Int) (hE : E ≠ 0) (ok : Bool) (w : World) (HF : ∀ W, Below w.heap.size w W → Calls Tryz.prog 139 #[.agg #[.int .i64 st, .int .i64 pg, .int .i64 sz, .int .i64 fi], .slice (some ⟨g, 0, none⟩) 6 c] W fun e w' => e = .returned (.bool ok) ∧ Below W.heap.size W w') (HR : ∀ W, Below w.heap.size w W → Calls Tryz.prog 76 #[liV p t f k m kn i, .bool ok] W fun e w' => e = .returned (.int .i64 E) ∧ Below W.heap.size W w') :
    Calls Tryz.prog 69 #[liV p t f k m kn i, .agg #[.int .i64 st, .int .i64 pg, .int .i64 sz, .int .i64 fi], .slice (some ⟨g, 0, none⟩) 6 c] w fun e w' => e = .returned (.int .i64 E) ∧ Below w.heap.size w w' := by
  obtain ⟨W1, hW1⟩ : ∃ W1, W1 = (w.alloc (.cells #[.pointer p, .int .i64 t, .int .u32 f, .int .i64 k, .int .i64 m, .bool kn, .int .i64 i] 134)).alloc (.cells #[.int .i64 st, .int .i64 pg, .int .i64 sz, .int .i64 fi] 43) := ⟨_, rfl⟩
  have hb1 : Below w.heap.size w W1 := by rw [hW1]; exact ((Below.refl _ _).alloc (Nat.le_refl _) _).alloc (by simp) _
  have hrl : Row W1 w.heap.size 134 (liC p t f k m kn i) := by rw [hW1]; exact (Row.new w _ _).below (below1 _ _)
  have hrr : Row W1 (w.heap.size + 1) 43 [.int .i64 st, .int .i64 pg, .int .i64 sz, .int .i64 fi] := by rw [hW1]; exact Row.new_at _ _ _ (by simp)
  have HSP := Lib.hid (fun W (hw : Below W1.heap.size W1 W) => (show W.cell? ⟨w.heap.size, 0, none⟩ = some (.pointer p) ∧ W.cell? ⟨w.heap.size, 1, none⟩ = some (.int .i64 t) ∧ W.cell? ⟨w.heap.size, 2, none⟩ = some (.int .u32 f) ∧ W.cell? ⟨w.heap.size, 3, none⟩ = some (.int .i64 k) ∧ W.cell? ⟨w.heap.size, 4, none⟩ = some (.int .i64 m) ∧ W.cell? ⟨w.heap.size, 5, none⟩ = some (.bool kn) ∧ W.cell? ⟨w.heap.size, 6, none⟩ = some (.int .i64 i) ∧ W.cell? ⟨w.heap.size + 1, 0, none⟩ = some (.int .i64 st) ∧ W.cell? ⟨w.heap.size + 1, 1, none⟩ = some (.int .i64 pg) ∧ W.cell? ⟨w.heap.size + 1, 2, none⟩ = some (.int .i64 sz) ∧ W.cell? ⟨w.heap.size + 1, 3, none⟩ = some (.int .i64 fi) from ⟨(hrl.below hw).cell 0, (hrl.below hw).cell 1, (hrl.below hw).cell 2, (hrl.below hw).cell 3, (hrl.below hw).cell 4, (hrl.below hw).cell 5, (hrl.below hw).cell 6, (hrr.below hw).cell 0, (hrr.below hw).cell 1, (hrr.below hw).cell 2, (hrr.below hw).cell 3⟩))
  have HB1 := Lib.hid hb1
  have HW1 := Lib.hid hW1
  have HFF := Lib.hid HF
  have HRR := Lib.hid HR
  have e0 : (E == 0) = false := by rw [beq_eq_false_iff_ne]; exact hE
  clear HF HR hb1 hrl hrr hW1
  have hd1 : Below W1.heap.size W1 W1.drew := (Below.refl _ _).drew
  go_enter Tryz.func69, Tryz.ntmps69
  go_wp2_with fail
  refine wp_scope_jump 1 fun R hR hJm => ?_
  go_wp2_with fail
  rw [← HW1.out]
  refine wp_region_noPanic ?_
  refine wp_region_held_drew (S := fun W => W.cell? ⟨w.heap.size, 0, none⟩ = some (.pointer p) ∧ W.cell? ⟨w.heap.size, 1, none⟩ = some (.int .i64 t) ∧ W.cell? ⟨w.heap.size, 2, none⟩ = some (.int .u32 f) ∧ W.cell? ⟨w.heap.size, 3, none⟩ = some (.int .i64 k) ∧ W.cell? ⟨w.heap.size, 4, none⟩ = some (.int .i64 m) ∧ W.cell? ⟨w.heap.size, 5, none⟩ = some (.bool kn) ∧ W.cell? ⟨w.heap.size, 6, none⟩ = some (.int .i64 i) ∧ W.cell? ⟨w.heap.size + 1, 0, none⟩ = some (.int .i64 st) ∧ W.cell? ⟨w.heap.size + 1, 1, none⟩ = some (.int .i64 pg) ∧ W.cell? ⟨w.heap.size + 1, 2, none⟩ = some (.int .i64 sz) ∧ W.cell? ⟨w.heap.size + 1, 3, none⟩ = some (.int .i64 fi)) (by kernel_rfl) (HSP.out _ hd1) (fun hHeld => ?_)
  refine wpAnyH_take (i := 0) (v := ?_) rfl (by kernel_rfl) (by kernel_rfl) (by kernel_rfl) (fun _ _ _ h => h) (Or.inl ⟨by kernel_rfl, ?_⟩) hHeld ?_
  rotate_left
  focus (intro w hSw; (try dsimp only at hSw); go_simp; try with_reducible rfl)
  simp only [Act.put]
  refine wpAnyH_take (i := 1) (v := ?_) rfl (by kernel_rfl) (by kernel_rfl) (by kernel_rfl) (fun _ _ _ h => h) (Or.inl ⟨by kernel_rfl, ?_⟩) hHeld ?_
  rotate_left
  focus (intro w hSw; (try dsimp only at hSw); go_simp; try with_reducible rfl)
  simp only [Act.put]
  refine wpAnyH_take (i := 2) (v := ?_) rfl (by kernel_rfl) (by kernel_rfl) (by kernel_rfl) (fun _ _ _ h => h) (Or.inl ⟨by kernel_rfl, ?_⟩) hHeld ?_
  rotate_left
  focus (intro w hSw; (try dsimp only at hSw); go_simp; try with_reducible rfl)
  simp only [Act.put]
  refine wpAnyH_ready (rs := [3]) (by kernel_rfl) (by simp) ?_
  refine AllReadyH.cons rfl (fun K hK => ?_) (AllReadyH.nil)
  go_simp
  refine (HFF.out _ (below0 HB1.out hd1)).mono ?_
  rintro e w2 ⟨rfl, hb2⟩
  have hd2 := below0 hd1 hb2
  refine hK.out _ _ (HSP.out _ hd2) (fun hHeld => ?_)
  clear hK K
  try simp only [Act.put]
  refine wpAnyH_ready (rs := [4]) (by kernel_rfl) (by simp) ?_
  refine AllReadyH.cons rfl (fun K hK => ?_) (AllReadyH.nil)
  go_simp
  refine (HRR.out _ (below0 HB1.out hd2)).mono ?_
  rintro e w3 ⟨rfl, hb3⟩
  have hd3 := below0 hd2 hb3
  refine hK.out _ _ (HSP.out _ hd3) (fun hHeld => ?_)
  clear hK K
  try simp only [Act.put]
  refine wpAnyH_ready (rs := [5]) (by kernel_rfl) (by simp) ?_
  refine AllReadyH.cons rfl (fun K hK => ?_) (AllReadyH.nil)
  go_simp
  refine hK.out _ _ (HSP.out _ hd3) (fun hHeld => ?_)
  clear hK K
  try simp only [Act.put]
  refine wpAnyH_done (by kernel_rfl) ?_ _
  refine NoPanic.normal ?_
  have HB9 := Lib.hid (below0 HB1.out hd3)
  clear hd1 hd2 hd3 hb2 hb3 HFF HRR HSP HB1 HW1 hHeld
  go_wp2_with fail
  refine wp_goto (hJm.out _ _ _ _ _ rfl ?_)
  go_wp2
  refine hR.out _ _ _ _ (by simp) ?_
  go_ret
  exact ⟨rfl, HB9.out⟩
set_option maxRecDepth 100000 in
set_option maxHeartbeats 8000000 in
theorem laid_great_yes (p : Option Addr) (t f k m i : Int) (kn : Bool) (st pg sz fi : Int) (g c : Nat) (a : Int) (bs : List UInt8) (ok : Bool) (F : Nat → Prop) (Q : World → Prop) (w : World) (hFl : ∀ b, F b → b < w.heap.size) (HF : ∀ W, Below w.heap.size w W → Calls Tryz.prog 139 #[.agg #[.int .i64 st, .int .i64 pg, .int .i64 sz, .int .i64 fi], .slice (some ⟨g, 0, none⟩) 6 c] W fun e w' => e = .returned (.bool ok) ∧ Below W.heap.size W w') (HR : ∀ W, Below w.heap.size w W → Calls Tryz.prog 76 #[liV p t f k m kn i, .bool ok] W fun e w' => e = .returned (.int .i64 0) ∧ Below W.heap.size W w')
    (HAT : ∀ W, Calls Tryz.prog 43 #[roV f k m, .int .i64 i] W fun e w' => e = .returned (.int .u32 a) ∧ Below W.heap.size W w')
    (HPA : ∀ W, Below w.heap.size w W → Calls Tryz.prog 140 #[.agg #[.int .i64 st, .int .i64 pg, .int .i64 sz, .int .i64 fi], .slice (some ⟨g, 0, none⟩) 6 c] W fun e w' => ∃ A cp, e = .returned (.slice A 16 cp) ∧ w'.ownsRow W.heap.size 5 1 (.slice A 16 cp) 16 (byt bs) ∧ Below W.heap.size W w')
    (HPO : ∀ W A cp, Below w.heap.size w W → 16 ≤ cp → Sees W W.heap.size A (byt bs) → (∀ ad, A = some ad → w.heap.size ≤ ad.block) → Calls Tryz.prog 20 #[.pointer p, .int .u32 a, .slice A 16 cp] W fun e w' => e = .returned (.int .i64 0) ∧ Keep F W w' ∧ Q w') :
    Calls Tryz.prog 69 #[liV p t f k m kn i, .agg #[.int .i64 st, .int .i64 pg, .int .i64 sz, .int .i64 fi], .slice (some ⟨g, 0, none⟩) 6 c] w fun e w' => e = .returned (.int .i64 0) ∧ Keep F w w' ∧ Q w' := by
  obtain ⟨W1, hW1⟩ : ∃ W1, W1 = (w.alloc (.cells #[.pointer p, .int .i64 t, .int .u32 f, .int .i64 k, .int .i64 m, .bool kn, .int .i64 i] 134)).alloc (.cells #[.int .i64 st, .int .i64 pg, .int .i64 sz, .int .i64 fi] 43) := ⟨_, rfl⟩
  have hb1 : Below w.heap.size w W1 := by rw [hW1]; exact ((Below.refl _ _).alloc (Nat.le_refl _) _).alloc (by simp) _
  have hrl : Row W1 w.heap.size 134 (liC p t f k m kn i) := by rw [hW1]; exact (Row.new w _ _).below (below1 _ _)
  have hrr : Row W1 (w.heap.size + 1) 43 [.int .i64 st, .int .i64 pg, .int .i64 sz, .int .i64 fi] := by rw [hW1]; exact Row.new_at _ _ _ (by simp)
  have HSP := Lib.hid (fun W (hw : Below W1.heap.size W1 W) => (show W.cell? ⟨w.heap.size, 0, none⟩ = some (.pointer p) ∧ W.cell? ⟨w.heap.size, 1, none⟩ = some (.int .i64 t) ∧ W.cell? ⟨w.heap.size, 2, none⟩ = some (.int .u32 f) ∧ W.cell? ⟨w.heap.size, 3, none⟩ = some (.int .i64 k) ∧ W.cell? ⟨w.heap.size, 4, none⟩ = some (.int .i64 m) ∧ W.cell? ⟨w.heap.size, 5, none⟩ = some (.bool kn) ∧ W.cell? ⟨w.heap.size, 6, none⟩ = some (.int .i64 i) ∧ W.cell? ⟨w.heap.size + 1, 0, none⟩ = some (.int .i64 st) ∧ W.cell? ⟨w.heap.size + 1, 1, none⟩ = some (.int .i64 pg) ∧ W.cell? ⟨w.heap.size + 1, 2, none⟩ = some (.int .i64 sz) ∧ W.cell? ⟨w.heap.size + 1, 3, none⟩ = some (.int .i64 fi) from ⟨(hrl.below hw).cell 0, (hrl.below hw).cell 1, (hrl.below hw).cell 2, (hrl.below hw).cell 3, (hrl.below hw).cell 4, (hrl.below hw).cell 5, (hrl.below hw).cell 6, (hrr.below hw).cell 0, (hrr.below hw).cell 1, (hrr.below hw).cell 2, (hrr.below hw).cell 3⟩))
  have HSK := Lib.hid (fun W W' (hw : Below W1.heap.size W1 W) (hk : Keep F W W') => (show W'.cell? ⟨w.heap.size, 0, none⟩ = some (.pointer p) ∧ W'.cell? ⟨w.heap.size, 1, none⟩ = some (.int .i64 t) ∧ W'.cell? ⟨w.heap.size, 2, none⟩ = some (.int .u32 f) ∧ W'.cell? ⟨w.heap.size, 3, none⟩ = some (.int .i64 k) ∧ W'.cell? ⟨w.heap.size, 4, none⟩ = some (.int .i64 m) ∧ W'.cell? ⟨w.heap.size, 5, none⟩ = some (.bool kn) ∧ W'.cell? ⟨w.heap.size, 6, none⟩ = some (.int .i64 i) ∧ W'.cell? ⟨w.heap.size + 1, 0, none⟩ = some (.int .i64 st) ∧ W'.cell? ⟨w.heap.size + 1, 1, none⟩ = some (.int .i64 pg) ∧ W'.cell? ⟨w.heap.size + 1, 2, none⟩ = some (.int .i64 sz) ∧ W'.cell? ⟨w.heap.size + 1, 3, none⟩ = some (.int .i64 fi) from ⟨(hk.row (hrl.below hw) (fun hf => by have := hFl _ hf; omega)).cell 0, (hk.row (hrl.below hw) (fun hf => by have := hFl _ hf; omega)).cell 1, (hk.row (hrl.below hw) (fun hf => by have := hFl _ hf; omega)).cell 2, (hk.row (hrl.below hw) (fun hf => by have := hFl _ hf; omega)).cell 3, (hk.row (hrl.below hw) (fun hf => by have := hFl _ hf; omega)).cell 4, (hk.row (hrl.below hw) (fun hf => by have := hFl _ hf; omega)).cell 5, (hk.row (hrl.below hw) (fun hf => by have := hFl _ hf; omega)).cell 6, (hk.row (hrr.below hw) (fun hf => by have := hFl _ hf; omega)).cell 0, (hk.row (hrr.below hw) (fun hf => by have := hFl _ hf; omega)).cell 1, (hk.row (hrr.below hw) (fun hf => by have := hFl _ hf; omega)).cell 2, (hk.row (hrr.below hw) (fun hf => by have := hFl _ hf; omega)).cell 3⟩))
  have HB1 := Lib.hid hb1
  have HW1 := Lib.hid hW1
  have HFF := Lib.hid HF
  have HRR := Lib.hid HR
  have HATT := Lib.hid HAT
  have HPAA := Lib.hid HPA
  have HPOO := Lib.hid HPO
  clear HF HR HAT HPA HPO hb1 hrl hrr hW1
  have hd1 : Below W1.heap.size W1 W1.drew := (Below.refl _ _).drew
  go_enter Tryz.func69, Tryz.ntmps69
  go_wp2_with fail
  refine wp_scope_jump 1 fun R hR hJm => ?_
  go_wp2_with fail
  rw [← HW1.out]
  refine wp_region_noPanic ?_
  refine wp_region_held_drew (S := fun W => W.cell? ⟨w.heap.size, 0, none⟩ = some (.pointer p) ∧ W.cell? ⟨w.heap.size, 1, none⟩ = some (.int .i64 t) ∧ W.cell? ⟨w.heap.size, 2, none⟩ = some (.int .u32 f) ∧ W.cell? ⟨w.heap.size, 3, none⟩ = some (.int .i64 k) ∧ W.cell? ⟨w.heap.size, 4, none⟩ = some (.int .i64 m) ∧ W.cell? ⟨w.heap.size, 5, none⟩ = some (.bool kn) ∧ W.cell? ⟨w.heap.size, 6, none⟩ = some (.int .i64 i) ∧ W.cell? ⟨w.heap.size + 1, 0, none⟩ = some (.int .i64 st) ∧ W.cell? ⟨w.heap.size + 1, 1, none⟩ = some (.int .i64 pg) ∧ W.cell? ⟨w.heap.size + 1, 2, none⟩ = some (.int .i64 sz) ∧ W.cell? ⟨w.heap.size + 1, 3, none⟩ = some (.int .i64 fi)) (by kernel_rfl) (HSP.out _ hd1) (fun hHeld => ?_)
  refine wpAnyH_take (i := 0) (v := ?_) rfl (by kernel_rfl) (by kernel_rfl) (by kernel_rfl) (fun _ _ _ h => h) (Or.inl ⟨by kernel_rfl, ?_⟩) hHeld ?_
  rotate_left
  focus (intro w hSw; (try dsimp only at hSw); go_simp; try with_reducible rfl)
  simp only [Act.put]
  refine wpAnyH_take (i := 1) (v := ?_) rfl (by kernel_rfl) (by kernel_rfl) (by kernel_rfl) (fun _ _ _ h => h) (Or.inl ⟨by kernel_rfl, ?_⟩) hHeld ?_
  rotate_left
  focus (intro w hSw; (try dsimp only at hSw); go_simp; try with_reducible rfl)
  simp only [Act.put]
  refine wpAnyH_take (i := 2) (v := ?_) rfl (by kernel_rfl) (by kernel_rfl) (by kernel_rfl) (fun _ _ _ h => h) (Or.inl ⟨by kernel_rfl, ?_⟩) hHeld ?_
  rotate_left
  focus (intro w hSw; (try dsimp only at hSw); go_simp; try with_reducible rfl)
  simp only [Act.put]
  refine wpAnyH_ready (rs := [3]) (by kernel_rfl) (by simp) ?_
  refine AllReadyH.cons rfl (fun K hK => ?_) (AllReadyH.nil)
  go_simp
  refine (HFF.out _ (below0 HB1.out hd1)).mono ?_
  rintro e w2 ⟨rfl, hb2⟩
  have hd2 := below0 hd1 hb2
  refine hK.out _ _ (HSP.out _ hd2) (fun hHeld => ?_)
  clear hK K
  try simp only [Act.put]
  refine wpAnyH_ready (rs := [4]) (by kernel_rfl) (by simp) ?_
  refine AllReadyH.cons rfl (fun K hK => ?_) (AllReadyH.nil)
  go_simp
  refine (HRR.out _ (below0 HB1.out hd2)).mono ?_
  rintro e w3 ⟨rfl, hb3⟩
  have hd3 := below0 hd2 hb3
  refine hK.out _ _ (HSP.out _ hd3) (fun hHeld => ?_)
  clear hK K
  try simp only [Act.put]
  refine wpAnyH_ready (rs := [5]) (by kernel_rfl) (by simp) ?_
  refine AllReadyH.cons rfl (fun K hK => ?_) (AllReadyH.nil)
  go_simp
  refine hK.out _ _ (HSP.out _ hd3) (fun hHeld => ?_)
  clear hK K
  try simp only [Act.put]
  refine wpAnyH_done (by kernel_rfl) ?_ _
  refine NoPanic.normal ?_
  have HD3 := Lib.hid hd3
  have hd4 : Below W1.heap.size W1 w3.drew := hd3.drew
  clear hd1 hd2 hd3 hb2 hb3 HFF HRR HW1 hHeld
  go_wp2_with fail
  refine wp_region_noPanic ?_
  refine wp_region_held_drew (S := fun W => W.cell? ⟨w.heap.size, 0, none⟩ = some (.pointer p) ∧ W.cell? ⟨w.heap.size, 1, none⟩ = some (.int .i64 t) ∧ W.cell? ⟨w.heap.size, 2, none⟩ = some (.int .u32 f) ∧ W.cell? ⟨w.heap.size, 3, none⟩ = some (.int .i64 k) ∧ W.cell? ⟨w.heap.size, 4, none⟩ = some (.int .i64 m) ∧ W.cell? ⟨w.heap.size, 5, none⟩ = some (.bool kn) ∧ W.cell? ⟨w.heap.size, 6, none⟩ = some (.int .i64 i) ∧ W.cell? ⟨w.heap.size + 1, 0, none⟩ = some (.int .i64 st) ∧ W.cell? ⟨w.heap.size + 1, 1, none⟩ = some (.int .i64 pg) ∧ W.cell? ⟨w.heap.size + 1, 2, none⟩ = some (.int .i64 sz) ∧ W.cell? ⟨w.heap.size + 1, 3, none⟩ = some (.int .i64 fi)) (by kernel_rfl) (HSP.out _ hd4) (fun hHeld => ?_)
  refine wpAnyH_take (i := 0) (v := ?_) rfl (by kernel_rfl) (by kernel_rfl) (by kernel_rfl) (fun _ _ _ h => h) (Or.inl ⟨by kernel_rfl, ?_⟩) hHeld ?_
  rotate_left
  focus (intro w hSw; (try dsimp only at hSw); go_simp; try with_reducible rfl)
  simp only [Act.put]
  refine wpAnyH_take (i := 1) (v := ?_) rfl (by kernel_rfl) (by kernel_rfl) (by kernel_rfl) (fun _ _ _ h => h) (Or.inl ⟨by kernel_rfl, ?_⟩) hHeld ?_
  rotate_left
  focus (intro w hSw; (try dsimp only at hSw); go_simp; try with_reducible rfl)
  simp only [Act.put]
  refine wpAnyH_take (i := 2) (v := ?_) rfl (by kernel_rfl) (by kernel_rfl) (by kernel_rfl) (fun _ _ _ h => h) (Or.inl ⟨by kernel_rfl, ?_⟩) hHeld ?_
  rotate_left
  focus (intro w hSw; (try dsimp only at hSw); go_simp; try with_reducible rfl)
  simp only [Act.put]
  refine wpAnyH_take (i := 3) (v := ?_) rfl (by kernel_rfl) (by kernel_rfl) (by kernel_rfl) (fun _ _ _ h => h) (Or.inl ⟨by kernel_rfl, ?_⟩) hHeld ?_
  rotate_left
  focus (intro w hSw; (try dsimp only at hSw); go_simp; try with_reducible rfl)
  simp only [Act.put]
  refine wpAnyH_take (i := 4) (v := ?_) rfl (by kernel_rfl) (by kernel_rfl) (by kernel_rfl) (fun _ _ _ h => h) (Or.inl ⟨by kernel_rfl, ?_⟩) hHeld ?_
  rotate_left
  focus (intro w hSw; (try dsimp only at hSw); go_simp; try with_reducible rfl)
  simp only [Act.put]
  refine wpAnyH_take (i := 5) (v := ?_) rfl (by kernel_rfl) (by kernel_rfl) (by kernel_rfl) (fun _ _ _ h => h) (Or.inl ⟨by kernel_rfl, ?_⟩) hHeld ?_
  rotate_left
  focus (intro w hSw; (try dsimp only at hSw); go_simp; try with_reducible rfl)
  simp only [Act.put]
  refine wpAnyH_take (i := 6) (v := ?_) rfl (by kernel_rfl) (by kernel_rfl) (by kernel_rfl) (fun _ _ _ h => h) (Or.inl ⟨by kernel_rfl, ?_⟩) hHeld ?_
  rotate_left
  focus (intro w hSw; (try dsimp only at hSw); go_simp; try with_reducible rfl)
  simp only [Act.put]
  refine wpAnyH_take (i := 8) (v := ?_) rfl (by kernel_rfl) (by kernel_rfl) (by kernel_rfl) (fun _ _ _ h => h) (Or.inl ⟨by kernel_rfl, ?_⟩) hHeld ?_
  rotate_left
  focus (intro w hSw; (try dsimp only at hSw); go_simp; try with_reducible rfl)
  simp only [Act.put]
  refine wpAnyH_take (i := 9) (v := ?_) rfl (by kernel_rfl) (by kernel_rfl) (by kernel_rfl) (fun _ _ _ h => h) (Or.inl ⟨by kernel_rfl, ?_⟩) hHeld ?_
  rotate_left
  focus (intro w hSw; (try dsimp only at hSw); go_simp; try with_reducible rfl)
  simp only [Act.put]
  refine wpAnyH_ready (rs := [7]) (by kernel_rfl) (by simp) ?_
  refine AllReadyH.cons rfl (fun K hK => ?_) (AllReadyH.nil)
  go_simp
  refine (HATT.out _).mono ?_
  rintro e w4 ⟨rfl, hb4⟩
  have hd5 := below0 hd4 hb4
  refine hK.out _ _ (HSP.out _ hd5) (fun hHeld => ?_)
  clear hK K
  try simp only [Act.put]
  refine wpAnyH_ready (rs := [10]) (by kernel_rfl) (by simp) ?_
  refine AllReadyH.cons rfl (fun K hK => ?_) (AllReadyH.nil)
  go_simp
  refine (HPAA.out _ (below0 HB1.out hd5)).mono ?_
  rintro e w5 ⟨A, cp, rfl, hown, hb5⟩
  have hd6 := below0 hd5 hb5
  refine hK.out _ _ (HSP.out _ hd6) (fun hHeld => ?_)
  clear hK K
  try simp only [Act.put]
  refine wpAnyH_ready (rs := [11]) (by kernel_rfl) (by simp) ?_
  refine AllReadyH.cons rfl (fun K hK => ?_) (AllReadyH.nil)
  go_simp
  have hcp := (own_cap hown).1
  refine (HPOO.out _ A cp (below0 HB1.out hd6) (by omega) (Vm.sees_own hown) (fun ad hA => ?_)).mono ?_
  · subst hA
    obtain ⟨gb, cb, hAA, hgb, _⟩ := hown.form (by omega)
    injection hAA with hA1 hA2 hA3
    injection hA1 with hA1
    subst hA1
    have := (below0 HB1.out hd5).size
    exact Nat.le_trans this hgb
  rintro e w6 ⟨rfl, hk6, hq6⟩
  refine hK.out _ _ (HSK.out _ _ hd6 hk6) (fun hHeld => ?_)
  clear hK K
  try simp only [Act.put]
  refine wpAnyH_ready (rs := [12]) (by kernel_rfl) (by simp) ?_
  refine AllReadyH.cons rfl (fun K hK => ?_) (AllReadyH.nil)
  go_simp
  refine hK.out _ _ (HSK.out _ _ hd6 hk6) (fun hHeld => ?_)
  clear hK K
  try simp only [Act.put]
  refine wpAnyH_done (by kernel_rfl) ?_ _
  refine NoPanic.normal ?_
  have HF9 := Lib.hid (And.intro ((Keep.of_below (below0 HB1.out hd6)).trans hk6 (fun b _ h => h)) hq6)
  clear hd4 hd5 hd6 hb4 hb5 hown hcp hk6 hq6 HATT HPAA HPOO HSP HSK HB1 HD3 hHeld
  go_wp2
  refine hR.out _ _ _ _ (by simp) ?_
  go_ret
  exact ⟨rfl, HF9.out⟩
end Go.Proofs.YtiahmccchpmdgaaGreatDoor.Me
