import Derived.Test.YtkfljominljliaaGreatVj
namespace Go.Proofs.YtkfljominljliaaGreat.Vm
open Go.RowKit Go.Shelf Go.Maps Go.Sort
attribute [local go_sem] Oper.semAt_some

/- LOAD, STORE, PEEK. -/
set_option maxHeartbeats 1000000 in
theorem handed1_any {w : World} {b t g1 : Nat} {l : Pg.Tb} {F : Nat → Prop} (z : Nat) (hz : z < 65536) (ht : Pg.Has w t l F) (hb0 : w.cell? ⟨b, 0, none⟩ = some (bx t)) (h1 : w.cell? ⟨g1, 0, none⟩ = some (bx b)) :
    Calls Tryz.prog 85 #[.int .i64 (z : Int), bx g1] w fun e w' => e = .returned (.bool (Pg.look l (z : Int)).isSome) ∧ Below w.heap.size w w' := by
  have HG := Lib.hid (mapped_any ht (z : Int) (by unfold Pg.I64; omega))
  obtain ⟨r, hr⟩ : ∃ r, r = (Pg.look l (z : Int)).isSome := ⟨_, rfl⟩
  rw [← hr] at HG ⊢
  clear hr ht
  go_enter Tryz.func85, Tryz.ntmps85
  go_wp2_with fail
  refine (HG.out).mono ?_
  rintro e W1 ⟨rfl, hb2⟩
  go_wp2_with fail
  go_ret
  exact ⟨rfl, hb2⟩
def hndE (l : Pg.Tb) (a : Nat) (n : Int) : Nat := rE true (fun z => (Pg.look l (z : Int)).isSome) a n
set_option maxHeartbeats 1000000 in
theorem handed_any {w : World} {b t q : Nat} {l : Pg.Tb} {p : Pl} {F1 F2 : Nat → Prop} (h : MRep w b t q l p F1 F2) (a : Nat) (n : Int) (ha : a < 4294967296) :
    Calls Tryz.prog 36 #[bx b, .agg #[.int .u32 (a : Int), .int .i64 n]] w fun e w' => e = .returned (.int .i64 (hndE l a n : Int)) ∧ Below w.heap.size w w' := by
  obtain ⟨W0, hW⟩ : ∃ W0, W0 = (w.alloc (.cells #[bx b] 25)).alloc (.cells #[.int .u32 (a : Int), .int .i64 n] 68) := ⟨_, rfl⟩
  have hbb : Below w.heap.size w W0 := by rw [hW]; exact below2 _ _ _
  have r0 : W0.cell? ⟨w.heap.size, 0, none⟩ = some (bx b) := by
    rw [hW]
    exact (World.cell?_alloc_lt _ _ _ (by simp)).trans (cell_alloc_new _ _ _ _)
  have HRC := Lib.hid (reached_any b q a n true (fun z => (Pg.look l (z : Int)).isSome) 85 #[bx w.heap.size] (h.below hbb).c1 ha (enters_of Tryz.func85 (by kernel_rfl) rfl)
    (fun z V hz hbV => handed1_any z hz (h.below (below0 hbb hbV)).tab (h.below (below0 hbb hbV)).c0 ((hbV.cell (p := ⟨w.heap.size, 0, none⟩) (lt_of_cell r0)).trans r0)))
  have HB := Lib.hid hbb
  unfold hndE
  obtain ⟨E, hE⟩ : ∃ E, E = rE true (fun z => (Pg.look l (z : Int)).isSome) a n := ⟨_, rfl⟩
  rw [← hE] at HRC ⊢
  have HW := Lib.hid hW
  clear hE hW h hbb r0
  go_enter Tryz.func36, Tryz.ntmps36
  go_wp2_with fail
  rw [← HW.out]
  refine (HRC.out).mono ?_
  rintro e W1 ⟨rfl, hb2⟩
  have HF := Lib.hid (below0 HB.out hb2)
  clear hb2
  go_wp2_with fail
  go_ret
  exact ⟨rfl, HF.out⟩
/-- what a reading answers -/
def RdA (w : World) (E : Nat) (bs : List UInt8) (e : Ending) (w' : World) : Prop := ∃ A m c, e = .returned (.tuple #[.slice A m c, .int .i64 (E : Int)]) ∧ m = bs.length ∧ w'.ownsRow w.heap.size 5 1 (.slice A m c) m (byt bs) ∧ Below w.heap.size w w'
theorem rE_0 {may : Bool} {f : Nat → Bool} {a : Nat} {n : Int} (h : rE may f a n = 0) : ∃ m : Nat, n = m ∧ 1 ≤ m ∧ a + m ≤ 16777216 ∧ seenB f a m = true := by
  unfold rE at h
  split at h
  · cases h
  · split at h
    · cases h
    · split at h
      · cases h
      · rename_i h1 h2 h3
        have h1 := Classical.not_not.1 h1
        have h2 := Classical.not_not.1 h2
        have h3 := Classical.not_not.1 h3
        simp only [properB, withinB, Bool.and_eq_true, decide_eq_true_eq] at h1 h2
        obtain ⟨m, rfl⟩ : ∃ m : Nat, n = m := ⟨n.toNat, by omega⟩
        exact ⟨m, rfl, by omega, by omega, by simpa using h3⟩
set_option maxHeartbeats 1000000 in
theorem load_any {w : World} {b t q : Nat} {l : Pg.Tb} {p : Pl} {F1 F2 : Nat → Prop} (h : MRep w b t q l p F1 F2) (a : Nat) (n o : Int) (ha : a < 4294967296) :
    Calls Tryz.prog 12 #[bx b, .int .i64 o, .int .u32 (a : Int), .int .i64 n] w (RdA w (ownE l o 1 a n) (if ownE l o 1 a n = 0 then rdB p l a n.toNat else [])) := by
  have hbb := below1 w (.cells #[.int .u32 (a : Int), .int .i64 n] 68)
  have HO := Lib.hid (owned_any (h.below hbb) a n o 1 ha)
  have HB := Lib.hid hbb
  by_cases hE : ownE l o 1 a n = 0
  · rw [if_pos hE]
    obtain ⟨m, rfl, hm1, hm2, _⟩ := rE_0 hE
    rw [hE] at HO ⊢
    rw [Int.toNat_natCast]
    have HR := Lib.hid (fun W (hb : Below (w.alloc (.cells #[.int .u32 (a : Int), .int .i64 (m : Int)] 68)).heap.size (w.alloc (.cells #[.int .u32 (a : Int), .int .i64 (m : Int)] 68)) W) => readM_any ((h.below hbb).below hb) a m hm2)
    have hw0 := lt_of_cell (show (w.alloc (.cells #[.int .u32 (a : Int), .int .i64 (m : Int)] 68)).cell? ⟨w.heap.size, 0, none⟩ = some (.int .u32 (a : Int)) from cell_alloc_new _ _ _ _)
    clear h hbb hE
    go_enter Tryz.func12, Tryz.ntmps12
    go_wp2_with fail
    refine wp_scope_jump 1 fun R hR hJm => ?_
    go_wp2_with fail
    refine (HO.out).mono ?_
    rintro e W1 ⟨rfl, hb1⟩
    have c0 : W1.cell? ⟨w.heap.size, 0, none⟩ = some (.int .u32 (a : Int)) := (hb1.cell (p := ⟨w.heap.size, 0, none⟩) hw0).trans (cell_alloc_new _ _ _ _)
    have c1 : W1.cell? ⟨w.heap.size, 1, none⟩ = some (.int .i64 (m : Int)) := (hb1.cell (p := ⟨w.heap.size, 1, none⟩) hw0).trans (cell_alloc_new _ _ _ _)
    have HR1 := Lib.hid (HR.out _ hb1)
    have HB1 := Lib.hid (below0 HB.out hb1)
    clear hb1 HR
    go_wp2_with fail
    refine (HR1.out).mono ?_
    rintro e W2 ⟨v, rfl, hown, hb2⟩
    obtain ⟨A, c, rfl⟩ := own_slice hown
    have HF := Lib.hid (show RdA w 0 (rdB p l a m) (.returned (.tuple #[.slice A (rdB p l a m).length c, .int .i64 0])) W2 from ⟨A, _, c, rfl, rfl, own_mono hown HB1.out.size, below0 HB1.out hb2⟩)
    clear hown hb2 c0 c1 hw0
    go_wp2_with fail
    refine hR.out _ _ _ _ (by simp) ?_
    go_ret2
    exact HF.out
  · rw [if_neg hE]
    obtain ⟨E, hE2⟩ : ∃ E, E = ownE l o 1 a n := ⟨_, rfl⟩
    rw [← hE2] at HO hE ⊢
    have e0 : (((E : Int)) == 0) = false := by rw [beq_eq_false_iff_ne]; omega
    have e1 : ¬ ((E : Int) = 0) := by omega
    clear h hbb hE hE2
    go_enter Tryz.func12, Tryz.ntmps12
    go_wp2_with fail
    refine wp_scope_jump 1 fun R hR hJm => ?_
    go_wp2_with fail
    refine (HO.out).mono ?_
    rintro e W1 ⟨rfl, hb1⟩
    have HF := Lib.hid (show RdA w E [] (.returned (.tuple #[.slice none 0 0, .int .i64 (E : Int)])) W1 from ⟨none, 0, 0, rfl, rfl, World.ownsRow_nil _ _ _ _, below0 HB.out hb1⟩)
    clear hb1
    go_wp2_with fail
    refine wp_goto (hJm.out _ _ _ _ _ rfl ?_)
    go_wp2_with fail
    refine hR.out _ _ _ _ (by simp) ?_
    go_ret2
    exact HF.out
set_option maxHeartbeats 1000000 in
theorem peek_any {w : World} {b t q : Nat} {l : Pg.Tb} {p : Pl} {F1 F2 : Nat → Prop} (h : MRep w b t q l p F1 F2) (a : Nat) (n : Int) (ha : a < 4294967296) :
    Calls Tryz.prog 13 #[bx b, .int .u32 (a : Int), .int .i64 n] w (RdA w (hndE l a n) (if hndE l a n = 0 then rdB p l a n.toNat else [])) := by
  have hbb := below1 w (.cells #[.int .u32 (a : Int), .int .i64 n] 68)
  have HO := Lib.hid (handed_any (h.below hbb) a n ha)
  have HB := Lib.hid hbb
  by_cases hE : hndE l a n = 0
  · rw [if_pos hE]
    obtain ⟨m, rfl, hm1, hm2, _⟩ := rE_0 hE
    rw [hE] at HO ⊢
    rw [Int.toNat_natCast]
    have HR := Lib.hid (fun W (hb : Below (w.alloc (.cells #[.int .u32 (a : Int), .int .i64 (m : Int)] 68)).heap.size (w.alloc (.cells #[.int .u32 (a : Int), .int .i64 (m : Int)] 68)) W) => readM_any ((h.below hbb).below hb) a m hm2)
    have hw0 := lt_of_cell (show (w.alloc (.cells #[.int .u32 (a : Int), .int .i64 (m : Int)] 68)).cell? ⟨w.heap.size, 0, none⟩ = some (.int .u32 (a : Int)) from cell_alloc_new _ _ _ _)
    clear h hbb hE
    go_enter Tryz.func13, Tryz.ntmps13
    go_wp2_with fail
    refine wp_scope_jump 1 fun R hR hJm => ?_
    go_wp2_with fail
    refine (HO.out).mono ?_
    rintro e W1 ⟨rfl, hb1⟩
    have c0 : W1.cell? ⟨w.heap.size, 0, none⟩ = some (.int .u32 (a : Int)) := (hb1.cell (p := ⟨w.heap.size, 0, none⟩) hw0).trans (cell_alloc_new _ _ _ _)
    have c1 : W1.cell? ⟨w.heap.size, 1, none⟩ = some (.int .i64 (m : Int)) := (hb1.cell (p := ⟨w.heap.size, 1, none⟩) hw0).trans (cell_alloc_new _ _ _ _)
    have HR1 := Lib.hid (HR.out _ hb1)
    have HB1 := Lib.hid (below0 HB.out hb1)
    clear hb1 HR
    go_wp2_with fail
    refine (HR1.out).mono ?_
    rintro e W2 ⟨v, rfl, hown, hb2⟩
    obtain ⟨A, c, rfl⟩ := own_slice hown
    have HF := Lib.hid (show RdA w 0 (rdB p l a m) (.returned (.tuple #[.slice A (rdB p l a m).length c, .int .i64 0])) W2 from ⟨A, _, c, rfl, rfl, own_mono hown HB1.out.size, below0 HB1.out hb2⟩)
    clear hown hb2 c0 c1 hw0
    go_wp2_with fail
    refine hR.out _ _ _ _ (by simp) ?_
    go_ret2
    exact HF.out
  · rw [if_neg hE]
    obtain ⟨E, hE2⟩ : ∃ E, E = hndE l a n := ⟨_, rfl⟩
    rw [← hE2] at HO hE ⊢
    have e0 : (((E : Int)) == 0) = false := by rw [beq_eq_false_iff_ne]; omega
    have e1 : ¬ ((E : Int) = 0) := by omega
    clear h hbb hE hE2
    go_enter Tryz.func13, Tryz.ntmps13
    go_wp2_with fail
    refine wp_scope_jump 1 fun R hR hJm => ?_
    go_wp2_with fail
    refine (HO.out).mono ?_
    rintro e W1 ⟨rfl, hb1⟩
    have HF := Lib.hid (show RdA w E [] (.returned (.tuple #[.slice none 0 0, .int .i64 (E : Int)])) W1 from ⟨none, 0, 0, rfl, rfl, World.ownsRow_nil _ _ _ _, below0 HB.out hb1⟩)
    clear hb1
    go_wp2_with fail
    refine wp_goto (hJm.out _ _ _ _ _ rfl ?_)
    go_wp2_with fail
    refine hR.out _ _ _ _ (by simp) ?_
    go_ret2
    exact HF.out
end Go.Proofs.YtkfljominljliaaGreat.Vm
