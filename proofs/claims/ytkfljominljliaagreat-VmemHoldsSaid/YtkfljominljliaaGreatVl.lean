import Derived.Test.YtkfljominljliaaGreatVk
namespace Go.Proofs.YtkfljominljliaaGreat.Vm
open Go.RowKit Go.Shelf Go.Maps Go.Sort
attribute [local go_sem] Oper.semAt_some

/- WHAT TURNS A MEMORY. -/

section
variable {w V V' : World} {b : Nat} {p : Pl} {F : Nat → Prop}
theorem reserveN (h : Has w b p F) (o m : Int) (hm : m ≤ 9223372036854775807) : Calls Tryz.prog 17 #[bx b, .int .i64 o, .int .i64 m] w fun e w' => e = .returned (.int .i64 (reserveE p o m : Int)) ∧ Next w b (reserveP p o m) F w' := by
  by_cases hE : reserveE p o m = 0
  · have hob : 0 ≤ o ∧ 0 ≤ m := by
      unfold reserveE at hE
      split at hE
      · cases hE
      next h4 =>
        have h5 := Classical.not_not.1 h4
        simp only [ownerB, Bool.and_eq_true, decide_eq_true_eq] at h5
        exact ⟨h5.1.1, h5.2⟩
    obtain ⟨x, rfl⟩ : ∃ x : Nat, o = x := ⟨o.toNat, by omega⟩
    obtain ⟨y, rfl⟩ : ∃ y : Nat, m = y := ⟨m.toNat, by omega⟩
    rw [hE]
    exact reserve_yes h x y (by omega) hE
  · exact reserve_no h o m hm hE
theorem takeN (h : Has w b p F) (o : Int) : Calls Tryz.prog 28 #[bx b, .int .i64 o] w fun e w' => e = .returned (.tuple #[.int .i64 (takeI p o : Int), .int .i64 (takeE p o : Int)]) ∧ Next w b (takeP p o) F w' := by
  by_cases hE : takeE p o = 0
  · obtain ⟨g1, _⟩ := takeE_left h.ok hE
    obtain ⟨x, rfl⟩ : ∃ x : Nat, o = x := ⟨o.toNat, by omega⟩
    rw [hE]
    exact take_yes h x hE
  · exact take_no h o hE
theorem giveN (h : Has w b p F) (i : Int) (hi : i ≤ 9223372036854775807) : Calls Tryz.prog 32 #[bx b, .int .i64 i] w fun e w' => e = .returned (.int .i64 (giveE p i : Int)) ∧ Next w b (giveP p i) F w' := by
  by_cases hE : giveE p i = 0
  · obtain ⟨g1, _⟩ := giveE_some hE
    obtain ⟨x, rfl⟩ : ∃ x : Nat, i = x := ⟨i.toNat, by omega⟩
    rw [hE]
    exact give_yes h x (by omega) hE
  · exact give_no h i hi hE
end
/-- behind a call -/
def MNext (w : World) (b t q : Nat) (l : Pg.Tb) (p : Pl) (F1 F2 : Nat → Prop) (w' : World) : Prop := ∃ F3, MRep w' b t q l p F1 F3 ∧ (∀ k, F3 k → F2 k ∨ w.heap.size ≤ k) ∧ Keep (fun k => F1 k ∨ F2 k) w w'
section
variable {w w0 w' : World} {b t q : Nat} {l l' : Pg.Tb} {p p' : Pl} {F1 F2 : Nat → Prop}
theorem MNext.same (h : MRep w b t q l p F1 F2) (hb : Below w.heap.size w w') : MNext w b t q l p F1 F2 w' := ⟨F2, h.below hb, fun _ h => .inl h, Keep.of_below hb⟩
/-- the pool turned -/
theorem MNext.pool (h : MRep w b t q l p F1 F2) (hb : Below w.heap.size w w0) (hn : Next w0 q p' F2 w') : MNext w b t q l p' F1 F2 w' := by
  obtain ⟨F3, h1, h2, h3⟩ := hn
  have hs := hb.size
  have hk : ∀ k, k < w.heap.size → ¬ F2 k → w'.heap[k]? = w.heap[k]? := fun k h4 h5 => (h2.block k (by omega) h5).trans (hb.block k h4)
  refine ⟨F3, ⟨h.obj.same (hk b (h.lt b (.inl rfl)) h.b2), h.tab.keep fun k hf => hk k (h.tab.lt k hf) (h.apart k hf), h1, fun k h4 h5 => ?_, h.b1, fun h4 => ?_⟩, fun k h4 => (h3 k h4).imp id (fun h => by omega), ((Keep.of_below (F := fun k => F1 k ∨ F2 k) hb).trans h2 fun _ _ h => .inr h)⟩
  · rcases h3 k h5 with h6 | h6
    · exact h.apart k h4 h6
    · have := h.tab.lt k h4; omega
  · rcases h3 b h4 with h6 | h6
    · exact h.b2 h6
    · have := h.lt b (.inl rfl); omega
/-- the table turned -/
theorem MNext.tab (h : MRep w b t q l p F1 F2) (hb : Below w.heap.size w w0) (hn : Pg.Next w0 t l' F1 w') : MNext w b t q l' p F1 F2 w' := by
  obtain ⟨h1, h2⟩ := hn
  have hs := hb.size
  have hk : ∀ k, k < w.heap.size → ¬ F1 k → w'.heap[k]? = w.heap[k]? := fun k h4 h5 => (h2.block k (by omega) h5).trans (hb.block k h4)
  exact ⟨F2, ⟨h.obj.same (hk b (h.lt b (.inl rfl)) h.b1), h1, h.pool.keep fun k hf => hk k (h.pool.lt k hf) (fun hf1 => h.apart k hf1 hf), h.apart, h.b1, h.b2⟩, fun _ h => .inl h, (Keep.of_below (F := fun k => F1 k ∨ F2 k) hb).trans h2 fun _ _ h => .inl h⟩
theorem MNext.trans {F3 : Nat → Prop} (h3 : ∀ k, F3 k → F2 k ∨ w.heap.size ≤ k) (hk : Keep (fun k => F1 k ∨ F2 k) w w0) (hn : MNext w0 b t q l' p' F1 F3 w') : MNext w b t q l' p' F1 F2 w' := by
  obtain ⟨F4, h4, h5, h6⟩ := hn
  have hs := hk.size
  refine ⟨F4, h4, fun k hf => ?_, hk.trans h6 fun k hlt hf => hf.imp id fun hf => (h3 k hf).elim id (fun h => by omega)⟩
  rcases h5 k hf with h7 | h7
  · exact h3 k h7
  · exact .inr (by omega)
end
set_option maxHeartbeats 1000000 in
theorem new_any (n : Nat) (w : World) (hn : n ≤ 16384) : Calls Tryz.prog 6 #[.int .i64 (n : Int)] w fun e w' => ∃ b t q F1 F2, e = .returned (.tuple #[bx b, .int .i64 0]) ∧ MRep w' b t q [] (newP n) F1 F2 ∧ (∀ k, k = b ∨ F1 k ∨ F2 k → w.heap.size ≤ k) ∧ Below w.heap.size w w' := by
  have h1 := Lib.hid (new_yes n w hn)
  have h2 := Lib.hid (fun w => Pg.new_any w)
  clear hn
  go_enter Tryz.func6, Tryz.ntmps6
  go_wp2_with fail
  refine wp_scope_jump 1 fun R hR hJm => ?_
  go_wp2_with fail
  refine (h1.out).mono ?_
  rintro e w1 ⟨q, F2, rfl, hh2, hf2, hb1⟩
  have H2 := Lib.hid (And.intro hh2 (And.intro hf2 hb1))
  clear hh2 hf2 hb1
  go_wp2_with fail
  refine (h2.out _).mono ?_
  rintro e w2 ⟨t, F1, rfl, hh1, hf1, hb2⟩
  have HF := Lib.hid (show ∃ F1 F2, MRep (w2.alloc (.cells #[bx t, bx q] 53)) w2.heap.size t q [] (newP n) F1 F2 ∧ (∀ k, k = w2.heap.size ∨ F1 k ∨ F2 k → w.heap.size ≤ k) ∧ Below w.heap.size w (w2.alloc (.cells #[bx t, bx q] 53)) from by
    obtain ⟨hh2, hf2, hb1⟩ := H2.out
    have hba := below1 w2 (.cells #[bx t, bx q] 53)
    have hl1 := hh1.lt
    have hl2 := hh2.lt
    have hs1 := hb1.size
    have hs2 := hb2.size
    refine ⟨F1, F2, ⟨Row.new w2 53 [bx t, bx q], hh1.below hba, (hh2.below hb2).below hba, fun k h4 h5 => ?_, fun h => ?_, fun h => ?_⟩, ?_, below0 (below0 hb1 hb2) hba⟩
    · have := hf1 k h4
      have := hl2 k h5
      omega
    · have := hl1 _ h; omega
    · have := hl2 _ h; omega
    · rintro k (rfl | h | h)
      · omega
      · have := hf1 k h; omega
      · exact hf2 k h)
  clear hh1 hf1 hb2 H2
  go_wp2_with fail
  refine hR.out _ _ _ _ (by simp) ?_
  go_ret2
  obtain ⟨F8, F9, h9⟩ := HF.out
  exact ⟨_, t, q, F8, F9, rfl, h9⟩
theorem reserve_any {w : World} {b t q : Nat} {l : Pg.Tb} {p : Pl} {F1 F2 : Nat → Prop} (h : MRep w b t q l p F1 F2) (o m : Int) (hm : m ≤ 9223372036854775807) : Calls Tryz.prog 8 #[bx b, .int .i64 o, .int .i64 m] w fun e w' => e = .returned (.int .i64 (reserveE p o m : Int)) ∧ MNext w b t q l (reserveP p o m) F1 F2 w' := by
  have h1 := Lib.hid (frames_any b q w h.c1)
  have h2 := Lib.hid ((reserveN h.pool o m hm).mono fun e w' ⟨e1, e2⟩ => (show e = Ending.returned (.int .i64 (reserveE p o m : Int)) ∧ MNext w b t q l (reserveP p o m) F1 F2 w' from ⟨e1, MNext.pool h (Below.refl _ _) e2⟩))
  obtain ⟨E, hE⟩ : ∃ E, E = reserveE p o m := ⟨_, rfl⟩
  rw [← hE] at h2 ⊢
  clear hE h
  go_enter Tryz.func8, Tryz.ntmps8
  go_wp2_with fail
  refine (h1.out).mono ?_
  rintro e w1 ⟨rfl, rfl⟩
  go_wp2_with fail
  refine (h2.out).mono ?_
  rintro e w1 ⟨rfl, hn⟩
  have HN := Lib.hid hn
  clear hn
  go_wp2_with fail
  go_ret
  exact ⟨rfl, HN.out⟩
def storeP (p : Pl) (l : Pg.Tb) (o : Int) (a n : Nat) (bs : List UInt8) : Pl := if ownE l o 2 a (n : Int) = 0 then wr p l (pts a n) bs else p
set_option maxHeartbeats 1000000 in
theorem store_any {w : World} {b t q : Nat} {l : Pg.Tb} {p : Pl} {F1 F2 : Nat → Prop} (h : MRep w b t q l p F1 F2) (a n c : Nat) (o : Int) (S : Option Addr) (bs : List UInt8) (ha : a < 4294967296) (hn : bs.length = n) (hc : n ≤ c) (hS : Src w b F1 F2 S bs) :
    Calls Tryz.prog 11 #[bx b, .int .i64 o, .int .u32 (a : Int), .slice S n c] w fun e w' => e = .returned (.int .i64 (ownE l o 2 a (n : Int) : Int)) ∧ MNext w b t q l (storeP p l o a n bs) F1 F2 w' := by
  have hbb := below1 w (.cells #[.int .u32 (a : Int), .int .i64 (n : Int)] 68)
  have HO := Lib.hid (owned_any (h.below hbb) a (n : Int) o 2 ha)
  unfold storeP
  by_cases hE : ownE l o 2 a (n : Int) = 0
  · rw [if_pos hE]
    obtain ⟨m, hm, hm1, hm2, _⟩ := rE_0 hE
    have hmn : m = n := by omega
    subst hmn
    rw [hE] at HO ⊢
    have hw0 := lt_of_cell (show (w.alloc (.cells #[.int .u32 (a : Int), .int .i64 (m : Int)] 68)).cell? ⟨w.heap.size, 0, none⟩ = some (.int .u32 (a : Int)) from cell_alloc_new _ _ _ _)
    have HR := Lib.hid (fun W (hb : Below (w.alloc (.cells #[.int .u32 (a : Int), .int .i64 (m : Int)] 68)).heap.size (w.alloc (.cells #[.int .u32 (a : Int), .int .i64 (m : Int)] 68)) W) => (writeM_any ((h.below hbb).below hb) a m c S bs hm2 hn hc ⟨(hS.1.below (below0 hbb hb)).more (below0 hbb hb).size, fun ad e hne => by
      have h1 := hS.2 ad e hne
      have h2 := (below0 hbb hb).size
      exact ⟨by omega, h1.2⟩⟩).mono fun e w' ⟨e1, ⟨F3, e2, e3⟩, e4⟩ => (show (∃ v, e = Ending.returned v) ∧ MNext w b t q l (wr p l (pts a m) bs) F1 F2 w' from
        ⟨e1, F3, e2, fun k hf => (e3 k hf).imp id (fun hk => by have := (below0 hbb hb).size; omega), (Keep.of_below (F := fun k => F1 k ∨ F2 k) (below0 hbb hb)).trans e4 fun _ _ hf => .inr hf⟩))
    clear h hbb hE hm hS hn hc
    go_enter Tryz.func11, Tryz.ntmps11
    go_wp2_with fail
    refine wp_scope_jump 1 fun R hR hJm => ?_
    go_wp2_with fail
    refine (HO.out).mono ?_
    rintro e W1 ⟨rfl, hb1⟩
    have c0 : W1.cell? ⟨w.heap.size, 0, none⟩ = some (.int .u32 (a : Int)) := (hb1.cell (p := ⟨w.heap.size, 0, none⟩) hw0).trans (cell_alloc_new _ _ _ _)
    have c1 : W1.cell? ⟨w.heap.size, 1, none⟩ = some (.int .i64 (m : Int)) := (hb1.cell (p := ⟨w.heap.size, 1, none⟩) hw0).trans (cell_alloc_new _ _ _ _)
    have HR1 := Lib.hid (HR.out _ hb1)
    clear hb1 HR
    go_wp2_with fail
    refine (HR1.out).mono ?_
    rintro e W2 ⟨⟨v, rfl⟩, hnx⟩
    have HF := Lib.hid hnx
    clear hnx c0 c1 hw0
    go_wp2_with fail
    refine hR.out _ _ _ _ (by simp) ?_
    go_ret
    exact ⟨rfl, HF.out⟩
  · rw [if_neg hE]
    have HM := Lib.hid (fun W (hb : Below (w.alloc (.cells #[.int .u32 (a : Int), .int .i64 (n : Int)] 68)).heap.size (w.alloc (.cells #[.int .u32 (a : Int), .int .i64 (n : Int)] 68)) W) => MNext.same h (below0 hbb hb))
    obtain ⟨E, hE2⟩ : ∃ E, E = ownE l o 2 a (n : Int) := ⟨_, rfl⟩
    rw [← hE2] at HO hE ⊢
    have e0 : (((E : Int)) == 0) = false := by rw [beq_eq_false_iff_ne]; omega
    have e1 : ¬ ((E : Int) = 0) := by omega
    clear h hbb hE hE2 hS hn hc
    go_enter Tryz.func11, Tryz.ntmps11
    go_wp2_with fail
    refine wp_scope_jump 1 fun R hR hJm => ?_
    go_wp2_with fail
    refine (HO.out).mono ?_
    rintro e W1 ⟨rfl, hb1⟩
    have HF := Lib.hid (HM.out _ hb1)
    clear hb1 HM
    go_wp2_with fail
    refine wp_goto (hJm.out _ _ _ _ _ rfl ?_)
    go_wp2_with fail
    refine hR.out _ _ _ _ (by simp) ?_
    go_ret
    exact ⟨rfl, HF.out⟩
end Go.Proofs.YtkfljominljliaaGreat.Vm
