import Derived.Test.YtkfljominljliaaGreatVh
namespace Go.Proofs.YtkfljominljliaaGreat.Vm
open Go.RowKit Go.Shelf Go.Maps Go.Sort
attribute [local go_sem] Oper.semAt_some

/- WRITE: THE BYTES OF A REACH. -/

/-- bytes that came in, apart from the memory -/
def Src (w : World) (b : Nat) (F1 F2 : Nat → Prop) (S : Option Addr) (bs : List UInt8) : Prop :=
  Sees w w.heap.size S (byt bs) ∧ ∀ a, S = some a → bs ≠ [] → a.block < w.heap.size ∧ ¬ F1 a.block ∧ ¬ F2 a.block ∧ a.block ≠ b
theorem wr_does {w : World} {gm b t q : Nat} {l : Pg.Tb} {p : Pl} {bs : List UInt8} {F1 F2 : Nat → Prop} (h0 : MRep w b t q l p F1 F2) (hg : gm < w.heap.size) (hgF : gm ≠ b ∧ ¬ F1 gm ∧ ¬ F2 gm) (a n : Nat) (han : a + n ≤ 16777216) (hn : n = bs.length) :
    Does w a n 78 #[bx gm] F2 (WrRel w gm b t q l p bs F1 F2) := by
  refine ⟨enters_of Tryz.func78 (by kernel_rfl) rfl, fun k h => h0.pool.lt k h, ?_, ?_, ?_⟩
  · rintro pre v O V V' ⟨h1, h2, ⟨F3, h3, h4⟩, h5, h6, h7, h8⟩ hs hk
    refine ⟨by omega, (World.cell?_of_block (hk gm (by omega) (.inl hg))).trans h2, ⟨F3, h3.keep fun k hkk => hk k (h3.lt k hkk) ?_, h4⟩, h5, h6, h7.keep fun p hp => World.cell?_of_block (hk p.block (by omega) (.inl hp)), h8⟩
    rcases hkk with rfl | hf | hf
    · exact .inl (h0.lt _ (.inl rfl))
    · exact .inl (h0.lt _ (.inr (.inl hf)))
    · exact (h4 k hf).imp (fun h => h0.lt _ (.inr (.inr h))) id
  · rintro pre v O O2 V hO ⟨h1, h2, ⟨F3, h3, h4⟩, h5, h6, h7, h8⟩
    exact ⟨h1, h2, ⟨F3, h3, fun k hf => (h4 k hf).imp id (hO k)⟩, h5, h6, h7, h8⟩
  · rintro pre x v O V ⟨post, hpost⟩ hsz hO h
    have hx := pts_mem n a han x (by rw [hpost]; simp)
    have hl := pts_sum n a
    rw [hpost, show pre ++ x :: post = (pre ++ [x]) ++ post by simp] at hl
    have h9 : sumL ((pre ++ [x]) ++ post) = sumL (pre ++ [x]) + sumL post := by simp [sumL]; omega
    rw [h9, sumL_snoc] at hl
    exact write1_any h0 hg hgF hO h x hx.1 hx.2.1 hx.2.2.1 (by omega) (by omega)
set_option maxHeartbeats 1000000 in
theorem writeM_any {w : World} {b t q : Nat} {l : Pg.Tb} {p : Pl} {F1 F2 : Nat → Prop} (h : MRep w b t q l p F1 F2) (a n c : Nat) (S : Option Addr) (bs : List UInt8) (han : a + n ≤ 16777216) (hn : bs.length = n) (hc : n ≤ c) (hS : Src w b F1 F2 S bs) :
    Calls Tryz.prog 34 #[bx b, .agg #[.int .u32 (a : Int), .int .i64 (n : Int)], .slice S n c] w fun e w' => (∃ v, e = .returned v) ∧ (∃ F3, MRep w' b t q l (wr p l (pts a n) bs) F1 F3 ∧ ∀ k, F3 k → F2 k ∨ w.heap.size ≤ k) ∧ Keep F2 w w' := by
  obtain ⟨W, hW⟩ : ∃ W, W = (w.alloc (.cells #[bx b] 25)).alloc (.cells #[.int .u32 (a : Int), .int .i64 (n : Int)] 68) := ⟨_, rfl⟩
  have hbW : Below w.heap.size w W := by rw [hW]; exact below2 _ _ _
  have hc0 : W.cell? ⟨w.heap.size, 0, none⟩ = some (bx b) := by
    rw [hW]
    exact (World.cell?_alloc_lt _ _ _ (by simp)).trans (cell_alloc_new _ _ _ _)
  have hsW : W.heap.size = w.heap.size + 1 + 1 := by rw [hW]; simp
  have h0 := h.below hbW
  have hgF : w.heap.size ≠ b ∧ ¬ F1 w.heap.size ∧ ¬ F2 w.heap.size := ⟨fun e => by have := h.lt b (.inl rfl); omega, fun hf => by have := h.lt _ (.inr (.inl hf)); omega, fun hf => by have := h.lt _ (.inr (.inr hf)); omega⟩
  have HP := Lib.hid (partwiseB_any a n 78 #[bx w.heap.size] S n c W F2 (WrRel W w.heap.size b t q l p bs F1 F2) han (wr_does h0 (by omega) hgF a n han hn.symm)
    ⟨Nat.le_refl _, hc0, ⟨F2, h0, fun k h => .inl h⟩, by simp [sumL, hn], hc, by simpa [sumL] using (hS.1.below hbW).more hbW.size, fun ad e hne => by
      have h1 := hS.2 ad e (by simpa [sumL] using hne)
      exact ⟨by have := h1.1; omega, h1.2⟩⟩)
  have HB := Lib.hid (And.intro hbW hsW)
  have HF2 := Lib.hid (fun k (hf : F2 k) => h.pool.lt k hf)
  clear h h0 hgF hc0 hbW hsW hS hn hc
  go_enter Tryz.func34, Tryz.ntmps34
  go_wp2_with fail
  rw [← hW]
  clear hW
  refine (HP.out).mono ?_
  rintro e w1 ⟨v, O, rfl, ⟨_, _, ⟨F3, h3, h4⟩, _, _, _, _⟩, hO, hK⟩
  have HF := Lib.hid (show (∃ F3, MRep w1 b t q l (wr p l (pts a n) bs) F1 F3 ∧ ∀ k, F3 k → F2 k ∨ w.heap.size ≤ k) ∧ Keep F2 w w1 from
    ⟨⟨F3, h3, fun k hf => (h4 k hf).imp id (fun ho => by have := hO k ho; have := HB.out.2; omega)⟩, (Keep.of_below (F := F2) HB.out.1).trans hK (fun _ _ h => h)⟩)
  clear h3 h4 hO hK
  go_wp2_with fail
  go_end0
  exact ⟨⟨_, rfl⟩, HF.out⟩
end Go.Proofs.YtkfljominljliaaGreat.Vm
