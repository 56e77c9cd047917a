import Derived.Test.YtkfljominljliaaGreatVf
namespace Go.Proofs.YtkfljominljliaaGreat.Vm
open Go.RowKit Go.Shelf Go.Maps Go.Sort
attribute [local go_sem] Oper.semAt_some

/- READ: THE BYTES OF A REACH. -/

set_option maxRecDepth 100000 in
theorem pts_len : ∀ (n a : Nat), (pts a n).length * 256 ≤ a % 256 + n + 255 := by
  intro n
  induction n using Nat.strongRecOn with
  | _ n ih =>
    intro a
    rcases Nat.eq_zero_or_pos n with rfl | hn
    · rw [pts_zero]
      simp
    · rw [pts_pos hn, List.length_cons]
      by_cases h : n ≤ 256 - a % 256
      · have e : n - min n (256 - a % 256) = 0 := by omega
        rw [e, pts_zero]
        simp only [List.length_nil]
        omega
      · obtain ⟨k, hk⟩ : ∃ k, k = 256 - a % 256 := ⟨_, rfl⟩
        have e1 : min n (256 - a % 256) = k := by omega
        have h2 := ih (n - k) (by omega) (a + k)
        have e2 : (a + k) % 256 = 0 := by omega
        rw [e1]
        rw [e2] at h2
        obtain ⟨m, hm⟩ : ∃ m, m = n - k := ⟨_, rfl⟩
        rw [← hm] at h2 ⊢
        generalize (pts (a + k) m).length = L at h2 ⊢
        clear e2 e1 ih
        omega
theorem sees_own {w : World} {base size n c : Nat} {A : Option Addr} {e : TypeId} {xs : List Value} (h : w.ownsRow base e size (.slice A n c) n xs) : Sees w w.heap.size A xs := fun hn => by
  have h0 : 0 < n := by
    rcases Nat.eq_zero_or_pos n with h0 | h0
    · have := h.1
      rw [h0, Nat.zero_mul] at this
      exact absurd (List.eq_nil_of_length_eq_zero this) hn
    · exact h0
  obtain ⟨g, cap, hv, _, hlt⟩ := h.form h0
  have hA : A = some ⟨g, 0, none⟩ := by injection hv
  subst hA
  exact ⟨_, rfl, hlt, h.cells (g := g) rfl⟩
theorem readP_le (p : Pl) (i a m : Int) : (readP p i a m).length ≤ m.toNat := by
  unfold readP
  split
  · split
    · rw [List.length_take]; omega
    · simp
  · simp
/-- the bytes of a reach -/
def rdB (p : Pl) (l : Pg.Tb) (a n : Nat) : List UInt8 := flat ((pts a n).map (pce p l))
theorem flat_le : ∀ (ls : List (List UInt8)), (∀ x ∈ ls, x.length ≤ 256) → (flat ls).length ≤ 256 * ls.length
  | [], _ => by simp [flat]
  | x :: r, h => by
    have h1 := h x (by simp)
    have h2 := flat_le r (fun y hy => h y (by simp [hy]))
    rw [flat, List.length_append, List.length_cons]
    omega
theorem rd_does {w : World} {gm b t q : Nat} {l : Pg.Tb} {p : Pl} {F1 F2 : Nat → Prop} (h0 : MRep w b t q l p F1 F2) (hg : gm < w.heap.size) (hgF : gm ≠ b ∧ ¬ F1 gm ∧ ¬ F2 gm) (a n : Nat) (han : a + n ≤ 16777216) :
    Does w a n 82 #[bx gm] (fun _ => False) (RdRel w gm b t q l p F1 F2) := by
  refine ⟨enters_of Tryz.func82 (by kernel_rfl) rfl, fun _ h => h.elim, ?_, ?_, ?_⟩
  · rintro pre v O V V' ⟨h1, h2, ⟨vs, h3, h4, h5, h6⟩, h7, h8⟩ hs hk
    refine ⟨h1, by omega, ⟨vs, h3, own_same h4 (fun k e => hk k (own_lt h4 e) (.inr (h5 k e))), h5, fun i hi => ?_⟩, h7.keep fun k hkk => hk k (h7.lt k hkk) (.inl (h0.lt k hkk)), (World.cell?_of_block (hk gm (by omega) (.inl hg))).trans h8⟩
    obtain ⟨u, hu, hm⟩ := h6 i hi
    exact ⟨u, hu, hm.keep (fun k h => h) (fun k ho e => hk k (hm.lt e) (.inr ho))⟩
  · rintro pre v O O2 V hO ⟨h1, h2, ⟨vs, h3, h4, h5, h6⟩, h7, h8⟩
    refine ⟨h1, h2, ⟨vs, h3, h4, fun k e => hO k (h5 k e), fun i hi => ?_⟩, h7, h8⟩
    obtain ⟨u, hu, hm⟩ := h6 i hi
    exact ⟨u, hu, hm.keep hO (fun k ho e => rfl)⟩
  · rintro pre x v O V ⟨post, hpost⟩ hsz hO h
    have hx := pts_mem n a han x (by rw [hpost]; simp)
    have hl := pts_len n a
    rw [hpost, List.length_append] at hl
    exact read1_any h0 hg hgF hO h (by omega) x hx.1 hx.2.1 (by omega)
set_option maxHeartbeats 1000000 in
theorem readM_any {w : World} {b t q : Nat} {l : Pg.Tb} {p : Pl} {F1 F2 : Nat → Prop} (h : MRep w b t q l p F1 F2) (a n : Nat) (han : a + n ≤ 16777216) :
    Calls Tryz.prog 35 #[bx b, .agg #[.int .u32 (a : Int), .int .i64 (n : Int)]] w fun e w' => ∃ v, e = .returned v ∧ w'.ownsRow w.heap.size 5 1 v (rdB p l a n).length (byt (rdB p l a n)) ∧ Below w.heap.size w w' := by
  obtain ⟨W, hW⟩ : ∃ W, W = (w.alloc (.cells #[bx b] 25)).alloc (.cells #[.int .u32 (a : Int), .int .i64 (n : Int)] 68) := ⟨_, rfl⟩
  have hbW : Below w.heap.size w W := by rw [hW]; exact below2 _ _ _
  have hc : W.cell? ⟨w.heap.size, 0, none⟩ = some (bx b) := by
    rw [hW]
    exact (World.cell?_alloc_lt _ _ _ (by simp)).trans (cell_alloc_new _ _ _ _)
  have hsW : W.heap.size = w.heap.size + 1 + 1 := by rw [hW]; simp
  have h0 := h.below hbW
  have hgF : w.heap.size ≠ b ∧ ¬ F1 w.heap.size ∧ ¬ F2 w.heap.size := ⟨fun e => by have := h.lt b (.inl rfl); omega, fun hf => by have := h.lt _ (.inr (.inl hf)); omega, fun hf => by have := h.lt _ (.inr (.inr hf)); omega⟩
  have HP := Lib.hid (partwiseL_any a n 82 #[bx w.heap.size] none 0 0 W (fun _ => False) (RdRel W w.heap.size b t q l p F1 F2) han (rd_does h0 (by omega) hgF a n han)
    ⟨rfl, Nat.le_refl _, ⟨[], rfl, World.ownsRow_nil _ _ _ _, fun k h => (by cases h), fun i h => absurd h (by simp)⟩, h0, hc⟩)
  have HB := Lib.hid (And.intro hbW hsW)
  clear h h0 hgF hc hbW hsW
  go_enter Tryz.func35, Tryz.ntmps35
  go_wp2_with fail
  rw [← hW]
  clear hW
  refine (HP.out).mono ?_
  rintro e w1 ⟨⟨sA, sm, sc⟩, O, rfl, h1, hO, hK⟩
  obtain ⟨h1, h2, ⟨vs, h3, h4, h5, h6⟩, _, _⟩ := h1
  simp only at h1
  subst h1
  have hb1 := hK.below (n := w.heap.size) (fun _ h => h.elim) (by have := HB.out.2; omega)
  have hl := pts_len n a
  obtain ⟨L, hL⟩ : ∃ L, L = (pts a n).length := ⟨_, rfl⟩
  have hls : ∀ x ∈ (pts a n).map (pce p l), x.length ≤ 256 := by
    intro x hx
    obtain ⟨y, hy, rfl⟩ := List.mem_map.1 hx
    have := pts_mem n a han y hy
    have h9 := readP_le p (Pg.getX l (y.1 : Int)).2.2 (y.2.1 : Int) (y.2.2 : Int)
    unfold pce
    omega
  have hfl := flat_le _ hls
  rw [List.length_map] at hfl
  have HJ := Lib.hid (joined_any ((pts a n).map (pce p l)) L sc w1.heap.size sA w1 (by rw [List.length_map, hL]) (by omega) (by omega) ⟨vs, by rw [h3, List.length_map], sees_own h4, fun i hi => by
    rw [List.length_map] at hi
    obtain ⟨u, hu, A, m, c, rfl, g1, g2, g3⟩ := h6 i hi
    refine ⟨A, m, c, hu, by rw [List.getElem_map, g1], ?_, by rw [List.getElem_map]; exact sees_own g2⟩
    have := hls _ (List.mem_map_of_mem (List.getElem_mem hi))
    omega⟩ (Nat.le_refl _))
  have HB1 := Lib.hid (below0 HB.out.1 (by exact hK.below (n := W.heap.size) (fun _ h => h.elim) (Nat.le_refl _)))
  rw [← hL]
  clear h2 h3 h4 h5 h6 hb1 hl hL hls hfl hO hK
  simp only [slV]
  go_wp2_with fail
  refine (HJ.out).mono ?_
  rintro e w2 ⟨v, rfl, hown, hb2⟩
  obtain ⟨A, c, rfl⟩ := own_slice hown
  have HF := Lib.hid (show w2.ownsRow w.heap.size 5 1 (.slice A (flat ((pts a n).map (pce p l))).length c) (rdB p l a n).length (byt (rdB p l a n)) ∧ Below w.heap.size w w2 from ⟨own_mono hown HB1.out.size, below0 HB1.out hb2⟩)
  clear hown hb2
  go_wp2_with fail
  go_ret
  exact ⟨_, rfl, HF.out⟩
end Go.Proofs.YtkfljominljliaaGreat.Vm
