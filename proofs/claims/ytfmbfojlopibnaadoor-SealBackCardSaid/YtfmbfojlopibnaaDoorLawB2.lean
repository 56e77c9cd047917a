import Derived.Test.YtfmbfojlopibnaaDoorLawB
namespace Go.Proofs.YtfmbfojlopibnaaDoor
open Go.RowKit Go.Shelf
attribute [local go_sem] Oper.semAt_some

/- SEALBACK, TWO TAGS. -/

theorem made_two (k at_ c s n c2 s2 n2 : Nat) (hk : k < 18446744073709551616) (ha : at_ < 4294967296) (hc : c < 8) (hs : s ≤ 65535) (hn : n < 4294967296) (hc2 : c2 < 8) (hs2 : s2 ≤ 65535) (hn2 : n2 < 4294967296) :
    ∃ H T H2 T2, Made k at_ c s n H T ∧ Made k at_ c2 s2 n2 H2 T2 ∧ (H2 = H ↔ c2 = c ∧ s2 = s ∧ n2 = n) ∧ (T2 = T ↔ c2 = c ∧ s2 = s ∧ n2 = n) := by
  refine ⟨_, _, _, _, made k at_ c s n hk ha hc hs hn, made k at_ c2 s2 n2 hk ha hc2 hs2 hn2, ⟨fun h => ?_, ?_⟩, ⟨fun h => ?_, ?_⟩⟩
  · exact tagW_inj hs2 hn2 hs hn (sealB_inj (tagW_lt hc2 hs2 hn2) (tagW_lt hc hs hn) h)
  · rintro ⟨rfl, rfl, rfl⟩
    rfl
  · exact tagW_inj hs2 hn2 hs hn (sealB_inj (tagW_lt hc2 hs2 hn2) (tagW_lt hc hs hn) h)
  · rintro ⟨rfl, rfl, rfl⟩
    rfl

set_option maxHeartbeats 16000000 in
set_option maxRecDepth 100000 in
theorem back_two (k at_ c s n c2 s2 n2 : Nat) (b0 b1 : Int) (w : World) (ht : Tab w) (hk : k < 18446744073709551616) (ha : at_ < 4294967296) (hc : c < 8) (hs : s ≤ 65535) (hn : n < 4294967296) (hc2 : c2 < 8) (hs2 : s2 ≤ 65535) (hn2 : n2 < 4294967296) :
    Calls Tryd.prog 6 #[.agg #[.int .u64 (k : Int), .int .u32 (at_ : Int)], .agg #[.int .i64 (c : Int), .int .i64 (s : Int), .int .u32 (n : Int), .int .i64 (c2 : Int), .int .i64 (s2 : Int), .int .u32 (n2 : Int)], .agg #[.int .i64 b0, .int .i64 b1]] w fun e w' => e = .returned (.bool true) ∧ Below w.heap.size w w' := by
  obtain ⟨H, T, H2, T2, M, M2, hHH, hTT⟩ := made_two k at_ c s n c2 s2 n2 hk ha hc hs hn hc2 hs2 hn2
  obtain ⟨w0, hw0⟩ : ∃ w0, w0 = (((w.alloc (.cells #[.int .u64 (k : Int), .int .u32 (at_ : Int)] 25)).alloc (.cells #[.int .i64 (c : Int), .int .i64 (s : Int), .int .u32 (n : Int), .int .i64 (c2 : Int), .int .i64 (s2 : Int), .int .u32 (n2 : Int)] 49)).alloc (.cells #[.int .i64 b0, .int .i64 b1] 50)).alloc (.cells #[.int .i64 (c : Int), .int .i64 (s : Int), .int .u32 (n : Int)] 27) := ⟨_, rfl⟩
  have hB0 : Below w.heap.size w w0 := by rw [hw0]; exact (below3 _ _ _ _).alloc (by simp; omega) _
  have hx0 : BX w k at_ c s c2 s2 n n2 b0 b1 w0 := by rw [hw0]; exact BX.new _ _ _ _ _ _ _ _ _ _ _
  have hwk := Lib.hid (fun W (hB : Below w.heap.size w W) => (show Calls Tryd.prog 12 #[] W (fun e w' => e = .returned (.bool true) ∧ Below w.heap.size w w') from (works_any W (ht.below hB)).mono fun e W' ⟨h1, h2⟩ => ⟨h1, hB.trans (h2.mono hB.size)⟩))
  have p0 : w0.cell? ⟨w.heap.size, 0, none⟩ = some (.int .u64 (k : Int)) := hx0.1.cell 0
  have p1 : w0.cell? ⟨w.heap.size, 1, none⟩ = some (.int .u32 (at_ : Int)) := hx0.1.cell 1
  have t0 : w0.cell? ⟨w.heap.size + 1 + 1 + 1, 0, none⟩ = some (.int .i64 (c : Int)) := hx0.2.2.2.cell 0
  have t1 : w0.cell? ⟨w.heap.size + 1 + 1 + 1, 1, none⟩ = some (.int .i64 (s : Int)) := hx0.2.2.2.cell 1
  have t2 : w0.cell? ⟨w.heap.size + 1 + 1 + 1, 2, none⟩ = some (.int .u32 (n : Int)) := hx0.2.2.2.cell 2
  have hs0 : w0.heap.size = w.heap.size + 4 := by rw [hw0]; simp
  have h1 := Lib.hid M.head
  have h2 := Lib.hid M.tail
  have h3 := Lib.hid M.opn
  have h4 := Lib.hid (fun A1 c1 A2 c2 W ht h1 h2 => M.look A1 c1 A2 c2 W H T M.hl M.tl ht h1 h2)
  have h5 := Lib.hid M.look
  have hHl := Lib.hid M.hl
  have hTl := Lib.hid M.tl
  have k1 := Lib.hid M2.head
  have k2 := Lib.hid M2.tail
  obtain ⟨q, hq⟩ : ∃ q, decide (c2 = c ∧ s2 = s ∧ n2 = n) = q := ⟨_, rfl⟩
  have heq := fun w => eq_tag (c2 : Int) (s2 : Int) (n2 : Int) (c : Int) (s : Int) (n : Int) w
  have hqi : decide ((c2 : Int) = (c : Int) ∧ (s2 : Int) = (s : Int) ∧ (n2 : Int) = (n : Int)) = q := by
    rw [← hq]
    exact decide_eq_decide.2 (by omega)
  rw [hqi] at heq
  obtain ⟨sU, hsU⟩ : ∃ sU, sU = str H2 := ⟨_, rfl⟩
  obtain ⟨sH, hsH⟩ : ∃ sH, sH = str H := ⟨_, rfl⟩
  obtain ⟨sV, hsV⟩ : ∃ sV, sV = str T2 := ⟨_, rfl⟩
  obtain ⟨sT, hsT⟩ : ∃ sT, sT = str T := ⟨_, rfl⟩
  have hc1 : (sU.toList == sH.toList) = q := by rw [hsU, hsH, str_eq, ← hq]; exact decide_eq_decide.2 hHH
  have hc3 : (sV.toList == sT.toList) = q := by rw [hsV, hsT, str_eq, ← hq]; exact decide_eq_decide.2 hTT
  have hH2 := Lib.hid M2.hl
  have hT2 := Lib.hid M2.tl
  clear M2 hHH hTT hq hqi hc2 hs2 hn2
  simp only [if_true] at h4
  have HT := Lib.hid ht
  clear M hk ha hc hs hn ht
  rw [hw0] at p0 p1 t0 t1 t2
  have HW0 := Lib.hid hw0
  clear hw0
  go_enter Tryd.func6, Tryd.ntmps6
  go_wp2_with fail
  rw [← HW0.out]
  clear HW0 p0 p1 t0 t1 t2
  refine (h1.out _ (HT.out.below hB0)).mono ?_
  rintro e w1 ⟨v, rfl, ho1, hb⟩
  obtain ⟨g1, c1, rfl, hge1, hlt1⟩ := ho1.form (by decide)
  have hB1 := hB0.trans (hb.mono hB0.size)
  have hx1 := hx0.below hb
  clear hb hB0 hx0 
  have p0 : w1.cell? ⟨w.heap.size, 0, none⟩ = some (.int .u64 (k : Int)) := hx1.1.cell 0
  have p1 : w1.cell? ⟨w.heap.size, 1, none⟩ = some (.int .u32 (at_ : Int)) := hx1.1.cell 1
  have t0 : w1.cell? ⟨w.heap.size + 1 + 1 + 1, 0, none⟩ = some (.int .i64 (c : Int)) := hx1.2.2.2.cell 0
  have t1 : w1.cell? ⟨w.heap.size + 1 + 1 + 1, 1, none⟩ = some (.int .i64 (s : Int)) := hx1.2.2.2.cell 1
  have t2 : w1.cell? ⟨w.heap.size + 1 + 1 + 1, 2, none⟩ = some (.int .u32 (n : Int)) := hx1.2.2.2.cell 2
  go_wp2_with fail
  refine (h2.out _ (HT.out.below hB1)).mono ?_
  rintro e w2 ⟨v, rfl, hl2, hb⟩
  obtain ⟨g2, d2, rfl, hge2, hlt2⟩ := hl2.form (by decide)
  clear p0 p1 t0 t1 t2 h1 h2
  have hB2 := hB1.trans (hb.mono hB1.size)
  have hx2 := hx1.below hb
  have ho2 := own_below ho1 hb (Nat.le_refl _)
  clear hb hB1 hx1 ho1
  have p0 : w2.cell? ⟨w.heap.size, 0, none⟩ = some (.int .u64 (k : Int)) := hx2.1.cell 0
  have p1 : w2.cell? ⟨w.heap.size, 1, none⟩ = some (.int .u32 (at_ : Int)) := hx2.1.cell 1
  go_wp2_with (go_at_call 11; refine (num_any _ _).mono ?_; rintro e w' ⟨rfl, rfl⟩)
  refine (h3.out _ _ _ (HT.out.below hB2) (Sees.of_own ho2)).mono ?_
  rintro e w3 ⟨rfl, hb⟩
  clear p0 p1 h3
  have hB3 := hB2.trans (hb.mono hB2.size)
  have hx3 := hx2.below hb
  have ho3 := own_below ho2 hb (Nat.le_refl _)
  have hl3 := own_below hl2 hb (Nat.le_refl _)
  clear hb hB2 hx2 ho2 hl2
  obtain ⟨w4, hw4⟩ : ∃ w4, w4 = w3.alloc (.cells #[.int .i64 (c : Int), .int .i64 (s : Int), .int .u32 (n : Int)] 27) := ⟨_, rfl⟩
  have hb : Below w3.heap.size w3 w4 := by rw [hw4]; exact below1 _ _
  have hu4 : Row w4 w3.heap.size 27 [.int .i64 (c : Int), .int .i64 (s : Int), .int .u32 (n : Int)] := by rw [hw4]; exact Row.new _ _ _
  have hB4 := hB3.trans (hb.mono hB3.size)
  have hx4 := hx3.below hb
  have ho4 := own_below ho3 hb (Nat.le_refl _)
  have hl4 := own_below hl3 hb (Nat.le_refl _)
  clear hb hB3 hx3 ho3 hl3
  have p0 : w4.cell? ⟨w.heap.size, 0, none⟩ = some (.int .u64 (k : Int)) := hx4.1.cell 0
  have p1 : w4.cell? ⟨w.heap.size, 1, none⟩ = some (.int .u32 (at_ : Int)) := hx4.1.cell 1
  have t0 : w4.cell? ⟨w.heap.size + 1 + 1 + 1, 0, none⟩ = some (.int .i64 (c : Int)) := hx4.2.2.2.cell 0
  have t1 : w4.cell? ⟨w.heap.size + 1 + 1 + 1, 1, none⟩ = some (.int .i64 (s : Int)) := hx4.2.2.2.cell 1
  have t2 : w4.cell? ⟨w.heap.size + 1 + 1 + 1, 2, none⟩ = some (.int .u32 (n : Int)) := hx4.2.2.2.cell 2
  rw [hw4] at p0 p1 t0 t1 t2
  have HW4 := Lib.hid hw4
  clear hw4
  go_wp2_with fail
  rw [← HW4.out]
  refine (h4.out _ _ _ _ _ (HT.out.below hB4) (Sees.of_own ho4) (Sees.of_own hl4)).mono ?_
  rintro e w5 ⟨rfl, hb⟩
  have hu5 := hu4.below hb
  clear HW4 hu4 h4 p0 p1 t0 t1 t2
  have hB5 := hB4.trans (hb.mono hB4.size)
  have hx5 := hx4.below hb
  have ho5 := own_below ho4 hb (Nat.le_refl _)
  have hl5 := own_below hl4 hb (Nat.le_refl _)
  clear hb hB4 hx4 ho4 hl4
  have p0 : w5.cell? ⟨w.heap.size, 0, none⟩ = some (.int .u64 (k : Int)) := hx5.1.cell 0
  have p1 : w5.cell? ⟨w.heap.size, 1, none⟩ = some (.int .u32 (at_ : Int)) := hx5.1.cell 1
  have q3 : w5.cell? ⟨w.heap.size + 1, 3, none⟩ = some (.int .i64 (c2 : Int)) := hx5.2.1.cell 3
  have q4 : w5.cell? ⟨w.heap.size + 1, 4, none⟩ = some (.int .i64 (s2 : Int)) := hx5.2.1.cell 4
  have q5 : w5.cell? ⟨w.heap.size + 1, 5, none⟩ = some (.int .u32 (n2 : Int)) := hx5.2.1.cell 5
  have t0 : w5.cell? ⟨w.heap.size + 1 + 1 + 1, 0, none⟩ = some (.int .i64 (c : Int)) := hx5.2.2.2.cell 0
  have t1 : w5.cell? ⟨w.heap.size + 1 + 1 + 1, 1, none⟩ = some (.int .i64 (s : Int)) := hx5.2.2.2.cell 1
  have t2 : w5.cell? ⟨w.heap.size + 1 + 1 + 1, 2, none⟩ = some (.int .u32 (n : Int)) := hx5.2.2.2.cell 2
  have u0 : w5.cell? ⟨w3.heap.size, 0, none⟩ = some (.int .i64 (c : Int)) := hu5.cell 0
  have u1 : w5.cell? ⟨w3.heap.size, 1, none⟩ = some (.int .i64 (s : Int)) := hu5.cell 1
  have u2 : w5.cell? ⟨w3.heap.size, 2, none⟩ = some (.int .u32 (n : Int)) := hu5.cell 2
  clear hu5
  go_wp2_with (go_at_call 11; refine (num_any _ _).mono ?_; rintro e w' ⟨rfl, rfl⟩)
  clear u0 u1 u2
  refine (k1.out _ (HT.out.below hB5)).mono ?_
  rintro e w5a ⟨v, rfl, hv5a, hb⟩
  obtain ⟨Au, cu, rfl⟩ := own_slice hv5a
  clear k1 p0 p1 t0 t1 t2 q3 q4 q5
  have hB5a := hB5.trans (hb.mono hB5.size)
  have hx5a := hx5.below hb
  have ho5a := own_below ho5 hb (Nat.le_refl _)
  have hl5a := own_below hl5 hb (Nat.le_refl _)
  clear hb hB5 hx5 ho5 hl5
  have p0 : w5a.cell? ⟨w.heap.size, 0, none⟩ = some (.int .u64 (k : Int)) := hx5a.1.cell 0
  have p1 : w5a.cell? ⟨w.heap.size, 1, none⟩ = some (.int .u32 (at_ : Int)) := hx5a.1.cell 1
  have q3 : w5a.cell? ⟨w.heap.size + 1, 3, none⟩ = some (.int .i64 (c2 : Int)) := hx5a.2.1.cell 3
  have q4 : w5a.cell? ⟨w.heap.size + 1, 4, none⟩ = some (.int .i64 (s2 : Int)) := hx5a.2.1.cell 4
  have q5 : w5a.cell? ⟨w.heap.size + 1, 5, none⟩ = some (.int .u32 (n2 : Int)) := hx5a.2.1.cell 5
  go_wp2_with (go_at_call 11; refine (num_any _ _).mono ?_; rintro e w' ⟨rfl, rfl⟩)
  refine (k2.out _ (HT.out.below hB5a)).mono ?_
  rintro e w5b ⟨v, rfl, hy5b, hb⟩
  obtain ⟨Av, cv, rfl⟩ := own_slice hy5b
  clear k2 p0 p1 q3 q4 q5
  have hB5b := hB5a.trans (hb.mono hB5a.size)
  have hx5b := hx5a.below hb
  have ho5b := own_below ho5a hb (Nat.le_refl _)
  have hl5b := own_below hl5a hb (Nat.le_refl _)
  have hv5b := own_below hv5a hb (Nat.le_refl _)
  clear hb hB5a hx5a ho5a hl5a hv5a
  have HSA := Lib.hid (fun X (hB : Below w5b.heap.size w5b X) => (show X.cell? ⟨w.heap.size + 1, 3, none⟩ = some (.int .i64 (c2 : Int)) ∧ X.cell? ⟨w.heap.size + 1, 4, none⟩ = some (.int .i64 (s2 : Int)) ∧ X.cell? ⟨w.heap.size + 1, 5, none⟩ = some (.int .u32 (n2 : Int)) ∧ X.cell? ⟨w.heap.size + 1 + 1 + 1, 0, none⟩ = some (.int .i64 (c : Int)) ∧ X.cell? ⟨w.heap.size + 1 + 1 + 1, 1, none⟩ = some (.int .i64 (s : Int)) ∧ X.cell? ⟨w.heap.size + 1 + 1 + 1, 2, none⟩ = some (.int .u32 (n : Int)) ∧ (convert 28 9 (.slice Au 16 cu)).run Tryd.prog X = .ok (.string sU) X ∧ (convert 28 9 (.slice (some ⟨g1, 0, none⟩) 16 c1)).run Tryd.prog X = .ok (.string sH) X ∧ (convert 28 9 (.slice Av 16 cv)).run Tryd.prog X = .ok (.string sV) X ∧ (convert 28 9 (.slice (some ⟨g2, 0, none⟩) 16 d2)).run Tryd.prog X = .ok (.string sT) X ∧ Below w5b.heap.size w5b X from
    ⟨(hx5b.below hB).2.1.cell 3, (hx5b.below hB).2.1.cell 4, (hx5b.below hB).2.1.cell 5, (hx5b.below hB).2.2.2.cell 0, (hx5b.below hB).2.2.2.cell 1, (hx5b.below hB).2.2.2.cell 2,
      by rw [hsU]; exact run_conv_sees X Tryd.underlying28 Tryd.underlying5 Tryd.underlying9 hH2.out ((Sees.of_own hv5b).below hB), by rw [hsH]; exact run_conv_sees X Tryd.underlying28 Tryd.underlying5 Tryd.underlying9 hHl.out ((Sees.of_own ho5b).below hB),
      by rw [hsV]; exact run_conv_sees X Tryd.underlying28 Tryd.underlying5 Tryd.underlying9 hT2.out ((Sees.of_own hy5b).below hB), by rw [hsT]; exact run_conv_sees X Tryd.underlying28 Tryd.underlying5 Tryd.underlying9 hTl.out ((Sees.of_own hl5b).below hB), hB⟩))
  have hdr := Lib.hid (show Below w5b.heap.size w5b w5b.drew from (Below.refl _ _).drew)
  have gn := Lib.hid num_any
  clear hv5b hy5b hH2 hT2 hsU hsH hsV hsT
  go_wp2_with fail
  cases q
  · focus
      refine wp_region_held_drew (S := fun X => X.cell? ⟨w.heap.size + 1, 3, none⟩ = some (.int .i64 (c2 : Int)) ∧ X.cell? ⟨w.heap.size + 1, 4, none⟩ = some (.int .i64 (s2 : Int)) ∧ X.cell? ⟨w.heap.size + 1, 5, none⟩ = some (.int .u32 (n2 : Int)) ∧ X.cell? ⟨w.heap.size + 1 + 1 + 1, 0, none⟩ = some (.int .i64 (c : Int)) ∧ X.cell? ⟨w.heap.size + 1 + 1 + 1, 1, none⟩ = some (.int .i64 (s : Int)) ∧ X.cell? ⟨w.heap.size + 1 + 1 + 1, 2, none⟩ = some (.int .u32 (n : Int)) ∧ (convert 28 9 (.slice Au 16 cu)).run Tryd.prog X = .ok (.string sU) X ∧ (convert 28 9 (.slice (some ⟨g1, 0, none⟩) 16 c1)).run Tryd.prog X = .ok (.string sH) X ∧ (convert 28 9 (.slice Av 16 cv)).run Tryd.prog X = .ok (.string sV) X ∧ (convert 28 9 (.slice (some ⟨g2, 0, none⟩) 16 d2)).run Tryd.prog X = .ok (.string sT) X ∧ Below w5b.heap.size w5b X) (by kernel_rfl) (HSA.out _ hdr.out) (fun hHeld => ?_)
      refine wpAnyH_take (i := 0) (v := ?_) rfl (by kernel_rfl) (by kernel_rfl) (by kernel_rfl) (fun _ _ _ h => h) (Or.inl ⟨by kernel_rfl, ?_⟩) hHeld ?_
      rotate_left
      focus (intro w hSw; (try dsimp only at hSw); go_simp; try with_reducible rfl)
      try simp only [Act.put]
      refine wpAnyH_ready (rs := [1]) (by kernel_rfl) (by simp) ?_
      refine AllReadyH.cons rfl (fun K hK => ?_) AllReadyH.nil
      go_simp
      refine (gn.out _ _).mono ?_
      rintro e w' ⟨rfl, rfl⟩
      refine hK.out _ _ (HSA.out _ hdr.out) (fun hHeld => ?_)
      clear hK K
      refine wpAnyH_ready (rs := [2]) (by kernel_rfl) (by simp) ?_
      refine AllReadyH.cons rfl (fun K hK => ?_) AllReadyH.nil
      go_simp
      refine hK.out _ _ (HSA.out _ hdr.out) (fun hHeld => ?_)
      clear hK K
      refine wpAnyH_ready (rs := [3]) (by kernel_rfl) (by simp) ?_
      refine AllReadyH.cons rfl (fun K hK => ?_) AllReadyH.nil
      go_simp
      refine hK.out _ _ (HSA.out _ hdr.out) (fun hHeld => ?_)
      clear hK K
      refine wpAnyH_take (i := 4) (v := ?_) rfl (by kernel_rfl) (by kernel_rfl) (by kernel_rfl) (fun _ _ _ h => h) (Or.inl ⟨by kernel_rfl, ?_⟩) hHeld ?_
      rotate_left
      focus (intro w hSw; (try dsimp only at hSw); go_simp; try with_reducible rfl)
      try simp only [Act.put]
      refine wpAnyH_take (i := 5) (v := ?_) rfl (by kernel_rfl) (by kernel_rfl) (by kernel_rfl) (fun _ _ _ h => h) (Or.inl ⟨by kernel_rfl, ?_⟩) hHeld ?_
      rotate_left
      focus (intro w hSw; (try dsimp only at hSw); go_simp; try with_reducible rfl)
      try simp only [Act.put]
      refine wpAnyH_take (i := 6) (v := ?_) rfl (by kernel_rfl) (by kernel_rfl) (by kernel_rfl) (fun _ _ _ h => h) (Or.inl ⟨by kernel_rfl, ?_⟩) hHeld ?_
      rotate_left
      focus (intro w hSw; (try dsimp only at hSw); go_simp; try with_reducible rfl)
      try simp only [Act.put]
      refine wpAnyH_take (i := 7) (v := ?_) rfl (by kernel_rfl) (by kernel_rfl) (by kernel_rfl) (fun _ _ _ h => h) (Or.inl ⟨by kernel_rfl, ?_⟩) hHeld ?_
      rotate_left
      focus (intro w hSw; (try dsimp only at hSw); go_simp; try with_reducible rfl)
      try simp only [Act.put]
      refine wpAnyH_take (i := 9) (v := ?_) rfl (by kernel_rfl) (by kernel_rfl) (by kernel_rfl) (fun _ _ _ h => h) (Or.inl ⟨by kernel_rfl, ?_⟩) hHeld ?_
      rotate_left
      focus (intro w hSw; (try dsimp only at hSw); go_simp; try with_reducible rfl)
      try simp only [Act.put]
      refine wpAnyH_take (i := 10) (v := ?_) rfl (by kernel_rfl) (by kernel_rfl) (by kernel_rfl) (fun _ _ _ h => h) (Or.inl ⟨by kernel_rfl, ?_⟩) hHeld ?_
      rotate_left
      focus (intro w hSw; (try dsimp only at hSw); go_simp; try with_reducible rfl)
      try simp only [Act.put]
      refine wpAnyH_take (i := 11) (v := ?_) rfl (by kernel_rfl) (by kernel_rfl) (by kernel_rfl) (fun _ _ _ h => h) (Or.inl ⟨by kernel_rfl, ?_⟩) hHeld ?_
      rotate_left
      focus (intro w hSw; (try dsimp only at hSw); go_simp; try with_reducible rfl)
      try simp only [Act.put]
      refine wpAnyH_take (i := 8) (v := ?_) rfl (by kernel_rfl) (by kernel_rfl) (by kernel_rfl) (fun _ _ _ h => h) (Or.inl ⟨by kernel_rfl, ?_⟩) hHeld ?_
      rotate_left
      focus (intro w hSw; (try dsimp only at hSw); go_simp; try with_reducible rfl)
      try simp only [Act.put]
      refine wpAnyH_take (i := 12) (v := ?_) rfl (by kernel_rfl) (by kernel_rfl) (by kernel_rfl) (fun _ _ _ h => h) (Or.inl ⟨by kernel_rfl, ?_⟩) hHeld ?_
      rotate_left
      focus (intro w hSw; (try dsimp only at hSw); go_simp; try with_reducible rfl)
      try simp only [Act.put]
      refine wpAnyH_ready (rs := [13]) (by kernel_rfl) (by simp) ?_
      refine AllReadyH.cons rfl (fun K hK => ?_) AllReadyH.nil
      go_simp
      refine hK.out _ _ (HSA.out _ hdr.out) (fun hHeld => ?_)
      clear hK K
      refine wpAnyH_ready (rs := [14]) (by kernel_rfl) (by simp) ?_
      refine AllReadyH.cons rfl (fun K hK => ?_) AllReadyH.nil
      go_simp
      refine hK.out _ _ (HSA.out _ hdr.out) (fun hHeld => ?_)
      clear hK K
      refine wpAnyH_ready (rs := [15]) (by kernel_rfl) (by simp) ?_
      refine AllReadyH.cons rfl (fun K hK => ?_) AllReadyH.nil
      go_simp
      refine hK.out _ _ (HSA.out _ hdr.out) (fun hHeld => ?_)
      clear hK K
      refine wpAnyH_take (i := 16) (v := ?_) rfl (by kernel_rfl) (by kernel_rfl) (by kernel_rfl) (fun _ _ _ h => h) (Or.inl ⟨by kernel_rfl, ?_⟩) hHeld ?_
      rotate_left
      focus (intro w hSw; (try dsimp only at hSw); go_simp; try with_reducible rfl)
      try simp only [Act.put]
      refine wpAnyH_take (i := 17) (v := ?_) rfl (by kernel_rfl) (by kernel_rfl) (by kernel_rfl) (fun _ _ _ h => h) (Or.inl ⟨by kernel_rfl, ?_⟩) hHeld ?_
      rotate_left
      focus (intro w hSw; (try dsimp only at hSw); go_simp; try with_reducible rfl)
      try simp only [Act.put]
      refine wpAnyH_take (i := 18) (v := ?_) rfl (by kernel_rfl) (by kernel_rfl) (by kernel_rfl) (fun _ _ _ h => h) (Or.inl ⟨by kernel_rfl, ?_⟩) hHeld ?_
      rotate_left
      focus (intro w hSw; (try dsimp only at hSw); go_simp; try with_reducible rfl)
      try simp only [Act.put]
      refine wpAnyH_take (i := 19) (v := ?_) rfl (by kernel_rfl) (by kernel_rfl) (by kernel_rfl) (fun _ _ _ h => h) (Or.inl ⟨by kernel_rfl, ?_⟩) hHeld ?_
      rotate_left
      focus (intro w hSw; (try dsimp only at hSw); go_simp; try with_reducible rfl)
      try simp only [Act.put]
      refine wpAnyH_take (i := 21) (v := ?_) rfl (by kernel_rfl) (by kernel_rfl) (by kernel_rfl) (fun _ _ _ h => h) (Or.inl ⟨by kernel_rfl, ?_⟩) hHeld ?_
      rotate_left
      focus (intro w hSw; (try dsimp only at hSw); go_simp; try with_reducible rfl)
      try simp only [Act.put]
      refine wpAnyH_take (i := 22) (v := ?_) rfl (by kernel_rfl) (by kernel_rfl) (by kernel_rfl) (fun _ _ _ h => h) (Or.inl ⟨by kernel_rfl, ?_⟩) hHeld ?_
      rotate_left
      focus (intro w hSw; (try dsimp only at hSw); go_simp; try with_reducible rfl)
      try simp only [Act.put]
      refine wpAnyH_take (i := 23) (v := ?_) rfl (by kernel_rfl) (by kernel_rfl) (by kernel_rfl) (fun _ _ _ h => h) (Or.inl ⟨by kernel_rfl, ?_⟩) hHeld ?_
      rotate_left
      focus (intro w hSw; (try dsimp only at hSw); go_simp; try with_reducible rfl)
      try simp only [Act.put]
      refine wpAnyH_take (i := 20) (v := ?_) rfl (by kernel_rfl) (by kernel_rfl) (by kernel_rfl) (fun _ _ _ h => h) (Or.inl ⟨by kernel_rfl, ?_⟩) hHeld ?_
      rotate_left
      focus (intro w hSw; (try dsimp only at hSw); go_simp; try with_reducible rfl)
      try simp only [Act.put]
      refine wpAnyH_take (i := 24) (v := ?_) rfl (by kernel_rfl) (by kernel_rfl) (by kernel_rfl) (fun _ _ _ h => h) (Or.inl ⟨by kernel_rfl, ?_⟩) hHeld ?_
      rotate_left
      focus (intro w hSw; (try dsimp only at hSw); go_simp; try with_reducible rfl)
      try simp only [Act.put]
      refine wpAnyH_ready (rs := [25]) (by kernel_rfl) (by simp) ?_
      refine AllReadyH.cons rfl (fun K hK => ?_) AllReadyH.nil
      go_simp
      refine hK.out _ _ (HSA.out _ hdr.out) (fun hHeld => ?_)
      clear hK K
      refine wpAnyH_ready (rs := [26]) (by kernel_rfl) (by simp) ?_
      refine AllReadyH.cons rfl (fun K hK => ?_) AllReadyH.nil
      go_simp
      refine hK.out _ _ (HSA.out _ hdr.out) (fun hHeld => ?_)
      clear hK K
      refine wpAnyH_done (by kernel_rfl) ?_ _
      clear hHeld HSA hdr gn heq
      obtain ⟨w6, hw6⟩ : ∃ w6, w6 = w5b.drew := ⟨_, rfl⟩
      have hb : Below w5b.heap.size w5b w6 := by rw [hw6]; exact (Below.refl _ _).drew
      rw [← hw6]
      clear hw6
      have hB6 := hB5b.trans (hb.mono hB5b.size)
      have hx6 := hx5b.below hb
      have ho6 := own_below ho5b hb (Nat.le_refl _)
      have hl6 := own_below hl5b hb (Nat.le_refl _)
      clear hb hB5b hx5b ho5b hl5b
      have z0 : w6.cell? ⟨w.heap.size + 1 + 1, 0, none⟩ = some (.int .i64 b0) := hx6.2.2.1.cell 0
      have z1 : w6.cell? ⟨w.heap.size + 1 + 1, 1, none⟩ = some (.int .i64 b1) := hx6.2.2.1.cell 1
      go_wp2_with fail
      go_region_held3 (fun W => W.cell? ⟨w.heap.size + 1 + 1, 0, none⟩ = some (.int .i64 b0) ∧ W.cell? ⟨w.heap.size + 1 + 1, 1, none⟩ = some (.int .i64 b1)) (first | go_keep | trivial) (fail)
      obtain ⟨y, hy, hyl⟩ : ∃ y : Nat, IntKind.u8.wrap (bits BinOp.and IntKind.i64 b1 255) = (y : Int) ∧ y < 256 := by
        refine ⟨(IntKind.u8.wrap (bits BinOp.and IntKind.i64 b1 255)).toNat, ?_, ?_⟩ <;> (rw [IntKind.wrap_u8]; omega)
      rw [hy]
      obtain ⟨w7, hw7⟩ : ∃ w7, w7 = w6.drew := ⟨_, rfl⟩
      have hb : Below w6.heap.size w6 w7 := by rw [hw7]; exact (Below.refl _ _).drew
      rw [← hw7]
      clear hw7 hy z0 z1
      have hB7 := hB6.trans (hb.mono hB6.size)
      have hx7 := hx6.below hb
      have ho7 := own_below ho6 hb (Nat.le_refl _)
      have hl7 := own_below hl6 hb (Nat.le_refl _)
      clear hb hB6 hx6 ho6 hl6
      rcases (show b0 < 0 ∨ 31 < b0 ∨ (¬ b0 < 0 ∧ ¬ 31 < b0 ∧ y = 0) ∨ (¬ y = 0 ∧ ∃ j : Nat, b0 = j ∧ j < 16) ∨ (¬ y = 0 ∧ ∃ j : Nat, b0 = 16 + j ∧ j < 16) by
        by_cases h1 : b0 < 0
        · exact .inl h1
        by_cases h2 : 31 < b0
        · exact .inr (.inl h2)
        by_cases h3 : y = 0
        · exact .inr (.inr (.inl ⟨h1, h2, h3⟩))
        by_cases h4 : b0 < 16
        · exact .inr (.inr (.inr (.inl ⟨h3, b0.toNat, by omega, by omega⟩)))
        · exact .inr (.inr (.inr (.inr ⟨h3, (b0 - 16).toNat, by omega, by omega⟩)))) with h | h | ⟨h1, h2, rfl⟩ | ⟨hy0, j, rfl, hj⟩ | ⟨hy0, j, hbj, hj⟩
      · have e1 : decide (b0 < 0) = true := decide_eq_true h
        clear h hx7 ho7 hl7
        go_wp2_with fail
        refine (hwk.out _ hB7).mono ?_
        rintro e wz ⟨rfl, hBz⟩
        go_wp2_with fail
        go_ret
        exact ⟨rfl, hBz⟩
      · have e1 : decide (b0 < 0) = false := decide_eq_false (by omega)
        have e2 : decide (31 < b0) = true := decide_eq_true h
        clear h hx7 ho7 hl7
        go_wp2_with fail
        refine (hwk.out _ hB7).mono ?_
        rintro e wz ⟨rfl, hBz⟩
        go_wp2_with fail
        go_ret
        exact ⟨rfl, hBz⟩
      · have e1 : decide (b0 < 0) = false := decide_eq_false h1
        have e2 : decide (31 < b0) = false := decide_eq_false h2
        clear h1 h2 hx7 ho7 hl7
        go_wp2_with fail
        refine (hwk.out _ hB7).mono ?_
        rintro e wz ⟨rfl, hBz⟩
        go_wp2_with fail
        go_ret
        exact ⟨rfl, hBz⟩
      · have e1 : decide ((j : Int) < 0) = false := decide_eq_false (by omega)
        have e2 : decide (31 < (j : Int)) = false := decide_eq_false (by omega)
        have e3 : ((y : Int) == 0) = false := by simp [hy0]
        have e4 : decide ((j : Int) < 16) = true := decide_eq_true (by omega)
        have hjl : j < H.length := by rw [hHl.out]; exact hj
        have hcl : w7.cell? ⟨g1, j, none⟩ = some (.int .u8 (H[j].toNat : Int)) := by rw [ho7.cellAt j (by omega), byt_get hjl]
        have hfl := ho7.frozenAt j
        obtain ⟨b, hb⟩ : ∃ b, b = H[j] := ⟨_, rfl⟩
        have hbl := b.toNat_lt
        have hxl : b.toNat ^^^ y < 256 := Nat.xor_lt_two_pow (n := 8) (by omega) (by omega)
        obtain ⟨b', hb'⟩ : ∃ b' : UInt8, b' = UInt8.ofNat (b.toNat ^^^ y) := ⟨_, rfl⟩
        have hbn : b'.toNat = b.toNat ^^^ y := by rw [hb', UInt8.toNat_ofNat']; exact Nat.mod_eq_of_lt hxl
        have hxe : bits .xor .u8 (b.toNat : Int) (y : Int) = (b'.toNat : Int) := by rw [xor8 _ _ (by omega) (by omega), hbn]
        have hne : H.set j b' ≠ H := set_ne hjl (by
          rw [← hb]
          intro h
          have h2 : b'.toNat = b.toNat := congrArg UInt8.toNat h
          rw [hbn] at h2
          have h3 : b.toNat ^^^ (b.toNat ^^^ y) = b.toNat ^^^ b.toNat := by rw [h2]
          rw [← Nat.xor_assoc, Nat.xor_self, Nat.zero_xor] at h3
          omega)
        have hlen : (H.set j b').length = 16 := by rw [List.length_set]; exact hHl.out
        rw [← hb] at hcl
        obtain ⟨w8, hw8⟩ : ∃ w8, w8 = w7.setCell ⟨g1, j, none⟩ (.int .u8 (b'.toNat : Int)) := ⟨_, rfl⟩
        have hB8 : Below w.heap.size w w8 := by rw [hw8]; exact hB7.setCell (by simp; omega) _
        have hx8 : BX w k at_ c s c2 s2 n n2 (j : Int) b1 w8 := by
          have hh : ∀ q, q ≠ g1 → w8.heap[q]? = w7.heap[q]? := fun q hq => by rw [hw8]; exact heap_set hq
          exact ⟨hx7.1.same (hh _ (by omega)), hx7.2.1.same (hh _ (by omega)), hx7.2.2.1.same (hh _ (by omega)), hx7.2.2.2.same (hh _ (by omega))⟩
        have ho8 : w8.ownsRow w0.heap.size 5 1 (.slice (some ⟨g1, 0, none⟩) 16 c1) 16 (byt (H.set j b')) := by rw [hw8, byt_set]; exact (ho7.stored j _).1
        have hl8 : w8.ownsRow w1.heap.size 5 1 (.slice (some ⟨g2, 0, none⟩) 16 d2) 16 (byt T) := own_same hl7 (fun q hq => by
          simp only [Value.ownBlock, Option.some.injEq] at hq
          subst hq
          rw [hw8]
          exact heap_set (by omega))
        have k5 := Lib.hid (h5.out (some ⟨g1, 0, none⟩) c1 (some ⟨g2, 0, none⟩) d2 w8 (H.set j b') T hlen hTl.out (HT.out.below hB8) (Sees.of_own ho8) (Sees.of_own hl8))
        rw [if_neg hne] at k5
        have p0 : w8.cell? ⟨w.heap.size, 0, none⟩ = some (.int .u64 (k : Int)) := hx8.1.cell 0
        have p1 : w8.cell? ⟨w.heap.size, 1, none⟩ = some (.int .u32 (at_ : Int)) := hx8.1.cell 1
        have t0 : w8.cell? ⟨w.heap.size + 1 + 1 + 1, 0, none⟩ = some (.int .i64 (c : Int)) := hx8.2.2.2.cell 0
        have t1 : w8.cell? ⟨w.heap.size + 1 + 1 + 1, 1, none⟩ = some (.int .i64 (s : Int)) := hx8.2.2.2.cell 1
        have t2 : w8.cell? ⟨w.heap.size + 1 + 1 + 1, 2, none⟩ = some (.int .u32 (n : Int)) := hx8.2.2.2.cell 2
        rw [hw8] at p0 p1 t0 t1 t2
        have HW8 := Lib.hid hw8
        have i0 : (0 : Int) ≤ (j : Int) := by omega
        have i1 : (j : Int) < 16 := by omega
        clear hw8 hb hb' hbl hxl hbn hne hlen hx7 ho7 hl7 hB7 hx8 ho8 hl8 hjl
        go_wp2_with fail
        rw [← HW8.out]
        refine (k5.out).mono ?_
        rintro e w9 ⟨rfl, hb⟩
        have hB9 := hB8.trans (hb.mono hB8.size)
        clear p0 p1 t0 t1 t2 hcl hfl hxe HW8 hb k5
        go_wp2_with (go_at_call 11; refine (num_any _ _).mono ?_; rintro e w' ⟨rfl, rfl⟩)
        refine (hwk.out _ hB9).mono ?_
        rintro e wz ⟨rfl, hBz⟩
        go_wp2_with fail
        go_ret
        exact ⟨rfl, hBz⟩
      · have e1 : decide (b0 < 0) = false := decide_eq_false (by omega)
        have e2 : decide (31 < b0) = false := decide_eq_false (by omega)
        have e3 : ((y : Int) == 0) = false := by simp [hy0]
        have e4 : decide (b0 < 16) = false := decide_eq_false (by omega)
        have e5 : b0 - 16 = (j : Int) := by omega
        have e6 : IntKind.i64.wrap (j : Int) = (j : Int) := wrapI _ (by omega) (by omega)
        have e7 : IntKind.i64.wrap (b0 - 16) = (j : Int) := by rw [e5, e6]
        clear hbj
        have hjl : j < T.length := by rw [hTl.out]; exact hj
        have hcl : w7.cell? ⟨g2, j, none⟩ = some (.int .u8 (T[j].toNat : Int)) := by rw [hl7.cellAt j (by omega), byt_get hjl]
        have hfl := hl7.frozenAt j
        obtain ⟨b, hb⟩ : ∃ b, b = T[j] := ⟨_, rfl⟩
        have hbl := b.toNat_lt
        have hxl : b.toNat ^^^ y < 256 := Nat.xor_lt_two_pow (n := 8) (by omega) (by omega)
        obtain ⟨b', hb'⟩ : ∃ b' : UInt8, b' = UInt8.ofNat (b.toNat ^^^ y) := ⟨_, rfl⟩
        have hbn : b'.toNat = b.toNat ^^^ y := by rw [hb', UInt8.toNat_ofNat']; exact Nat.mod_eq_of_lt hxl
        have hxe : bits .xor .u8 (b.toNat : Int) (y : Int) = (b'.toNat : Int) := by rw [xor8 _ _ (by omega) (by omega), hbn]
        have hne : T.set j b' ≠ T := set_ne hjl (by
          rw [← hb]
          intro h
          have h2 : b'.toNat = b.toNat := congrArg UInt8.toNat h
          rw [hbn] at h2
          have h3 : b.toNat ^^^ (b.toNat ^^^ y) = b.toNat ^^^ b.toNat := by rw [h2]
          rw [← Nat.xor_assoc, Nat.xor_self, Nat.zero_xor] at h3
          omega)
        have hlen : (T.set j b').length = 16 := by rw [List.length_set]; exact hTl.out
        rw [← hb] at hcl
        obtain ⟨w8, hw8⟩ : ∃ w8, w8 = w7.setCell ⟨g2, j, none⟩ (.int .u8 (b'.toNat : Int)) := ⟨_, rfl⟩
        have hB8 : Below w.heap.size w w8 := by rw [hw8]; exact hB7.setCell (by simp; omega) _
        have hx8 : BX w k at_ c s c2 s2 n n2 b0 b1 w8 := by
          have hh : ∀ q, q ≠ g2 → w8.heap[q]? = w7.heap[q]? := fun q hq => by rw [hw8]; exact heap_set hq
          exact ⟨hx7.1.same (hh _ (by omega)), hx7.2.1.same (hh _ (by omega)), hx7.2.2.1.same (hh _ (by omega)), hx7.2.2.2.same (hh _ (by omega))⟩
        have hl8 : w8.ownsRow w1.heap.size 5 1 (.slice (some ⟨g2, 0, none⟩) 16 d2) 16 (byt (T.set j b')) := by rw [hw8, byt_set]; exact (hl7.stored j _).1
        have ho8 : w8.ownsRow w0.heap.size 5 1 (.slice (some ⟨g1, 0, none⟩) 16 c1) 16 (byt H) := own_same ho7 (fun q hq => by
          simp only [Value.ownBlock, Option.some.injEq] at hq
          subst hq
          rw [hw8]
          exact heap_set (by omega))
        have k5 := Lib.hid (h5.out (some ⟨g1, 0, none⟩) c1 (some ⟨g2, 0, none⟩) d2 w8 H (T.set j b') hHl.out hlen (HT.out.below hB8) (Sees.of_own ho8) (Sees.of_own hl8))
        rw [if_pos rfl, if_neg hne] at k5
        have p0 : w8.cell? ⟨w.heap.size, 0, none⟩ = some (.int .u64 (k : Int)) := hx8.1.cell 0
        have p1 : w8.cell? ⟨w.heap.size, 1, none⟩ = some (.int .u32 (at_ : Int)) := hx8.1.cell 1
        have t0 : w8.cell? ⟨w.heap.size + 1 + 1 + 1, 0, none⟩ = some (.int .i64 (c : Int)) := hx8.2.2.2.cell 0
        have t1 : w8.cell? ⟨w.heap.size + 1 + 1 + 1, 1, none⟩ = some (.int .i64 (s : Int)) := hx8.2.2.2.cell 1
        have t2 : w8.cell? ⟨w.heap.size + 1 + 1 + 1, 2, none⟩ = some (.int .u32 (n : Int)) := hx8.2.2.2.cell 2
        rw [hw8] at p0 p1 t0 t1 t2
        have HW8 := Lib.hid hw8
        have i0 : (0 : Int) ≤ (j : Int) := by omega
        have i1 : (j : Int) < 16 := by omega
        clear hw8 hb hb' hbl hxl hbn hne hlen hx7 ho7 hl7 hB7 hx8 ho8 hl8 hjl
        go_wp2_with fail
        rw [← HW8.out]
        refine (k5.out).mono ?_
        rintro e w9 ⟨rfl, hb⟩
        have hB9 := hB8.trans (hb.mono hB8.size)
        clear p0 p1 t0 t1 t2 hcl hfl hxe HW8 hb k5
        go_wp2_with (go_at_call 11; refine (num_any _ _).mono ?_; rintro e w' ⟨rfl, rfl⟩)
        refine (hwk.out _ hB9).mono ?_
        rintro e wz ⟨rfl, hBz⟩
        go_wp2_with fail
        go_ret
        exact ⟨rfl, hBz⟩
  · focus
      refine wp_region_held_drew (S := fun X => X.cell? ⟨w.heap.size + 1, 3, none⟩ = some (.int .i64 (c2 : Int)) ∧ X.cell? ⟨w.heap.size + 1, 4, none⟩ = some (.int .i64 (s2 : Int)) ∧ X.cell? ⟨w.heap.size + 1, 5, none⟩ = some (.int .u32 (n2 : Int)) ∧ X.cell? ⟨w.heap.size + 1 + 1 + 1, 0, none⟩ = some (.int .i64 (c : Int)) ∧ X.cell? ⟨w.heap.size + 1 + 1 + 1, 1, none⟩ = some (.int .i64 (s : Int)) ∧ X.cell? ⟨w.heap.size + 1 + 1 + 1, 2, none⟩ = some (.int .u32 (n : Int)) ∧ (convert 28 9 (.slice Au 16 cu)).run Tryd.prog X = .ok (.string sU) X ∧ (convert 28 9 (.slice (some ⟨g1, 0, none⟩) 16 c1)).run Tryd.prog X = .ok (.string sH) X ∧ (convert 28 9 (.slice Av 16 cv)).run Tryd.prog X = .ok (.string sV) X ∧ (convert 28 9 (.slice (some ⟨g2, 0, none⟩) 16 d2)).run Tryd.prog X = .ok (.string sT) X ∧ Below w5b.heap.size w5b X) (by kernel_rfl) (HSA.out _ hdr.out) (fun hHeld => ?_)
      refine wpAnyH_take (i := 0) (v := ?_) rfl (by kernel_rfl) (by kernel_rfl) (by kernel_rfl) (fun _ _ _ h => h) (Or.inl ⟨by kernel_rfl, ?_⟩) hHeld ?_
      rotate_left
      focus (intro w hSw; (try dsimp only at hSw); go_simp; try with_reducible rfl)
      try simp only [Act.put]
      refine wpAnyH_ready (rs := [1]) (by kernel_rfl) (by simp) ?_
      refine AllReadyH.cons rfl (fun K hK => ?_) AllReadyH.nil
      go_simp
      refine (gn.out _ _).mono ?_
      rintro e w' ⟨rfl, rfl⟩
      refine hK.out _ _ (HSA.out _ hdr.out) (fun hHeld => ?_)
      clear hK K
      refine wpAnyH_ready (rs := [2]) (by kernel_rfl) (by simp) ?_
      refine AllReadyH.cons rfl (fun K hK => ?_) AllReadyH.nil
      go_simp
      refine hK.out _ _ (HSA.out _ hdr.out) (fun hHeld => ?_)
      clear hK K
      refine wpAnyH_ready (rs := [3]) (by kernel_rfl) (by simp) ?_
      refine AllReadyH.cons rfl (fun K hK => ?_) AllReadyH.nil
      go_simp
      refine hK.out _ _ (HSA.out _ hdr.out) (fun hHeld => ?_)
      clear hK K
      refine wpAnyH_take (i := 4) (v := ?_) rfl (by kernel_rfl) (by kernel_rfl) (by kernel_rfl) (fun _ _ _ h => h) (Or.inl ⟨by kernel_rfl, ?_⟩) hHeld ?_
      rotate_left
      focus (intro w hSw; (try dsimp only at hSw); go_simp; try with_reducible rfl)
      try simp only [Act.put]
      refine wpAnyH_take (i := 5) (v := ?_) rfl (by kernel_rfl) (by kernel_rfl) (by kernel_rfl) (fun _ _ _ h => h) (Or.inl ⟨by kernel_rfl, ?_⟩) hHeld ?_
      rotate_left
      focus (intro w hSw; (try dsimp only at hSw); go_simp; try with_reducible rfl)
      try simp only [Act.put]
      refine wpAnyH_take (i := 6) (v := ?_) rfl (by kernel_rfl) (by kernel_rfl) (by kernel_rfl) (fun _ _ _ h => h) (Or.inl ⟨by kernel_rfl, ?_⟩) hHeld ?_
      rotate_left
      focus (intro w hSw; (try dsimp only at hSw); go_simp; try with_reducible rfl)
      try simp only [Act.put]
      refine wpAnyH_take (i := 7) (v := ?_) rfl (by kernel_rfl) (by kernel_rfl) (by kernel_rfl) (fun _ _ _ h => h) (Or.inl ⟨by kernel_rfl, ?_⟩) hHeld ?_
      rotate_left
      focus (intro w hSw; (try dsimp only at hSw); go_simp; try with_reducible rfl)
      try simp only [Act.put]
      refine wpAnyH_take (i := 9) (v := ?_) rfl (by kernel_rfl) (by kernel_rfl) (by kernel_rfl) (fun _ _ _ h => h) (Or.inl ⟨by kernel_rfl, ?_⟩) hHeld ?_
      rotate_left
      focus (intro w hSw; (try dsimp only at hSw); go_simp; try with_reducible rfl)
      try simp only [Act.put]
      refine wpAnyH_take (i := 10) (v := ?_) rfl (by kernel_rfl) (by kernel_rfl) (by kernel_rfl) (fun _ _ _ h => h) (Or.inl ⟨by kernel_rfl, ?_⟩) hHeld ?_
      rotate_left
      focus (intro w hSw; (try dsimp only at hSw); go_simp; try with_reducible rfl)
      try simp only [Act.put]
      refine wpAnyH_take (i := 11) (v := ?_) rfl (by kernel_rfl) (by kernel_rfl) (by kernel_rfl) (fun _ _ _ h => h) (Or.inl ⟨by kernel_rfl, ?_⟩) hHeld ?_
      rotate_left
      focus (intro w hSw; (try dsimp only at hSw); go_simp; try with_reducible rfl)
      try simp only [Act.put]
      refine wpAnyH_take (i := 8) (v := ?_) rfl (by kernel_rfl) (by kernel_rfl) (by kernel_rfl) (fun _ _ _ h => h) (Or.inl ⟨by kernel_rfl, ?_⟩) hHeld ?_
      rotate_left
      focus (intro w hSw; (try dsimp only at hSw); go_simp; try with_reducible rfl)
      try simp only [Act.put]
      refine wpAnyH_take (i := 12) (v := ?_) rfl (by kernel_rfl) (by kernel_rfl) (by kernel_rfl) (fun _ _ _ h => h) (Or.inl ⟨by kernel_rfl, ?_⟩) hHeld ?_
      rotate_left
      focus (intro w hSw; (try dsimp only at hSw); go_simp; try with_reducible rfl)
      try simp only [Act.put]
      refine wpAnyH_ready (rs := [13]) (by kernel_rfl) (by simp) ?_
      refine AllReadyH.cons rfl (fun K hK => ?_) AllReadyH.nil
      go_simp
      refine hK.out _ _ (HSA.out _ hdr.out) (fun hHeld => ?_)
      clear hK K
      refine wpAnyH_ready (rs := [14]) (by kernel_rfl) (by simp) ?_
      refine AllReadyH.cons rfl (fun K hK => ?_) AllReadyH.nil
      go_simp
      refine hK.out _ _ (HSA.out _ hdr.out) (fun hHeld => ?_)
      clear hK K
      refine wpAnyH_ready (rs := [15]) (by kernel_rfl) (by simp) ?_
      refine AllReadyH.cons rfl (fun K hK => ?_) AllReadyH.nil
      go_simp
      refine hK.out _ _ (HSA.out _ hdr.out) (fun hHeld => ?_)
      clear hK K
      refine wpAnyH_take (i := 16) (v := ?_) rfl (by kernel_rfl) (by kernel_rfl) (by kernel_rfl) (fun _ _ _ h => h) (Or.inl ⟨by kernel_rfl, ?_⟩) hHeld ?_
      rotate_left
      focus (intro w hSw; (try dsimp only at hSw); go_simp; try with_reducible rfl)
      try simp only [Act.put]
      refine wpAnyH_take (i := 17) (v := ?_) rfl (by kernel_rfl) (by kernel_rfl) (by kernel_rfl) (fun _ _ _ h => h) (Or.inl ⟨by kernel_rfl, ?_⟩) hHeld ?_
      rotate_left
      focus (intro w hSw; (try dsimp only at hSw); go_simp; try with_reducible rfl)
      try simp only [Act.put]
      refine wpAnyH_take (i := 18) (v := ?_) rfl (by kernel_rfl) (by kernel_rfl) (by kernel_rfl) (fun _ _ _ h => h) (Or.inl ⟨by kernel_rfl, ?_⟩) hHeld ?_
      rotate_left
      focus (intro w hSw; (try dsimp only at hSw); go_simp; try with_reducible rfl)
      try simp only [Act.put]
      refine wpAnyH_take (i := 19) (v := ?_) rfl (by kernel_rfl) (by kernel_rfl) (by kernel_rfl) (fun _ _ _ h => h) (Or.inl ⟨by kernel_rfl, ?_⟩) hHeld ?_
      rotate_left
      focus (intro w hSw; (try dsimp only at hSw); go_simp; try with_reducible rfl)
      try simp only [Act.put]
      refine wpAnyH_take (i := 21) (v := ?_) rfl (by kernel_rfl) (by kernel_rfl) (by kernel_rfl) (fun _ _ _ h => h) (Or.inl ⟨by kernel_rfl, ?_⟩) hHeld ?_
      rotate_left
      focus (intro w hSw; (try dsimp only at hSw); go_simp; try with_reducible rfl)
      try simp only [Act.put]
      refine wpAnyH_take (i := 22) (v := ?_) rfl (by kernel_rfl) (by kernel_rfl) (by kernel_rfl) (fun _ _ _ h => h) (Or.inl ⟨by kernel_rfl, ?_⟩) hHeld ?_
      rotate_left
      focus (intro w hSw; (try dsimp only at hSw); go_simp; try with_reducible rfl)
      try simp only [Act.put]
      refine wpAnyH_take (i := 23) (v := ?_) rfl (by kernel_rfl) (by kernel_rfl) (by kernel_rfl) (fun _ _ _ h => h) (Or.inl ⟨by kernel_rfl, ?_⟩) hHeld ?_
      rotate_left
      focus (intro w hSw; (try dsimp only at hSw); go_simp; try with_reducible rfl)
      try simp only [Act.put]
      refine wpAnyH_take (i := 20) (v := ?_) rfl (by kernel_rfl) (by kernel_rfl) (by kernel_rfl) (fun _ _ _ h => h) (Or.inl ⟨by kernel_rfl, ?_⟩) hHeld ?_
      rotate_left
      focus (intro w hSw; (try dsimp only at hSw); go_simp; try with_reducible rfl)
      try simp only [Act.put]
      refine wpAnyH_take (i := 24) (v := ?_) rfl (by kernel_rfl) (by kernel_rfl) (by kernel_rfl) (fun _ _ _ h => h) (Or.inl ⟨by kernel_rfl, ?_⟩) hHeld ?_
      rotate_left
      focus (intro w hSw; (try dsimp only at hSw); go_simp; try with_reducible rfl)
      try simp only [Act.put]
      refine wpAnyH_ready (rs := [25]) (by kernel_rfl) (by simp) ?_
      refine AllReadyH.cons rfl (fun K hK => ?_) AllReadyH.nil
      go_simp
      refine hK.out _ _ (HSA.out _ hdr.out) (fun hHeld => ?_)
      clear hK K
      refine wpAnyH_ready (rs := [26]) (by kernel_rfl) (by simp) ?_
      refine AllReadyH.cons rfl (fun K hK => ?_) AllReadyH.nil
      go_simp
      refine hK.out _ _ (HSA.out _ hdr.out) (fun hHeld => ?_)
      clear hK K
      refine wpAnyH_done (by kernel_rfl) ?_ _
      clear hHeld HSA hdr gn heq
      obtain ⟨w6, hw6⟩ : ∃ w6, w6 = w5b.drew := ⟨_, rfl⟩
      have hb : Below w5b.heap.size w5b w6 := by rw [hw6]; exact (Below.refl _ _).drew
      rw [← hw6]
      clear hw6
      have hB6 := hB5b.trans (hb.mono hB5b.size)
      have hx6 := hx5b.below hb
      have ho6 := own_below ho5b hb (Nat.le_refl _)
      have hl6 := own_below hl5b hb (Nat.le_refl _)
      clear hb hB5b hx5b ho5b hl5b
      have z0 : w6.cell? ⟨w.heap.size + 1 + 1, 0, none⟩ = some (.int .i64 b0) := hx6.2.2.1.cell 0
      have z1 : w6.cell? ⟨w.heap.size + 1 + 1, 1, none⟩ = some (.int .i64 b1) := hx6.2.2.1.cell 1
      go_wp2_with fail
      go_region_held3 (fun W => W.cell? ⟨w.heap.size + 1 + 1, 0, none⟩ = some (.int .i64 b0) ∧ W.cell? ⟨w.heap.size + 1 + 1, 1, none⟩ = some (.int .i64 b1)) (first | go_keep | trivial) (fail)
      obtain ⟨y, hy, hyl⟩ : ∃ y : Nat, IntKind.u8.wrap (bits BinOp.and IntKind.i64 b1 255) = (y : Int) ∧ y < 256 := by
        refine ⟨(IntKind.u8.wrap (bits BinOp.and IntKind.i64 b1 255)).toNat, ?_, ?_⟩ <;> (rw [IntKind.wrap_u8]; omega)
      rw [hy]
      obtain ⟨w7, hw7⟩ : ∃ w7, w7 = w6.drew := ⟨_, rfl⟩
      have hb : Below w6.heap.size w6 w7 := by rw [hw7]; exact (Below.refl _ _).drew
      rw [← hw7]
      clear hw7 hy z0 z1
      have hB7 := hB6.trans (hb.mono hB6.size)
      have hx7 := hx6.below hb
      have ho7 := own_below ho6 hb (Nat.le_refl _)
      have hl7 := own_below hl6 hb (Nat.le_refl _)
      clear hb hB6 hx6 ho6 hl6
      rcases (show b0 < 0 ∨ 31 < b0 ∨ (¬ b0 < 0 ∧ ¬ 31 < b0 ∧ y = 0) ∨ (¬ y = 0 ∧ ∃ j : Nat, b0 = j ∧ j < 16) ∨ (¬ y = 0 ∧ ∃ j : Nat, b0 = 16 + j ∧ j < 16) by
        by_cases h1 : b0 < 0
        · exact .inl h1
        by_cases h2 : 31 < b0
        · exact .inr (.inl h2)
        by_cases h3 : y = 0
        · exact .inr (.inr (.inl ⟨h1, h2, h3⟩))
        by_cases h4 : b0 < 16
        · exact .inr (.inr (.inr (.inl ⟨h3, b0.toNat, by omega, by omega⟩)))
        · exact .inr (.inr (.inr (.inr ⟨h3, (b0 - 16).toNat, by omega, by omega⟩)))) with h | h | ⟨h1, h2, rfl⟩ | ⟨hy0, j, rfl, hj⟩ | ⟨hy0, j, hbj, hj⟩
      · have e1 : decide (b0 < 0) = true := decide_eq_true h
        clear h hx7 ho7 hl7
        go_wp2_with fail
        refine (hwk.out _ hB7).mono ?_
        rintro e wz ⟨rfl, hBz⟩
        go_wp2_with fail
        go_ret
        exact ⟨rfl, hBz⟩
      · have e1 : decide (b0 < 0) = false := decide_eq_false (by omega)
        have e2 : decide (31 < b0) = true := decide_eq_true h
        clear h hx7 ho7 hl7
        go_wp2_with fail
        refine (hwk.out _ hB7).mono ?_
        rintro e wz ⟨rfl, hBz⟩
        go_wp2_with fail
        go_ret
        exact ⟨rfl, hBz⟩
      · have e1 : decide (b0 < 0) = false := decide_eq_false h1
        have e2 : decide (31 < b0) = false := decide_eq_false h2
        clear h1 h2 hx7 ho7 hl7
        go_wp2_with fail
        refine (hwk.out _ hB7).mono ?_
        rintro e wz ⟨rfl, hBz⟩
        go_wp2_with fail
        go_ret
        exact ⟨rfl, hBz⟩
      · have e1 : decide ((j : Int) < 0) = false := decide_eq_false (by omega)
        have e2 : decide (31 < (j : Int)) = false := decide_eq_false (by omega)
        have e3 : ((y : Int) == 0) = false := by simp [hy0]
        have e4 : decide ((j : Int) < 16) = true := decide_eq_true (by omega)
        have hjl : j < H.length := by rw [hHl.out]; exact hj
        have hcl : w7.cell? ⟨g1, j, none⟩ = some (.int .u8 (H[j].toNat : Int)) := by rw [ho7.cellAt j (by omega), byt_get hjl]
        have hfl := ho7.frozenAt j
        obtain ⟨b, hb⟩ : ∃ b, b = H[j] := ⟨_, rfl⟩
        have hbl := b.toNat_lt
        have hxl : b.toNat ^^^ y < 256 := Nat.xor_lt_two_pow (n := 8) (by omega) (by omega)
        obtain ⟨b', hb'⟩ : ∃ b' : UInt8, b' = UInt8.ofNat (b.toNat ^^^ y) := ⟨_, rfl⟩
        have hbn : b'.toNat = b.toNat ^^^ y := by rw [hb', UInt8.toNat_ofNat']; exact Nat.mod_eq_of_lt hxl
        have hxe : bits .xor .u8 (b.toNat : Int) (y : Int) = (b'.toNat : Int) := by rw [xor8 _ _ (by omega) (by omega), hbn]
        have hne : H.set j b' ≠ H := set_ne hjl (by
          rw [← hb]
          intro h
          have h2 : b'.toNat = b.toNat := congrArg UInt8.toNat h
          rw [hbn] at h2
          have h3 : b.toNat ^^^ (b.toNat ^^^ y) = b.toNat ^^^ b.toNat := by rw [h2]
          rw [← Nat.xor_assoc, Nat.xor_self, Nat.zero_xor] at h3
          omega)
        have hlen : (H.set j b').length = 16 := by rw [List.length_set]; exact hHl.out
        rw [← hb] at hcl
        obtain ⟨w8, hw8⟩ : ∃ w8, w8 = w7.setCell ⟨g1, j, none⟩ (.int .u8 (b'.toNat : Int)) := ⟨_, rfl⟩
        have hB8 : Below w.heap.size w w8 := by rw [hw8]; exact hB7.setCell (by simp; omega) _
        have hx8 : BX w k at_ c s c2 s2 n n2 (j : Int) b1 w8 := by
          have hh : ∀ q, q ≠ g1 → w8.heap[q]? = w7.heap[q]? := fun q hq => by rw [hw8]; exact heap_set hq
          exact ⟨hx7.1.same (hh _ (by omega)), hx7.2.1.same (hh _ (by omega)), hx7.2.2.1.same (hh _ (by omega)), hx7.2.2.2.same (hh _ (by omega))⟩
        have ho8 : w8.ownsRow w0.heap.size 5 1 (.slice (some ⟨g1, 0, none⟩) 16 c1) 16 (byt (H.set j b')) := by rw [hw8, byt_set]; exact (ho7.stored j _).1
        have hl8 : w8.ownsRow w1.heap.size 5 1 (.slice (some ⟨g2, 0, none⟩) 16 d2) 16 (byt T) := own_same hl7 (fun q hq => by
          simp only [Value.ownBlock, Option.some.injEq] at hq
          subst hq
          rw [hw8]
          exact heap_set (by omega))
        have k5 := Lib.hid (h5.out (some ⟨g1, 0, none⟩) c1 (some ⟨g2, 0, none⟩) d2 w8 (H.set j b') T hlen hTl.out (HT.out.below hB8) (Sees.of_own ho8) (Sees.of_own hl8))
        rw [if_neg hne] at k5
        have p0 : w8.cell? ⟨w.heap.size, 0, none⟩ = some (.int .u64 (k : Int)) := hx8.1.cell 0
        have p1 : w8.cell? ⟨w.heap.size, 1, none⟩ = some (.int .u32 (at_ : Int)) := hx8.1.cell 1
        have t0 : w8.cell? ⟨w.heap.size + 1 + 1 + 1, 0, none⟩ = some (.int .i64 (c : Int)) := hx8.2.2.2.cell 0
        have t1 : w8.cell? ⟨w.heap.size + 1 + 1 + 1, 1, none⟩ = some (.int .i64 (s : Int)) := hx8.2.2.2.cell 1
        have t2 : w8.cell? ⟨w.heap.size + 1 + 1 + 1, 2, none⟩ = some (.int .u32 (n : Int)) := hx8.2.2.2.cell 2
        rw [hw8] at p0 p1 t0 t1 t2
        have HW8 := Lib.hid hw8
        have i0 : (0 : Int) ≤ (j : Int) := by omega
        have i1 : (j : Int) < 16 := by omega
        clear hw8 hb hb' hbl hxl hbn hne hlen hx7 ho7 hl7 hB7 hx8 ho8 hl8 hjl
        go_wp2_with fail
        rw [← HW8.out]
        refine (k5.out).mono ?_
        rintro e w9 ⟨rfl, hb⟩
        have hB9 := hB8.trans (hb.mono hB8.size)
        clear p0 p1 t0 t1 t2 hcl hfl hxe HW8 hb k5
        go_wp2_with (go_at_call 11; refine (num_any _ _).mono ?_; rintro e w' ⟨rfl, rfl⟩)
        refine (hwk.out _ hB9).mono ?_
        rintro e wz ⟨rfl, hBz⟩
        go_wp2_with fail
        go_ret
        exact ⟨rfl, hBz⟩
      · have e1 : decide (b0 < 0) = false := decide_eq_false (by omega)
        have e2 : decide (31 < b0) = false := decide_eq_false (by omega)
        have e3 : ((y : Int) == 0) = false := by simp [hy0]
        have e4 : decide (b0 < 16) = false := decide_eq_false (by omega)
        have e5 : b0 - 16 = (j : Int) := by omega
        have e6 : IntKind.i64.wrap (j : Int) = (j : Int) := wrapI _ (by omega) (by omega)
        have e7 : IntKind.i64.wrap (b0 - 16) = (j : Int) := by rw [e5, e6]
        clear hbj
        have hjl : j < T.length := by rw [hTl.out]; exact hj
        have hcl : w7.cell? ⟨g2, j, none⟩ = some (.int .u8 (T[j].toNat : Int)) := by rw [hl7.cellAt j (by omega), byt_get hjl]
        have hfl := hl7.frozenAt j
        obtain ⟨b, hb⟩ : ∃ b, b = T[j] := ⟨_, rfl⟩
        have hbl := b.toNat_lt
        have hxl : b.toNat ^^^ y < 256 := Nat.xor_lt_two_pow (n := 8) (by omega) (by omega)
        obtain ⟨b', hb'⟩ : ∃ b' : UInt8, b' = UInt8.ofNat (b.toNat ^^^ y) := ⟨_, rfl⟩
        have hbn : b'.toNat = b.toNat ^^^ y := by rw [hb', UInt8.toNat_ofNat']; exact Nat.mod_eq_of_lt hxl
        have hxe : bits .xor .u8 (b.toNat : Int) (y : Int) = (b'.toNat : Int) := by rw [xor8 _ _ (by omega) (by omega), hbn]
        have hne : T.set j b' ≠ T := set_ne hjl (by
          rw [← hb]
          intro h
          have h2 : b'.toNat = b.toNat := congrArg UInt8.toNat h
          rw [hbn] at h2
          have h3 : b.toNat ^^^ (b.toNat ^^^ y) = b.toNat ^^^ b.toNat := by rw [h2]
          rw [← Nat.xor_assoc, Nat.xor_self, Nat.zero_xor] at h3
          omega)
        have hlen : (T.set j b').length = 16 := by rw [List.length_set]; exact hTl.out
        rw [← hb] at hcl
        obtain ⟨w8, hw8⟩ : ∃ w8, w8 = w7.setCell ⟨g2, j, none⟩ (.int .u8 (b'.toNat : Int)) := ⟨_, rfl⟩
        have hB8 : Below w.heap.size w w8 := by rw [hw8]; exact hB7.setCell (by simp; omega) _
        have hx8 : BX w k at_ c s c2 s2 n n2 b0 b1 w8 := by
          have hh : ∀ q, q ≠ g2 → w8.heap[q]? = w7.heap[q]? := fun q hq => by rw [hw8]; exact heap_set hq
          exact ⟨hx7.1.same (hh _ (by omega)), hx7.2.1.same (hh _ (by omega)), hx7.2.2.1.same (hh _ (by omega)), hx7.2.2.2.same (hh _ (by omega))⟩
        have hl8 : w8.ownsRow w1.heap.size 5 1 (.slice (some ⟨g2, 0, none⟩) 16 d2) 16 (byt (T.set j b')) := by rw [hw8, byt_set]; exact (hl7.stored j _).1
        have ho8 : w8.ownsRow w0.heap.size 5 1 (.slice (some ⟨g1, 0, none⟩) 16 c1) 16 (byt H) := own_same ho7 (fun q hq => by
          simp only [Value.ownBlock, Option.some.injEq] at hq
          subst hq
          rw [hw8]
          exact heap_set (by omega))
        have k5 := Lib.hid (h5.out (some ⟨g1, 0, none⟩) c1 (some ⟨g2, 0, none⟩) d2 w8 H (T.set j b') hHl.out hlen (HT.out.below hB8) (Sees.of_own ho8) (Sees.of_own hl8))
        rw [if_pos rfl, if_neg hne] at k5
        have p0 : w8.cell? ⟨w.heap.size, 0, none⟩ = some (.int .u64 (k : Int)) := hx8.1.cell 0
        have p1 : w8.cell? ⟨w.heap.size, 1, none⟩ = some (.int .u32 (at_ : Int)) := hx8.1.cell 1
        have t0 : w8.cell? ⟨w.heap.size + 1 + 1 + 1, 0, none⟩ = some (.int .i64 (c : Int)) := hx8.2.2.2.cell 0
        have t1 : w8.cell? ⟨w.heap.size + 1 + 1 + 1, 1, none⟩ = some (.int .i64 (s : Int)) := hx8.2.2.2.cell 1
        have t2 : w8.cell? ⟨w.heap.size + 1 + 1 + 1, 2, none⟩ = some (.int .u32 (n : Int)) := hx8.2.2.2.cell 2
        rw [hw8] at p0 p1 t0 t1 t2
        have HW8 := Lib.hid hw8
        have i0 : (0 : Int) ≤ (j : Int) := by omega
        have i1 : (j : Int) < 16 := by omega
        clear hw8 hb hb' hbl hxl hbn hne hlen hx7 ho7 hl7 hB7 hx8 ho8 hl8 hjl
        go_wp2_with fail
        rw [← HW8.out]
        refine (k5.out).mono ?_
        rintro e w9 ⟨rfl, hb⟩
        have hB9 := hB8.trans (hb.mono hB8.size)
        clear p0 p1 t0 t1 t2 hcl hfl hxe HW8 hb k5
        go_wp2_with (go_at_call 11; refine (num_any _ _).mono ?_; rintro e w' ⟨rfl, rfl⟩)
        refine (hwk.out _ hB9).mono ?_
        rintro e wz ⟨rfl, hBz⟩
        go_wp2_with fail
        go_ret
        exact ⟨rfl, hBz⟩

theorem sealBack_any (k at_ n n2 : Nat) (c s c2 s2 : Int) (b0 b1 : Int) (w : World) (ht : Tab w) (hk : k < 18446744073709551616) (ha : at_ < 4294967296) (hn : n < 4294967296) (hn2 : n2 < 4294967296) :
    Calls Tryd.prog 6 #[.agg #[.int .u64 (k : Int), .int .u32 (at_ : Int)], .agg #[.int .i64 c, .int .i64 s, .int .u32 (n : Int), .int .i64 c2, .int .i64 s2, .int .u32 (n2 : Int)], .agg #[.int .i64 b0, .int .i64 b1]] w fun e w' => e = .returned (.bool true) ∧ Below w.heap.size w w' := by
  cases hok : okT c s
  · exact back_no k at_ c s c2 s2 n n2 b0 b1 w ht hk ha hok
  · obtain ⟨c', s', rfl, rfl, hc', hs'⟩ := ok_nats hok
    cases hok2 : okT c2 s2
    · exact back_one k at_ c' s' n c2 s2 n2 b0 b1 w ht hk ha hc' hs' hn hok2
    · obtain ⟨c'', s'', rfl, rfl, hc'', hs''⟩ := ok_nats hok2
      exact back_two k at_ c' s' n c'' s'' n2 b0 b1 w ht hk ha hc' hs' hn hc'' hs'' hn2
end Go.Proofs.YtfmbfojlopibnaaDoor
