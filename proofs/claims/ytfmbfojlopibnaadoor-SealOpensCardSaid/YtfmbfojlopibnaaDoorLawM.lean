import Derived.Test.YtfmbfojlopibnaaDoorLawL
namespace Go.Proofs.YtfmbfojlopibnaaDoor
open Go.RowKit Go.Shelf
attribute [local go_sem] Oper.semAt_some

/- SEALMAKES. -/

set_option maxHeartbeats 4000000 in
theorem makes_no (k at_ n : Nat) (c s : Int) (w : World) (ht : Tab w) (hk : k < 18446744073709551616) (ha : at_ < 4294967296) (hok : okT c s = false) :
    Calls Tryd.prog 3 #[.agg #[.int .u64 (k : Int), .int .u32 (at_ : Int)], .agg #[.int .i64 c, .int .i64 s, .int .u32 (n : Int)]] w fun e w' => e = .returned (.bool true) ∧ Below w.heap.size w w' := by
  obtain ⟨w0, hw0⟩ : ∃ w0, w0 = (w.alloc (.cells #[.int .u64 (k : Int), .int .u32 (at_ : Int)] 25)).alloc (.cells #[.int .i64 c, .int .i64 s, .int .u32 (n : Int)] 27) := ⟨_, rfl⟩
  have hB0 : Below w.heap.size w w0 := by rw [hw0]; exact below2 _ _ _
  have hp0 : Row w0 w.heap.size 25 [.int .u64 (k : Int), .int .u32 (at_ : Int)] := by rw [hw0]; exact (Row.new _ _ _).below (below1 _ _)
  have hq0 : Row w0 (w.heap.size + 1) 27 [.int .i64 c, .int .i64 s, .int .u32 (n : Int)] := by rw [hw0]; exact Row.new_at _ _ _ (by simp)
  have hwk := Lib.hid (fun W (hB : Below w.heap.size w W) => (show Calls Tryd.prog 12 #[] W (fun e w' => e = .returned (.bool true) ∧ Below w.heap.size w w') from (works_any W (ht.below hB)).mono fun e W' ⟨h1, h2⟩ => ⟨h1, hB.trans (h2.mono hB.size)⟩))
  have p0 : w0.cell? ⟨w.heap.size, 0, none⟩ = some (.int .u64 (k : Int)) := hp0.cell 0
  have p1 : w0.cell? ⟨w.heap.size, 1, none⟩ = some (.int .u32 (at_ : Int)) := hp0.cell 1
  have q0 : w0.cell? ⟨w.heap.size + 1, 0, none⟩ = some (.int .i64 c) := hq0.cell 0
  have q1 : w0.cell? ⟨w.heap.size + 1, 1, none⟩ = some (.int .i64 s) := hq0.cell 1
  have q2 : w0.cell? ⟨w.heap.size + 1, 2, none⟩ = some (.int .u32 (n : Int)) := hq0.cell 2
  have h1 := Lib.hid (fun W => head_no k at_ c s n W hk ha hok)
  have h2 := Lib.hid (fun W => tail_no k at_ c s n W hk ha hok)
  have h3 := Lib.hid (fun W => check_no c s n W hok)
  have h4 := Lib.hid (fun W => right_any c s n W)
  rw [hok] at h4
  clear hk ha hok ht
  go_enter Tryd.func3, Tryd.ntmps3
  go_wp2_with fail
  rw [← hw0]
  clear hw0
  go_wp2_with fail
  refine (h1.out _).mono ?_
  rintro e w1 ⟨rfl, hb⟩
  have hB1 := hB0.trans (hb.mono hB0.size)
  have hp1 := hp0.below hb
  have hq1 := hq0.below hb
  clear p0 p1 q0 q1 q2
  clear hb hB0 hp0 hq0 h1
  have p0 : w1.cell? ⟨w.heap.size, 0, none⟩ = some (.int .u64 (k : Int)) := hp1.cell 0
  have p1 : w1.cell? ⟨w.heap.size, 1, none⟩ = some (.int .u32 (at_ : Int)) := hp1.cell 1
  have q0 : w1.cell? ⟨w.heap.size + 1, 0, none⟩ = some (.int .i64 c) := hq1.cell 0
  have q1 : w1.cell? ⟨w.heap.size + 1, 1, none⟩ = some (.int .i64 s) := hq1.cell 1
  have q2 : w1.cell? ⟨w.heap.size + 1, 2, none⟩ = some (.int .u32 (n : Int)) := hq1.cell 2
  go_wp2_with fail
  refine (h2.out _).mono ?_
  rintro e w2 ⟨rfl, hb⟩
  have hB2 := hB1.trans (hb.mono hB1.size)
  have hp2 := hp1.below hb
  have hq2 := hq1.below hb
  clear p0 p1 q0 q1 q2
  clear hb hB1 hp1 hq1 h2
  have p0 : w2.cell? ⟨w.heap.size, 0, none⟩ = some (.int .u64 (k : Int)) := hp2.cell 0
  have p1 : w2.cell? ⟨w.heap.size, 1, none⟩ = some (.int .u32 (at_ : Int)) := hp2.cell 1
  have q0 : w2.cell? ⟨w.heap.size + 1, 0, none⟩ = some (.int .i64 c) := hq2.cell 0
  have q1 : w2.cell? ⟨w.heap.size + 1, 1, none⟩ = some (.int .i64 s) := hq2.cell 1
  have q2 : w2.cell? ⟨w.heap.size + 1, 2, none⟩ = some (.int .u32 (n : Int)) := hq2.cell 2
  go_wp2_with fail
  refine (h3.out _).mono ?_
  rintro e w3 ⟨rfl, hb⟩
  have hB3 := hB2.trans (hb.mono hB2.size)
  have hp3 := hp2.below hb
  have hq3 := hq2.below hb
  clear p0 p1 q0 q1 q2
  clear hb hB2 hp2 hq2 h3
  have p0 : w3.cell? ⟨w.heap.size, 0, none⟩ = some (.int .u64 (k : Int)) := hp3.cell 0
  have p1 : w3.cell? ⟨w.heap.size, 1, none⟩ = some (.int .u32 (at_ : Int)) := hp3.cell 1
  have q0 : w3.cell? ⟨w.heap.size + 1, 0, none⟩ = some (.int .i64 c) := hq3.cell 0
  have q1 : w3.cell? ⟨w.heap.size + 1, 1, none⟩ = some (.int .i64 s) := hq3.cell 1
  have q2 : w3.cell? ⟨w.heap.size + 1, 2, none⟩ = some (.int .u32 (n : Int)) := hq3.cell 2
  go_wp2_with fail
  refine (h4.out _).mono ?_
  rintro e w4 ⟨rfl, hb⟩
  have hB4 := hB3.trans (hb.mono hB3.size)
  have hp4 := hp3.below hb
  have hq4 := hq3.below hb
  clear p0 p1 q0 q1 q2
  clear hb hB3 hp3 hq3 h4
  go_wp2_with (go_at_call 11; refine (num_any _ _).mono ?_; rintro e w' ⟨rfl, rfl⟩)
  refine (hwk.out _ hB4).mono ?_
  rintro e w5 ⟨rfl, hB5⟩
  go_wp2_with fail
  go_ret
  exact ⟨rfl, hB5⟩

set_option maxHeartbeats 8000000 in
set_option maxRecDepth 100000 in
theorem makes_ok (k at_ c s n : Nat) (w : World) (ht : Tab w) (hk : k < 18446744073709551616) (ha : at_ < 4294967296) (hc : c < 8) (hs : s ≤ 65535) (hn : n < 4294967296) :
    Calls Tryd.prog 3 #[.agg #[.int .u64 (k : Int), .int .u32 (at_ : Int)], .agg #[.int .i64 (c : Int), .int .i64 (s : Int), .int .u32 (n : Int)]] w fun e w' => e = .returned (.bool true) ∧ Below w.heap.size w w' := by
  obtain ⟨H, T, M⟩ := made_some k at_ c s n hk ha hc hs hn
  obtain ⟨w0, hw0⟩ : ∃ w0, w0 = (w.alloc (.cells #[.int .u64 (k : Int), .int .u32 (at_ : Int)] 25)).alloc (.cells #[.int .i64 (c : Int), .int .i64 (s : Int), .int .u32 (n : Int)] 27) := ⟨_, rfl⟩
  have hB0 : Below w.heap.size w w0 := by rw [hw0]; exact below2 _ _ _
  have hp0 : Row w0 w.heap.size 25 [.int .u64 (k : Int), .int .u32 (at_ : Int)] := by rw [hw0]; exact (Row.new _ _ _).below (below1 _ _)
  have hq0 : Row w0 (w.heap.size + 1) 27 [.int .i64 (c : Int), .int .i64 (s : Int), .int .u32 (n : Int)] := by rw [hw0]; exact Row.new_at _ _ _ (by simp)
  have hwk := Lib.hid (fun W (hB : Below w.heap.size w W) => (show Calls Tryd.prog 12 #[] W (fun e w' => e = .returned (.bool true) ∧ Below w.heap.size w w') from (works_any W (ht.below hB)).mono fun e W' ⟨h1, h2⟩ => ⟨h1, hB.trans (h2.mono hB.size)⟩))
  have p0 : w0.cell? ⟨w.heap.size, 0, none⟩ = some (.int .u64 (k : Int)) := hp0.cell 0
  have p1 : w0.cell? ⟨w.heap.size, 1, none⟩ = some (.int .u32 (at_ : Int)) := hp0.cell 1
  have q0 : w0.cell? ⟨w.heap.size + 1, 0, none⟩ = some (.int .i64 (c : Int)) := hq0.cell 0
  have q1 : w0.cell? ⟨w.heap.size + 1, 1, none⟩ = some (.int .i64 (s : Int)) := hq0.cell 1
  have q2 : w0.cell? ⟨w.heap.size + 1, 2, none⟩ = some (.int .u32 (n : Int)) := hq0.cell 2
  have h1 := Lib.hid M.head
  have h2 := Lib.hid M.tail
  have h3 := Lib.hid (fun W => check_ok c s n W hc hs hn)
  have h4 := Lib.hid (fun W => right_any (c : Int) s n W)
  rw [okT_iff.2 (show (0 : Int) ≤ c ∧ (c : Int) < 8 ∧ (0 : Int) ≤ s ∧ (s : Int) ≤ 65535 by omega)] at h4
  obtain ⟨sH, hsH⟩ : ∃ sH, sH = str H := ⟨_, rfl⟩
  obtain ⟨sT, hsT⟩ : ∃ sT, sT = str T := ⟨_, rfl⟩
  clear hk ha hc hs hn
  have HT := Lib.hid ht
  clear ht
  go_enter Tryd.func3, Tryd.ntmps3
  go_wp2_with fail
  rw [← hw0]
  clear hw0
  go_wp2_with fail
  refine (h1.out _ (HT.out.below hB0)).mono ?_
  rintro e w1 ⟨v, rfl, ho1, hb⟩
  have hB1 := hB0.trans (hb.mono hB0.size)
  have hp1 := hp0.below hb
  have hq1 := hq0.below hb
  clear p0 p1 q0 q1 q2
  clear hb hB0 hp0 hq0 h1
  have p0 : w1.cell? ⟨w.heap.size, 0, none⟩ = some (.int .u64 (k : Int)) := hp1.cell 0
  have p1 : w1.cell? ⟨w.heap.size, 1, none⟩ = some (.int .u32 (at_ : Int)) := hp1.cell 1
  have q0 : w1.cell? ⟨w.heap.size + 1, 0, none⟩ = some (.int .i64 (c : Int)) := hq1.cell 0
  have q1 : w1.cell? ⟨w.heap.size + 1, 1, none⟩ = some (.int .i64 (s : Int)) := hq1.cell 1
  have q2 : w1.cell? ⟨w.heap.size + 1, 2, none⟩ = some (.int .u32 (n : Int)) := hq1.cell 2
  go_wp2_with fail
  refine (h2.out _ (HT.out.below hB1)).mono ?_
  rintro e w2 ⟨v', rfl, hl2, hb⟩
  have ho2 := own_below ho1 hb (Nat.le_refl _)
  have hB2 := hB1.trans (hb.mono hB1.size)
  have hp2 := hp1.below hb
  have hq2 := hq1.below hb
  clear p0 p1 q0 q1 q2
  clear hb hB1 hp1 hq1 h2 ho1
  have p0 : w2.cell? ⟨w.heap.size, 0, none⟩ = some (.int .u64 (k : Int)) := hp2.cell 0
  have p1 : w2.cell? ⟨w.heap.size, 1, none⟩ = some (.int .u32 (at_ : Int)) := hp2.cell 1
  have q0 : w2.cell? ⟨w.heap.size + 1, 0, none⟩ = some (.int .i64 (c : Int)) := hq2.cell 0
  have q1 : w2.cell? ⟨w.heap.size + 1, 1, none⟩ = some (.int .i64 (s : Int)) := hq2.cell 1
  have q2 : w2.cell? ⟨w.heap.size + 1, 2, none⟩ = some (.int .u32 (n : Int)) := hq2.cell 2
  go_wp2_with fail
  refine (h3.out _).mono ?_
  rintro e w3 ⟨rfl, hb⟩
  have ho3 := own_below ho2 hb (Nat.le_refl _)
  have hl3 := own_below hl2 hb (Nat.le_refl _)
  have hB3 := hB2.trans (hb.mono hB2.size)
  have hp3 := hp2.below hb
  have hq3 := hq2.below hb
  clear p0 p1 q0 q1 q2
  clear hb hB2 hp2 hq2 h3 ho2 hl2
  have p0 : w3.cell? ⟨w.heap.size, 0, none⟩ = some (.int .u64 (k : Int)) := hp3.cell 0
  have p1 : w3.cell? ⟨w.heap.size, 1, none⟩ = some (.int .u32 (at_ : Int)) := hp3.cell 1
  have q0 : w3.cell? ⟨w.heap.size + 1, 0, none⟩ = some (.int .i64 (c : Int)) := hq3.cell 0
  have q1 : w3.cell? ⟨w.heap.size + 1, 1, none⟩ = some (.int .i64 (s : Int)) := hq3.cell 1
  have q2 : w3.cell? ⟨w.heap.size + 1, 2, none⟩ = some (.int .u32 (n : Int)) := hq3.cell 2
  go_wp2_with fail
  refine (h4.out _).mono ?_
  rintro e w4 ⟨rfl, hb⟩
  have ho4 := own_below ho3 hb (Nat.le_refl _)
  have hl4 := own_below hl3 hb (Nat.le_refl _)
  have hB4 := hB3.trans (hb.mono hB3.size)
  have hp4 := hp3.below hb
  have hq4 := hq3.below hb
  clear p0 p1 q0 q1 q2
  clear hb hB3 hp3 hq3 h4 ho3 hl3
  obtain ⟨Ah, ch, rfl⟩ := own_slice ho4
  obtain ⟨Al, cl, rfl⟩ := own_slice hl4
  have HSA := Lib.hid (fun X (hB : Below w4.heap.size w4 X) => (show X.cell? ⟨w.heap.size, 0, none⟩ = some (.int .u64 (k : Int)) ∧ X.cell? ⟨w.heap.size, 1, none⟩ = some (.int .u32 (at_ : Int)) ∧ X.cell? ⟨w.heap.size + 1, 0, none⟩ = some (.int .i64 (c : Int)) ∧ X.cell? ⟨w.heap.size + 1, 1, none⟩ = some (.int .i64 (s : Int)) ∧ X.cell? ⟨w.heap.size + 1, 2, none⟩ = some (.int .u32 (n : Int)) ∧ (convert 28 9 (.slice Ah 16 ch)).run Tryd.prog X = .ok (.string sH) X ∧ (convert 28 9 (.slice Al 16 cl)).run Tryd.prog X = .ok (.string sT) X ∧ Below w4.heap.size w4 X from
    ⟨(hp4.below hB).cell 0, (hp4.below hB).cell 1, (hq4.below hB).cell 0, (hq4.below hB).cell 1, (hq4.below hB).cell 2,
      by rw [hsH]; exact run_conv_sees X Tryd.underlying28 Tryd.underlying5 Tryd.underlying9 M.hl ((Sees.of_own ho4).below hB),
      by rw [hsT]; exact run_conv_sees X Tryd.underlying28 Tryd.underlying5 Tryd.underlying9 M.tl ((Sees.of_own hl4).below hB), hB⟩))
  have hdr := Lib.hid (show Below w4.heap.size w4 w4.drew from (Below.refl _ _).drew)
  have g1 := Lib.hid (fun W (hB : Below w4.heap.size w4 W) => (show Calls Tryd.prog 13 #[.int .u64 (k : Int), .int .u32 (at_ : Int), .agg #[.int .i64 (c : Int), .int .i64 (s : Int), .int .u32 (n : Int)]] W (fun e W' => ∃ Ab cb, e = .returned (.slice Ab 16 cb) ∧ (convert 28 9 (.slice Ab 16 cb)).run Tryd.prog W' = .ok (.string sH) W' ∧ Below w4.heap.size w4 W') from by
    refine (M.rhead W).mono ?_
    rintro e W' ⟨v, rfl, ho, hb⟩
    obtain ⟨Ab, cb, rfl⟩ := own_slice ho
    exact ⟨Ab, cb, rfl, by rw [hsH]; exact run_conv_sees W' Tryd.underlying28 Tryd.underlying5 Tryd.underlying9 M.hl (Sees.of_own ho), hB.trans (hb.mono hB.size)⟩))
  have g2 := Lib.hid (fun W (hB : Below w4.heap.size w4 W) => (show Calls Tryd.prog 14 #[.int .u64 (k : Int), .int .u32 (at_ : Int), .agg #[.int .i64 (c : Int), .int .i64 (s : Int), .int .u32 (n : Int)]] W (fun e W' => ∃ Ab cb, e = .returned (.slice Ab 16 cb) ∧ (convert 28 9 (.slice Ab 16 cb)).run Tryd.prog W' = .ok (.string sT) W' ∧ Below w4.heap.size w4 W') from by
    refine (M.rtail W).mono ?_
    rintro e W' ⟨v, rfl, ho, hb⟩
    obtain ⟨Ab, cb, rfl⟩ := own_slice ho
    exact ⟨Ab, cb, rfl, by rw [hsT]; exact run_conv_sees W' Tryd.underlying28 Tryd.underlying5 Tryd.underlying9 M.tl (Sees.of_own ho), hB.trans (hb.mono hB.size)⟩))
  have g3 := Lib.hid (fun W (hB : Below w4.heap.size w4 W) => (show Calls Tryd.prog 12 #[] W (fun e w' => e = .returned (.bool true) ∧ Below w4.heap.size w4 w') from (works_any W (HT.out.below (hB4.trans (hB.mono hB4.size)))).mono fun e W' ⟨h1, h2⟩ => ⟨h1, hB.trans (h2.mono hB.size)⟩))
  have gn := Lib.hid num_any
  have hfin := Lib.hid (fun (X : World) (hB : Below w4.heap.size w4 X) => (show Below w.heap.size w X from hB4.trans (hB.mono hB4.size)))
  clear M hsH hsT hwk ho4 hl4 hp4 hq4 hB4 HT
  go_wp2_with fail
  refine wp_region_held_drew (S := fun X => X.cell? ⟨w.heap.size, 0, none⟩ = some (.int .u64 (k : Int)) ∧ X.cell? ⟨w.heap.size, 1, none⟩ = some (.int .u32 (at_ : Int)) ∧ X.cell? ⟨w.heap.size + 1, 0, none⟩ = some (.int .i64 (c : Int)) ∧ X.cell? ⟨w.heap.size + 1, 1, none⟩ = some (.int .i64 (s : Int)) ∧ X.cell? ⟨w.heap.size + 1, 2, none⟩ = some (.int .u32 (n : Int)) ∧ (convert 28 9 (.slice Ah 16 ch)).run Tryd.prog X = .ok (.string sH) X ∧ (convert 28 9 (.slice Al 16 cl)).run Tryd.prog X = .ok (.string sT) X ∧ Below w4.heap.size w4 X) (by kernel_rfl) (HSA.out _ hdr.out) (fun hHeld => ?_)
  refine wpAnyH_take (i := 0) (v := ?_) rfl (by kernel_rfl) (by kernel_rfl) (by kernel_rfl) (fun _ _ _ h => h) (Or.inl ⟨by kernel_rfl, ?_⟩) hHeld ?_
  rotate_left
  focus (intro w hSw; (try dsimp only at hSw); go_simp; try with_reducible rfl)
  try simp only [Act.put]
  refine wpAnyH_take (i := 1) (v := ?_) rfl (by kernel_rfl) (by kernel_rfl) (by kernel_rfl) (fun _ _ _ h => h) (Or.inl ⟨by kernel_rfl, ?_⟩) hHeld ?_
  rotate_left
  focus (intro w hSw; (try dsimp only at hSw); go_simp; try with_reducible rfl)
  try simp only [Act.put]
  refine wpAnyH_take (i := 2) (v := ?_) rfl (by kernel_rfl) (by kernel_rfl) (by kernel_rfl) (fun _ _ _ h => h) (Or.inl ⟨by kernel_rfl, ?_⟩) hHeld ?_
  rotate_left
  focus (intro w hSw; (try dsimp only at hSw); go_simp; try with_reducible rfl)
  try simp only [Act.put]
  refine wpAnyH_take (i := 3) (v := ?_) rfl (by kernel_rfl) (by kernel_rfl) (by kernel_rfl) (fun _ _ _ h => h) (Or.inl ⟨by kernel_rfl, ?_⟩) hHeld ?_
  rotate_left
  focus (intro w hSw; (try dsimp only at hSw); go_simp; try with_reducible rfl)
  try simp only [Act.put]
  refine wpAnyH_take (i := 4) (v := ?_) rfl (by kernel_rfl) (by kernel_rfl) (by kernel_rfl) (fun _ _ _ h => h) (Or.inl ⟨by kernel_rfl, ?_⟩) hHeld ?_
  rotate_left
  focus (intro w hSw; (try dsimp only at hSw); go_simp; try with_reducible rfl)
  try simp only [Act.put]
  refine wpAnyH_take (i := 5) (v := ?_) rfl (by kernel_rfl) (by kernel_rfl) (by kernel_rfl) (fun _ _ _ h => h) (Or.inl ⟨by kernel_rfl, ?_⟩) hHeld ?_
  rotate_left
  focus (intro w hSw; (try dsimp only at hSw); go_simp; try with_reducible rfl)
  try simp only [Act.put]
  refine wpAnyH_take (i := 6) (v := ?_) rfl (by kernel_rfl) (by kernel_rfl) (by kernel_rfl) (fun _ _ _ h => h) (Or.inl ⟨by kernel_rfl, ?_⟩) hHeld ?_
  rotate_left
  focus (intro w hSw; (try dsimp only at hSw); go_simp; try with_reducible rfl)
  try simp only [Act.put]
  refine wpAnyH_ready (rs := [7]) (by kernel_rfl) (by simp) ?_
  refine AllReadyH.cons rfl (fun K hK => ?_) AllReadyH.nil
  go_simp
  refine (g1.out _ hdr.out).mono ?_
  rintro e w5 ⟨Ab, cb, rfl, hcv, hb5⟩
  refine hK.out _ _ (HSA.out _ hb5) (fun hHeld => ?_)
  clear hK K
  refine wpAnyH_ready (rs := [8]) (by kernel_rfl) (by simp) ?_
  refine AllReadyH.cons rfl (fun K hK => ?_) AllReadyH.nil
  go_simp
  refine hK.out _ _ (HSA.out _ hb5) (fun hHeld => ?_)
  clear hK K
  refine wpAnyH_ready (rs := [9]) (by kernel_rfl) (by simp) ?_
  refine AllReadyH.cons rfl (fun K hK => ?_) AllReadyH.nil
  go_simp
  refine hK.out _ _ (HSA.out _ hb5) (fun hHeld => ?_)
  clear hK K
  refine wpAnyH_ready (rs := [10]) (by kernel_rfl) (by simp) ?_
  refine AllReadyH.cons rfl (fun K hK => ?_) AllReadyH.nil
  go_simp
  refine hK.out _ _ (HSA.out _ hb5) (fun hHeld => ?_)
  clear hK K
  refine wpAnyH_take (i := 11) (v := ?_) rfl (by kernel_rfl) (by kernel_rfl) (by kernel_rfl) (fun _ _ _ h => h) (Or.inl ⟨by kernel_rfl, ?_⟩) hHeld ?_
  rotate_left
  focus (intro w hSw; (try dsimp only at hSw); go_simp; try with_reducible rfl)
  try simp only [Act.put]
  refine wpAnyH_take (i := 12) (v := ?_) rfl (by kernel_rfl) (by kernel_rfl) (by kernel_rfl) (fun _ _ _ h => h) (Or.inl ⟨by kernel_rfl, ?_⟩) hHeld ?_
  rotate_left
  focus (intro w hSw; (try dsimp only at hSw); go_simp; try with_reducible rfl)
  try simp only [Act.put]
  refine wpAnyH_take (i := 13) (v := ?_) rfl (by kernel_rfl) (by kernel_rfl) (by kernel_rfl) (fun _ _ _ h => h) (Or.inl ⟨by kernel_rfl, ?_⟩) hHeld ?_
  rotate_left
  focus (intro w hSw; (try dsimp only at hSw); go_simp; try with_reducible rfl)
  try simp only [Act.put]
  refine wpAnyH_take (i := 14) (v := ?_) rfl (by kernel_rfl) (by kernel_rfl) (by kernel_rfl) (fun _ _ _ h => h) (Or.inl ⟨by kernel_rfl, ?_⟩) hHeld ?_
  rotate_left
  focus (intro w hSw; (try dsimp only at hSw); go_simp; try with_reducible rfl)
  try simp only [Act.put]
  refine wpAnyH_take (i := 15) (v := ?_) rfl (by kernel_rfl) (by kernel_rfl) (by kernel_rfl) (fun _ _ _ h => h) (Or.inl ⟨by kernel_rfl, ?_⟩) hHeld ?_
  rotate_left
  focus (intro w hSw; (try dsimp only at hSw); go_simp; try with_reducible rfl)
  try simp only [Act.put]
  refine wpAnyH_take (i := 16) (v := ?_) rfl (by kernel_rfl) (by kernel_rfl) (by kernel_rfl) (fun _ _ _ h => h) (Or.inl ⟨by kernel_rfl, ?_⟩) hHeld ?_
  rotate_left
  focus (intro w hSw; (try dsimp only at hSw); go_simp; try with_reducible rfl)
  try simp only [Act.put]
  refine wpAnyH_take (i := 17) (v := ?_) rfl (by kernel_rfl) (by kernel_rfl) (by kernel_rfl) (fun _ _ _ h => h) (Or.inl ⟨by kernel_rfl, ?_⟩) hHeld ?_
  rotate_left
  focus (intro w hSw; (try dsimp only at hSw); go_simp; try with_reducible rfl)
  try simp only [Act.put]
  refine wpAnyH_ready (rs := [18]) (by kernel_rfl) (by simp) ?_
  refine AllReadyH.cons rfl (fun K hK => ?_) AllReadyH.nil
  go_simp
  refine (g2.out _ hb5).mono ?_
  rintro e w6 ⟨Ac, cc, rfl, hcv6, hb6⟩
  refine hK.out _ _ (HSA.out _ hb6) (fun hHeld => ?_)
  clear hK K
  refine wpAnyH_ready (rs := [19]) (by kernel_rfl) (by simp) ?_
  refine AllReadyH.cons rfl (fun K hK => ?_) AllReadyH.nil
  go_simp
  refine hK.out _ _ (HSA.out _ hb6) (fun hHeld => ?_)
  clear hK K
  refine wpAnyH_ready (rs := [20]) (by kernel_rfl) (by simp) ?_
  refine AllReadyH.cons rfl (fun K hK => ?_) AllReadyH.nil
  go_simp
  refine hK.out _ _ (HSA.out _ hb6) (fun hHeld => ?_)
  clear hK K
  refine wpAnyH_ready (rs := [21]) (by kernel_rfl) (by simp) ?_
  refine AllReadyH.cons rfl (fun K hK => ?_) AllReadyH.nil
  go_simp
  refine hK.out _ _ (HSA.out _ hb6) (fun hHeld => ?_)
  clear hK K
  refine wpAnyH_ready (rs := [22]) (by kernel_rfl) (by simp) ?_
  refine AllReadyH.cons rfl (fun K hK => ?_) AllReadyH.nil
  go_simp
  refine hK.out _ _ (HSA.out _ hb6) (fun hHeld => ?_)
  clear hK K
  refine wpAnyH_take (i := 23) (v := ?_) rfl (by kernel_rfl) (by kernel_rfl) (by kernel_rfl) (fun _ _ _ h => h) (Or.inl ⟨by kernel_rfl, ?_⟩) hHeld ?_
  rotate_left
  focus (intro w hSw; (try dsimp only at hSw); go_simp; try with_reducible rfl)
  try simp only [Act.put]
  refine wpAnyH_take (i := 25) (v := ?_) rfl (by kernel_rfl) (by kernel_rfl) (by kernel_rfl) (fun _ _ _ h => h) (Or.inl ⟨by kernel_rfl, ?_⟩) hHeld ?_
  rotate_left
  focus (intro w hSw; (try dsimp only at hSw); go_simp; try with_reducible rfl)
  try simp only [Act.put]
  refine wpAnyH_take (i := 28) (v := ?_) rfl (by kernel_rfl) (by kernel_rfl) (by kernel_rfl) (fun _ _ _ h => h) (Or.inl ⟨by kernel_rfl, ?_⟩) hHeld ?_
  rotate_left
  focus (intro w hSw; (try dsimp only at hSw); go_simp; try with_reducible rfl)
  try simp only [Act.put]
  refine wpAnyH_ready (rs := [24]) (by kernel_rfl) (by simp) ?_
  refine AllReadyH.cons rfl (fun K hK => ?_) AllReadyH.nil
  go_simp
  refine (gn.out _ _).mono ?_
  rintro e w' ⟨rfl, rfl⟩
  refine hK.out _ _ (HSA.out _ hb6) (fun hHeld => ?_)
  clear hK K
  refine wpAnyH_ready (rs := [26]) (by kernel_rfl) (by simp) ?_
  refine AllReadyH.cons rfl (fun K hK => ?_) AllReadyH.nil
  go_simp
  refine (gn.out _ _).mono ?_
  rintro e w' ⟨rfl, rfl⟩
  refine hK.out _ _ (HSA.out _ hb6) (fun hHeld => ?_)
  clear hK K
  refine wpAnyH_take (i := 27) (v := ?_) rfl (by kernel_rfl) (by kernel_rfl) (by kernel_rfl) (fun _ _ _ h => h) (Or.inl ⟨by kernel_rfl, ?_⟩) hHeld ?_
  rotate_left
  focus (intro w hSw; (try dsimp only at hSw); go_simp; try with_reducible rfl)
  try simp only [Act.put]
  refine wpAnyH_ready (rs := [29]) (by kernel_rfl) (by simp) ?_
  refine AllReadyH.cons rfl (fun K hK => ?_) AllReadyH.nil
  go_simp
  refine (gn.out _ _).mono ?_
  rintro e w' ⟨rfl, rfl⟩
  refine hK.out _ _ (HSA.out _ hb6) (fun hHeld => ?_)
  clear hK K
  refine wpAnyH_ready (rs := [30]) (by kernel_rfl) (by simp) ?_
  refine AllReadyH.cons rfl (fun K hK => ?_) AllReadyH.nil
  go_simp
  refine hK.out _ _ (HSA.out _ hb6) (fun hHeld => ?_)
  clear hK K
  refine wpAnyH_ready (rs := [31]) (by kernel_rfl) (by simp) ?_
  refine AllReadyH.cons rfl (fun K hK => ?_) AllReadyH.nil
  go_simp
  refine hK.out _ _ (HSA.out _ hb6) (fun hHeld => ?_)
  clear hK K
  refine wpAnyH_ready (rs := [32]) (by kernel_rfl) (by simp) ?_
  refine AllReadyH.cons rfl (fun K hK => ?_) AllReadyH.nil
  go_simp
  refine hK.out _ _ (HSA.out _ hb6) (fun hHeld => ?_)
  clear hK K
  refine wpAnyH_ready (rs := [33]) (by kernel_rfl) (by simp) ?_
  refine AllReadyH.cons rfl (fun K hK => ?_) AllReadyH.nil
  go_simp
  refine hK.out _ _ (HSA.out _ hb6) (fun hHeld => ?_)
  clear hK K
  refine wpAnyH_ready (rs := [34]) (by kernel_rfl) (by simp) ?_
  refine AllReadyH.cons rfl (fun K hK => ?_) AllReadyH.nil
  go_simp
  refine (g3.out _ hb6).mono ?_
  rintro e w7 ⟨rfl, hb7⟩
  refine hK.out _ _ (HSA.out _ hb7) (fun hHeld => ?_)
  clear hK K
  refine wpAnyH_ready (rs := [35]) (by kernel_rfl) (by simp) ?_
  refine AllReadyH.cons rfl (fun K hK => ?_) AllReadyH.nil
  go_simp
  refine hK.out _ _ (HSA.out _ hb7) (fun hHeld => ?_)
  clear hK K
  refine wpAnyH_ready (rs := [36]) (by kernel_rfl) (by simp) ?_
  refine AllReadyH.cons rfl (fun K hK => ?_) AllReadyH.nil
  go_simp
  refine hK.out _ _ (HSA.out _ hb7) (fun hHeld => ?_)
  clear hK K
  refine wpAnyH_done (by kernel_rfl) ?_ _
  have HB := hfin.out _ hb7
  clear HSA hdr g1 g2 g3 gn hfin hHeld hcv hcv6 hb5 hb6 hb7
  go_wp2_with fail
  go_ret
  exact ⟨rfl, HB⟩

theorem sealMakes_any (k at_ n : Nat) (c s : Int) (w : World) (ht : Tab w) (hk : k < 18446744073709551616) (ha : at_ < 4294967296) (hn : n < 4294967296) :
    Calls Tryd.prog 3 #[.agg #[.int .u64 (k : Int), .int .u32 (at_ : Int)], .agg #[.int .i64 c, .int .i64 s, .int .u32 (n : Int)]] w fun e w' => e = .returned (.bool true) ∧ Below w.heap.size w w' := by
  cases hok : okT c s
  · exact makes_no k at_ n c s w ht hk ha hok
  · obtain ⟨c', s', rfl, rfl, hc', hs'⟩ := ok_nats hok
    exact makes_ok k at_ c' s' n w ht hk ha hc' hs' hn
end Go.Proofs.YtfmbfojlopibnaaDoor
