import Derived.Test.YtfmbfojlopibnaaDoorRefHead
import Derived.Test.YtfmbfojlopibnaaDoorLook
namespace Go.Proofs.YtfmbfojlopibnaaDoor
open Go.RowKit Go.Shelf
attribute [local go_sem] Oper.semAt_some

/- THE DOCUMENT'S LOOK. -/

theorem str_eq (l m : List UInt8) : ((str l).toList == (str m).toList) = decide (l = m) := by
  rw [str_toList, str_toList]
  by_cases h : l = m
  · subst h; simp
  · simp [h]

set_option maxHeartbeats 4000000 in
theorem rlook_any (k at_ c s n : Nat) (A1 A2 : Option Addr) (n1 c1 n2 c2 : Nat) (l1 l2 : List UInt8) (w : World) (hk : k < 18446744073709551616) (ha : at_ < 4294967296) (hc : c < 8) (hs : s ≤ 65535) (hn : n < 4294967296)
    (hn1 : l1.length = n1) (hn2 : l2.length = n2) (hr1 : Sees w w.heap.size A1 (byt l1)) (hr2 : Sees w w.heap.size A2 (byt l2)) :
    Calls Tryd.prog 18 #[.int .u64 (k : Int), .int .u32 (at_ : Int), .agg #[.int .i64 (c : Int), .int .i64 (s : Int), .int .u32 (n : Int)], .slice A1 n1 c1, .slice A2 n2 c2] w fun e w' =>
      e = .returned (.int .i64 (lookN k at_ c s n l1 l2)) ∧ Below w.heap.size w w' := by
  obtain ⟨H, hH⟩ : ∃ H, H = sealB (foldN [k, at_]) (tagW c s n) := ⟨_, rfl⟩
  obtain ⟨T, hT⟩ : ∃ T, T = sealB (foldN [at_, k]) (tagW c s n) := ⟨_, rfl⟩
  have hHl : H.length = 16 := by rw [hH, sealB_length]
  have hTl : T.length = 16 := by rw [hT, sealB_length]
  obtain ⟨x, hx⟩ : ∃ x, x = lookN k at_ c s n l1 l2 := ⟨_, rfl⟩
  rw [← hx]
  have hx : x = firstOf ((if l1 = H then [] else [1]) ++ (if l2 = T then [] else [2])) := by rw [hx, lookN, ← hH, ← hT]; rfl
  obtain ⟨w0, hw0⟩ : ∃ w0, w0 = w.alloc (.cells #[.int .i64 (c : Int), .int .i64 (s : Int), .int .u32 (n : Int)] 27) := ⟨_, rfl⟩
  have hw : Below w.heap.size w w0 := by rw [hw0]; exact below1 _ _
  have hr0 : Row w0 w.heap.size 27 [.int .i64 (c : Int), .int .i64 (s : Int), .int .u32 (n : Int)] := by rw [hw0]; exact Row.new _ _ _
  have x0 : w0.cell? ⟨w.heap.size, 0, none⟩ = some (.int .i64 (c : Int)) := hr0.cell 0
  have x1 : w0.cell? ⟨w.heap.size, 1, none⟩ = some (.int .i64 (s : Int)) := hr0.cell 1
  have x2 : w0.cell? ⟨w.heap.size, 2, none⟩ = some (.int .u32 (n : Int)) := hr0.cell 2
  have hl := hr0.lt
  obtain ⟨s1, hs1⟩ : ∃ s1, s1 = str l1 := ⟨_, rfl⟩
  obtain ⟨s2, hs2⟩ : ∃ s2, s2 = str l2 := ⟨_, rfl⟩
  obtain ⟨sH, hsH⟩ : ∃ sH, sH = str H := ⟨_, rfl⟩
  obtain ⟨sT, hsT⟩ : ∃ sT, sT = str T := ⟨_, rfl⟩
  have q1e : (s1.toList == sH.toList) = decide (l1 = H) := by rw [hs1, hsH, str_eq]
  have q2e : (s2.toList == sT.toList) = decide (l2 = T) := by rw [hs2, hsT, str_eq]
  have h1 := Lib.hid (fun W (hB : Below w0.heap.size w0 W) => (show Calls Tryd.prog 13 #[.int .u64 (k : Int), .int .u32 (at_ : Int), .agg #[.int .i64 (c : Int), .int .i64 (s : Int), .int .u32 (n : Int)]] W (fun e W' => ∃ Ab cb, e = .returned (.slice Ab 16 cb) ∧ (convert 28 9 (.slice Ab 16 cb)).run Tryd.prog W' = .ok (.string sH) W' ∧ Below w0.heap.size w0 W') from by
    refine (rhead_any k at_ c s n W hk ha hc hs hn).mono ?_
    rintro e W' ⟨v, rfl, ho, hb⟩
    obtain ⟨Ab, cb, rfl⟩ := own_slice ho
    exact ⟨Ab, cb, rfl, by rw [hsH]; exact run_conv_sees W' Tryd.underlying28 Tryd.underlying5 Tryd.underlying9 hHl (by rw [hH]; exact Sees.of_own ho), hB.trans (hb.mono hB.size)⟩))
  have h2 := Lib.hid (fun W (hB : Below w0.heap.size w0 W) => (show Calls Tryd.prog 14 #[.int .u64 (k : Int), .int .u32 (at_ : Int), .agg #[.int .i64 (c : Int), .int .i64 (s : Int), .int .u32 (n : Int)]] W (fun e W' => ∃ Ab cb, e = .returned (.slice Ab 16 cb) ∧ (convert 28 9 (.slice Ab 16 cb)).run Tryd.prog W' = .ok (.string sT) W' ∧ Below w0.heap.size w0 W') from by
    refine (rtail_any k at_ c s n W hk ha hc hs hn).mono ?_
    rintro e W' ⟨v, rfl, ho, hb⟩
    obtain ⟨Ab, cb, rfl⟩ := own_slice ho
    exact ⟨Ab, cb, rfl, by rw [hsT]; exact run_conv_sees W' Tryd.underlying28 Tryd.underlying5 Tryd.underlying9 hTl (by rw [hT]; exact Sees.of_own ho), hB.trans (hb.mono hB.size)⟩))
  have HSA := Lib.hid (fun X (hB : Below w0.heap.size w0 X) => (show X.cell? ⟨w.heap.size, 0, none⟩ = some (.int .i64 (c : Int)) ∧ X.cell? ⟨w.heap.size, 1, none⟩ = some (.int .i64 (s : Int)) ∧ X.cell? ⟨w.heap.size, 2, none⟩ = some (.int .u32 (n : Int)) ∧ (convert 28 9 (.slice A1 n1 c1)).run Tryd.prog X = .ok (.string s1) X ∧ (convert 28 9 (.slice A2 n2 c2)).run Tryd.prog X = .ok (.string s2) X ∧ Below w0.heap.size w0 X from
    ⟨(hB.cell (p := ⟨w.heap.size, 0, none⟩) hl).trans x0, (hB.cell (p := ⟨w.heap.size, 1, none⟩) hl).trans x1, (hB.cell (p := ⟨w.heap.size, 2, none⟩) hl).trans x2,
      by rw [hs1]; exact run_conv_sees X Tryd.underlying28 Tryd.underlying5 Tryd.underlying9 hn1 ((hr1.below hw).below (hB.mono hw.size)),
      by rw [hs2]; exact run_conv_sees X Tryd.underlying28 Tryd.underlying5 Tryd.underlying9 hn2 ((hr2.below hw).below (hB.mono hw.size)), hB⟩))
  have HDR := Lib.hid (fun (X : World) (hB : Below w0.heap.size w0 X) => (show Below w0.heap.size w0 X.drew from hB.drew))
  have hfin := Lib.hid (fun (W : World) (hB : Below w0.heap.size w0 W) => (show Below w.heap.size w W from hw.trans (hB.mono hw.size)))
  have hb0 : Below w0.heap.size w0 w0 := Below.refl _ _
  obtain ⟨q1, hq1⟩ : ∃ q1, decide (l1 = H) = q1 := ⟨_, rfl⟩
  obtain ⟨q2, hq2⟩ : ∃ q2, decide (l2 = T) = q2 := ⟨_, rfl⟩
  rw [hq1] at q1e
  rw [hq2] at q2e
  have hxq : x = if q1 = true then (if q2 = true then 0 else 2) else 1 := by
    rw [hx, ← hq1, ← hq2]
    by_cases h : l1 = H <;> by_cases h' : l2 = T <;> simp [h, h', firstOf]
  clear hx hq1 hq2 hH hT hHl hTl hs1 hs2 hsH hsT hr1 hr2 hr0 hw hk ha hc hs hn hn1 hn2
  cases q1
  · obtain rfl : x = 1 := hxq
    go_enter Tryd.func18, Tryd.ntmps18
    go_wp2_with fail
    rw [← hw0]
    clear hw0
    refine wp_region_held_drew (S := fun X => X.cell? ⟨w.heap.size, 0, none⟩ = some (.int .i64 (c : Int)) ∧ X.cell? ⟨w.heap.size, 1, none⟩ = some (.int .i64 (s : Int)) ∧ X.cell? ⟨w.heap.size, 2, none⟩ = some (.int .u32 (n : Int)) ∧ (convert 28 9 (.slice A1 n1 c1)).run Tryd.prog X = .ok (.string s1) X ∧ (convert 28 9 (.slice A2 n2 c2)).run Tryd.prog X = .ok (.string s2) X ∧ Below w0.heap.size w0 X) (by kernel_rfl) (HSA.out _ (HDR.out _ hb0)) (fun hHeld => ?_)
    refine wpAnyH_take (i := 0) (v := ?_) rfl (by kernel_rfl) (by kernel_rfl) (by kernel_rfl) (fun _ _ _ h => h) (Or.inl ⟨by kernel_rfl, ?_⟩) hHeld ?_
    rotate_left
    focus (intro w hSw; (try dsimp only at hSw); go_simp; try with_reducible rfl)
    try simp only [Act.put]
    refine wpAnyH_take (i := 1) (v := ?_) rfl (by kernel_rfl) (by kernel_rfl) (by kernel_rfl) (fun _ _ _ h => h) (Or.inl ⟨by kernel_rfl, ?_⟩) hHeld ?_
    rotate_left
    focus (intro w hSw; (try dsimp only at hSw); go_simp; try with_reducible rfl)
    try simp only [Act.put]
    refine wpAnyH_take (i := 2) (v := ?_) rfl (by kernel_rfl) (by kernel_rfl) (by kernel_rfl) (fun _ _ _ h => h) (Or.inl ⟨by kernel_rfl, ?_⟩) hHeld ?_
    rotate_left
    focus (intro w hSw; (try dsimp only at hSw); go_simp; try with_reducible rfl)
    try simp only [Act.put]
    refine wpAnyH_take (i := 3) (v := ?_) rfl (by kernel_rfl) (by kernel_rfl) (by kernel_rfl) (fun _ _ _ h => h) (Or.inl ⟨by kernel_rfl, ?_⟩) hHeld ?_
    rotate_left
    focus (intro w hSw; (try dsimp only at hSw); go_simp; try with_reducible rfl)
    try simp only [Act.put]
    refine wpAnyH_take (i := 4) (v := ?_) rfl (by kernel_rfl) (by kernel_rfl) (by kernel_rfl) (fun _ _ _ h => h) (Or.inl ⟨by kernel_rfl, ?_⟩) hHeld ?_
    rotate_left
    focus (intro w hSw; (try dsimp only at hSw); go_simp; try with_reducible rfl)
    try simp only [Act.put]
    refine wpAnyH_ready (rs := [5]) (by kernel_rfl) (by simp) ?_
    refine AllReadyH.cons rfl (fun K hK => ?_) AllReadyH.nil
    go_simp
    refine (h1.out _ (HDR.out _ hb0)).mono ?_
    rintro e w2 ⟨Ab, cb, rfl, hcv, hb2⟩
    refine hK.out _ _ (HSA.out _ hb2) (fun hHeld => ?_)
    clear hK K
    refine wpAnyH_ready (rs := [6]) (by kernel_rfl) (by simp) ?_
    refine AllReadyH.cons rfl (fun K hK => ?_) AllReadyH.nil
    go_simp
    refine hK.out _ _ (HSA.out _ hb2) (fun hHeld => ?_)
    clear hK K
    refine wpAnyH_ready (rs := [7]) (by kernel_rfl) (by simp) ?_
    refine AllReadyH.cons rfl (fun K hK => ?_) AllReadyH.nil
    go_simp
    refine hK.out _ _ (HSA.out _ hb2) (fun hHeld => ?_)
    clear hK K
    refine wpAnyH_done (by kernel_rfl) ?_ _
    clear hHeld
    focus
      have HB := hfin.out _ hb2
      clear h1 h2 HSA HDR hfin
      go_wp2
      go_ret
      exact ⟨rfl, HB⟩
  · cases q2
    · obtain rfl : x = 2 := hxq
      go_enter Tryd.func18, Tryd.ntmps18
      go_wp2_with fail
      rw [← hw0]
      clear hw0
      refine wp_region_held_drew (S := fun X => X.cell? ⟨w.heap.size, 0, none⟩ = some (.int .i64 (c : Int)) ∧ X.cell? ⟨w.heap.size, 1, none⟩ = some (.int .i64 (s : Int)) ∧ X.cell? ⟨w.heap.size, 2, none⟩ = some (.int .u32 (n : Int)) ∧ (convert 28 9 (.slice A1 n1 c1)).run Tryd.prog X = .ok (.string s1) X ∧ (convert 28 9 (.slice A2 n2 c2)).run Tryd.prog X = .ok (.string s2) X ∧ Below w0.heap.size w0 X) (by kernel_rfl) (HSA.out _ (HDR.out _ hb0)) (fun hHeld => ?_)
      refine wpAnyH_take (i := 0) (v := ?_) rfl (by kernel_rfl) (by kernel_rfl) (by kernel_rfl) (fun _ _ _ h => h) (Or.inl ⟨by kernel_rfl, ?_⟩) hHeld ?_
      rotate_left
      focus (intro w hSw; (try dsimp only at hSw); go_simp; try with_reducible rfl)
      try simp only [Act.put]
      refine wpAnyH_take (i := 1) (v := ?_) rfl (by kernel_rfl) (by kernel_rfl) (by kernel_rfl) (fun _ _ _ h => h) (Or.inl ⟨by kernel_rfl, ?_⟩) hHeld ?_
      rotate_left
      focus (intro w hSw; (try dsimp only at hSw); go_simp; try with_reducible rfl)
      try simp only [Act.put]
      refine wpAnyH_take (i := 2) (v := ?_) rfl (by kernel_rfl) (by kernel_rfl) (by kernel_rfl) (fun _ _ _ h => h) (Or.inl ⟨by kernel_rfl, ?_⟩) hHeld ?_
      rotate_left
      focus (intro w hSw; (try dsimp only at hSw); go_simp; try with_reducible rfl)
      try simp only [Act.put]
      refine wpAnyH_take (i := 3) (v := ?_) rfl (by kernel_rfl) (by kernel_rfl) (by kernel_rfl) (fun _ _ _ h => h) (Or.inl ⟨by kernel_rfl, ?_⟩) hHeld ?_
      rotate_left
      focus (intro w hSw; (try dsimp only at hSw); go_simp; try with_reducible rfl)
      try simp only [Act.put]
      refine wpAnyH_take (i := 4) (v := ?_) rfl (by kernel_rfl) (by kernel_rfl) (by kernel_rfl) (fun _ _ _ h => h) (Or.inl ⟨by kernel_rfl, ?_⟩) hHeld ?_
      rotate_left
      focus (intro w hSw; (try dsimp only at hSw); go_simp; try with_reducible rfl)
      try simp only [Act.put]
      refine wpAnyH_ready (rs := [5]) (by kernel_rfl) (by simp) ?_
      refine AllReadyH.cons rfl (fun K hK => ?_) AllReadyH.nil
      go_simp
      refine (h1.out _ (HDR.out _ hb0)).mono ?_
      rintro e w2 ⟨Ab, cb, rfl, hcv, hb2⟩
      refine hK.out _ _ (HSA.out _ hb2) (fun hHeld => ?_)
      clear hK K
      refine wpAnyH_ready (rs := [6]) (by kernel_rfl) (by simp) ?_
      refine AllReadyH.cons rfl (fun K hK => ?_) AllReadyH.nil
      go_simp
      refine hK.out _ _ (HSA.out _ hb2) (fun hHeld => ?_)
      clear hK K
      refine wpAnyH_ready (rs := [7]) (by kernel_rfl) (by simp) ?_
      refine AllReadyH.cons rfl (fun K hK => ?_) AllReadyH.nil
      go_simp
      refine hK.out _ _ (HSA.out _ hb2) (fun hHeld => ?_)
      clear hK K
      refine wpAnyH_done (by kernel_rfl) ?_ _
      clear hHeld
      clear hb0
      go_wp2_with fail
      clear hcv
      refine wp_region_held_drew (S := fun X => X.cell? ⟨w.heap.size, 0, none⟩ = some (.int .i64 (c : Int)) ∧ X.cell? ⟨w.heap.size, 1, none⟩ = some (.int .i64 (s : Int)) ∧ X.cell? ⟨w.heap.size, 2, none⟩ = some (.int .u32 (n : Int)) ∧ (convert 28 9 (.slice A1 n1 c1)).run Tryd.prog X = .ok (.string s1) X ∧ (convert 28 9 (.slice A2 n2 c2)).run Tryd.prog X = .ok (.string s2) X ∧ Below w0.heap.size w0 X) (by kernel_rfl) (HSA.out _ (HDR.out _ hb2)) (fun hHeld => ?_)
      refine wpAnyH_take (i := 0) (v := ?_) rfl (by kernel_rfl) (by kernel_rfl) (by kernel_rfl) (fun _ _ _ h => h) (Or.inl ⟨by kernel_rfl, ?_⟩) hHeld ?_
      rotate_left
      focus (intro w hSw; (try dsimp only at hSw); go_simp; try with_reducible rfl)
      try simp only [Act.put]
      refine wpAnyH_take (i := 1) (v := ?_) rfl (by kernel_rfl) (by kernel_rfl) (by kernel_rfl) (fun _ _ _ h => h) (Or.inl ⟨by kernel_rfl, ?_⟩) hHeld ?_
      rotate_left
      focus (intro w hSw; (try dsimp only at hSw); go_simp; try with_reducible rfl)
      try simp only [Act.put]
      refine wpAnyH_take (i := 2) (v := ?_) rfl (by kernel_rfl) (by kernel_rfl) (by kernel_rfl) (fun _ _ _ h => h) (Or.inl ⟨by kernel_rfl, ?_⟩) hHeld ?_
      rotate_left
      focus (intro w hSw; (try dsimp only at hSw); go_simp; try with_reducible rfl)
      try simp only [Act.put]
      refine wpAnyH_take (i := 3) (v := ?_) rfl (by kernel_rfl) (by kernel_rfl) (by kernel_rfl) (fun _ _ _ h => h) (Or.inl ⟨by kernel_rfl, ?_⟩) hHeld ?_
      rotate_left
      focus (intro w hSw; (try dsimp only at hSw); go_simp; try with_reducible rfl)
      try simp only [Act.put]
      refine wpAnyH_take (i := 4) (v := ?_) rfl (by kernel_rfl) (by kernel_rfl) (by kernel_rfl) (fun _ _ _ h => h) (Or.inl ⟨by kernel_rfl, ?_⟩) hHeld ?_
      rotate_left
      focus (intro w hSw; (try dsimp only at hSw); go_simp; try with_reducible rfl)
      try simp only [Act.put]
      refine wpAnyH_ready (rs := [5]) (by kernel_rfl) (by simp) ?_
      refine AllReadyH.cons rfl (fun K hK => ?_) AllReadyH.nil
      go_simp
      refine (h2.out _ (HDR.out _ hb2)).mono ?_
      rintro e w3 ⟨Ac, cc, rfl, hcv3, hb3⟩
      refine hK.out _ _ (HSA.out _ hb3) (fun hHeld => ?_)
      clear hK K
      refine wpAnyH_ready (rs := [6]) (by kernel_rfl) (by simp) ?_
      refine AllReadyH.cons rfl (fun K hK => ?_) AllReadyH.nil
      go_simp
      refine hK.out _ _ (HSA.out _ hb3) (fun hHeld => ?_)
      clear hK K
      refine wpAnyH_ready (rs := [7]) (by kernel_rfl) (by simp) ?_
      refine AllReadyH.cons rfl (fun K hK => ?_) AllReadyH.nil
      go_simp
      refine hK.out _ _ (HSA.out _ hb3) (fun hHeld => ?_)
      clear hK K
      refine wpAnyH_done (by kernel_rfl) ?_ _
      clear hHeld
      focus
        have HB := hfin.out _ hb3
        clear h1 h2 HSA HDR hfin
        go_wp2
        go_ret
        exact ⟨rfl, HB⟩
    · obtain rfl : x = 0 := hxq
      go_enter Tryd.func18, Tryd.ntmps18
      go_wp2_with fail
      rw [← hw0]
      clear hw0
      refine wp_region_held_drew (S := fun X => X.cell? ⟨w.heap.size, 0, none⟩ = some (.int .i64 (c : Int)) ∧ X.cell? ⟨w.heap.size, 1, none⟩ = some (.int .i64 (s : Int)) ∧ X.cell? ⟨w.heap.size, 2, none⟩ = some (.int .u32 (n : Int)) ∧ (convert 28 9 (.slice A1 n1 c1)).run Tryd.prog X = .ok (.string s1) X ∧ (convert 28 9 (.slice A2 n2 c2)).run Tryd.prog X = .ok (.string s2) X ∧ Below w0.heap.size w0 X) (by kernel_rfl) (HSA.out _ (HDR.out _ hb0)) (fun hHeld => ?_)
      refine wpAnyH_take (i := 0) (v := ?_) rfl (by kernel_rfl) (by kernel_rfl) (by kernel_rfl) (fun _ _ _ h => h) (Or.inl ⟨by kernel_rfl, ?_⟩) hHeld ?_
      rotate_left
      focus (intro w hSw; (try dsimp only at hSw); go_simp; try with_reducible rfl)
      try simp only [Act.put]
      refine wpAnyH_take (i := 1) (v := ?_) rfl (by kernel_rfl) (by kernel_rfl) (by kernel_rfl) (fun _ _ _ h => h) (Or.inl ⟨by kernel_rfl, ?_⟩) hHeld ?_
      rotate_left
      focus (intro w hSw; (try dsimp only at hSw); go_simp; try with_reducible rfl)
      try simp only [Act.put]
      refine wpAnyH_take (i := 2) (v := ?_) rfl (by kernel_rfl) (by kernel_rfl) (by kernel_rfl) (fun _ _ _ h => h) (Or.inl ⟨by kernel_rfl, ?_⟩) hHeld ?_
      rotate_left
      focus (intro w hSw; (try dsimp only at hSw); go_simp; try with_reducible rfl)
      try simp only [Act.put]
      refine wpAnyH_take (i := 3) (v := ?_) rfl (by kernel_rfl) (by kernel_rfl) (by kernel_rfl) (fun _ _ _ h => h) (Or.inl ⟨by kernel_rfl, ?_⟩) hHeld ?_
      rotate_left
      focus (intro w hSw; (try dsimp only at hSw); go_simp; try with_reducible rfl)
      try simp only [Act.put]
      refine wpAnyH_take (i := 4) (v := ?_) rfl (by kernel_rfl) (by kernel_rfl) (by kernel_rfl) (fun _ _ _ h => h) (Or.inl ⟨by kernel_rfl, ?_⟩) hHeld ?_
      rotate_left
      focus (intro w hSw; (try dsimp only at hSw); go_simp; try with_reducible rfl)
      try simp only [Act.put]
      refine wpAnyH_ready (rs := [5]) (by kernel_rfl) (by simp) ?_
      refine AllReadyH.cons rfl (fun K hK => ?_) AllReadyH.nil
      go_simp
      refine (h1.out _ (HDR.out _ hb0)).mono ?_
      rintro e w2 ⟨Ab, cb, rfl, hcv, hb2⟩
      refine hK.out _ _ (HSA.out _ hb2) (fun hHeld => ?_)
      clear hK K
      refine wpAnyH_ready (rs := [6]) (by kernel_rfl) (by simp) ?_
      refine AllReadyH.cons rfl (fun K hK => ?_) AllReadyH.nil
      go_simp
      refine hK.out _ _ (HSA.out _ hb2) (fun hHeld => ?_)
      clear hK K
      refine wpAnyH_ready (rs := [7]) (by kernel_rfl) (by simp) ?_
      refine AllReadyH.cons rfl (fun K hK => ?_) AllReadyH.nil
      go_simp
      refine hK.out _ _ (HSA.out _ hb2) (fun hHeld => ?_)
      clear hK K
      refine wpAnyH_done (by kernel_rfl) ?_ _
      clear hHeld
      clear hb0
      go_wp2_with fail
      clear hcv
      refine wp_region_held_drew (S := fun X => X.cell? ⟨w.heap.size, 0, none⟩ = some (.int .i64 (c : Int)) ∧ X.cell? ⟨w.heap.size, 1, none⟩ = some (.int .i64 (s : Int)) ∧ X.cell? ⟨w.heap.size, 2, none⟩ = some (.int .u32 (n : Int)) ∧ (convert 28 9 (.slice A1 n1 c1)).run Tryd.prog X = .ok (.string s1) X ∧ (convert 28 9 (.slice A2 n2 c2)).run Tryd.prog X = .ok (.string s2) X ∧ Below w0.heap.size w0 X) (by kernel_rfl) (HSA.out _ (HDR.out _ hb2)) (fun hHeld => ?_)
      refine wpAnyH_take (i := 0) (v := ?_) rfl (by kernel_rfl) (by kernel_rfl) (by kernel_rfl) (fun _ _ _ h => h) (Or.inl ⟨by kernel_rfl, ?_⟩) hHeld ?_
      rotate_left
      focus (intro w hSw; (try dsimp only at hSw); go_simp; try with_reducible rfl)
      try simp only [Act.put]
      refine wpAnyH_take (i := 1) (v := ?_) rfl (by kernel_rfl) (by kernel_rfl) (by kernel_rfl) (fun _ _ _ h => h) (Or.inl ⟨by kernel_rfl, ?_⟩) hHeld ?_
      rotate_left
      focus (intro w hSw; (try dsimp only at hSw); go_simp; try with_reducible rfl)
      try simp only [Act.put]
      refine wpAnyH_take (i := 2) (v := ?_) rfl (by kernel_rfl) (by kernel_rfl) (by kernel_rfl) (fun _ _ _ h => h) (Or.inl ⟨by kernel_rfl, ?_⟩) hHeld ?_
      rotate_left
      focus (intro w hSw; (try dsimp only at hSw); go_simp; try with_reducible rfl)
      try simp only [Act.put]
      refine wpAnyH_take (i := 3) (v := ?_) rfl (by kernel_rfl) (by kernel_rfl) (by kernel_rfl) (fun _ _ _ h => h) (Or.inl ⟨by kernel_rfl, ?_⟩) hHeld ?_
      rotate_left
      focus (intro w hSw; (try dsimp only at hSw); go_simp; try with_reducible rfl)
      try simp only [Act.put]
      refine wpAnyH_take (i := 4) (v := ?_) rfl (by kernel_rfl) (by kernel_rfl) (by kernel_rfl) (fun _ _ _ h => h) (Or.inl ⟨by kernel_rfl, ?_⟩) hHeld ?_
      rotate_left
      focus (intro w hSw; (try dsimp only at hSw); go_simp; try with_reducible rfl)
      try simp only [Act.put]
      refine wpAnyH_ready (rs := [5]) (by kernel_rfl) (by simp) ?_
      refine AllReadyH.cons rfl (fun K hK => ?_) AllReadyH.nil
      go_simp
      refine (h2.out _ (HDR.out _ hb2)).mono ?_
      rintro e w3 ⟨Ac, cc, rfl, hcv3, hb3⟩
      refine hK.out _ _ (HSA.out _ hb3) (fun hHeld => ?_)
      clear hK K
      refine wpAnyH_ready (rs := [6]) (by kernel_rfl) (by simp) ?_
      refine AllReadyH.cons rfl (fun K hK => ?_) AllReadyH.nil
      go_simp
      refine hK.out _ _ (HSA.out _ hb3) (fun hHeld => ?_)
      clear hK K
      refine wpAnyH_ready (rs := [7]) (by kernel_rfl) (by simp) ?_
      refine AllReadyH.cons rfl (fun K hK => ?_) AllReadyH.nil
      go_simp
      refine hK.out _ _ (HSA.out _ hb3) (fun hHeld => ?_)
      clear hK K
      refine wpAnyH_done (by kernel_rfl) ?_ _
      clear hHeld
      focus
        have HB := hfin.out _ hb3
        clear h1 h2 HSA HDR hfin
        go_wp2
        go_ret
        exact ⟨rfl, HB⟩
end Go.Proofs.YtfmbfojlopibnaaDoor
