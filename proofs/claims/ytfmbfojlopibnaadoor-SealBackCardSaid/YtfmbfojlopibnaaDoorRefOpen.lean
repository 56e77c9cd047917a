import Derived.Test.YtfmbfojlopibnaaDoorRefLook
namespace Go.Proofs.YtfmbfojlopibnaaDoor
open Go.RowKit Go.Shelf
attribute [local go_sem] Oper.semAt_some

/- THE DOCUMENT'S OPEN. -/

theorem tag_of (x : Nat) : tagW (x / 281474976710656) (x / 4294967296 % 65536) (x % 4294967296) = x := by unfold tagW; omega
theorem le8_inj {a b : Nat} (ha : a < 18446744073709551616) (hb : b < 18446744073709551616) : le 8 a = le 8 b ↔ a = b := by
  refine ⟨fun h => ?_, fun h => by rw [h]⟩
  rw [← leVal_le 8 a ha, h, leVal_le 8 b hb]
theorem head_bytes (l : List UInt8) (hl : l.length = 16) : l = le 8 (leVal (l.take 8)) ++ le 8 (leVal (l.drop 8)) := by
  have h1 : (l.take 8).length = 8 := by rw [List.length_take, hl]; rfl
  have h2 : (l.drop 8).length = 8 := by rw [List.length_drop, hl]
  have e1 := le_leVal (l.take 8)
  have e2 := le_leVal (l.drop 8)
  rw [h1] at e1
  rw [h2] at e2
  rw [e1, e2, List.take_append_drop]
theorem half_lt (l : List UInt8) (hl : l.length = 16) : leVal (l.take 8) < 18446744073709551616 ∧ leVal (l.drop 8) < 18446744073709551616 :=
  ⟨Nat.lt_of_lt_of_le (leVal_lt _) (by rw [List.length_take, hl]; decide), Nat.lt_of_lt_of_le (leVal_lt _) (by rw [List.length_drop, hl]; decide)⟩
theorem seal_iff0 (K A B y : Nat) (hA : A < 18446744073709551616) (hB : B < 18446744073709551616) (hy : y < 18446744073709551616) : le 8 (mixN K (undoN K A)) ++ le 8 (mixN K y) = le 8 A ++ le 8 B ↔ undoN K B = y := by
  rw [mix_undo hA]
  refine ⟨fun h => ?_, fun h => by rw [← h, mix_undo hB]⟩
  have h := (le8_inj (mixN_lt hy) hB).1 (List.append_cancel_left h)
  rw [← h, undo_mix hy]
theorem seal_iff (K : Nat) (l : List UInt8) (hl : l.length = 16) : sealB K (undoN K (leVal (l.take 8))) = l ↔ undoN K (leVal (l.drop 8)) = 18446744073709551615 - undoN K (leVal (l.take 8)) := by
  obtain ⟨h1, h2⟩ := half_lt l hl
  have hx := undoN_lt (key := K) h1
  have hb := head_bytes l hl
  have hlt : 18446744073709551615 - undoN K (leVal (l.take 8)) < 18446744073709551616 := by omega
  have := seal_iff0 K (leVal (l.take 8)) (leVal (l.drop 8)) _ h1 h2 hlt
  rw [← hb] at this
  exact this

set_option maxHeartbeats 1000000 in
theorem ropen_arg (k at_ : Int) (A : Option Addr) (n c : Nat) (w : World) (hn : n ≠ 16) :
    Calls Tryd.prog 16 #[.int .u64 k, .int .u32 at_, .slice A n c] w fun e w' => e = .returned (.tuple #[.agg #[.int .i64 0, .int .i64 0, .int .u32 0], .int .i64 2]) ∧ Below w.heap.size w w' := by
  have e0 : ((n : Int) != 16) = true := by simp; omega
  obtain ⟨w0, hw0⟩ : ∃ w0, w0 = w.alloc (.cells #[.int .i64 0, .int .i64 0, .int .u32 0] 27) := ⟨_, rfl⟩
  have hBR : Below w.heap.size w w0 := by rw [hw0]; exact below1 _ _
  have hrR : Row w0 w.heap.size 27 [.int .i64 0, .int .i64 0, .int .u32 0] := by rw [hw0]; exact Row.new _ _ _
  have d0 : w0.cell? ⟨w.heap.size, 0, none⟩ = some (.int .i64 0) := hrR.cell 0
  have d1 : w0.cell? ⟨w.heap.size, 1, none⟩ = some (.int .i64 0) := hrR.cell 1
  have d2 : w0.cell? ⟨w.heap.size, 2, none⟩ = some (.int .u32 0) := hrR.cell 2
  have HBR := Lib.hid hBR
  clear hn hrR hBR
  go_enter Tryd.func16, Tryd.ntmps16
  go_wp2_with fail
  rw [← hw0]
  exact bodyPost_ret (v := .tuple #[.agg #[.int .i64 0, .int .i64 0, .int .u32 0], .int .i64 2]) (by simp [results, Tryd.results16, go_sem, d0, d1, d2]) rfl ⟨rfl, HBR.out⟩

set_option maxHeartbeats 4000000 in
theorem ropen_any (k at_ : Nat) (l : List UInt8) (A : Option Addr) (c : Nat) (w : World) (hk : k < 18446744073709551616) (ha : at_ < 4294967296) (hl : l.length = 16) (hc : 16 ≤ c) (hr : Sees w w.heap.size A (byt l)) :
    Calls Tryd.prog 16 #[.int .u64 (k : Int), .int .u32 (at_ : Int), .slice A 16 c] w fun e w' =>
      e = .returned (OpenV (undoN (foldN [k, at_]) (leVal (l.take 8))) (undoN (foldN [k, at_]) (leVal (l.drop 8)))) ∧ Below w.heap.size w w' := by
  obtain ⟨ad, rfl, _, _⟩ := hr (by intro h; have := congrArg List.length h; rw [byt_length, hl] at this; simp at this)
  have hKl : foldN [k, at_] < 18446744073709551616 := foldN_lt (fun x hx => by simp at hx; omega)
  have hal := (half_lt l hl).1
  have hxl := undoN_lt (key := foldN [k, at_]) hal
  obtain ⟨w0, hw0⟩ : ∃ w0, w0 = w.alloc (.cells #[.int .i64 0, .int .i64 0, .int .u32 0] 27) := ⟨_, rfl⟩
  have hs0 : w0.heap.size = w.heap.size + 1 := by rw [hw0]; simp
  have hB0 : Below w.heap.size w w0 := by rw [hw0]; exact below1 _ _
  have hR0 : Row w0 w.heap.size 27 [.int .i64 0, .int .i64 0, .int .u32 0] := by rw [hw0]; exact Row.new _ _ _
  have hv : ∀ p q : Bool, decide (undoN (foldN [k, at_]) (leVal (l.drop 8)) = 18446744073709551615 - undoN (foldN [k, at_]) (leVal (l.take 8))) = p → decide (undoN (foldN [k, at_]) (leVal (l.take 8)) / 281474976710656 < 8) = q →
      OpenV (undoN (foldN [k, at_]) (leVal (l.take 8))) (undoN (foldN [k, at_]) (leVal (l.drop 8))) = if (q && p) = true then .tuple #[.agg #[.int .i64 ((undoN (foldN [k, at_]) (leVal (l.take 8)) / 281474976710656 : Nat) : Int), .int .i64 ((undoN (foldN [k, at_]) (leVal (l.take 8)) / 4294967296 % 65536 : Nat) : Int), .int .u32 ((undoN (foldN [k, at_]) (leVal (l.take 8)) % 4294967296 : Nat) : Int)], .int .i64 0]
      else .tuple #[.agg #[.int .i64 0, .int .i64 0, .int .u32 0], .int .i64 160] := by
    rintro p q rfl rfl
    unfold OpenV
    by_cases h1 : undoN (foldN [k, at_]) (leVal (l.drop 8)) = 18446744073709551615 - undoN (foldN [k, at_]) (leVal (l.take 8)) <;> by_cases h2 : undoN (foldN [k, at_]) (leVal (l.take 8)) / 281474976710656 < 8 <;> simp [h1, h2]
  have hsi := seal_iff (foldN [k, at_]) l hl
  have g1 := Lib.hid (refget_ok (l.take 8) 8 c w.heap.size (some ad) w0 (by rw [List.length_take, hl]; rfl) rfl (by rw [← byt_take]; exact (hr.take 8).below hB0))
  have g2 := Lib.hid (fun (g : Nat) W (hr : Row W g 22 [.int .u64 (k : Int), .int .u64 (at_ : Int)]) => rfold_any [k, at_] (some ⟨g, 0, none⟩) 2 W (fun x hx => by simp at hx; omega) (by simp) hr.sees)
  have g3 := Lib.hid (fun W => rundo_any (foldN [k, at_]) (leVal (l.take 8)) W hKl hal)
  have e1 : bits BinOp.and IntKind.u64 ((undoN (foldN [k, at_]) (leVal (l.take 8)) : Int) / 4294967296) 65535 = ((undoN (foldN [k, at_]) (leVal (l.take 8)) / 4294967296 % 65536 : Nat) : Int) := by
    rw [show (undoN (foldN [k, at_]) (leVal (l.take 8)) : Int) / 4294967296 = ((undoN (foldN [k, at_]) (leVal (l.take 8)) / 4294967296 : Nat) : Int) by omega, and_low _ (by omega)]
  have e2 := and_mask (undoN (foldN [k, at_]) (leVal (l.take 8))) hxl
  have e3 : (undoN (foldN [k, at_]) (leVal (l.take 8)) : Int) / 281474976710656 = ((undoN (foldN [k, at_]) (leVal (l.take 8)) / 281474976710656 : Nat) : Int) := by omega
  obtain ⟨p, hp⟩ : ∃ p, decide (undoN (foldN [k, at_]) (leVal (l.drop 8)) = 18446744073709551615 - undoN (foldN [k, at_]) (leVal (l.take 8))) = p := ⟨_, rfl⟩
  obtain ⟨q, hq⟩ : ∃ q, decide (undoN (foldN [k, at_]) (leVal (l.take 8)) / 281474976710656 < 8) = q := ⟨_, rfl⟩
  rw [hv p q hp hq]
  clear hv
  have hpe : decide (sealB (foldN [k, at_]) (undoN (foldN [k, at_]) (leVal (l.take 8))) = l) = p := by
    rw [← hp]
    exact decide_eq_decide.2 hsi
  clear hsi hp
  obtain ⟨a, haa⟩ : ∃ a, a = leVal (l.take 8) := ⟨_, rfl⟩
  rw [← haa] at g1 g3 e1 e2 e3 hq hpe hxl ⊢
  clear haa hal
  obtain ⟨x, hx⟩ : ∃ x, x = undoN (foldN [k, at_]) a := ⟨_, rfl⟩
  rw [← hx] at g3 e1 e2 e3 hq hpe hxl ⊢
  clear hx
  have hto := tag_of x
  obtain ⟨tc, htc⟩ : ∃ tc, tc = x / 281474976710656 := ⟨_, rfl⟩
  obtain ⟨ts, hts⟩ : ∃ ts, ts = x / 4294967296 % 65536 := ⟨_, rfl⟩
  obtain ⟨tn, htn⟩ : ∃ tn, tn = x % 4294967296 := ⟨_, rfl⟩
  have htl : ts < 65536 := by omega
  have htnl : tn < 4294967296 := by omega
  have htcl : tc < 65536 := by omega
  rw [← htc, ← hts, ← htn] at hto
  rw [← hts] at e1
  rw [← htn] at e2
  rw [← htc] at e3 hq
  rw [← htc, ← hts, ← htn]
  rw [← hto] at hpe
  clear htc hts htn hto
  have hok : okT (tc : Int) (ts : Int) = q := by
    rw [← hq]
    by_cases h : tc < 8
    · rw [decide_eq_true h, okT_iff]
      omega
    · rw [decide_eq_false h]
      cases h2 : okT (tc : Int) (ts : Int)
      · rfl
      · rw [okT_iff] at h2; omega
  have g4 := Lib.hid (fun W => right_any (tc : Int) ts tn W)
  rw [hok] at g4
  obtain ⟨s1, hs1⟩ : ∃ s1, s1 = str l := ⟨_, rfl⟩
  obtain ⟨sH, hsH⟩ : ∃ sH, sH = str (sealB (foldN [k, at_]) (tagW tc ts tn)) := ⟨_, rfl⟩
  have hse : (sH.toList == s1.toList) = p := by rw [hs1, hsH, str_eq, hpe]
  have hq8 : q = true → tc < 8 := fun h => by rw [h] at hq; exact of_decide_eq_true hq
  have g5 := Lib.hid (fun (h8 : tc < 8) W => rhead_any k at_ tc ts tn W hk ha h8 (by omega) htnl)
  have g6 := Lib.hid (fun (W : World) (hB : Below w.heap.size w W) => (show (convert 28 9 (.slice (some ad) 16 c)).run Tryd.prog W = .ok (.string s1) W from by
    rw [hs1]; exact run_conv_sees W Tryd.underlying28 Tryd.underlying5 Tryd.underlying9 hl (hr.below hB)))
  obtain ⟨K, hK⟩ : ∃ K, K = foldN [k, at_] := ⟨_, rfl⟩
  rw [← hK] at g2 g3 g5 hsH
  have hc8 : (8 : Int) ≤ (c : Int) := by omega
  clear hpe hq hok hK hKl hl hr hs1
  go_enter Tryd.func16, Tryd.ntmps16
  go_wp2_with fail
  rw [← hw0]
  clear hw0
  refine (g1.out).mono ?_
  rintro e wg ⟨rfl, rfl⟩
  obtain ⟨w1, hw1⟩ : ∃ w1, w1 = w0.alloc (.cells #[.int .u64 (k : Int), .int .u64 (at_ : Int)] 22) := ⟨_, rfl⟩
  have hb1 : Below w0.heap.size w0 w1 := by rw [hw1]; exact below1 _ _
  have hB1 := hB0.trans (hb1.mono hB0.size)
  have hR1 := hR0.below hb1
  have hrow : Row w1 (w.heap.size + 1) 22 [.int .u64 (k : Int), .int .u64 (at_ : Int)] := by rw [hw1]; exact Row.new_at _ _ _ hs0
  clear hb1 hB0 hR0 g1
  go_wp2_with fail
  rw [← hw1]
  clear hw1
  refine (g2.out _ w1 hrow).mono ?_
  rintro e w2 ⟨rfl, hb⟩
  have hB2 := hB1.trans (hb.mono hB1.size)
  have hR2 := hR1.below hb
  clear hb hB1 hR1 hrow g2
  go_wp2_with fail
  refine (g3.out _).mono ?_
  rintro e w4 ⟨rfl, rfl⟩
  clear g3
  obtain ⟨w5, hw5⟩ : ∃ w5, w5 = w2.alloc (.cells #[.int .i64 (tc : Int), .int .i64 (ts : Int), .int .u32 (tn : Int)] 27) := ⟨_, rfl⟩
  have hb5 : Below w2.heap.size w2 w5 := by rw [hw5]; exact below1 _ _
  have hs5 : w5.heap.size = w2.heap.size + 1 := by rw [hw5]; simp
  have hB5 := hB2.trans (hb5.mono hB2.size)
  have hR5 := hR2.below hb5
  have ht5 : Row w5 w2.heap.size 27 [.int .i64 (tc : Int), .int .i64 (ts : Int), .int .u32 (tn : Int)] := by rw [hw5]; exact Row.new _ _ _
  have HSA := Lib.hid (fun X (hB : Below w5.heap.size w5 X) => (show X.cell? ⟨w2.heap.size, 0, none⟩ = some (.int .i64 (tc : Int)) ∧ X.cell? ⟨w2.heap.size, 1, none⟩ = some (.int .i64 (ts : Int)) ∧ X.cell? ⟨w2.heap.size, 2, none⟩ = some (.int .u32 (tn : Int)) ∧ (convert 28 9 (.slice (some ad) 16 c)).run Tryd.prog X = .ok (.string s1) X ∧ Below w5.heap.size w5 X from
    ⟨(ht5.below hB).cell 0, (ht5.below hB).cell 1, (ht5.below hB).cell 2, g6.out _ (hB5.trans (hB.mono hB5.size)), hB⟩))
  have hdr := Lib.hid (show Below w5.heap.size w5 w5.drew from (Below.refl _ _).drew)
  have h4 := Lib.hid (fun W (hB : Below w5.heap.size w5 W) => (show Calls Tryd.prog 10 #[.agg #[.int .i64 (tc : Int), .int .i64 (ts : Int), .int .u32 (tn : Int)]] W (fun e W' => e = .returned (.bool q) ∧ Below w5.heap.size w5 W') from
    (g4.out W).mono fun e W' ⟨h1, h2⟩ => ⟨h1, hB.trans (h2.mono hB.size)⟩))
  have h5 := Lib.hid (fun (h8 : tc < 8) W (hB : Below w5.heap.size w5 W) => (show Calls Tryd.prog 13 #[.int .u64 (k : Int), .int .u32 (at_ : Int), .agg #[.int .i64 (tc : Int), .int .i64 (ts : Int), .int .u32 (tn : Int)]] W (fun e W' => ∃ Ab cb, e = .returned (.slice Ab 16 cb) ∧ (convert 28 9 (.slice Ab 16 cb)).run Tryd.prog W' = .ok (.string sH) W' ∧ Below w5.heap.size w5 W') from by
    refine (g5.out h8 W).mono ?_
    rintro e W' ⟨v, rfl, ho, hb⟩
    obtain ⟨Ab, cb, rfl⟩ := own_slice ho
    exact ⟨Ab, cb, rfl, by rw [hsH]; exact run_conv_sees W' Tryd.underlying28 Tryd.underlying5 Tryd.underlying9 (sealB_length _ _) (Sees.of_own ho), hB.trans (hb.mono hB.size)⟩))
  clear g4 g5 g6 hb5 hB2 hR2 ht5 hsH
  have HR5 := Lib.hid hR5
  have HB5 := Lib.hid hB5
  clear hR5 hB5
  go_wp2_with fail
  rw [← hw5]
  clear hw5
  refine wp_region_held_drew (S := fun X => X.cell? ⟨w2.heap.size, 0, none⟩ = some (.int .i64 (tc : Int)) ∧ X.cell? ⟨w2.heap.size, 1, none⟩ = some (.int .i64 (ts : Int)) ∧ X.cell? ⟨w2.heap.size, 2, none⟩ = some (.int .u32 (tn : Int)) ∧ (convert 28 9 (.slice (some ad) 16 c)).run Tryd.prog X = .ok (.string s1) X ∧ Below w5.heap.size w5 X) (by kernel_rfl) (HSA.out _ hdr.out) (fun hHeld => ?_)
  refine wpAnyH_take (i := 0) (v := ?_) rfl (by kernel_rfl) (by kernel_rfl) (by kernel_rfl) (fun _ _ _ h => h) (Or.inl ⟨by kernel_rfl, ?_⟩) hHeld ?_
  rotate_left
  focus (intro w hSw; (try dsimp only at hSw); go_simp; try with_reducible rfl)
  try simp only [Act.put]
  refine wpAnyH_ready (rs := [1]) (by kernel_rfl) (by simp) ?_
  refine AllReadyH.cons rfl (fun K hK => ?_) AllReadyH.nil
  go_simp
  refine (h4.out _ hdr.out).mono ?_
  rintro e w7 ⟨rfl, hb7⟩
  refine hK.out _ _ (HSA.out _ hb7) (fun hHeld => ?_)
  clear hK K
  refine wpAnyH_ready (rs := [2]) (by kernel_rfl) (by simp) ?_
  refine AllReadyH.cons rfl (fun K hK => ?_) AllReadyH.nil
  go_simp
  refine hK.out _ _ (HSA.out _ hb7) (fun hHeld => ?_)
  clear hK K
  refine wpAnyH_ready (rs := [3]) (by kernel_rfl) (by simp) ?_
  refine AllReadyH.cons rfl (fun K hK => ?_) AllReadyH.nil
  go_simp
  refine hK.out _ _ (HSA.out _ hb7) (fun hHeld => ?_)
  clear hK K
  have hR5 := HR5.out
  have hB5 := HB5.out
  cases q
  · clear hse h5 hq8
    refine wpAnyH_take (i := 4) (v := undef) rfl (by kernel_rfl) (by kernel_rfl) (by kernel_rfl) (fun _ _ _ h => h) (Or.inr ⟨by kernel_rfl, rfl⟩) hHeld ?_
    try simp only [Act.put]
    refine wpAnyH_take (i := 5) (v := undef) rfl (by kernel_rfl) (by kernel_rfl) (by kernel_rfl) (fun _ _ _ h => h) (Or.inr ⟨by kernel_rfl, rfl⟩) hHeld ?_
    try simp only [Act.put]
    refine wpAnyH_take (i := 6) (v := undef) rfl (by kernel_rfl) (by kernel_rfl) (by kernel_rfl) (fun _ _ _ h => h) (Or.inr ⟨by kernel_rfl, rfl⟩) hHeld ?_
    try simp only [Act.put]
    refine wpAnyH_take (i := 7) (v := undef) rfl (by kernel_rfl) (by kernel_rfl) (by kernel_rfl) (fun _ _ _ h => h) (Or.inr ⟨by kernel_rfl, rfl⟩) hHeld ?_
    try simp only [Act.put]
    refine wpAnyH_take (i := 8) (v := undef) rfl (by kernel_rfl) (by kernel_rfl) (by kernel_rfl) (fun _ _ _ h => h) (Or.inr ⟨by kernel_rfl, rfl⟩) hHeld ?_
    try simp only [Act.put]
    refine wpAnyH_take (i := 9) (v := undef) rfl (by kernel_rfl) (by kernel_rfl) (by kernel_rfl) (fun _ _ _ h => h) (Or.inr ⟨by kernel_rfl, rfl⟩) hHeld ?_
    try simp only [Act.put]
    refine wpAnyH_take (i := 10) (v := undef) rfl (by kernel_rfl) (by kernel_rfl) (by kernel_rfl) (fun _ _ _ h => h) (Or.inr ⟨by kernel_rfl, rfl⟩) hHeld ?_
    try simp only [Act.put]
    refine wpAnyH_take (i := 11) (v := undef) rfl (by kernel_rfl) (by kernel_rfl) (by kernel_rfl) (fun _ _ _ h => h) (Or.inr ⟨by kernel_rfl, rfl⟩) hHeld ?_
    try simp only [Act.put]
    refine wpAnyH_ready (rs := [12]) (by kernel_rfl) (by simp) ?_
    refine AllReadyH.cons rfl (fun K hK => ?_) AllReadyH.nil
    go_simp
    refine hK.out _ _ (HSA.out _ hb7) (fun hHeld => ?_)
    clear hK K
    refine wpAnyH_done (by kernel_rfl) ?_ _
    have hrR := hR5.below hb7
    have hBR := hB5.trans (hb7.mono hB5.size)
    have r0 : w7.cell? ⟨w.heap.size, 0, none⟩ = some (.int .i64 0) := hrR.cell 0
    have r1 : w7.cell? ⟨w.heap.size, 1, none⟩ = some (.int .i64 0) := hrR.cell 1
    have r2 : w7.cell? ⟨w.heap.size, 2, none⟩ = some (.int .u32 0) := hrR.cell 2
    have z0 := hrR.frozen 0
    have z1 := hrR.frozen 1
    have z2 := hrR.frozen 2
    clear HSA hdr h4 hHeld HR5 HB5 hR5 hB5
    go_wp2_with fail
    obtain ⟨W', hW'⟩ : ∃ W', W' = ((w7.setCell ⟨w.heap.size, 0, none⟩ (.int .i64 0)).setCell ⟨w.heap.size, 1, none⟩ (.int .i64 0)).setCell ⟨w.heap.size, 2, none⟩ (.int .u32 0) := ⟨_, rfl⟩
    have hrz : Row W' w.heap.size 27 [.int .i64 0, .int .i64 0, .int .u32 0] := by rw [hW']; exact ((hrR.set 0 (.int .i64 0)).set 1 (.int .i64 0)).set 2 (.int .u32 0)
    have hBz : Below w.heap.size w W' := by rw [hW']; exact ((hBR.setCell (by simp) _).setCell (by simp) _).setCell (by simp) _
    rw [← hW']
    have e0 : W'.cell? ⟨w.heap.size, 0, none⟩ = some (.int .i64 0) := hrz.cell 0
    have e1 : W'.cell? ⟨w.heap.size, 1, none⟩ = some (.int .i64 0) := hrz.cell 1
    have e2 : W'.cell? ⟨w.heap.size, 2, none⟩ = some (.int .u32 0) := hrz.cell 2
    exact bodyPost_ret (v := .tuple #[.agg #[.int .i64 0, .int .i64 0, .int .u32 0], .int .i64 160]) (by simp [results, Tryd.results16, go_sem, e0, e1, e2]) rfl ⟨rfl, hBz⟩
  · have h8 := hq8 rfl
    clear hq8
    cases p
    · refine wpAnyH_take (i := 4) (v := ?_) rfl (by kernel_rfl) (by kernel_rfl) (by kernel_rfl) (fun _ _ _ h => h) (Or.inl ⟨by kernel_rfl, ?_⟩) hHeld ?_
      rotate_left
      focus (intro w hSw; (try dsimp only at hSw); go_simp; try with_reducible rfl)
      try simp only [Act.put]
      refine wpAnyH_take (i := 5) (v := ?_) rfl (by kernel_rfl) (by kernel_rfl) (by kernel_rfl) (fun _ _ _ h => h) (Or.inl ⟨by kernel_rfl, ?_⟩) hHeld ?_
      rotate_left
      focus (intro w hSw; (try dsimp only at hSw); go_simp; try with_reducible rfl)
      try simp only [Act.put]
      refine wpAnyH_take (i := 6) (v := ?_) rfl (by kernel_rfl) (by kernel_rfl) (by kernel_rfl) (fun _ _ _ h => h) (Or.inl ⟨by kernel_rfl, ?_⟩) hHeld ?_
      rotate_left
      focus (intro w hSw; (try dsimp only at hSw); go_simp; try with_reducible rfl)
      try simp only [Act.put]
      refine wpAnyH_take (i := 9) (v := ?_) rfl (by kernel_rfl) (by kernel_rfl) (by kernel_rfl) (fun _ _ _ h => h) (Or.inl ⟨by kernel_rfl, ?_⟩) hHeld ?_
      rotate_left
      focus (intro w hSw; (try dsimp only at hSw); go_simp; try with_reducible rfl)
      try simp only [Act.put]
      refine wpAnyH_take (i := 10) (v := ?_) rfl (by kernel_rfl) (by kernel_rfl) (by kernel_rfl) (fun _ _ _ h => h) (Or.inl ⟨by kernel_rfl, ?_⟩) hHeld ?_
      rotate_left
      focus (intro w hSw; (try dsimp only at hSw); go_simp; try with_reducible rfl)
      try simp only [Act.put]
      refine wpAnyH_ready (rs := [7]) (by kernel_rfl) (by simp) ?_
      refine AllReadyH.cons rfl (fun K hK => ?_) AllReadyH.nil
      go_simp
      refine (h5.out h8 _ hb7).mono ?_
      rintro e w9 ⟨Ab, cb, rfl, hcv, hb9⟩
      refine hK.out _ _ (HSA.out _ hb9) (fun hHeld => ?_)
      clear hK K
      refine wpAnyH_ready (rs := [8]) (by kernel_rfl) (by simp) ?_
      refine AllReadyH.cons rfl (fun K hK => ?_) AllReadyH.nil
      go_simp
      refine hK.out _ _ (HSA.out _ hb9) (fun hHeld => ?_)
      clear hK K
      refine wpAnyH_ready (rs := [11]) (by kernel_rfl) (by simp) ?_
      refine AllReadyH.cons rfl (fun K hK => ?_) AllReadyH.nil
      go_simp
      refine hK.out _ _ (HSA.out _ hb9) (fun hHeld => ?_)
      clear hK K
      refine wpAnyH_ready (rs := [12]) (by kernel_rfl) (by simp) ?_
      refine AllReadyH.cons rfl (fun K hK => ?_) AllReadyH.nil
      go_simp
      refine hK.out _ _ (HSA.out _ hb9) (fun hHeld => ?_)
      clear hK K
      refine wpAnyH_done (by kernel_rfl) ?_ _
      have y0 := hHeld.1
      have y1 := hHeld.2.1
      have y2 := hHeld.2.2.1
      have hrR := hR5.below hb9
      have hBR := hB5.trans (hb9.mono hB5.size)
      have r0 : w9.cell? ⟨w.heap.size, 0, none⟩ = some (.int .i64 0) := hrR.cell 0
      have r1 : w9.cell? ⟨w.heap.size, 1, none⟩ = some (.int .i64 0) := hrR.cell 1
      have r2 : w9.cell? ⟨w.heap.size, 2, none⟩ = some (.int .u32 0) := hrR.cell 2
      have z0 := hrR.frozen 0
      have z1 := hrR.frozen 1
      have z2 := hrR.frozen 2
      clear HSA hdr h4 h5 hHeld HR5 HB5 hR5 hB5 hb7 hcv
      go_wp2_with fail
      obtain ⟨W', hW'⟩ : ∃ W', W' = ((w9.setCell ⟨w.heap.size, 0, none⟩ (.int .i64 0)).setCell ⟨w.heap.size, 1, none⟩ (.int .i64 0)).setCell ⟨w.heap.size, 2, none⟩ (.int .u32 0) := ⟨_, rfl⟩
      have hrz : Row W' w.heap.size 27 [.int .i64 0, .int .i64 0, .int .u32 0] := by rw [hW']; exact ((hrR.set 0 (.int .i64 0)).set 1 (.int .i64 0)).set 2 (.int .u32 0)
      have hBz : Below w.heap.size w W' := by rw [hW']; exact ((hBR.setCell (by simp) _).setCell (by simp) _).setCell (by simp) _
      rw [← hW']
      have e0 : W'.cell? ⟨w.heap.size, 0, none⟩ = some (.int .i64 0) := hrz.cell 0
      have e1 : W'.cell? ⟨w.heap.size, 1, none⟩ = some (.int .i64 0) := hrz.cell 1
      have e2 : W'.cell? ⟨w.heap.size, 2, none⟩ = some (.int .u32 0) := hrz.cell 2
      exact bodyPost_ret (v := .tuple #[.agg #[.int .i64 0, .int .i64 0, .int .u32 0], .int .i64 160]) (by simp [results, Tryd.results16, go_sem, e0, e1, e2]) rfl ⟨rfl, hBz⟩
    · refine wpAnyH_take (i := 4) (v := ?_) rfl (by kernel_rfl) (by kernel_rfl) (by kernel_rfl) (fun _ _ _ h => h) (Or.inl ⟨by kernel_rfl, ?_⟩) hHeld ?_
      rotate_left
      focus (intro w hSw; (try dsimp only at hSw); go_simp; try with_reducible rfl)
      try simp only [Act.put]
      refine wpAnyH_take (i := 5) (v := ?_) rfl (by kernel_rfl) (by kernel_rfl) (by kernel_rfl) (fun _ _ _ h => h) (Or.inl ⟨by kernel_rfl, ?_⟩) hHeld ?_
      rotate_left
      focus (intro w hSw; (try dsimp only at hSw); go_simp; try with_reducible rfl)
      try simp only [Act.put]
      refine wpAnyH_take (i := 6) (v := ?_) rfl (by kernel_rfl) (by kernel_rfl) (by kernel_rfl) (fun _ _ _ h => h) (Or.inl ⟨by kernel_rfl, ?_⟩) hHeld ?_
      rotate_left
      focus (intro w hSw; (try dsimp only at hSw); go_simp; try with_reducible rfl)
      try simp only [Act.put]
      refine wpAnyH_take (i := 9) (v := ?_) rfl (by kernel_rfl) (by kernel_rfl) (by kernel_rfl) (fun _ _ _ h => h) (Or.inl ⟨by kernel_rfl, ?_⟩) hHeld ?_
      rotate_left
      focus (intro w hSw; (try dsimp only at hSw); go_simp; try with_reducible rfl)
      try simp only [Act.put]
      refine wpAnyH_take (i := 10) (v := ?_) rfl (by kernel_rfl) (by kernel_rfl) (by kernel_rfl) (fun _ _ _ h => h) (Or.inl ⟨by kernel_rfl, ?_⟩) hHeld ?_
      rotate_left
      focus (intro w hSw; (try dsimp only at hSw); go_simp; try with_reducible rfl)
      try simp only [Act.put]
      refine wpAnyH_ready (rs := [7]) (by kernel_rfl) (by simp) ?_
      refine AllReadyH.cons rfl (fun K hK => ?_) AllReadyH.nil
      go_simp
      refine (h5.out h8 _ hb7).mono ?_
      rintro e w9 ⟨Ab, cb, rfl, hcv, hb9⟩
      refine hK.out _ _ (HSA.out _ hb9) (fun hHeld => ?_)
      clear hK K
      refine wpAnyH_ready (rs := [8]) (by kernel_rfl) (by simp) ?_
      refine AllReadyH.cons rfl (fun K hK => ?_) AllReadyH.nil
      go_simp
      refine hK.out _ _ (HSA.out _ hb9) (fun hHeld => ?_)
      clear hK K
      refine wpAnyH_ready (rs := [11]) (by kernel_rfl) (by simp) ?_
      refine AllReadyH.cons rfl (fun K hK => ?_) AllReadyH.nil
      go_simp
      refine hK.out _ _ (HSA.out _ hb9) (fun hHeld => ?_)
      clear hK K
      refine wpAnyH_ready (rs := [12]) (by kernel_rfl) (by simp) ?_
      refine AllReadyH.cons rfl (fun K hK => ?_) AllReadyH.nil
      go_simp
      refine hK.out _ _ (HSA.out _ hb9) (fun hHeld => ?_)
      clear hK K
      refine wpAnyH_done (by kernel_rfl) ?_ _
      have y0 := hHeld.1
      have y1 := hHeld.2.1
      have y2 := hHeld.2.2.1
      have hrR := hR5.below hb9
      have hBR := hB5.trans (hb9.mono hB5.size)
      have r0 : w9.cell? ⟨w.heap.size, 0, none⟩ = some (.int .i64 0) := hrR.cell 0
      have r1 : w9.cell? ⟨w.heap.size, 1, none⟩ = some (.int .i64 0) := hrR.cell 1
      have r2 : w9.cell? ⟨w.heap.size, 2, none⟩ = some (.int .u32 0) := hrR.cell 2
      have z0 := hrR.frozen 0
      have z1 := hrR.frozen 1
      have z2 := hrR.frozen 2
      clear HSA hdr h4 h5 hHeld HR5 HB5 hR5 hB5 hb7 hcv
      go_wp2_with fail
      obtain ⟨W', hW'⟩ : ∃ W', W' = ((w9.setCell ⟨w.heap.size, 0, none⟩ (.int .i64 (tc : Int))).setCell ⟨w.heap.size, 1, none⟩ (.int .i64 (ts : Int))).setCell ⟨w.heap.size, 2, none⟩ (.int .u32 (tn : Int)) := ⟨_, rfl⟩
      have hrz : Row W' w.heap.size 27 [.int .i64 (tc : Int), .int .i64 (ts : Int), .int .u32 (tn : Int)] := by rw [hW']; exact ((hrR.set 0 (.int .i64 (tc : Int))).set 1 (.int .i64 (ts : Int))).set 2 (.int .u32 (tn : Int))
      have hBz : Below w.heap.size w W' := by rw [hW']; exact ((hBR.setCell (by simp) _).setCell (by simp) _).setCell (by simp) _
      rw [← hW']
      have e0 : W'.cell? ⟨w.heap.size, 0, none⟩ = some (.int .i64 (tc : Int)) := hrz.cell 0
      have e1 : W'.cell? ⟨w.heap.size, 1, none⟩ = some (.int .i64 (ts : Int)) := hrz.cell 1
      have e2 : W'.cell? ⟨w.heap.size, 2, none⟩ = some (.int .u32 (tn : Int)) := hrz.cell 2
      exact bodyPost_ret (v := .tuple #[.agg #[.int .i64 (tc : Int), .int .i64 (ts : Int), .int .u32 (tn : Int)], .int .i64 0]) (by simp [results, Tryd.results16, go_sem, e0, e1, e2]) rfl ⟨rfl, hBz⟩
end Go.Proofs.YtfmbfojlopibnaaDoor
