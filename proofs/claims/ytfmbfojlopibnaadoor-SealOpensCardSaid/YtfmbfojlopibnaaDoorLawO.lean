import Derived.Test.YtfmbfojlopibnaaDoorLawM
namespace Go.Proofs.YtfmbfojlopibnaaDoor
open Go.RowKit Go.Shelf
attribute [local go_sem] Oper.semAt_some

/- SEALOPENS. -/

theorem opens_long (k at_ : Nat) (A : Option Addr) (nl c : Nat) (w : World) (ht : Tab w) (hl : 100 < nl) :
    Calls Tryd.prog 4 #[.agg #[.int .u64 (k : Int), .int .u32 (at_ : Int)], .slice A nl c] w fun e w' => e = .returned (.bool true) ∧ Below w.heap.size w w' := by
  have e1 : decide ((100 : Int) < (nl : Int)) = true := decide_eq_true (by omega)
  have hB0 := below1 w (.cells #[.int .u64 (k : Int), .int .u32 (at_ : Int)] 25)
  have h1 := Lib.hid (works_any _ (ht.below hB0))
  have HB0 := Lib.hid hB0
  clear hl hB0 ht
  go_enter Tryd.func4, Tryd.ntmps4
  go_wp2_with fail
  refine (h1.out).mono ?_
  rintro e w1 ⟨rfl, hb⟩
  have hB1 := below0 HB0.out hb
  clear HB0 hb
  go_wp2_with fail
  go_ret
  exact ⟨rfl, hB1⟩

set_option maxRecDepth 100000 in
set_option maxHeartbeats 4000000 in
theorem opens_short (k at_ : Nat) (l : List UInt8) (A : Option Addr) (nl c : Nat) (w : World) (ht : Tab w) (hn : l.length = nl) (hl : ¬ 100 < nl) (hr : Sees w w.heap.size A (byt l))
    (x0 x1 x2 x3 : Int) (h1 : ∀ (A' : Option Addr) (c' : Nat) (W : World), Tab W → Sees W W.heap.size A' (byt l) → Calls Tryd.prog 15 #[.int .u64 (k : Int), .int .u32 (at_ : Int), .slice A' nl c'] W fun e w' => e = .returned (.tuple #[.agg #[.int .i64 x0, .int .i64 x1, .int .u32 x2], .int .i64 x3]) ∧ Below W.heap.size W w')
    (h2 : ∀ (W : World), Sees W W.heap.size A (byt l) → Calls Tryd.prog 16 #[.int .u64 (k : Int), .int .u32 (at_ : Int), .slice A nl c] W fun e w' => e = .returned (.tuple #[.agg #[.int .i64 x0, .int .i64 x1, .int .u32 x2], .int .i64 x3]) ∧ Below W.heap.size W w') :
    Calls Tryd.prog 4 #[.agg #[.int .u64 (k : Int), .int .u32 (at_ : Int)], .slice A nl c] w fun e w' => e = .returned (.bool true) ∧ Below w.heap.size w w' := by
  have e1 : decide ((100 : Int) < (nl : Int)) = false := decide_eq_false (by omega)
  obtain ⟨i0, hi, hz0, hz1, hz2⟩ := info_parts byte_info
  obtain ⟨w0, hw0⟩ : ∃ w0, w0 = w.alloc (.cells #[.int .u64 (k : Int), .int .u32 (at_ : Int)] 25) := ⟨_, rfl⟩
  have hB0 : Below w.heap.size w w0 := by rw [hw0]; exact below1 _ _
  have hp0 : Row w0 w.heap.size 25 [.int .u64 (k : Int), .int .u32 (at_ : Int)] := by rw [hw0]; exact Row.new _ _ _
  have hs0 : w0.heap.size = w.heap.size + 1 := by rw [hw0]; simp
  have hown0 : ∀ o, o = Obj.cells #[] 5 → (w0.alloc o).ownsRow w0.heap.size 5 1 (.slice (some ⟨w0.heap.size, 0, none⟩) 0 0) 0 [] := fun o ho => by
    subst ho
    exact World.ownsRow_lit w0 #[] 0 (Nat.le_refl _) (Nat.zero_le _) rfl
  rw [hs0] at hown0
  have hlb : (byt l).length = nl * 1 := by rw [byt_length]; omega
  have hr0 : Sees (w0.alloc (.cells #[] 5)) w.heap.size A (byt l) := (hr.below hB0).alloc hB0.size _
  have hb0 : Below w0.heap.size w0 (w0.alloc (.cells #[] 5)) := below1 _ _
  have hwk := Lib.hid (fun W (hB : Below w.heap.size w W) => (show Calls Tryd.prog 12 #[] W (fun e w' => e = .returned (.bool true) ∧ Below w.heap.size w w') from (works_any W (ht.below hB)).mono fun e W' ⟨h1, h2⟩ => ⟨h1, hB.trans (h2.mono hB.size)⟩))
  have g1 := Lib.hid (fun A' c' W (hB : Below w.heap.size w W) hs => h1 A' c' W (ht.below hB) hs)
  have g2 := Lib.hid (fun W (hB : Below w.heap.size w W) => h2 W ((hr.below hB).more hB.size))
  have gc := Lib.hid (fun (W : World) (hB : Below w.heap.size w W) => (show (convert 28 9 (.slice A nl c)).run Tryd.prog W = .ok (.string (str l)) W from
    run_conv_sees W Tryd.underlying28 Tryd.underlying5 Tryd.underlying9 hn (hr.below hB)))
  have gm := Lib.hid (fun (W : World) (A' : Option Addr) (c' : Nat) (hs : Sees W W.heap.size A' (byt l)) => (show (convert 28 9 (.slice A' nl c')).run Tryd.prog W = .ok (.string (str l)) W from
    run_conv_sees W Tryd.underlying28 Tryd.underlying5 Tryd.underlying9 hn hs))
  have hfin := Lib.hid (fun (W : World) (hB : Below w0.heap.size w0 W) => (show Below w.heap.size w W from hB0.trans (hB.mono hB0.size)))
  have hpl := Lib.hid (fun (W : World) (hB : Below w0.heap.size w0 W) => (show W.cell? ⟨w.heap.size, 0, none⟩ = some (.int .u64 (k : Int)) ∧ W.cell? ⟨w.heap.size, 1, none⟩ = some (.int .u32 (at_ : Int)) from ⟨(hp0.below hB).cell 0, (hp0.below hB).cell 1⟩))
  have HN := Lib.hid hn
  clear h1 h2 hr ht hn hB0 hp0
  subst hw0
  go_enter Tryd.func4, Tryd.ntmps4
  go_wp2_with (first
    | (at_builtin; refine wpList_append_sees rfl (.tmp 14) (.tmp 15) 28 rfl (w.heap.size + 1) 5 i0 _ 1 1 Tryd.underlying28 hi hz0 hz1 hz2 rfl (by decide) _ _ _ rfl (hown0 _ rfl) w.heap.size A nl c (byt l) rfl hlb hr0 byt_one (by unfold maxLen; omega) (by omega) (by simp) ?_; intro v1 w1 hown1 hg1 hv1)
    | (at_builtin; refine wpList_append_sees rfl (.tmp 16) (.tmp 17) 28 rfl (w.heap.size + 1) 5 i0 _ 1 1 Tryd.underlying28 hi hz0 hz1 hz2 rfl (by decide) _ _ _ rfl (hown1.alloc _) (w1.heap.size + 1) (some ⟨w1.heap.size, 0, none⟩) 1 1 [.int .u8 77] rfl rfl (fun _ => ⟨_, rfl, by simp, cell_one_new _ _ _⟩) (by simp [Value.oneCell']) (by unfold maxLen; omega) (by omega) (by have := hg1.size; simp at this; simp; omega) ?_; intro v2 w2 hown2 hg2 hv2; obtain ⟨g, cap, rfl, hcap, hlt⟩ := hown2.form (by omega); have hcp := (own_cap hown2).1; have hb1 := hb0.grown hg1 (by simp) (fun k hk => by have := ((hown0 _ rfl).lt k hk).1; simp; omega); have hb2 := (hb1.alloc hb1.size _).grown hg2 (by have := hb1.size; simp at this; simp; omega) (fun k hk => by have := (hown1.lt k hk).1; simp; omega); have hp2 := hpl.out _ hb2; obtain ⟨p0, p1⟩ := hp2))
  have hown : w2.ownsRow (w.heap.size + 1) 5 1 (.slice (some ⟨g, 0, none⟩) (nl + 1) cap) (nl + 1) (byt l ++ [.int .u8 77]) := by simpa [Nat.zero_add] using hown2
  have hsm : Sees w2 w2.heap.size (some ⟨g, 0, none⟩) (byt l) := by
    have := (Sees.of_own hown).take (byt l).length
    simpa using this
  clear hown2 hv1 hv2 hg1 hg2 hown1 hown0 hr0 hb0 hb1 hlb hcap p0 p1 hi hz0 hz1 hz2
  refine (g1.out _ _ _ (hfin.out _ hb2) hsm).mono ?_
  rintro e w3 ⟨rfl, hb⟩
  have hb3 := hb2.trans (hb.mono hb2.size)
  have hown3 := own_below hown hb (Nat.le_refl _)
  obtain ⟨w4, hw4⟩ : ∃ w4, w4 = w3.alloc (.cells #[.int .i64 x0, .int .i64 x1, .int .u32 x2] 27) := ⟨_, rfl⟩
  have hba : Below w3.heap.size w3 w4 := by rw [hw4]; exact below1 _ _
  have hq4 : Row w4 w3.heap.size 27 [.int .i64 x0, .int .i64 x1, .int .u32 x2] := by rw [hw4]; exact Row.new _ _ _
  have hb4 := hb3.trans (hba.mono hb3.size)
  have hown4 := own_below hown3 hba (Nat.le_refl _)
  obtain ⟨p0, p1⟩ := hpl.out _ hb4
  rw [hw4] at p0 p1
  have HW4 := Lib.hid hw4
  clear hw4 hb hba hown hown3 hb2 hb3 hsm g1
  go_wp2_with fail
  rw [← HW4.out]
  refine (g2.out _ (hfin.out _ hb4)).mono ?_
  rintro e w5 ⟨rfl, hb⟩
  have hb5 := hb4.trans (hb.mono hb4.size)
  have hown5 := own_below hown4 hb (Nat.le_refl _)
  have hq5 := hq4.below hb
  obtain ⟨w6, hw6⟩ : ∃ w6, w6 = w5.alloc (.cells #[.int .i64 x0, .int .i64 x1, .int .u32 x2] 27) := ⟨_, rfl⟩
  have hba : Below w5.heap.size w5 w6 := by rw [hw6]; exact below1 _ _
  have hr6 : Row w6 w5.heap.size 27 [.int .i64 x0, .int .i64 x1, .int .u32 x2] := by rw [hw6]; exact Row.new _ _ _
  have hq6 := hq5.below hba
  have hown6 := own_below hown5 hba (Nat.le_refl _)
  have hb6 := hb5.trans (hba.mono hb5.size)
  have a0 : w6.cell? ⟨w3.heap.size, 0, none⟩ = some (.int .i64 x0) := hq6.cell 0
  have a1 : w6.cell? ⟨w3.heap.size, 1, none⟩ = some (.int .i64 x1) := hq6.cell 1
  have a2 : w6.cell? ⟨w3.heap.size, 2, none⟩ = some (.int .u32 x2) := hq6.cell 2
  have b0 : w6.cell? ⟨w5.heap.size, 0, none⟩ = some (.int .i64 x0) := hr6.cell 0
  have b1 : w6.cell? ⟨w5.heap.size, 1, none⟩ = some (.int .i64 x1) := hr6.cell 1
  have b2 : w6.cell? ⟨w5.heap.size, 2, none⟩ = some (.int .u32 x2) := hr6.cell 2
  have cv1 := gc.out _ (hfin.out _ hb6)
  have cv2 := gm.out w6 (some ⟨g, 0, none⟩) cap (by
    have := (Sees.of_own hown6).take (byt l).length
    simpa using this)
  have c77 : w6.cell? ⟨g, nl, none⟩ = some (.int .u8 77) := by
    rw [hown6.cellAt nl (by omega), List.getElem?_append_right (by rw [byt_length, HN.out]; exact Nat.le_refl _), byt_length, HN.out]
    simp
  obtain ⟨sl, hsl⟩ : ∃ sl, sl = str l := ⟨_, rfl⟩
  rw [← hsl] at cv1 cv2
  have w1e : IntKind.i64.wrap ((nl : Int) + 1) = (nl : Int) + 1 := wrapI _ (by omega) (by omega)
  have i1 : (nl : Int) + 1 ≤ (cap : Int) := by omega
  have i2 : (0 : Int) ≤ (nl : Int) + 1 := by omega
  rw [hw6] at a0 a1 a2 b0 b1 b2 cv1 cv2 c77
  have HB6 := hfin.out _ hb6
  rw [hw6] at HB6
  clear HW4 hb hba hown4 hown5 hown6 hb4 hb5 hb6 hq4 hq5 hq6 hr6 g2 gc gm hfin hpl hs0 hsl p0 p1 HN hw6
  have hwk2 := hwk.out _ HB6
  clear HB6 hwk
  have HWK := Lib.hid hwk2
  clear hwk2
  go_wp2_with (go_at_call 11; refine (num_any _ _).mono ?_; rintro e w' ⟨rfl, rfl⟩)
  refine (HWK.out).mono ?_
  rintro e w7 ⟨rfl, hB7⟩
  go_wp2_with fail
  go_ret
  exact ⟨rfl, hB7⟩

theorem sealOpens_any (k at_ : Nat) (l : List UInt8) (A : Option Addr) (nl c : Nat) (w : World) (ht : Tab w) (hk : k < 18446744073709551616) (ha : at_ < 4294967296) (hn : l.length = nl) (hc : nl ≤ c) (hr : Sees w w.heap.size A (byt l)) :
    Calls Tryd.prog 4 #[.agg #[.int .u64 (k : Int), .int .u32 (at_ : Int)], .slice A nl c] w fun e w' => e = .returned (.bool true) ∧ Below w.heap.size w w' := by
  by_cases hl : 100 < nl
  · exact opens_long k at_ A nl c w ht hl
  by_cases h16 : nl = 16
  · subst h16
    by_cases ho : undoN (foldN [k, at_]) (leVal (l.drop 8)) = 18446744073709551615 - undoN (foldN [k, at_]) (leVal (l.take 8)) ∧ undoN (foldN [k, at_]) (leVal (l.take 8)) / 281474976710656 < 8
    · refine opens_short k at_ l A 16 c w ht hn hl hr ((undoN (foldN [k, at_]) (leVal (l.take 8)) / 281474976710656 : Nat) : Int) ((undoN (foldN [k, at_]) (leVal (l.take 8)) / 4294967296 % 65536 : Nat) : Int) ((undoN (foldN [k, at_]) (leVal (l.take 8)) % 4294967296 : Nat) : Int) 0 (fun A' c' W htw hs => ?_) (fun W hs => ?_)
      · have h := open_any k at_ l A' c' W htw hk ha hn hs
        rw [OpenV, if_pos ho] at h
        exact h
      · have h := ropen_any k at_ l A c W hk ha hn hc hs
        rw [OpenV, if_pos ho] at h
        exact h
    · refine opens_short k at_ l A 16 c w ht hn hl hr 0 0 0 160 (fun A' c' W htw hs => ?_) (fun W hs => ?_)
      · have h := open_any k at_ l A' c' W htw hk ha hn hs
        rw [OpenV, if_neg ho] at h
        exact h
      · have h := ropen_any k at_ l A c W hk ha hn hc hs
        rw [OpenV, if_neg ho] at h
        exact h
  · exact opens_short k at_ l A nl c w ht hn hl hr 0 0 0 2 (fun A' c' W _ _ => open_arg k at_ A' nl c' W h16) (fun W _ => ropen_arg k at_ A nl c W h16)
end Go.Proofs.YtfmbfojlopibnaaDoor
