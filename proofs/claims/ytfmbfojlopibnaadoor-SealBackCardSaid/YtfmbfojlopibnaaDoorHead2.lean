import Derived.Test.YtfmbfojlopibnaaDoorHead
namespace Go.Proofs.YtfmbfojlopibnaaDoor
open Go.RowKit Go.Shelf
attribute [local go_sem] Oper.semAt_some

/- HEAD AND TAIL THEMSELVES. -/

set_option maxHeartbeats 2000000 in
theorem head_no (k at_ : Nat) (c s n : Int) (w : World) (hk : k < 18446744073709551616) (ha : at_ < 4294967296) (h : okT c s = false) :
    Calls Tryd.prog 7 #[.int .u64 (k : Int), .int .u32 (at_ : Int), .agg #[.int .i64 c, .int .i64 s, .int .u32 n]] w fun e w' => e = .returned (.tuple #[.slice none 0 0, .int .i64 2]) ∧ Below w.heap.size w w' := by
  obtain ⟨w0, hw0⟩ : ∃ w0, w0 = w.alloc (.cells #[.int .i64 c, .int .i64 s, .int .u32 n] 27) := ⟨_, rfl⟩
  have hw : Below w.heap.size w w0 := by rw [hw0]; exact below1 _ _
  have hr0 : Row w0 w.heap.size 27 [.int .i64 c, .int .i64 s, .int .u32 n] := by rw [hw0]; exact Row.new _ _ _
  have x0 : w0.cell? ⟨w.heap.size, 0, none⟩ = some (.int .i64 c) := hr0.cell 0
  have x1 : w0.cell? ⟨w.heap.size, 1, none⟩ = some (.int .i64 s) := hr0.cell 1
  have x2 : w0.cell? ⟨w.heap.size, 2, none⟩ = some (.int .u32 n) := hr0.cell 2
  have hl := hr0.lt
  have h1 := Lib.hid (fun W (hB : Below w0.heap.size w0 W) => (show Calls Tryd.prog 20 #[.int .u64 (k : Int), .int .u32 (at_ : Int)] W (fun e W' => ∃ v, e = .returned v ∧ Below w0.heap.size w0 W') from
    (heads_any k at_ W hk ha).mono fun e W' ⟨v, h1, _, h2⟩ => ⟨v, h1, hB.trans (h2.mono hB.size)⟩))
  have h2 := Lib.hid (fun v W (hB : Below w0.heap.size w0 W) => (show Calls Tryd.prog 19 #[.agg #[.int .i64 c, .int .i64 s, .int .u32 n], v] W (fun e W' => e = .returned (.tuple #[.slice none 0 0, .int .i64 2]) ∧ Below w0.heap.size w0 W') from
    (toldB_no c s n v W h).mono fun e W' ⟨h1, h2⟩ => ⟨h1, hB.trans (h2.mono hB.size)⟩))
  have HSA := Lib.hid (fun W (hB : Below w0.heap.size w0 W) => (show W.cell? ⟨w.heap.size, 0, none⟩ = some (.int .i64 c) ∧ W.cell? ⟨w.heap.size, 1, none⟩ = some (.int .i64 s) ∧ W.cell? ⟨w.heap.size, 2, none⟩ = some (.int .u32 n) ∧ Below w0.heap.size w0 W from
    ⟨(hB.cell (p := ⟨w.heap.size, 0, none⟩) hl).trans x0, (hB.cell (p := ⟨w.heap.size, 1, none⟩) hl).trans x1, (hB.cell (p := ⟨w.heap.size, 2, none⟩) hl).trans x2, hB⟩))
  have hdr := Lib.hid (show Below w0.heap.size w0 w0.drew from (Below.refl _ _).drew)
  have hfin := Lib.hid (fun (W : World) (hB : Below w0.heap.size w0 W) => (show Below w.heap.size w W from hw.trans (hB.mono hw.size)))
  clear h hr0 hw hk ha
  go_enter Tryd.func7, Tryd.ntmps7
  go_wp2_with fail
  rw [← hw0]
  clear hw0
  go_region_held3 (fun W => W.cell? ⟨w.heap.size, 0, none⟩ = some (.int .i64 c) ∧ W.cell? ⟨w.heap.size, 1, none⟩ = some (.int .i64 s) ∧ W.cell? ⟨w.heap.size, 2, none⟩ = some (.int .u32 n) ∧ Below w0.heap.size w0 W)
    (first | exact HSA.out _ hdr.out | (exact HSA.out _ (by assumption)) | (go_split_ands; exact HSA.out _ (by assumption)))
    (first
      | (go_at_call 20; refine (h1.out _ (by first | exact hdr.out | assumption)).mono ?_; rintro e w2 ⟨v, rfl, hb2⟩)
      | (go_at_call 19; refine (h2.out _ _ (by first | exact hdr.out | assumption)).mono ?_; rintro e w3 ⟨rfl, hb3⟩))
  all_goals
    have HB := hfin.out _ hb3
    clear h1 h2 HSA hdr hfin
    go_wp2
    go_ret2
    exact ⟨rfl, HB⟩
set_option maxHeartbeats 2000000 in
theorem head_ok (k at_ c s n : Nat) (w : World) (ht : Tab w) (hk : k < 18446744073709551616) (ha : at_ < 4294967296) (hc : c < 8) (hs : s ≤ 65535) (hn : n < 4294967296) :
    Calls Tryd.prog 7 #[.int .u64 (k : Int), .int .u32 (at_ : Int), .agg #[.int .i64 (c : Int), .int .i64 (s : Int), .int .u32 (n : Int)]] w (BytesP w (sealB (foldN [k, at_]) (tagW c s n))) := by
  have hKl : foldN [k, at_] < 18446744073709551616 := foldN_lt (fun x hx => by simp at hx; omega)
  obtain ⟨w0, hw0⟩ : ∃ w0, w0 = w.alloc (.cells #[.int .i64 (c : Int), .int .i64 (s : Int), .int .u32 (n : Int)] 27) := ⟨_, rfl⟩
  have hw : Below w.heap.size w w0 := by rw [hw0]; exact below1 _ _
  have hr0 : Row w0 w.heap.size 27 [.int .i64 (c : Int), .int .i64 (s : Int), .int .u32 (n : Int)] := by rw [hw0]; exact Row.new _ _ _
  have x0 : w0.cell? ⟨w.heap.size, 0, none⟩ = some (.int .i64 (c : Int)) := hr0.cell 0
  have x1 : w0.cell? ⟨w.heap.size, 1, none⟩ = some (.int .i64 (s : Int)) := hr0.cell 1
  have x2 : w0.cell? ⟨w.heap.size, 2, none⟩ = some (.int .u32 (n : Int)) := hr0.cell 2
  have hl := hr0.lt
  obtain ⟨K, hKK⟩ : ∃ K, K = foldN [k, at_] := ⟨_, rfl⟩
  rw [← hKK] at hKl ⊢
  have h1 := Lib.hid (fun W (hB : Below w0.heap.size w0 W) => (show Calls Tryd.prog 20 #[.int .u64 (k : Int), .int .u32 (at_ : Int)] W (fun e W' => ∃ g, e = .returned (.func (.func 49) #[] #[.pointer (some ⟨g, 0, none⟩)]) ∧ W'.cell? ⟨g, 0, none⟩ = some (.int .u64 (K : Int)) ∧ Below w0.heap.size w0 W') from
    (heads_any k at_ W hk ha).mono fun e W' ⟨v, h1, ⟨g, h2, _, h4⟩, h5⟩ => ⟨g, h2 ▸ h1, hKK ▸ h4, hB.trans (h5.mono hB.size)⟩))
  have h2 := Lib.hid (fun g W (hB : Below w0.heap.size w0 W) hg => (show Calls Tryd.prog 19 #[.agg #[.int .i64 (c : Int), .int .i64 (s : Int), .int .u32 (n : Int)], .func (.func 49) #[] #[.pointer (some ⟨g, 0, none⟩)]] W (fun e W' => ∃ v, e = .returned (.tuple #[v, .int .i64 0]) ∧ W'.ownsRow w.heap.size 5 1 v 16 (byt (sealB K (tagW c s n))) ∧ Below w0.heap.size w0 W') from
    (toldB_ok c s n K g W (ht.below (hw.trans (hB.mono hw.size))) hc hs hn hKl hg).mono fun e W' ⟨v, h1, h2, h3⟩ => ⟨v, h1, own_mono h2 (by have := hw.size; have := hB.size; omega), hB.trans (h3.mono hB.size)⟩))
  obtain ⟨B, hBB⟩ : ∃ B, B = sealB K (tagW c s n) := ⟨_, rfl⟩
  rw [← hBB] at h2 ⊢
  have HSA := Lib.hid (fun W (hB : Below w0.heap.size w0 W) => (show W.cell? ⟨w.heap.size, 0, none⟩ = some (.int .i64 (c : Int)) ∧ W.cell? ⟨w.heap.size, 1, none⟩ = some (.int .i64 (s : Int)) ∧ W.cell? ⟨w.heap.size, 2, none⟩ = some (.int .u32 (n : Int)) ∧ Below w0.heap.size w0 W from
    ⟨(hB.cell (p := ⟨w.heap.size, 0, none⟩) hl).trans x0, (hB.cell (p := ⟨w.heap.size, 1, none⟩) hl).trans x1, (hB.cell (p := ⟨w.heap.size, 2, none⟩) hl).trans x2, hB⟩))
  have hdr := Lib.hid (show Below w0.heap.size w0 w0.drew from (Below.refl _ _).drew)
  have hfin := Lib.hid (fun (W : World) (hB : Below w0.heap.size w0 W) => (show Below w.heap.size w W from hw.trans (hB.mono hw.size)))
  clear hc hs hn hKl hKK hBB ht hr0 hw hk ha
  go_enter Tryd.func7, Tryd.ntmps7
  go_wp2_with fail
  rw [← hw0]
  clear hw0
  go_region_held3 (fun W => W.cell? ⟨w.heap.size, 0, none⟩ = some (.int .i64 (c : Int)) ∧ W.cell? ⟨w.heap.size, 1, none⟩ = some (.int .i64 (s : Int)) ∧ W.cell? ⟨w.heap.size, 2, none⟩ = some (.int .u32 (n : Int)) ∧ Below w0.heap.size w0 W)
    (first | exact HSA.out _ hdr.out | (exact HSA.out _ (by assumption)) | (go_split_ands; exact HSA.out _ (by assumption)))
    (first
      | (go_at_call 20; refine (h1.out _ (by first | exact hdr.out | assumption)).mono ?_; rintro e w2 ⟨g, rfl, hg2, hb2⟩)
      | (go_at_call 19; refine (h2.out _ _ (by first | exact hdr.out | assumption) (by assumption)).mono ?_; rintro e w3 ⟨v, rfl, ho, hb3⟩))
  all_goals
    have HB := hfin.out _ hb3
    clear h1 h2 HSA hdr hfin
    go_wp2
    go_ret2
    exact ⟨v, rfl, ho, HB⟩
set_option maxHeartbeats 2000000 in
theorem tail_no (k at_ : Nat) (c s n : Int) (w : World) (hk : k < 18446744073709551616) (ha : at_ < 4294967296) (h : okT c s = false) :
    Calls Tryd.prog 8 #[.int .u64 (k : Int), .int .u32 (at_ : Int), .agg #[.int .i64 c, .int .i64 s, .int .u32 n]] w fun e w' => e = .returned (.tuple #[.slice none 0 0, .int .i64 2]) ∧ Below w.heap.size w w' := by
  obtain ⟨w0, hw0⟩ : ∃ w0, w0 = w.alloc (.cells #[.int .i64 c, .int .i64 s, .int .u32 n] 27) := ⟨_, rfl⟩
  have hw : Below w.heap.size w w0 := by rw [hw0]; exact below1 _ _
  have hr0 : Row w0 w.heap.size 27 [.int .i64 c, .int .i64 s, .int .u32 n] := by rw [hw0]; exact Row.new _ _ _
  have x0 : w0.cell? ⟨w.heap.size, 0, none⟩ = some (.int .i64 c) := hr0.cell 0
  have x1 : w0.cell? ⟨w.heap.size, 1, none⟩ = some (.int .i64 s) := hr0.cell 1
  have x2 : w0.cell? ⟨w.heap.size, 2, none⟩ = some (.int .u32 n) := hr0.cell 2
  have hl := hr0.lt
  have h1 := Lib.hid (fun W (hB : Below w0.heap.size w0 W) => (show Calls Tryd.prog 21 #[.int .u64 (k : Int), .int .u32 (at_ : Int)] W (fun e W' => ∃ v, e = .returned v ∧ Below w0.heap.size w0 W') from
    (tails_any k at_ W hk ha).mono fun e W' ⟨v, h1, _, h2⟩ => ⟨v, h1, hB.trans (h2.mono hB.size)⟩))
  have h2 := Lib.hid (fun v W (hB : Below w0.heap.size w0 W) => (show Calls Tryd.prog 19 #[.agg #[.int .i64 c, .int .i64 s, .int .u32 n], v] W (fun e W' => e = .returned (.tuple #[.slice none 0 0, .int .i64 2]) ∧ Below w0.heap.size w0 W') from
    (toldB_no c s n v W h).mono fun e W' ⟨h1, h2⟩ => ⟨h1, hB.trans (h2.mono hB.size)⟩))
  have HSA := Lib.hid (fun W (hB : Below w0.heap.size w0 W) => (show W.cell? ⟨w.heap.size, 0, none⟩ = some (.int .i64 c) ∧ W.cell? ⟨w.heap.size, 1, none⟩ = some (.int .i64 s) ∧ W.cell? ⟨w.heap.size, 2, none⟩ = some (.int .u32 n) ∧ Below w0.heap.size w0 W from
    ⟨(hB.cell (p := ⟨w.heap.size, 0, none⟩) hl).trans x0, (hB.cell (p := ⟨w.heap.size, 1, none⟩) hl).trans x1, (hB.cell (p := ⟨w.heap.size, 2, none⟩) hl).trans x2, hB⟩))
  have hdr := Lib.hid (show Below w0.heap.size w0 w0.drew from (Below.refl _ _).drew)
  have hfin := Lib.hid (fun (W : World) (hB : Below w0.heap.size w0 W) => (show Below w.heap.size w W from hw.trans (hB.mono hw.size)))
  clear h hr0 hw hk ha
  go_enter Tryd.func8, Tryd.ntmps8
  go_wp2_with fail
  rw [← hw0]
  clear hw0
  go_region_held3 (fun W => W.cell? ⟨w.heap.size, 0, none⟩ = some (.int .i64 c) ∧ W.cell? ⟨w.heap.size, 1, none⟩ = some (.int .i64 s) ∧ W.cell? ⟨w.heap.size, 2, none⟩ = some (.int .u32 n) ∧ Below w0.heap.size w0 W)
    (first | exact HSA.out _ hdr.out | (exact HSA.out _ (by assumption)) | (go_split_ands; exact HSA.out _ (by assumption)))
    (first
      | (go_at_call 21; refine (h1.out _ (by first | exact hdr.out | assumption)).mono ?_; rintro e w2 ⟨v, rfl, hb2⟩)
      | (go_at_call 19; refine (h2.out _ _ (by first | exact hdr.out | assumption)).mono ?_; rintro e w3 ⟨rfl, hb3⟩))
  all_goals
    have HB := hfin.out _ hb3
    clear h1 h2 HSA hdr hfin
    go_wp2
    go_ret2
    exact ⟨rfl, HB⟩
set_option maxHeartbeats 2000000 in
theorem tail_ok (k at_ c s n : Nat) (w : World) (ht : Tab w) (hk : k < 18446744073709551616) (ha : at_ < 4294967296) (hc : c < 8) (hs : s ≤ 65535) (hn : n < 4294967296) :
    Calls Tryd.prog 8 #[.int .u64 (k : Int), .int .u32 (at_ : Int), .agg #[.int .i64 (c : Int), .int .i64 (s : Int), .int .u32 (n : Int)]] w (BytesP w (sealB (foldN [at_, k]) (tagW c s n))) := by
  have hKl : foldN [at_, k] < 18446744073709551616 := foldN_lt (fun x hx => by simp at hx; omega)
  obtain ⟨w0, hw0⟩ : ∃ w0, w0 = w.alloc (.cells #[.int .i64 (c : Int), .int .i64 (s : Int), .int .u32 (n : Int)] 27) := ⟨_, rfl⟩
  have hw : Below w.heap.size w w0 := by rw [hw0]; exact below1 _ _
  have hr0 : Row w0 w.heap.size 27 [.int .i64 (c : Int), .int .i64 (s : Int), .int .u32 (n : Int)] := by rw [hw0]; exact Row.new _ _ _
  have x0 : w0.cell? ⟨w.heap.size, 0, none⟩ = some (.int .i64 (c : Int)) := hr0.cell 0
  have x1 : w0.cell? ⟨w.heap.size, 1, none⟩ = some (.int .i64 (s : Int)) := hr0.cell 1
  have x2 : w0.cell? ⟨w.heap.size, 2, none⟩ = some (.int .u32 (n : Int)) := hr0.cell 2
  have hl := hr0.lt
  obtain ⟨K, hKK⟩ : ∃ K, K = foldN [at_, k] := ⟨_, rfl⟩
  rw [← hKK] at hKl ⊢
  have h1 := Lib.hid (fun W (hB : Below w0.heap.size w0 W) => (show Calls Tryd.prog 21 #[.int .u64 (k : Int), .int .u32 (at_ : Int)] W (fun e W' => ∃ g, e = .returned (.func (.func 49) #[] #[.pointer (some ⟨g, 0, none⟩)]) ∧ W'.cell? ⟨g, 0, none⟩ = some (.int .u64 (K : Int)) ∧ Below w0.heap.size w0 W') from
    (tails_any k at_ W hk ha).mono fun e W' ⟨v, h1, ⟨g, h2, _, h4⟩, h5⟩ => ⟨g, h2 ▸ h1, hKK ▸ h4, hB.trans (h5.mono hB.size)⟩))
  have h2 := Lib.hid (fun g W (hB : Below w0.heap.size w0 W) hg => (show Calls Tryd.prog 19 #[.agg #[.int .i64 (c : Int), .int .i64 (s : Int), .int .u32 (n : Int)], .func (.func 49) #[] #[.pointer (some ⟨g, 0, none⟩)]] W (fun e W' => ∃ v, e = .returned (.tuple #[v, .int .i64 0]) ∧ W'.ownsRow w.heap.size 5 1 v 16 (byt (sealB K (tagW c s n))) ∧ Below w0.heap.size w0 W') from
    (toldB_ok c s n K g W (ht.below (hw.trans (hB.mono hw.size))) hc hs hn hKl hg).mono fun e W' ⟨v, h1, h2, h3⟩ => ⟨v, h1, own_mono h2 (by have := hw.size; have := hB.size; omega), hB.trans (h3.mono hB.size)⟩))
  obtain ⟨B, hBB⟩ : ∃ B, B = sealB K (tagW c s n) := ⟨_, rfl⟩
  rw [← hBB] at h2 ⊢
  have HSA := Lib.hid (fun W (hB : Below w0.heap.size w0 W) => (show W.cell? ⟨w.heap.size, 0, none⟩ = some (.int .i64 (c : Int)) ∧ W.cell? ⟨w.heap.size, 1, none⟩ = some (.int .i64 (s : Int)) ∧ W.cell? ⟨w.heap.size, 2, none⟩ = some (.int .u32 (n : Int)) ∧ Below w0.heap.size w0 W from
    ⟨(hB.cell (p := ⟨w.heap.size, 0, none⟩) hl).trans x0, (hB.cell (p := ⟨w.heap.size, 1, none⟩) hl).trans x1, (hB.cell (p := ⟨w.heap.size, 2, none⟩) hl).trans x2, hB⟩))
  have hdr := Lib.hid (show Below w0.heap.size w0 w0.drew from (Below.refl _ _).drew)
  have hfin := Lib.hid (fun (W : World) (hB : Below w0.heap.size w0 W) => (show Below w.heap.size w W from hw.trans (hB.mono hw.size)))
  clear hc hs hn hKl hKK hBB ht hr0 hw hk ha
  go_enter Tryd.func8, Tryd.ntmps8
  go_wp2_with fail
  rw [← hw0]
  clear hw0
  go_region_held3 (fun W => W.cell? ⟨w.heap.size, 0, none⟩ = some (.int .i64 (c : Int)) ∧ W.cell? ⟨w.heap.size, 1, none⟩ = some (.int .i64 (s : Int)) ∧ W.cell? ⟨w.heap.size, 2, none⟩ = some (.int .u32 (n : Int)) ∧ Below w0.heap.size w0 W)
    (first | exact HSA.out _ hdr.out | (exact HSA.out _ (by assumption)) | (go_split_ands; exact HSA.out _ (by assumption)))
    (first
      | (go_at_call 21; refine (h1.out _ (by first | exact hdr.out | assumption)).mono ?_; rintro e w2 ⟨g, rfl, hg2, hb2⟩)
      | (go_at_call 19; refine (h2.out _ _ (by first | exact hdr.out | assumption) (by assumption)).mono ?_; rintro e w3 ⟨v, rfl, ho, hb3⟩))
  all_goals
    have HB := hfin.out _ hb3
    clear h1 h2 HSA hdr hfin
    go_wp2
    go_ret2
    exact ⟨v, rfl, ho, HB⟩
end Go.Proofs.YtfmbfojlopibnaaDoor
