import Derived.Test.YtfmbfojlopibnaaDoorRefS
import Derived.Test.YtfmbfojlopibnaaDoorRnd
import Derived.Test.YtfmbfojlopibnaaDoorStr
namespace Go.Proofs.YtfmbfojlopibnaaDoor
open Go.RowKit Go.Shelf
attribute [local go_sem] Oper.semAt_some

/- THE DOCUMENT'S HEADS AND TAILS. -/

set_option maxHeartbeats 2000000 in
theorem rhead_any (k at_ c s n : Nat) (w : World) (hk : k < 18446744073709551616) (ha : at_ < 4294967296) (hc : c < 8) (hs : s ≤ 65535) (hn : n < 4294967296) :
    Calls Tryd.prog 13 #[.int .u64 (k : Int), .int .u32 (at_ : Int), .agg #[.int .i64 (c : Int), .int .i64 (s : Int), .int .u32 (n : Int)]] w fun e w' => ∃ v, e = .returned v ∧ w'.ownsRow w.heap.size 5 1 v 16 (byt (sealB (foldN [k, at_]) (tagW c s n))) ∧ Below w.heap.size w w' := by
  have hKl : foldN [k, at_] < 18446744073709551616 := foldN_lt (fun x hx => by simp at hx; omega)
  have hxl : tagW c s n < 18446744073709551616 := by unfold tagW; omega
  obtain ⟨w0, hw0⟩ : ∃ w0, w0 = w.alloc (.cells #[.int .i64 (c : Int), .int .i64 (s : Int), .int .u32 (n : Int)] 27) := ⟨_, rfl⟩
  have hw : Below w.heap.size w w0 := by rw [hw0]; exact below1 _ _
  have hr0 : Row w0 w.heap.size 27 [.int .i64 (c : Int), .int .i64 (s : Int), .int .u32 (n : Int)] := by rw [hw0]; exact Row.new _ _ _
  have x0 : w0.cell? ⟨w.heap.size, 0, none⟩ = some (.int .i64 (c : Int)) := hr0.cell 0
  have x1 : w0.cell? ⟨w.heap.size, 1, none⟩ = some (.int .i64 (s : Int)) := hr0.cell 1
  have x2 : w0.cell? ⟨w.heap.size, 2, none⟩ = some (.int .u32 (n : Int)) := hr0.cell 2
  have hl := hr0.lt
  have h1 := Lib.hid (fun (g : Nat) W (hB : Below w0.heap.size w0 W) (hr : Row W g 22 [.int .u64 (k : Int), .int .u64 (at_ : Int)]) => (show Calls Tryd.prog 25 #[.slice (some ⟨g, 0, none⟩) 2 2] W (fun e W' => e = .returned (.int .u64 (foldN [k, at_] : Int)) ∧ Below W.heap.size W W' ∧ Below w0.heap.size w0 W') from
    (rfold_any [k, at_] (some ⟨g, 0, none⟩) 2 W (fun x hx => by simp at hx; omega) (by simp) hr.sees).mono fun e W' ⟨h1, h2⟩ => ⟨h1, h2, hB.trans (h2.mono hB.size)⟩))
  have h2 := Lib.hid (fun W (hB : Below w0.heap.size w0 W) => (show Calls Tryd.prog 26 #[.agg #[.int .i64 (c : Int), .int .i64 (s : Int), .int .u32 (n : Int)]] W (fun e W' => e = .returned (.int .u64 (tagW c s n : Int)) ∧ Below W.heap.size W W' ∧ Below w0.heap.size w0 W') from
    (rword_any c s n W hc hs hn).mono fun e W' ⟨h1, h2⟩ => ⟨h1, h2, hB.trans (h2.mono hB.size)⟩))
  have h3 := Lib.hid (fun W (hB : Below w0.heap.size w0 W) => (show Calls Tryd.prog 24 #[.int .u64 (foldN [k, at_] : Int), .int .u64 (tagW c s n : Int)] W (fun e W' => ∃ v, e = .returned v ∧ W'.ownsRow w.heap.size 5 1 v 16 (byt (sealB (foldN [k, at_]) (tagW c s n))) ∧ Below w0.heap.size w0 W') from
    (both_any _ _ W hKl hxl).mono fun e W' ⟨v, h1, h2, h3⟩ => ⟨v, h1, own_mono h2 (by have := hw.size; have := hB.size; omega), hB.trans (h3.mono hB.size)⟩))
  obtain ⟨B, hBB⟩ : ∃ B, B = sealB (foldN [k, at_]) (tagW c s n) := ⟨_, rfl⟩
  rw [← hBB] at h3 ⊢
  obtain ⟨K, hKK⟩ : ∃ K, K = foldN [k, at_] := ⟨_, rfl⟩
  rw [← hKK] at h1 h3
  obtain ⟨x, hxx⟩ : ∃ x, x = tagW c s n := ⟨_, rfl⟩
  rw [← hxx] at h2 h3
  have HSA := Lib.hid (fun W (hB : Below w0.heap.size w0 W) => (show W.cell? ⟨w.heap.size, 0, none⟩ = some (.int .i64 (c : Int)) ∧ W.cell? ⟨w.heap.size, 1, none⟩ = some (.int .i64 (s : Int)) ∧ W.cell? ⟨w.heap.size, 2, none⟩ = some (.int .u32 (n : Int)) ∧ Below w0.heap.size w0 W from
    ⟨(hB.cell (p := ⟨w.heap.size, 0, none⟩) hl).trans x0, (hB.cell (p := ⟨w.heap.size, 1, none⟩) hl).trans x1, (hB.cell (p := ⟨w.heap.size, 2, none⟩) hl).trans x2, hB⟩))
  have HAL := Lib.hid (fun W (o : Obj) (hB : Below w0.heap.size w0 W) => (show Below w0.heap.size w0 (W.alloc o) from hB.alloc hB.size o))
  have hdr := Lib.hid (show Below w0.heap.size w0 w0.drew from (Below.refl _ _).drew)
  have hfin := Lib.hid (fun (W : World) (hB : Below w0.heap.size w0 W) => (show Below w.heap.size w W from hw.trans (hB.mono hw.size)))
  have HRN := Lib.hid (fun (W : World) => (show Row (W.alloc (.cells #[.int .u64 (k : Int), .int .u64 (at_ : Int)] 22)) W.heap.size 22 [.int .u64 (k : Int), .int .u64 (at_ : Int)] from Row.new W _ _))
  have haw : IntKind.u64.wrap (at_ : Int) = (at_ : Int) := wrapN _ (by omega)
  clear hc hs hn hKl hxl hKK hxx hBB hr0 hw hk ha
  go_enter Tryd.func13, Tryd.ntmps13
  go_wp2_with fail
  rw [← hw0]
  clear hw0
  go_region_held3 (fun W => W.cell? ⟨w.heap.size, 0, none⟩ = some (.int .i64 (c : Int)) ∧ W.cell? ⟨w.heap.size, 1, none⟩ = some (.int .i64 (s : Int)) ∧ W.cell? ⟨w.heap.size, 2, none⟩ = some (.int .u32 (n : Int)) ∧ Below w0.heap.size w0 W)
    (first | exact HSA.out _ hdr.out | (exact HSA.out _ (by assumption)) | (go_split_ands; exact HSA.out _ (by assumption)) | (exact HSA.out _ (HAL.out _ _ hdr.out)) | (exact HSA.out _ (HAL.out _ _ (by assumption))) | (go_split_ands; exact HSA.out _ (HAL.out _ _ (by assumption))))
    (first
      | (go_at_call 25; refine (h1.out _ _ (by first | assumption | exact HAL.out _ _ hdr.out | exact HAL.out _ _ (by assumption) | (go_split_ands; assumption)) (by first | exact HRN.out w0.drew | exact Row.below (HRN.out w0.drew) hbw | exact HRN.out _)).mono ?_; rintro e w2 ⟨rfl, hbf, hb2⟩)
      | (go_at_call 26; refine (h2.out _ (by first | exact hdr.out | assumption | exact HAL.out _ _ hdr.out | exact HAL.out _ _ (by assumption) | (go_split_ands; assumption))).mono ?_; rintro e w3 ⟨rfl, hbw, hb3⟩)
      | (go_at_call 24; refine (h3.out _ (by assumption)).mono ?_; rintro e w4 ⟨v, rfl, ho, hb4⟩))
  all_goals
    have HB := hfin.out _ hb4
    clear h1 h2 h3 HSA HAL HRN hdr hfin
    go_wp2
    go_ret
    exact ⟨v, rfl, ho, HB⟩
set_option maxHeartbeats 2000000 in
theorem rtail_any (k at_ c s n : Nat) (w : World) (hk : k < 18446744073709551616) (ha : at_ < 4294967296) (hc : c < 8) (hs : s ≤ 65535) (hn : n < 4294967296) :
    Calls Tryd.prog 14 #[.int .u64 (k : Int), .int .u32 (at_ : Int), .agg #[.int .i64 (c : Int), .int .i64 (s : Int), .int .u32 (n : Int)]] w fun e w' => ∃ v, e = .returned v ∧ w'.ownsRow w.heap.size 5 1 v 16 (byt (sealB (foldN [at_, k]) (tagW c s n))) ∧ Below w.heap.size w w' := by
  have hKl : foldN [at_, k] < 18446744073709551616 := foldN_lt (fun x hx => by simp at hx; omega)
  have hxl : tagW c s n < 18446744073709551616 := by unfold tagW; omega
  obtain ⟨w0, hw0⟩ : ∃ w0, w0 = w.alloc (.cells #[.int .i64 (c : Int), .int .i64 (s : Int), .int .u32 (n : Int)] 27) := ⟨_, rfl⟩
  have hw : Below w.heap.size w w0 := by rw [hw0]; exact below1 _ _
  have hr0 : Row w0 w.heap.size 27 [.int .i64 (c : Int), .int .i64 (s : Int), .int .u32 (n : Int)] := by rw [hw0]; exact Row.new _ _ _
  have x0 : w0.cell? ⟨w.heap.size, 0, none⟩ = some (.int .i64 (c : Int)) := hr0.cell 0
  have x1 : w0.cell? ⟨w.heap.size, 1, none⟩ = some (.int .i64 (s : Int)) := hr0.cell 1
  have x2 : w0.cell? ⟨w.heap.size, 2, none⟩ = some (.int .u32 (n : Int)) := hr0.cell 2
  have hl := hr0.lt
  have h1 := Lib.hid (fun (g : Nat) W (hB : Below w0.heap.size w0 W) (hr : Row W g 22 [.int .u64 (at_ : Int), .int .u64 (k : Int)]) => (show Calls Tryd.prog 25 #[.slice (some ⟨g, 0, none⟩) 2 2] W (fun e W' => e = .returned (.int .u64 (foldN [at_, k] : Int)) ∧ Below W.heap.size W W' ∧ Below w0.heap.size w0 W') from
    (rfold_any [at_, k] (some ⟨g, 0, none⟩) 2 W (fun x hx => by simp at hx; omega) (by simp) hr.sees).mono fun e W' ⟨h1, h2⟩ => ⟨h1, h2, hB.trans (h2.mono hB.size)⟩))
  have h2 := Lib.hid (fun W (hB : Below w0.heap.size w0 W) => (show Calls Tryd.prog 26 #[.agg #[.int .i64 (c : Int), .int .i64 (s : Int), .int .u32 (n : Int)]] W (fun e W' => e = .returned (.int .u64 (tagW c s n : Int)) ∧ Below W.heap.size W W' ∧ Below w0.heap.size w0 W') from
    (rword_any c s n W hc hs hn).mono fun e W' ⟨h1, h2⟩ => ⟨h1, h2, hB.trans (h2.mono hB.size)⟩))
  have h3 := Lib.hid (fun W (hB : Below w0.heap.size w0 W) => (show Calls Tryd.prog 24 #[.int .u64 (foldN [at_, k] : Int), .int .u64 (tagW c s n : Int)] W (fun e W' => ∃ v, e = .returned v ∧ W'.ownsRow w.heap.size 5 1 v 16 (byt (sealB (foldN [at_, k]) (tagW c s n))) ∧ Below w0.heap.size w0 W') from
    (both_any _ _ W hKl hxl).mono fun e W' ⟨v, h1, h2, h3⟩ => ⟨v, h1, own_mono h2 (by have := hw.size; have := hB.size; omega), hB.trans (h3.mono hB.size)⟩))
  obtain ⟨B, hBB⟩ : ∃ B, B = sealB (foldN [at_, k]) (tagW c s n) := ⟨_, rfl⟩
  rw [← hBB] at h3 ⊢
  obtain ⟨K, hKK⟩ : ∃ K, K = foldN [at_, k] := ⟨_, rfl⟩
  rw [← hKK] at h1 h3
  obtain ⟨x, hxx⟩ : ∃ x, x = tagW c s n := ⟨_, rfl⟩
  rw [← hxx] at h2 h3
  have HSA := Lib.hid (fun W (hB : Below w0.heap.size w0 W) => (show W.cell? ⟨w.heap.size, 0, none⟩ = some (.int .i64 (c : Int)) ∧ W.cell? ⟨w.heap.size, 1, none⟩ = some (.int .i64 (s : Int)) ∧ W.cell? ⟨w.heap.size, 2, none⟩ = some (.int .u32 (n : Int)) ∧ Below w0.heap.size w0 W from
    ⟨(hB.cell (p := ⟨w.heap.size, 0, none⟩) hl).trans x0, (hB.cell (p := ⟨w.heap.size, 1, none⟩) hl).trans x1, (hB.cell (p := ⟨w.heap.size, 2, none⟩) hl).trans x2, hB⟩))
  have HAL := Lib.hid (fun W (o : Obj) (hB : Below w0.heap.size w0 W) => (show Below w0.heap.size w0 (W.alloc o) from hB.alloc hB.size o))
  have hdr := Lib.hid (show Below w0.heap.size w0 w0.drew from (Below.refl _ _).drew)
  have hfin := Lib.hid (fun (W : World) (hB : Below w0.heap.size w0 W) => (show Below w.heap.size w W from hw.trans (hB.mono hw.size)))
  have HRN := Lib.hid (fun (W : World) => (show Row (W.alloc (.cells #[.int .u64 (at_ : Int), .int .u64 (k : Int)] 22)) W.heap.size 22 [.int .u64 (at_ : Int), .int .u64 (k : Int)] from Row.new W _ _))
  have haw : IntKind.u64.wrap (at_ : Int) = (at_ : Int) := wrapN _ (by omega)
  clear hc hs hn hKl hxl hKK hxx hBB hr0 hw hk ha
  go_enter Tryd.func14, Tryd.ntmps14
  go_wp2_with fail
  rw [← hw0]
  clear hw0
  go_region_held3 (fun W => W.cell? ⟨w.heap.size, 0, none⟩ = some (.int .i64 (c : Int)) ∧ W.cell? ⟨w.heap.size, 1, none⟩ = some (.int .i64 (s : Int)) ∧ W.cell? ⟨w.heap.size, 2, none⟩ = some (.int .u32 (n : Int)) ∧ Below w0.heap.size w0 W)
    (first | exact HSA.out _ hdr.out | (exact HSA.out _ (by assumption)) | (go_split_ands; exact HSA.out _ (by assumption)) | (exact HSA.out _ (HAL.out _ _ hdr.out)) | (exact HSA.out _ (HAL.out _ _ (by assumption))) | (go_split_ands; exact HSA.out _ (HAL.out _ _ (by assumption))))
    (first
      | (go_at_call 25; refine (h1.out _ _ (by first | assumption | exact HAL.out _ _ hdr.out | exact HAL.out _ _ (by assumption) | (go_split_ands; assumption)) (by first | exact HRN.out w0.drew | exact Row.below (HRN.out w0.drew) hbw | exact HRN.out _)).mono ?_; rintro e w2 ⟨rfl, hbf, hb2⟩)
      | (go_at_call 26; refine (h2.out _ (by first | exact hdr.out | assumption | exact HAL.out _ _ hdr.out | exact HAL.out _ _ (by assumption) | (go_split_ands; assumption))).mono ?_; rintro e w3 ⟨rfl, hbw, hb3⟩)
      | (go_at_call 24; refine (h3.out _ (by assumption)).mono ?_; rintro e w4 ⟨v, rfl, ho, hb4⟩))
  all_goals
    have HB := hfin.out _ hb4
    clear h1 h2 h3 HSA HAL HRN hdr hfin
    go_wp2
    go_ret
    exact ⟨v, rfl, ho, HB⟩
end Go.Proofs.YtfmbfojlopibnaaDoor
