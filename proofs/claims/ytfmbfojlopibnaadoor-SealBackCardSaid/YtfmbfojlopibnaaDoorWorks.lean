import Derived.Test.YtfmbfojlopibnaaDoorRefOpen
import Derived.Test.YtfmbfojlopibnaaDoorMake
namespace Go.Proofs.YtfmbfojlopibnaaDoor
open Go.RowKit Go.Shelf
attribute [local go_sem] Oper.semAt_some

/- THE CHAPTER'S ROWS. -/

theorem num_any (n : Int) (w : World) : Calls Tryd.prog 11 #[.int .i64 n] w fun e w' => e = .returned (.int .i64 n) ∧ w = w' := by
  go_enter Tryd.func11, Tryd.ntmps11
  go_wp2
  go_ret
  exact ⟨rfl, rfl⟩

/-- a tag's own head says the tag -/
theorem tagW_lt {c s n : Nat} (hc : c < 8) (hs : s ≤ 65535) (hn : n < 4294967296) : tagW c s n < 18446744073709551616 := by unfold tagW; omega
theorem tagW_parts {c s n : Nat} (hs : s ≤ 65535) (hn : n < 4294967296) : tagW c s n / 281474976710656 = c ∧ tagW c s n / 4294967296 % 65536 = s ∧ tagW c s n % 4294967296 = n := by unfold tagW; omega
theorem tagW_inj {c s n c' s' n' : Nat} (hs : s ≤ 65535) (hn : n < 4294967296) (hs' : s' ≤ 65535) (hn' : n' < 4294967296) (h : tagW c s n = tagW c' s' n') : c = c' ∧ s = s' ∧ n = n' := by
  obtain ⟨a1, a2, a3⟩ := tagW_parts (c := c) hs hn
  obtain ⟨b1, b2, b3⟩ := tagW_parts (c := c') hs' hn'
  rw [h] at a1 a2 a3
  exact ⟨a1.symm.trans b1, a2.symm.trans b2, a3.symm.trans b3⟩
theorem sealB_take (K x : Nat) (hx : x < 18446744073709551616) : undoN K (leVal ((sealB K x).take 8)) = x := by
  rw [sealB, List.take_left' (le_length 8 _), leVal_le 8 _ (mixN_lt hx), undo_mix hx]
theorem sealB_drop0 (K x y : Nat) (hy : y < 18446744073709551616) : undoN K (leVal ((le 8 (mixN K x) ++ le 8 (mixN K y)).drop 8)) = y := by
  rw [List.drop_left' (le_length 8 _), leVal_le 8 _ (mixN_lt hy), undo_mix hy]
theorem sealB_drop (K x : Nat) (hx : x < 18446744073709551616) : undoN K (leVal ((sealB K x).drop 8)) = 18446744073709551615 - x := by
  have hy : 18446744073709551615 - x < 18446744073709551616 := by omega
  exact sealB_drop0 K x _ hy
theorem sealB_inj {K x y : Nat} (hx : x < 18446744073709551616) (hy : y < 18446744073709551616) (h : sealB K x = sealB K y) : x = y := by
  rw [← sealB_take K x hx, h, sealB_take K y hy]
theorem open_head {K c s n : Nat} (hc : c < 8) (hs : s ≤ 65535) (hn : n < 4294967296) : OpenV (undoN K (leVal ((sealB K (tagW c s n)).take 8))) (undoN K (leVal ((sealB K (tagW c s n)).drop 8))) = .tuple #[.agg #[.int .i64 (c : Int), .int .i64 (s : Int), .int .u32 (n : Int)], .int .i64 0] := by
  have hx := tagW_lt hc hs hn
  obtain ⟨a1, a2, a3⟩ := tagW_parts (c := c) hs hn
  rw [sealB_take K _ hx, sealB_drop K _ hx, OpenV, a1, a2, a3, if_pos ⟨rfl, hc⟩]

/-- where l1 is the head, what is told hangs on the tail -/
theorem first_none (l m H T : List UInt8) (h : l = H) (h2 : m = T) : firstOf (spL l m H T) = 0 := by rw [spL, if_pos h, if_pos h2]; rfl
theorem first_head (l m H T : List UInt8) (h : l ≠ H) : firstOf (spL l m H T) = 1 := by rw [spL, if_neg h]; rfl
theorem first_tail (l m H T : List UInt8) (h : l = H) (h2 : m ≠ T) : firstOf (spL l m H T) = 2 := by rw [spL, if_pos h, if_neg h2]; rfl
theorem look_eq (k at_ c s n : Nat) (l m : List UInt8) : lookN k at_ c s n l m = if l = sealB (foldN [k, at_]) (tagW c s n) then (if m = sealB (foldN [at_, k]) (tagW c s n) then 0 else 2) else 1 := by
  unfold lookN
  split
  · rename_i h
    split
    · rename_i h2
      exact first_none _ _ _ _ h h2
    · rename_i h2
      exact first_tail _ _ _ _ h h2
  · rename_i h
    exact first_head _ _ _ _ h

theorem byt_set (l : List UInt8) (j : Nat) (b : UInt8) : byt (l.set j b) = (byt l).set j (.int .u8 (b.toNat : Int)) := by simp [byt, List.map_set]
theorem set_ne {l : List UInt8} {j : Nat} {b : UInt8} (h : j < l.length) (hb : b ≠ l[j]) : l.set j b ≠ l := fun e => by
  have h1 : (l.set j b)[j]'(by rw [List.length_set]; exact h) = b := List.getElem_set_self _
  have h2 : (l.set j b)[j]? = l[j]? := by rw [e]
  rw [List.getElem?_eq_getElem (by rw [List.length_set]; exact h), List.getElem?_eq_getElem h, h1] at h2
  injection h2 with h2
  exact hb h2

/-- what a place's tag has, and what is told of it -/
structure Made (k at_ c s n : Nat) (H T : List UInt8) : Prop where
  hl : H.length = 16
  tl : T.length = 16
  head : ∀ W, Tab W → Calls Tryd.prog 7 #[.int .u64 (k : Int), .int .u32 (at_ : Int), .agg #[.int .i64 (c : Int), .int .i64 (s : Int), .int .u32 (n : Int)]] W (BytesP W H)
  tail : ∀ W, Tab W → Calls Tryd.prog 8 #[.int .u64 (k : Int), .int .u32 (at_ : Int), .agg #[.int .i64 (c : Int), .int .i64 (s : Int), .int .u32 (n : Int)]] W (BytesP W T)
  opn : ∀ A c0 W, Tab W → Sees W W.heap.size A (byt H) → Calls Tryd.prog 15 #[.int .u64 (k : Int), .int .u32 (at_ : Int), .slice A 16 c0] W fun e w' => e = .returned (.tuple #[.agg #[.int .i64 (c : Int), .int .i64 (s : Int), .int .u32 (n : Int)], .int .i64 0]) ∧ Below W.heap.size W w'
  look : ∀ A1 c1 A2 c2 W (l1 l2 : List UInt8), l1.length = 16 → l2.length = 16 → Tab W → Sees W W.heap.size A1 (byt l1) → Sees W W.heap.size A2 (byt l2) →
    Calls Tryd.prog 17 #[.int .u64 (k : Int), .int .u32 (at_ : Int), .agg #[.int .i64 (c : Int), .int .i64 (s : Int), .int .u32 (n : Int)], .slice A1 16 c1, .slice A2 16 c2] W fun e w' =>
      e = .returned (.tuple #[.int .i64 (if l1 = H then (if l2 = T then 0 else 2) else 1), .int .i64 0]) ∧ Below W.heap.size W w'
  rhead : ∀ W, Calls Tryd.prog 13 #[.int .u64 (k : Int), .int .u32 (at_ : Int), .agg #[.int .i64 (c : Int), .int .i64 (s : Int), .int .u32 (n : Int)]] W fun e w' => ∃ v, e = .returned v ∧ w'.ownsRow W.heap.size 5 1 v 16 (byt H) ∧ Below W.heap.size W w'
  rtail : ∀ W, Calls Tryd.prog 14 #[.int .u64 (k : Int), .int .u32 (at_ : Int), .agg #[.int .i64 (c : Int), .int .i64 (s : Int), .int .u32 (n : Int)]] W fun e w' => ∃ v, e = .returned v ∧ w'.ownsRow W.heap.size 5 1 v 16 (byt T) ∧ Below W.heap.size W w'
theorem made (k at_ c s n : Nat) (hk : k < 18446744073709551616) (ha : at_ < 4294967296) (hc : c < 8) (hs : s ≤ 65535) (hn : n < 4294967296) : Made k at_ c s n (sealB (foldN [k, at_]) (tagW c s n)) (sealB (foldN [at_, k]) (tagW c s n)) where
  hl := sealB_length _ _
  tl := sealB_length _ _
  head W ht := head_ok k at_ c s n W ht hk ha hc hs hn
  tail W ht := tail_ok k at_ c s n W ht hk ha hc hs hn
  opn A c0 W ht hr := by
    have h := open_any k at_ _ A c0 W ht hk ha (sealB_length _ _) hr
    rw [open_head hc hs hn] at h
    exact h
  look A1 c1 A2 c2 W l1 l2 h1 h2 ht hr1 hr2 := by
    have h := look_ok k at_ c s n A1 A2 16 c1 16 c2 l1 l2 W ht hk ha hc hs hn h1 (by decide) h2 (by decide) hr1 hr2
    rw [look_eq] at h
    exact h
  rhead W := rhead_any k at_ c s n W hk ha hc hs hn
  rtail W := rtail_any k at_ c s n W hk ha hc hs hn
theorem made_some (k at_ c s n : Nat) (hk : k < 18446744073709551616) (ha : at_ < 4294967296) (hc : c < 8) (hs : s ≤ 65535) (hn : n < 4294967296) : ∃ H T, Made k at_ c s n H T := ⟨_, _, made k at_ c s n hk ha hc hs hn⟩

set_option maxHeartbeats 4000000 in
theorem works_any (w : World) (ht : Tab w) : Calls Tryd.prog 12 #[] w fun e w' => e = .returned (.bool true) ∧ Below w.heap.size w w' := by
  obtain ⟨H, T, M⟩ := made_some 7 256 1 20 5 (by decide) (by decide) (by decide) (by decide) (by decide)
  have hHl := M.hl
  have hTl := M.tl
  have h1 := Lib.hid (fun W ht => (show Calls Tryd.prog 7 #[.int .u64 7, .int .u32 256, .agg #[.int .i64 1, .int .i64 20, .int .u32 5]] W (BytesP W H) from M.head W ht))
  have h2 := Lib.hid (fun A c W ht (hr : Sees W W.heap.size A (byt H)) => (show Calls Tryd.prog 15 #[.int .u64 7, .int .u32 256, .slice A 16 c] W (fun e w' => e = .returned (.tuple #[.agg #[.int .i64 1, .int .i64 20, .int .u32 5], .int .i64 0]) ∧ Below W.heap.size W w') from M.opn A c W ht hr))
  have h3 := Lib.hid (fun W ht => (show Calls Tryd.prog 8 #[.int .u64 7, .int .u32 256, .agg #[.int .i64 1, .int .i64 20, .int .u32 5]] W (BytesP W T) from M.tail W ht))
  have h4 := Lib.hid (fun W => (show Calls Tryd.prog 7 #[.int .u64 7, .int .u32 0, .agg #[.int .i64 8, .int .i64 0, .int .u32 0]] W (fun e w' => e = .returned (.tuple #[.slice none 0 0, .int .i64 2]) ∧ Below W.heap.size W w') from head_no 7 0 8 0 0 W (by decide) (by decide) (by decide)))
  have h5 := Lib.hid (fun A W => (show Calls Tryd.prog 15 #[.int .u64 7, .int .u32 256, .slice A 15 15] W (fun e w' => e = .returned (.tuple #[.agg #[.int .i64 0, .int .i64 0, .int .u32 0], .int .i64 2]) ∧ Below W.heap.size W w') from open_arg 7 256 A 15 15 W (by decide)))
  have h6 := Lib.hid (fun A1 c1 A2 c2 W ht (hr1 : Sees W W.heap.size A1 (byt H)) (hr2 : Sees W W.heap.size A2 (byt T)) => (show Calls Tryd.prog 17 #[.int .u64 7, .int .u32 256, .agg #[.int .i64 1, .int .i64 20, .int .u32 5], .slice A1 16 c1, .slice A2 16 c2] W (fun e w' => e = .returned (.tuple #[.int .i64 0, .int .i64 0]) ∧ Below W.heap.size W w') from by
    have h := M.look A1 c1 A2 c2 W H T hHl hTl ht hr1 hr2
    rw [if_pos rfl, if_pos rfl] at h
    exact h))
  have h7 := Lib.hid (fun A1 c1 A2 c2 W (T' : List UInt8) (hT' : T'.length = 16) (hne : T' ≠ T) ht (hr1 : Sees W W.heap.size A1 (byt H)) (hr2 : Sees W W.heap.size A2 (byt T')) => (show Calls Tryd.prog 17 #[.int .u64 7, .int .u32 256, .agg #[.int .i64 1, .int .i64 20, .int .u32 5], .slice A1 16 c1, .slice A2 16 c2] W (fun e w' => e = .returned (.tuple #[.int .i64 2, .int .i64 0]) ∧ Below W.heap.size W w') from by
    have h := M.look A1 c1 A2 c2 W H T' hHl hT' ht hr1 hr2
    rw [if_pos rfl, if_neg hne] at h
    exact h))
  obtain ⟨i0, hi, hz0, hz1, hz2⟩ := info_parts byte_info
  have mk := Lib.hid (fun W => (show (Instr.makeSlice 28 (.int .i64 15) (.int .i64 15)).run Tryd.prog W = .ok (.slice (some ⟨W.heap.size, 0, none⟩) 15 15) (W.alloc (.cells (List.replicate 15 (Value.int .u8 0)).toArray 5)) from
    make_one Tryd.underlying28 hi hz0 hz1 rfl 15 15 (by decide) (by rw [hz2]; decide) (by decide) W))
  obtain ⟨w0, hw0⟩ : ∃ w0, w0 = w.alloc (.cells #[.int .i64 1, .int .i64 20, .int .u32 5] 27) := ⟨_, rfl⟩
  have hB0 : Below w.heap.size w w0 := by rw [hw0]; exact below1 _ _
  have hr0 : Row w0 w.heap.size 27 [.int .i64 1, .int .i64 20, .int .u32 5] := by rw [hw0]; exact Row.new _ _ _
  have d0 : w0.cell? ⟨w.heap.size, 0, none⟩ = some (.int .i64 1) := hr0.cell 0
  have d1 : w0.cell? ⟨w.heap.size, 1, none⟩ = some (.int .i64 20) := hr0.cell 1
  have d2 : w0.cell? ⟨w.heap.size, 2, none⟩ = some (.int .u32 5) := hr0.cell 2
  have HT3 : 3 < T.length := by rw [hTl]; decide
  clear M hi hz0 hz1 hz2
  go_enter Tryd.func12, Tryd.ntmps12
  go_wp2_with fail
  rw [← hw0]
  clear hw0
  refine (h1.out _ (ht.below hB0)).mono ?_
  rintro e w1 ⟨v, rfl, ho1, hb⟩
  have hB1 := below0 hB0 hb
  have hr1 := hr0.below hb
  obtain ⟨g1, c1, rfl, hc1, hl1⟩ := ho1.form (by decide)
  have hg1 := (ho1.lt g1 rfl).1
  have hs0 := hB0.size
  clear hr0 d0 d1 d2 hb h1
  go_wp2_with fail
  refine (h2.out _ _ _ (ht.below hB1) (Sees.of_own ho1)).mono ?_
  rintro e w2 ⟨rfl, hb⟩
  have hB2 := below0 hB1 hb
  have hr2 := hr1.below hb
  have ho2 := own_below ho1 hb (Nat.le_refl _)
  obtain ⟨w3, hw3⟩ : ∃ w3, w3 = w2.alloc (.cells #[.int .i64 1, .int .i64 20, .int .u32 5] 27) := ⟨_, rfl⟩
  have hb3 : Below w2.heap.size w2 w3 := by rw [hw3]; exact below1 _ _
  have hq3 : Row w3 w2.heap.size 27 [.int .i64 1, .int .i64 20, .int .u32 5] := by rw [hw3]; exact Row.new _ _ _
  clear hb
  have hb := hb3
  have hB3 := below0 hB2 hb
  have hr3 := hr2.below hb
  have ho3 := own_below ho2 hb (Nat.le_refl _)
  have d0 : w3.cell? ⟨w.heap.size, 0, none⟩ = some (.int .i64 1) := hr3.cell 0
  have d1 : w3.cell? ⟨w.heap.size, 1, none⟩ = some (.int .i64 20) := hr3.cell 1
  have d2 : w3.cell? ⟨w.heap.size, 2, none⟩ = some (.int .u32 5) := hr3.cell 2
  rw [hw3] at d0 d1 d2
  clear hB1 hr1 ho1 hr2 ho2 hb3 hb h2
  have HW3 := Lib.hid hw3
  clear hw3
  go_wp2_with fail
  rw [← HW3.out]
  clear HW3
  refine (h3.out _ (ht.below hB3)).mono ?_
  rintro e w4 ⟨v, rfl, hl4, hb⟩
  obtain ⟨g2, c2, rfl, hc2, hl2⟩ := hl4.form (by decide)
  have hB4 := below0 hB3 hb
  have hr4 := hr3.below hb
  have ho4 := own_below ho3 hb (Nat.le_refl _)
  have hq4 := hq3.below hb
  have hs3 := hr3.lt
  have hg3 := (ho3.lt g1 rfl).2
  clear hB3 hr3 ho3 hq3 hb d0 d1 d2 h3
  go_wp2_with fail
  refine (h4.out _).mono ?_
  rintro e w5 ⟨rfl, hb⟩
  have hB5 := below0 hB4 hb
  have hr5 := hr4.below hb
  have ho5 := own_below ho4 hb (Nat.le_refl _)
  have hq5 := hq4.below hb
  have hl5 := own_below hl4 hb (Nat.le_refl _)
  have mk5 := mk.out w5
  clear hB4 hr4 ho4 hq4 hl4 hb h4 mk
  obtain ⟨w6, hw6⟩ : ∃ w6, w6 = w5.alloc (.cells (List.replicate 15 (Value.int .u8 0)).toArray 5) := ⟨_, rfl⟩
  have hb : Below w5.heap.size w5 w6 := by rw [hw6]; exact below1 _ _
  have hB6 := below0 hB5 hb
  have hr6 := hr5.below hb
  have ho6 := own_below ho5 hb (Nat.le_refl _)
  have hq6 := hq5.below hb
  have hl6 := own_below hl5 hb (Nat.le_refl _)
  rw [← hw6] at mk5
  clear hw6 hB5 hr5 ho5 hq5 hl5 hb
  go_wp2_with fail
  refine (h5.out _ _).mono ?_
  rintro e w7 ⟨rfl, hb⟩
  have hB7 := below0 hB6 hb
  have hr7 := hr6.below hb
  have ho7 := own_below ho6 hb (Nat.le_refl _)
  have hq7 := hq6.below hb
  have hl7 := own_below hl6 hb (Nat.le_refl _)
  clear hB6 hr6 ho6 hq6 hl6 hb h5 mk5
  obtain ⟨w8, hw8⟩ : ∃ w8, w8 = w7.alloc (.cells #[.int .i64 0, .int .i64 0, .int .u32 0] 27) := ⟨_, rfl⟩
  have hb : Below w7.heap.size w7 w8 := by rw [hw8]; exact below1 _ _
  have hB8 := below0 hB7 hb
  have hr8 := hr7.below hb
  have ho8 := own_below ho7 hb (Nat.le_refl _)
  have hq8 := hq7.below hb
  have hl8 := own_below hl7 hb (Nat.le_refl _)
  clear hB7 hr7 ho7 hq7 hl7 hb
  have d0 : w8.cell? ⟨w.heap.size, 0, none⟩ = some (.int .i64 1) := hr8.cell 0
  have d1 : w8.cell? ⟨w.heap.size, 1, none⟩ = some (.int .i64 20) := hr8.cell 1
  have d2 : w8.cell? ⟨w.heap.size, 2, none⟩ = some (.int .u32 5) := hr8.cell 2
  have e0 : w8.cell? ⟨w2.heap.size, 0, none⟩ = some (.int .i64 1) := hq8.cell 0
  have e1 : w8.cell? ⟨w2.heap.size, 1, none⟩ = some (.int .i64 20) := hq8.cell 1
  have e2 : w8.cell? ⟨w2.heap.size, 2, none⟩ = some (.int .u32 5) := hq8.cell 2
  rw [hw8] at d0 d1 d2 e0 e1 e2
  have HW8 := Lib.hid hw8
  clear hw8
  go_wp2_with (go_at_call 11; refine (num_any _ _).mono ?_; rintro e w' ⟨rfl, rfl⟩)
  rw [← HW8.out]
  clear HW8
  clear d0 d1 d2 e0 e1 e2
  refine (h6.out _ _ _ _ _ (ht.below hB8) (Sees.of_own ho8) (Sees.of_own hl8)).mono ?_
  rintro e w9 ⟨rfl, hb⟩
  have hB9 := below0 hB8 hb
  have hr9 := hr8.below hb
  have ho9 := own_below ho8 hb (Nat.le_refl _)
  have hl9 := own_below hl8 hb (Nat.le_refl _)
  clear hB8 hr8 ho8 hl8 hb h6 hq8
  have hcl : w9.cell? ⟨g2, 3, none⟩ = some (.int .u8 (T[3].toNat : Int)) := by rw [hl9.cellAt 3 (by decide), byt_get HT3]
  have hfl := hl9.frozenAt 3
  obtain ⟨b, hb⟩ : ∃ b, b = T[3] := ⟨_, rfl⟩
  rw [← hb] at hcl
  have hcell : ∀ (j : Nat) (u : Value), (w9.setCell ⟨g2, 3, none⟩ u).cell? ⟨w.heap.size, j, none⟩ = w9.cell? ⟨w.heap.size, j, none⟩ := fun j u => World.cell?_setCell_other _ _ _ _ (by intro e; injection e with e1; omega)
  have d0 : ∀ u, (w9.setCell ⟨g2, 3, none⟩ u).cell? ⟨w.heap.size, 0, none⟩ = some (.int .i64 1) := fun u => (hcell 0 u).trans (hr9.cell 0)
  have d1 : ∀ u, (w9.setCell ⟨g2, 3, none⟩ u).cell? ⟨w.heap.size, 1, none⟩ = some (.int .i64 20) := fun u => (hcell 1 u).trans (hr9.cell 1)
  have d2 : ∀ u, (w9.setCell ⟨g2, 3, none⟩ u).cell? ⟨w.heap.size, 2, none⟩ = some (.int .u32 5) := fun u => (hcell 2 u).trans (hr9.cell 2)
  clear hcell
  obtain ⟨b', hb'⟩ : ∃ b' : UInt8, b' = UInt8.ofNat ((b.toNat + 1) % 256) := ⟨_, rfl⟩
  have hbl := b.toNat_lt
  have hv : ((b.toNat : Int) + 1) % 256 = (b'.toNat : Int) := by rw [hb']; simp
  have hne : T.set 3 b' ≠ T := set_ne HT3 (by
    rw [← hb]
    intro h
    have h2 : b'.toNat = b.toNat := congrArg UInt8.toNat h
    omega)
  have hTl' : (T.set 3 b').length = 16 := by rw [List.length_set]; exact hTl
  obtain ⟨w10, hw10⟩ : ∃ w10, w10 = w9.setCell ⟨g2, 3, none⟩ (.int .u8 (b'.toNat : Int)) := ⟨_, rfl⟩
  have hl10 : w10.ownsRow w3.heap.size 5 1 (.slice (some ⟨g2, 0, none⟩) 16 c2) 16 (byt (T.set 3 b')) := by rw [hw10, byt_set]; exact (hl9.stored 3 _).1
  have ho10 : w10.ownsRow w0.heap.size 5 1 (.slice (some ⟨g1, 0, none⟩) 16 c1) 16 (byt H) := own_same ho9 (fun k hk => by
    simp only [Value.ownBlock, Option.some.injEq] at hk
    subst hk
    rw [hw10]
    exact heap_set (by omega))
  have hB10 : Below w.heap.size w w10 := by rw [hw10]; exact hB9.setCell (by simp; omega) _
  clear hb hb' hbl hr9 ho9 hl9 hB9
  have HV := Lib.hid hv
  have HW10 := Lib.hid hw10
  clear hv hw10
  go_wp2_with fail
  rw [HV.out, ← HW10.out]
  clear HV HW10 d0 d1 d2 hcl hfl
  refine (h7.out _ _ _ _ _ _ hTl' hne (ht.below hB10) (Sees.of_own ho10) (Sees.of_own hl10)).mono ?_
  rintro e w11 ⟨rfl, hb⟩
  have hB11 := below0 hB10 hb
  clear hB10 ho10 hl10 hb h7 hne hTl'
  go_wp2_with (go_at_call 11; refine (num_any _ _).mono ?_; rintro e w' ⟨rfl, rfl⟩)
  go_ret
  exact ⟨rfl, hB11⟩
end Go.Proofs.YtfmbfojlopibnaaDoor
