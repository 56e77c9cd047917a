import Derived.Test.YtkfljominljliaaWo
namespace Go.Proofs.Ytkfljominljliaa
open Go.RowKit Go.Shelf
attribute [local go_sem] Oper.semAt_some

/-- what a look of those parts tells -/
def tellO (a b d e g h : Int) : Option Nat → Value
  | some k => tellL a b d e g h k
  | none => siV 0 0 0 0
def holdN (n : Nat) : Nat → Bool := fitL (bookO n).isSome (regiO n).isSome (windO n).isSome (sB (windO n) : Int)
def siteV (n : Nat) : Value := tellO (sA (bookO n) : Int) (sB (bookO n) : Int) (sA (windO n) : Int) (sB (windO n) : Int) (sA (regiO n) : Int) (sB (regiO n) : Int) (srO (holdN n))
theorem srO_lt {hold : Nat → Bool} {k : Nat} (h : srO hold = some k) : k < 4 := by
  have := List.mem_of_find?_eq_some h
  simpa using this
theorem tellL_si (a b d e g h : Int) (k : Nat) : ∃ x y z t : Int, tellL a b d e g h k = siV x y z t := by
  unfold tellL
  split
  · exact ⟨_, _, _, _, rfl⟩
  · split
    · exact ⟨_, _, _, _, rfl⟩
    · split
      · exact ⟨_, _, _, _, rfl⟩
      · exact ⟨_, _, _, _, rfl⟩

set_option maxHeartbeats 2000000 in
theorem siteOf_none (n : Nat) (w : World) (hn : n < 1000000) (ho : srO (holdN n) = none) : Calls Try.prog 33 #[.int .i64 (n : Int)] w fun en w' => en = .returned (siteV n) ∧ Below w.heap.size w w' := by
  have hla := Lib.hid (fun w => lookAt_any n w hn)
  rw [lookV] at hla
  rw [siteV, ho, show ∀ a b d e g h : Int, tellO a b d e g h none = siV 0 0 0 0 from fun _ _ _ _ _ _ => rfl]
  rw [holdN] at ho
  obtain ⟨a, ha⟩ : ∃ a, a = sA (bookO n) := ⟨_, rfl⟩
  obtain ⟨b, hb'⟩ : ∃ b, b = sB (bookO n) := ⟨_, rfl⟩
  obtain ⟨c, hc⟩ : ∃ c, c = (bookO n).isSome := ⟨_, rfl⟩
  obtain ⟨d, hd⟩ : ∃ a, a = sA (windO n) := ⟨_, rfl⟩
  obtain ⟨e, he⟩ : ∃ b, b = sB (windO n) := ⟨_, rfl⟩
  obtain ⟨f, hf⟩ : ∃ c, c = (windO n).isSome := ⟨_, rfl⟩
  obtain ⟨g, hg⟩ : ∃ a, a = sA (regiO n) := ⟨_, rfl⟩
  obtain ⟨h, hh⟩ : ∃ b, b = sB (regiO n) := ⟨_, rfl⟩
  obtain ⟨i, hi⟩ : ∃ c, c = (regiO n).isSome := ⟨_, rfl⟩
  rw [← ha, ← hb', ← hc, ← hd, ← he, ← hf, ← hg, ← hh, ← hi] at hla
  rw [← hc, ← he, ← hf, ← hi] at ho
  skip
  clear ha hb' hc hd he hf hg hh hi hn
  have e0 : srOV none = .agg #[.nilFunc, .nilFunc] := rfl
  have e1 : (none : Option Nat).isSome = false := rfl
  go_enter Try.func33, Try.ntmps33
  go_wp2_with fail
  refine wp_scope_jump 1 fun R hR hG => ?_
  go_wp2_with fail
  refine (hla.out _).mono ?_
  rintro en w1 ⟨rfl, hb1⟩
  clear hla
  go_wp2_with fail
  obtain ⟨w2, hw2⟩ : ∃ w2, w2 = w1.alloc (.cells #[.int .i64 (a : Int), .int .i64 (b : Int), .bool c, .int .i64 (d : Int), .int .i64 (e : Int), .bool f, .int .i64 (g : Int), .int .i64 (h : Int), .bool i] 74) := ⟨_, rfl⟩
  have hs1 := hb1.size
  simp at hs1
  have R1 : Row w1 w.heap.size 36 [.int .i64 0, .int .i64 0, .int .i64 0, .int .i64 0] := (Row.new w 36 [.int .i64 0, .int .i64 0, .int .i64 0, .int .i64 0]).below hb1
  have B1 : Below w.heap.size w w1 := (below1 _ _).trans (hb1.mono (by simp))
  have R2 := R1.below (show Below w1.heap.size w1 w2 by rw [hw2]; exact below1 _ _)
  have B2 : Below w.heap.size w w2 := by rw [hw2]; exact B1.alloc B1.size _
  have L2 : Row w2 w1.heap.size 74 (lkC a b c d e f g h i) := by rw [hw2]; exact Row.new _ _ _
  rw [← hw2]
  clear hw2 hb1 R1 B1
  obtain ⟨lb, hlb⟩ : ∃ lb, lb = w1.heap.size := ⟨_, rfl⟩
  rw [← hlb] at L2 ⊢
  have hlbw : w.heap.size < lb := by omega
  clear hlb hs1
  refine (sorts_any _).mono ?_
  rintro en w3 ⟨rfl, h3⟩
  obtain ⟨sl, hsl⟩ : ∃ sl, sl = w2.heap.size := ⟨_, rfl⟩
  have b3 : Below w2.heap.size w2 w3 := by rw [h3]; exact below1 _ _
  have S3 : Row w3 sl 79 sortC := by rw [h3, hsl]; exact Row.new _ _ _
  rw [← hsl]
  clear h3
  go_wp2_with fail
  refine (values_any _ _ _ _).mono ?_
  rintro en w4 ⟨rfl, h4⟩
  obtain ⟨bx, hbx⟩ : ∃ bx, bx = w3.heap.size := ⟨_, rfl⟩
  have b4 : Below w3.heap.size w3 w4 := by rw [h4]; exact below1 _ _
  have T4 : Stands w4 bx sl := ⟨by rw [h4, hbx, hsl]; exact Row.new w3 85 [.slice (some ⟨w2.heap.size, 0, none⟩) 4 4], S3.below b4⟩
  rw [← hbx]
  have R4 := (R2.below b3).below b4
  have L4 := (L2.below b3).below b4
  have B4 : Below w.heap.size w w4 := (B2.trans (b3.mono B2.size)).trans (b4.mono (Nat.le_trans B2.size b3.size))
  clear h4 S3 hbx hsl b3 b4 R2 L2 B2
  go_wp2_with fail
  refine (first_any (fitL c i f (e : Int)) lb bx sl w4 T4 (fun k hk W hW => fit_any k hk a b c d e f g h i lb W (L4.below hW))).mono ?_
  rintro en w5 ⟨rfl, hb5⟩
  have R5 := R4.below hb5
  have L5 := L4.below hb5
  have B5 := B4.trans (hb5.mono B4.size)
  clear R4 L4 B4 hb5 T4
  rw [ho, e0, e1]
  clear e0 e1
  go_wp2_with fail
  refine wp_goto (hG.out _ _ _ _ _ rfl ?_)
  obtain ⟨w6, hw6⟩ : ∃ w6, w6 = w5.alloc (.cells #[.nilFunc, .nilFunc] 79) := ⟨_, rfl⟩
  have R6 := R5.below (show Below w5.heap.size w5 w6 by rw [hw6]; exact below1 _ _)
  have B6 : Below w.heap.size w w6 := by rw [hw6]; exact B5.alloc B5.size _
  rw [← hw6]
  clear hw6 R5 B5 L5
  have c0 : w6.cell? ⟨w.heap.size, 0, none⟩ = _ := R6.cell 0
  have c1 : w6.cell? ⟨w.heap.size, 1, none⟩ = _ := R6.cell 1
  have c2 : w6.cell? ⟨w.heap.size, 2, none⟩ = _ := R6.cell 2
  have c3 : w6.cell? ⟨w.heap.size, 3, none⟩ = _ := R6.cell 3
  have f0 : w6.frozen? ⟨w.heap.size, 0, none⟩ = false := R6.frozen 0
  have f1 : w6.frozen? ⟨w.heap.size, 1, none⟩ = false := R6.frozen 1
  have f2 : w6.frozen? ⟨w.heap.size, 2, none⟩ = false := R6.frozen 2
  have f3 : w6.frozen? ⟨w.heap.size, 3, none⟩ = false := R6.frozen 3
  have HR := Lib.hid R6
  have HB := Lib.hid B6
  clear R6 B6
  go_wp2
  refine hR.out _ _ _ _ (by simp) ?_
  have R7 := row_set4 (.int .i64 0) (.int .i64 0) (.int .i64 0) (.int .i64 0) HR.out
  have B7 := below_set4 (b := w.heap.size) (.int .i64 0) (.int .i64 0) (.int .i64 0) (.int .i64 0) HB.out (Nat.le_refl _)
  clear c0 c1 c2 c3 f0 f1 f2 f3
  have d0 : World.cell? _ ⟨w.heap.size, 0, none⟩ = _ := R7.cell 0
  have d1 : World.cell? _ ⟨w.heap.size, 1, none⟩ = _ := R7.cell 1
  have d2 : World.cell? _ ⟨w.heap.size, 2, none⟩ = _ := R7.cell 2
  have d3 : World.cell? _ ⟨w.heap.size, 3, none⟩ = _ := R7.cell 3
  exact bodyPost_ret (v := siV 0 0 0 0) (by simp [results, Try.results33, go_sem, d0, d1, d2, d3]) rfl ⟨rfl, B7⟩

set_option maxHeartbeats 2000000 in
theorem siteOf_some (n k : Nat) (w : World) (hn : n < 1000000) (ho : srO (holdN n) = some k) : Calls Try.prog 33 #[.int .i64 (n : Int)] w fun en w' => en = .returned (siteV n) ∧ Below w.heap.size w w' := by
  have hk := srO_lt ho
  have hla := Lib.hid (fun w => lookAt_any n w hn)
  rw [lookV] at hla
  rw [siteV, ho, show ∀ a b d e g h : Int, tellO a b d e g h (some k) = tellL a b d e g h k from fun _ _ _ _ _ _ => rfl]
  rw [holdN] at ho
  obtain ⟨a, ha⟩ : ∃ a, a = sA (bookO n) := ⟨_, rfl⟩
  obtain ⟨b, hb'⟩ : ∃ b, b = sB (bookO n) := ⟨_, rfl⟩
  obtain ⟨c, hc⟩ : ∃ c, c = (bookO n).isSome := ⟨_, rfl⟩
  obtain ⟨d, hd⟩ : ∃ a, a = sA (windO n) := ⟨_, rfl⟩
  obtain ⟨e, he⟩ : ∃ b, b = sB (windO n) := ⟨_, rfl⟩
  obtain ⟨f, hf⟩ : ∃ c, c = (windO n).isSome := ⟨_, rfl⟩
  obtain ⟨g, hg⟩ : ∃ a, a = sA (regiO n) := ⟨_, rfl⟩
  obtain ⟨h, hh⟩ : ∃ b, b = sB (regiO n) := ⟨_, rfl⟩
  obtain ⟨i, hi⟩ : ∃ c, c = (regiO n).isSome := ⟨_, rfl⟩
  rw [← ha, ← hb', ← hc, ← hd, ← he, ← hf, ← hg, ← hh, ← hi] at hla
  rw [← hc, ← he, ← hf, ← hi] at ho
  rw [← ha, ← hb', ← hd, ← he, ← hg, ← hh]
  clear ha hb' hc hd he hf hg hh hi hn
  obtain ⟨x, y, z, t, hv⟩ := tellL_si (a : Int) b d e g h k
  have htl := Lib.hid (fun w => tell_any k hk (a : Int) b c d e f g h i w)
  have egk := enter_tell k hk
  obtain ⟨G, hGG⟩ : ∃ G, G = sG k := ⟨_, rfl⟩
  obtain ⟨F, hFF⟩ : ∃ F, F = sF k := ⟨_, rfl⟩
  rw [hv] at htl ⊢
  rw [← hGG] at htl egk
  have e0 : srOV (some k) = .agg #[Value.func (.func F) #[] #[], Value.func (.func G) #[] #[]] := by rw [hGG, hFF]; rfl
  have e1 : (some k : Option Nat).isSome = true := rfl
  clear hv hGG hFF hk
  go_enter Try.func33, Try.ntmps33
  go_wp2_with fail
  refine wp_scope_jump 1 fun R hR hG => ?_
  go_wp2_with fail
  refine (hla.out _).mono ?_
  rintro en w1 ⟨rfl, hb1⟩
  clear hla
  go_wp2_with fail
  obtain ⟨w2, hw2⟩ : ∃ w2, w2 = w1.alloc (.cells #[.int .i64 (a : Int), .int .i64 (b : Int), .bool c, .int .i64 (d : Int), .int .i64 (e : Int), .bool f, .int .i64 (g : Int), .int .i64 (h : Int), .bool i] 74) := ⟨_, rfl⟩
  have hs1 := hb1.size
  simp at hs1
  have R1 : Row w1 w.heap.size 36 [.int .i64 0, .int .i64 0, .int .i64 0, .int .i64 0] := (Row.new w 36 [.int .i64 0, .int .i64 0, .int .i64 0, .int .i64 0]).below hb1
  have B1 : Below w.heap.size w w1 := (below1 _ _).trans (hb1.mono (by simp))
  have R2 := R1.below (show Below w1.heap.size w1 w2 by rw [hw2]; exact below1 _ _)
  have B2 : Below w.heap.size w w2 := by rw [hw2]; exact B1.alloc B1.size _
  have L2 : Row w2 w1.heap.size 74 (lkC a b c d e f g h i) := by rw [hw2]; exact Row.new _ _ _
  rw [← hw2]
  clear hw2 hb1 R1 B1
  obtain ⟨lb, hlb⟩ : ∃ lb, lb = w1.heap.size := ⟨_, rfl⟩
  rw [← hlb] at L2 ⊢
  have hlbw : w.heap.size < lb := by omega
  clear hlb hs1
  refine (sorts_any _).mono ?_
  rintro en w3 ⟨rfl, h3⟩
  obtain ⟨sl, hsl⟩ : ∃ sl, sl = w2.heap.size := ⟨_, rfl⟩
  have b3 : Below w2.heap.size w2 w3 := by rw [h3]; exact below1 _ _
  have S3 : Row w3 sl 79 sortC := by rw [h3, hsl]; exact Row.new _ _ _
  rw [← hsl]
  clear h3
  go_wp2_with fail
  refine (values_any _ _ _ _).mono ?_
  rintro en w4 ⟨rfl, h4⟩
  obtain ⟨bx, hbx⟩ : ∃ bx, bx = w3.heap.size := ⟨_, rfl⟩
  have b4 : Below w3.heap.size w3 w4 := by rw [h4]; exact below1 _ _
  have T4 : Stands w4 bx sl := ⟨by rw [h4, hbx, hsl]; exact Row.new w3 85 [.slice (some ⟨w2.heap.size, 0, none⟩) 4 4], S3.below b4⟩
  rw [← hbx]
  have R4 := (R2.below b3).below b4
  have L4 := (L2.below b3).below b4
  have B4 : Below w.heap.size w w4 := (B2.trans (b3.mono B2.size)).trans (b4.mono (Nat.le_trans B2.size b3.size))
  clear h4 S3 hbx hsl b3 b4 R2 L2 B2
  go_wp2_with fail
  refine (first_any (fitL c i f (e : Int)) lb bx sl w4 T4 (fun k hk W hW => fit_any k hk a b c d e f g h i lb W (L4.below hW))).mono ?_
  rintro en w5 ⟨rfl, hb5⟩
  have R5 := R4.below hb5
  have L5 := L4.below hb5
  have B5 := B4.trans (hb5.mono B4.size)
  clear R4 L4 B4 hb5 T4
  rw [ho, e0, e1]
  clear e0 e1
  have hlt5 := L5.lt
  obtain ⟨w6, hw6⟩ : ∃ w6, w6 = w5.alloc (.cells #[Value.func (.func F) #[] #[], Value.func (.func G) #[] #[]] 79) := ⟨_, rfl⟩
  have L6 := L5.below (show Below w5.heap.size w5 w6 by rw [hw6]; exact below1 _ _)
  have R6 := R5.below (show Below w5.heap.size w5 w6 by rw [hw6]; exact below1 _ _)
  have B6 : Below w.heap.size w w6 := by rw [hw6]; exact B5.alloc B5.size _
  have l0 : w6.cell? ⟨lb, 0, none⟩ = _ := L6.cell 0
  have l1 : w6.cell? ⟨lb, 1, none⟩ = _ := L6.cell 1
  have l2 : w6.cell? ⟨lb, 2, none⟩ = _ := L6.cell 2
  have l3 : w6.cell? ⟨lb, 3, none⟩ = _ := L6.cell 3
  have l4 : w6.cell? ⟨lb, 4, none⟩ = _ := L6.cell 4
  have l5 : w6.cell? ⟨lb, 5, none⟩ = _ := L6.cell 5
  have l6 : w6.cell? ⟨lb, 6, none⟩ = _ := L6.cell 6
  have l7 : w6.cell? ⟨lb, 7, none⟩ = _ := L6.cell 7
  have l8 : w6.cell? ⟨lb, 8, none⟩ = _ := L6.cell 8
  rw [hw6] at l0 l1 l2 l3 l4 l5 l6 l7 l8
  clear hlt5 L5 R5 B5
  go_wp2_with fail
  refine (htl.out _).mono ?_
  rintro en w7 ⟨rfl, hb7⟩
  rw [← hw6] at hb7
  have R7 := R6.below hb7
  have B7 := B6.trans (hb7.mono B6.size)
  clear l0 l1 l2 l3 l4 l5 l6 l7 l8 hb7 R6 B6 L6 hw6
  have c0 : w7.cell? ⟨w.heap.size, 0, none⟩ = _ := R7.cell 0
  have c1 : w7.cell? ⟨w.heap.size, 1, none⟩ = _ := R7.cell 1
  have c2 : w7.cell? ⟨w.heap.size, 2, none⟩ = _ := R7.cell 2
  have c3 : w7.cell? ⟨w.heap.size, 3, none⟩ = _ := R7.cell 3
  have f0 : w7.frozen? ⟨w.heap.size, 0, none⟩ = false := R7.frozen 0
  have f1 : w7.frozen? ⟨w.heap.size, 1, none⟩ = false := R7.frozen 1
  have f2 : w7.frozen? ⟨w.heap.size, 2, none⟩ = false := R7.frozen 2
  have f3 : w7.frozen? ⟨w.heap.size, 3, none⟩ = false := R7.frozen 3
  have HR := Lib.hid R7
  have HB := Lib.hid B7
  clear R7 B7
  go_wp2
  refine hR.out _ _ _ _ (by simp) ?_
  have R8 := row_set4 (.int .i64 x) (.int .i64 y) (.int .i64 z) (.int .i64 t) HR.out
  have B8 := below_set4 (b := w.heap.size) (.int .i64 x) (.int .i64 y) (.int .i64 z) (.int .i64 t) HB.out (Nat.le_refl _)
  clear c0 c1 c2 c3 f0 f1 f2 f3
  have d0 : World.cell? _ ⟨w.heap.size, 0, none⟩ = _ := R8.cell 0
  have d1 : World.cell? _ ⟨w.heap.size, 1, none⟩ = _ := R8.cell 1
  have d2 : World.cell? _ ⟨w.heap.size, 2, none⟩ = _ := R8.cell 2
  have d3 : World.cell? _ ⟨w.heap.size, 3, none⟩ = _ := R8.cell 3
  exact bodyPost_ret (v := siV x y z t) (by simp [results, Try.results33, go_sem, d0, d1, d2, d3]) rfl ⟨rfl, B8⟩
theorem siteOf_any (n : Nat) (w : World) (hn : n < 1000000) : Calls Try.prog 33 #[.int .i64 (n : Int)] w fun en w' => en = .returned (siteV n) ∧ Below w.heap.size w w' := by
  rcases h : srO (holdN n) with _ | k
  · exact siteOf_none n w hn h
  · exact siteOf_some n k w hn h
end Go.Proofs.Ytkfljominljliaa
