import Derived.Test.YtfmbfojlopibnaaDoorLawL
namespace Go.Proofs.YtfmbfojlopibnaaDoor
open Go.RowKit Go.Shelf
attribute [local go_sem] Oper.semAt_some

/- SEALBACK. -/

theorem xor8 (a b : Nat) (ha : a < 256) (hb : b < 256) : bits .xor .u8 (a : Int) (b : Int) = ((a ^^^ b : Nat) : Int) := by
  have h1 : (BitVec.ofInt 8 (a : Int)).toNat = a := by
    rw [BitVec.ofInt_natCast, BitVec.toNat_ofNat]; exact Nat.mod_eq_of_lt (by omega)
  have h2 : (BitVec.ofInt 8 (b : Int)).toNat = b := by
    rw [BitVec.ofInt_natCast, BitVec.toNat_ofNat]; exact Nat.mod_eq_of_lt (by omega)
  have hx : a ^^^ b < 2 ^ 8 := Nat.xor_lt_two_pow (by omega) (by omega)
  show IntKind.u8.wrap ((BitVec.ofInt 8 (a : Int) ^^^ BitVec.ofInt 8 (b : Int)).toNat : Int) = _
  rw [BitVec.toNat_xor, h1, h2, IntKind.wrap_u8]
  omega
theorem eq_tag (a b c d e f : Int) (w : World) : (Op.equalIn 10000 27 (.agg #[.int .i64 a, .int .i64 b, .int .u32 c]) (.agg #[.int .i64 d, .int .i64 e, .int .u32 f])).run Tryd.prog w = .ok (decide (a = d ∧ b = e ∧ c = f)) w := by
  have u1 := Tryd.underlying3
  have a1 := Tryd.isAgg3
  have z1 := Tryd.sizeOf3
  have u2 := Tryd.underlying23
  have a2 := Tryd.isAgg23
  have z2 := Tryd.sizeOf23
  rw [show (10000 : Nat) = 9999 + 1 from rfl, Op.equalIn]
  simp only [Sem.run_bind, run_underlying Tryd.underlying27, Result.andThen_ok]
  go_simp
  by_cases h1 : a = d <;> by_cases h2 : b = e <;> by_cases h3 : c = f <;> simp [h1, h2, h3]

section
variable (w : World) (k at_ : Nat) (c s c2 s2 : Int) (n n2 : Nat) (b0 b1 : Int)
/-- what the law keeps: place, both tags, the byte, the first tag -/
def BX (W : World) : Prop :=
  Row W w.heap.size 25 [.int .u64 (k : Int), .int .u32 (at_ : Int)] ∧ Row W (w.heap.size + 1) 49 [.int .i64 c, .int .i64 s, .int .u32 (n : Int), .int .i64 c2, .int .i64 s2, .int .u32 (n2 : Int)] ∧
    Row W (w.heap.size + 1 + 1) 50 [.int .i64 b0, .int .i64 b1] ∧ Row W (w.heap.size + 1 + 1 + 1) 27 [.int .i64 c, .int .i64 s, .int .u32 (n : Int)]
end
theorem BX.below {w : World} {k at_ : Nat} {c s c2 s2 : Int} {n n2 : Nat} {b0 b1 : Int} {W W' : World} (h : BX w k at_ c s c2 s2 n n2 b0 b1 W) (hb : Below W.heap.size W W') : BX w k at_ c s c2 s2 n n2 b0 b1 W' :=
  ⟨h.1.below hb, h.2.1.below hb, h.2.2.1.below hb, h.2.2.2.below hb⟩
theorem BX.new (w : World) (k at_ : Nat) (c s c2 s2 : Int) (n n2 : Nat) (b0 b1 : Int) : BX w k at_ c s c2 s2 n n2 b0 b1 ((((w.alloc (.cells #[.int .u64 (k : Int), .int .u32 (at_ : Int)] 25)).alloc (.cells #[.int .i64 c, .int .i64 s, .int .u32 (n : Int), .int .i64 c2, .int .i64 s2, .int .u32 (n2 : Int)] 49)).alloc (.cells #[.int .i64 b0, .int .i64 b1] 50)).alloc (.cells #[.int .i64 c, .int .i64 s, .int .u32 (n : Int)] 27)) :=
  ⟨(((Row.new _ _ _).below (below1 _ _)).below (below1 _ _)).below (below1 _ _), ((Row.new_at _ _ _ (by simp)).below (below1 _ _)).below (below1 _ _), (Row.new_at _ _ _ (by simp)).below (below1 _ _), Row.new_at _ _ _ (by simp)⟩

set_option maxHeartbeats 4000000 in
set_option maxRecDepth 100000 in
theorem back_no (k at_ : Nat) (c s c2 s2 : Int) (n n2 : Nat) (b0 b1 : Int) (w : World) (ht : Tab w) (hk : k < 18446744073709551616) (ha : at_ < 4294967296) (hok : okT c s = false) :
    Calls Tryd.prog 6 #[.agg #[.int .u64 (k : Int), .int .u32 (at_ : Int)], .agg #[.int .i64 c, .int .i64 s, .int .u32 (n : Int), .int .i64 c2, .int .i64 s2, .int .u32 (n2 : Int)], .agg #[.int .i64 b0, .int .i64 b1]] w fun e w' => e = .returned (.bool true) ∧ Below w.heap.size w w' := by
  obtain ⟨w0, hw0⟩ : ∃ w0, w0 = (((w.alloc (.cells #[.int .u64 (k : Int), .int .u32 (at_ : Int)] 25)).alloc (.cells #[.int .i64 c, .int .i64 s, .int .u32 (n : Int), .int .i64 c2, .int .i64 s2, .int .u32 (n2 : Int)] 49)).alloc (.cells #[.int .i64 b0, .int .i64 b1] 50)).alloc (.cells #[.int .i64 c, .int .i64 s, .int .u32 (n : Int)] 27) := ⟨_, rfl⟩
  have hB0 : Below w.heap.size w w0 := by rw [hw0]; exact (below3 _ _ _ _).alloc (by simp; omega) _
  have hx0 : BX w k at_ c s c2 s2 n n2 b0 b1 w0 := by rw [hw0]; exact BX.new _ _ _ _ _ _ _ _ _ _ _
  have hwk := Lib.hid (fun W (hB : Below w.heap.size w W) => (show Calls Tryd.prog 12 #[] W (fun e w' => e = .returned (.bool true) ∧ Below w.heap.size w w') from (works_any W (ht.below hB)).mono fun e W' ⟨h1, h2⟩ => ⟨h1, hB.trans (h2.mono hB.size)⟩))
  have p0 : w0.cell? ⟨w.heap.size, 0, none⟩ = some (.int .u64 (k : Int)) := hx0.1.cell 0
  have p1 : w0.cell? ⟨w.heap.size, 1, none⟩ = some (.int .u32 (at_ : Int)) := hx0.1.cell 1
  have t0 : w0.cell? ⟨w.heap.size + 1 + 1 + 1, 0, none⟩ = some (.int .i64 c) := hx0.2.2.2.cell 0
  have t1 : w0.cell? ⟨w.heap.size + 1 + 1 + 1, 1, none⟩ = some (.int .i64 s) := hx0.2.2.2.cell 1
  have t2 : w0.cell? ⟨w.heap.size + 1 + 1 + 1, 2, none⟩ = some (.int .u32 (n : Int)) := hx0.2.2.2.cell 2
  have h1 := Lib.hid (fun W => head_no k at_ c s n W hk ha hok)
  have h2 := Lib.hid (fun W => tail_no k at_ c s n W hk ha hok)
  clear hk ha hok ht
  rw [hw0] at p0 p1 t0 t1 t2
  have HW0 := Lib.hid hw0
  clear hw0
  go_enter Tryd.func6, Tryd.ntmps6
  go_wp2_with fail
  rw [← HW0.out]
  clear HW0 p0 p1 t0 t1 t2
  refine (h1.out _).mono ?_
  rintro e w1 ⟨rfl, hb⟩
  have hB1 := hB0.trans (hb.mono hB0.size)
  have hx1 := hx0.below hb
  clear hb hB0 hx0 
  have p0 : w1.cell? ⟨w.heap.size, 0, none⟩ = some (.int .u64 (k : Int)) := hx1.1.cell 0
  have p1 : w1.cell? ⟨w.heap.size, 1, none⟩ = some (.int .u32 (at_ : Int)) := hx1.1.cell 1
  have t0 : w1.cell? ⟨w.heap.size + 1 + 1 + 1, 0, none⟩ = some (.int .i64 c) := hx1.2.2.2.cell 0
  have t1 : w1.cell? ⟨w.heap.size + 1 + 1 + 1, 1, none⟩ = some (.int .i64 s) := hx1.2.2.2.cell 1
  have t2 : w1.cell? ⟨w.heap.size + 1 + 1 + 1, 2, none⟩ = some (.int .u32 (n : Int)) := hx1.2.2.2.cell 2
  go_wp2_with fail
  refine (h2.out _).mono ?_
  rintro e w2 ⟨rfl, hb⟩
  clear p0 p1 t0 t1 t2 h1 h2
  have hB2 := hB1.trans (hb.mono hB1.size)
  have hx2 := hx1.below hb
  clear hb hB1 hx1 
  go_wp2_with (go_at_call 11; refine (num_any _ _).mono ?_; rintro e w' ⟨rfl, rfl⟩)
  refine (hwk.out _ hB2).mono ?_
  rintro e w3 ⟨rfl, hB3⟩
  go_wp2_with fail
  go_ret
  exact ⟨rfl, hB3⟩
set_option maxHeartbeats 8000000 in
set_option maxRecDepth 100000 in
theorem back_one (k at_ c s n : Nat) (c2 s2 : Int) (n2 : Nat) (b0 b1 : Int) (w : World) (ht : Tab w) (hk : k < 18446744073709551616) (ha : at_ < 4294967296) (hc : c < 8) (hs : s ≤ 65535) (hn : n < 4294967296) (hok : okT c2 s2 = false) :
    Calls Tryd.prog 6 #[.agg #[.int .u64 (k : Int), .int .u32 (at_ : Int)], .agg #[.int .i64 (c : Int), .int .i64 (s : Int), .int .u32 (n : Int), .int .i64 c2, .int .i64 s2, .int .u32 (n2 : Int)], .agg #[.int .i64 b0, .int .i64 b1]] w fun e w' => e = .returned (.bool true) ∧ Below w.heap.size w w' := by
  obtain ⟨H, T, M⟩ := made_some k at_ c s n hk ha hc hs hn
  obtain ⟨w0, hw0⟩ : ∃ w0, w0 = (((w.alloc (.cells #[.int .u64 (k : Int), .int .u32 (at_ : Int)] 25)).alloc (.cells #[.int .i64 (c : Int), .int .i64 (s : Int), .int .u32 (n : Int), .int .i64 c2, .int .i64 s2, .int .u32 (n2 : Int)] 49)).alloc (.cells #[.int .i64 b0, .int .i64 b1] 50)).alloc (.cells #[.int .i64 (c : Int), .int .i64 (s : Int), .int .u32 (n : Int)] 27) := ⟨_, rfl⟩
  have hB0 : Below w.heap.size w w0 := by rw [hw0]; exact (below3 _ _ _ _).alloc (by simp; omega) _
  have hx0 : BX w k at_ c s c2 s2 n n2 b0 b1 w0 := by rw [hw0]; exact BX.new _ _ _ _ _ _ _ _ _ _ _
  have hwk := Lib.hid (fun W (hB : Below w.heap.size w W) => (show Calls Tryd.prog 12 #[] W (fun e w' => e = .returned (.bool true) ∧ Below w.heap.size w w') from (works_any W (ht.below hB)).mono fun e W' ⟨h1, h2⟩ => ⟨h1, hB.trans (h2.mono hB.size)⟩))
  have p0 : w0.cell? ⟨w.heap.size, 0, none⟩ = some (.int .u64 (k : Int)) := hx0.1.cell 0
  have p1 : w0.cell? ⟨w.heap.size, 1, none⟩ = some (.int .u32 (at_ : Int)) := hx0.1.cell 1
  have t0 : w0.cell? ⟨w.heap.size + 1 + 1 + 1, 0, none⟩ = some (.int .i64 (c : Int)) := hx0.2.2.2.cell 0
  have t1 : w0.cell? ⟨w.heap.size + 1 + 1 + 1, 1, none⟩ = some (.int .i64 (s : Int)) := hx0.2.2.2.cell 1
  have t2 : w0.cell? ⟨w.heap.size + 1 + 1 + 1, 2, none⟩ = some (.int .u32 (n : Int)) := hx0.2.2.2.cell 2
  have hs0 : w0.heap.size = w.heap.size + 4 := by rw [hw0]; simp
  have h1 := Lib.hid M.head
  have h2 := Lib.hid M.tail
  have h3 := Lib.hid M.opn
  have h4 := Lib.hid (fun A1 c1 A2 c2 W ht h1 h2 => M.look A1 c1 A2 c2 W H T M.hl M.tl ht h1 h2)
  have h5 := Lib.hid M.look
  have hHl := Lib.hid M.hl
  have hTl := Lib.hid M.tl
  have k1 := Lib.hid (fun W => head_no k at_ c2 s2 n2 W hk ha hok)
  simp only [if_true] at h4
  have HT := Lib.hid ht
  clear M hk ha hc hs hn ht
  rw [hw0] at p0 p1 t0 t1 t2
  have HW0 := Lib.hid hw0
  clear hw0
  go_enter Tryd.func6, Tryd.ntmps6
  go_wp2_with fail
  rw [← HW0.out]
  clear HW0 p0 p1 t0 t1 t2
  refine (h1.out _ (HT.out.below hB0)).mono ?_
  rintro e w1 ⟨v, rfl, ho1, hb⟩
  obtain ⟨g1, c1, rfl, hge1, hlt1⟩ := ho1.form (by decide)
  have hB1 := hB0.trans (hb.mono hB0.size)
  have hx1 := hx0.below hb
  clear hb hB0 hx0 
  have p0 : w1.cell? ⟨w.heap.size, 0, none⟩ = some (.int .u64 (k : Int)) := hx1.1.cell 0
  have p1 : w1.cell? ⟨w.heap.size, 1, none⟩ = some (.int .u32 (at_ : Int)) := hx1.1.cell 1
  have t0 : w1.cell? ⟨w.heap.size + 1 + 1 + 1, 0, none⟩ = some (.int .i64 (c : Int)) := hx1.2.2.2.cell 0
  have t1 : w1.cell? ⟨w.heap.size + 1 + 1 + 1, 1, none⟩ = some (.int .i64 (s : Int)) := hx1.2.2.2.cell 1
  have t2 : w1.cell? ⟨w.heap.size + 1 + 1 + 1, 2, none⟩ = some (.int .u32 (n : Int)) := hx1.2.2.2.cell 2
  go_wp2_with fail
  refine (h2.out _ (HT.out.below hB1)).mono ?_
  rintro e w2 ⟨v, rfl, hl2, hb⟩
  obtain ⟨g2, d2, rfl, hge2, hlt2⟩ := hl2.form (by decide)
  clear p0 p1 t0 t1 t2 h1 h2
  have hB2 := hB1.trans (hb.mono hB1.size)
  have hx2 := hx1.below hb
  have ho2 := own_below ho1 hb (Nat.le_refl _)
  clear hb hB1 hx1 ho1
  have p0 : w2.cell? ⟨w.heap.size, 0, none⟩ = some (.int .u64 (k : Int)) := hx2.1.cell 0
  have p1 : w2.cell? ⟨w.heap.size, 1, none⟩ = some (.int .u32 (at_ : Int)) := hx2.1.cell 1
  go_wp2_with (go_at_call 11; refine (num_any _ _).mono ?_; rintro e w' ⟨rfl, rfl⟩)
  refine (h3.out _ _ _ (HT.out.below hB2) (Sees.of_own ho2)).mono ?_
  rintro e w3 ⟨rfl, hb⟩
  clear p0 p1 h3
  have hB3 := hB2.trans (hb.mono hB2.size)
  have hx3 := hx2.below hb
  have ho3 := own_below ho2 hb (Nat.le_refl _)
  have hl3 := own_below hl2 hb (Nat.le_refl _)
  clear hb hB2 hx2 ho2 hl2
  obtain ⟨w4, hw4⟩ : ∃ w4, w4 = w3.alloc (.cells #[.int .i64 (c : Int), .int .i64 (s : Int), .int .u32 (n : Int)] 27) := ⟨_, rfl⟩
  have hb : Below w3.heap.size w3 w4 := by rw [hw4]; exact below1 _ _
  have hu4 : Row w4 w3.heap.size 27 [.int .i64 (c : Int), .int .i64 (s : Int), .int .u32 (n : Int)] := by rw [hw4]; exact Row.new _ _ _
  have hB4 := hB3.trans (hb.mono hB3.size)
  have hx4 := hx3.below hb
  have ho4 := own_below ho3 hb (Nat.le_refl _)
  have hl4 := own_below hl3 hb (Nat.le_refl _)
  clear hb hB3 hx3 ho3 hl3
  have p0 : w4.cell? ⟨w.heap.size, 0, none⟩ = some (.int .u64 (k : Int)) := hx4.1.cell 0
  have p1 : w4.cell? ⟨w.heap.size, 1, none⟩ = some (.int .u32 (at_ : Int)) := hx4.1.cell 1
  have t0 : w4.cell? ⟨w.heap.size + 1 + 1 + 1, 0, none⟩ = some (.int .i64 (c : Int)) := hx4.2.2.2.cell 0
  have t1 : w4.cell? ⟨w.heap.size + 1 + 1 + 1, 1, none⟩ = some (.int .i64 (s : Int)) := hx4.2.2.2.cell 1
  have t2 : w4.cell? ⟨w.heap.size + 1 + 1 + 1, 2, none⟩ = some (.int .u32 (n : Int)) := hx4.2.2.2.cell 2
  rw [hw4] at p0 p1 t0 t1 t2
  have HW4 := Lib.hid hw4
  clear hw4
  go_wp2_with fail
  rw [← HW4.out]
  refine (h4.out _ _ _ _ _ (HT.out.below hB4) (Sees.of_own ho4) (Sees.of_own hl4)).mono ?_
  rintro e w5 ⟨rfl, hb⟩
  have hu5 := hu4.below hb
  clear HW4 hu4 h4 p0 p1 t0 t1 t2
  have hB5 := hB4.trans (hb.mono hB4.size)
  have hx5 := hx4.below hb
  have ho5 := own_below ho4 hb (Nat.le_refl _)
  have hl5 := own_below hl4 hb (Nat.le_refl _)
  clear hb hB4 hx4 ho4 hl4
  have p0 : w5.cell? ⟨w.heap.size, 0, none⟩ = some (.int .u64 (k : Int)) := hx5.1.cell 0
  have p1 : w5.cell? ⟨w.heap.size, 1, none⟩ = some (.int .u32 (at_ : Int)) := hx5.1.cell 1
  have q3 : w5.cell? ⟨w.heap.size + 1, 3, none⟩ = some (.int .i64 c2) := hx5.2.1.cell 3
  have q4 : w5.cell? ⟨w.heap.size + 1, 4, none⟩ = some (.int .i64 s2) := hx5.2.1.cell 4
  have q5 : w5.cell? ⟨w.heap.size + 1, 5, none⟩ = some (.int .u32 (n2 : Int)) := hx5.2.1.cell 5
  have t0 : w5.cell? ⟨w.heap.size + 1 + 1 + 1, 0, none⟩ = some (.int .i64 (c : Int)) := hx5.2.2.2.cell 0
  have t1 : w5.cell? ⟨w.heap.size + 1 + 1 + 1, 1, none⟩ = some (.int .i64 (s : Int)) := hx5.2.2.2.cell 1
  have t2 : w5.cell? ⟨w.heap.size + 1 + 1 + 1, 2, none⟩ = some (.int .u32 (n : Int)) := hx5.2.2.2.cell 2
  have u0 : w5.cell? ⟨w3.heap.size, 0, none⟩ = some (.int .i64 (c : Int)) := hu5.cell 0
  have u1 : w5.cell? ⟨w3.heap.size, 1, none⟩ = some (.int .i64 (s : Int)) := hu5.cell 1
  have u2 : w5.cell? ⟨w3.heap.size, 2, none⟩ = some (.int .u32 (n : Int)) := hu5.cell 2
  clear hu5
  go_wp2_with (go_at_call 11; refine (num_any _ _).mono ?_; rintro e w' ⟨rfl, rfl⟩)
  clear u0 u1 u2
  refine (k1.out _).mono ?_
  rintro e w6 ⟨rfl, hb⟩
  clear k1 p0 p1 t0 t1 t2 q3 q4 q5
  have hB6 := hB5.trans (hb.mono hB5.size)
  have hx6 := hx5.below hb
  have ho6 := own_below ho5 hb (Nat.le_refl _)
  have hl6 := own_below hl5 hb (Nat.le_refl _)
  clear hb hB5 hx5 ho5 hl5
  have z0 : w6.cell? ⟨w.heap.size + 1 + 1, 0, none⟩ = some (.int .i64 b0) := hx6.2.2.1.cell 0
  have z1 : w6.cell? ⟨w.heap.size + 1 + 1, 1, none⟩ = some (.int .i64 b1) := hx6.2.2.1.cell 1
  go_wp2_with (go_at_call 11; refine (num_any _ _).mono ?_; rintro e w' ⟨rfl, rfl⟩)
  go_region_held3 (fun W => W.cell? ⟨w.heap.size + 1 + 1, 0, none⟩ = some (.int .i64 b0) ∧ W.cell? ⟨w.heap.size + 1 + 1, 1, none⟩ = some (.int .i64 b1)) (first | go_keep | trivial) (fail)
  obtain ⟨y, hy, hyl⟩ : ∃ y : Nat, IntKind.u8.wrap (bits BinOp.and IntKind.i64 b1 255) = (y : Int) ∧ y < 256 := by
    refine ⟨(IntKind.u8.wrap (bits BinOp.and IntKind.i64 b1 255)).toNat, ?_, ?_⟩ <;> (rw [IntKind.wrap_u8]; omega)
  rw [hy]
  obtain ⟨w7, hw7⟩ : ∃ w7, w7 = w6.drew := ⟨_, rfl⟩
  have hb : Below w6.heap.size w6 w7 := by rw [hw7]; exact (Below.refl _ _).drew
  rw [← hw7]
  clear hw7 hy z0 z1
  have hB7 := hB6.trans (hb.mono hB6.size)
  have hx7 := hx6.below hb
  have ho7 := own_below ho6 hb (Nat.le_refl _)
  have hl7 := own_below hl6 hb (Nat.le_refl _)
  clear hb hB6 hx6 ho6 hl6
  rcases (show b0 < 0 ∨ 31 < b0 ∨ (¬ b0 < 0 ∧ ¬ 31 < b0 ∧ y = 0) ∨ (¬ y = 0 ∧ ∃ j : Nat, b0 = j ∧ j < 16) ∨ (¬ y = 0 ∧ ∃ j : Nat, b0 = 16 + j ∧ j < 16) by
    by_cases h1 : b0 < 0
    · exact .inl h1
    by_cases h2 : 31 < b0
    · exact .inr (.inl h2)
    by_cases h3 : y = 0
    · exact .inr (.inr (.inl ⟨h1, h2, h3⟩))
    by_cases h4 : b0 < 16
    · exact .inr (.inr (.inr (.inl ⟨h3, b0.toNat, by omega, by omega⟩)))
    · exact .inr (.inr (.inr (.inr ⟨h3, (b0 - 16).toNat, by omega, by omega⟩)))) with h | h | ⟨h1, h2, rfl⟩ | ⟨hy0, j, rfl, hj⟩ | ⟨hy0, j, hbj, hj⟩
  · have e1 : decide (b0 < 0) = true := decide_eq_true h
    clear h hx7 ho7 hl7
    go_wp2_with fail
    refine (hwk.out _ hB7).mono ?_
    rintro e wz ⟨rfl, hBz⟩
    go_wp2_with fail
    go_ret
    exact ⟨rfl, hBz⟩
  · have e1 : decide (b0 < 0) = false := decide_eq_false (by omega)
    have e2 : decide (31 < b0) = true := decide_eq_true h
    clear h hx7 ho7 hl7
    go_wp2_with fail
    refine (hwk.out _ hB7).mono ?_
    rintro e wz ⟨rfl, hBz⟩
    go_wp2_with fail
    go_ret
    exact ⟨rfl, hBz⟩
  · have e1 : decide (b0 < 0) = false := decide_eq_false h1
    have e2 : decide (31 < b0) = false := decide_eq_false h2
    clear h1 h2 hx7 ho7 hl7
    go_wp2_with fail
    refine (hwk.out _ hB7).mono ?_
    rintro e wz ⟨rfl, hBz⟩
    go_wp2_with fail
    go_ret
    exact ⟨rfl, hBz⟩
  · have e1 : decide ((j : Int) < 0) = false := decide_eq_false (by omega)
    have e2 : decide (31 < (j : Int)) = false := decide_eq_false (by omega)
    have e3 : ((y : Int) == 0) = false := by simp [hy0]
    have e4 : decide ((j : Int) < 16) = true := decide_eq_true (by omega)
    have hjl : j < H.length := by rw [hHl.out]; exact hj
    have hcl : w7.cell? ⟨g1, j, none⟩ = some (.int .u8 (H[j].toNat : Int)) := by rw [ho7.cellAt j (by omega), byt_get hjl]
    have hfl := ho7.frozenAt j
    obtain ⟨b, hb⟩ : ∃ b, b = H[j] := ⟨_, rfl⟩
    have hbl := b.toNat_lt
    have hxl : b.toNat ^^^ y < 256 := Nat.xor_lt_two_pow (n := 8) (by omega) (by omega)
    obtain ⟨b', hb'⟩ : ∃ b' : UInt8, b' = UInt8.ofNat (b.toNat ^^^ y) := ⟨_, rfl⟩
    have hbn : b'.toNat = b.toNat ^^^ y := by rw [hb', UInt8.toNat_ofNat']; exact Nat.mod_eq_of_lt hxl
    have hxe : bits .xor .u8 (b.toNat : Int) (y : Int) = (b'.toNat : Int) := by rw [xor8 _ _ (by omega) (by omega), hbn]
    have hne : H.set j b' ≠ H := set_ne hjl (by
      rw [← hb]
      intro h
      have h2 : b'.toNat = b.toNat := congrArg UInt8.toNat h
      rw [hbn] at h2
      have h3 : b.toNat ^^^ (b.toNat ^^^ y) = b.toNat ^^^ b.toNat := by rw [h2]
      rw [← Nat.xor_assoc, Nat.xor_self, Nat.zero_xor] at h3
      omega)
    have hlen : (H.set j b').length = 16 := by rw [List.length_set]; exact hHl.out
    rw [← hb] at hcl
    obtain ⟨w8, hw8⟩ : ∃ w8, w8 = w7.setCell ⟨g1, j, none⟩ (.int .u8 (b'.toNat : Int)) := ⟨_, rfl⟩
    have hB8 : Below w.heap.size w w8 := by rw [hw8]; exact hB7.setCell (by simp; omega) _
    have hx8 : BX w k at_ c s c2 s2 n n2 (j : Int) b1 w8 := by
      have hh : ∀ q, q ≠ g1 → w8.heap[q]? = w7.heap[q]? := fun q hq => by rw [hw8]; exact heap_set hq
      exact ⟨hx7.1.same (hh _ (by omega)), hx7.2.1.same (hh _ (by omega)), hx7.2.2.1.same (hh _ (by omega)), hx7.2.2.2.same (hh _ (by omega))⟩
    have ho8 : w8.ownsRow w0.heap.size 5 1 (.slice (some ⟨g1, 0, none⟩) 16 c1) 16 (byt (H.set j b')) := by rw [hw8, byt_set]; exact (ho7.stored j _).1
    have hl8 : w8.ownsRow w1.heap.size 5 1 (.slice (some ⟨g2, 0, none⟩) 16 d2) 16 (byt T) := own_same hl7 (fun q hq => by
      simp only [Value.ownBlock, Option.some.injEq] at hq
      subst hq
      rw [hw8]
      exact heap_set (by omega))
    have k5 := Lib.hid (h5.out (some ⟨g1, 0, none⟩) c1 (some ⟨g2, 0, none⟩) d2 w8 (H.set j b') T hlen hTl.out (HT.out.below hB8) (Sees.of_own ho8) (Sees.of_own hl8))
    rw [if_neg hne] at k5
    have p0 : w8.cell? ⟨w.heap.size, 0, none⟩ = some (.int .u64 (k : Int)) := hx8.1.cell 0
    have p1 : w8.cell? ⟨w.heap.size, 1, none⟩ = some (.int .u32 (at_ : Int)) := hx8.1.cell 1
    have t0 : w8.cell? ⟨w.heap.size + 1 + 1 + 1, 0, none⟩ = some (.int .i64 (c : Int)) := hx8.2.2.2.cell 0
    have t1 : w8.cell? ⟨w.heap.size + 1 + 1 + 1, 1, none⟩ = some (.int .i64 (s : Int)) := hx8.2.2.2.cell 1
    have t2 : w8.cell? ⟨w.heap.size + 1 + 1 + 1, 2, none⟩ = some (.int .u32 (n : Int)) := hx8.2.2.2.cell 2
    rw [hw8] at p0 p1 t0 t1 t2
    have HW8 := Lib.hid hw8
    have i0 : (0 : Int) ≤ (j : Int) := by omega
    have i1 : (j : Int) < 16 := by omega
    clear hw8 hb hb' hbl hxl hbn hne hlen hx7 ho7 hl7 hB7 hx8 ho8 hl8 hjl
    go_wp2_with fail
    rw [← HW8.out]
    refine (k5.out).mono ?_
    rintro e w9 ⟨rfl, hb⟩
    have hB9 := hB8.trans (hb.mono hB8.size)
    clear p0 p1 t0 t1 t2 hcl hfl hxe HW8 hb k5
    go_wp2_with (go_at_call 11; refine (num_any _ _).mono ?_; rintro e w' ⟨rfl, rfl⟩)
    refine (hwk.out _ hB9).mono ?_
    rintro e wz ⟨rfl, hBz⟩
    go_wp2_with fail
    go_ret
    exact ⟨rfl, hBz⟩
  · have e1 : decide (b0 < 0) = false := decide_eq_false (by omega)
    have e2 : decide (31 < b0) = false := decide_eq_false (by omega)
    have e3 : ((y : Int) == 0) = false := by simp [hy0]
    have e4 : decide (b0 < 16) = false := decide_eq_false (by omega)
    have e5 : b0 - 16 = (j : Int) := by omega
    have e6 : IntKind.i64.wrap (j : Int) = (j : Int) := wrapI _ (by omega) (by omega)
    have e7 : IntKind.i64.wrap (b0 - 16) = (j : Int) := by rw [e5, e6]
    clear hbj
    have hjl : j < T.length := by rw [hTl.out]; exact hj
    have hcl : w7.cell? ⟨g2, j, none⟩ = some (.int .u8 (T[j].toNat : Int)) := by rw [hl7.cellAt j (by omega), byt_get hjl]
    have hfl := hl7.frozenAt j
    obtain ⟨b, hb⟩ : ∃ b, b = T[j] := ⟨_, rfl⟩
    have hbl := b.toNat_lt
    have hxl : b.toNat ^^^ y < 256 := Nat.xor_lt_two_pow (n := 8) (by omega) (by omega)
    obtain ⟨b', hb'⟩ : ∃ b' : UInt8, b' = UInt8.ofNat (b.toNat ^^^ y) := ⟨_, rfl⟩
    have hbn : b'.toNat = b.toNat ^^^ y := by rw [hb', UInt8.toNat_ofNat']; exact Nat.mod_eq_of_lt hxl
    have hxe : bits .xor .u8 (b.toNat : Int) (y : Int) = (b'.toNat : Int) := by rw [xor8 _ _ (by omega) (by omega), hbn]
    have hne : T.set j b' ≠ T := set_ne hjl (by
      rw [← hb]
      intro h
      have h2 : b'.toNat = b.toNat := congrArg UInt8.toNat h
      rw [hbn] at h2
      have h3 : b.toNat ^^^ (b.toNat ^^^ y) = b.toNat ^^^ b.toNat := by rw [h2]
      rw [← Nat.xor_assoc, Nat.xor_self, Nat.zero_xor] at h3
      omega)
    have hlen : (T.set j b').length = 16 := by rw [List.length_set]; exact hTl.out
    rw [← hb] at hcl
    obtain ⟨w8, hw8⟩ : ∃ w8, w8 = w7.setCell ⟨g2, j, none⟩ (.int .u8 (b'.toNat : Int)) := ⟨_, rfl⟩
    have hB8 : Below w.heap.size w w8 := by rw [hw8]; exact hB7.setCell (by simp; omega) _
    have hx8 : BX w k at_ c s c2 s2 n n2 b0 b1 w8 := by
      have hh : ∀ q, q ≠ g2 → w8.heap[q]? = w7.heap[q]? := fun q hq => by rw [hw8]; exact heap_set hq
      exact ⟨hx7.1.same (hh _ (by omega)), hx7.2.1.same (hh _ (by omega)), hx7.2.2.1.same (hh _ (by omega)), hx7.2.2.2.same (hh _ (by omega))⟩
    have hl8 : w8.ownsRow w1.heap.size 5 1 (.slice (some ⟨g2, 0, none⟩) 16 d2) 16 (byt (T.set j b')) := by rw [hw8, byt_set]; exact (hl7.stored j _).1
    have ho8 : w8.ownsRow w0.heap.size 5 1 (.slice (some ⟨g1, 0, none⟩) 16 c1) 16 (byt H) := own_same ho7 (fun q hq => by
      simp only [Value.ownBlock, Option.some.injEq] at hq
      subst hq
      rw [hw8]
      exact heap_set (by omega))
    have k5 := Lib.hid (h5.out (some ⟨g1, 0, none⟩) c1 (some ⟨g2, 0, none⟩) d2 w8 H (T.set j b') hHl.out hlen (HT.out.below hB8) (Sees.of_own ho8) (Sees.of_own hl8))
    rw [if_pos rfl, if_neg hne] at k5
    have p0 : w8.cell? ⟨w.heap.size, 0, none⟩ = some (.int .u64 (k : Int)) := hx8.1.cell 0
    have p1 : w8.cell? ⟨w.heap.size, 1, none⟩ = some (.int .u32 (at_ : Int)) := hx8.1.cell 1
    have t0 : w8.cell? ⟨w.heap.size + 1 + 1 + 1, 0, none⟩ = some (.int .i64 (c : Int)) := hx8.2.2.2.cell 0
    have t1 : w8.cell? ⟨w.heap.size + 1 + 1 + 1, 1, none⟩ = some (.int .i64 (s : Int)) := hx8.2.2.2.cell 1
    have t2 : w8.cell? ⟨w.heap.size + 1 + 1 + 1, 2, none⟩ = some (.int .u32 (n : Int)) := hx8.2.2.2.cell 2
    rw [hw8] at p0 p1 t0 t1 t2
    have HW8 := Lib.hid hw8
    have i0 : (0 : Int) ≤ (j : Int) := by omega
    have i1 : (j : Int) < 16 := by omega
    clear hw8 hb hb' hbl hxl hbn hne hlen hx7 ho7 hl7 hB7 hx8 ho8 hl8 hjl
    go_wp2_with fail
    rw [← HW8.out]
    refine (k5.out).mono ?_
    rintro e w9 ⟨rfl, hb⟩
    have hB9 := hB8.trans (hb.mono hB8.size)
    clear p0 p1 t0 t1 t2 hcl hfl hxe HW8 hb k5
    go_wp2_with (go_at_call 11; refine (num_any _ _).mono ?_; rintro e w' ⟨rfl, rfl⟩)
    refine (hwk.out _ hB9).mono ?_
    rintro e wz ⟨rfl, hBz⟩
    go_wp2_with fail
    go_ret
    exact ⟨rfl, hBz⟩
end Go.Proofs.YtfmbfojlopibnaaDoor
