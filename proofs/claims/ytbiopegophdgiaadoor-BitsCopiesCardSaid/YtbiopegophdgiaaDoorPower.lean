import Derived.Test.YtbiopegophdgiaaDoorEight
import Derived.Test.YtbiopegophdgiaaDoorNum
import Derived.Lib.TrailingZeros
import Derived.Lib.LaidTab
import Derived.IntWalk
namespace Go.Proofs.YtbiopegophdgiaaDoor
open Go.RowKit

theorem mask1 : mk 1 32 = 6148914691236517205 := by kernel_rfl
theorem mask2 : mk 2 16 = 3689348814741910323 := by kernel_rfl
theorem mask4 : mk 4 8 = 1085102592571150095 := by kernel_rfl

theorem andN (a m : Nat) (ha : a < 18446744073709551616) (hm : m < 18446744073709551616) : bits .and .u64 (a : Int) (m : Int) = ((a &&& m : Nat) : Int) := bits_and_u64_nat a m ha hm
theorem and_le (a m : Nat) : a &&& m ≤ m := Nat.and_le_right

/-- how many bits -/
def pop (x : Nat) : Nat := dsum 1 64 x

def p1 (x : Nat) : Nat := fold 1 32 x
def p2 (x : Nat) : Nat := fold 2 16 (p1 x)
def p3 (x : Nat) : Nat := fold3 8 (p2 x)
theorem p1_eq (x : Nat) : p1 x = (x / 2 &&& 6148914691236517205) + (x &&& 6148914691236517205) := by rw [p1, fold, mask1]
theorem p2_eq (x : Nat) : p2 x = (p1 x / 4 &&& 3689348814741910323) + (p1 x &&& 3689348814741910323) := by rw [p2, fold, mask2]
theorem p3_eq (x : Nat) : p3 x = (p2 x / 16 + p2 x) &&& 1085102592571150095 := by rw [p3, fold3, mask4]
theorem p1_lt (x : Nat) : p1 x ≤ 12297829382473034410 := by
  rw [p1_eq]; have := and_le (x / 2) 6148914691236517205; have := and_le x 6148914691236517205; omega
theorem p2_le (x : Nat) : p2 x ≤ 7378697629483820646 := by
  rw [p2_eq]; have := and_le (p1 x / 4) 3689348814741910323; have := and_le (p1 x) 3689348814741910323; omega
theorem p3_le (x : Nat) : p3 x ≤ 1085102592571150095 := by rw [p3_eq]; exact and_le _ _
theorem p3_sum (x : Nat) : dsum 8 8 (p3 x) = pop x ∧ dle 8 8 8 (p3 x) := by
  obtain ⟨a1, a2⟩ := fold_sum (k := 1) (D := 1) (by omega) (by decide) 32 x (dle_bits _ _)
  obtain ⟨b1, b2⟩ := fold_sum (k := 2) (D := 2) (by omega) (by decide) 16 _ a2
  obtain ⟨c1, c2⟩ := fold_sum (k := 4) (D := 4) (by omega) (by decide) 8 _ b2
  rw [← fold3_eq 8 _ b2] at c1 c2
  exact ⟨c1.trans (b1.trans a1), c2⟩

theorem and127 (q : Nat) (hq : q < 18446744073709551616) : bits .and .i64 (wrap64 (q : Int)) 127 = ((q % 128 : Nat) : Int) := by
  have h1 : (BitVec.ofInt 64 (wrap64 (q : Int))).toNat = q := by
    rw [BitVec.toNat_ofInt]
    unfold wrap64
    omega
  have h2 : (BitVec.ofInt 64 (127 : Int)).toNat = 127 := by decide
  show IntKind.i64.wrap ((BitVec.ofInt 64 (wrap64 (q : Int)) &&& BitVec.ofInt 64 127).toNat : Int) = _
  rw [BitVec.toNat_and, h1, h2, show (127 : Nat) = 2 ^ 7 - 1 from rfl, Nat.and_two_pow_sub_one_eq_mod, IntWalk.i64_in _ (by omega)]
theorem divK (a k : Nat) : (a : Int) / (k : Int) = ((a / k : Nat) : Int) := rfl
theorem addN (a b : Nat) : (a : Int) + (b : Int) = ((a + b : Nat) : Int) := (Int.natCast_add a b).symm

set_option maxHeartbeats 1000000 in
theorem ones_any (x : Nat) (w : World) (hx : x < 18446744073709551616) : Calls Tryd.prog 56 #[.int .u64 (x : Int)] w fun e w' => e = .returned (.int .i64 (pop x : Int)) ∧ w = w' := by
  have m1 : (6148914691236517205 : Nat) < 18446744073709551616 := by omega
  have m2 : (3689348814741910323 : Nat) < 18446744073709551616 := by omega
  have m3 : (1085102592571150095 : Nat) < 18446744073709551616 := by omega
  have l1 := p1_lt x
  have l2 := p2_le x
  have l3 := p3_le x
  have h1 : bits .and .u64 ((x : Int) / 2) 6148914691236517205 = ((x / 2 &&& 6148914691236517205 : Nat) : Int) := andN (x / 2) _ (by omega) m1
  have h2 : bits .and .u64 (x : Int) 6148914691236517205 = ((x &&& 6148914691236517205 : Nat) : Int) := andN x _ hx m1
  have h3 : IntKind.u64.wrap (((x / 2 &&& 6148914691236517205 : Nat) : Int) + ((x &&& 6148914691236517205 : Nat) : Int)) = (p1 x : Int) := by
    rw [addN, ← p1_eq, wrapN _ (by omega)]
  have h4 : bits .and .u64 ((p1 x : Int) / 4) 3689348814741910323 = ((p1 x / 4 &&& 3689348814741910323 : Nat) : Int) := andN (p1 x / 4) _ (by omega) m2
  have h5 : bits .and .u64 (p1 x : Int) 3689348814741910323 = ((p1 x &&& 3689348814741910323 : Nat) : Int) := andN (p1 x) _ (by omega) m2
  have h6 : IntKind.u64.wrap (((p1 x / 4 &&& 3689348814741910323 : Nat) : Int) + ((p1 x &&& 3689348814741910323 : Nat) : Int)) = (p2 x : Int) := by
    rw [addN, ← p2_eq, wrapN _ (by omega)]
  have h7 : IntKind.u64.wrap ((p2 x : Int) / 16 + (p2 x : Int)) = ((p2 x / 16 + p2 x : Nat) : Int) := wrapN (p2 x / 16 + p2 x) (by omega)
  have h8 : bits .and .u64 ((p2 x / 16 + p2 x : Nat) : Int) 1085102592571150095 = (p3 x : Int) := by
    rw [p3_eq]; exact andN (p2 x / 16 + p2 x) _ (by omega) m3
  obtain ⟨s1, s2⟩ := p3_sum x
  obtain ⟨b0, b1, b2, b3, b4⟩ := eight (y := p3 x) (P := pop x) (by omega) s1 s2
  have h9 : IntKind.u64.wrap ((p3 x : Int) + (p3 x : Int) / 256) = ((p3 x + p3 x / 256 : Nat) : Int) := wrapN (p3 x + p3 x / 256) b1
  obtain ⟨q1, hq1⟩ : ∃ q, q = p3 x + p3 x / 256 := ⟨_, rfl⟩
  rw [← hq1] at h9 b1 b2 b3 b4
  have h10 : IntKind.u64.wrap ((q1 : Int) + (q1 : Int) / 65536) = ((q1 + q1 / 65536 : Nat) : Int) := wrapN (q1 + q1 / 65536) b2
  obtain ⟨q2, hq2⟩ : ∃ q, q = q1 + q1 / 65536 := ⟨_, rfl⟩
  rw [← hq2] at h10 b2 b3 b4
  have h11 : IntKind.u64.wrap ((q2 : Int) + (q2 : Int) / 4294967296) = ((q2 + q2 / 4294967296 : Nat) : Int) := wrapN (q2 + q2 / 4294967296) b3
  obtain ⟨q3, hq3⟩ : ∃ q, q = q2 + q2 / 4294967296 := ⟨_, rfl⟩
  rw [← hq3] at h11 b3 b4
  have H := Lib.hid (And.intro h1 (And.intro h2 (And.intro h3 (And.intro h4 (And.intro h5 (And.intro h6 (And.intro h7 (And.intro h8 (And.intro h9 (And.intro h10 h11))))))))))
  have HB := Lib.hid (And.intro b0 (And.intro b3 b4))
  clear h1 h2 h3 h4 h5 h6 h7 h8 h9 h10 h11 b0 b1 b2 b3 b4 hq1 hq2 hq3 l1 l2 l3 m1 m2 m3 s1 s2
  go_enter Tryd.func56, Tryd.ntmps56
  go_wp2_with fail
  obtain ⟨h1, h2, h3, h4, h5, h6, h7, h8, h9, h10, h11⟩ := H.out
  simp only [h1, h2, h3, h4, h5, h6, h7, h8, h9, h10, h11]
  clear h1 h2 h3 h4 h5 h6 h7 h8 h9 h10 h11
  go_ret
  obtain ⟨b0, b3, b4⟩ := HB.out
  refine ⟨?_, rfl⟩
  show Ending.returned (.int .i64 (bits .and .i64 (wrap64 (q3 : Int)) 127)) = _
  rw [and127 q3 b3, b4]

theorem pow64 {k : Nat} (hk : k < 64) : 2 ^ k < 18446744073709551616 := (Nat.pow_lt_pow_right (by omega) hk : 2 ^ k < 2 ^ 64)

/-- is it a power of two? -/
def isPow (n : Nat) : Bool := pop n == 1
theorem isPow_iff {n : Nat} (hn : n < 18446744073709551616) : isPow n = true ↔ ∃ k, k < 64 ∧ n = 2 ^ k := by
  unfold isPow pop
  rw [beq_iff_eq]
  exact dsum_one 64 n hn

/-- the table's cells -/
def tabCells : Array Value := (Lib.deBruijn64tab.map fun k : Nat => Value.int .u8 (k : Int)).toArray
/-- the table stands in its block -/
def Tab (w : World) : Prop := ∃ t fr, w.heap[0]? = some (.cells tabCells t fr)
theorem Tab.lt {w : World} (h : Tab w) : 0 < w.heap.size := by
  obtain ⟨t, fr, h⟩ := h
  exact (Array.getElem?_eq_some_iff.1 h).1
theorem Tab.below {w w' : World} (h : Tab w) (hb : Below w.heap.size w w') : Tab w' := by
  have hl := h.lt
  obtain ⟨t, fr, h⟩ := h
  exact ⟨t, fr, (hb.block _ hl).trans h⟩
theorem Tab.alloc {w : World} (h : Tab w) (o : Obj) : Tab (w.alloc o) := h.below ((Below.refl _ _).alloc (Nat.le_refl _) _)
theorem Tab.drewN {w : World} (h : Tab w) (n : Nat) : Tab (w.drewN n) := h
theorem Tab.of {w : World} (h : Lib.TabIs Tryd.prog w "math/bits.deBruijn64tab" .u8 (Lib.deBruijn64tab.map fun k : Nat => (k : Int))) : Tab w := by
  unfold Lib.TabIs World.var? at h
  have hg : Tryd.prog.globalNamed "math/bits.deBruijn64tab" = some 0 := by kernel_rfl
  rw [hg] at h
  simp only [Option.bind_some] at h
  split at h
  · rename_i cs t fr hh
    simp only [Option.some.injEq] at h
    subst h
    exact ⟨t, fr, by rw [hh, tabCells, List.map_map]; rfl⟩
  · cases h
theorem Tab.cell {w : World} (h : Tab w) {j : Nat} (hj : j < 64) : w.cell? ⟨0, j, none⟩ = some (.int .u8 (Lib.deBruijn64tab.getD j 0 : Nat)) := by
  obtain ⟨t, fr, h⟩ := h
  rw [cell_of_row _ _ j _ t fr h]
  have hl : j < Lib.deBruijn64tab.length := hj
  simp [tabCells, List.getD, hl]

theorem tz_key (k : Nat) (hk : k < 64) :
    IntKind.u64.wrap (bits BinOp.and IntKind.u64 ((2 ^ k : Nat) : Int) (IntKind.u64.wrap (-((2 ^ k : Nat) : Int))) * 285870213051353865) / 288230376151711744 = ((2 ^ k * 285870213051353865 % 18446744073709551616 / 288230376151711744 : Nat) : Int) := by
  have hx : 2 ^ k < 18446744073709551616 := pow64 hk
  have h0 : 0 < 2 ^ k := Nat.pow_pos (by omega)
  have hlow : 2 ^ k &&& (18446744073709551616 - 2 ^ k) = 2 ^ k := by
    have := Lib.and_neg 64 k 0 (by simpa using hx)
    simpa using this
  have e1 : IntKind.u64.wrap (-((2 ^ k : Nat) : Int)) = ((18446744073709551616 - 2 ^ k : Nat) : Int) := by rw [IntKind.wrap_u64]; omega
  rw [e1, bits_and_u64_nat _ _ hx (by omega), hlow, IntKind.wrap_u64]
  omega

set_option maxHeartbeats 1000000 in
theorem tz_core (x k idx : Nat) (w : World) (hx0 : ((x : Int) == 0) = false)
    (key : IntKind.u64.wrap (bits BinOp.and IntKind.u64 (x : Int) (IntKind.u64.wrap (-(x : Int))) * 285870213051353865) / 288230376151711744 = (idx : Int))
    (hi : idx < 64) (hk : k < 64) (hcell : w.cell? ⟨0, idx, none⟩ = some (.int .u8 (k : Int))) :
    Calls Tryd.prog 49 #[.int .u64 (x : Int)] w fun e w' => e = .returned (.int .i64 (k : Int)) ∧ w = w' := by
  go_enter Tryd.func49, Tryd.ntmps49
  go_wp2_with (simp only [key])
  go_ret
  exact ⟨rfl, rfl⟩
theorem tz_any (k : Nat) (w : World) (hk : k < 64) (ht : Tab w) : Calls Tryd.prog 49 #[.int .u64 ((2 ^ k : Nat) : Int)] w fun e w' => e = .returned (.int .i64 (k : Int)) ∧ w = w' := by
  obtain ⟨hi, htab⟩ := Lib.deBruijn64_at _ hk
  have hcell := ht.cell hi
  rw [htab] at hcell
  have h0 : 0 < 2 ^ k := Nat.pow_pos (by omega)
  exact tz_core (2 ^ k) k _ w (beq_eq_false_iff_ne.2 (by omega)) (tz_key k hk) hi hk hcell

end Go.Proofs.YtbiopegophdgiaaDoor
