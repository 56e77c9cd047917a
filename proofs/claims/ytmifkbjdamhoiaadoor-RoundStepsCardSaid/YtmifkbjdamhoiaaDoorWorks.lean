import Derived.Test.YtmifkbjdamhoiaaDoorRef
namespace Go.Proofs.YtmifkbjdamhoiaaDoor
open Go.RowKit

theorem sees_nums (w : World) (l : List Nat) (t : TypeId) {g : Nat} (hg : w.heap.size = g) : Sees (w.alloc (.cells (nums l).toArray t)) (g + 1) (some ⟨g, 0, none⟩) (nums l) := fun _ =>
  ⟨_, rfl, Nat.lt_succ_self _, fun j u hu => by subst hg; rw [add_plain, Nat.zero_add, cell_alloc_new]; simpa using hu⟩

theorem add_lit (l : List Nat) (cs : Array Value) (t : TypeId) (n g : Nat) (a b : Int) (w : World) (hg : w.heap.size = g) (hc : cs = (nums l).toArray) (hn : l.length = n) (hm : n ≤ 900) (hl : Fits l) (ha : (tellN (sumL l) : Int) = a) (hb : tellE (sumL l) = b) :
    Calls Tryd.prog 9 #[.slice (some ⟨g, 0, none⟩) n n] (w.alloc (.cells cs t)) fun e w' => e = .returned (.tuple #[.int .u64 a, .int .i64 b]) ∧ Below w.heap.size w w' := by
  subst hc ha hb hg
  exact (add_any l n n _ _ hn hm hl (by simpa using sees_nums w l t rfl)).mono fun e w' ⟨he, hbl⟩ => ⟨he, (below1 w _).trans (hbl.mono (by simp))⟩
theorem mul_lit (l : List Nat) (cs : Array Value) (t : TypeId) (n g : Nat) (a b : Int) (w : World) (hg : w.heap.size = g) (hc : cs = (nums l).toArray) (hn : l.length = n) (hm : n ≤ 900) (hl : Fits l) (ha : (tellN (prodL l) : Int) = a) (hb : tellE (prodL l) = b) :
    Calls Tryd.prog 10 #[.slice (some ⟨g, 0, none⟩) n n] (w.alloc (.cells cs t)) fun e w' => e = .returned (.tuple #[.int .u64 a, .int .i64 b]) ∧ Below w.heap.size w w' := by
  subst hc ha hb hg
  exact (mul_any l n n _ _ hn hm hl (by simpa using sees_nums w l t rfl)).mono fun e w' ⟨he, hbl⟩ => ⟨he, (below1 w _).trans (hbl.mono (by simp))⟩
theorem up_lit (n s : Nat) (ni si a b : Int) (w : World) (h1 : (n : Int) = ni) (h2 : (s : Int) = si) (hs : 0 < s) (hs2 : s < 18446744073709551616) (hn : n < 18446744073709551616) (ha : (upN s n : Int) = a) (hb : upE s n = b) :
    Calls Tryd.prog 14 #[.int .u64 ni, .int .u64 si] w fun e w' => e = .returned (.tuple #[.int .u64 a, .int .i64 b]) ∧ Below w.heap.size w w' := by
  subst h1 h2 ha hb
  exact up_ok n s w hs hs2 hn
theorem down_lit (n s : Nat) (ni si a : Int) (w : World) (h1 : (n : Int) = ni) (h2 : (s : Int) = si) (hs : 0 < s) (hn : n < 18446744073709551616) (ha : ((n - n % s : Nat) : Int) = a) :
    Calls Tryd.prog 15 #[.int .u64 ni, .int .u64 si] w fun e w' => e = .returned (.tuple #[.int .u64 a, .int .i64 0]) ∧ Below w.heap.size w w' := by
  subst h1 h2 ha
  exact down_ok n s w hs hn
theorem many_lit (n s : Nat) (ni si a : Int) (w : World) (h1 : (n : Int) = ni) (h2 : (s : Int) = si) (hs : 0 < s) (hn : n < 18446744073709551616) (ha : (manyN s n : Int) = a) :
    Calls Tryd.prog 16 #[.int .u64 ni, .int .u64 si] w fun e w' => e = .returned (.tuple #[.int .u64 a, .int .i64 0]) ∧ Below w.heap.size w w' := by
  subst h1 h2 ha
  exact many_ok n s w hs hn
theorem log8 (w : World) (ht : Tab w) : Calls Tryd.prog 20 #[.int .u64 8] w fun e w' => e = .returned (.tuple #[.int .i64 3, .int .i64 0]) ∧ w = w' :=
  log_yes 3 w (by omega) ht
theorem log6 (w : World) : Calls Tryd.prog 20 #[.int .u64 6] w fun e w' => e = .returned (.tuple #[.int .i64 0, .int .i64 2]) ∧ w = w' :=
  log_no 6 w (by omega) (by kernel_rfl)

set_option maxRecDepth 100000 in
set_option maxHeartbeats 1000000 in
theorem works_any (w : World) (ht : Tab w) : Calls Tryd.prog 8 #[] w fun e w' => e = .returned (.bool true) ∧ Below w.heap.size w w' := by
  go_enter Tryd.func8, Tryd.ntmps8
  go_wp2_with fail
  refine (add_lit [18446744073709551615, 1] _ _ 2 _ 0 120 w rfl rfl rfl (by omega) (by unfold Fits; decide) (by kernel_rfl) (by kernel_rfl)).mono ?_
  rintro e w1 ⟨rfl, hB1⟩
  go_wp2_with fail
  refine (mul_lit [4294967296, 4294967296] _ _ 2 _ 0 120 w1 rfl rfl rfl (by omega) (by unfold Fits; decide) (by kernel_rfl) (by kernel_rfl)).mono ?_
  rintro e w2 ⟨rfl, hb2⟩
  have hB2 := hB1.trans (hb2.mono hB1.size)
  clear hB1 hb2
  go_wp2_with fail
  refine (mul_lit [9223372036854775808, 2, 0] _ _ 3 _ 0 0 w2 rfl rfl rfl (by omega) (by unfold Fits; decide) (by kernel_rfl) (by kernel_rfl)).mono ?_
  rintro e w3 ⟨rfl, hb3⟩
  have hB3 := hB2.trans (hb3.mono hB2.size)
  clear hB2 hb3
  go_wp2_with fail
  refine (up_lit 17 16 _ _ 32 0 w3 rfl rfl (by omega) (by omega) (by omega) (by kernel_rfl) (by kernel_rfl)).mono ?_
  rintro e w4 ⟨rfl, hb4⟩
  have hB4 := hB3.trans (hb4.mono hB3.size)
  clear hB3 hb4
  go_wp2_with fail
  refine (down_lit 17 16 _ _ 16 w4 rfl rfl (by omega) (by omega) (by kernel_rfl)).mono ?_
  rintro e w5 ⟨rfl, hb5⟩
  have hB5 := hB4.trans (hb5.mono hB4.size)
  clear hB4 hb5
  go_wp2_with fail
  refine (many_lit 17 16 _ _ 2 w5 rfl rfl (by omega) (by omega) (by kernel_rfl)).mono ?_
  rintro e w6 ⟨rfl, hb6⟩
  have hB6 := hB5.trans (hb6.mono hB5.size)
  clear hB5 hb6
  go_wp2_with fail
  refine (up_lit 18446744073709551615 2 _ _ 0 120 w6 rfl rfl (by omega) (by omega) (by omega) (by kernel_rfl) (by kernel_rfl)).mono ?_
  rintro e w7 ⟨rfl, hb7⟩
  have hB7 := hB6.trans (hb7.mono hB6.size)
  have ht7 := ht.below hB7
  clear hB6 hb7
  go_wp2_with fail
  refine (log8 _ ht7).mono ?_
  rintro e w' ⟨rfl, rfl⟩
  go_wp2_with fail
  refine (log6 _).mono ?_
  rintro e w' ⟨rfl, rfl⟩
  go_wp2_with ((with_reducible refine (num_any _ _).mono ?_); rintro e w' ⟨rfl, rfl⟩)
  go_ret
  exact ⟨rfl, hB7⟩
end Go.Proofs.YtmifkbjdamhoiaaDoor
