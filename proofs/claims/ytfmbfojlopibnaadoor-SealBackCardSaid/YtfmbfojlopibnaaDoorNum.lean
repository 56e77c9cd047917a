import Derived.Test.YtfmbfojlopibnaaDoorTab
import Derived.BigQuiet
import Derived.Deep.QuietTactic
namespace Go.Proofs.YtfmbfojlopibnaaDoor
open Go.RowKit

set_option maxHeartbeats 400000 in
theorem numberOf_any (n k : Int) (w : World) : Calls Tryd.prog 72 #[.int .u64 n, .int .i64 k] w fun e w' => e = .returned (.agg #[.int .i64 k, .int .u64 n]) ∧ Below w.heap.size w w' := by
  go_enter Tryd.func72, Tryd.ntmps72
  go_wp2
  exact bodyPost_ret (v := .agg #[.int .i64 k, .int .u64 n]) (by simp [results, Tryd.results72, go_sem]) rfl ⟨rfl, ((Below.refl _ _).alloc (Nat.le_refl _) _)⟩

theorem top1 (w : World) : Calls Tryd.prog 87 #[.int .i64 1] w fun e w' => e = .returned (.int .u64 255) ∧ w = w' := by
  go_enter Tryd.func87, Tryd.ntmps87
  go_wp2
  go_ret
  exact ⟨rfl, rfl⟩
theorem top2 (w : World) : Calls Tryd.prog 87 #[.int .i64 2] w fun e w' => e = .returned (.int .u64 65535) ∧ w = w' := by
  go_enter Tryd.func87, Tryd.ntmps87
  go_wp2
  go_ret
  exact ⟨rfl, rfl⟩
theorem top4 (w : World) : Calls Tryd.prog 87 #[.int .i64 4] w fun e w' => e = .returned (.int .u64 4294967295) ∧ w = w' := by
  go_enter Tryd.func87, Tryd.ntmps87
  go_wp2
  go_ret
  exact ⟨rfl, rfl⟩
theorem top8 (w : World) : Calls Tryd.prog 87 #[.int .i64 8] w fun e w' => e = .returned (.int .u64 18446744073709551615) ∧ w = w' := by
  go_enter Tryd.func87, Tryd.ntmps87
  go_wp2
  go_ret
  exact ⟨rfl, rfl⟩

/-- the greatest number of a width -/
def topOf (k : Int) : Int := if k = 1 then 255 else if k = 2 then 65535 else if k = 4 then 4294967295 else 18446744073709551615
theorem wid_cases {k : Int} (h : wid k = true) : k = 1 ∨ k = 2 ∨ k = 4 ∨ k = 8 := by
  simp [wid] at h
  omega
theorem top_any (k : Int) (w : World) (h : wid k = true) : Calls Tryd.prog 87 #[.int .i64 k] w fun e w' => e = .returned (.int .u64 (topOf k)) ∧ w = w' := by
  rcases wid_cases h with rfl | rfl | rfl | rfl
  · exact top1 w
  · exact top2 w
  · exact top4 w
  · exact top8 w

set_option maxHeartbeats 400000 in
theorem fits_any (n k : Int) (w : World) (h : wid k = true) : Calls Tryd.prog 85 #[.agg #[.int .i64 k, .int .u64 n]] w fun e w' => e = .returned (.bool (decide (n ≤ topOf k))) ∧ Below w.heap.size w w' := by
  have ht : ∀ w : World, Hid (Calls Tryd.prog 87 #[.int .i64 k] w fun e w' => e = .returned (.int .u64 (topOf k)) ∧ w = w') := fun w => Lib.hid (top_any k w h)
  clear h
  go_enter Tryd.func85, Tryd.ntmps85
  go_wp2
  go_quiet ((go_at_call 87; exact quiet_l (ht _).out))
  go_wp2
  go_ret
  exact ⟨rfl, below_drewN ((Below.refl _ _).alloc (Nat.le_refl _) _) _⟩

/-- a number's bytes, the lowest ahead -/
def le : Nat → Nat → List UInt8
  | 0, _ => []
  | k + 1, n => UInt8.ofNat (n % 256) :: le k (n / 256)
theorem le_length : ∀ (k n : Nat), (le k n).length = k
  | 0, _ => rfl
  | k + 1, n => by simp [le, le_length k]
theorem le_get : ∀ (k n i : Nat) (h : i < k), (le k n)[i]'(by rw [le_length]; exact h) = UInt8.ofNat (n / 2 ^ (8 * i) % 256)
  | 0, _, i, h => absurd h (by omega)
  | k + 1, n, 0, _ => by simp [le]
  | k + 1, n, i + 1, h => by
    simp only [le, List.getElem_cons_succ]
    rw [le_get k (n / 256) i (by omega), Nat.div_div_eq_div_mul]
    congr 3
    rw [show 8 * (i + 1) = 8 + 8 * i by omega, Nat.pow_add]

theorem byte_info : (Tryd.prog.info? 5).map (fun i => (i.zero, i.size, i.bytes)) = some (some (.int .u8 0), 1, 1) := by kernel_rfl

theorem le_step {n k j : Nat} {xs : List Value} (_hk : k ≤ 8) (h : j < k) (hl : xs.length = k * 1) (H : xs.take j = byt ((le k n).take j)) :
    Hid ((xs.set j (.int .u8 ((n : Int) / 2 ^ (8 * j) % 256))).take (j + 1) = byt ((le k n).take (j + 1))) := by
  show _ = _
  rw [List.take_succ_eq_append_getElem (by simp; omega), List.getElem_set_self, List.take_set_of_le (Nat.le_refl _), H, List.take_succ_eq_append_getElem (by rw [le_length]; exact h), byt_append, le_get k n j h]
  simp [byt]
theorem le_end {n k j g cap : Nat} {xs : List Value} {w w' : World} (h : k ≤ j) (hl : xs.length = k * 1) (H : xs.take j = byt ((le k n).take j))
    (ho : w'.ownsRow (w.heap.size + 1) 5 1 (.slice (some ⟨g, 0, none⟩) k cap) k xs) : w'.ownsRow w.heap.size 5 1 (.slice (some ⟨g, 0, none⟩) k cap) k (byt (le k n)) := by
  rw [List.take_of_length_le (by omega), List.take_of_length_le (by rw [le_length]; exact h)] at H
  subst H
  obtain ⟨h1, h2 | ⟨g', c', cur, hv, hb, hr⟩⟩ := ho
  · exact ⟨h1, .inl h2⟩
  · exact ⟨h1, .inr ⟨g', c', cur, hv, by omega, hr⟩⟩

set_option maxHeartbeats 1000000 in
theorem bytes_any (n k : Nat) (w : World) (hk : k ≤ 8) : Calls Tryd.prog 86 #[.agg #[.int .i64 k, .int .u64 n]] w fun e w' => ∃ g cap, e = .returned (.slice (some ⟨g, 0, none⟩) k cap) ∧ w'.ownsRow w.heap.size 5 1 (.slice (some ⟨g, 0, none⟩) k cap) k (byt (le k n)) ∧ Below w.heap.size w w' := by
  obtain ⟨i0, hi, hz0, hz1, hz2⟩ := info_parts byte_info
  go_enter Tryd.func86, Tryd.ntmps86
  go_wp2_with (refine wpList_make_full _ rfl _ _ 28 rfl (w.heap.size + 1) 5 i0 _ 1 Tryd.underlying28 hi hz0 hz1 .i64 .i64 k k k rfl rfl rfl rfl (by rw [hz2]; omega) (by unfold maxLen; omega) (by simp) ?_; intro w1 hown1 hg1)
  have hbox : w1.cell? ⟨w.heap.size, 1, none⟩ = some (.int .u64 n) := by
    have := hg1.cell (a := ⟨w.heap.size, 1, none⟩) (v := .int .u64 n) (cell_alloc_new _ _ _ _) (by simp)
    exact this
  have hb1 : Below w.heap.size w w1 := ((Below.refl _ _).alloc (Nat.le_refl _) _).grown hg1 (by simp) (by simp)
  rw [World.size_alloc] at hown1
  clear hg1
  go_loopw [10] (fun i wr => ∃ (j : Nat) (xs : List Value), j ≤ k ∧ i = .int .i64 j ∧ wr.ownsRow (w.heap.size + 1) 5 1 (.slice (some ⟨w.heap.size + 1, 0, none⟩) k k) k xs ∧ Hid (xs.take j = byt ((le k n).take j)) ∧ wr.cell? ⟨w.heap.size, 1, none⟩ = some (.int .u64 n) ∧ Below w.heap.size w wr) (fun i _ => k - (intOf i).toNat)
  case atStart => exact ⟨0, _, Nat.zero_le _, rfl, hown1, rfl, hbox, hb1⟩
  case round =>
    obtain ⟨j, xs, hj, rfl, hown, H, hbx, hb⟩ := hrel
    have hlen := hown.1
    by_cases hlt : j < k
    · have hcx : wr.cell? ⟨w.heap.size + 1, j, none⟩ = some (xs.getD j undef) := by
        rw [hown.cellAt j (by omega)]
        simp [show j < xs.length by omega]
      have hfx := hown.frozenAt j
      go_wp2
      go_roundw
      case rel => exact ⟨j + 1, _, by omega, by go_num, (hown.stored j _).1, le_step hk hlt hlen H.out, (World.cell?_setCell_other _ _ _ _ (by simp)).trans hbx, hb.setCell (by simp) _⟩
      case measure => simp [intOf]; omega
    · go_wp2
      go_ret
      exact ⟨_, _, rfl, le_end (by omega) hlen H.out hown, hb⟩
end Go.Proofs.YtfmbfojlopibnaaDoor
