import Derived.Test.YtfmbfojlopibnaaDoorNum
namespace Go.Proofs.YtfmbfojlopibnaaDoor
open Go.RowKit

/-- the number that bytes say, the lowest ahead -/
def leVal : List UInt8 → Nat
  | [] => 0
  | b :: l => b.toNat + 256 * leVal l

theorem wrap_u64 (n : Nat) (h : n < 18446744073709551616) : IntKind.u64.wrap (n : Int) = (n : Int) := by
  simp [IntKind.wrap, IntKind.bits, IntKind.signed]
  omega
theorem leVal_snoc : ∀ (l : List UInt8) (b : UInt8), leVal (l ++ [b]) = leVal l + b.toNat * 2 ^ (8 * l.length)
  | [], b => by simp [leVal]
  | c :: l, b => by
    simp only [List.cons_append, leVal, leVal_snoc l b, List.length_cons]
    rw [show 8 * (l.length + 1) = 8 + 8 * l.length by omega, Nat.pow_add, Nat.mul_add]
    have : b.toNat * (2 ^ 8 * 2 ^ (8 * l.length)) = 256 * (b.toNat * 2 ^ (8 * l.length)) := by
      rw [Nat.mul_left_comm]
    omega
theorem leVal_lt : ∀ (l : List UInt8), leVal l < 2 ^ (8 * l.length)
  | [] => by simp [leVal]
  | b :: l => by
    have h := leVal_lt l
    have hb := b.toNat_lt
    simp only [leVal, List.length_cons]
    rw [show 8 * (l.length + 1) = 8 + 8 * l.length by omega, Nat.pow_add]
    omega
theorem pow_le8 {k : Nat} (h : k ≤ 8) : 2 ^ (8 * k) ≤ 18446744073709551616 := by
  have : 2 ^ (8 * k) ≤ 2 ^ 64 := Nat.pow_le_pow_right (by omega) (by omega)
  simpa using this
theorem or_step {l : List UInt8} {k : Nat} (h8 : l.length ≤ 8) (hk : k < l.length) :
    bits .or .u64 (leVal (l.take k)) (IntKind.u64.wrap (IntKind.u64.wrap (l[k].toNat : Int) * 2 ^ (8 * k))) = (leVal (l.take (k + 1)) : Int) := by
  have hb : l[k].toNat < 256 := l[k].toNat_lt
  have hl : (l.take k).length = k := by simp; omega
  have h1 := leVal_lt (l.take k)
  have h3 := leVal_lt (l.take (k + 1))
  rw [hl] at h1
  rw [show (l.take (k + 1)).length = k + 1 by simp; omega] at h3
  have h4 := pow_le8 (k := k + 1) (by omega)
  have h5 := pow_le8 (k := k) (by omega)
  rw [List.take_succ_eq_append_getElem hk, leVal_snoc, hl] at h3 ⊢
  rw [wrap_u64 _ (by omega)]
  have e : (l[k].toNat : Int) * 2 ^ (8 * k) = ((l[k].toNat * 2 ^ (8 * k) : Nat) : Int) := by simp
  rw [e, wrap_u64 _ (by omega), u64_or_nat _ _ (by omega) (by omega), Nat.or_comm, nat_join (8 * k) _ _ (by simp) h1]
  congr 1
  omega

set_option maxHeartbeats 1000000 in
theorem get_arg (n c : Nat) (A : Option Addr) (w : World) (ht : Tab w) (hk : wid n = false) : Calls Tryd.prog 56 #[.slice A n c] w fun e w' => e = .returned (.tuple #[.int .u64 0, .int .i64 2]) ∧ Below w.heap.size w w' := by
  have Hk := Lib.hid hk
  clear hk
  go_enter Tryd.func56, Tryd.ntmps56
  go_wp2_with fail
  refine wp_scope_jump 1 fun R hR hJ => ?_
  go_wp2_with fail
  refine (numberOf_any _ _ _).mono ?_
  rintro e w1 ⟨rfl, hb1⟩
  have ht1 := ht.below hb1
  go_wp2_with fail
  refine (wknown_any _ _ (ht1.alloc _)).mono ?_
  rintro e w2 ⟨rfl, rfl⟩
  rw [Hk.out]
  go_wp2_with fail
  refine wp_goto (hJ.out _ _ _ _ _ rfl ?_)
  go_wp2
  refine hR.out _ _ _ _ (by simp) ?_
  go_ret2
  exact ⟨rfl, hb1.alloc hb1.size _⟩

set_option maxHeartbeats 1000000 in
theorem get_ok (l : List UInt8) (n c B : Nat) (A : Option Addr) (w : World) (ht : Tab w) (hn : l.length = n) (hk : wid n = true) (hr : Sees w B A (byt l)) (hB : B ≤ w.heap.size) : Calls Tryd.prog 56 #[.slice A n c] w fun e w' => e = .returned (.tuple #[.int .u64 (leVal l), .int .i64 0]) ∧ Below w.heap.size w w' := by
  have hk8 : n ≤ 8 := by have := wid_cases hk; omega
  have Hk := Lib.hid hk
  clear hk
  subst hn
  go_enter Tryd.func56, Tryd.ntmps56
  go_wp2_with fail
  refine wp_scope_jump 1 fun R hR hJ => ?_
  go_wp2_with fail
  refine (numberOf_any _ _ _).mono ?_
  rintro e w1 ⟨rfl, hb1⟩
  have ht1 := ht.below hb1
  go_wp2_with fail
  refine (wknown_any _ _ (ht1.alloc _)).mono ?_
  rintro e w2 ⟨rfl, rfl⟩
  rw [Hk.out]
  go_wp2_with fail
  have hs := hb1.size
  have hr1 : Sees (w1.alloc (.cells #[.int .i64 l.length, .int .u64 0] 116)) B A (byt l) := (hr.below (hb1.mono hB)).alloc (by omega) _
  have hb2 : Below w.heap.size w (w1.alloc (.cells #[.int .i64 l.length, .int .u64 0] 116)) := hb1.alloc hb1.size _
  obtain ⟨w2, hw2⟩ : ∃ w2, w2 = w1.alloc (.cells #[.int .i64 l.length, .int .u64 0] 116) := ⟨_, rfl⟩
  have hx : w2.cell? ⟨w1.heap.size, 1, none⟩ = some (.int .u64 0) := by rw [hw2]; exact cell_alloc_new _ _ _ _
  have hf : w2.frozen? ⟨w1.heap.size, 1, none⟩ = false := by rw [hw2]; exact frozen_alloc_new _ _ _ _
  have hw2s : w1.heap.size < w2.heap.size := by rw [hw2]; simp
  rw [← hw2] at hr1 hb2 ⊢
  clear hw2
  go_loopw [16] (fun i wr => ∃ k : Nat, k ≤ l.length ∧ i = .int .i64 k ∧ wr.cell? ⟨w1.heap.size, 1, none⟩ = some (.int .u64 (leVal (l.take k))) ∧ wr.frozen? ⟨w1.heap.size, 1, none⟩ = false ∧ Sees wr B A (byt l) ∧ Below w.heap.size w wr) (fun i _ => l.length - (intOf i).toNat)
  case atStart => exact ⟨0, Nat.zero_le _, rfl, hx, hf, hr1, hb2⟩
  case round =>
    obtain ⟨k, hk, rfl, hx, hf, hr, hb⟩ := hrel
    by_cases hlt : k < l.length
    · obtain ⟨ad, rfl, _, hc⟩ := hr.byte hlt
      go_wp2
      go_region
      rw [or_step hk8 hlt]
      go_wp2
      go_roundw
      case rel => exact ⟨k + 1, by omega, by go_num, World.cell?_setCell_same' _ _ _ (by rw [hx]; rfl), by rw [← hf]; exact World.frozen?_setCell _ _ _ _, (hr.setCell (by simp; omega) _).drew, (hb.setCell (by simp; omega) _).drew⟩
      case measure => simp [intOf]; omega
    · have hk' : l.length ≤ k := by omega
      have Hl : Hid (leVal (l.take k) = leVal l) := Lib.hid (by rw [List.take_of_length_le hk'])
      go_wp2
      refine hR.out _ _ _ _ (by simp) ?_
      go_ret2
      exact ⟨by rw [← Hl.out]; rfl, hb⟩
end Go.Proofs.YtfmbfojlopibnaaDoor
