import Derived.Test.YtfmbfojlopibnaaDoorGet
import Derived.Test.YtfmbfojlopibnaaDoorRefPut
namespace Go.Proofs.YtfmbfojlopibnaaDoor
open Go.RowKit

theorem refget_arg (n c : Nat) (A : Option Addr) (w : World) (hk : wid n = false) : Calls Tryd.prog 31 #[.slice A n c] w fun e w' => e = .returned (.tuple #[.int .u64 0, .int .i64 2]) ∧ w = w' := by
  have Hk := Lib.hid hk
  clear hk
  go_enter Tryd.func31, Tryd.ntmps31
  go_wp2_with fail
  refine (width_any _ _).mono ?_
  rintro e w2 ⟨rfl, rfl⟩
  rw [Hk.out]
  go_wp2
  go_ret2
  exact ⟨rfl, rfl⟩

theorem ri {k : IntKind} {a b : Int} (h : a = b) : Value.int k a = Value.int k b := by rw [h]

theorem shl_step {l : List UInt8} {j : Nat} (h8 : l.length ≤ 8) (hj : j < l.length) :
    bits .or .u64 (IntKind.u64.wrap ((leVal (l.drop (j + 1)) : Int) * 256)) (IntKind.u64.wrap (l[j].toNat : Int)) = (leVal (l.drop j) : Int) := by
  have hb : l[j].toNat < 256 := l[j].toNat_lt
  have h1 := leVal_lt (l.drop (j + 1))
  have h3 := leVal_lt (l.drop j)
  have h5 := pow_le8 (k := (l.drop j).length) (by simp; omega)
  rw [List.drop_eq_getElem_cons hj] at h3 h5 ⊢
  simp only [leVal] at h3 ⊢
  rw [wrap_u64 (l[j].toNat) (by omega), show (leVal (l.drop (j + 1)) : Int) * 256 = ((leVal (l.drop (j + 1)) * 256 : Nat) : Int) by simp, wrap_u64 _ (by omega), u64_or_nat _ _ (by omega) (by omega), nat_join 8 _ _ (by omega) (by omega)]
  congr 1
  omega

set_option maxHeartbeats 1000000 in
theorem refget_ok (l : List UInt8) (n c B : Nat) (A : Option Addr) (w : World) (hn : l.length = n) (hk : wid n = true) (hr : Sees w B A (byt l)) :
    Calls Tryd.prog 31 #[.slice A n c] w fun e w' => e = .returned (.tuple #[.int .u64 (leVal l), .int .i64 0]) ∧ w = w' := by
  have hk8 : n ≤ 8 ∧ 1 ≤ n := by have := wid_cases hk; omega
  obtain ⟨hk8, hk1⟩ := hk8
  have Hk := Lib.hid hk
  clear hk
  subst hn
  go_enter Tryd.func31, Tryd.ntmps31
  go_wp2_with fail
  refine (width_any _ _).mono ?_
  rintro e w2 ⟨rfl, rfl⟩
  rw [Hk.out]
  go_wp2
  go_loop [4, 5] (fun x i => (∃ j : Nat, j < l.length ∧ i = .int .i64 j ∧ x = .int .u64 (leVal (l.drop (j + 1)))) ∨ (i = .int .i64 (-1) ∧ x = .int .u64 (leVal l))) (fun _ i => (intOf i + 1).toNat)
  case atStart => exact .inl ⟨l.length - 1, by omega, ri (by omega), by rw [show l.length - 1 + 1 = l.length by omega, List.drop_length]; rfl⟩
  case round =>
    rcases hrel with ⟨j, hj, rfl, rfl⟩ | ⟨rfl, rfl⟩
    · obtain ⟨ad, rfl, _, hc⟩ := hr.byte hj
      go_wp2
      go_round
      case rel =>
        by_cases h0 : j = 0
        · subst h0
          exact .inr ⟨rfl, by rw [shl_step hk8 hj]; rfl⟩
        · exact .inl ⟨j - 1, by omega, ri (by omega), by rw [shl_step hk8 hj, show j - 1 + 1 = j by omega]⟩
      case measure => simp [intOf]
    · go_wp2
      go_ret2
      exact ⟨rfl, rfl⟩
end Go.Proofs.YtfmbfojlopibnaaDoor
