import Derived.Test.YtbgpdahoochkiaaDoorBase
namespace Go.Proofs.YtbgpdahoochkiaaDoor
open Go.RowKit

theorem num_any (n : Int) (w : World) : Calls Tryd.prog 11 #[.int .i64 n] w fun e w' => e = .returned (.int .i64 n) ∧ w = w' := by
  go_enter Tryd.func11, Tryd.ntmps11
  go_wp2
  go_ret
  exact ⟨rfl, rfl⟩

theorem first1_any (x : Int) (w : World) : Calls Tryd.prog 30 #[.int .u8 x] w fun e w' => e = .returned (.bool (x != 0)) ∧ w = w' := by
  go_enter Tryd.func30, Tryd.ntmps30
  go_wp2
  go_ret
  exact ⟨rfl, rfl⟩

/-- the first place of a byte that is not 0, from k on -/
def nz : List UInt8 → Nat → Int
  | [], _ => -1
  | b :: l, k => if b = 0 then nz l (k + 1) else (k : Int)

theorem nz_drop (l : List UInt8) (k : Nat) (h : k < l.length) : nz (l.drop k) k = if l[k] = 0 then nz (l.drop (k + 1)) (k + 1) else (k : Int) := by
  rw [List.drop_eq_getElem_cons h]
  rfl
theorem nz_step {l : List UInt8} {k : Nat} (h : k < l.length) (hz : l[k] = 0) (hk : nz l 0 = nz (l.drop k) k) : nz l 0 = nz (l.drop (k + 1)) (k + 1) := by
  rw [hk, nz_drop l k h, if_pos hz]
theorem nz_here {l : List UInt8} {k : Nat} (h : k < l.length) (hz : ¬ l[k] = 0) (hk : nz l 0 = nz (l.drop k) k) : nz l 0 = (k : Int) := by
  rw [hk, nz_drop l k h, if_neg hz]
theorem nz_end {l : List UInt8} {k : Nat} (h : l.length ≤ k) (hk : nz l 0 = nz (l.drop k) k) : nz l 0 = -1 := by
  rw [hk, List.drop_eq_nil_of_le h]
  rfl
theorem ne0 {b : UInt8} (h : ((b.toNat : Int) != 0) = true) : ¬ b = 0 := by
  rintro rfl
  simp at h
theorem eq0 {b : UInt8} (h : ((b.toNat : Int) != 0) = false) : b = 0 := by
  apply UInt8.toNat.inj
  simp at h
  simpa using h

set_option maxHeartbeats 400000 in
theorem reffirst_any (l : List UInt8) (n c : Nat) (A : Option Addr) (B : Nat) (w : World) (hn : l.length = n) (hm : n ≤ 9223372036854775807) (hr : Sees w B A (byt l)) :
    Calls Tryd.prog 18 #[.slice A n c] w fun e w' => e = .returned (.int .i64 (nz l 0)) ∧ w = w' := by
  subst hn
  go_enter Tryd.func18, Tryd.ntmps18
  go_wp2
  go_loop [3] (fun i => ∃ k : Nat, k ≤ l.length ∧ i = .int .i64 k ∧ Hid (nz l 0 = nz (l.drop k) k)) (fun i => l.length - (intOf i).toNat)
  case atStart => exact ⟨0, Nat.zero_le _, rfl, rfl⟩
  case round =>
    obtain ⟨k, hk, rfl, H⟩ := hrel
    by_cases hlt : k < l.length
    · obtain ⟨ad, rfl, _, hc⟩ := hr.byte hlt
      go_wp2
      · go_ret
        exact ⟨by rw [nz_here hlt (ne0 ‹_›) H.out]; rfl, rfl⟩
      · go_ways
        go_round
        case rel => exact ⟨k + 1, by omega, by go_num, nz_step hlt (eq0 ‹_›) H.out⟩
        case measure => simp [intOf]; omega
    · go_wp2
      go_ret
      exact ⟨by rw [nz_end (by omega) H.out]; rfl, rfl⟩
end Go.Proofs.YtbgpdahoochkiaaDoor
