import Derived.Test.YtbgpdahoochkiaaDoorA
namespace Go.Proofs.YtbgpdahoochkiaaDoor
open Go.RowKit

set_option maxHeartbeats 400000 in
theorem place_any (l : List UInt8) (n c : Nat) (A : Option Addr) (B : Nat) (w : World) (hn : l.length = n) (hm : n ≤ 9223372036854775807) (hr : Sees w B A (byt l)) :
    Calls Tryd.prog 29 #[.slice A n c, .func (.func 30) #[] #[]] w fun e w' => e = .returned (.int .i64 (nz l 0)) ∧ w = w' := by
  subst hn
  go_enter Tryd.func29, Tryd.ntmps29
  go_wp2
  go_loop [9] (fun i => ∃ k : Nat, k ≤ l.length ∧ i = .int .i64 k ∧ Hid (nz l 0 = nz (l.drop k) k)) (fun i => l.length - (intOf i).toNat)
  case atStart => exact ⟨0, Nat.zero_le _, rfl, rfl⟩
  case round =>
    obtain ⟨k, hk, rfl, H⟩ := hrel
    by_cases hlt : k < l.length
    · obtain ⟨ad, rfl, _, hc⟩ := hr.byte hlt
      by_cases hz : ((l[k].toNat : Int) != 0) = true
      · go_wp2_with (go_at_call 30; refine (first1_any _ _).mono ?_; rintro e w' ⟨rfl, rfl⟩)
        go_ret
        exact ⟨by rw [nz_here hlt (ne0 hz) H.out]; rfl, rfl⟩
      · rw [Bool.not_eq_true] at hz
        go_wp2_with (go_at_call 30; refine (first1_any _ _).mono ?_; rintro e w' ⟨rfl, rfl⟩)
        go_round
        case rel => exact ⟨k + 1, by omega, by go_num, nz_step hlt (eq0 hz) H.out⟩
        case measure => simp [intOf]; omega
    · go_wp2
      go_ret
      exact ⟨by rw [nz_end (by omega) H.out]; rfl, rfl⟩

theorem first_any (l : List UInt8) (n c : Nat) (A : Option Addr) (B : Nat) (w : World) (hn : l.length = n) (hm : n ≤ 9223372036854775807) (hr : Sees w B A (byt l)) :
    Calls Tryd.prog 17 #[.slice A n c] w fun e w' => e = .returned (.int .i64 (nz l 0)) ∧ w = w' := by
  go_enter Tryd.func17, Tryd.ntmps17
  go_wp2_with (go_at_call 29; refine (place_any l _ _ _ B _ hn hm hr).mono ?_; rintro e w' ⟨rfl, rfl⟩)
  go_ret
  exact ⟨rfl, rfl⟩

theorem zero_any (l : List UInt8) (n c : Nat) (A : Option Addr) (B : Nat) (w : World) (hn : l.length = n) (hm : n ≤ 9223372036854775807) (hr : Sees w B A (byt l)) :
    Calls Tryd.prog 19 #[.slice A n c] w fun e w' => e = .returned (.bool (decide (nz l 0 < 0))) ∧ w = w' := by
  go_enter Tryd.func19, Tryd.ntmps19
  go_wp2_with (go_at_call 17; refine (first_any l _ _ _ B _ hn hm hr).mono ?_; rintro e w' ⟨rfl, rfl⟩)
  go_ret
  exact ⟨rfl, rfl⟩
end Go.Proofs.YtbgpdahoochkiaaDoor
