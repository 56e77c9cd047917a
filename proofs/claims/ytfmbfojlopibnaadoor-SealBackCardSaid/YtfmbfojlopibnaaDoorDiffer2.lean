import Derived.Test.YtfmbfojlopibnaaDoorDiffer
namespace Go.Proofs.YtfmbfojlopibnaaDoor
open Go.RowKit

theorem df_min_end {l m : List UInt8} {k q : Nat} (hq : q = min l.length m.length) (hk : q ≤ k) (hk' : k ≤ q) (hne : ((l.length : Int) != (m.length : Int)) = true) (H : df l m 0 = df (l.drop k) (m.drop k) k) : df l m 0 = (q : Int) := by
  obtain rfl : k = q := by omega
  simp at hne
  by_cases h : l.length < m.length
  · exact df_left (by omega) (by omega) H
  · exact df_right (by omega) (by omega) H

set_option maxHeartbeats 2000000 in
theorem differ2_any (l m : List UInt8) (n c n' c' : Nat) (A A' : Option Addr) (B : Nat) (w : World) (hn : l.length = n) (hn' : m.length = n') (hm : n ≤ 140737488351232) (hm' : n' ≤ 140737488351232) (hr : Sees w B A (byt l)) (hr' : Sees w B A' (byt m)) :
    Calls Tryd.prog 79 #[.slice A n c, .slice A' n' c'] w fun e w' => e = .returned (.int .i64 (df l m 0)) ∧ Below w.heap.size w w' := by
  subst hn
  subst hn'
  have hmin : ∃ q : Nat, Hid (q = min l.length m.length) ∧ q ≤ l.length ∧ q ≤ m.length ∧ (q = l.length ∨ q = m.length) := ⟨min l.length m.length, rfl, by omega, by omega, by omega⟩
  obtain ⟨q, Hq, hq1, hq2, hq3⟩ := hmin
  rcases hq3 with rfl | rfl
  all_goals
    go_enter Tryd.func79, Tryd.ntmps79
    go_wp2
  all_goals
    go_loopw [13] (fun i wr => ∃ k : Nat, k ≤ l.length ∧ k ≤ m.length ∧ i = .int .i64 k ∧ Hid (df l m 0 = df (l.drop k) (m.drop k) k) ∧ Sees wr B A (byt l) ∧ Sees wr B A' (byt m) ∧ Below w.heap.size w wr) (fun i _ => l.length - (intOf i).toNat)
    case atStart => exact ⟨0, Nat.zero_le _, Nat.zero_le _, rfl, rfl, hr, hr', Below.refl _ _⟩
    case round =>
      obtain ⟨k, hk, hk', rfl, H, hr, hr', hb⟩ := hrel
      by_cases h1 : k < l.length ∧ k < m.length
      · obtain ⟨h1, h2⟩ := h1
        obtain ⟨ad, rfl, _, hc⟩ := hr.byte h1
        obtain ⟨ad', rfl, _, hc'⟩ := hr'.byte h2
        go_wp2
        go_quiet (fail)
        go_wp2
        · go_ret
          exact ⟨by rw [df_here h1 h2 ‹_› H.out]; rfl, below_drewN hb _⟩
        · go_roundw
          case rel => exact ⟨k + 1, by omega, by omega, by go_num, df_step h1 h2 ‹_› H.out, hr, hr', below_drewN hb _⟩
          case measure => simp [intOf]; omega
      · by_cases he : l.length = m.length
        · have hne : ((l.length : Int) != (m.length : Int)) = false := by simp [he]
          have he1 : l.length ≤ k := by omega
          have he2 : m.length ≤ k := by omega
          clear he
          go_wp2
          all_goals
            go_ret
            exact ⟨by rw [df_end he1 he2 H.out]; rfl, hb⟩
        · have hne : ((l.length : Int) != (m.length : Int)) = true := by simp; omega
          go_wp2
          all_goals
            go_ret
            exact ⟨by rw [df_min_end Hq.out (by omega) (by omega) hne H.out]; rfl, hb⟩

theorem differ_any (l m : List UInt8) (n c n' c' : Nat) (A A' : Option Addr) (B : Nat) (w : World) (hn : l.length = n) (hn' : m.length = n') (hm : n ≤ 140737488351232) (hm' : n' ≤ 140737488351232) (hr : Sees w B A (byt l)) (hr' : Sees w B A' (byt m)) :
    Calls Tryd.prog 65 #[.slice A n c, .slice A' n' c'] w fun e w' => e = .returned (.int .i64 (df l m 0)) ∧ Below w.heap.size w w' := by
  go_enter Tryd.func65, Tryd.ntmps65
  go_wp2_with (go_at_call 79; refine (differ2_any l m _ _ _ _ _ _ B _ hn hn' hm hm' hr hr').mono ?_; rintro e w' ⟨rfl, hb⟩)
  go_ret
  exact ⟨rfl, hb⟩
end Go.Proofs.YtfmbfojlopibnaaDoor
