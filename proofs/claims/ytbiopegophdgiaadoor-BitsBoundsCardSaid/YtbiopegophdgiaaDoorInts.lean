import Derived.Test.YtbiopegophdgiaaDoorCollect
namespace Go.Proofs.YtbiopegophdgiaaDoor
open Go.RowKit Go.Shelf
attribute [local go_sem] Oper.semAt_some

set_option maxHeartbeats 1000000 in
theorem ints_any (a : List Nat) (A A' : Option Addr) (n c c' B : Nat) (w : World) (hn : n ≤ 140737488351232) (hla : a.length = n) (hr : Sees w B A (ins a)) (hr' : Sees w B A' (ins a)) :
    Calls Tryd.prog 30 #[.slice A n c, .slice A' n c'] w fun e w' => e = .returned (.bool true) ∧ ∃ m, w.drewN m = w' := by
  have HA := Lib.hid hla
  clear hla
  have hbe : ((n : Int) != (n : Int)) = false := by simp
  go_enter Tryd.func30, Tryd.ntmps30
  go_wp2_with fail
  go_loopw [5] (fun i wr => ∃ k : Nat, k ≤ n ∧ i = .int .i64 k ∧ ∃ m, wr = w.drewN m) (fun i _ => n - (intOf i).toNat)
  case atStart => exact ⟨0, Nat.zero_le _, rfl, 0, rfl⟩
  case round =>
    obtain ⟨k, hk, rfl, m, rfl⟩ := hrel
    by_cases hlt : k < n
    · have hka : k < a.length := by rw [HA.out]; exact hlt
      obtain ⟨ad, rfl, _, hc⟩ := hr.at_ (k := k) (by rw [ins_len]; exact hka)
      obtain ⟨ad', rfl, _, hc'⟩ := hr'.at_ (k := k) (by rw [ins_len]; exact hka)
      rw [ins_get hka] at hc hc'
      obtain ⟨x, hx⟩ : ∃ x, x = a[k] := ⟨_, rfl⟩
      rw [← hx] at hc hc'
      have hd : ((x : Int) != (x : Int)) = false := by simp
      clear hx
      go_wp2_with fail
      go_quiet (fail)
      go_wp2_with fail
      go_roundw
      case rel => exact ⟨k + 1, by omega, by go_num, _, rfl⟩
      case measure => simp [intOf]; omega
    · obtain rfl : k = n := by omega
      go_wp2_with fail
      go_ret
      exact ⟨rfl, _, rfl⟩

set_option maxHeartbeats 1000000 in
theorem with_ref (l : List Bool) (k : Nat) (is : Bool) (A : Option Addr) (c : Nat) (w : World) (hl : l.length ≤ 4096) (hk : k < l.length) (hr : Sees w w.heap.size A (bls l)) :
    Calls Tryd.prog 44 #[.slice A l.length c, .int .i64 (k : Int), .bool is] w (OneB w (l.set k is)) := by
  obtain ⟨i0, hi, hz0, hz1, hz2⟩ := info_parts bool_info
  obtain ⟨n, hn⟩ : ∃ n, n = l.length := ⟨_, rfl⟩
  rw [← hn] at hl hk ⊢
  have HN := Lib.hid hn
  clear hn
  have hown0 : (w.alloc (.cells #[] 4)).ownsRow w.heap.size 4 1 (.slice (some ⟨w.heap.size, 0, none⟩) 0 0) 0 [] := World.ownsRow_made w #[] 0 (Nat.le_refl _) (Nat.zero_le _) rfl
  have hr0 : Sees (w.alloc (.cells #[] 4)) w.heap.size A (bls l) := hr.alloc (Nat.le_refl _) _
  go_enter Tryd.func44, Tryd.ntmps44
  go_wp2_with (at_builtin; refine wpList_append_sees rfl (.tmp 8) (.tmp 9) 28 rfl w.heap.size 4 i0 _ 1 1 Tryd.underlying28 hi hz0 hz1 hz2 rfl (by decide) _ 0 [] rfl hown0 w.heap.size A n c (bls l) rfl (by rw [bls_len, HN.out, Nat.mul_one]) hr0 bls_one (by unfold maxLen; omega) (by omega) (by simp) ?_; intro v' w4 hown4 hg4 hv4; rw [Nat.zero_add, List.nil_append] at hown4; obtain ⟨g4, cap4, rfl, hg4b, hg4l⟩ := hown4.form (by omega); have hcl := (hown4.cellAt k (by omega)).trans (List.getElem?_eq_getElem (by rw [bls_len, ← HN.out]; exact hk)); have hfz := hown4.frozenAt k)
  have hst := (hown4.stored k (.bool is)).1
  have hfin := Lib.hid (show OneB w (l.set k is) (.returned (.slice (some ⟨g4, 0, none⟩) n cap4)) (w4.setCell ⟨g4, k, none⟩ (.bool is)) from by
    refine ⟨_, rfl, ⟨some ⟨g4, 0, none⟩, cap4, by rw [List.length_set, HN.out], ?_⟩, ((below1 w _).grown hg4 (by simp) (fun r e => by cases e; exact Nat.le_refl _)).setCell hg4b _⟩
    have h := Sees.of_own hst
    rw [show (bls l).set k (.bool is) = bls (l.set k is) by simp [bls, List.map_set]] at h
    exact h)
  go_ret
  exact hfin.out
end Go.Proofs.YtbiopegophdgiaaDoor
