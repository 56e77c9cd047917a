import Derived.Test.YtaggjfdmjpelhaaCollect
import Derived.BigQuiet
namespace Go.Proofs.Ytaggjfdmjpelhaa
open Go.RowKit Go.Shelf
attribute [local go_sem] Oper.semAt_some

/- MIXSTREAMS; THE DOCUMENT'S FOLD. -/

set_option maxHeartbeats 1000000 in
theorem rfold_any (l : List Nat) (A : Option Addr) (c : Nat) (w : World) (hl : Fit l) (hn : l.length ≤ 1000000) (hr : Sees w w.heap.size A (wds l)) :
    Calls Try.prog 19 #[.slice A l.length c] w fun e w' => e = .returned (.int .u64 (foldN l : Int)) ∧ Below w.heap.size w w' := by
  obtain ⟨n, hnn⟩ : ∃ n, n = l.length := ⟨_, rfl⟩
  rw [← hnn] at hn ⊢
  have HN := Lib.hid hnn
  clear hnn
  go_enter Try.func19, Try.ntmps19
  go_wp2_with fail
  go_loopw [3, 4] (fun v i wr => ∃ (k a : Nat), k ≤ n ∧ i = .int .i64 k ∧ v = .int .u64 (a : Int) ∧ Hid (a = foldN (l.take k)) ∧ Sees wr w.heap.size A (wds l) ∧ Below w.heap.size w wr) (fun _ i _ => n - (intOf i).toNat)
  case atStart => exact ⟨0, 0, Nat.zero_le _, rfl, rfl, rfl, hr, Below.refl _ _⟩
  case round =>
    obtain ⟨k, a, hk, rfl, rfl, HA, hrr, hB⟩ := hrel
    by_cases hlt : k < n
    · have hkl : k < l.length := by rw [← HN.out]; exact hlt
      obtain ⟨ad, rfl, hadb, hc⟩ := hrr.at_ (k := k) (by rw [wds_len]; exact hkl)
      rw [wds_at hkl] at hc
      have hxl := hl.at_ hkl
      have hal : a < 18446744073709551616 := by rw [HA.out]; exact foldN_lt (hl.take k)
      have hst := Lib.hid (show stepF a l[k] = foldN (l.take (k + 1)) by rw [← List.take_append_getElem hkl, foldN_one, ← HA.out])
      obtain ⟨x, hx⟩ : ∃ x, x = l[k] := ⟨_, rfl⟩
      rw [← hx] at hc hxl hst
      have h1 := Lib.hid (fun W => rmix_any x a W hxl hal)
      have h2 := bits_xor_u64_nat (mixN x a) x (mixN_lt hal) hxl
      rw [show mixN x a ^^^ x = stepF a x from rfl] at h2
      obtain ⟨m, hm⟩ : ∃ m, m = mixN x a := ⟨_, rfl⟩
      rw [← hm] at h1 h2
      obtain ⟨s, hs⟩ : ∃ s, s = stepF a x := ⟨_, rfl⟩
      rw [← hs] at h2 hst
      have i1 : (k : Int) < (n : Int) := by omega
      have i0 : (0 : Int) ≤ (k : Int) := by omega
      clear hx hs hal hxl hm
      go_wp2_with fail
      go_quiet ((go_at_call 15; exact quiet_l (h1.out _)))
      go_wp2_with fail
      go_roundw
      case rel => exact ⟨k + 1, s, by omega, by go_num, rfl, Lib.hid hst.out, hrr.drewN _, below_drewN hB _⟩
      case measure => simp [intOf]; omega
    · obtain rfl : k = n := by omega
      rw [List.take_of_length_le (by rw [HN.out]; exact Nat.le_refl _)] at HA
      go_wp2_with fail
      go_ret
      exact ⟨by rw [← HA.out]; rfl, hB⟩

set_option maxHeartbeats 1000000 in
theorem mixStreams_any (key : Nat) (many most : Int) (w : World) (hk : key < 18446744073709551616) :
    Calls Try.prog 6 #[.int .u64 (key : Int), .int .i64 many, .int .i64 most] w fun e w' => e = .returned (.bool true) ∧ Below w.heap.size w w' := by
  by_cases hfar : 300 < many ∨ most < 1 ∨ 300 < most
  · have far : ∀ (b1 b2 b3 : Bool), decide (300 < many) = b1 → decide (most < 1) = b2 → decide (300 < most) = b3 → (b1 = true ∨ b2 = true ∨ b3 = true) →
        Calls Try.prog 6 #[.int .u64 (key : Int), .int .i64 many, .int .i64 most] w fun e w' => e = .returned (.bool true) ∧ Below w.heap.size w w' := by
      intro b1 b2 b3 e1 e2 e3 hb
      clear hfar
      cases b1 <;> cases b2 <;> cases b3 <;> first
        | (exfalso; simp at hb; done)
        | (clear hb
           go_enter Try.func6, Try.ntmps6
           go_wp2_with fail
           refine (works_any _).mono ?_
           rintro e w1 ⟨rfl, hb1⟩
           go_wp2_with fail
           go_ret
           exact ⟨rfl, hb1⟩)
    exact far _ _ _ rfl rfl rfl (by rcases hfar with h | h | h; exact .inl (decide_eq_true h); exact .inr (.inl (decide_eq_true h)); exact .inr (.inr (decide_eq_true h)))
  · obtain ⟨m, rfl⟩ := Int.eq_ofNat_of_zero_le (show 0 ≤ most by omega)
    have e1 : decide (300 < many) = false := decide_eq_false (by omega)
    have e2 : decide ((m : Int) < 1) = false := decide_eq_false (by omega)
    have e3 : decide (300 < (m : Int)) = false := decide_eq_false (by omega)
    have h1 := Lib.hid (fun W => streamL_any key m many W hk (by omega) (by omega) (by omega))
    obtain ⟨l, hl⟩ : ∃ l, l = mixL key many m := ⟨_, rfl⟩
    have hlen : l.length = min many.toNat m := by rw [hl, mixL_len]
    rw [← hl] at h1
    have HL := Lib.hid hl
    obtain ⟨n, hn⟩ : ∃ n, n = l.length := ⟨_, rfl⟩
    have HN := Lib.hid hn
    have hn300 : n ≤ 300 := by omega
    have hmm : (n : Int) = min (max 0 many) (m : Int) := by omega
    have HMM := Lib.hid hmm
    clear hfar hl hn hlen hmm
    go_enter Try.func6, Try.ntmps6
    go_wp2_with fail
    refine (h1.out _).mono ?_
    rintro e w1 ⟨A, c, rfl, hs1, hb1⟩
    rw [← HN.out]
    go_wp2_with fail
    go_loopw [8] (fun i wr => ∃ (k : Nat), k ≤ n ∧ i = .int .i64 k ∧ Sees wr w1.heap.size A (wds l) ∧ Below w.heap.size w wr) (fun i _ => n - (intOf i).toNat)
    case atStart => exact ⟨0, Nat.zero_le _, rfl, hs1, hb1⟩
    case round =>
      obtain ⟨k, hk', rfl, hrr, hB⟩ := hrel
      by_cases hlt : k < n
      · have hkl : k < l.length := by rw [← HN.out]; exact hlt
        obtain ⟨ad, rfl, hadb, hc⟩ := hrr.at_ (k := k) (by rw [wds_len]; exact hkl)
        have hx : l[k] = mixN key k := by simp only [HL.out, mixL, List.getElem_map, List.getElem_range]
        rw [wds_at hkl, hx] at hc
        have h2 := Lib.hid (fun W => rmix_any key k W hk (by omega))
        obtain ⟨x, hxx⟩ : ∃ x, x = mixN key k := ⟨_, rfl⟩
        rw [← hxx] at hc h2
        have i1 : (k : Int) < (n : Int) := by omega
        have i0 : (0 : Int) ≤ (k : Int) := by omega
        have hwk : IntKind.u64.wrap (k : Int) = (k : Int) := wrapN k (by omega)
        clear hx hxx
        go_wp2_with fail
        go_quiet ((go_at_call 15; exact quiet_l (h2.out _)))
        go_wp2_with fail
        go_roundw
        case rel => exact ⟨k + 1, by omega, by go_num, hrr.drewN _, below_drewN hB _⟩
        case measure => simp [intOf]; omega
      · obtain rfl : k = n := by omega
        have hmm := HMM.out
        clear HMM HN hrr hs1 hlt h1 e1 HL
        rcases Int.lt_or_le 0 many with hp | hp
        · rcases Int.lt_or_le (m : Int) many with hq | hq
          · obtain rfl : k = m := by omega
            clear hmm
            go_wp2_with fail
            refine (works_any _).mono ?_
            rintro e w2 ⟨rfl, hb2⟩
            have hB2 := below0 hB hb2
            go_wp2_with fail
            go_ret
            exact ⟨rfl, hB2⟩
          · obtain rfl : many = (k : Int) := by omega
            clear hmm
            go_wp2_with fail
            refine (works_any _).mono ?_
            rintro e w2 ⟨rfl, hb2⟩
            have hB2 := below0 hB hb2
            go_wp2_with fail
            go_ret
            exact ⟨rfl, hB2⟩
        · obtain rfl : k = 0 := by omega
          have hm0 : 0 ≤ (m : Int) := by omega
          clear hmm
          go_wp2_with fail
          refine (works_any _).mono ?_
          rintro e w2 ⟨rfl, hb2⟩
          have hB2 := below0 hB hb2
          go_wp2_with fail
          go_ret
          exact ⟨rfl, hB2⟩
end Go.Proofs.Ytaggjfdmjpelhaa
