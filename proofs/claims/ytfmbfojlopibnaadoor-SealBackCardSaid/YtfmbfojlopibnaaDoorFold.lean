import Derived.Test.YtfmbfojlopibnaaDoorThrough
namespace Go.Proofs.YtfmbfojlopibnaaDoor
open Go.RowKit Go.Shelf
attribute [local go_sem] Oper.semAt_some

set_option maxHeartbeats 1000000 in
theorem mix_any (k x : Nat) (w : World) (hk : k < 18446744073709551616) (hx : x < 18446744073709551616) : Calls Tryd.prog 51 #[.int .u64 (k : Int), .int .u64 (x : Int)] w fun e w' => e = .returned (.int .u64 (mixN k x : Int)) ∧ Below w.heap.size w w' := by
  have h1 := Lib.hid (fun W => halvesOf_any x W hx)
  have h2 := Lib.hid (fun W => keyAt_any k 0 W)
  have h3 := Lib.hid (fun g h W => through_any k g 66 0 1 mixedN h W hk (.inl ⟨rfl, rfl⟩) (enters_of Tryd.func66 (by kernel_rfl) rfl) (mix1_does g))
  have hhf := halves_half hx
  have HM := Lib.hid (show mixN k x = wholeN (goes mixedN k ups (halvesN x)) from rfl)
  rw [HM.out]
  obtain ⟨h0, hh0⟩ : ∃ h0, h0 = halvesN x := ⟨_, rfl⟩
  rw [← hh0] at h1 hhf ⊢
  clear hh0 HM
  obtain ⟨a, b⟩ := h0
  simp only at h1
  obtain ⟨⟨c, d⟩, hcd⟩ : ∃ h', h' = goes mixedN k ups (a, b) := ⟨_, rfl⟩
  rw [← hcd]
  have HCD := Lib.hid hcd
  clear hcd
  go_enter Tryd.func51, Tryd.ntmps51
  go_wp2_with fail
  refine (h1.out _).mono ?_
  rintro e w1 ⟨rfl, hb1⟩
  go_wp2_with fail
  refine (h2.out _).mono ?_
  rintro e w2 ⟨rfl, hb2⟩
  have hr2 : Row w2 w1.heap.size 97 [.int .u32 (a : Int), .int .u32 (b : Int)] := (Row.new w1 _ _).below hb2
  have hB2 := (hb1.alloc hb1.size (.cells #[.int .u32 (a : Int), .int .u32 (b : Int)] 97)).trans (hb2.mono (by simp; have := hb1.size; omega))
  have h4 := Lib.hid (h3.out w1.heap.size (a, b) w2 ⟨hr2, hhf⟩)
  rw [rs_ups] at h4
  have hs1 := hb1.size
  clear h3 hb1 hb2 hr2 hhf
  rw [← HCD.out] at h4
  go_wp2_with fail
  refine (h4.out).mono ?_
  rintro e w3 ⟨rfl, ⟨hr3, hc, hd⟩, hk3⟩
  have h5 := Lib.hid (fun W => whole_any c d W hc hd)
  have hB3 : Below w.heap.size w w3 := hB2.trans (hk3.below (by rintro b rfl; exact hs1) hB2.size)
  have c0 : w3.cell? ⟨w1.heap.size, 0, none⟩ = some (.int .u32 (c : Int)) := hr3.cell 0
  have c1 : w3.cell? ⟨w1.heap.size, 1, none⟩ = some (.int .u32 (d : Int)) := hr3.cell 1
  clear hr3 hk3 hc hd hB2 h4
  go_wp2_with fail
  refine (h5.out _).mono ?_
  rintro e w4 ⟨rfl, hb4⟩
  have hB4 := hB3.trans (hb4.mono hB3.size)
  clear hb4 hB3
  go_wp2_with fail
  go_ret
  exact ⟨rfl, hB4⟩
set_option maxHeartbeats 1000000 in
theorem undo_any (k x : Nat) (w : World) (hk : k < 18446744073709551616) (hx : x < 18446744073709551616) : Calls Tryd.prog 43 #[.int .u64 (k : Int), .int .u64 (x : Int)] w fun e w' => e = .returned (.int .u64 (undoN k x : Int)) ∧ Below w.heap.size w w' := by
  have h1 := Lib.hid (fun W => halvesOf_any x W hx)
  have h2 := Lib.hid (fun W => keyAt_any k 7 W)
  have h3 := Lib.hid (fun g h W => through_any k g 60 7 (-1) undoneN h W hk (.inr ⟨rfl, rfl⟩) (enters_of Tryd.func60 (by kernel_rfl) rfl) (undo1_does g))
  have hhf := halves_half hx
  have HM := Lib.hid (show undoN k x = wholeN (goes undoneN k downs (halvesN x)) from rfl)
  rw [HM.out]
  obtain ⟨h0, hh0⟩ : ∃ h0, h0 = halvesN x := ⟨_, rfl⟩
  rw [← hh0] at h1 hhf ⊢
  clear hh0 HM
  obtain ⟨a, b⟩ := h0
  simp only at h1
  obtain ⟨⟨c, d⟩, hcd⟩ : ∃ h', h' = goes undoneN k downs (a, b) := ⟨_, rfl⟩
  rw [← hcd]
  have HCD := Lib.hid hcd
  clear hcd
  go_enter Tryd.func43, Tryd.ntmps43
  go_wp2_with fail
  refine (h1.out _).mono ?_
  rintro e w1 ⟨rfl, hb1⟩
  go_wp2_with fail
  refine (h2.out _).mono ?_
  rintro e w2 ⟨rfl, hb2⟩
  have hr2 : Row w2 w1.heap.size 97 [.int .u32 (a : Int), .int .u32 (b : Int)] := (Row.new w1 _ _).below hb2
  have hB2 := (hb1.alloc hb1.size (.cells #[.int .u32 (a : Int), .int .u32 (b : Int)] 97)).trans (hb2.mono (by simp; have := hb1.size; omega))
  have h4 := Lib.hid (h3.out w1.heap.size (a, b) w2 ⟨hr2, hhf⟩)
  rw [rs_downs] at h4
  have hs1 := hb1.size
  clear h3 hb1 hb2 hr2 hhf
  rw [← HCD.out] at h4
  go_wp2_with fail
  refine (h4.out).mono ?_
  rintro e w3 ⟨rfl, ⟨hr3, hc, hd⟩, hk3⟩
  have h5 := Lib.hid (fun W => whole_any c d W hc hd)
  have hB3 : Below w.heap.size w w3 := hB2.trans (hk3.below (by rintro b rfl; exact hs1) hB2.size)
  have c0 : w3.cell? ⟨w1.heap.size, 0, none⟩ = some (.int .u32 (c : Int)) := hr3.cell 0
  have c1 : w3.cell? ⟨w1.heap.size, 1, none⟩ = some (.int .u32 (d : Int)) := hr3.cell 1
  clear hr3 hk3 hc hd hB2 h4
  go_wp2_with fail
  refine (h5.out _).mono ?_
  rintro e w4 ⟨rfl, hb4⟩
  have hB4 := hB3.trans (hb4.mono hB3.size)
  clear hb4 hB3
  go_wp2_with fail
  go_ret
  exact ⟨rfl, hB4⟩

/-- words as cells -/
def wds (l : List Nat) : List Value := l.map fun n : Nat => .int .u64 (n : Int)
theorem wds_len (l : List Nat) : (wds l).length = l.length := by simp [wds]
theorem wds_at {l : List Nat} {i : Nat} (h : i < l.length) : (wds l)[i]'(by rw [wds_len]; exact h) = .int .u64 (l[i] : Int) := by simp [wds]
theorem wds_append (a b : List Nat) : wds (a ++ b) = wds a ++ wds b := by simp [wds]
theorem wds_one {l : List Nat} : ∀ u ∈ wds l, u.oneCell' = true := by
  intro u hu
  simp only [wds, List.mem_map] at hu
  obtain ⟨b, _, rfl⟩ := hu
  rfl
/-- words that fit -/
def Fit (l : List Nat) : Prop := ∀ x ∈ l, x < 18446744073709551616
theorem Fit.at_ {l : List Nat} (h : Fit l) {i : Nat} (hi : i < l.length) : l[i] < 18446744073709551616 := h _ (List.getElem_mem hi)
theorem Fit.take {l : List Nat} (h : Fit l) (k : Nat) : Fit (l.take k) := fun x hx => h x (List.mem_of_mem_take hx)

theorem fold1_any (a x : Nat) (w : World) (ha : a < 18446744073709551616) (hx : x < 18446744073709551616) : Calls Tryd.prog 54 #[.int .u64 (a : Int), .int .u64 (x : Int)] w fun e w' => e = .returned (.int .u64 (stepF a x : Int)) ∧ Below w.heap.size w w' := by
  have h1 := Lib.hid (fun W => mix_any x a W hx ha)
  have h2 := bits_xor_u64_nat (mixN x a) x (mixN_lt ha) hx
  rw [show mixN x a ^^^ x = stepF a x from rfl] at h2
  obtain ⟨m, hm⟩ : ∃ m, m = mixN x a := ⟨_, rfl⟩
  rw [← hm] at h1 h2
  obtain ⟨s, hs⟩ : ∃ s, s = stepF a x := ⟨_, rfl⟩
  rw [← hs] at h2 ⊢
  clear hm hs
  go_enter Tryd.func54, Tryd.ntmps54
  go_wp2_with fail
  refine (h1.out _).mono ?_
  rintro e w1 ⟨rfl, hb1⟩
  go_wp2_with fail
  go_ret
  exact ⟨rfl, hb1⟩

set_option maxHeartbeats 1000000 in
theorem folded_any (l : List Nat) (A : Option Addr) (c : Nat) (w : World) (hl : Fit l) (hn : l.length ≤ 9223372036854775807) (hr : Sees w w.heap.size A (wds l)) :
    Calls Tryd.prog 53 #[.int .u64 0, .func (.func 54) #[] #[], .slice A l.length c] w fun e w' => e = .returned (.int .u64 (foldN l : Int)) ∧ Below w.heap.size w w' := by
  obtain ⟨n, hnn⟩ : ∃ n, n = l.length := ⟨_, rfl⟩
  rw [← hnn] at hn ⊢
  have HN := Lib.hid hnn
  clear hnn
  go_enter Tryd.func53, Tryd.ntmps53
  go_wp2_with fail
  go_loopw [0, 11] (fun v i wr => ∃ (k a : Nat), k ≤ n ∧ i = .int .i64 k ∧ v = .int .u64 (a : Int) ∧ Hid (a = foldN (l.take k)) ∧ Sees wr w.heap.size A (wds l) ∧ Below w.heap.size w wr) (fun _ i _ => n - (intOf i).toNat)
  case atStart => exact ⟨0, 0, Nat.zero_le _, rfl, rfl, rfl, hr, Below.refl _ _⟩
  case round =>
    obtain ⟨k, a, hk, rfl, rfl, HA, hrr, hB⟩ := hrel
    by_cases hlt : k < n
    · have hkl : k < l.length := by rw [← HN.out]; exact hlt
      obtain ⟨ad, rfl, hadb, hc⟩ := hrr.at_ (k := k) (by rw [wds_len]; exact hkl)
      rw [wds_at hkl] at hc
      have hxl := hl.at_ hkl
      have hal : a < 18446744073709551616 := by rw [HA.out]; exact foldN_lt (hl.take k)
      have hst := Lib.hid (show stepF a l[k] = foldN (l.take (k + 1)) by rw [← List.take_append_getElem hkl, foldN_one, ← HA.out])
      obtain ⟨x, hx⟩ : ∃ x, x = l[k] := ⟨_, rfl⟩
      rw [← hx] at hc hxl hst
      have h1 := Lib.hid (fun W => fold1_any a x W hal hxl)
      obtain ⟨s, hs⟩ : ∃ s, s = stepF a x := ⟨_, rfl⟩
      rw [← hs] at h1 hst
      clear hx hs hal hxl
      go_wp2_with fail
      refine (h1.out _).mono ?_
      rintro e w1 ⟨rfl, hb1⟩
      go_wp2_with fail
      go_roundw
      case rel => exact ⟨k + 1, s, by omega, by go_num, rfl, Lib.hid hst.out, hrr.below (hb1.mono hB.size), hB.trans (hb1.mono hB.size)⟩
      case measure => simp [intOf]; omega
    · obtain rfl : k = n := by omega
      rw [List.take_of_length_le (by rw [HN.out]; exact Nat.le_refl _)] at HA
      go_wp2_with fail
      go_ret
      exact ⟨by rw [← HA.out]; rfl, hB⟩
theorem fold_any (l : List Nat) (A : Option Addr) (c : Nat) (w : World) (hl : Fit l) (hn : l.length ≤ 9223372036854775807) (hr : Sees w w.heap.size A (wds l)) :
    Calls Tryd.prog 38 #[.slice A l.length c] w fun e w' => e = .returned (.int .u64 (foldN l : Int)) ∧ Below w.heap.size w w' := by
  have h1 := Lib.hid (folded_any l A c w hl hn hr)
  obtain ⟨n, hnn⟩ : ∃ n, n = l.length := ⟨_, rfl⟩
  obtain ⟨s, hs⟩ : ∃ s, s = foldN l := ⟨_, rfl⟩
  rw [← hnn, ← hs] at h1 ⊢
  clear hnn hs hl hn hr
  go_enter Tryd.func38, Tryd.ntmps38
  go_wp2_with fail
  refine (h1.out).mono ?_
  rintro e w1 ⟨rfl, hb1⟩
  go_wp2_with fail
  go_ret
  exact ⟨rfl, hb1⟩
end Go.Proofs.YtfmbfojlopibnaaDoor
