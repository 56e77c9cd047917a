import Derived.Test.YtbiopegophdgiaaDoorIs
namespace Go.Proofs.YtbiopegophdgiaaDoor
open Go.RowKit Go.Shelf
attribute [local go_sem] Oper.semAt_some

/- BITSBOUNDS: the greatest number of places, and one more. -/

theorem ones_idxs (n : Nat) : ∀ o, idxs o (List.replicate n true) = (List.range n).map (· + o) := by
  induction n with
  | zero => intro o; rfl
  | succ n ih =>
    intro o
    rw [List.replicate_succ, idxs, if_pos rfl, ih, List.range_succ_eq_map, List.map_cons, List.map_map, Nat.zero_add]
    congr 1
    exact List.map_congr_left fun x _ => by show x + (o + 1) = x.succ + o; omega
theorem ones_nth (n : Nat) (h : 0 < n) : nthR (List.replicate n true) ((n : Int) - 1) true = some (n - 1) := by
  unfold nthR nthO
  rw [such_true, ones_idxs, if_neg (by omega), show ((n : Int) - 1).toNat = n - 1 by omega]
  rw [List.getElem?_map, List.getElem?_range (by omega)]
  rfl
theorem ones_next (n : Nat) : nextR (List.replicate n true) 0 false = none := by
  unfold nextR
  rw [show such false (List.replicate n true) = List.replicate n false by simp [such], idxs_false]
  rfl
theorem ones_parsed (n : Nat) : parsed (List.replicate n 49) = if n ≤ 4096 then some (List.replicate n true) else none := by
  unfold parsed
  rw [List.length_replicate]
  have h : (List.replicate n (49 : UInt8)).all okC = true := by
    rw [List.all_eq_true]
    intro c hc
    rw [(List.mem_replicate.1 hc).2]; rfl
  by_cases hn : n ≤ 4096
  · rw [if_pos ⟨hn, h⟩, if_pos hn]; simp [bitB]
  · rw [if_neg (fun hh => hn hh.1), if_neg hn]

/-- bytes that are all the same, so far as they are laid -/
def fcs (n k : Nat) : List Value := List.replicate k (.int .u8 49) ++ List.replicate (n - k) (.int .u8 0)
theorem fcs_len (n k : Nat) (h : k ≤ n) : (fcs n k).length = n := by simp [fcs]; omega
theorem fcs_set (n k : Nat) (h : k < n) : (fcs n k).set k (.int .u8 49) = fcs n (k + 1) := by
  unfold fcs
  rw [List.set_append_right _ _ (by simp), List.length_replicate, Nat.sub_self, show n - k = (n - (k + 1)) + 1 by omega, List.replicate_succ, List.set_cons_zero, List.replicate_succ', List.append_assoc]
  rfl
theorem fcs_done (n : Nat) : fcs n n = byt (List.replicate n 49) := by
  unfold fcs byt
  rw [Nat.sub_self, List.replicate_zero, List.append_nil, List.map_replicate]
  rfl

theorem bitsBounds_far (more : Int) (w : World) (ht : Tab w) (h : more < -1 ∨ 1 < more) : Calls Tryd.prog 6 #[.int .i64 more] w fun e w' => e = .returned (.bool true) ∧ Below w.heap.size w w' := by
  have HT := Lib.hid ht
  clear ht
  rcases h with h | h
  · have e1 : decide (more < -1) = true := decide_eq_true h
    clear h
    go_enter Tryd.func6, Tryd.ntmps6
    go_wp2_with fail
    refine (works_any _ HT.out).mono ?_
    rintro e w1 ⟨rfl, hb1⟩
    go_wp2_with fail
    go_ret
    exact ⟨rfl, hb1⟩
  · have e1 : decide (more < -1) = false := decide_eq_false (by omega)
    have e2 : decide (1 < more) = true := decide_eq_true h
    clear h
    go_enter Tryd.func6, Tryd.ntmps6
    go_wp2_with fail
    refine (works_any _ HT.out).mono ?_
    rintro e w1 ⟨rfl, hb1⟩
    go_wp2_with fail
    go_ret
    exact ⟨rfl, hb1⟩

set_option maxHeartbeats 2000000 in
theorem bitsBounds_near (n : Nat) (more : Int) (w : World) (ht : Tab w) (hn : (n : Int) = 4096 + more) (h1 : 4095 ≤ n) (h2 : n ≤ 4096) : Calls Tryd.prog 6 #[.int .i64 more] w fun e w' => e = .returned (.bool true) ∧ Below w.heap.size w w' := by
  have HT := Lib.hid ht
  have e1 : decide (more < -1) = false := decide_eq_false (by omega)
  have e2 : decide (1 < more) = false := decide_eq_false (by omega)
  have e3 : decide (0 < more) = false := decide_eq_false (by omega)
  have hsum : (4096 : Int) + more = (n : Int) := hn.symm
  have hnew := Lib.hid (fun w => new_ok n w h2)
  have hmk := make_u8 n (by omega)
  have hnm : (n : Int) - 1 = ((n - 1 : Nat) : Int) := by omega
  have hnth := ones_nth n (by omega)
  rw [hnm] at hnth
  obtain ⟨p, hp⟩ : ∃ p, p = n - 1 := ⟨_, rfl⟩
  rw [← hp] at hnm hnth
  have HNTH := Lib.hid hnth
  have hpl : p ≤ 4096 := by omega
  have hpp : ((p : Int) == (p : Int)) = true := by simp
  have hnn : ((n : Int) == (n : Int)) = true := by simp
  clear ht hn hnth hp
  go_enter Tryd.func6, Tryd.ntmps6
  go_wp2_with fail
  refine (hnew.out _).mono ?_
  rintro e w1 ⟨b, g, rfl, hb0, hg0, hr1, hb1⟩
  go_wp2_with fail
  clear hmk
  have hB2 : Below w.heap.size w (w1.alloc (.cells (List.replicate n (Value.int .u8 0)).toArray 5)) := hb1.alloc hb1.size _
  have hrow : Row (w1.alloc (.cells (List.replicate n (Value.int .u8 0)).toArray 5)) w1.heap.size 5 (fcs n 0) := by
    have h := Row.new w1 5 (List.replicate n (Value.int .u8 0))
    rw [show fcs n 0 = List.replicate n (Value.int .u8 0) by simp [fcs]]
    exact h
  go_loopw [7] (fun i wr => ∃ k : Nat, k ≤ n ∧ i = .int .i64 k ∧ Row wr w1.heap.size 5 (fcs n k) ∧ Below w1.heap.size w1 wr) (fun i _ => n - (intOf i).toNat)
  case atStart => exact ⟨0, Nat.zero_le _, rfl, hrow, below1 _ _⟩
  case round =>
    obtain ⟨k, hk, rfl, hr, hB⟩ := hrel
    by_cases hlt : k < n
    · obtain ⟨u, hu⟩ : ∃ u, wr.cell? ⟨w1.heap.size, k, none⟩ = some u := ⟨_, (hr.cell k).trans (List.getElem?_eq_getElem (by rw [fcs_len n k (by omega)]; exact hlt))⟩
      have hfz := hr.frozen k
      have hfin := Lib.hid (show Row (wr.setCell ⟨w1.heap.size, k, none⟩ (.int .u8 49)) w1.heap.size 5 (fcs n (k + 1)) ∧ Below w1.heap.size w1 (wr.setCell ⟨w1.heap.size, k, none⟩ (.int .u8 49)) from by
        have h := hr.set k (.int .u8 49)
        rw [fcs_set n k hlt] at h
        exact ⟨h, hB.setCell (Nat.le_refl _) _⟩)
      clear hr hB hrow hB2
      go_wp2_with fail
      go_roundw
      case rel => exact ⟨k + 1, by omega, by go_num, hfin.out⟩
      case measure => simp [intOf]; omega
    · obtain rfl : k = n := by omega
      have hs : Sees wr wr.heap.size (some ⟨w1.heap.size, 0, none⟩) (byt (List.replicate k 49)) := by rw [← fcs_done]; exact hr.sees
      have hcv := run_conv_sees (P := Tryd.prog) wr Tryd.underlying65 Tryd.underlying5 Tryd.underlying9 (c := k) (show (List.replicate k (49 : UInt8)).length = k by simp) hs
      have hM1 : Mk wr (.pointer (some ⟨b, 0, none⟩)) (List.replicate k false) := .inr ⟨b, g, rfl, hr1.below hB⟩
      have hBr := below0 hb1 hB
      have hpa := Lib.hid (parse_any (str (List.replicate k 49)) wr (by show (List.replicate k (49 : UInt8)).toArray.size ≤ 4096; simp; omega))
      rw [show (str (List.replicate k (49 : UInt8))).data.toList = List.replicate k 49 from rfl, ones_parsed, if_pos h2] at hpa
      clear hs hr hrow hB2 hB
      go_wp2_with fail
      refine (hpa.out).mono ?_
      rintro e w3 ⟨b3, g3, rfl, _, _, hr3, hb3⟩
      have hB3 := below0 hBr hb3
      have hM3 : Mk w3 (.pointer (some ⟨b3, 0, none⟩)) (List.replicate k true) := .inr ⟨b3, g3, rfl, hr3⟩
      have hM1' := hM1.below hb3
      have hq1 := Lib.hid (nth_any _ _ (p : Int) true w3 hM3 (HT.out.below hB3) (by omega))
      rw [HNTH.out] at hq1
      rw [show numO (some p) = (p : Int) from rfl, show (some p).isSome = true from rfl] at hq1
      clear hcv hpa hb3 hr3 hM1 hBr
      go_wp2_with fail
      refine (hq1.out).mono ?_
      rintro e w4 ⟨rfl, hb4⟩
      have hB4 := below0 hB3 hb4
      have hM4 := hM3.below hb4
      have hq2 := Lib.hid (next_any _ _ 0 false w4 hM4 (HT.out.below hB4))
      rw [ones_next] at hq2
      rw [show numO none = 0 from rfl, show (none : Option Nat).isSome = false from rfl] at hq2
      have hM14 := hM1'.below hb4
      clear hb4 hM3 hM1' hq1
      go_wp2_with fail
      refine (hq2.out).mono ?_
      rintro e w5 ⟨rfl, hb5⟩
      have hB5 := below0 hB4 hb5
      have hln := Lib.hid (len_any _ _ w5 (hM14.below hb5))
      rw [List.length_replicate] at hln
      have hct := Lib.hid (count_any _ _ w5 (hM4.below hb5))
      rw [List.count_replicate_self] at hct
      clear hb5 hM4 hM14 hq2
      go_wp2_with (go_at_call 14; refine (num_any _ _).mono ?_; rintro e w' ⟨rfl, rfl⟩)
      refine (hln.out).mono ?_
      rintro e w6 ⟨rfl, rfl⟩
      go_wp2_with fail
      refine (hct.out).mono ?_
      rintro e w6 ⟨rfl, hb6⟩
      have hB6 := below0 hB5 hb6
      go_wp2_with fail
      refine (works_any _ (HT.out.below hB6)).mono ?_
      rintro e w7 ⟨rfl, hb7⟩
      have hB7 := below0 hB6 hb7
      go_wp2_with fail
      go_ret
      exact ⟨rfl, hB7⟩

set_option maxHeartbeats 2000000 in
theorem bitsBounds_over (n : Nat) (more : Int) (w : World) (ht : Tab w) (hn : (n : Int) = 4096 + more) (h1 : n = 4097) : Calls Tryd.prog 6 #[.int .i64 more] w fun e w' => e = .returned (.bool true) ∧ Below w.heap.size w w' := by
  have HT := Lib.hid ht
  have e1 : decide (more < -1) = false := decide_eq_false (by omega)
  have e2 : decide (1 < more) = false := decide_eq_false (by omega)
  have e3 : decide (0 < more) = true := decide_eq_true (by omega)
  have hsum : (4096 : Int) + more = (n : Int) := hn.symm
  have hnew := Lib.hid (fun w => new_no (n : Int) w (.inr (by omega)))
  have hmk := make_u8 n (by omega)
  have hlo : n ≤ 5000 := by omega
  have HN1 := Lib.hid h1
  clear ht hn h1
  go_enter Tryd.func6, Tryd.ntmps6
  go_wp2_with fail
  refine (hnew.out _).mono ?_
  rintro e w1 ⟨rfl, rfl⟩
  go_wp2_with fail
  clear hmk
  have hrow : Row (w.alloc (.cells (List.replicate n (Value.int .u8 0)).toArray 5)) w.heap.size 5 (fcs n 0) := by
    have h := Row.new w 5 (List.replicate n (Value.int .u8 0))
    rw [show fcs n 0 = List.replicate n (Value.int .u8 0) by simp [fcs]]
    exact h
  go_loopw [7] (fun i wr => ∃ k : Nat, k ≤ n ∧ i = .int .i64 k ∧ Row wr w.heap.size 5 (fcs n k) ∧ Below w.heap.size w wr) (fun i _ => n - (intOf i).toNat)
  case atStart => exact ⟨0, Nat.zero_le _, rfl, hrow, below1 _ _⟩
  case round =>
    obtain ⟨k, hk, rfl, hr, hB⟩ := hrel
    by_cases hlt : k < n
    · obtain ⟨u, hu⟩ : ∃ u, wr.cell? ⟨w.heap.size, k, none⟩ = some u := ⟨_, (hr.cell k).trans (List.getElem?_eq_getElem (by rw [fcs_len n k (by omega)]; exact hlt))⟩
      have hfz := hr.frozen k
      have hfin := Lib.hid (show Row (wr.setCell ⟨w.heap.size, k, none⟩ (.int .u8 49)) w.heap.size 5 (fcs n (k + 1)) ∧ Below w.heap.size w (wr.setCell ⟨w.heap.size, k, none⟩ (.int .u8 49)) from by
        have h := hr.set k (.int .u8 49)
        rw [fcs_set n k hlt] at h
        exact ⟨h, hB.setCell (Nat.le_refl _) _⟩)
      clear hr hB hrow
      go_wp2_with fail
      go_roundw
      case rel => exact ⟨k + 1, by omega, by go_num, hfin.out⟩
      case measure => simp [intOf]; omega
    · obtain rfl : k = n := by omega
      have hs : Sees wr wr.heap.size (some ⟨w.heap.size, 0, none⟩) (byt (List.replicate k 49)) := by rw [← fcs_done]; exact hr.sees
      have hcv := run_conv_sees (P := Tryd.prog) wr Tryd.underlying65 Tryd.underlying5 Tryd.underlying9 (c := k) (show (List.replicate k (49 : UInt8)).length = k by simp) hs
      have hsz : (str (List.replicate k (49 : UInt8))).size = k := by show (List.replicate k (49 : UInt8)).toArray.size = k; simp
      have hpa := Lib.hid (parse_long (str (List.replicate k 49)) wr (by rw [hsz]; unfold maxLen; omega) (by rw [hsz, HN1.out]; decide))
      clear hs hr hrow hsz
      go_wp2_with fail
      refine (hpa.out).mono ?_
      rintro e w3 ⟨rfl, hb3⟩
      have hB3 := below0 hB hb3
      clear hcv hpa hb3
      go_wp2_with (go_at_call 14; refine (num_any _ _).mono ?_; rintro e w' ⟨rfl, rfl⟩)
      refine (works_any _ (HT.out.below hB3)).mono ?_
      rintro e w7 ⟨rfl, hb7⟩
      have hB7 := below0 hB3 hb7
      go_wp2_with fail
      go_ret
      exact ⟨rfl, hB7⟩

theorem bitsBounds_any (more : Int) (w : World) (ht : Tab w) : Calls Tryd.prog 6 #[.int .i64 more] w fun e w' => e = .returned (.bool true) ∧ Below w.heap.size w w' := by
  by_cases h : more < -1 ∨ 1 < more
  · exact bitsBounds_far more w ht h
  · by_cases h1 : more = 1
    · exact bitsBounds_over 4097 more w ht (by omega) rfl
    · exact bitsBounds_near (4096 + more).toNat more w ht (by omega) (by omega) (by omega)
end Go.Proofs.YtbiopegophdgiaaDoor
