import Derived.Test.YtbiopegophdgiaaDoorIs
namespace Go.Proofs.YtbiopegophdgiaaDoor
open Go.RowKit Go.Shelf
attribute [local go_sem] Oper.semAt_some

/- BITSHOLDS. -/

theorem such_count (is : Bool) (l : List Bool) : (such is l).count true = l.count is := by
  induction l with
  | nil => rfl
  | cons b l ih =>
    show ((b == is) :: such is l).count true = _
    rw [List.count_cons, List.count_cons, ih]
    cases b <;> cases is <;> rfl
theorem nth_count' (l : List Bool) (i : Nat) (h : i < l.length) (x : Bool) (hx : l[i] = x) : nthR l (((l.take i).count x : Nat) : Int) x = some i := by
  unfold nthR nthO
  rw [if_neg (by omega), Int.toNat_natCast]
  have h1 : such x l = such x (l.take i) ++ (true :: such x (l.drop (i + 1))) := by
    unfold such
    conv => lhs; rw [← List.take_append_drop i l, List.map_append, List.drop_eq_getElem_cons h, List.map_cons, hx]
    simp
  have hl : (such x (l.take i)).length = i := by simp [such]; omega
  rw [h1, idxs_append, hl, Nat.zero_add, idxs, if_pos rfl, List.getElem?_append_right (by rw [idxs_len, such_count]; exact Nat.le_refl _), idxs_len, such_count, Nat.sub_self]
  rfl
theorem nth_count (l : List Bool) (i : Nat) (h : i < l.length) : nthR l (((l.take i).count l[i] : Nat) : Int) l[i] = some i := nth_count' l i h _ rfl
theorem count_next1 (l : List Bool) (i : Nat) (h : i < l.length) (b : Bool) : (l.take (i + 1)).count b = (l.take i).count b + if l[i] = b then 1 else 0 := by
  rw [List.take_succ_eq_append_getElem h, List.count_append, List.count_singleton]
  congr 1
  cases l[i] <;> cases b <;> rfl
theorem count_both (l : List Bool) : l.count true + l.count false = l.length := by
  induction l with
  | nil => rfl
  | cons b l ih =>
    rw [List.count_cons, List.count_cons, List.length_cons]
    cases b <;> simp <;> omega
theorem str_self (s : ByteArray) : str s.data.toList = s := by
  unfold str
  rcases s with ⟨d⟩
  simp

theorem bitsHolds_big (s : ByteArray) (at_ : Int) (w : World) (ht : Tab w) (_hs : s.size ≤ maxLen) (h : 300 < s.size) : Calls Tryd.prog 7 #[.string s, .int .i64 at_] w fun e w' => e = .returned (.bool true) ∧ Below w.heap.size w w' := by
  have HT := Lib.hid ht
  have e1 : decide (300 < s.size) = true := decide_eq_true h
  have e2 : decide ((300 : Int) < (s.size : Int)) = true := decide_eq_true (by omega)
  clear h ht
  go_enter Tryd.func7, Tryd.ntmps7
  go_wp2_with fail
  refine (works_any _ HT.out).mono ?_
  rintro e w1 ⟨rfl, hb1⟩
  go_wp2_with fail
  go_ret
  exact ⟨rfl, hb1⟩
set_option maxHeartbeats 1000000 in
theorem bitsHolds_none (s : ByteArray) (at_ : Int) (w : World) (ht : Tab w) (h : ¬ 300 < s.size) (hp : parsed s.data.toList = none) : Calls Tryd.prog 7 #[.string s, .int .i64 at_] w fun e w' => e = .returned (.bool true) ∧ Below w.heap.size w w' := by
  have HT := Lib.hid ht
  have e1 : decide (300 < s.size) = false := decide_eq_false h
  have e2 : decide ((300 : Int) < (s.size : Int)) = false := decide_eq_false (by omega)
  have hq := Lib.hid (fun w => parse_any s w (by omega))
  rw [hp] at hq
  clear h ht hp
  go_enter Tryd.func7, Tryd.ntmps7
  go_wp2_with fail
  refine (hq.out _).mono ?_
  rintro e w1 ⟨rfl, hb1⟩
  go_wp2_with fail
  refine (num_any _ _).mono ?_
  rintro e w2 ⟨rfl, rfl⟩
  go_wp2_with fail
  refine (works_any _ (HT.out.below hb1)).mono ?_
  rintro e w2 ⟨rfl, hb2⟩
  have hB2 := below0 hb1 hb2
  go_wp2_with fail
  go_ret
  exact ⟨rfl, hB2⟩

set_option maxHeartbeats 4000000 in
theorem bitsHolds_some (s : ByteArray) (at_ : Int) (l : List Bool) (w : World) (ht : Tab w) (h : ¬ 300 < s.size) (hp : parsed s.data.toList = some l) : Calls Tryd.prog 7 #[.string s, .int .i64 at_] w fun e w' => e = .returned (.bool true) ∧ Below w.heap.size w w' := by
  have HT := Lib.hid ht
  have e1 : decide (300 < s.size) = false := decide_eq_false h
  have e2 : decide ((300 : Int) < (s.size : Int)) = false := decide_eq_false (by omega)
  obtain ⟨hl1, hl2, hl3⟩ := parsed_some hp
  have hstr : str (txb l) = s := by rw [hl3, str_self]
  have hls : l.length = s.size := hl1
  have hq := Lib.hid (fun w => parse_any s w (by omega))
  rw [hp] at hq
  have HTX := Lib.hid (fun (m : Value) (w : World) (hM : Mk w m l) => text_any m l w hM)
  rw [hstr] at HTX
  have heq : eqB l l = true := by simp [eqB]
  have HEQ := Lib.hid heq
  have HLS := Lib.hid hls
  have hss : (s.toList == s.toList) = true := by simp
  have hn300 : s.size ≤ 300 := by omega
  clear h ht hp hl1 hl2 hl3 hstr hls heq
  go_enter Tryd.func7, Tryd.ntmps7
  go_wp2_with fail
  refine (hq.out _).mono ?_
  rintro e w1 ⟨b, g, rfl, hb0, hg0, hr1, hb1⟩
  go_wp2_with fail
  refine (num_any _ _).mono ?_
  rintro e w2 ⟨rfl, rfl⟩
  have htx := Lib.hid (HTX.out (.pointer (some ⟨b, 0, none⟩)) w1 (.inr ⟨b, g, rfl, hr1⟩))
  go_wp2_with fail
  refine (htx.out).mono ?_
  rintro e w2 ⟨rfl, hb2⟩
  have hB2 := below0 hb1 hb2
  have hr2 := hr1.below hb2
  clear hr1 hb1 hb2 htx
  go_wp2_with fail
  refine (hq.out _).mono ?_
  rintro e w3 ⟨b3, g3, rfl, hb30, hg30, hr3, hb3⟩
  have hB3 := below0 hB2 hb3
  have hr3m := hr2.below hb3
  have hbw := hr2.obj.lt
  have hgw := hr2.row.lt
  have hsame := Lib.hid (same_rr b g b3 g3 l l w3 hr3m hr3)
  rw [HEQ.out] at hsame
  clear hr2 hB2 hb3
  go_wp2_with fail
  refine (num_any _ _).mono ?_
  rintro e w4 ⟨rfl, rfl⟩
  go_wp2_with fail
  refine (hsame.out).mono ?_
  rintro e w4 ⟨rfl, hb4⟩
  have hB4 := below0 hB3 hb4
  have hr4m := hr3m.below hb4
  have hr4 := hr3.below hb4
  have htx := Lib.hid (HTX.out (.pointer (some ⟨b, 0, none⟩)) w4 (.inr ⟨b, g, rfl, hr4m⟩))
  clear hsame hr3m hr3 hb4 hB3
  go_wp2_with fail
  refine (htx.out).mono ?_
  rintro e w5 ⟨rfl, hb5⟩
  have hB5 := below0 hB4 hb5
  have hr5m := hr4m.below hb5
  have hr5 := hr4.below hb5
  clear htx hr4m hr4 hb5 hB4
  have hM5 : Mk w5 (.pointer (some ⟨b, 0, none⟩)) l := .inr ⟨b, g, rfl, hr5m⟩
  go_wp2_with fail
  go_loopw [9, 10, 11] (fun y z i wr => ∃ k Y Z : Nat, k ≤ s.size ∧ i = .int .i64 k ∧ y = .int .i64 (Y : Int) ∧ z = .int .i64 (Z : Int) ∧ Hid (Y = (l.take k).count true ∧ Z = (l.take k).count false) ∧ Y ≤ k ∧ Z ≤ k ∧ Below w5.heap.size w5 wr) (fun _ _ i _ => s.size - (intOf i).toNat)
  case atStart => exact ⟨0, 0, 0, Nat.zero_le _, rfl, rfl, rfl, Lib.hid (by simp), Nat.le_refl _, Nat.le_refl _, Below.refl _ _⟩
  case round =>
    obtain ⟨k, Y, Z, hk, rfl, rfl, rfl, HYZ, hYk, hZk, hB⟩ := hrel
    by_cases hlt : k < s.size
    · have hkl : k < l.length := by rw [HLS.out]; exact hlt
      have hgb : getB l (k : Int) = l[k] := by
        unfold getB
        rw [if_neg (by omega), Int.toNat_natCast, List.getElem?_eq_getElem hkl]
        rfl
      have HH := Lib.hid (fun (wx : World) (hb : Below w5.heap.size w5 wx) => has_any _ l (k : Int) wx (hM5.below hb))
      rw [hgb] at HH
      have hnc := nth_count l k hkl
      have hc1 := count_next1 l k hkl true
      have hc2 := count_next1 l k hkl false
      obtain ⟨x, hx⟩ : ∃ x, x = l[k] := ⟨_, rfl⟩
      rw [← hx] at HH hnc hc1 hc2
      have hkk : ((k : Int) != (k : Int)) = false := by simp
      cases x
      · rw [← HYZ.out.2] at hnc
        have hNX := Lib.hid (fun (wx : World) (hb : Below w5.heap.size w5 wx) => nth_any _ l (Z : Int) false wx (hM5.below hb) ((HT.out.below hB5).below hb) (by omega))
        rw [hnc] at hNX
        rw [show numO (some k) = (k : Int) from rfl, show (some k).isSome = true from rfl] at hNX
        have HYZ2 : Hid (Y = (l.take (k + 1)).count true ∧ Z + 1 = (l.take (k + 1)).count false) := Lib.hid (by rw [hc1, hc2, ← HYZ.out.1, ← HYZ.out.2]; simp)
        clear hx hnc hc1 hc2 hgb
        go_wp2_with fail
        refine (HH.out _ hB).mono ?_
        rintro e v1 ⟨rfl, hd1⟩
        have hD1 := below0 hB hd1
        go_wp2_with fail
        refine (HH.out _ hD1).mono ?_
        rintro e v2 ⟨rfl, hd2⟩
        have hD2 := below0 hD1 hd2
        go_wp2_with fail
        refine (hNX.out _ hD2).mono ?_
        rintro e v3 ⟨rfl, hd3⟩
        have hD3 := below0 hD2 hd3
        go_wp2_with fail
        refine (HH.out _ hD3).mono ?_
        rintro e v4 ⟨rfl, hd4⟩
        have hD4 := below0 hD3 hd4
        clear hd1 hd2 hd3 hd4 hD1 hD2 hD3
        go_wp2_with fail
        go_roundw
        case rel => exact ⟨k + 1, Y, Z + 1, by omega, by go_num, rfl, by go_num, HYZ2, by omega, by omega, hD4⟩
        case measure => simp [intOf]; omega
      · rw [← HYZ.out.1] at hnc
        have hNX := Lib.hid (fun (wx : World) (hb : Below w5.heap.size w5 wx) => nth_any _ l (Y : Int) true wx (hM5.below hb) ((HT.out.below hB5).below hb) (by omega))
        rw [hnc] at hNX
        rw [show numO (some k) = (k : Int) from rfl, show (some k).isSome = true from rfl] at hNX
        have HYZ2 : Hid (Y + 1 = (l.take (k + 1)).count true ∧ Z = (l.take (k + 1)).count false) := Lib.hid (by rw [hc1, hc2, ← HYZ.out.1, ← HYZ.out.2]; simp)
        clear hx hnc hc1 hc2 hgb
        go_wp2_with fail
        refine (HH.out _ hB).mono ?_
        rintro e v1 ⟨rfl, hd1⟩
        have hD1 := below0 hB hd1
        go_wp2_with fail
        refine (HH.out _ hD1).mono ?_
        rintro e v2 ⟨rfl, hd2⟩
        have hD2 := below0 hD1 hd2
        go_wp2_with fail
        refine (hNX.out _ hD2).mono ?_
        rintro e v3 ⟨rfl, hd3⟩
        have hD3 := below0 hD2 hd3
        go_wp2_with fail
        refine (HH.out _ hD3).mono ?_
        rintro e v4 ⟨rfl, hd4⟩
        have hD4 := below0 hD3 hd4
        clear hd1 hd2 hd3 hd4 hD1 hD2 hD3
        go_wp2_with fail
        go_roundw
        case rel => exact ⟨k + 1, Y + 1, Z, by omega, by go_num, by go_num, rfl, HYZ2, by omega, by omega, hD4⟩
        case measure => simp [intOf]; omega
    · obtain rfl : k = s.size := by omega
      have hY : l.count true = Y := by have := HYZ.out.1; rw [List.take_of_length_le (by rw [HLS.out]; exact Nat.le_refl _)] at this; exact this.symm
      have hZ : l.count false = Z := by have := HYZ.out.2; rw [List.take_of_length_le (by rw [HLS.out]; exact Nat.le_refl _)] at this; exact this.symm
      have hYZ2 : Y + Z = s.size := by rw [← hY, ← hZ, count_both, HLS.out]
      have hYy : ((Y : Int) == (Y : Int)) = true := by simp
      have hCT := Lib.hid (fun (wx : World) (hM : Mk wx (.pointer (some ⟨b, 0, none⟩)) l) => count_any _ l wx hM)
      rw [hY] at hCT
      clear hY hZ
      by_cases ha : at_ < 0 ∨ (s.size : Int) ≤ at_
      · have hbo : (decide (at_ < 0) = true) ∨ (decide (at_ < 0) = false ∧ decide ((s.size : Int) ≤ at_) = true) := by
          by_cases h0 : at_ < 0
          · exact .inl (decide_eq_true h0)
          · exact .inr ⟨decide_eq_false h0, decide_eq_true (by omega)⟩
        clear ha
        have hBr := below0 hB5 hB
        have hct := Lib.hid (hCT.out wr (hM5.below hB))
        rcases hbo with f1 | ⟨f1, f2⟩
        all_goals
          go_wp2_with fail
          refine (hct.out).mono ?_
          rintro e w6 ⟨rfl, hb6⟩
          have hB6 := below0 hBr hb6
          go_wp2_with fail
          refine (works_any _ (HT.out.below hB6)).mono ?_
          rintro e w7 ⟨rfl, hb7⟩
          have hB7 := below0 hB6 hb7
          go_wp2_with fail
          go_ret
          exact ⟨rfl, hB7⟩
      · obtain ⟨j, rfl⟩ : ∃ j : Nat, at_ = j := ⟨at_.toNat, by omega⟩
        have f1 : decide ((j : Int) < 0) = false := decide_eq_false (by omega)
        have f2 : decide ((s.size : Int) ≤ (j : Int)) = false := decide_eq_false (by omega)
        have f3 : decide (s.size ≤ j) = false := decide_eq_false (by omega)
        have hjl : j < l.length := by rw [HLS.out]; omega
        have hgb : getB l (j : Int) = l[j] := by
          unfold getB
          rw [if_neg (by omega), Int.toNat_natCast, List.getElem?_eq_getElem hjl]
          rfl
        have hgd : (l[j]?).getD false = l[j] := by rw [List.getElem?_eq_getElem hjl]; rfl
        obtain ⟨x, hx⟩ : ∃ x, x = l[j] := ⟨_, rfl⟩
        rw [← hx] at hgb hgd
        have hset : (l.set j (!x)).set j x = l := by rw [List.set_set, hx]; simp
        have hr6m := hr5m.below hB
        have hr6 := hr5.below hB
        have hBr := below0 hB5 hB
        have hh := Lib.hid (has_any (.pointer (some ⟨b, 0, none⟩)) l (j : Int) wr (.inr ⟨b, g, rfl, hr6m⟩))
        rw [hgb] at hh
        have HGD := Lib.hid hgd
        have HSET := Lib.hid hset
        have HJL := Lib.hid hjl
        have hxx : (x == x) = true := by simp
        have hyl : (Y : Int) + (Z : Int) = (s.size : Int) := by omega
        have hsz : ((s.size : Int) == (s.size : Int)) = true := by simp
        clear ha hx hgd hset hgb hjl hr5m hr5 hB hM5 hYZ2
        have hnx : ((!x) == x) = false := by cases x <;> rfl
        go_wp2_with fail
        refine (hh.out).mono ?_
        rintro e w6 ⟨rfl, hb6⟩
        have hB6 := below0 hBr hb6
        have hs1 := Lib.hid (set_in b g l j (!x) w6 (hr6m.below hb6) HJL.out)
        have hr7b := hr6.below hb6
        clear hr6 hr6m hh hBr
        go_wp2_with fail
        refine (hs1.out).mono ?_
        rintro e w7 ⟨rfl, hr7, hk7⟩
        rw [HGD.out]
        have hgb3 : b3 ≠ g ∧ g3 ≠ g := by
          have := hB5.size
          omega
        have hr7b' := hr7b.keep hk7 hgb3.1 hgb3.2
        have hB7 := keep_below hB6 hk7 hg0
        have hh2 := Lib.hid (has_any (.pointer (some ⟨b, 0, none⟩)) (l.set j (!x)) (j : Int) w7 (.inr ⟨b, g, rfl, hr7⟩))
        rw [getB_set HJL.out] at hh2
        clear hs1 hr7b hB6 hk7 hb6
        go_wp2_with fail
        refine (hh2.out).mono ?_
        rintro e w8 ⟨rfl, hb8⟩
        have hB8 := below0 hB7 hb8
        have hr8b := hr7b'.below hb8
        have hs2 := Lib.hid (set_in b g (l.set j (!x)) j x w8 (hr7.below hb8) (by rw [List.length_set]; exact HJL.out))
        clear hh2 hr7b' hr7 hB7 hb8
        go_wp2_with fail
        refine (hs2.out).mono ?_
        rintro e w9 ⟨rfl, hr9, hk9⟩
        rw [HSET.out] at hr9
        have hr9b := hr8b.keep hk9 hgb3.1 hgb3.2
        have hB9 := keep_below hB8 hk9 hg0
        have hsame := Lib.hid (same_rr b g b3 g3 l l w9 hr9 hr9b)
        rw [HEQ.out] at hsame
        clear hs2 hr8b hB8 hk9
        go_wp2_with fail
        refine (num_any _ _).mono ?_
        rintro e w10 ⟨rfl, rfl⟩
        go_wp2_with fail
        refine (hsame.out).mono ?_
        rintro e w10 ⟨rfl, hb10⟩
        have hB10 := below0 hB9 hb10
        have hM10 : Mk w10 (.pointer (some ⟨b, 0, none⟩)) l := .inr ⟨b, g, rfl, hr9.below hb10⟩
        have hct := Lib.hid (hCT.out w10 hM10)
        clear hsame hr9 hr9b hB9 hb10
        go_wp2_with fail
        refine (hct.out).mono ?_
        rintro e w11 ⟨rfl, hb11⟩
        have hB11 := below0 hB10 hb11
        have hln := Lib.hid (len_any _ l w11 (hM10.below hb11))
        rw [HLS.out] at hln
        go_wp2_with fail
        refine (hln.out).mono ?_
        rintro e w12 ⟨rfl, rfl⟩
        go_wp2_with fail
        refine (works_any _ (HT.out.below hB11)).mono ?_
        rintro e w12 ⟨rfl, hb12⟩
        have hB12 := below0 hB11 hb12
        go_wp2_with fail
        go_ret
        exact ⟨rfl, hB12⟩

theorem bitsHolds_any (s : ByteArray) (at_ : Int) (w : World) (ht : Tab w) (hs : s.size ≤ maxLen) : Calls Tryd.prog 7 #[.string s, .int .i64 at_] w fun e w' => e = .returned (.bool true) ∧ Below w.heap.size w w' := by
  by_cases h : 300 < s.size
  · exact bitsHolds_big s at_ w ht hs h
  · rcases hp : parsed s.data.toList with _ | l
    · exact bitsHolds_none s at_ w ht h hp
    · exact bitsHolds_some s at_ l w ht h hp
end Go.Proofs.YtbiopegophdgiaaDoor
