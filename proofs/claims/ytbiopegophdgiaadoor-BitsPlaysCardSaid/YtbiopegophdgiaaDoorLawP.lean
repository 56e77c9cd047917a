import Derived.Test.YtbiopegophdgiaaDoorIs
namespace Go.Proofs.YtbiopegophdgiaaDoor
open Go.RowKit Go.Shelf
attribute [local go_sem] Oper.semAt_some

/- BITSPLAYS. -/

theorem act_any (b g : Nat) (l : List Bool) (v : Value) (cp : Bool) (at_ : Int) (is : Bool) (w : World) (h : Rep w b g l) (hv : Bl w v l) :
    Calls Tryd.prog 22 #[.pointer (some ⟨b, 0, none⟩), v, actV cp at_ is] w (ActP w b g (actL l cp at_ is)) := by
  cases cp
  · by_cases ha : at_ < 0 ∨ (l.length : Int) ≤ at_
    · rw [actL_out is ha]
      exact act_out b g l v at_ is w h hv ha
    · obtain ⟨k, rfl⟩ : ∃ k : Nat, at_ = k := ⟨at_.toNat, by omega⟩
      rw [show actL l false (k : Int) is = l.set k is by unfold actL; rw [if_neg (by decide), if_neg (by omega), Int.toNat_natCast]]
      exact act_in b g l v k is w h hv (by omega)
  · exact act_copy b g l v at_ is w h hv

theorem Non.keep {w w' : World} {v : Value} {g : Nat} {ws : List Nat} (h : Non w v) (hk : Keep (· = g) w w') (hr : Row w g 73 (wds ws)) : Non w' v := by
  rcases h with h | ⟨b, e, h⟩
  · exact .inl h
  · refine .inr ⟨b, e, hk.row h ?_⟩
    rintro rfl
    have h1 : some _ = some _ := h.symm.trans hr
    simp at h1

/-- calls as they lie in a slice -/
def encAct (x : Bool × Int × Bool) : List Value := [.bool x.1, .int .i64 x.2.1, .bool x.2.2]
theorem act_cells (xs : List (Bool × Int × Bool)) (k : Nat) (h : k < xs.length) :
    (xs.map encAct).flatten[k * 3]? = some (.bool xs[k].1) ∧ (xs.map encAct).flatten[k * 3 + 1]? = some (.int .i64 xs[k].2.1) ∧ (xs.map encAct).flatten[k * 3 + 2]? = some (.bool xs[k].2.2) := by
  induction xs generalizing k with
  | nil => simp at h
  | cons x xs ih =>
    rw [List.map_cons, List.flatten_cons]
    rcases k with _ | k
    · simp [encAct]
    · have hl : (encAct x).length = 3 := rfl
      have := ih k (by simpa using h)
      rw [List.getElem?_append_right (by omega), List.getElem?_append_right (by omega), List.getElem?_append_right (by omega), hl]
      rw [show (k + 1) * 3 - 3 = k * 3 by omega, show (k + 1) * 3 + 1 - 3 = k * 3 + 1 by omega, show (k + 1) * 3 + 2 - 3 = k * 3 + 2 by omega]
      simpa using this

theorem plays_far (n0 : Int) (A : Option Addr) (n c : Nat) (w : World) (ht : Tab w) (hm : n ≤ maxLen) (h : 60 < n) : Calls Tryd.prog 3 #[.int .i64 n0, .slice A n c] w fun e w' => e = .returned (.bool true) ∧ Below w.heap.size w w' := by
  have HT := Lib.hid ht
  unfold maxLen at hm
  have e1 : decide (60 < n) = true := decide_eq_true h
  have e2 : decide ((60 : Int) < (n : Int)) = true := decide_eq_true (by omega)
  clear h ht
  go_enter Tryd.func3, Tryd.ntmps3
  go_wp2_with fail
  refine (works_any _ HT.out).mono ?_
  rintro e w1 ⟨rfl, hb1⟩
  go_wp2_with fail
  go_ret
  exact ⟨rfl, hb1⟩

set_option maxHeartbeats 4000000 in
theorem plays_no (n0 : Int) (A : Option Addr) (n c : Nat) (w : World) (ht : Tab w) (h : n ≤ 60) (hn : n0 < 0 ∨ 4096 < n0) : Calls Tryd.prog 3 #[.int .i64 n0, .slice A n c] w fun e w' => e = .returned (.bool true) ∧ Below w.heap.size w w' := by
  have HT := Lib.hid ht
  have e1 : decide (60 < n) = false := decide_eq_false (by omega)
  have e2 : decide ((60 : Int) < (n : Int)) = false := decide_eq_false (by omega)
  have h1 := Lib.hid (fun w => new_no n0 w hn)
  have h2 := Lib.hid (fun w => refnew_no n0 w hn)
  have hpar : ((n : Int) % 2 == 1) = true ∨ ((n : Int) % 2 == 1) = false := by cases ((n : Int) % 2 == 1) <;> simp
  have HALL := Lib.hid (fun (m : Value) (wx : World) (hN : Non wx m) (ht : Tab wx) => all_any m [] 9 wx (.inl ⟨hN, rfl⟩) ht (by omega) (by omega))
  rw [show (idxs 0 []).take 9 = [] from rfl] at HALL
  have HTX := Lib.hid (fun (m : Value) (wx : World) (hN : Non wx m) => text_any m [] wx (.inl ⟨hN, rfl⟩))
  rw [show str (txb []) = ⟨#[]⟩ from rfl] at HTX
  have HNTH := Lib.hid (fun (m : Value) (wx : World) (hN : Non wx m) (ht : Tab wx) => nth_any m [] 0 false wx (.inl ⟨hN, rfl⟩) ht (by omega))
  rw [show nthR [] 0 false = none from rfl, show numO none = 0 from rfl, show (none : Option Nat).isSome = false from rfl] at HNTH
  have HNXT := Lib.hid (fun (m : Value) (wx : World) (hN : Non wx m) (ht : Tab wx) => next_any m [] 0 false wx (.inl ⟨hN, rfl⟩) ht)
  rw [show nextR [] 0 false = none from rfl, show numO none = 0 from rfl, show (none : Option Nat).isSome = false from rfl] at HNXT
  have HLEN := Lib.hid (fun (m : Value) (wx : World) (hN : Non wx m) => len_any m [] wx (.inl ⟨hN, rfl⟩))
  have HCNT := Lib.hid (fun (m : Value) (wx : World) (hN : Non wx m) => count_any m [] wx (.inl ⟨hN, rfl⟩))
  clear h ht hn
  rcases hpar with hpar | hpar
  · have hN : Non (w.alloc (.cells #[.int .i64 0, .slice none 0 0, .bool false] 34)) (.pointer (some ⟨w.heap.size, 0, none⟩)) := .inr ⟨_, rfl, Row.new w 34 [.int .i64 0, .slice none 0 0, .bool false]⟩
    have HBW := Lib.hid (below1 w (.cells #[.int .i64 0, .slice none 0 0, .bool false] 34))
    have HTW := Lib.hid (HT.out.below HBW.out)
    go_enter Tryd.func3, Tryd.ntmps3
    go_wp2_with fail
    refine (h1.out _).mono ?_
    rintro e w1 ⟨rfl, rfl⟩
    go_wp2_with fail
    refine (h2.out _).mono ?_
    rintro e w1 ⟨rfl, rfl⟩
    go_wp2_with fail
    refine (set_non _ 0 true _ hN).mono ?_
    rintro e x1 ⟨rfl, hD1⟩
    have hN1 := hN.below hD1
    go_wp2_with fail
    refine (HNTH.out _ x1 hN1 (HTW.out.below hD1)).mono ?_
    rintro e x2 ⟨rfl, hd⟩
    have hD2 := below0 hD1 hd
    have hN2 := hN1.below hd
    clear hd hN1 hD1
    go_wp2_with fail
    refine (HNXT.out _ x2 hN2 (HTW.out.below hD2)).mono ?_
    rintro e x3 ⟨rfl, hd⟩
    have hD3 := below0 hD2 hd
    have hN3 := hN2.below hd
    clear hd hN2 hD2
    go_wp2_with fail
    refine (num_any _ _).mono ?_
    rintro e x4 ⟨rfl, rfl⟩
    go_wp2_with fail
    refine (has_none _ 0 x3 hN3).mono ?_
    rintro e x4 ⟨rfl, hd⟩
    have hD4 := below0 hD3 hd
    have hN4 := hN3.below hd
    clear hd hN3 hD3
    go_wp2_with fail
    refine (HLEN.out _ x4 hN4).mono ?_
    rintro e x5 ⟨rfl, rfl⟩
    go_wp2_with fail
    refine (HCNT.out _ x4 hN4).mono ?_
    rintro e x5 ⟨rfl, hd⟩
    have hD5 := below0 hD4 hd
    have hN5 := hN4.below hd
    clear hd hN4 hD4
    go_wp2_with fail
    refine (HALL.out _ x5 hN5 (HTW.out.below hD5)).mono ?_
    rintro e x6 ⟨v6, rfl, hi6, hd⟩
    have hD6 := below0 hD5 hd
    have hN6 := hN5.below hd
    obtain ⟨A6, c6, rfl, hs6⟩ := hi6
    clear hd hN5 hD5 hs6
    go_wp2_with fail
    refine (HTX.out _ x6 hN6).mono ?_
    rintro e x7 ⟨rfl, hd⟩
    have hD7 := below0 hD6 hd
    have hN7 := hN6.below hd
    clear hd hN6 hD6
    go_wp2_with fail
    refine (copy_non _ x7 hN7).mono ?_
    rintro e x8 ⟨rfl, rfl⟩
    go_wp2_with fail
    refine (same_nn _ _ x7 hN7 (.inl rfl)).mono ?_
    rintro e x8 ⟨rfl, rfl⟩
    go_wp2_with fail
    refine (same_nn _ _ x7 (.inl rfl) hN7).mono ?_
    rintro e x8 ⟨rfl, rfl⟩
    go_wp2_with fail
    refine (num_any _ _).mono ?_
    rintro e x8 ⟨rfl, rfl⟩
    have hB7 := HBW.out.trans (hD7.mono HBW.out.size)
    go_wp2_with fail
    refine (works_any _ (HT.out.below hB7)).mono ?_
    rintro e w8 ⟨rfl, hb8⟩
    have hB8 := below0 hB7 hb8
    go_wp2_with fail
    go_ret
    exact ⟨rfl, hB8⟩
  · have hN : Non w (.pointer none) := .inl rfl
    have HBW := Lib.hid (Below.refl w.heap.size w)
    have HTW := HT
    go_enter Tryd.func3, Tryd.ntmps3
    go_wp2_with fail
    refine (h1.out _).mono ?_
    rintro e w1 ⟨rfl, rfl⟩
    go_wp2_with fail
    refine (h2.out _).mono ?_
    rintro e w1 ⟨rfl, rfl⟩
    go_wp2_with fail
    refine (set_non _ 0 true _ hN).mono ?_
    rintro e x1 ⟨rfl, hD1⟩
    have hN1 := hN.below hD1
    go_wp2_with fail
    refine (HNTH.out _ x1 hN1 (HTW.out.below hD1)).mono ?_
    rintro e x2 ⟨rfl, hd⟩
    have hD2 := below0 hD1 hd
    have hN2 := hN1.below hd
    clear hd hN1 hD1
    go_wp2_with fail
    refine (HNXT.out _ x2 hN2 (HTW.out.below hD2)).mono ?_
    rintro e x3 ⟨rfl, hd⟩
    have hD3 := below0 hD2 hd
    have hN3 := hN2.below hd
    clear hd hN2 hD2
    go_wp2_with fail
    refine (num_any _ _).mono ?_
    rintro e x4 ⟨rfl, rfl⟩
    go_wp2_with fail
    refine (has_none _ 0 x3 hN3).mono ?_
    rintro e x4 ⟨rfl, hd⟩
    have hD4 := below0 hD3 hd
    have hN4 := hN3.below hd
    clear hd hN3 hD3
    go_wp2_with fail
    refine (HLEN.out _ x4 hN4).mono ?_
    rintro e x5 ⟨rfl, rfl⟩
    go_wp2_with fail
    refine (HCNT.out _ x4 hN4).mono ?_
    rintro e x5 ⟨rfl, hd⟩
    have hD5 := below0 hD4 hd
    have hN5 := hN4.below hd
    clear hd hN4 hD4
    go_wp2_with fail
    refine (HALL.out _ x5 hN5 (HTW.out.below hD5)).mono ?_
    rintro e x6 ⟨v6, rfl, hi6, hd⟩
    have hD6 := below0 hD5 hd
    have hN6 := hN5.below hd
    obtain ⟨A6, c6, rfl, hs6⟩ := hi6
    clear hd hN5 hD5 hs6
    go_wp2_with fail
    refine (HTX.out _ x6 hN6).mono ?_
    rintro e x7 ⟨rfl, hd⟩
    have hD7 := below0 hD6 hd
    have hN7 := hN6.below hd
    clear hd hN6 hD6
    go_wp2_with fail
    refine (copy_non _ x7 hN7).mono ?_
    rintro e x8 ⟨rfl, rfl⟩
    go_wp2_with fail
    refine (same_nn _ _ x7 hN7 (.inl rfl)).mono ?_
    rintro e x8 ⟨rfl, rfl⟩
    go_wp2_with fail
    refine (same_nn _ _ x7 (.inl rfl) hN7).mono ?_
    rintro e x8 ⟨rfl, rfl⟩
    go_wp2_with fail
    refine (num_any _ _).mono ?_
    rintro e x8 ⟨rfl, rfl⟩
    have hB7 := HBW.out.trans (hD7.mono HBW.out.size)
    go_wp2_with fail
    refine (works_any _ (HT.out.below hB7)).mono ?_
    rintro e w8 ⟨rfl, hb8⟩
    have hB8 := below0 hB7 hb8
    go_wp2_with fail
    go_ret
    exact ⟨rfl, hB8⟩
def PlayJ (w : World) (V : Value) (_ _ : Nat) (m v : Value) (wr : World) : Prop :=
  ∃ b g cur, m = .pointer (some ⟨b, 0, none⟩) ∧ Rep wr b g cur ∧ Bl wr v cur ∧ w.heap.size ≤ b ∧ w.heap.size ≤ g ∧ Non wr V ∧ Below w.heap.size w wr
theorem add_off (a : Addr) (m j : Nat) (hj : j ≠ 0) : a.add (m + j) = ⟨(a.add m).block, (a.add m).off + j, none⟩ := by
  unfold Addr.add
  rw [if_neg (by omega)]
  split
  · rename_i h; subst h; simp
  · simp; omega
theorem flat_len (xs : List (Bool × Int × Bool)) : (xs.map encAct).flatten.length = xs.length * 3 := by
  induction xs with
  | nil => rfl
  | cons x xs ih =>
    rw [List.map_cons, List.flatten_cons, List.length_append, ih, List.length_cons]
    show 3 + _ = _
    omega

set_option maxHeartbeats 4000000 in
theorem plays_ok (many : Nat) (xs : List (Bool × Int × Bool)) (A : Option Addr) (n c : Nat) (w : World) (ht : Tab w) (h : n ≤ 60) (hn : many ≤ 4096) (hx : n = xs.length) (hs : Sees w w.heap.size A (xs.map encAct).flatten) : Calls Tryd.prog 3 #[.int .i64 (many : Int), .slice A n c] w fun e w' => e = .returned (.bool true) ∧ Below w.heap.size w w' := by
  have HT := Lib.hid ht
  have e1 : decide (60 < n) = false := decide_eq_false (by omega)
  have e2 : decide ((60 : Int) < (n : Int)) = false := decide_eq_false (by omega)
  have h1 := Lib.hid (fun w => new_ok many w hn)
  have h2 := Lib.hid (fun w => refnew_ok many w hn)
  have hpar : ((n : Int) % 2 == 1) = true ∨ ((n : Int) % 2 == 1) = false := by cases ((n : Int) % 2 == 1) <;> simp
  have HALL := Lib.hid (fun (m : Value) (wx : World) (hN : Non wx m) (ht : Tab wx) => all_any m [] 9 wx (.inl ⟨hN, rfl⟩) ht (by omega) (by omega))
  rw [show (idxs 0 []).take 9 = [] from rfl] at HALL
  have HTX := Lib.hid (fun (m : Value) (wx : World) (hN : Non wx m) => text_any m [] wx (.inl ⟨hN, rfl⟩))
  rw [show str (txb []) = ⟨#[]⟩ from rfl] at HTX
  have HNTH := Lib.hid (fun (m : Value) (wx : World) (hN : Non wx m) (ht : Tab wx) => nth_any m [] 0 false wx (.inl ⟨hN, rfl⟩) ht (by omega))
  rw [show nthR [] 0 false = none from rfl, show numO none = 0 from rfl, show (none : Option Nat).isSome = false from rfl] at HNTH
  have HNXT := Lib.hid (fun (m : Value) (wx : World) (hN : Non wx m) (ht : Tab wx) => next_any m [] 0 false wx (.inl ⟨hN, rfl⟩) ht)
  rw [show nextR [] 0 false = none from rfl, show numO none = 0 from rfl, show (none : Option Nat).isSome = false from rfl] at HNXT
  have HLEN := Lib.hid (fun (m : Value) (wx : World) (hN : Non wx m) => len_any m [] wx (.inl ⟨hN, rfl⟩))
  have HCNT := Lib.hid (fun (m : Value) (wx : World) (hN : Non wx m) => count_any m [] wx (.inl ⟨hN, rfl⟩))
  have hS := Lib.hid hs
  have HX := Lib.hid hx
  clear ht hn hx hs
  rcases hpar with hpar | hpar
  · go_enter Tryd.func3, Tryd.ntmps3
    go_wp2_with fail
    refine (h1.out _).mono ?_
    rintro e w1 ⟨b0, g0, rfl, hb0, hg0, hr1, hb1⟩
    go_wp2_with fail
    refine (h2.out _).mono ?_
    rintro e w2 ⟨v0, rfl, hv2, hb2⟩
    have hB2 := below0 hb1 hb2
    have hr2 := hr1.below hb2
    clear hr1 hb1 hb2
    have hN : Non (w2.alloc (.cells #[.int .i64 0, .slice none 0 0, .bool false] 34)) (.pointer (some ⟨w2.heap.size, 0, none⟩)) := .inr ⟨_, rfl, Row.new w2 34 [.int .i64 0, .slice none 0 0, .bool false]⟩
    have hbw := below1 w2 (.cells #[.int .i64 0, .slice none 0 0, .bool false] 34)
    have HBW := Lib.hid (below0 hB2 hbw)
    have HTW := Lib.hid (HT.out.below HBW.out)
    have hrW := hr2.below hbw
    have hvW := hv2.below hbw
    clear hr2 hv2 hbw hB2
    go_wp2_with fail
    refine (set_non _ 0 true _ hN).mono ?_
    rintro e x1 ⟨rfl, hD1⟩
    have hN1 := hN.below hD1
    go_wp2_with fail
    refine (HNTH.out _ x1 hN1 (HTW.out.below hD1)).mono ?_
    rintro e x2 ⟨rfl, hd⟩
    have hD2 := below0 hD1 hd
    have hN2 := hN1.below hd
    clear hd hN1 hD1
    go_wp2_with fail
    refine (HNXT.out _ x2 hN2 (HTW.out.below hD2)).mono ?_
    rintro e x3 ⟨rfl, hd⟩
    have hD3 := below0 hD2 hd
    have hN3 := hN2.below hd
    clear hd hN2 hD2
    go_wp2_with fail
    refine (num_any _ _).mono ?_
    rintro e x4 ⟨rfl, rfl⟩
    go_wp2_with fail
    refine (has_none _ 0 x3 hN3).mono ?_
    rintro e x4 ⟨rfl, hd⟩
    have hD4 := below0 hD3 hd
    have hN4 := hN3.below hd
    clear hd hN3 hD3
    go_wp2_with fail
    refine (HLEN.out _ x4 hN4).mono ?_
    rintro e x5 ⟨rfl, rfl⟩
    go_wp2_with fail
    refine (HCNT.out _ x4 hN4).mono ?_
    rintro e x5 ⟨rfl, hd⟩
    have hD5 := below0 hD4 hd
    have hN5 := hN4.below hd
    clear hd hN4 hD4
    go_wp2_with fail
    refine (HALL.out _ x5 hN5 (HTW.out.below hD5)).mono ?_
    rintro e x6 ⟨v6, rfl, hi6, hd⟩
    have hD6 := below0 hD5 hd
    have hN6 := hN5.below hd
    obtain ⟨A6, c6, rfl, hs6⟩ := hi6
    clear hd hN5 hD5 hs6
    go_wp2_with fail
    refine (HTX.out _ x6 hN6).mono ?_
    rintro e x7 ⟨rfl, hd⟩
    have hD7 := below0 hD6 hd
    have hN7 := hN6.below hd
    clear hd hN6 hD6
    go_wp2_with fail
    refine (copy_non _ x7 hN7).mono ?_
    rintro e x8 ⟨rfl, rfl⟩
    go_wp2_with fail
    refine (same_nn _ _ x7 hN7 (.inl rfl)).mono ?_
    rintro e x8 ⟨rfl, rfl⟩
    go_wp2_with fail
    refine (same_nn _ _ x7 (.inl rfl) hN7).mono ?_
    rintro e x8 ⟨rfl, rfl⟩
    go_wp2_with fail
    have hr7 := hrW.below hD7
    have hv7 := hvW.below hD7
    have hB7 := HBW.out.trans (hD7.mono HBW.out.size)
    have hJ : PlayJ w (.pointer (some ⟨w2.heap.size, 0, none⟩)) 0 0 (.pointer (some ⟨b0, 0, none⟩)) v0 x7 := ⟨b0, g0, _, rfl, hr7, hv7, hb0, hg0, hN7, hB7⟩
    clear hrW hvW hr7 hv7 hB7 hN7 hD7
    go_loopw [5, 7, 16] (fun m v i wr => ∃ k : Nat, k ≤ n ∧ i = .int .i64 k ∧ PlayJ w (.pointer (some ⟨w2.heap.size, 0, none⟩)) 0 0 m v wr) (fun _ _ i _ => n - (intOf i).toNat)
    case atStart => exact ⟨0, Nat.zero_le _, rfl, hJ⟩
    case round =>
      obtain ⟨k, hk, rfl, b, g, cur, rfl, hr, hv0, hbb, hgg, hNr, hB⟩ := hrel
      obtain ⟨Av, cv, rfl, hsv⟩ := hv0
      have hv : Bl wr (.slice Av cur.length cv) cur := ⟨Av, cv, rfl, hsv⟩
      clear hsv
      clear hJ
      by_cases hlt : k < n
      · obtain ⟨ad, rfl, hadb, hcs⟩ := hS.out (fun e => by rw [HX.out] at hlt; exact absurd (congrArg List.length e) (by rw [flat_len]; simp; omega))
        have hkx : k < xs.length := by rw [← HX.out]; exact hlt
        obtain ⟨q0, q1, q2⟩ := act_cells xs k hkx
        have c0 := (hB.cell (by rw [add_block]; exact hadb)).trans (hcs _ _ q0)
        have c1 := (hB.cell (by rw [add_block]; exact hadb)).trans (hcs _ _ q1)
        have c2 := (hB.cell (by rw [add_block]; exact hadb)).trans (hcs _ _ q2)
        obtain ⟨cp, hcp⟩ : ∃ cp, cp = xs[k].1 := ⟨_, rfl⟩
        obtain ⟨at_, hat⟩ : ∃ at_, at_ = xs[k].2.1 := ⟨_, rfl⟩
        obtain ⟨is, his⟩ : ∃ is, is = xs[k].2.2 := ⟨_, rfl⟩
        rw [← hcp] at c0
        rw [← hat, add_off ad (k * 3) 1 (by decide)] at c1
        rw [← his, add_off ad (k * 3) 2 (by decide)] at c2
        clear hcp hat his q0 q1 q2 hcs
        have hac := Lib.hid (act_any b g cur _ cp at_ is wr hr hv)
        have HRW := Lib.hid hr.row
        have HNR := Lib.hid hNr
        clear hr hv hNr
        go_wp2_with fail
        refine (hac.out).mono ?_
        rintro e wa ⟨b', g', v', rfl, hbg, hr', hv', hk'⟩
        have hBa := keep_below hB hk' hgg
        have hNa := HNR.out.keep hk' HRW.out
        have hfin : Hid (PlayJ w (.pointer (some ⟨w2.heap.size, 0, none⟩)) 0 0 (.pointer (some ⟨b', 0, none⟩)) v' wa) := Lib.hid ⟨b', g', _, rfl, hr', hv', by have := hB.size; omega, by have := hB.size; omega, hNa, hBa⟩
        clear hbg hr' hv' hk' hBa hNa hac
        go_wp2_with fail
        go_roundw
        case rel => exact ⟨k + 1, by omega, by go_num, hfin.out⟩
        case measure => simp [intOf]; omega
      · obtain rfl : k = n := by omega
        have hi := Lib.hid (is_any (.pointer (some ⟨b, 0, none⟩)) _ cur wr (.inr ⟨b, g, rfl, hr⟩) hv (HT.out.below hB))
        have hs1 := Lib.hid (fun (wx : World) (hN : Non wx (.pointer (some ⟨w2.heap.size, 0, none⟩))) (hR : Rep wx b g cur) => same_rn (.pointer (some ⟨w2.heap.size, 0, none⟩)) b g cur wx hN hR)
        have hs2 := Lib.hid (fun (wx : World) (hN : Non wx (.pointer (some ⟨w2.heap.size, 0, none⟩))) (hR : Rep wx b g cur) => same_nr (.pointer (some ⟨w2.heap.size, 0, none⟩)) b g cur wx hN hR)
        have HR := Lib.hid hr
        have HNR := Lib.hid hNr
        clear hr hv hNr
        go_wp2_with fail
        refine (num_any _ _).mono ?_
        rintro e y1 ⟨rfl, rfl⟩
        go_wp2_with fail
        refine (hi.out).mono ?_
        rintro e y1 ⟨rfl, hd1⟩
        have hBy := below0 hB hd1
        go_wp2_with fail
        refine (hs1.out _ (HNR.out.below hd1) (HR.out.below hd1)).mono ?_
        rintro e y2 ⟨rfl, rfl⟩
        go_wp2_with fail
        refine (hs2.out _ (HNR.out.below hd1) (HR.out.below hd1)).mono ?_
        rintro e y2 ⟨rfl, rfl⟩
        go_wp2_with fail
        refine (works_any _ (HT.out.below hBy)).mono ?_
        rintro e y3 ⟨rfl, hd3⟩
        have hB3 := below0 hBy hd3
        go_wp2_with fail
        go_ret
        exact ⟨rfl, hB3⟩
  · go_enter Tryd.func3, Tryd.ntmps3
    go_wp2_with fail
    refine (h1.out _).mono ?_
    rintro e w1 ⟨b0, g0, rfl, hb0, hg0, hr1, hb1⟩
    go_wp2_with fail
    refine (h2.out _).mono ?_
    rintro e w2 ⟨v0, rfl, hv2, hb2⟩
    have hB2 := below0 hb1 hb2
    have hr2 := hr1.below hb2
    clear hr1 hb1 hb2
    have hN : Non w2 (.pointer none) := .inl rfl
    have HBW := Lib.hid hB2
    have HTW := Lib.hid (HT.out.below HBW.out)
    have hrW := hr2
    have hvW := hv2
    clear hr2 hv2 hB2
    go_wp2_with fail
    refine (set_non _ 0 true _ hN).mono ?_
    rintro e x1 ⟨rfl, hD1⟩
    have hN1 := hN.below hD1
    go_wp2_with fail
    refine (HNTH.out _ x1 hN1 (HTW.out.below hD1)).mono ?_
    rintro e x2 ⟨rfl, hd⟩
    have hD2 := below0 hD1 hd
    have hN2 := hN1.below hd
    clear hd hN1 hD1
    go_wp2_with fail
    refine (HNXT.out _ x2 hN2 (HTW.out.below hD2)).mono ?_
    rintro e x3 ⟨rfl, hd⟩
    have hD3 := below0 hD2 hd
    have hN3 := hN2.below hd
    clear hd hN2 hD2
    go_wp2_with fail
    refine (num_any _ _).mono ?_
    rintro e x4 ⟨rfl, rfl⟩
    go_wp2_with fail
    refine (has_none _ 0 x3 hN3).mono ?_
    rintro e x4 ⟨rfl, hd⟩
    have hD4 := below0 hD3 hd
    have hN4 := hN3.below hd
    clear hd hN3 hD3
    go_wp2_with fail
    refine (HLEN.out _ x4 hN4).mono ?_
    rintro e x5 ⟨rfl, rfl⟩
    go_wp2_with fail
    refine (HCNT.out _ x4 hN4).mono ?_
    rintro e x5 ⟨rfl, hd⟩
    have hD5 := below0 hD4 hd
    have hN5 := hN4.below hd
    clear hd hN4 hD4
    go_wp2_with fail
    refine (HALL.out _ x5 hN5 (HTW.out.below hD5)).mono ?_
    rintro e x6 ⟨v6, rfl, hi6, hd⟩
    have hD6 := below0 hD5 hd
    have hN6 := hN5.below hd
    obtain ⟨A6, c6, rfl, hs6⟩ := hi6
    clear hd hN5 hD5 hs6
    go_wp2_with fail
    refine (HTX.out _ x6 hN6).mono ?_
    rintro e x7 ⟨rfl, hd⟩
    have hD7 := below0 hD6 hd
    have hN7 := hN6.below hd
    clear hd hN6 hD6
    go_wp2_with fail
    refine (copy_non _ x7 hN7).mono ?_
    rintro e x8 ⟨rfl, rfl⟩
    go_wp2_with fail
    refine (same_nn _ _ x7 hN7 (.inl rfl)).mono ?_
    rintro e x8 ⟨rfl, rfl⟩
    go_wp2_with fail
    refine (same_nn _ _ x7 (.inl rfl) hN7).mono ?_
    rintro e x8 ⟨rfl, rfl⟩
    go_wp2_with fail
    have hr7 := hrW.below hD7
    have hv7 := hvW.below hD7
    have hB7 := HBW.out.trans (hD7.mono HBW.out.size)
    have hJ : PlayJ w (.pointer none) 0 0 (.pointer (some ⟨b0, 0, none⟩)) v0 x7 := ⟨b0, g0, _, rfl, hr7, hv7, hb0, hg0, hN7, hB7⟩
    clear hrW hvW hr7 hv7 hB7 hN7 hD7
    go_loopw [5, 7, 16] (fun m v i wr => ∃ k : Nat, k ≤ n ∧ i = .int .i64 k ∧ PlayJ w (.pointer none) 0 0 m v wr) (fun _ _ i _ => n - (intOf i).toNat)
    case atStart => exact ⟨0, Nat.zero_le _, rfl, hJ⟩
    case round =>
      obtain ⟨k, hk, rfl, b, g, cur, rfl, hr, hv0, hbb, hgg, hNr, hB⟩ := hrel
      obtain ⟨Av, cv, rfl, hsv⟩ := hv0
      have hv : Bl wr (.slice Av cur.length cv) cur := ⟨Av, cv, rfl, hsv⟩
      clear hsv
      clear hJ
      by_cases hlt : k < n
      · obtain ⟨ad, rfl, hadb, hcs⟩ := hS.out (fun e => by rw [HX.out] at hlt; exact absurd (congrArg List.length e) (by rw [flat_len]; simp; omega))
        have hkx : k < xs.length := by rw [← HX.out]; exact hlt
        obtain ⟨q0, q1, q2⟩ := act_cells xs k hkx
        have c0 := (hB.cell (by rw [add_block]; exact hadb)).trans (hcs _ _ q0)
        have c1 := (hB.cell (by rw [add_block]; exact hadb)).trans (hcs _ _ q1)
        have c2 := (hB.cell (by rw [add_block]; exact hadb)).trans (hcs _ _ q2)
        obtain ⟨cp, hcp⟩ : ∃ cp, cp = xs[k].1 := ⟨_, rfl⟩
        obtain ⟨at_, hat⟩ : ∃ at_, at_ = xs[k].2.1 := ⟨_, rfl⟩
        obtain ⟨is, his⟩ : ∃ is, is = xs[k].2.2 := ⟨_, rfl⟩
        rw [← hcp] at c0
        rw [← hat, add_off ad (k * 3) 1 (by decide)] at c1
        rw [← his, add_off ad (k * 3) 2 (by decide)] at c2
        clear hcp hat his q0 q1 q2 hcs
        have hac := Lib.hid (act_any b g cur _ cp at_ is wr hr hv)
        have HRW := Lib.hid hr.row
        have HNR := Lib.hid hNr
        clear hr hv hNr
        go_wp2_with fail
        refine (hac.out).mono ?_
        rintro e wa ⟨b', g', v', rfl, hbg, hr', hv', hk'⟩
        have hBa := keep_below hB hk' hgg
        have hNa := HNR.out.keep hk' HRW.out
        have hfin : Hid (PlayJ w (.pointer none) 0 0 (.pointer (some ⟨b', 0, none⟩)) v' wa) := Lib.hid ⟨b', g', _, rfl, hr', hv', by have := hB.size; omega, by have := hB.size; omega, hNa, hBa⟩
        clear hbg hr' hv' hk' hBa hNa hac
        go_wp2_with fail
        go_roundw
        case rel => exact ⟨k + 1, by omega, by go_num, hfin.out⟩
        case measure => simp [intOf]; omega
      · obtain rfl : k = n := by omega
        have hi := Lib.hid (is_any (.pointer (some ⟨b, 0, none⟩)) _ cur wr (.inr ⟨b, g, rfl, hr⟩) hv (HT.out.below hB))
        have hs1 := Lib.hid (fun (wx : World) (hN : Non wx (.pointer none)) (hR : Rep wx b g cur) => same_rn (.pointer none) b g cur wx hN hR)
        have hs2 := Lib.hid (fun (wx : World) (hN : Non wx (.pointer none)) (hR : Rep wx b g cur) => same_nr (.pointer none) b g cur wx hN hR)
        have HR := Lib.hid hr
        have HNR := Lib.hid hNr
        clear hr hv hNr
        go_wp2_with fail
        refine (num_any _ _).mono ?_
        rintro e y1 ⟨rfl, rfl⟩
        go_wp2_with fail
        refine (hi.out).mono ?_
        rintro e y1 ⟨rfl, hd1⟩
        have hBy := below0 hB hd1
        go_wp2_with fail
        refine (hs1.out _ (HNR.out.below hd1) (HR.out.below hd1)).mono ?_
        rintro e y2 ⟨rfl, rfl⟩
        go_wp2_with fail
        refine (hs2.out _ (HNR.out.below hd1) (HR.out.below hd1)).mono ?_
        rintro e y2 ⟨rfl, rfl⟩
        go_wp2_with fail
        refine (works_any _ (HT.out.below hBy)).mono ?_
        rintro e y3 ⟨rfl, hd3⟩
        have hB3 := below0 hBy hd3
        go_wp2_with fail
        go_ret
        exact ⟨rfl, hB3⟩

theorem bitsPlays_any (n0 : Int) (xs : List (Bool × Int × Bool)) (A : Option Addr) (n c : Nat) (w : World) (ht : Tab w) (hm : n ≤ maxLen) (hx : n = xs.length) (hs : Sees w w.heap.size A (xs.map encAct).flatten) : Calls Tryd.prog 3 #[.int .i64 n0, .slice A n c] w fun e w' => e = .returned (.bool true) ∧ Below w.heap.size w w' := by
  by_cases h : 60 < n
  · exact plays_far n0 A n c w ht hm h
  · by_cases hn : n0 < 0 ∨ 4096 < n0
    · exact plays_no n0 A n c w ht (by omega) hn
    · obtain ⟨many, rfl⟩ : ∃ many : Nat, n0 = many := ⟨n0.toNat, by omega⟩
      exact plays_ok many xs A n c w ht (by omega) (by omega) hx hs
end Go.Proofs.YtbiopegophdgiaaDoor
