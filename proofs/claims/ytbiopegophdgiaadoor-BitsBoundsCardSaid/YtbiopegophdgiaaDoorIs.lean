import Derived.Test.YtbiopegophdgiaaDoorWorks
namespace Go.Proofs.YtbiopegophdgiaaDoor
open Go.RowKit Go.Shelf
attribute [local go_sem] Oper.semAt_some

/- DO MARKS STAND AS THE DOCUMENT'S? -/

set_option maxHeartbeats 1000000 in
theorem is_any (m v : Value) (l : List Bool) (w : World) (hM : Mk w m l) (hv : Bl w v l) (ht : Tab w) :
    Calls Tryd.prog 23 #[m, v] w fun e w' => e = .returned (.bool true) ∧ Below w.heap.size w w' := by
  obtain ⟨A, c, rfl, hr⟩ := hv
  have hmost := hM.most
  have hp := Lib.hid (places_ref l true A c w hmost hr)
  rw [such_true] at hp
  have hlen := Lib.hid (len_any m l)
  have hcnt := Lib.hid (count_any m l)
  have htx := Lib.hid (text_any m l)
  obtain ⟨q, hq⟩ : ∃ q, q = l.count true := ⟨_, rfl⟩
  have hqi : (idxs 0 l).length = q := by rw [idxs_len, hq]
  have hq2 : q ≤ 4096 := by rw [hq]; have := List.count_le_length (a := true) (l := l); omega
  have HALL := Lib.hid (fun (w1 : World) (hM1 : Mk w1 m l) (ht1 : Tab w1) => all_any m l 5000 w1 hM1 ht1 (by omega) (by omega))
  have hyt : (idxs 0 l).take 5000 = idxs 0 l := List.take_of_length_le (by omega)
  rw [hyt] at HALL
  rw [← hq] at hcnt
  have HTR := Lib.hid (fun (w1 : World) (hb : Below w.heap.size w w1) => text_ref l A c w1 hmost ((hr.below hb).more hb.size))
  obtain ⟨s, hs⟩ : ∃ s, s = str (txb l) := ⟨_, rfl⟩
  rw [← hs] at htx HTR
  obtain ⟨n, hn⟩ : ∃ n, n = l.length := ⟨_, rfl⟩
  rw [← hn] at hp hlen HTR ⊢
  obtain ⟨ys, hys⟩ : ∃ ys, ys = idxs 0 l := ⟨_, rfl⟩
  rw [← hys] at hp HALL hqi
  have HM := Lib.hid hM
  have HT := Lib.hid ht
  have HQ := Lib.hid hqi
  have hnn : ((n : Int) == (n : Int)) = true := by simp
  have hqq : ((q : Int) == (q : Int)) = true := by simp
  have hss : (s.toList == s.toList) = true := by simp
  clear hq hqi hyt hs hn hys hr hM ht
  go_enter Tryd.func23, Tryd.ntmps23
  go_wp2_with fail
  refine (hp.out).mono ?_
  rintro e w1 ⟨v1, rfl, hi1, hb1⟩
  obtain ⟨A1, c1, rfl, hs1⟩ := hi1
  rw [HQ.out]
  go_wp2_with fail
  refine (hlen.out w1 (HM.out.below hb1)).mono ?_
  rintro e w2 ⟨rfl, rfl⟩
  go_wp2_with fail
  refine (hcnt.out w1 (HM.out.below hb1)).mono ?_
  rintro e w2 ⟨rfl, hb2⟩
  have hB2 := below0 hb1 hb2
  have hs2 := (hs1.below hb2).more hb2.size
  clear hs1 hb2
  go_wp2_with fail
  refine (HALL.out w2 (HM.out.below hB2) (HT.out.below hB2)).mono ?_
  rintro e w3 ⟨v3, rfl, hi3, hb3⟩
  obtain ⟨A3, c3, rfl, hs3⟩ := hi3
  have hB3 := below0 hB2 hb3
  have hs4 := (hs2.below hb3).more hb3.size
  rw [HQ.out]
  have hin := Lib.hid (ints_any ys A3 A1 q c3 c1 w3.heap.size w3 (by omega) HQ.out hs3 hs4)
  clear hs2 hb3 hs3 hs4
  go_wp2_with fail
  refine (hin.out).mono ?_
  rintro e w4 ⟨rfl, d, rfl⟩
  have hB4 : Below w.heap.size w (w3.drewN d) := below_drewN hB3 d
  go_wp2_with fail
  refine (htx.out (w3.drewN d) (HM.out.below hB4)).mono ?_
  rintro e w5 ⟨rfl, hb5⟩
  have hB5 := hB4.trans (hb5.mono hB4.size)
  clear hb5
  go_wp2_with fail
  refine (HTR.out w5 hB5).mono ?_
  rintro e w6 ⟨rfl, hb6⟩
  have hB6 := hB5.trans (hb6.mono hB5.size)
  go_wp2_with fail
  go_ret
  exact ⟨rfl, hB6⟩

/-- what is told of a k-th place -/
theorem nth_any (m : Value) (l : List Bool) (k : Int) (is : Bool) (w : World) (h : Mk w m l) (ht : Tab w) (hk2 : k ≤ 9223372036854775807) :
    Calls Tryd.prog 12 #[m, .int .i64 k, .bool is] w fun e w' => e = .returned (.tuple #[.int .i64 (numO (nthR l k is)), .bool (nthR l k is).isSome]) ∧ Below w.heap.size w w' := by
  by_cases hk : k < 0
  · rw [show nthR l k is = none by unfold nthR nthO; rw [if_pos hk]]
    exact nth_neg m k is w hk
  · exact nth_pos m l k is w h ht (by omega) hk2

theorem nextR_lt {l : List Bool} {f : Int} {is : Bool} {x : Nat} (h : nextR l f is = some x) : x < l.length := by
  unfold nextR nextO' at h
  have h1 := idxs_lt 0 (such is l) x (List.mem_of_find?_eq_some h)
  rw [such_len] at h1
  omega
theorem nextI_cases (l : List Bool) (f : Int) (is : Bool) (hl : l.length ≤ 4096) : (nextI (nextR l f is) = -1 ∧ numO (nextR l f is) = 0 ∧ (nextR l f is).isSome = false) ∨
    (nextI (nextR l f is) = 0 ∧ numO (nextR l f is) = 0 ∧ (nextR l f is).isSome = true) ∨ (∃ x : Nat, 0 < x ∧ x ≤ 4096 ∧ nextI (nextR l f is) = x ∧ numO (nextR l f is) = x ∧ (nextR l f is).isSome = true) := by
  rcases h : nextR l f is with _ | x
  · exact .inl ⟨rfl, rfl, rfl⟩
  · have := nextR_lt h
    rcases Nat.eq_zero_or_pos x with rfl | h0
    · exact .inr (.inl ⟨rfl, rfl, rfl⟩)
    · exact .inr (.inr ⟨x, h0, by omega, rfl, rfl, rfl⟩)

set_option maxHeartbeats 1000000 in
theorem finds_any (m v : Value) (l : List Bool) (k f : Int) (is : Bool) (w : World) (hM : Mk w m l) (hv : Bl w v l) (ht : Tab w) (hk2 : k ≤ 9223372036854775807) :
    Calls Tryd.prog 26 #[m, v, .int .i64 k, .int .i64 f, .bool is] w fun e w' => e = .returned (.bool true) ∧ Below w.heap.size w w' := by
  obtain ⟨A, c, rfl, hr⟩ := hv
  have hmost := hM.most
  have hp := Lib.hid (places_ref l is A c w hmost hr)
  have HN := Lib.hid (fun (w1 : World) (hb : Below w.heap.size w w1) => nth_any m l k is w1 (hM.below hb) (ht.below hb) hk2)
  have HX := Lib.hid (fun (w1 : World) (hb : Below w.heap.size w w1) => next_any m l f is w1 (hM.below hb) (ht.below hb))
  have HF := Lib.hid (fun (w1 : World) (hb : Below w.heap.size w w1) => next_ref l f is A c w1 hmost ((hr.below hb).more hb.size))
  obtain ⟨ys, hys⟩ : ∃ ys, ys = idxs 0 (such is l) := ⟨_, rfl⟩
  have hnr : nthR l k is = nthO ys k := by rw [hys]; rfl
  rw [hnr] at HN
  rw [← hys] at hp
  have hyl : ys.length ≤ 4096 := by
    rw [hys, idxs_len]
    have := List.count_le_length (a := true) (l := such is l)
    rw [such_len] at this
    omega
  have hr3 := nextI_cases l f is hmost
  obtain ⟨z, hz⟩ : ∃ z, z = nextI (nextR l f is) := ⟨_, rfl⟩
  obtain ⟨rn, hrn⟩ : ∃ rn, rn = numO (nextR l f is) := ⟨_, rfl⟩
  obtain ⟨rb, hrb⟩ : ∃ rb, rb = (nextR l f is).isSome := ⟨_, rfl⟩
  rw [← hz] at hr3 HF
  rw [← hrn] at hr3 HX
  rw [← hrb] at hr3 HX
  have HR3 := Lib.hid hr3
  obtain ⟨n, hn⟩ : ∃ n, n = l.length := ⟨_, rfl⟩
  rw [← hn] at hp HF ⊢
  clear hys hnr hr3 hz hrn hrb hn hr hM ht hmost
  by_cases hk0 : k < 0
  · have e1 : nthO ys k = none := by unfold nthO; rw [if_pos hk0]
    rw [e1] at HN
    rw [show numO none = 0 from rfl, show (none : Option Nat).isSome = false from rfl] at HN
    clear e1
    go_enter Tryd.func26, Tryd.ntmps26
    go_wp2_with fail
    refine (hp.out).mono ?_
    rintro e w1 ⟨v1, rfl, hi1, hb1⟩
    obtain ⟨A1, c1, rfl, hs1⟩ := hi1
    go_wp2_with fail
    refine (HN.out w1 hb1).mono ?_
    rintro e w2 ⟨rfl, hb2⟩
    have hB2 := below0 hb1 hb2
    clear hb2
    go_wp2_with fail
    refine (HX.out w2 hB2).mono ?_
    rintro e w3 ⟨rfl, hb3⟩
    have hB3 := below0 hB2 hb3
    clear hb3
    go_wp2_with fail
    refine (HF.out w3 hB3).mono ?_
    rintro e w4 ⟨rfl, rfl⟩
    rcases HR3.out with ⟨rfl, rfl, rfl⟩ | ⟨rfl, rfl, rfl⟩ | ⟨x, hx0, hx, rfl, rfl, rfl⟩
    all_goals
      go_wp2_with fail
      go_ret
      exact ⟨rfl, hB3⟩
  by_cases hk1 : (ys.length : Int) ≤ k
  · have e1 : nthO ys k = none := by unfold nthO; rw [if_neg hk0, List.getElem?_eq_none (by omega)]
    rw [e1] at HN
    rw [show numO none = 0 from rfl, show (none : Option Nat).isSome = false from rfl] at HN
    have d0 : decide (k < 0) = false := decide_eq_false hk0
    have d1 : decide ((ys.length : Int) ≤ k) = true := decide_eq_true hk1
    clear e1
    go_enter Tryd.func26, Tryd.ntmps26
    go_wp2_with fail
    refine (hp.out).mono ?_
    rintro e w1 ⟨v1, rfl, hi1, hb1⟩
    obtain ⟨A1, c1, rfl, hs1⟩ := hi1
    go_wp2_with fail
    refine (HN.out w1 hb1).mono ?_
    rintro e w2 ⟨rfl, hb2⟩
    have hB2 := below0 hb1 hb2
    clear hb2
    go_wp2_with fail
    refine (HX.out w2 hB2).mono ?_
    rintro e w3 ⟨rfl, hb3⟩
    have hB3 := below0 hB2 hb3
    clear hb3
    go_wp2_with fail
    refine (HF.out w3 hB3).mono ?_
    rintro e w4 ⟨rfl, rfl⟩
    rcases HR3.out with ⟨rfl, rfl, rfl⟩ | ⟨rfl, rfl, rfl⟩ | ⟨x, hx0, hx, rfl, rfl, rfl⟩
    all_goals
      go_wp2_with fail
      go_ret
      exact ⟨rfl, hB3⟩
  · obtain ⟨j, rfl⟩ : ∃ j : Nat, k = j := ⟨k.toNat, by omega⟩
    have hj : j < ys.length := by omega
    have e1 : nthO ys (j : Int) = some ys[j] := by unfold nthO; rw [if_neg hk0, Int.toNat_natCast, List.getElem?_eq_getElem hj]
    rw [e1] at HN
    rw [show numO (some ys[j]) = (ys[j] : Int) from rfl, show (some ys[j]).isSome = true from rfl] at HN
    have d0 : decide ((j : Int) < 0) = false := decide_eq_false hk0
    have d1 : decide ((ys.length : Int) ≤ (j : Int)) = false := decide_eq_false hk1
    have d2 : decide (ys.length ≤ j) = false := decide_eq_false (by omega)
    have i1 : (j : Int) < (ys.length : Int) := by omega
    have hg := ins_get hj
    obtain ⟨y, hy⟩ : ∃ y, y = ys[j] := ⟨_, rfl⟩
    rw [← hy] at HN hg
    have HG := Lib.hid hg
    have hyy : ((y : Int) != (y : Int)) = false := by simp
    clear e1 hy hg
    go_enter Tryd.func26, Tryd.ntmps26
    go_wp2_with fail
    refine (hp.out).mono ?_
    rintro e w1 ⟨v1, rfl, hi1, hb1⟩
    obtain ⟨A1, c1, rfl, hs1⟩ := hi1
    obtain ⟨ad, rfl, _, hcy⟩ := hs1.at_ (k := j) (by rw [ins_len]; exact hj)
    rw [HG.out] at hcy
    have hadl := lt_of_cell hcy
    go_wp2_with fail
    refine (HN.out w1 hb1).mono ?_
    rintro e w2 ⟨rfl, hb2⟩
    have hB2 := below0 hb1 hb2
    have hcy2 := (hb2.cell hadl).trans hcy
    clear hb2 hcy
    go_wp2_with fail
    refine (HX.out w2 hB2).mono ?_
    rintro e w3 ⟨rfl, hb3⟩
    have hB3 := below0 hB2 hb3
    clear hb3
    go_wp2_with fail
    refine (HF.out w3 hB3).mono ?_
    rintro e w4 ⟨rfl, rfl⟩
    rcases HR3.out with ⟨rfl, rfl, rfl⟩ | ⟨rfl, rfl, rfl⟩ | ⟨x, hx0, hx, rfl, rfl, rfl⟩
    all_goals
      go_wp2_with fail
      go_ret
      exact ⟨rfl, hB3⟩
end Go.Proofs.YtbiopegophdgiaaDoor
