import Derived.Test.YtijgkjliienjhaaCC
namespace Go.Proofs.Ytijgkjliienjhaa
open Go.RowKit Go.Shelf
attribute [local go_sem] Oper.semAt_some

/- SWAP, STORE. -/
abbrev u64V (x : Nat) : Value := .int .u64 (x : Int)
def boxW (w : World) (x y : Nat) : World := (w.alloc (.cells #[.int .u64 (x : Int)] 35)).alloc (.cells #[.int .u64 (y : Int)] 35)
theorem boxW_below (w : World) (x y : Nat) : Below w.heap.size w (boxW w x y) := below2 _ _ _
theorem boxW_c0 (w : World) (x y : Nat) : (boxW w x y).cell? ⟨w.heap.size, 0, none⟩ = some (.int .u64 (x : Int)) := (World.cell?_alloc_lt _ _ _ (by simp)).trans (cell_alloc_new _ _ _ _)
theorem boxW_c1 (w : World) (x y : Nat) : (boxW w x y).cell? ⟨w.heap.size + 1, 0, none⟩ = some (.int .u64 (y : Int)) := cell_new_at _ _ _ _ (by simp)
theorem swap_non (v : Value) (z : Int) (x n : Nat) (w : World) (h : Non w v) : Calls Try.prog 10 #[v, .int .i64 z, .int .u64 (x : Int), .int .u64 (n : Int)] w fun e w' => e = .returned (.tuple #[.bool false, .int .i64 1]) ∧ Below w.heap.size w w' := by
  have H : Hid (Calls Try.prog 26 #[v, .int .i64 z, .func (.func 27) #[] #[bx w.heap.size, bx (w.heap.size + 1)]] ((w.alloc (.cells #[.int .u64 (x : Int)] 35)).alloc (.cells #[.int .u64 (n : Int)] 35)) fun e w' => e = .returned (.tuple #[.bool false, .int .i64 1]) ∧ Below w.heap.size w w') := Lib.hid (by
    show Calls _ _ _ (boxW w x n) _
    refine (asked_non_b v z (.func (.func 27) #[] #[bx w.heap.size, bx (w.heap.size + 1)]) (boxW w x n) (h.below (boxW_below w x n))).mono ?_
    rintro e w1 ⟨rfl, rfl⟩
    exact ⟨rfl, boxW_below w x n⟩)
  obtain ⟨pv, rfl⟩ := h.ptr
  clear h
  go_enter Try.func10, Try.ntmps10
  go_wp2_with fail
  refine H.out.mono ?_
  rintro e w1 ⟨rfl, hq⟩
  have HQ := Lib.hid hq
  clear hq H
  go_wp2_with fail
  go_ret2
  exact ⟨rfl, HQ.out⟩
theorem swap_out (b g c : Nat) (l : Cs) (z : Int) (x n : Nat) (w : World) (h : Rep w b g c l) (hz : z < 0 ∨ (l.length : Int) ≤ z) : Calls Try.prog 10 #[bx b, .int .i64 z, .int .u64 (x : Int), .int .u64 (n : Int)] w fun e w' => e = .returned (.tuple #[.bool false, .int .i64 4]) ∧ Below w.heap.size w w' := by
  have H : Hid (Calls Try.prog 26 #[bx b, .int .i64 z, .func (.func 27) #[] #[bx w.heap.size, bx (w.heap.size + 1)]] ((w.alloc (.cells #[.int .u64 (x : Int)] 35)).alloc (.cells #[.int .u64 (n : Int)] 35)) fun e w' => e = .returned (.tuple #[.bool false, .int .i64 4]) ∧ Below w.heap.size w w') := Lib.hid (by
    show Calls _ _ _ (boxW w x n) _
    refine (asked_out_b b g c l z (.func (.func 27) #[] #[bx w.heap.size, bx (w.heap.size + 1)]) (boxW w x n) (h.below (boxW_below w x n)) hz).mono ?_
    rintro e w1 ⟨rfl, rfl⟩
    exact ⟨rfl, boxW_below w x n⟩)
  skip
  clear h hz
  go_enter Try.func10, Try.ntmps10
  go_wp2_with fail
  refine H.out.mono ?_
  rintro e w1 ⟨rfl, hq⟩
  have HQ := Lib.hid hq
  clear hq H
  go_wp2_with fail
  go_ret2
  exact ⟨rfl, HQ.out⟩
theorem swap_no (b g c k : Nat) (l : Cs) (x n : Nat) (w : World) (h : Rep w b g c l) (hk : k < l.length) (hx : l[k].1 ≠ x) : Calls Try.prog 10 #[bx b, .int .i64 (k : Int), .int .u64 (x : Int), .int .u64 (n : Int)] w fun e w' => e = .returned (.tuple #[.bool false, .int .i64 0]) ∧ Below w.heap.size w w' := by
  have H : Hid (Calls Try.prog 26 #[bx b, .int .i64 (k : Int), .func (.func 27) #[] #[bx w.heap.size, bx (w.heap.size + 1)]] ((w.alloc (.cells #[.int .u64 (x : Int)] 35)).alloc (.cells #[.int .u64 (n : Int)] 35)) fun e w' => e = .returned (.tuple #[.bool false, .int .i64 0]) ∧ Below w.heap.size w w') := Lib.hid (by
    show Calls _ _ _ (boxW w x n) _
    have hr := h.below (boxW_below w x n)
    refine asked_in_b (Q := fun w' => Below w.heap.size w w') 27 #[bx w.heap.size, bx (w.heap.size + 1)] b g c k l (boxW w x n) hr hk (enters_of Try.func27 (by kernel_rfl) rfl) ?_
    refine (swap1_no g (k * 2) l[k].1 x n w.heap.size (w.heap.size + 1) (boxW w x n) (hr.row.c0 hk) hx (boxW_c0 w x n) (boxW_c1 w x n)).mono ?_
    rintro e w1 ⟨rfl, rfl⟩
    exact ⟨rfl, boxW_below w x n⟩)
  skip
  clear h hx hk
  go_enter Try.func10, Try.ntmps10
  go_wp2_with fail
  refine H.out.mono ?_
  rintro e w1 ⟨rfl, hq⟩
  have HQ := Lib.hid hq
  clear hq H
  go_wp2_with fail
  go_ret2
  exact ⟨rfl, HQ.out⟩
theorem swap_yes (b g c k m : Nat) (l : Cs) (x n : Nat) (w : World) (h : Rep w b g c l) (hk : k < l.length) (hx : l[k].1 = x) (hok : Ok m l) (hm : m < 1000000) : Calls Try.prog 10 #[bx b, .int .i64 (k : Int), .int .u64 (x : Int), .int .u64 (n : Int)] w fun e w' => e = .returned (.tuple #[.bool true, .int .i64 0]) ∧ Rep w' b g c (put l k n) ∧ Keep (· = g) w w' := by
  have H : Hid (Calls Try.prog 26 #[bx b, .int .i64 (k : Int), .func (.func 27) #[] #[bx w.heap.size, bx (w.heap.size + 1)]] ((w.alloc (.cells #[.int .u64 (x : Int)] 35)).alloc (.cells #[.int .u64 (n : Int)] 35)) fun e w' => e = .returned (.tuple #[.bool true, .int .i64 0]) ∧ Rep w' b g c (put l k n) ∧ Keep (· = g) w w') := Lib.hid (by
    show Calls _ _ _ (boxW w x n) _
    have hr := h.below (boxW_below w x n)
    refine asked_in_b (Q := fun w' => Rep w' b g c (put l k n) ∧ Keep (· = g) w w') 27 #[bx w.heap.size, bx (w.heap.size + 1)] b g c k l (boxW w x n) hr hk (enters_of Try.func27 (by kernel_rfl) rfl) ?_
    refine (swap1_yes b g c k n m w.heap.size (w.heap.size + 1) l (boxW w x n) hr hk hok hm (by rw [hx]; exact boxW_c0 w x n) (boxW_c1 w x n)).mono ?_
    rintro e w1 ⟨rfl, h1, h2⟩
    exact ⟨rfl, h1, (Keep.of_below (boxW_below w x n)).trans h2 (fun _ _ e => e)⟩)
  skip
  clear h hx hk hok hm
  go_enter Try.func10, Try.ntmps10
  go_wp2_with fail
  refine H.out.mono ?_
  rintro e w1 ⟨rfl, hq⟩
  have HQ := Lib.hid hq
  clear hq H
  go_wp2_with fail
  go_ret2
  exact ⟨rfl, HQ.out⟩
theorem store_non (v : Value) (z : Int) (n : Nat) (w : World) (h : Non w v) : Calls Try.prog 13 #[v, .int .i64 z, .int .u64 (n : Int)] w fun e w' => e = .returned (.int .i64 1) ∧ Below w.heap.size w w' := by
  have H : Hid (∃ tv, Calls Try.prog 26 #[v, .int .i64 z, .func (.func 31) #[] #[bx w.heap.size]] (w.alloc (.cells #[.int .u64 (n : Int)] 35)) fun e w' => e = .returned (.tuple #[.bool tv, .int .i64 1]) ∧ Below w.heap.size w w') := Lib.hid (by
    refine ⟨false, (asked_non_b v z (.func (.func 31) #[] #[bx w.heap.size]) _ (h.below (below1 w (.cells #[.int .u64 (n : Int)] 35)))).mono ?_⟩
    rintro e w1 ⟨rfl, rfl⟩
    exact ⟨rfl, (below1 w (.cells #[.int .u64 (n : Int)] 35))⟩)
  obtain ⟨pv, rfl⟩ := h.ptr
  clear h
  obtain ⟨tv, HT⟩ := H.out
  have HTT := Lib.hid HT
  clear HT H
  go_enter Try.func13, Try.ntmps13
  go_wp2_with fail
  refine HTT.out.mono ?_
  rintro e w1 ⟨rfl, hq⟩
  have HQ := Lib.hid hq
  clear hq HTT
  go_wp2_with fail
  go_ret
  exact ⟨rfl, HQ.out⟩
theorem store_out (b g c : Nat) (l : Cs) (z : Int) (n : Nat) (w : World) (h : Rep w b g c l) (hz : z < 0 ∨ (l.length : Int) ≤ z) : Calls Try.prog 13 #[bx b, .int .i64 z, .int .u64 (n : Int)] w fun e w' => e = .returned (.int .i64 4) ∧ Below w.heap.size w w' := by
  have H : Hid (∃ tv, Calls Try.prog 26 #[bx b, .int .i64 z, .func (.func 31) #[] #[bx w.heap.size]] (w.alloc (.cells #[.int .u64 (n : Int)] 35)) fun e w' => e = .returned (.tuple #[.bool tv, .int .i64 4]) ∧ Below w.heap.size w w') := Lib.hid (by
    refine ⟨false, (asked_out_b b g c l z (.func (.func 31) #[] #[bx w.heap.size]) _ (h.below (below1 w (.cells #[.int .u64 (n : Int)] 35))) hz).mono ?_⟩
    rintro e w1 ⟨rfl, rfl⟩
    exact ⟨rfl, (below1 w (.cells #[.int .u64 (n : Int)] 35))⟩)
  skip
  clear h hz
  obtain ⟨tv, HT⟩ := H.out
  have HTT := Lib.hid HT
  clear HT H
  go_enter Try.func13, Try.ntmps13
  go_wp2_with fail
  refine HTT.out.mono ?_
  rintro e w1 ⟨rfl, hq⟩
  have HQ := Lib.hid hq
  clear hq HTT
  go_wp2_with fail
  go_ret
  exact ⟨rfl, HQ.out⟩
theorem store_in (b g c k m : Nat) (l : Cs) (n : Nat) (w : World) (h : Rep w b g c l) (hk : k < l.length) (hok : Ok m l) (hm : m < 1000000) : Calls Try.prog 13 #[bx b, .int .i64 (k : Int), .int .u64 (n : Int)] w fun e w' => e = .returned (.int .i64 0) ∧ Rep w' b g c (put l k n) ∧ Keep (· = g) w w' := by
  have H : Hid (∃ tv, Calls Try.prog 26 #[bx b, .int .i64 (k : Int), .func (.func 31) #[] #[bx w.heap.size]] (w.alloc (.cells #[.int .u64 (n : Int)] 35)) fun e w' => e = .returned (.tuple #[.bool tv, .int .i64 0]) ∧ Rep w' b g c (put l k n) ∧ Keep (· = g) w w') := Lib.hid (by
    have hr := h.below (below1 w (.cells #[.int .u64 (n : Int)] 35))
    refine ⟨true, asked_in_b (Q := fun w' => Rep w' b g c (put l k n) ∧ Keep (· = g) w w') 31 #[bx w.heap.size] b g c k l _ hr hk (enters_of Try.func31 (by kernel_rfl) rfl) ?_⟩
    refine (store1_any b g c k n m w.heap.size l _ hr hk hok hm (cell_alloc_new _ _ _ _)).mono ?_
    rintro e w1 ⟨rfl, h1, h2⟩
    exact ⟨rfl, h1, (Keep.of_below (below1 w (.cells #[.int .u64 (n : Int)] 35))).trans h2 (fun _ _ e => e)⟩)
  skip
  clear h hk hok hm
  obtain ⟨tv, HT⟩ := H.out
  have HTT := Lib.hid HT
  clear HT H
  go_enter Try.func13, Try.ntmps13
  go_wp2_with fail
  refine HTT.out.mono ?_
  rintro e w1 ⟨rfl, hq⟩
  have HQ := Lib.hid hq
  clear hq HTT
  go_wp2_with fail
  go_ret
  exact ⟨rfl, HQ.out⟩
end Go.Proofs.Ytijgkjliienjhaa
