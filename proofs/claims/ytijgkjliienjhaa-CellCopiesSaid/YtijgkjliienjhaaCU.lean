import Derived.Test.YtijgkjliienjhaaCT
namespace Go.Proofs.Ytijgkjliienjhaa
open Go.RowKit Go.Shelf
attribute [local go_sem] Oper.semAt_some

/- CELLCOPIES WHEREVER. -/
set_option maxRecDepth 100000 in
theorem copies_a (A0 : Option Addr) (n ca : Nat) (xw xa : Int) (xs xd : Nat) (yw ya : Int) (ys yd : Nat) (many : Int) (w : World) (h : 40 < n) :
    Calls Try.prog 4 #[.slice A0 n ca, twoV xw xa xs xd yw ya ys yd, .int .i64 many] w fun e w' => e = .returned (.bool true) ∧ Below w.heap.size w w' := by
  have hwk := Lib.hid (fun w => works_any w)
  have g0 : decide ((40 : Int) < (n : Int)) = true := decide_eq_true (by omega)
  have HB := Lib.hid (below2 w (.cells #[.int .i64 xw, .int .i64 xa, .int .u64 (xs : Int), .int .u64 (xd : Int), .int .i64 yw, .int .i64 ya, .int .u64 (ys : Int), .int .u64 (yd : Int)] 55) (.cells #[.int .i64 many] 3))
  go_enter Try.func4, Try.ntmps4
  go_wp2_with fail
  refine (hwk.out _).mono ?_
  rintro e v4 ⟨rfl, hb⟩
  have HFIN := Lib.hid (below0 HB.out hb)
  clear hb
  go_wp2_with fail
  go_ret
  exact ⟨rfl, HFIN.out⟩
set_option maxRecDepth 100000 in
theorem copies_b (A0 : Option Addr) (n ca : Nat) (xw xa : Int) (xs xd : Nat) (yw ya : Int) (ys yd : Nat) (many : Int) (w : World) (hn : n ≤ 40) (h : many < 1) :
    Calls Try.prog 4 #[.slice A0 n ca, twoV xw xa xs xd yw ya ys yd, .int .i64 many] w fun e w' => e = .returned (.bool true) ∧ Below w.heap.size w w' := by
  have hwk := Lib.hid (fun w => works_any w)
  have g0 : decide ((40 : Int) < (n : Int)) = false := decide_eq_false (by omega)
  have g1 : decide (many < 1) = true := decide_eq_true (by omega)
  have HB := Lib.hid (below2 w (.cells #[.int .i64 xw, .int .i64 xa, .int .u64 (xs : Int), .int .u64 (xd : Int), .int .i64 yw, .int .i64 ya, .int .u64 (ys : Int), .int .u64 (yd : Int)] 55) (.cells #[.int .i64 many] 3))
  go_enter Try.func4, Try.ntmps4
  go_wp2_with fail
  refine (hwk.out _).mono ?_
  rintro e v4 ⟨rfl, hb⟩
  have HFIN := Lib.hid (below0 HB.out hb)
  clear hb
  go_wp2_with fail
  go_ret
  exact ⟨rfl, HFIN.out⟩
set_option maxRecDepth 100000 in
theorem copies_c (A0 : Option Addr) (n ca : Nat) (xw xa : Int) (xs xd : Nat) (yw ya : Int) (ys yd : Nat) (many : Int) (w : World) (hn : n ≤ 40) (h : 9 < many) :
    Calls Try.prog 4 #[.slice A0 n ca, twoV xw xa xs xd yw ya ys yd, .int .i64 many] w fun e w' => e = .returned (.bool true) ∧ Below w.heap.size w w' := by
  have hwk := Lib.hid (fun w => works_any w)
  have g0 : decide ((40 : Int) < (n : Int)) = false := decide_eq_false (by omega)
  have g1 : decide (many < 1) = false := decide_eq_false (by omega)
  have g2 : decide (9 < many) = true := decide_eq_true (by omega)
  have HB := Lib.hid (below2 w (.cells #[.int .i64 xw, .int .i64 xa, .int .u64 (xs : Int), .int .u64 (xd : Int), .int .i64 yw, .int .i64 ya, .int .u64 (ys : Int), .int .u64 (yd : Int)] 55) (.cells #[.int .i64 many] 3))
  go_enter Try.func4, Try.ntmps4
  go_wp2_with fail
  refine (hwk.out _).mono ?_
  rintro e v4 ⟨rfl, hb⟩
  have HFIN := Lib.hid (below0 HB.out hb)
  clear hb
  go_wp2_with fail
  go_ret
  exact ⟨rfl, HFIN.out⟩
theorem cellCopies_any (acts : List Ac) (A0 : Option Addr) (n ca : Nat) (x y : Ac) (many : Int) (w : World) (hA : Acs w acts A0) (hl : acts.length = n) (hx : x.fits) (hy : y.fits) :
    Calls Try.prog 4 #[.slice A0 n ca, .agg (x.cells ++ y.cells).toArray, .int .i64 many] w fun e w' => e = .returned (.bool true) ∧ Below w.heap.size w w' := by
  obtain ⟨xw, xa, xs, xd⟩ := x
  obtain ⟨yw, ya, ys, yd⟩ := y
  show Calls _ _ #[_, twoV xw xa xs xd yw ya ys yd, _] w _
  by_cases h40 : n ≤ 40
  · by_cases h1 : many < 1
    · exact copies_b A0 n ca xw xa xs xd yw ya ys yd many w h40 h1
    · by_cases h9 : 9 < many
      · exact copies_c A0 n ca xw xa xs xd yw ya ys yd many w h40 h9
      · obtain ⟨M, rfl⟩ : ∃ M : Nat, many = M := ⟨many.toNat, by omega⟩
        exact copies_main acts A0 n ca xw xa xs xd yw ya ys yd M w hA hl h40 (by omega) (by omega) hx hy
  · exact copies_a A0 n ca xw xa xs xd yw ya ys yd many w (by omega)
end Go.Proofs.Ytijgkjliienjhaa
