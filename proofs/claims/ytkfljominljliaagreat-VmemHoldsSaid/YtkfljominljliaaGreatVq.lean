import Derived.Test.YtkfljominljliaaGreatVp
namespace Go.Proofs.YtkfljominljliaaGreat.Vm
open Go.RowKit Go.Shelf Go.Maps Go.Sort
attribute [local go_sem] Oper.semAt_some

set_option maxRecDepth 100000 in
set_option maxHeartbeats 4000000 in
theorem works_any (w : World) : Calls Tryz.prog 5 #[] w fun e w' => e = .returned (.bool true) ∧ Below w.heap.size w w' := by
  have HS : ∃ P0 P1 P2 P3 T, Wks P0 P1 P2 P3 T := ⟨_, _, _, _, _, wks⟩
  obtain ⟨P0, P1, P2, P3, T, S⟩ := HS
  have H := Lib.hid S
  have hn := Lib.hid (fun n w => num_any n w)
  have hcv := fun (w : World) (C : Array Value) => _root_.Go.Lib.run_convert_bytes_const (P := Tryz.prog) w 35 5 C 2 2 Tryz.underlying35 Tryz.underlying5
  clear S
  go_enter Tryz.func5, Tryz.ntmps5
  go_wp2_with fail
  refine (H.out.new _).mono ?_
  rintro e w1 ⟨b, t, q, rfl, R1⟩
  have HR1 := Lib.hid R1
  clear R1
  go_wp2_with fail
  refine (H.out.rs _ _ _ _ _ HR1.out).mono ?_
  rintro e w2 ⟨rfl, R2⟩
  clear HR1
  have HR2 := Lib.hid R2
  clear R2
  go_wp2_with fail
  refine (H.out.mp _ _ _ _ _ HR2.out).mono ?_
  rintro e w3 ⟨rfl, R3⟩
  clear HR2
  have HR3 := Lib.hid R3
  clear R3
  go_wp2_with fail
  refine (H.out.st1 _ _ _ _ _ _ HR3.out rfl).mono ?_
  rintro e w4 ⟨rfl, R4⟩
  clear HR3
  have HR4 := Lib.hid R4
  clear R4
  go_wp2_with fail
  refine (H.out.l1 _ _ _ _ _ _ HR4.out).mono ?_
  rintro e w5 ⟨A1, c1, rfl, R5⟩
  clear HR4
  have HR5 := Lib.hid R5
  clear R5
  go_wp2_with fail
  refine (H.out.l2 _ _ _ _ _ _ HR5.out).mono ?_
  rintro e w6 ⟨A2, c2, rfl, R6⟩
  clear HR5
  have HR6 := Lib.hid R6
  clear R6
  go_wp2_with fail
  refine (H.out.st2 _ _ _ _ _ _ _ HR6.out rfl).mono ?_
  rintro e w7 ⟨rfl, R7⟩
  clear HR6
  have HR7 := Lib.hid R7
  clear R7
  go_wp2_with fail
  refine (H.out.l3 _ _ _ _ _ _ HR7.out).mono ?_
  rintro e w8 ⟨A3, c3, rfl, R8⟩
  clear HR7
  have HR8 := Lib.hid R8
  clear R8
  go_wp2_with fail
  refine (H.out.pk _ _ _ _ _ _ HR8.out).mono ?_
  rintro e w9 ⟨A4, c4, rfl, R9⟩
  clear HR8
  have HR9 := Lib.hid R9
  clear R9
  go_wp2_with fail
  refine (H.out.l4 _ _ _ _ _ _ HR9.out).mono ?_
  rintro e w10 ⟨A5, c5, rfl, R10⟩
  clear HR9
  have HR10 := Lib.hid R10
  clear R10
  go_wp2_with fail
  refine (H.out.l5 _ _ _ _ _ _ HR10.out).mono ?_
  rintro e w11 ⟨A6, c6, rfl, R11⟩
  clear HR10
  have v1 := R11.conv (A := A1) (n := 2) (c := c1) (bs := [98, 0]) (by simp)
  have v3 := R11.conv (A := A3) (n := 1) (c := c3) (bs := [0]) (by simp)
  have v4 := R11.conv (A := A4) (n := 2) (c := c4) (bs := [97, 98]) (by simp)
  have HB := Lib.hid R11.below
  clear R11
  have x1 : (str [98, 0] == (⟨#[98, 0]⟩ : ByteArray)) = true := by decide
  have x3 : (str [0] == (⟨#[0]⟩ : ByteArray)) = true := by decide
  have x4 : (str [97, 98] == (⟨#[97, 98]⟩ : ByteArray)) = true := by decide
  rw [show str [98, 0] = (⟨#[98, 0]⟩ : ByteArray) from rfl] at v1
  rw [show str [0] = (⟨#[0]⟩ : ByteArray) from rfl] at v3
  rw [show str [97, 98] = (⟨#[97, 98]⟩ : ByteArray) from rfl] at v4
  clear x1 x3 x4
  go_wp2_with (first
    | (go_at_call 7; refine (hn.out _ _).mono ?_; rintro e wn ⟨rfl, rfl⟩))
  go_ret
  exact ⟨rfl, HB.out⟩
end Go.Proofs.YtkfljominljliaaGreat.Vm
