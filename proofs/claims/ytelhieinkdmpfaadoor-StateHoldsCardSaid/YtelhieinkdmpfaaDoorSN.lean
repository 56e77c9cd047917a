import Derived.Test.YtelhieinkdmpfaaDoorSM
namespace Go.Proofs.YtelhieinkdmpfaaDoor.Sh
open Go.RowKit Go.Shelf
attribute [local go_sem] Oper.semAt_some

/- STATEMAYS: WHAT MAY BECOME WHAT, AND WHAT STATES ARE CALLED. -/
set_option maxRecDepth 100000 in
set_option maxHeartbeats 2000000 in
theorem stateMays_any {Has : HasT} (H : Api Has) (a b : Int) (w : World) (hTb : Tb w) (ha : i64 a) (hb : i64 b) :
    Calls Tryd.prog 3 #[.int .i64 a, .int .i64 b] w fun e w' => e = .returned (.bool true) ∧ Below w.heap.size w w' := by
  have HTB := Lib.hid hTb
  have HW := Lib.hid (fun W (h : Below w.heap.size w W) => works_any H W (HTB.out.below h))
  have HM := Lib.hid (H.may a b w hTb ha hb)
  have HN := Lib.hid (fun W (h : Below w.heap.size w W) => H.name a W (HTB.out.below h) ha)
  have HRN := Lib.hid (fun W => rname_any a W)
  have HS := Lib.hid (fun W => rstate_any b W)
  have HRM := Lib.hid (fun W => rmay_any a b W)
  obtain ⟨T, hT⟩ : ∃ T, T = nameB a := ⟨_, rfl⟩
  obtain ⟨m, hm⟩ : ∃ m, m = mayB a b := ⟨_, rfl⟩
  rw [← hT] at HN HRN
  rw [← hm] at HM HRM
  have htt : (T.toList == T.toList) = true := by simp
  have hmm : (m == m) = true := by cases m <;> rfl
  clear hT hm ha hb H hTb
  cases hs : stB b
  · rw [hs, Bool.false_and] at HM
    rw [hs] at HS
    clear hs
    go_enter Tryd.func3, Tryd.ntmps3
    go_wp2_with fail
    refine HM.out.mono ?_
    rintro e w1 ⟨rfl, hb1⟩
    have HB := Lib.hid hb1
    clear hb1
    go_wp2_with fail
    refine (HS.out _).mono ?_
    rintro e w2 ⟨rfl, rfl⟩
    go_wp2_with fail
    refine (HN.out _ HB.out).mono ?_
    rintro e w2 ⟨rfl, hb1⟩
    have HB := Lib.hid (below0 HB.out hb1)
    clear hb1
    go_wp2_with fail
    refine (HRN.out _).mono ?_
    rintro e w3 ⟨rfl, hb1⟩
    have HB := Lib.hid (below0 HB.out hb1)
    clear hb1
    go_wp2_with fail
    refine (HW.out _ HB.out).mono ?_
    rintro e w4 ⟨rfl, hb1⟩
    have HB := Lib.hid (below0 HB.out hb1)
    clear hb1
    go_wp2_with fail
    go_ret
    exact ⟨rfl, HB.out⟩
  · rw [hs, Bool.true_and] at HM
    rw [hs] at HS
    clear hs
    go_enter Tryd.func3, Tryd.ntmps3
    go_wp2_with fail
    refine HM.out.mono ?_
    rintro e w1 ⟨rfl, hb1⟩
    have HB := Lib.hid hb1
    clear hb1
    go_wp2_with fail
    refine (HS.out _).mono ?_
    rintro e w2 ⟨rfl, rfl⟩
    go_wp2_with fail
    refine (HRM.out _).mono ?_
    rintro e w2 ⟨rfl, rfl⟩
    go_wp2_with fail
    refine (HN.out _ HB.out).mono ?_
    rintro e w2 ⟨rfl, hb1⟩
    have HB := Lib.hid (below0 HB.out hb1)
    clear hb1
    go_wp2_with fail
    refine (HRN.out _).mono ?_
    rintro e w3 ⟨rfl, hb1⟩
    have HB := Lib.hid (below0 HB.out hb1)
    clear hb1
    go_wp2_with fail
    refine (HW.out _ HB.out).mono ?_
    rintro e w4 ⟨rfl, hb1⟩
    have HB := Lib.hid (below0 HB.out hb1)
    clear hb1
    go_wp2_with fail
    go_ret
    exact ⟨rfl, HB.out⟩
end Go.Proofs.YtelhieinkdmpfaaDoor.Sh
