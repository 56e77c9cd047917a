import Derived.Test.YtijgkjliienjhaaCO
namespace Go.Proofs.Ytijgkjliienjhaa
open Go.RowKit Go.Shelf
attribute [local go_sem] Oper.semAt_some

/- CELLHOLDS WHEREVER. -/
set_option maxRecDepth 100000 in
theorem holds_a (A0 : Option Addr) (n ca : Nat) (z : Int) (B : Option Addr) (m cb : Nat) (w : World) (h : 40 < n) :
    Calls Try.prog 5 #[.slice A0 n ca, .int .i64 z, .slice B m cb] w fun e w' => e = .returned (.bool true) ∧ Below w.heap.size w w' := by
  have hwk := Lib.hid (fun w => works_any w)
  have g0 : decide ((40 : Int) < (n : Int)) = true := decide_eq_true (by omega)
  have HB := Lib.hid (Below.refl w.heap.size w)
  go_enter Try.func5, Try.ntmps5
  go_wp2_with fail
  refine (hwk.out _).mono ?_
  rintro e v4 ⟨rfl, hb⟩
  have HFIN := Lib.hid (below0 HB.out hb)
  clear hb
  go_wp2_with fail
  go_ret
  exact ⟨rfl, HFIN.out⟩
set_option maxRecDepth 100000 in
theorem holds_b (A0 : Option Addr) (n ca : Nat) (z : Int) (B : Option Addr) (m cb : Nat) (w : World) (hn : n ≤ 40) (h : 10 < m) :
    Calls Try.prog 5 #[.slice A0 n ca, .int .i64 z, .slice B m cb] w fun e w' => e = .returned (.bool true) ∧ Below w.heap.size w w' := by
  have hwk := Lib.hid (fun w => works_any w)
  have g0 : decide ((40 : Int) < (n : Int)) = false := decide_eq_false (by omega)
  have g1 : decide ((10 : Int) < (m : Int)) = true := decide_eq_true (by omega)
  have HB := Lib.hid (Below.refl w.heap.size w)
  go_enter Try.func5, Try.ntmps5
  go_wp2_with fail
  refine (hwk.out _).mono ?_
  rintro e v4 ⟨rfl, hb⟩
  have HFIN := Lib.hid (below0 HB.out hb)
  clear hb
  go_wp2_with fail
  go_ret
  exact ⟨rfl, HFIN.out⟩
set_option maxRecDepth 100000 in
theorem holds_c (A0 : Option Addr) (n ca : Nat) (z : Int) (B : Option Addr) (m cb : Nat) (w : World) (hn : n ≤ 40) (hm : m ≤ 10) (h : z < 0) :
    Calls Try.prog 5 #[.slice A0 n ca, .int .i64 z, .slice B m cb] w fun e w' => e = .returned (.bool true) ∧ Below w.heap.size w w' := by
  have hwk := Lib.hid (fun w => works_any w)
  have g0 : decide ((40 : Int) < (n : Int)) = false := decide_eq_false (by omega)
  have g1 : decide ((10 : Int) < (m : Int)) = false := decide_eq_false (by omega)
  have g2 : decide (z < 0) = true := decide_eq_true (by omega)
  have HB := Lib.hid (Below.refl w.heap.size w)
  go_enter Try.func5, Try.ntmps5
  go_wp2_with fail
  refine (hwk.out _).mono ?_
  rintro e v4 ⟨rfl, hb⟩
  have HFIN := Lib.hid (below0 HB.out hb)
  clear hb
  go_wp2_with fail
  go_ret
  exact ⟨rfl, HFIN.out⟩
set_option maxRecDepth 100000 in
theorem holds_d (A0 : Option Addr) (n ca : Nat) (z : Int) (B : Option Addr) (m cb : Nat) (w : World) (hn : n ≤ 40) (hm : m ≤ 10) (h : 5 < z) :
    Calls Try.prog 5 #[.slice A0 n ca, .int .i64 z, .slice B m cb] w fun e w' => e = .returned (.bool true) ∧ Below w.heap.size w w' := by
  have hwk := Lib.hid (fun w => works_any w)
  have g0 : decide ((40 : Int) < (n : Int)) = false := decide_eq_false (by omega)
  have g1 : decide ((10 : Int) < (m : Int)) = false := decide_eq_false (by omega)
  have g2 : decide (z < 0) = false := decide_eq_false (by omega)
  have g3 : decide (5 < z) = true := decide_eq_true (by omega)
  have HB := Lib.hid (Below.refl w.heap.size w)
  go_enter Try.func5, Try.ntmps5
  go_wp2_with fail
  refine (hwk.out _).mono ?_
  rintro e v4 ⟨rfl, hb⟩
  have HFIN := Lib.hid (below0 HB.out hb)
  clear hb
  go_wp2_with fail
  go_ret
  exact ⟨rfl, HFIN.out⟩
theorem cellHolds_any (acts : List Ac) (A0 : Option Addr) (n ca : Nat) (z : Int) (ws : List Nat) (B : Option Addr) (m cb : Nat) (w : World) (hA : Acs w acts A0) (hl : acts.length = n) (hB : Sees w w.heap.size B (wds ws)) (hm : ws.length = m) (hw64 : ∀ x ∈ ws, x < 18446744073709551616) :
    Calls Try.prog 5 #[.slice A0 n ca, .int .i64 z, .slice B m cb] w fun e w' => e = .returned (.bool true) ∧ Below w.heap.size w w' := by
  by_cases h40 : n ≤ 40
  · by_cases h10 : m ≤ 10
    · by_cases h0 : z < 0
      · exact holds_c A0 n ca z B m cb w h40 h10 h0
      · by_cases h5 : 5 < z
        · exact holds_d A0 n ca z B m cb w h40 h10 h5
        · obtain ⟨k, rfl⟩ : ∃ k : Nat, z = k := ⟨z.toNat, by omega⟩
          exact holds_main acts A0 n ca k ws B m cb w hA hl h40 (by omega) hB hm h10 hw64
    · exact holds_b A0 n ca z B m cb w h40 (by omega)
  · exact holds_a A0 n ca z B m cb w (by omega)
end Go.Proofs.Ytijgkjliienjhaa
