import Derived.Test.YtpnlddjobphjnaaDoorKWorks
namespace Go.Proofs.YtpnlddjobphjnaaDoor
open Go.RowKit

/-- how what is asked for b stands to what is asked for a -/
def Rel (a b : Nat) (h e2 yh : Int) : Prop := e2 = 2 ∨ (e2 = 0 ∧ b < a) ∨ (e2 = 0 ∧ a ≤ b ∧ h ≤ yh)

set_option maxRecDepth 100000 in
set_option maxHeartbeats 1000000 in
theorem holds_no (a b m : Nat) (yb : Bool) (yc yp yh e2 : Int) (w : World) (ht : Tab w) (ha : a < 18446744073709551616) (hm : m < 18446744073709551616) (hno : okB a m = false)
    (hy : Hid (∀ w : World, Tab w → Calls Tryd.prog 19 #[.int .u64 (b : Int), .int .u64 (m : Int)] w fun e w' => e = .returned (.tuple #[nv yb yc yp yh, .int .i64 e2]) ∧ Below w.heap.size w w')) :
    Calls Tryd.prog 8 #[.int .u64 (a : Int), .int .u64 (b : Int), .int .u64 (m : Int)] w fun e w' => e = .returned (.bool true) ∧ Below w.heap.size w w' := by
  have h1 := of_any a m w ht ha hm
  unfold ofB ofC ofP ofH ofE at h1
  rw [hno] at h1
  have H1 : Hid (Calls Tryd.prog 19 #[.int .u64 (a : Int), .int .u64 (m : Int)] w fun e w' => e = .returned (.tuple #[nv false 0 0 0, .int .i64 2]) ∧ Below w.heap.size w w') := Lib.hid h1
  have HT := Lib.hid ht
  clear h1 ht ha hm hno
  go_enter Tryd.func8, Tryd.ntmps8
  go_wp2_with fail
  refine (H1.out).mono ?_
  rintro e w1 ⟨rfl, hb1⟩
  have hB1 := hb1.alloc hb1.size (.cells #[.bool false, .int .i64 0, .int .i64 0, .int .i64 0] 33)
  clear hb1
  go_wp2_with fail
  refine (hy.out _ (HT.out.below hB1)).mono ?_
  rintro e w2 ⟨rfl, hb2⟩
  have hB2 := (below0 hB1 hb2).alloc (below0 hB1 hb2).size (.cells #[.bool yb, .int .i64 yc, .int .i64 yp, .int .i64 yh] 33)
  clear hB1 hb2
  go_wp2_with ((with_reducible refine (num_any _ _).mono ?_); rintro e w' ⟨rfl, rfl⟩)
  refine (works_any _ (HT.out.below hB2)).mono ?_
  rintro e w4 ⟨rfl, hb4⟩
  go_wp2_with fail
  go_ret
  exact ⟨rfl, below0 hB2 hb4⟩

set_option maxRecDepth 100000 in
set_option maxHeartbeats 2000000 in
theorem holds_great (a b m P Q : Nat) (yb : Bool) (yc yp yh e2 : Int) (w : World) (ht : Tab w) (hP : 1 ≤ P) (hP2 : P ≤ 1024) (hQ : Q = 256 * P) (haQ : a ≤ Q) (hl : 1 < P → Q - 256 < a)
    (H1 : Hid (Calls Tryd.prog 19 #[.int .u64 (a : Int), .int .u64 (m : Int)] w fun e w' => e = .returned (.tuple #[nv false 0 P Q, .int .i64 0]) ∧ Below w.heap.size w w'))
    (hy : Hid (∀ w : World, Tab w → Calls Tryd.prog 19 #[.int .u64 (b : Int), .int .u64 (m : Int)] w fun e w' => e = .returned (.tuple #[nv yb yc yp yh, .int .i64 e2]) ∧ Below w.heap.size w w'))
    (hr : Rel a b Q e2 yh) :
    Calls Tryd.prog 8 #[.int .u64 (a : Int), .int .u64 (b : Int), .int .u64 (m : Int)] w fun e w' => e = .returned (.bool true) ∧ Below w.heap.size w w' := by
  have HT := Lib.hid ht
  have d1 : decide ((P : Int) < 1) = false := decide_eq_false (by omega)
  have m1 : IntKind.i64.wrap (256 * (P : Int)) = (Q : Int) := by rw [wrapI _ (by omega) (by omega)]; omega
  have c1 : IntKind.u64.wrap (Q : Int) = (Q : Int) := wrapN Q (by omega)
  have s1 : IntKind.i64.wrap ((Q : Int) - 256) = ((Q - 256 : Nat) : Int) := by rw [wrapI _ (by omega) (by omega)]; omega
  have c2 : IntKind.u64.wrap ((Q - 256 : Nat) : Int) = ((Q - 256 : Nat) : Int) := wrapN (Q - 256) (by omega)
  have d3 : decide ((a : Int) ≤ (Q : Int)) = true := decide_eq_true (by omega)
  have d3' : decide (a ≤ Q) = true := decide_eq_true haQ
  obtain ⟨q, hq⟩ : ∃ q, q = Q - 256 := ⟨_, rfl⟩
  rw [← hq] at s1 c2 hl
  obtain ⟨g, hg⟩ : ∃ g, g = decide ((1 : Int) < (P : Int)) := ⟨_, rfl⟩
  have d2 : decide ((1 : Int) < (P : Int)) = g := hg.symm
  have d2' : decide (1 < P) = g := by rw [hg]; congr 1; exact propext (by omega)
  have d4 : g = true → decide ((a : Int) ≤ (q : Int)) = false ∧ decide (a ≤ q) = false := fun h => by
    rw [hg, decide_eq_true_eq] at h
    have := hl (by omega)
    exact ⟨decide_eq_false (by omega), decide_eq_false (by omega)⟩
  clear hg hq hl ht hP hP2 hQ haQ
  cases g
  · clear d4
    rcases hr with rfl | ⟨rfl, hba⟩ | ⟨rfl, hab, hh⟩
    · go_enter Tryd.func8, Tryd.ntmps8
      go_wp2_with fail
      refine (H1.out).mono ?_
      rintro e w1 ⟨rfl, hb1⟩
      have hx1 := Nd.new w1 (.bool false) (.int .i64 0) (.int .i64 P) (.int .i64 Q)
      have hB1 := hb1.alloc hb1.size (.cells #[.bool false, .int .i64 0, .int .i64 P, .int .i64 Q] 33)
      clear hb1
      go_wp2_with fail
      refine (hy.out _ (HT.out.below hB1)).mono ?_
      rintro e w2 ⟨rfl, hb2⟩
      obtain ⟨k, k0, k1, k2, k3, _, _, _, _⟩ := (hx1.below hb2).facts
      have hB2 := (below0 hB1 hb2).alloc (below0 hB1 hb2).size (.cells #[.bool yb, .int .i64 yc, .int .i64 yp, .int .i64 yh] 33)
      clear hB1 hb2 hx1
      go_wp2_with ((with_reducible refine (num_any _ _).mono ?_); rintro e w' ⟨rfl, rfl⟩)
      refine (works_any _ (HT.out.below hB2)).mono ?_
      rintro e w4 ⟨rfl, hb4⟩
      go_wp2_with fail
      go_ret
      exact ⟨rfl, below0 hB2 hb4⟩
    · have r1 : decide ((b : Int) < (a : Int)) = true := decide_eq_true (by omega)
      have r1' : decide (b < a) = true := decide_eq_true hba
      clear hba
      go_enter Tryd.func8, Tryd.ntmps8
      go_wp2_with fail
      refine (H1.out).mono ?_
      rintro e w1 ⟨rfl, hb1⟩
      have hx1 := Nd.new w1 (.bool false) (.int .i64 0) (.int .i64 P) (.int .i64 Q)
      have hB1 := hb1.alloc hb1.size (.cells #[.bool false, .int .i64 0, .int .i64 P, .int .i64 Q] 33)
      clear hb1
      go_wp2_with fail
      refine (hy.out _ (HT.out.below hB1)).mono ?_
      rintro e w2 ⟨rfl, hb2⟩
      obtain ⟨k, k0, k1, k2, k3, _, _, _, _⟩ := (hx1.below hb2).facts
      have hB2 := (below0 hB1 hb2).alloc (below0 hB1 hb2).size (.cells #[.bool yb, .int .i64 yc, .int .i64 yp, .int .i64 yh] 33)
      clear hB1 hb2 hx1
      go_wp2_with ((with_reducible refine (num_any _ _).mono ?_); rintro e w' ⟨rfl, rfl⟩)
      refine (works_any _ (HT.out.below hB2)).mono ?_
      rintro e w4 ⟨rfl, hb4⟩
      go_wp2_with fail
      go_ret
      exact ⟨rfl, below0 hB2 hb4⟩
    · have r1 : decide ((b : Int) < (a : Int)) = false := decide_eq_false (by omega)
      have r1' : decide (b < a) = false := decide_eq_false (by omega)
      have r2 : decide ((Q : Int) ≤ yh) = true := decide_eq_true hh
      clear hab hh
      go_enter Tryd.func8, Tryd.ntmps8
      go_wp2_with fail
      refine (H1.out).mono ?_
      rintro e w1 ⟨rfl, hb1⟩
      have hx1 := Nd.new w1 (.bool false) (.int .i64 0) (.int .i64 P) (.int .i64 Q)
      have hB1 := hb1.alloc hb1.size (.cells #[.bool false, .int .i64 0, .int .i64 P, .int .i64 Q] 33)
      clear hb1
      go_wp2_with fail
      refine (hy.out _ (HT.out.below hB1)).mono ?_
      rintro e w2 ⟨rfl, hb2⟩
      obtain ⟨k, k0, k1, k2, k3, _, _, _, _⟩ := (hx1.below hb2).facts
      have hB2 := (below0 hB1 hb2).alloc (below0 hB1 hb2).size (.cells #[.bool yb, .int .i64 yc, .int .i64 yp, .int .i64 yh] 33)
      clear hB1 hb2 hx1
      go_wp2_with ((with_reducible refine (num_any _ _).mono ?_); rintro e w' ⟨rfl, rfl⟩)
      refine (works_any _ (HT.out.below hB2)).mono ?_
      rintro e w4 ⟨rfl, hb4⟩
      go_wp2_with fail
      go_ret
      exact ⟨rfl, below0 hB2 hb4⟩
  · obtain ⟨d4, d4'⟩ := d4 rfl
    rcases hr with rfl | ⟨rfl, hba⟩ | ⟨rfl, hab, hh⟩
    · go_enter Tryd.func8, Tryd.ntmps8
      go_wp2_with fail
      refine (H1.out).mono ?_
      rintro e w1 ⟨rfl, hb1⟩
      have hx1 := Nd.new w1 (.bool false) (.int .i64 0) (.int .i64 P) (.int .i64 Q)
      have hB1 := hb1.alloc hb1.size (.cells #[.bool false, .int .i64 0, .int .i64 P, .int .i64 Q] 33)
      clear hb1
      go_wp2_with fail
      refine (hy.out _ (HT.out.below hB1)).mono ?_
      rintro e w2 ⟨rfl, hb2⟩
      obtain ⟨k, k0, k1, k2, k3, _, _, _, _⟩ := (hx1.below hb2).facts
      have hB2 := (below0 hB1 hb2).alloc (below0 hB1 hb2).size (.cells #[.bool yb, .int .i64 yc, .int .i64 yp, .int .i64 yh] 33)
      clear hB1 hb2 hx1
      go_wp2_with ((with_reducible refine (num_any _ _).mono ?_); rintro e w' ⟨rfl, rfl⟩)
      refine (works_any _ (HT.out.below hB2)).mono ?_
      rintro e w4 ⟨rfl, hb4⟩
      go_wp2_with fail
      go_ret
      exact ⟨rfl, below0 hB2 hb4⟩
    · have r1 : decide ((b : Int) < (a : Int)) = true := decide_eq_true (by omega)
      have r1' : decide (b < a) = true := decide_eq_true hba
      clear hba
      go_enter Tryd.func8, Tryd.ntmps8
      go_wp2_with fail
      refine (H1.out).mono ?_
      rintro e w1 ⟨rfl, hb1⟩
      have hx1 := Nd.new w1 (.bool false) (.int .i64 0) (.int .i64 P) (.int .i64 Q)
      have hB1 := hb1.alloc hb1.size (.cells #[.bool false, .int .i64 0, .int .i64 P, .int .i64 Q] 33)
      clear hb1
      go_wp2_with fail
      refine (hy.out _ (HT.out.below hB1)).mono ?_
      rintro e w2 ⟨rfl, hb2⟩
      obtain ⟨k, k0, k1, k2, k3, _, _, _, _⟩ := (hx1.below hb2).facts
      have hB2 := (below0 hB1 hb2).alloc (below0 hB1 hb2).size (.cells #[.bool yb, .int .i64 yc, .int .i64 yp, .int .i64 yh] 33)
      clear hB1 hb2 hx1
      go_wp2_with ((with_reducible refine (num_any _ _).mono ?_); rintro e w' ⟨rfl, rfl⟩)
      refine (works_any _ (HT.out.below hB2)).mono ?_
      rintro e w4 ⟨rfl, hb4⟩
      go_wp2_with fail
      go_ret
      exact ⟨rfl, below0 hB2 hb4⟩
    · have r1 : decide ((b : Int) < (a : Int)) = false := decide_eq_false (by omega)
      have r1' : decide (b < a) = false := decide_eq_false (by omega)
      have r2 : decide ((Q : Int) ≤ yh) = true := decide_eq_true hh
      clear hab hh
      go_enter Tryd.func8, Tryd.ntmps8
      go_wp2_with fail
      refine (H1.out).mono ?_
      rintro e w1 ⟨rfl, hb1⟩
      have hx1 := Nd.new w1 (.bool false) (.int .i64 0) (.int .i64 P) (.int .i64 Q)
      have hB1 := hb1.alloc hb1.size (.cells #[.bool false, .int .i64 0, .int .i64 P, .int .i64 Q] 33)
      clear hb1
      go_wp2_with fail
      refine (hy.out _ (HT.out.below hB1)).mono ?_
      rintro e w2 ⟨rfl, hb2⟩
      obtain ⟨k, k0, k1, k2, k3, _, _, _, _⟩ := (hx1.below hb2).facts
      have hB2 := (below0 hB1 hb2).alloc (below0 hB1 hb2).size (.cells #[.bool yb, .int .i64 yc, .int .i64 yp, .int .i64 yh] 33)
      clear hB1 hb2 hx1
      go_wp2_with ((with_reducible refine (num_any _ _).mono ?_); rintro e w' ⟨rfl, rfl⟩)
      refine (works_any _ (HT.out.below hB2)).mono ?_
      rintro e w4 ⟨rfl, hb4⟩
      go_wp2_with fail
      go_ret
      exact ⟨rfl, below0 hB2 hb4⟩

set_option maxRecDepth 100000 in
set_option maxHeartbeats 2000000 in
theorem holds_small (a b m k p : Nat) (yb : Bool) (yc yp yh e2 : Int) (w : World) (ht : Tab w) (hk : k < 8) (hp : p = pay k) (hm : m ≤ 16) (hap : a ≤ p) (hl : ∀ j, k = j + 1 → pay j < max a 1)
    (H1 : Hid (Calls Tryd.prog 19 #[.int .u64 (a : Int), .int .u64 (m : Int)] w fun e w' => e = .returned (.tuple #[nv true k 0 p, .int .i64 0]) ∧ Below w.heap.size w w'))
    (hy : Hid (∀ w : World, Tab w → Calls Tryd.prog 19 #[.int .u64 (b : Int), .int .u64 (m : Int)] w fun e w' => e = .returned (.tuple #[nv yb yc yp yh, .int .i64 e2]) ∧ Below w.heap.size w w'))
    (hr : Rel a b p e2 yh) :
    Calls Tryd.prog 8 #[.int .u64 (a : Int), .int .u64 (b : Int), .int .u64 (m : Int)] w fun e w' => e = .returned (.bool true) ∧ Below w.heap.size w w' := by
  have HT := Lib.hid ht
  have hpb := pay_bound hk
  have hq1 := Lib.hid (fun w ht => payload_yes k w ht hk)
  rw [← hp] at hq1 hpb
  have c1 : IntKind.u64.wrap (p : Int) = (p : Int) := wrapN p (by omega)
  have d1 : decide ((16 : Int) < (m : Int)) = false := decide_eq_false (by omega)
  have d1' : decide (16 < m) = false := decide_eq_false (by omega)
  have d3 : decide ((a : Int) ≤ (p : Int)) = true := decide_eq_true (by omega)
  have d3' : decide (a ≤ p) = true := decide_eq_true hap
  clear ht hpb hap hm
  rcases k with _ | j
  · have hq2 := Lib.hid (fun w => payload_no (-1) w rfl)
    have k9 : IntKind.i64.wrap (((0 : Nat) : Int) - 1) = -1 := rfl
    clear hl hk hp
    rw [show ((0 : Nat) : Int) = 0 from rfl] at H1 hq1
    rcases hr with rfl | ⟨rfl, hba⟩ | ⟨rfl, hab, hh⟩
    · go_enter Tryd.func8, Tryd.ntmps8
      go_wp2_with fail
      refine (H1.out).mono ?_
      rintro e w1 ⟨rfl, hb1⟩
      have hx1 := Nd.new w1 (.bool true) (.int .i64 0) (.int .i64 0) (.int .i64 p)
      have hB1 := hb1.alloc hb1.size (.cells #[.bool true, .int .i64 0, .int .i64 0, .int .i64 p] 33)
      clear hb1
      go_wp2_with fail
      refine (hy.out _ (HT.out.below hB1)).mono ?_
      rintro e w2 ⟨rfl, hb2⟩
      obtain ⟨kl, k0, k1, k2, k3, _, _, _, _⟩ := (hx1.below hb2).facts
      have hx2 := (hx1.below hb2).below (below1 w2 (.cells #[.bool yb, .int .i64 yc, .int .i64 yp, .int .i64 yh] 33))
      have hy2 := Nd.new w2 (.bool yb) (.int .i64 yc) (.int .i64 yp) (.int .i64 yh)
      have hB2 := (below0 hB1 hb2).alloc (below0 hB1 hb2).size (.cells #[.bool yb, .int .i64 yc, .int .i64 yp, .int .i64 yh] 33)
      clear hB1 hb2 hx1
      go_wp2_with ((with_reducible refine (num_any _ _).mono ?_); rintro e w' ⟨rfl, rfl⟩)
      refine (hq1.out _ (HT.out.below hB2)).mono ?_
      rintro e w3 ⟨rfl, hb3⟩
      have hx3 := hx2.below hb3
      have hy3 := hy2.below hb3
      obtain ⟨l, l0, l1, l2, l3, _, _, _, _⟩ := hx3.facts
      have hB3 := below0 hB2 hb3
      clear hb3 hx2 hy2 hB2 kl k0 k1 k2 k3
      go_wp2_with ((with_reducible refine (num_any _ _).mono ?_); rintro e w' ⟨rfl, rfl⟩)
      refine (hq2.out _).mono ?_
      rintro e w4 ⟨rfl, hb4⟩
      obtain ⟨n, n0, n1, n2, n3, _, _, _, _⟩ := (hx3.below hb4).facts
      obtain ⟨o, o0, o1, o2, o3, _, _, _, _⟩ := (hy3.below hb4).facts
      have hB4 := below0 hB3 hb4
      clear hb4 hx3 hy3 hB3 l l0 l1 l2 l3
      go_wp2_with ((with_reducible refine (num_any _ _).mono ?_); rintro e w' ⟨rfl, rfl⟩)
      refine (works_any _ (HT.out.below hB4)).mono ?_
      rintro e w5 ⟨rfl, hb5⟩
      go_wp2_with fail
      go_ret
      exact ⟨rfl, below0 hB4 hb5⟩
    · have r1 : decide ((b : Int) < (a : Int)) = true := decide_eq_true (by omega)
      have r1' : decide (b < a) = true := decide_eq_true hba
      clear hba
      go_enter Tryd.func8, Tryd.ntmps8
      go_wp2_with fail
      refine (H1.out).mono ?_
      rintro e w1 ⟨rfl, hb1⟩
      have hx1 := Nd.new w1 (.bool true) (.int .i64 0) (.int .i64 0) (.int .i64 p)
      have hB1 := hb1.alloc hb1.size (.cells #[.bool true, .int .i64 0, .int .i64 0, .int .i64 p] 33)
      clear hb1
      go_wp2_with fail
      refine (hy.out _ (HT.out.below hB1)).mono ?_
      rintro e w2 ⟨rfl, hb2⟩
      obtain ⟨kl, k0, k1, k2, k3, _, _, _, _⟩ := (hx1.below hb2).facts
      have hx2 := (hx1.below hb2).below (below1 w2 (.cells #[.bool yb, .int .i64 yc, .int .i64 yp, .int .i64 yh] 33))
      have hy2 := Nd.new w2 (.bool yb) (.int .i64 yc) (.int .i64 yp) (.int .i64 yh)
      have hB2 := (below0 hB1 hb2).alloc (below0 hB1 hb2).size (.cells #[.bool yb, .int .i64 yc, .int .i64 yp, .int .i64 yh] 33)
      clear hB1 hb2 hx1
      go_wp2_with ((with_reducible refine (num_any _ _).mono ?_); rintro e w' ⟨rfl, rfl⟩)
      refine (hq1.out _ (HT.out.below hB2)).mono ?_
      rintro e w3 ⟨rfl, hb3⟩
      have hx3 := hx2.below hb3
      have hy3 := hy2.below hb3
      obtain ⟨l, l0, l1, l2, l3, _, _, _, _⟩ := hx3.facts
      have hB3 := below0 hB2 hb3
      clear hb3 hx2 hy2 hB2 kl k0 k1 k2 k3
      go_wp2_with ((with_reducible refine (num_any _ _).mono ?_); rintro e w' ⟨rfl, rfl⟩)
      refine (hq2.out _).mono ?_
      rintro e w4 ⟨rfl, hb4⟩
      obtain ⟨n, n0, n1, n2, n3, _, _, _, _⟩ := (hx3.below hb4).facts
      obtain ⟨o, o0, o1, o2, o3, _, _, _, _⟩ := (hy3.below hb4).facts
      have hB4 := below0 hB3 hb4
      clear hb4 hx3 hy3 hB3 l l0 l1 l2 l3
      go_wp2_with ((with_reducible refine (num_any _ _).mono ?_); rintro e w' ⟨rfl, rfl⟩)
      refine (works_any _ (HT.out.below hB4)).mono ?_
      rintro e w5 ⟨rfl, hb5⟩
      go_wp2_with fail
      go_ret
      exact ⟨rfl, below0 hB4 hb5⟩
    · have r1 : decide ((b : Int) < (a : Int)) = false := decide_eq_false (by omega)
      have r1' : decide (b < a) = false := decide_eq_false (by omega)
      have r2 : decide ((p : Int) ≤ yh) = true := decide_eq_true hh
      clear hab hh
      go_enter Tryd.func8, Tryd.ntmps8
      go_wp2_with fail
      refine (H1.out).mono ?_
      rintro e w1 ⟨rfl, hb1⟩
      have hx1 := Nd.new w1 (.bool true) (.int .i64 0) (.int .i64 0) (.int .i64 p)
      have hB1 := hb1.alloc hb1.size (.cells #[.bool true, .int .i64 0, .int .i64 0, .int .i64 p] 33)
      clear hb1
      go_wp2_with fail
      refine (hy.out _ (HT.out.below hB1)).mono ?_
      rintro e w2 ⟨rfl, hb2⟩
      obtain ⟨kl, k0, k1, k2, k3, _, _, _, _⟩ := (hx1.below hb2).facts
      have hx2 := (hx1.below hb2).below (below1 w2 (.cells #[.bool yb, .int .i64 yc, .int .i64 yp, .int .i64 yh] 33))
      have hy2 := Nd.new w2 (.bool yb) (.int .i64 yc) (.int .i64 yp) (.int .i64 yh)
      have hB2 := (below0 hB1 hb2).alloc (below0 hB1 hb2).size (.cells #[.bool yb, .int .i64 yc, .int .i64 yp, .int .i64 yh] 33)
      clear hB1 hb2 hx1
      go_wp2_with ((with_reducible refine (num_any _ _).mono ?_); rintro e w' ⟨rfl, rfl⟩)
      refine (hq1.out _ (HT.out.below hB2)).mono ?_
      rintro e w3 ⟨rfl, hb3⟩
      have hx3 := hx2.below hb3
      have hy3 := hy2.below hb3
      obtain ⟨l, l0, l1, l2, l3, _, _, _, _⟩ := hx3.facts
      have hB3 := below0 hB2 hb3
      clear hb3 hx2 hy2 hB2 kl k0 k1 k2 k3
      go_wp2_with ((with_reducible refine (num_any _ _).mono ?_); rintro e w' ⟨rfl, rfl⟩)
      refine (hq2.out _).mono ?_
      rintro e w4 ⟨rfl, hb4⟩
      obtain ⟨n, n0, n1, n2, n3, _, _, _, _⟩ := (hx3.below hb4).facts
      obtain ⟨o, o0, o1, o2, o3, _, _, _, _⟩ := (hy3.below hb4).facts
      have hB4 := below0 hB3 hb4
      clear hb4 hx3 hy3 hB3 l l0 l1 l2 l3
      go_wp2_with ((with_reducible refine (num_any _ _).mono ?_); rintro e w' ⟨rfl, rfl⟩)
      refine (works_any _ (HT.out.below hB4)).mono ?_
      rintro e w5 ⟨rfl, hb5⟩
      go_wp2_with fail
      go_ret
      exact ⟨rfl, below0 hB4 hb5⟩
  · have hj : j < 8 := by omega
    have hq2 := Lib.hid (fun w ht => payload_yes j w ht hj)
    have hll := hl j rfl
    have hjb := (pay_bound hj).2.1
    have k9 : IntKind.i64.wrap (((j + 1 : Nat) : Int) - 1) = (j : Int) := by rw [wrapI _ (by omega) (by omega)]; omega
    have c2 : IntKind.u64.wrap (pay j : Int) = (pay j : Int) := wrapN (pay j) (by omega)
    have hmax : (if (1 : Int) < (a : Int) then (a : Int) else 1) = ((max a 1 : Nat) : Int) := by split <;> omega
    have d5 : decide (((max a 1 : Nat) : Int) ≤ (pay j : Int)) = false := decide_eq_false (by omega)
    have d5' : decide (max a 1 ≤ pay j) = false := decide_eq_false (by omega)
    obtain ⟨z, hz⟩ : ∃ z, z = max a 1 := ⟨_, rfl⟩
    rw [← hz] at hmax d5 d5'
    obtain ⟨u, hu⟩ : ∃ u, u = pay j := ⟨_, rfl⟩
    rw [← hu] at hq2 c2 d5 d5'
    obtain ⟨k, hkk⟩ : ∃ k, k = j + 1 := ⟨_, rfl⟩
    rw [← hkk] at hq1 H1 k9
    clear hl hk hp hj hll hjb hz hu hkk
    rcases hr with rfl | ⟨rfl, hba⟩ | ⟨rfl, hab, hh⟩
    · go_enter Tryd.func8, Tryd.ntmps8
      go_wp2_with fail
      refine (H1.out).mono ?_
      rintro e w1 ⟨rfl, hb1⟩
      have hx1 := Nd.new w1 (.bool true) (.int .i64 k) (.int .i64 0) (.int .i64 p)
      have hB1 := hb1.alloc hb1.size (.cells #[.bool true, .int .i64 k, .int .i64 0, .int .i64 p] 33)
      clear hb1
      go_wp2_with fail
      refine (hy.out _ (HT.out.below hB1)).mono ?_
      rintro e w2 ⟨rfl, hb2⟩
      obtain ⟨kl, k0, k1, k2, k3, _, _, _, _⟩ := (hx1.below hb2).facts
      have hx2 := (hx1.below hb2).below (below1 w2 (.cells #[.bool yb, .int .i64 yc, .int .i64 yp, .int .i64 yh] 33))
      have hy2 := Nd.new w2 (.bool yb) (.int .i64 yc) (.int .i64 yp) (.int .i64 yh)
      have hB2 := (below0 hB1 hb2).alloc (below0 hB1 hb2).size (.cells #[.bool yb, .int .i64 yc, .int .i64 yp, .int .i64 yh] 33)
      clear hB1 hb2 hx1
      go_wp2_with ((with_reducible refine (num_any _ _).mono ?_); rintro e w' ⟨rfl, rfl⟩)
      refine (hq1.out _ (HT.out.below hB2)).mono ?_
      rintro e w3 ⟨rfl, hb3⟩
      have hx3 := hx2.below hb3
      have hy3 := hy2.below hb3
      obtain ⟨l, l0, l1, l2, l3, _, _, _, _⟩ := hx3.facts
      have hB3 := below0 hB2 hb3
      clear hb3 hx2 hy2 hB2 kl k0 k1 k2 k3
      go_wp2_with ((with_reducible refine (num_any _ _).mono ?_); rintro e w' ⟨rfl, rfl⟩)
      refine (hq2.out _ (HT.out.below hB3)).mono ?_
      rintro e w4 ⟨rfl, hb4⟩
      obtain ⟨n, n0, n1, n2, n3, _, _, _, _⟩ := (hx3.below hb4).facts
      obtain ⟨o, o0, o1, o2, o3, _, _, _, _⟩ := (hy3.below hb4).facts
      have hB4 := below0 hB3 hb4
      clear hb4 hx3 hy3 hB3 l l0 l1 l2 l3
      go_wp2_with ((with_reducible refine (num_any _ _).mono ?_); rintro e w' ⟨rfl, rfl⟩)
      refine (works_any _ (HT.out.below hB4)).mono ?_
      rintro e w5 ⟨rfl, hb5⟩
      go_wp2_with fail
      go_ret
      exact ⟨rfl, below0 hB4 hb5⟩
    · have r1 : decide ((b : Int) < (a : Int)) = true := decide_eq_true (by omega)
      have r1' : decide (b < a) = true := decide_eq_true hba
      clear hba
      go_enter Tryd.func8, Tryd.ntmps8
      go_wp2_with fail
      refine (H1.out).mono ?_
      rintro e w1 ⟨rfl, hb1⟩
      have hx1 := Nd.new w1 (.bool true) (.int .i64 k) (.int .i64 0) (.int .i64 p)
      have hB1 := hb1.alloc hb1.size (.cells #[.bool true, .int .i64 k, .int .i64 0, .int .i64 p] 33)
      clear hb1
      go_wp2_with fail
      refine (hy.out _ (HT.out.below hB1)).mono ?_
      rintro e w2 ⟨rfl, hb2⟩
      obtain ⟨kl, k0, k1, k2, k3, _, _, _, _⟩ := (hx1.below hb2).facts
      have hx2 := (hx1.below hb2).below (below1 w2 (.cells #[.bool yb, .int .i64 yc, .int .i64 yp, .int .i64 yh] 33))
      have hy2 := Nd.new w2 (.bool yb) (.int .i64 yc) (.int .i64 yp) (.int .i64 yh)
      have hB2 := (below0 hB1 hb2).alloc (below0 hB1 hb2).size (.cells #[.bool yb, .int .i64 yc, .int .i64 yp, .int .i64 yh] 33)
      clear hB1 hb2 hx1
      go_wp2_with ((with_reducible refine (num_any _ _).mono ?_); rintro e w' ⟨rfl, rfl⟩)
      refine (hq1.out _ (HT.out.below hB2)).mono ?_
      rintro e w3 ⟨rfl, hb3⟩
      have hx3 := hx2.below hb3
      have hy3 := hy2.below hb3
      obtain ⟨l, l0, l1, l2, l3, _, _, _, _⟩ := hx3.facts
      have hB3 := below0 hB2 hb3
      clear hb3 hx2 hy2 hB2 kl k0 k1 k2 k3
      go_wp2_with ((with_reducible refine (num_any _ _).mono ?_); rintro e w' ⟨rfl, rfl⟩)
      refine (hq2.out _ (HT.out.below hB3)).mono ?_
      rintro e w4 ⟨rfl, hb4⟩
      obtain ⟨n, n0, n1, n2, n3, _, _, _, _⟩ := (hx3.below hb4).facts
      obtain ⟨o, o0, o1, o2, o3, _, _, _, _⟩ := (hy3.below hb4).facts
      have hB4 := below0 hB3 hb4
      clear hb4 hx3 hy3 hB3 l l0 l1 l2 l3
      go_wp2_with ((with_reducible refine (num_any _ _).mono ?_); rintro e w' ⟨rfl, rfl⟩)
      refine (works_any _ (HT.out.below hB4)).mono ?_
      rintro e w5 ⟨rfl, hb5⟩
      go_wp2_with fail
      go_ret
      exact ⟨rfl, below0 hB4 hb5⟩
    · have r1 : decide ((b : Int) < (a : Int)) = false := decide_eq_false (by omega)
      have r1' : decide (b < a) = false := decide_eq_false (by omega)
      have r2 : decide ((p : Int) ≤ yh) = true := decide_eq_true hh
      clear hab hh
      go_enter Tryd.func8, Tryd.ntmps8
      go_wp2_with fail
      refine (H1.out).mono ?_
      rintro e w1 ⟨rfl, hb1⟩
      have hx1 := Nd.new w1 (.bool true) (.int .i64 k) (.int .i64 0) (.int .i64 p)
      have hB1 := hb1.alloc hb1.size (.cells #[.bool true, .int .i64 k, .int .i64 0, .int .i64 p] 33)
      clear hb1
      go_wp2_with fail
      refine (hy.out _ (HT.out.below hB1)).mono ?_
      rintro e w2 ⟨rfl, hb2⟩
      obtain ⟨kl, k0, k1, k2, k3, _, _, _, _⟩ := (hx1.below hb2).facts
      have hx2 := (hx1.below hb2).below (below1 w2 (.cells #[.bool yb, .int .i64 yc, .int .i64 yp, .int .i64 yh] 33))
      have hy2 := Nd.new w2 (.bool yb) (.int .i64 yc) (.int .i64 yp) (.int .i64 yh)
      have hB2 := (below0 hB1 hb2).alloc (below0 hB1 hb2).size (.cells #[.bool yb, .int .i64 yc, .int .i64 yp, .int .i64 yh] 33)
      clear hB1 hb2 hx1
      go_wp2_with ((with_reducible refine (num_any _ _).mono ?_); rintro e w' ⟨rfl, rfl⟩)
      refine (hq1.out _ (HT.out.below hB2)).mono ?_
      rintro e w3 ⟨rfl, hb3⟩
      have hx3 := hx2.below hb3
      have hy3 := hy2.below hb3
      obtain ⟨l, l0, l1, l2, l3, _, _, _, _⟩ := hx3.facts
      have hB3 := below0 hB2 hb3
      clear hb3 hx2 hy2 hB2 kl k0 k1 k2 k3
      go_wp2_with ((with_reducible refine (num_any _ _).mono ?_); rintro e w' ⟨rfl, rfl⟩)
      refine (hq2.out _ (HT.out.below hB3)).mono ?_
      rintro e w4 ⟨rfl, hb4⟩
      obtain ⟨n, n0, n1, n2, n3, _, _, _, _⟩ := (hx3.below hb4).facts
      obtain ⟨o, o0, o1, o2, o3, _, _, _, _⟩ := (hy3.below hb4).facts
      have hB4 := below0 hB3 hb4
      clear hb4 hx3 hy3 hB3 l l0 l1 l2 l3
      go_wp2_with ((with_reducible refine (num_any _ _).mono ?_); rintro e w' ⟨rfl, rfl⟩)
      refine (works_any _ (HT.out.below hB4)).mono ?_
      rintro e w5 ⟨rfl, hb5⟩
      go_wp2_with fail
      go_ret
      exact ⟨rfl, below0 hB4 hb5⟩

theorem pay_mono {i j : Nat} (h : i ≤ j) (hj : j < 8) : pay i ≤ pay j := by
  have hi : i < 8 := by omega
  rcases pay_cases hi with h1 | h1 | h1 | h1 | h1 | h1 | h1 | h1 <;> rcases pay_cases hj with h2 | h2 | h2 | h2 | h2 | h2 | h2 | h2 <;> omega
theorem cls_hold {n k : Nat} (h : cls (n : Int) = some k) : k < 8 ∧ n ≤ pay k ∧ ∀ j, j < k → pay j < n := by
  have h8 := (clsB_some h).2.2.2.2
  have h1 : hold n k = true := List.find?_some h
  have h2 : n ≤ pay k := by simp [hold] at h1; omega
  refine ⟨h8, h2, fun j hj => ?_⟩
  unfold cls at h
  rw [List.find?_eq_some_iff_getElem] at h
  obtain ⟨_, i, hi, hik, hlt⟩ := h
  rw [List.getElem_range] at hik
  subst hik
  have := hlt j hj
  rw [List.getElem_range] at this
  simp [hold] at this
  omega
theorem cls_mono {a b k : Nat} (h : cls (b : Int) = some k) (hab : a ≤ b) : ∃ j, cls (a : Int) = some j ∧ pay j ≤ pay k := by
  obtain ⟨h8, h1, h2⟩ := cls_hold h
  cases hc : cls (a : Int) with
  | none =>
    unfold cls at hc
    rw [List.find?_eq_none] at hc
    have := hc k (List.mem_range.2 h8)
    simp [hold] at this
    omega
  | some j =>
    refine ⟨j, rfl, ?_⟩
    obtain ⟨g8, g1, g2⟩ := cls_hold hc
    rcases Nat.lt_or_ge k j with hlt | hge
    · have := g2 k hlt; omega
    · exact pay_mono hge h8
theorem pg_mono {a b : Nat} (h : a ≤ b) : pg a ≤ pg b := by unfold pg; omega
/-- a greater size is charged no less -/
theorem ndH_mono (a b m : Nat) (hab : a ≤ b) (hb : 1 ≤ b) : ndH a m ≤ ndH b m := by
  unfold ndH ndB
  by_cases hm : m ≤ 16
  · simp only [decide_eq_true hm, Bool.and_true]
    cases hc : cls (b : Int) with
    | some k =>
      obtain ⟨j, hj, hle⟩ := cls_mono hc hab
      simp only [(clsB_some hc).1, (clsB_some hc).2.2.1, (clsB_some hj).1, (clsB_some hj).2.2.1, if_true]
      omega
    | none =>
      cases ha : cls (a : Int) with
      | none =>
        have := pg_mono hab
        simp only [(clsB_none hc).1, (clsB_none ha).1, Bool.false_eq_true, if_false]
        omega
      | some j =>
        have h1 := (pay_bound (clsB_some ha).2.2.2.2).2.1
        have h2 : 1 ≤ pg b := by unfold pg; omega
        simp only [(clsB_none hc).1, (clsB_some ha).1, (clsB_some ha).2.2.1, Bool.false_eq_true, if_false, if_true]
        omega
  · have := pg_mono hab
    simp only [decide_eq_false hm, Bool.and_false, Bool.false_eq_true, if_false]
    omega

theorem sizeHolds_any (a b m : Nat) (w : World) (ht : Tab w) (ha : a < 18446744073709551616) (hb : b < 18446744073709551616) (hm : m < 18446744073709551616) :
    Calls Tryd.prog 8 #[.int .u64 (a : Int), .int .u64 (b : Int), .int .u64 (m : Int)] w fun e w' => e = .returned (.bool true) ∧ Below w.heap.size w w' := by
  have hy := Lib.hid (fun w ht => of_any b m w ht hb hm)
  cases hok : okB a m with
  | false => exact holds_no a b m _ _ _ _ _ w ht ha hm hok hy
  | true =>
    have h1 := of_any a m w ht ha hm
    have hR : Rel a b (ofH a m) (ofE b m) (ofH b m) := by
      unfold Rel ofE ofH
      cases hob : okB b m with
      | false => exact .inl rfl
      | true =>
        rw [hok]
        rcases Nat.lt_or_ge b a with h | h
        · exact .inr (.inl ⟨rfl, h⟩)
        · exact .inr (.inr ⟨rfl, h, ndH_mono _ _ _ (by unfold sz; omega) (by unfold sz; omega)⟩)
    have hle : a ≤ 262144 := by
      have h2 := hok
      unfold okB at h2
      rw [Bool.and_eq_true, decide_eq_true_eq] at h2
      exact h2.1
    have hsz : a ≤ sz a ∧ sz a = max a 1 := ⟨by unfold sz; omega, rfl⟩
    have e1 : ofB a m = ndB (sz a) m := by unfold ofB; rw [hok, Bool.true_and]
    have e2 : ofC a m = ndC (sz a) m := by unfold ofC; rw [hok, if_pos rfl]
    have e3 : ofP a m = ndP (sz a) m := by unfold ofP; rw [hok, if_pos rfl]
    have e4 : ofH a m = ndH (sz a) m := by unfold ofH; rw [hok, if_pos rfl]
    have e5 : ofE a m = 0 := by unfold ofE; rw [hok, if_pos rfl]
    rw [e4] at hR
    rw [e1, e2, e3, e4, e5] at h1
    cases hn : ndB (sz a) m with
    | true =>
      unfold ndB at hn
      rw [Bool.and_eq_true, decide_eq_true_eq] at hn
      cases hc : cls ((sz a : Nat) : Int) with
      | none => rw [(clsB_none hc).1] at hn; exact absurd hn.1 (by decide)
      | some k =>
        obtain ⟨c1, c2, c3, _, c5⟩ := clsB_some hc
        obtain ⟨_, g1, g2⟩ := cls_hold hc
        have hnb : ndB (sz a) m = true := by unfold ndB; rw [c1, decide_eq_true hn.2]; rfl
        unfold ndC ndP ndH at h1
        unfold ndH at hR
        rw [hnb, if_pos rfl, if_pos rfl, if_pos rfl, c2, c3] at h1
        rw [hnb, if_pos rfl, c3] at hR
        exact holds_small a b m k (pay k) _ _ _ _ _ w ht c5 rfl hn.2 (by omega) (fun j hj => by have := g2 j (by omega); omega) (Lib.hid h1) hy hR
    | false =>
      unfold ndC ndP ndH at h1
      unfold ndH at hR
      rw [hn] at h1 hR
      have hp1 : 1 ≤ pg (sz a) ∧ pg (sz a) ≤ 1024 := ⟨by unfold pg sz; omega, pg_le (by unfold sz; omega)⟩
      exact holds_great a b m (pg (sz a)) (256 * pg (sz a)) _ _ _ _ _ w ht hp1.1 hp1.2 rfl (by unfold pg sz; omega) (fun h => by unfold pg sz at h ⊢; omega) (Lib.hid h1) hy hR
end Go.Proofs.YtpnlddjobphjnaaDoor
