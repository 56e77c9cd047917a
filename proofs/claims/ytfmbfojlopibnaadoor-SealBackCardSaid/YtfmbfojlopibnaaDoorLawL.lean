import Derived.Test.YtfmbfojlopibnaaDoorWorks
namespace Go.Proofs.YtfmbfojlopibnaaDoor
open Go.RowKit Go.Shelf
attribute [local go_sem] Oper.semAt_some

/- SEALLOOKS. -/

/-- a tag that may be, as numbers -/
theorem ok_nats {c s : Int} (h : okT c s = true) : ∃ c' s' : Nat, c = c' ∧ s = s' ∧ c' < 8 ∧ s' ≤ 65535 := by
  obtain ⟨h1, h2, h3, h4⟩ := okT_iff.1 h
  exact ⟨c.toNat, s.toNat, by omega, by omega, by omega, by omega⟩

set_option maxHeartbeats 4000000 in
theorem sealLooks_any (k at_ n : Nat) (c s : Int) (A1 A2 : Option Addr) (n1 c1 n2 c2 : Nat) (l1 l2 : List UInt8) (w : World) (ht : Tab w) (hk : k < 18446744073709551616) (ha : at_ < 4294967296) (hn : n < 4294967296)
    (hn1 : l1.length = n1) (hn2 : l2.length = n2) (hr1 : Sees w w.heap.size A1 (byt l1)) (hr2 : Sees w w.heap.size A2 (byt l2)) :
    Calls Tryd.prog 5 #[.agg #[.int .u64 (k : Int), .int .u32 (at_ : Int)], .agg #[.int .i64 c, .int .i64 s, .int .u32 (n : Int)], .agg #[.slice A1 n1 c1, .slice A2 n2 c2]] w fun e w' => e = .returned (.bool true) ∧ Below w.heap.size w w' := by
  obtain ⟨w0, hw0⟩ : ∃ w0, w0 = ((w.alloc (.cells #[.int .u64 (k : Int), .int .u32 (at_ : Int)] 25)).alloc (.cells #[.int .i64 c, .int .i64 s, .int .u32 (n : Int)] 27)).alloc (.cells #[.slice A1 n1 c1, .slice A2 n2 c2] 43) := ⟨_, rfl⟩
  have hB0 : Below w.heap.size w w0 := by rw [hw0]; exact below3 _ _ _ _
  have hp0 : Row w0 w.heap.size 25 [.int .u64 (k : Int), .int .u32 (at_ : Int)] := by rw [hw0]; exact ((Row.new _ _ _).below (below1 _ _)).below (below1 _ _)
  have hq0 : Row w0 (w.heap.size + 1) 27 [.int .i64 c, .int .i64 s, .int .u32 (n : Int)] := by rw [hw0]; exact (Row.new_at _ _ _ (by simp)).below (below1 _ _)
  have hz0 : Row w0 (w.heap.size + 1 + 1) 43 [.slice A1 n1 c1, .slice A2 n2 c2] := by rw [hw0]; exact Row.new_at _ _ _ (by simp)
  have hwk := Lib.hid (fun W (hB : Below w.heap.size w W) => (show Calls Tryd.prog 12 #[] W (fun e w' => e = .returned (.bool true) ∧ Below w.heap.size w w') from (works_any W (ht.below hB)).mono fun e W' ⟨h1, h2⟩ => ⟨h1, hB.trans (h2.mono hB.size)⟩))
  have p0 : w0.cell? ⟨w.heap.size, 0, none⟩ = some (.int .u64 (k : Int)) := hp0.cell 0
  have p1 : w0.cell? ⟨w.heap.size, 1, none⟩ = some (.int .u32 (at_ : Int)) := hp0.cell 1
  have q0 : w0.cell? ⟨w.heap.size + 1, 0, none⟩ = some (.int .i64 c) := hq0.cell 0
  have q1 : w0.cell? ⟨w.heap.size + 1, 1, none⟩ = some (.int .i64 s) := hq0.cell 1
  have q2 : w0.cell? ⟨w.heap.size + 1, 2, none⟩ = some (.int .u32 (n : Int)) := hq0.cell 2
  have z0 : w0.cell? ⟨w.heap.size + 1 + 1, 0, none⟩ = some (.slice A1 n1 c1) := hz0.cell 0
  have z1 : w0.cell? ⟨w.heap.size + 1 + 1, 1, none⟩ = some (.slice A2 n2 c2) := hz0.cell 1
  by_cases hlong : 100 < n1 ∨ 100 < n2
  · by_cases h1 : 100 < n1
    · have e1 : decide ((100 : Int) < (n1 : Int)) = true := decide_eq_true (by omega)
      clear hlong h1 hn1 hn2 hr1 hr2 hk ha hn hp0 hq0 hz0 ht
      have HB0 := Lib.hid hB0
      clear hB0
      go_enter Tryd.func5, Tryd.ntmps5
      go_wp2_with fail
      rw [← hw0]
      clear hw0
      go_wp2_with fail
      refine (hwk.out _ HB0.out).mono ?_
      rintro e w1 ⟨rfl, hB1⟩
      go_wp2_with fail
      go_ret
      exact ⟨rfl, hB1⟩
    · have e1 : decide ((100 : Int) < (n1 : Int)) = false := decide_eq_false (by omega)
      have e2 : decide ((100 : Int) < (n2 : Int)) = true := decide_eq_true (by omega)
      clear hlong h1 hn1 hn2 hr1 hr2 hk ha hn hp0 hq0 hz0 ht
      have HB0 := Lib.hid hB0
      clear hB0
      go_enter Tryd.func5, Tryd.ntmps5
      go_wp2_with fail
      rw [← hw0]
      clear hw0
      go_wp2_with fail
      refine (hwk.out _ HB0.out).mono ?_
      rintro e w1 ⟨rfl, hB1⟩
      go_wp2_with fail
      go_ret
      exact ⟨rfl, hB1⟩
  · have e1 : decide ((100 : Int) < (n1 : Int)) = false := decide_eq_false (by omega)
    have e2 : decide ((100 : Int) < (n2 : Int)) = false := decide_eq_false (by omega)
    have hrt := Lib.hid (fun W => right_any c s n W)
    cases hok : okT c s
    · have hlk := Lib.hid (fun W => look_no (k : Int) at_ c s n A1 A2 n1 c1 n2 c2 W hok)
      rw [hok] at hrt
      clear hlong hn1 hn2 hr1 hr2 hk ha hn hok ht
      go_enter Tryd.func5, Tryd.ntmps5
      go_wp2_with fail
      rw [← hw0]
      clear hw0
      go_wp2_with fail
      refine (hlk.out _).mono ?_
      rintro e w1 ⟨rfl, hb⟩
      have hB1 := hB0.trans (hb.mono hB0.size)
      have hq1 := hq0.below hb
      have r0 : w1.cell? ⟨w.heap.size + 1, 0, none⟩ = some (.int .i64 c) := hq1.cell 0
      have r1 : w1.cell? ⟨w.heap.size + 1, 1, none⟩ = some (.int .i64 s) := hq1.cell 1
      have r2 : w1.cell? ⟨w.heap.size + 1, 2, none⟩ = some (.int .u32 (n : Int)) := hq1.cell 2
      clear hb hB0 hp0 hq0 hz0 p0 p1 q0 q1 q2 z0 z1 hq1 hlk
      go_wp2_with fail
      refine (hrt.out _).mono ?_
      rintro e w2 ⟨rfl, hb⟩
      have hB2 := hB1.trans (hb.mono hB1.size)
      clear hb hB1 r0 r1 r2 hrt
      go_wp2_with (go_at_call 11; refine (num_any _ _).mono ?_; rintro e w' ⟨rfl, rfl⟩)
      refine (hwk.out _ hB2).mono ?_
      rintro e w3 ⟨rfl, hB3⟩
      go_wp2_with fail
      go_ret
      exact ⟨rfl, hB3⟩
    · obtain ⟨c', s', rfl, rfl, hc', hs'⟩ := ok_nats hok
      have hlk := Lib.hid (fun W (hB : Below w.heap.size w W) => look_ok k at_ c' s' n A1 A2 n1 c1 n2 c2 l1 l2 W (ht.below hB) hk ha hc' hs' hn hn1 (by omega) hn2 (by omega) ((hr1.below hB).more hB.size) ((hr2.below hB).more hB.size))
      have hrl := Lib.hid (fun W (hB : Below w.heap.size w W) => rlook_any k at_ c' s' n A1 A2 n1 c1 n2 c2 l1 l2 W hk ha hc' hs' hn hn1 hn2 ((hr1.below hB).more hB.size) ((hr2.below hB).more hB.size))
      rw [hok] at hrt
      obtain ⟨x, hx⟩ : ∃ x, x = lookN k at_ c' s' n l1 l2 := ⟨_, rfl⟩
      rw [← hx] at hlk hrl
      clear hx hlong hn1 hn2 hr1 hr2 hk ha hn hok ht hc' hs'
      go_enter Tryd.func5, Tryd.ntmps5
      go_wp2_with fail
      rw [← hw0]
      clear hw0
      go_wp2_with fail
      refine (hlk.out _ hB0).mono ?_
      rintro e w1 ⟨rfl, hb⟩
      have hB1 := hB0.trans (hb.mono hB0.size)
      have hp1 := hp0.below hb
      have hq1 := hq0.below hb
      have hz1 := hz0.below hb
      have r0 : w1.cell? ⟨w.heap.size + 1, 0, none⟩ = some (.int .i64 (c' : Int)) := hq1.cell 0
      have r1 : w1.cell? ⟨w.heap.size + 1, 1, none⟩ = some (.int .i64 (s' : Int)) := hq1.cell 1
      have r2 : w1.cell? ⟨w.heap.size + 1, 2, none⟩ = some (.int .u32 (n : Int)) := hq1.cell 2
      clear hb hB0 hp0 hq0 hz0 p0 p1 q0 q1 q2 z0 z1 hlk
      go_wp2_with fail
      refine (hrt.out _).mono ?_
      rintro e w2 ⟨rfl, hb⟩
      have hB2 := hB1.trans (hb.mono hB1.size)
      have hp2 := hp1.below hb
      have hq2 := hq1.below hb
      have hz2 := hz1.below hb
      clear hb hB1 r0 r1 r2 hrt hp1 hq1 hz1
      have p0 : w2.cell? ⟨w.heap.size, 0, none⟩ = some (.int .u64 (k : Int)) := hp2.cell 0
      have p1 : w2.cell? ⟨w.heap.size, 1, none⟩ = some (.int .u32 (at_ : Int)) := hp2.cell 1
      have q0 : w2.cell? ⟨w.heap.size + 1, 0, none⟩ = some (.int .i64 (c' : Int)) := hq2.cell 0
      have q1 : w2.cell? ⟨w.heap.size + 1, 1, none⟩ = some (.int .i64 (s' : Int)) := hq2.cell 1
      have q2 : w2.cell? ⟨w.heap.size + 1, 2, none⟩ = some (.int .u32 (n : Int)) := hq2.cell 2
      have z0 : w2.cell? ⟨w.heap.size + 1 + 1, 0, none⟩ = some (.slice A1 n1 c1) := hz2.cell 0
      have z1 : w2.cell? ⟨w.heap.size + 1 + 1, 1, none⟩ = some (.slice A2 n2 c2) := hz2.cell 1
      go_wp2_with fail
      refine (hrl.out _ hB2).mono ?_
      rintro e w3 ⟨rfl, hb⟩
      have hB3 := hB2.trans (hb.mono hB2.size)
      clear hb hB2 hp2 hq2 hz2 p0 p1 q0 q1 q2 z0 z1 hrl
      go_wp2_with (go_at_call 11; refine (num_any _ _).mono ?_; rintro e w' ⟨rfl, rfl⟩)
      refine (hwk.out _ hB3).mono ?_
      rintro e w4 ⟨rfl, hB4⟩
      go_wp2_with fail
      go_ret
      exact ⟨rfl, hB4⟩
end Go.Proofs.YtfmbfojlopibnaaDoor
