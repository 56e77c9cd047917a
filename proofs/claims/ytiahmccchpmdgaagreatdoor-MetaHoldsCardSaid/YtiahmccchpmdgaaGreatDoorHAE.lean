import Derived.Test.YtiahmccchpmdgaaGreatDoorHAD
namespace Go.Proofs.YtiahmccchpmdgaaGreatDoor.Me
open Go.RowKit Go.Shelf
attribute [local go_sem] Oper.semAt_some
theorem row_set3 {V : World} {b : Nat} {t : TypeId} {x0 x1 x2 : Value} (y0 y1 y2 : Value) (h : Row V b t [x0, x1, x2]) : Row (((V.setCell ⟨b, 0, none⟩ y0).setCell ⟨b, 1, none⟩ y1).setCell ⟨b, 2, none⟩ y2) b t [y0, y1, y2] := (((h.set 0 y0).set 1 y1).set 2 y2)
theorem below_set3 {B : Nat} {w V : World} {b : Nat} (y0 y1 y2 : Value) (h : Below B w V) (hb : B ≤ b) : Below B w (((V.setCell ⟨b, 0, none⟩ y0).setCell ⟨b, 1, none⟩ y1).setCell ⟨b, 2, none⟩ y2) := (((h.setCell (p := ⟨b, 0, none⟩) hb _).setCell (p := ⟨b, 1, none⟩) hb _).setCell (p := ⟨b, 2, none⟩) hb _)
theorem row_set4 {V : World} {b : Nat} {t : TypeId} {x0 x1 x2 x3 : Value} (y0 y1 y2 y3 : Value) (h : Row V b t [x0, x1, x2, x3]) : Row ((((V.setCell ⟨b, 0, none⟩ y0).setCell ⟨b, 1, none⟩ y1).setCell ⟨b, 2, none⟩ y2).setCell ⟨b, 3, none⟩ y3) b t [y0, y1, y2, y3] := ((((h.set 0 y0).set 1 y1).set 2 y2).set 3 y3)
theorem below_set4 {B : Nat} {w V : World} {b : Nat} (y0 y1 y2 y3 : Value) (h : Below B w V) (hb : B ≤ b) : Below B w ((((V.setCell ⟨b, 0, none⟩ y0).setCell ⟨b, 1, none⟩ y1).setCell ⟨b, 2, none⟩ y2).setCell ⟨b, 3, none⟩ y3) := ((((h.setCell (p := ⟨b, 0, none⟩) hb _).setCell (p := ⟨b, 1, none⟩) hb _).setCell (p := ⟨b, 2, none⟩) hb _).setCell (p := ⟨b, 3, none⟩) hb _)
theorem row_set7 {V : World} {b : Nat} {t : TypeId} {x0 x1 x2 x3 x4 x5 x6 : Value} (y0 y1 y2 y3 y4 y5 y6 : Value) (h : Row V b t [x0, x1, x2, x3, x4, x5, x6]) : Row (((((((V.setCell ⟨b, 0, none⟩ y0).setCell ⟨b, 1, none⟩ y1).setCell ⟨b, 2, none⟩ y2).setCell ⟨b, 3, none⟩ y3).setCell ⟨b, 4, none⟩ y4).setCell ⟨b, 5, none⟩ y5).setCell ⟨b, 6, none⟩ y6) b t [y0, y1, y2, y3, y4, y5, y6] := (((((((h.set 0 y0).set 1 y1).set 2 y2).set 3 y3).set 4 y4).set 5 y5).set 6 y6)
theorem below_set7 {B : Nat} {w V : World} {b : Nat} (y0 y1 y2 y3 y4 y5 y6 : Value) (h : Below B w V) (hb : B ≤ b) : Below B w (((((((V.setCell ⟨b, 0, none⟩ y0).setCell ⟨b, 1, none⟩ y1).setCell ⟨b, 2, none⟩ y2).setCell ⟨b, 3, none⟩ y3).setCell ⟨b, 4, none⟩ y4).setCell ⟨b, 5, none⟩ y5).setCell ⟨b, 6, none⟩ y6) := (((((((h.setCell (p := ⟨b, 0, none⟩) hb _).setCell (p := ⟨b, 1, none⟩) hb _).setCell (p := ⟨b, 2, none⟩) hb _).setCell (p := ⟨b, 3, none⟩) hb _).setCell (p := ⟨b, 4, none⟩) hb _).setCell (p := ⟨b, 5, none⟩) hb _).setCell (p := ⟨b, 6, none⟩) hb _)
theorem region_any (s c : Int) (w : World) (h : isB s 4 = false ∨ isB c 8 = false) : Calls Tryz.prog 86 #[.int .i64 s, .int .i64 c] w fun e w' => e = .returned (.tuple #[.int .i64 0, .int .i64 2]) ∧ Below w.heap.size w w' := by
 rcases isB_cases c 8 with h8 | ⟨k, rfl, hk, h8⟩
 ·exact Wn.region_noc s c w h8
 ·exact Wn.region_nos s k w hk (h.resolve_right (by rw [show isB (k : Int) 8 = true from h8]; decide))
theorem payloads_no (s c : Int) (w : World) (h : isB s 4 = false ∨ isB c 8 = false) : Calls Tryz.prog 38 #[.int .i64 s, .int .i64 c] w fun e w' => e = .returned (.tuple #[roV 0 0 0, .bool false]) ∧ Below w.heap.size w w' := by
 have h1 := Lib.hid (fun W => region_any s c W h)
 clear h
 go_enter Tryz.func38, Tryz.ntmps38
 go_wp2_with fail
 refine (h1.out _).mono ?_
 rintro e w1 ⟨rfl, hb1⟩
 have r1 : Row w1 w.heap.size 99 [.int .u32 0, .int .i64 0, .int .i64 0] := (Row.new w 99 [.int .u32 0, .int .i64 0, .int .i64 0]).below hb1
 have HB := Lib.hid ((below1 w (.cells #[.int .u32 0, .int .i64 0, .int .i64 0] 99)).trans (hb1.mono (by simp)))
 have HR := Lib.hid r1
 have c0 : World.cell? w1 ⟨w.heap.size, 0, none⟩ = _ := r1.cell 0
 have c1 : World.cell? w1 ⟨w.heap.size, 1, none⟩ = _ := r1.cell 1
 have c2 : World.cell? w1 ⟨w.heap.size, 2, none⟩ = _ := r1.cell 2
 have f0 := r1.frozen 0
 have f1 := r1.frozen 1
 have f2 := r1.frozen 2
 clear r1 hb1 h1
 go_wp2
 have R8 := row_set3 (.int .u32 0) (.int .i64 0) (.int .i64 0) HR.out
 have B8 := below_set3 (b := w.heap.size) (.int .u32 0) (.int .i64 0) (.int .i64 0) HB.out (Nat.le_refl _)
 clear c0 c1 c2 f0 f1 f2
 have d0 : World.cell? _ ⟨w.heap.size, 0, none⟩ = _ := R8.cell 0
 have d1 : World.cell? _ ⟨w.heap.size, 1, none⟩ = _ := R8.cell 1
 have d2 : World.cell? _ ⟨w.heap.size, 2, none⟩ = _ := R8.cell 2
 exact bodyPost_ret (v := .tuple #[roV 0 0 0, .bool false]) (by simp [results, Tryz.results38, go_sem, d0, d1, d2]) rfl ⟨rfl, B8⟩
set_option maxHeartbeats 1000000 in
theorem payloads_yes (s c : Nat) (w : World) (hT : Tabs w) (hs : s < 4) (hc : c < 8) : Calls Tryz.prog 38 #[.int .i64 (s : Int), .int .i64 (c : Int)] w fun e w' => e = .returned (.tuple #[roV ((256 * (4096 * s + 4097 + 17 * c) + 16 : Nat) : Int) ((pay c + 32 : Nat) : Int) ((cnt c : Nat) : Int), .bool true]) ∧ Below w.heap.size w w' := by
 have h1 := Lib.hid (fun W => Wn.region_yes s c W hs hc)
 have h2 := Lib.hid (fun W => Wn.address_yes (4096 * s + 4097 + 17 * c) 16 W (by omega) (by omega))
 have h3 := Lib.hid (fun W (hb : Below w.heap.size w W) => Sz.slot_yes c W (hT.below hb).1 hc)
 have h4 := Lib.hid (fun W (hb : Below w.heap.size w W) => Sz.count_yes c W (hT.below hb).1 hc)
 simp only [pay_eq] at h3 h4
 obtain ⟨m, hm⟩ : ∃ m, m = cnt c := ⟨_, rfl⟩
 have hm' : 4096 / (pay c + 32) = m := hm.symm
 rw [hm'] at h4
 rw [← hm]
 obtain ⟨k, hk⟩ : ∃ k, k = pay c + 32 := ⟨_, rfl⟩
 rw [← hk] at h3 ⊢
 obtain ⟨f, hf⟩ : ∃ f, f = 256 * (4096 * s + 4097 + 17 * c) + 16 := ⟨_, rfl⟩
 rw [← hf] at h2 ⊢
 obtain ⟨p, hp⟩ : ∃ p, p = 4096 * s + 4097 + 17 * c := ⟨_, rfl⟩
 rw [← hp] at h1 h2
 rw [show ((16 : Nat) : Int) = 16 from rfl] at h2
 clear hm hm' hk hf hp hT hs hc
 go_enter Tryz.func38, Tryz.ntmps38
 go_wp2_with fail
 refine (h1.out _).mono ?_
 rintro e w1 ⟨rfl, hb1⟩
 have HB1 := Lib.hid ((below1 w (.cells #[.int .u32 0, .int .i64 0, .int .i64 0] 99)).trans (hb1.mono (by simp)))
 have HR1 := Lib.hid ((Row.new w 99 [.int .u32 0, .int .i64 0, .int .i64 0]).below hb1)
 clear hb1 h1
 go_wp2_with fail
 refine (h2.out _).mono ?_
 rintro e w2 ⟨rfl, hb2⟩
 have HB2 := Lib.hid (below0 HB1.out hb2)
 have HR2 := Lib.hid (HR1.out.below hb2)
 clear hb2 h2 HB1 HR1
 go_wp2_with fail
 refine (h3.out _ HB2.out).mono ?_
 rintro e w3 ⟨rfl, hb3⟩
 have HB3 := Lib.hid (below0 HB2.out hb3)
 have HR3 := Lib.hid (HR2.out.below hb3)
 clear hb3 h3 HB2 HR2
 go_wp2_with fail
 refine (h4.out _ HB3.out).mono ?_
 rintro e w4 ⟨rfl, hb4⟩
 have HB := Lib.hid (below0 HB3.out hb4)
 have r1 := HR3.out.below hb4
 have HR := Lib.hid r1
 clear hb4 h4 HB3 HR3
 have c0 : World.cell? w4 ⟨w.heap.size, 0, none⟩ = _ := r1.cell 0
 have c1 : World.cell? w4 ⟨w.heap.size, 1, none⟩ = _ := r1.cell 1
 have c2 : World.cell? w4 ⟨w.heap.size, 2, none⟩ = _ := r1.cell 2
 have f0 := r1.frozen 0
 have f1 := r1.frozen 1
 have f2 := r1.frozen 2
 clear r1
 go_wp2
 have R8 := row_set3 (.int .u32 (f : Int)) (.int .i64 (k : Int)) (.int .i64 (m : Int)) HR.out
 have B8 := below_set3 (b := w.heap.size) (.int .u32 (f : Int)) (.int .i64 (k : Int)) (.int .i64 (m : Int)) HB.out (Nat.le_refl _)
 clear c0 c1 c2 f0 f1 f2
 have d0 : World.cell? _ ⟨w.heap.size, 0, none⟩ = _ := R8.cell 0
 have d1 : World.cell? _ ⟨w.heap.size, 1, none⟩ = _ := R8.cell 1
 have d2 : World.cell? _ ⟨w.heap.size, 2, none⟩ = _ := R8.cell 2
 exact bodyPost_ret (v := .tuple #[roV f k m, .bool true]) (by simp [results, Tryz.results38, go_sem, d0, d1, d2]) rfl ⟨rfl, B8⟩
theorem book_any (s : Int) (w : World) : Calls Tryz.prog 95 #[.int .i64 s] w fun e w' => e = .returned (.tuple #[.int .i64 (if isB s 4 = true then 64 * s + 1 else 0), .int .i64 (if isB s 4 = true then 0 else 2)]) ∧ Below w.heap.size w w' := by
 rcases isB_cases s 4 with h | ⟨k, rfl, hk, h⟩
 ·rw [show isB s 4 = false from h]
  exact Wn.book_no s w h
 ·rw [show isB (k : Int) 4 = true from h, if_pos rfl, if_pos rfl]
  have := Wn.book_yes k w hk
  rw [show ((64 * k + 1 : Nat) : Int) = 64 * (k : Int) + 1 by omega] at this
  exact this
theorem scount_any (c : Int) (w : World) (hT : Tabs w) : Calls Tryz.prog 89 #[.int .i64 c] w fun e w' => e = .returned (.tuple #[.int .i64 (if isB c 8 = true then ((cnt c.toNat : Nat) : Int) else 0), .int .i64 (if isB c 8 = true then 0 else 2)]) ∧ Below w.heap.size w w' := by
 rcases isB_cases c 8 with h | ⟨k, rfl, hk, h⟩
 ·rw [show isB c 8 = false from h]
  exact Sz.count_no c w h
 ·rw [show isB (k : Int) 8 = true from h, if_pos rfl, if_pos rfl, Int.toNat_natCast]
  exact Sz.count_yes k w hT.1 hk
set_option maxHeartbeats 1000000 in
theorem records_no (s c : Int) (w : World) (hT : Tabs w) (h : isB s 4 = false ∨ isB c 8 = false) : Calls Tryz.prog 125 #[.int .i64 s, .int .i64 c] w fun e w' => e = .returned (.tuple #[roV 0 0 0, .bool false]) ∧ Below w.heap.size w w' := by
 have h1 := Lib.hid (fun W => book_any s W)
 have h2 := Lib.hid (fun W (hb : Below w.heap.size w W) => scount_any c W (hT.below hb))
 obtain ⟨a, ha⟩ : ∃ a, a = (if isB s 4 = true then 64 * s + 1 else 0) := ⟨_, rfl⟩
 obtain ⟨m, hm⟩ : ∃ m, m = (if isB c 8 = true then ((cnt c.toNat : Nat) : Int) else 0) := ⟨_, rfl⟩
 obtain ⟨x, hx⟩ : ∃ x : Int, x = (if isB s 4 = true then 0 else 2) := ⟨_, rfl⟩
 obtain ⟨y, hy⟩ : ∃ y : Int, y = (if isB c 8 = true then 0 else 2) := ⟨_, rfl⟩
 rw [← ha, ← hx] at h1
 rw [← hm, ← hy] at h2
 have hxy : (x = 2) ∨ (x = 0 ∧ y = 2) := by
  rcases h with h | h
  ·left; rw [hx, h]; rfl
  ·rcases hq : isB s 4 with _ | _
   ·left; rw [hx, hq]; rfl
   ·right; exact ⟨by rw [hx, hq]; rfl, by rw [hy, h]; rfl⟩
 clear ha hm hx hy hT h
 go_enter Tryz.func125, Tryz.ntmps125
 go_wp2_with fail
 refine (h1.out _).mono ?_
 rintro e w1 ⟨rfl, hb1⟩
 have HB1 := Lib.hid ((below1 w (.cells #[.int .u32 0, .int .i64 0, .int .i64 0] 99)).trans (hb1.mono (by simp)))
 have HR1 := Lib.hid ((Row.new w 99 [.int .u32 0, .int .i64 0, .int .i64 0]).below hb1)
 clear hb1 h1
 go_wp2_with fail
 refine (h2.out _ HB1.out).mono ?_
 rintro e w2 ⟨rfl, hb2⟩
 have HB := Lib.hid (below0 HB1.out hb2)
 have r1 := HR1.out.below hb2
 have HR := Lib.hid r1
 clear hb2 h2 HB1 HR1
 have c0 : World.cell? w2 ⟨w.heap.size, 0, none⟩ = _ := r1.cell 0
 have c1 : World.cell? w2 ⟨w.heap.size, 1, none⟩ = _ := r1.cell 1
 have c2 : World.cell? w2 ⟨w.heap.size, 2, none⟩ = _ := r1.cell 2
 have f0 := r1.frozen 0
 have f1 := r1.frozen 1
 have f2 := r1.frozen 2
 clear r1
 rcases hxy with rfl | ⟨rfl, rfl⟩
 ·go_wp2
  have R8 := row_set3 (.int .u32 0) (.int .i64 0) (.int .i64 0) HR.out
  have B8 := below_set3 (b := w.heap.size) (.int .u32 0) (.int .i64 0) (.int .i64 0) HB.out (Nat.le_refl _)
  clear c0 c1 c2 f0 f1 f2
  have d0 : World.cell? _ ⟨w.heap.size, 0, none⟩ = _ := R8.cell 0
  have d1 : World.cell? _ ⟨w.heap.size, 1, none⟩ = _ := R8.cell 1
  have d2 : World.cell? _ ⟨w.heap.size, 2, none⟩ = _ := R8.cell 2
  exact bodyPost_ret (v := .tuple #[roV 0 0 0, .bool false]) (by simp [results, Tryz.results125, go_sem, d0, d1, d2]) rfl ⟨rfl, B8⟩
 ·go_wp2
  have R8 := row_set3 (.int .u32 0) (.int .i64 0) (.int .i64 0) HR.out
  have B8 := below_set3 (b := w.heap.size) (.int .u32 0) (.int .i64 0) (.int .i64 0) HB.out (Nat.le_refl _)
  clear c0 c1 c2 f0 f1 f2
  have d0 : World.cell? _ ⟨w.heap.size, 0, none⟩ = _ := R8.cell 0
  have d1 : World.cell? _ ⟨w.heap.size, 1, none⟩ = _ := R8.cell 1
  have d2 : World.cell? _ ⟨w.heap.size, 2, none⟩ = _ := R8.cell 2
  exact bodyPost_ret (v := .tuple #[roV 0 0 0, .bool false]) (by simp [results, Tryz.results125, go_sem, d0, d1, d2]) rfl ⟨rfl, B8⟩
set_option maxHeartbeats 1000000 in
theorem records_yes (s c : Nat) (w : World) (hT : Tabs w) (hs : s < 4) (hc : c < 8) : Calls Tryz.prog 125 #[.int .i64 (s : Int), .int .i64 (c : Int)] w fun e w' => e = .returned (.tuple #[roV ((256 * (64 * s + 1) + 768 * c : Nat) : Int) 8 ((cnt c : Nat) : Int), .bool true]) ∧ Below w.heap.size w w' := by
 have h1 := Lib.hid (fun W => Wn.book_yes s W hs)
 have h2 := Lib.hid (fun W (hb : Below w.heap.size w W) => Sz.count_yes c W (hT.below hb).1 hc)
 have h3 := Lib.hid (fun W => Wn.address_yes (64 * s + 1 + 3 * c) 0 W (by omega) (by omega))
 simp only [pay_eq] at h2
 obtain ⟨m, hm⟩ : ∃ m, m = cnt c := ⟨_, rfl⟩
 have hm' : 4096 / (pay c + 32) = m := hm.symm
 rw [hm'] at h2
 rw [← hm]
 have e1 : IntKind.i64.wrap (3 * (c : Int)) = 3 * (c : Int) := wrapI _ (by omega) (by omega)
 have e2 : IntKind.i64.wrap (((64 * s + 1 : Nat) : Int) + 3 * (c : Int)) = ((64 * s + 1 + 3 * c : Nat) : Int) := (wrapI _ (by omega) (by omega)).trans (by omega)
 obtain ⟨f, hf⟩ : ∃ f, f = 256 * (64 * s + 1) + 768 * c := ⟨_, rfl⟩
 rw [show 256 * (64 * s + 1 + 3 * c) + 0 = f by omega] at h3
 rw [← hf]
 obtain ⟨p, hp⟩ : ∃ p, p = 64 * s + 1 + 3 * c := ⟨_, rfl⟩
 rw [← hp] at h3 e2
 obtain ⟨q, hq⟩ : ∃ q, q = 64 * s + 1 := ⟨_, rfl⟩
 rw [← hq] at h1 e2
 rw [show ((0 : Nat) : Int) = 0 from rfl] at h3
 obtain ⟨t, ht⟩ : ∃ t, 3 * (c : Int) = t := ⟨_, rfl⟩
 replace e1 : IntKind.i64.wrap (3 * (c : Int)) = t := e1.trans ht
 rw [ht] at e2
 clear hm hm' hf hp hq ht hT hs
 go_enter Tryz.func125, Tryz.ntmps125
 go_wp2_with fail
 refine (h1.out _).mono ?_
 rintro e w1 ⟨rfl, hb1⟩
 have HB1 := Lib.hid ((below1 w (.cells #[.int .u32 0, .int .i64 0, .int .i64 0] 99)).trans (hb1.mono (by simp)))
 have HR1 := Lib.hid ((Row.new w 99 [.int .u32 0, .int .i64 0, .int .i64 0]).below hb1)
 clear hb1 h1
 go_wp2_with fail
 refine (h2.out _ HB1.out).mono ?_
 rintro e w2 ⟨rfl, hb2⟩
 have HB2 := Lib.hid (below0 HB1.out hb2)
 have HR2 := Lib.hid (HR1.out.below hb2)
 clear hb2 h2 HB1 HR1
 go_wp2_with fail
 refine (h3.out _).mono ?_
 rintro e w3 ⟨rfl, hb3⟩
 have HB := Lib.hid (below0 HB2.out hb3)
 have r1 := HR2.out.below hb3
 have HR := Lib.hid r1
 clear hb3 h3 HB2 HR2
 have c0 : World.cell? w3 ⟨w.heap.size, 0, none⟩ = _ := r1.cell 0
 have c1 : World.cell? w3 ⟨w.heap.size, 1, none⟩ = _ := r1.cell 1
 have c2 : World.cell? w3 ⟨w.heap.size, 2, none⟩ = _ := r1.cell 2
 have f0 := r1.frozen 0
 have f1 := r1.frozen 1
 have f2 := r1.frozen 2
 clear r1
 go_wp2
 have R8 := row_set3 (.int .u32 (f : Int)) (.int .i64 8) (.int .i64 (m : Int)) HR.out
 have B8 := below_set3 (b := w.heap.size) (.int .u32 (f : Int)) (.int .i64 8) (.int .i64 (m : Int)) HB.out (Nat.le_refl _)
 clear c0 c1 c2 f0 f1 f2
 have d0 : World.cell? _ ⟨w.heap.size, 0, none⟩ = _ := R8.cell 0
 have d1 : World.cell? _ ⟨w.heap.size, 1, none⟩ = _ := R8.cell 1
 have d2 : World.cell? _ ⟨w.heap.size, 2, none⟩ = _ := R8.cell 2
 exact bodyPost_ret (v := .tuple #[roV f 8 m, .bool true]) (by simp [results, Tryz.results125, go_sem, d0, d1, d2]) rfl ⟨rfl, B8⟩
set_option maxHeartbeats 1000000 in
theorem greats_no (s : Int) (w : World) (h : isB s 4 = false) : Calls Tryz.prog 136 #[.int .i64 s] w fun e w' => e = .returned (.tuple #[roV 0 0 0, .bool false]) ∧ Below w.heap.size w w' := by
 have h1 := Lib.hid (fun W => Wn.book_no s W h)
 clear h
 go_enter Tryz.func136, Tryz.ntmps136
 go_wp2_with fail
 refine (h1.out _).mono ?_
 rintro e w1 ⟨rfl, hb1⟩
 have HB := Lib.hid ((below1 w (.cells #[.int .u32 0, .int .i64 0, .int .i64 0] 99)).trans (hb1.mono (by simp)))
 have r1 := (Row.new w 99 [.int .u32 0, .int .i64 0, .int .i64 0]).below hb1
 have HR := Lib.hid r1
 clear hb1 h1
 have c0 : World.cell? w1 ⟨w.heap.size, 0, none⟩ = _ := r1.cell 0
 have c1 : World.cell? w1 ⟨w.heap.size, 1, none⟩ = _ := r1.cell 1
 have c2 : World.cell? w1 ⟨w.heap.size, 2, none⟩ = _ := r1.cell 2
 have f0 := r1.frozen 0
 have f1 := r1.frozen 1
 have f2 := r1.frozen 2
 clear r1
 go_wp2
 have R8 := row_set3 (.int .u32 0) (.int .i64 0) (.int .i64 0) HR.out
 have B8 := below_set3 (b := w.heap.size) (.int .u32 0) (.int .i64 0) (.int .i64 0) HB.out (Nat.le_refl _)
 clear c0 c1 c2 f0 f1 f2
 have d0 : World.cell? _ ⟨w.heap.size, 0, none⟩ = _ := R8.cell 0
 have d1 : World.cell? _ ⟨w.heap.size, 1, none⟩ = _ := R8.cell 1
 have d2 : World.cell? _ ⟨w.heap.size, 2, none⟩ = _ := R8.cell 2
 exact bodyPost_ret (v := .tuple #[roV 0 0 0, .bool false]) (by simp [results, Tryz.results136, go_sem, d0, d1, d2]) rfl ⟨rfl, B8⟩
set_option maxHeartbeats 1000000 in
theorem greats_yes (s : Nat) (w : World) (hs : s < 4) : Calls Tryz.prog 136 #[.int .i64 (s : Int)] w fun e w' => e = .returned (.tuple #[roV ((256 * (64 * s + 1) + 6144 : Nat) : Int) 16 384, .bool true]) ∧ Below w.heap.size w w' := by
 have h1 := Lib.hid (fun W => Wn.book_yes s W hs)
 have h3 := Lib.hid (fun W => Wn.address_yes (64 * s + 1 + 24) 0 W (by omega) (by omega))
 have e2 : IntKind.i64.wrap (((64 * s + 1 : Nat) : Int) + 24) = ((64 * s + 1 + 24 : Nat) : Int) := (wrapI _ (by omega) (by omega)).trans (by omega)
 obtain ⟨f, hf⟩ : ∃ f, f = 256 * (64 * s + 1) + 6144 := ⟨_, rfl⟩
 rw [show 256 * (64 * s + 1 + 24) + 0 = f by omega] at h3
 rw [← hf]
 obtain ⟨p, hp⟩ : ∃ p, p = 64 * s + 1 + 24 := ⟨_, rfl⟩
 rw [← hp] at h3 e2
 obtain ⟨q, hq⟩ : ∃ q, q = 64 * s + 1 := ⟨_, rfl⟩
 rw [← hq] at h1 e2
 rw [show ((0 : Nat) : Int) = 0 from rfl] at h3
 clear hf hp hq hs
 go_enter Tryz.func136, Tryz.ntmps136
 go_wp2_with fail
 refine (h1.out _).mono ?_
 rintro e w1 ⟨rfl, hb1⟩
 have HB1 := Lib.hid ((below1 w (.cells #[.int .u32 0, .int .i64 0, .int .i64 0] 99)).trans (hb1.mono (by simp)))
 have HR1 := Lib.hid ((Row.new w 99 [.int .u32 0, .int .i64 0, .int .i64 0]).below hb1)
 clear hb1 h1
 go_wp2_with fail
 refine (h3.out _).mono ?_
 rintro e w3 ⟨rfl, hb3⟩
 have HB := Lib.hid (below0 HB1.out hb3)
 have r1 := HR1.out.below hb3
 have HR := Lib.hid r1
 clear hb3 h3 HB1 HR1
 have c0 : World.cell? w3 ⟨w.heap.size, 0, none⟩ = _ := r1.cell 0
 have c1 : World.cell? w3 ⟨w.heap.size, 1, none⟩ = _ := r1.cell 1
 have c2 : World.cell? w3 ⟨w.heap.size, 2, none⟩ = _ := r1.cell 2
 have f0 := r1.frozen 0
 have f1 := r1.frozen 1
 have f2 := r1.frozen 2
 clear r1
 go_wp2
 have R8 := row_set3 (.int .u32 (f : Int)) (.int .i64 16) (.int .i64 384) HR.out
 have B8 := below_set3 (b := w.heap.size) (.int .u32 (f : Int)) (.int .i64 16) (.int .i64 384) HB.out (Nat.le_refl _)
 clear c0 c1 c2 f0 f1 f2
 have d0 : World.cell? _ ⟨w.heap.size, 0, none⟩ = _ := R8.cell 0
 have d1 : World.cell? _ ⟨w.heap.size, 1, none⟩ = _ := R8.cell 1
 have d2 : World.cell? _ ⟨w.heap.size, 2, none⟩ = _ := R8.cell 2
 exact bodyPost_ret (v := .tuple #[roV f 16 384, .bool true]) (by simp [results, Tryz.results136, go_sem, d0, d1, d2]) rfl ⟨rfl, B8⟩
end Go.Proofs.YtiahmccchpmdgaaGreatDoor.Me
