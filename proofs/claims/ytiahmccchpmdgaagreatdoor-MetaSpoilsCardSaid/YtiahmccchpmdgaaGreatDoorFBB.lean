import Derived.Test.YtiahmccchpmdgaaGreatDoorFAO
namespace Go.Proofs.YtiahmccchpmdgaaGreatDoor.Me
open Go.RowKit Go.Shelf
attribute [local go_sem] Oper.semAt_some

section
variable {T : World → Prop} {Has : HasT} (H : MBase T Has)
include H

set_option maxHeartbeats 4000000 in
theorem spoils_any (s c i : Int) (x0 x1 x2 x3 x4 x5 x6 x7 : UInt8) (w : World) (ht : T w) : Calls Tryz.prog 5 #[spV s c i, .agg #[u8V x0, u8V x1, u8V x2, u8V x3, u8V x4, u8V x5, u8V x6, u8V x7]] w fun e w' => e = .returned (.bool true) ∧ Below w.heap.size w w' := by
  have HT := Lib.hid (fun W (hb : Below w.heap.size w W) => H.tb ht hb)
  have hA := Lib.hid (fun W => rasks_any s c i W)
  have hW := Lib.hid (fun W (hb : Below w.heap.size w W) => works_any H W (HT.out W hb))
  obtain ⟨w1, hw1⟩ : ∃ w1, w1 = (w.alloc (.cells #[.int .i64 s, .int .i64 c, .int .i64 i] 37)).alloc (.cells #[u8V x0, u8V x1, u8V x2, u8V x3, u8V x4, u8V x5, u8V x6, u8V x7] 58) := ⟨_, rfl⟩
  have hr1 : Row w1 w.heap.size 37 [.int .i64 s, .int .i64 c, .int .i64 i] := by rw [hw1]; exact (Row.new w 37 [.int .i64 s, .int .i64 c, .int .i64 i]).below (below1 _ _)
  have hq1 : Row w1 (w.heap.size + 1) 58 (byt [x0, x1, x2, x3, x4, x5, x6, x7]) := by rw [hw1]; exact Row.new_at _ _ _ (by simp)
  have hb : Below w.heap.size w w1 := by rw [hw1]; exact below2 _ _ _
  have hM := Lib.hid (H.mem w1 (HT.out w1 hb))
  clear ht
  go_enter Tryz.func5, Tryz.ntmps5
  go_wp2_with fail
  rw [← hw1]
  clear hw1
  go_wp2_with fail
  refine hM.out.mono ?_
  rintro e w2 ⟨v, F, rfl, hH, hF, hb'⟩
  obtain ⟨ad, rfl⟩ := H.ptr hH
  have hs1 : w.heap.size + 1 < w1.heap.size := hq1.lt
  have hr := hr1.below hb'
  have hq := hq1.below hb'
  have hb := hb.trans (hb'.mono hb.size)
  have c0 : w2.cell? ⟨w.heap.size, 0, none⟩ = some (.int .i64 s) := hr.cell 0
  have c1 : w2.cell? ⟨w.heap.size, 1, none⟩ = some (.int .i64 c) := hr.cell 1
  have c2 : w2.cell? ⟨w.heap.size, 2, none⟩ = some (.int .i64 i) := hr.cell 2
  clear hb' hr1 hq1 hM
  go_wp2_with fail
  refine (hA.out _).mono ?_
  rintro e w3 ⟨rfl, hb'⟩
  have hr3 := hr.below hb'
  have hq3 := hq.below hb'
  have hH3 := H.below hH hb'
  have hb := hb.trans (hb'.mono hb.size)
  clear hb' hr hq hH c0 c1 c2
  by_cases h0 : asksS s c i = 0
  · obtain ⟨s', c', i', rfl, rfl, rfl, hok⟩ : ∃ s' c' i' : Nat, s = (s' : Int) ∧ c = (c' : Int) ∧ i = (i' : Int) ∧ okS s' c' i' := by
      rcases asks_cases s c i with ⟨_, h⟩ | ⟨_, _, h⟩ | ⟨_, _, _, h⟩ | ⟨a, k, rfl, rfl, h1, h2, ⟨j, rfl, h3, _⟩ | ⟨_, h⟩⟩
      · omega
      · omega
      · omega
      · exact ⟨a, k, j, rfl, rfl, rfl, h1, h2, h3⟩
      · omega
    rw [h0]
    have hO := Lib.hid (H.openYes s' (HT.out _ hb) hH3 (by have hi : isB (s' : Int) 4 = true := isB_yes (n := 4) hok.1; rw [openA, if_neg (by rw [hi]; simp), if_neg (by simp), if_neg (by omega)]))
    have c0 : w3.cell? ⟨w.heap.size, 0, none⟩ = some (.int .i64 (s' : Int)) := hr3.cell 0
    clear h0
    go_wp2_with fail
    refine hO.out.mono ?_
    rintro e w4 ⟨rfl, F4, hH4, hk4, hF4⟩
    have hr4 : Row w4 w.heap.size 37 [.int .i64 (s' : Int), .int .i64 (c' : Int), .int .i64 (i' : Int)] := hk4.row hr3 (fun hf => by have := hF _ hf; omega)
    have hq4 : Row w4 (w.heap.size + 1) 58 (byt [x0, x1, x2, x3, x4, x5, x6, x7]) := hk4.row hq3 (fun hf => by have := hF _ hf; omega)
    have hF5 : ∀ k, F4 k → w.heap.size + 2 ≤ k := fun k hk => by
      rcases hF4 k hk with h | h
      · have := hF k h; omega
      · have := hr3.lt; have := hq3.lt; omega
    have hb := hb.trans (hk4.below (fun k hk => by have := hF k hk; omega) hb.size)
    clear hr3 hq3 hH3 hO c0 hk4 hF4 hF
    go_wp2_with fail
    refine (num_any _ _).mono ?_
    rintro e wx ⟨rfl, rfl⟩
    have hB := Lib.hid (fun W => rbook_any s' W (by have := hok.1; omega))
    have e1 : IntKind.i64.wrap (3 * (c' : Int)) = ((3 * c' : Nat) : Int) := (wrapI _ (by have := hok.2.1; omega) (by have := hok.2.1; omega)).trans (by omega)
    have e2 : IntKind.i64.wrap (((64 * s' + 1 : Nat) : Int) + ((3 * c' : Nat) : Int)) = ((64 * s' + 1 + 3 * c' : Nat) : Int) := (wrapI _ (by have := hok.1; have := hok.2.1; omega) (by have := hok.1; have := hok.2.1; omega)).trans (by omega)
    obtain ⟨y1, hy1⟩ : ∃ y, y = 64 * s' + 1 := ⟨_, rfl⟩
    obtain ⟨y2, hy2⟩ : ∃ y, y = 3 * c' := ⟨_, rfl⟩
    obtain ⟨pg, hpg⟩ : ∃ y, y = 64 * s' + 1 + 3 * c' := ⟨_, rfl⟩
    rw [← hy1] at hB
    rw [← hpg, ← hy1, ← hy2] at e2
    rw [← hy2] at e1
    have HPG := Lib.hid hpg
    have HSA := Lib.hid (fun W (hW : Below (w.heap.size + 2) w4 W) => (show W.cell? ⟨w.heap.size, 0, none⟩ = some (.int .i64 (s' : Int)) ∧ W.cell? ⟨w.heap.size, 1, none⟩ = some (.int .i64 (c' : Int)) from
      ⟨(hW.cell (p := ⟨w.heap.size, 0, none⟩) (by show w.heap.size < _; omega)).trans (hr4.cell 0), (hW.cell (p := ⟨w.heap.size, 1, none⟩) (by show w.heap.size < _; omega)).trans (hr4.cell 1)⟩))
    have hdr := Lib.hid (show Below (w.heap.size + 2) w4 w4.drew from (Below.refl _ _).drew)
    clear hy1 hy2 hpg
    go_wp2_with fail
    go_region_held3 (fun W => W.cell? ⟨w.heap.size, 0, none⟩ = some (.int .i64 (s' : Int)) ∧ W.cell? ⟨w.heap.size, 1, none⟩ = some (.int .i64 (c' : Int)))
      (first | exact HSA.out _ hdr.out | exact HSA.out _ (by assumption) | (go_split_ands; exact HSA.out _ (by assumption)))
      (first | (go_at_call 19; refine (hB.out _).mono ?_; rintro e w2 ⟨rfl, rfl⟩))
    have hoff := off_lt hok.2.1 hok.2.2
    have hi85 : i' ≤ 85 := by have := (cnt_le hok.2.1).2.1; have := hok.2.2; omega
    have hadr : 256 * (64 * s' + 1) + recO c' i' = 256 * pg + 8 * i' := by have := HPG.out; unfold recO; omega
    have hpgb : pg ≤ 300 := by have := HPG.out; have := hok.1; have := hok.2.1; omega
    have g1 : IntKind.i64.wrap (256 * (pg : Int)) = ((256 * pg : Nat) : Int) := (wrapI _ (by omega) (by omega)).trans (by omega)
    have g2 : IntKind.i64.wrap (8 * (i' : Int)) = ((8 * i' : Nat) : Int) := (wrapI _ (by omega) (by omega)).trans (by omega)
    have g3 : IntKind.i64.wrap (((256 * pg : Nat) : Int) + ((8 * i' : Nat) : Int)) = ((256 * (64 * s' + 1) + recO c' i' : Nat) : Int) := (wrapI _ (by omega) (by omega)).trans (by omega)
    have g4 : IntKind.u32.wrap ((256 * (64 * s' + 1) + recO c' i' : Nat) : Int) = ((256 * (64 * s' + 1) + recO c' i' : Nat) : Int) := by rw [IntKind.wrap_u32]; omega
    have hHd : Has w4.drew.drew (.pointer (some ad)) (upd (fun _ => none) s' (some zeroB)) (100 - 48) F4 := H.keep hH4 (fun _ _ => rfl)
    have hP := H.poke s' (recO c' i') [x0, x1, x2, x3, x4, x5, x6, x7] (some ⟨w.heap.size + 1, 0, none⟩) 8 (HT.out w4.drew.drew (hb.drew.drew)) hHd hok.1 (upd_same _ _ _) (by have := hok.2.1; unfold recO; simp; omega) (by simp) (by simp) (by simp) (Row.sees (show Row w4.drew.drew (w.heap.size + 1) 58 (byt [x0, x1, x2, x3, x4, x5, x6, x7]) from hq4)) (fun ad e hf => by injection e with e; subst e; have := hF5 _ hf; simp only at this; omega)
    rw [upd_upd, show [x0, x1, x2, x3, x4, x5, x6, x7].length = 8 from rfl] at hP
    obtain ⟨aa, haa⟩ : ∃ a, a = 256 * (64 * s' + 1) + recO c' i' := ⟨_, rfl⟩
    rw [← haa] at hP g3 g4
    obtain ⟨z1, hz1⟩ : ∃ z, z = 256 * pg := ⟨_, rfl⟩
    obtain ⟨z2, hz2⟩ : ∃ z, z = 8 * i' := ⟨_, rfl⟩
    rw [← hz1, ← hz2] at g3
    rw [← hz1] at g1
    rw [← hz2] at g2
    have hP := Lib.hid hP
    have hsl : ∀ W : World, (Instr.sliceAt 58 (.pointer (some ⟨w.heap.size + 1, 0, none⟩)) none none none).run Tryz.prog W = .ok (.slice (some ⟨w.heap.size + 1, 0, none⟩) 8 8) W := fun W => by kernel_rfl
    have hci : w4.drew.drew.cell? ⟨w.heap.size, 2, none⟩ = some (.int .i64 (i' : Int)) := hr4.cell 2
    have hb := hb.drew.drew
    clear HSA hdr hz1 hz2 haa hadr hoff e1 e2 hH4 hHd hB
    go_wp2_with fail
    refine wp_region_noPanic ?_
    refine wp_region_held_drew (S := fun W => W.cell? ⟨w.heap.size, 2, none⟩ = some (.int .i64 (i' : Int))) (by kernel_rfl) hci (fun hHeld => ?_)
    refine wpAnyH_take (i := 0) (v := ?_) rfl (by kernel_rfl) (by kernel_rfl) (by kernel_rfl) (fun _ _ _ h => h) (Or.inl ⟨by kernel_rfl, ?_⟩) hHeld ?_
    rotate_left
    focus (intro w hSw; (try dsimp only at hSw); go_simp; try with_reducible rfl)
    simp only [Act.put]
    refine wpAnyH_take (i := 1) (v := ?_) rfl (by kernel_rfl) (by kernel_rfl) (by kernel_rfl) (fun _ _ _ h => h) (Or.inl ⟨by kernel_rfl, ?_⟩) hHeld ?_
    rotate_left
    focus (intro w hSw; (try dsimp only at hSw); go_simp; try with_reducible rfl)
    simp only [Act.put]
    refine wpAnyH_take (i := 2) (v := ?_) rfl (by kernel_rfl) (by kernel_rfl) (by kernel_rfl) (fun _ _ _ h => h) (Or.inl ⟨by kernel_rfl, ?_⟩) hHeld ?_
    rotate_left
    focus (intro w hSw; (try dsimp only at hSw); go_simp; try with_reducible rfl)
    simp only [Act.put]
    refine wpAnyH_take (i := 3) (v := ?_) rfl (by kernel_rfl) (by kernel_rfl) (by kernel_rfl) (fun _ _ _ h => h) (Or.inl ⟨by kernel_rfl, ?_⟩) hHeld ?_
    rotate_left
    focus (intro w hSw; (try dsimp only at hSw); go_simp; try with_reducible rfl)
    simp only [Act.put]
    refine wpAnyH_take (i := 4) (v := ?_) rfl (by kernel_rfl) (by kernel_rfl) (by kernel_rfl) (fun _ _ _ h => h) (Or.inl ⟨by kernel_rfl, ?_⟩) hHeld ?_
    rotate_left
    focus (intro w hSw; (try dsimp only at hSw); go_simp; try with_reducible rfl)
    simp only [Act.put]
    refine wpAnyH_take (i := 5) (v := ?_) rfl (by kernel_rfl) (by kernel_rfl) (by kernel_rfl) (fun _ _ _ h => h) (Or.inl ⟨by kernel_rfl, ?_⟩) hHeld ?_
    rotate_left
    focus (intro w hSw; (try dsimp only at hSw); go_simp; try with_reducible rfl)
    simp only [Act.put]
    refine wpAnyH_take (i := 6) (v := ?_) rfl (by kernel_rfl) (by kernel_rfl) (by kernel_rfl) (fun _ _ _ h => h) (Or.inl ⟨by kernel_rfl, ?_⟩) hHeld ?_
    rotate_left
    focus (intro w hSw; (try dsimp only at hSw); go_simp; try with_reducible rfl)
    simp only [Act.put]
    refine wpAnyH_take (i := 7) (v := ?_) rfl (by kernel_rfl) (by kernel_rfl) (by kernel_rfl) (fun _ _ _ h => h) (Or.inl ⟨by kernel_rfl, ?_⟩) hHeld ?_
    rotate_left
    focus (intro w hSw; (try dsimp only at hSw); go_simp; try with_reducible rfl)
    simp only [Act.put]
    refine wpAnyH_take (i := 8) (v := ?_) rfl (by kernel_rfl) (by kernel_rfl) (by kernel_rfl) (fun _ _ _ h => h) (Or.inl ⟨by kernel_rfl, ?_⟩) hHeld ?_
    rotate_left
    focus (intro w hSw; (try dsimp only at hSw); go_simp; try with_reducible rfl)
    simp only [Act.put]
    refine wpAnyH_ready (rs := [9]) (by kernel_rfl) (by simp) ?_
    refine AllReadyH.cons rfl (fun K hK => ?_) (AllReadyH.nil)
    go_simp
    refine hP.out.mono ?_
    rintro e w5 ⟨rfl, F6, hH6, hk6, hF6⟩
    have hr6 : Row w5 w.heap.size 37 [.int .i64 (s' : Int), .int .i64 (c' : Int), .int .i64 (i' : Int)] := hk6.row (show Row w4.drew.drew w.heap.size 37 [.int .i64 (s' : Int), .int .i64 (c' : Int), .int .i64 (i' : Int)] from hr4) (fun hf => by have := hF5 _ hf; omega)
    have hq6 : Row w5 (w.heap.size + 1) 58 (byt [x0, x1, x2, x3, x4, x5, x6, x7]) := hk6.row (show Row w4.drew.drew (w.heap.size + 1) 58 (byt [x0, x1, x2, x3, x4, x5, x6, x7]) from hq4) (fun hf => by have := hF5 _ hf; omega)
    have hb := hb.trans (hk6.below (fun k hk => by have := hF5 k hk; omega) hb.size)
    have hci6 : w5.cell? ⟨w.heap.size, 2, none⟩ = some (.int .i64 (i' : Int)) := hr6.cell 2
    have hF7 : ∀ k, F6 k → w.heap.size + 2 ≤ k := fun k hk => by
      rcases hF6 k hk with h | h
      · exact hF5 k h
      · have := hq4.lt
        have e : w4.drew.drew.heap.size = w4.heap.size := rfl
        omega
    clear hr4 hq4 hk6 hF6 hci hP hF5
    refine hK.out _ _ hci6 (fun hHeld => ?_)
    clear hK K
    try simp only [Act.put]
    refine wpAnyH_ready (rs := [10]) (by kernel_rfl) (by simp) ?_
    refine AllReadyH.cons rfl (fun K hK => ?_) (AllReadyH.nil)
    go_simp
    refine hK.out _ _ hci6 (fun hHeld => ?_)
    clear hK K
    try simp only [Act.put]
    refine wpAnyH_done (by kernel_rfl) (NoPanic.normal ?_) _
    go_wp2_with fail
    refine (num_any _ _).mono ?_
    rintro e wx ⟨rfl, rfl⟩
    have c0 : w5.cell? ⟨w.heap.size, 0, none⟩ = some (.int .i64 (s' : Int)) := hr6.cell 0
    have c1 : w5.cell? ⟨w.heap.size, 1, none⟩ = some (.int .i64 (c' : Int)) := hr6.cell 1
    go_wp2_with fail
    have hrec := rec_in zeroB (recO c' i') x0 x1 x2 x3 x4 x5 x6 x7
    have hFG : ∀ k, F6 k → w.heap.size + 2 ≤ k := hF7
    by_cases hx : x0.toNat ≤ 4 ∧ x1 = 0
    · rw [if_pos hx] at hrec
      have hG := H.getYes s' c' i' (HT.out _ hb) hH6 hok (upd_same _ _ _) hrec
      have n4 := or4 x4.toNat x5.toNat x6.toNat x7.toNat x4.toNat_lt x5.toNat_lt x6.toNat_lt x7.toNat_lt
      obtain ⟨S, hS⟩ : ∃ S, S = x2.toNat + 256 * x3.toNat := ⟨_, rfl⟩
      obtain ⟨N, hN⟩ : ∃ N, N = x4.toNat + 256 * x5.toNat + 65536 * (x6.toNat + 256 * x7.toNat) := ⟨_, rfl⟩
      rw [← hS, ← hN] at hG
      rw [← hN] at n4
      have hG := Lib.hid hG
      have t0 := x0.toNat_lt
      have t2 := x2.toNat_lt
      have t3 := x3.toNat_lt
      have wi : ∀ x : UInt8, IntKind.i64.wrap (x.toNat : Int) = (x.toNat : Int) := fun x => by have := x.toNat_lt; exact wrapI _ (by omega) (by omega)
      have wu : ∀ x : UInt8, IntKind.u32.wrap (x.toNat : Int) = (x.toNat : Int) := fun x => by have := x.toNat_lt; rw [IntKind.wrap_u32]; omega
      have m3 : IntKind.i64.wrap (256 * (x3.toNat : Int)) = ((256 * x3.toNat : Nat) : Int) := (wrapI _ (by omega) (by omega)).trans (by omega)
      have m4 : IntKind.i64.wrap ((x2.toNat : Int) + ((256 * x3.toNat : Nat) : Int)) = (S : Int) := (wrapI _ (by omega) (by omega)).trans (by omega)
      obtain ⟨M, hM⟩ : ∃ M, M = 256 * x3.toNat := ⟨_, rfl⟩
      rw [← hM] at m3 m4
      have g0 : decide ((4 : Int) < (x0.toNat : Int)) = false := decide_eq_false (by omega)
      have g1 : ¬ 4 < x0.toNat := by omega
      have g2 : x1.toNat = 0 := by rw [hx.2]; rfl
      clear hS hN hM t0 t2 t3 hx hrec
      refine hG.out.mono ?_
      rintro e w6 ⟨rfl, F8, _, hk7, _⟩
      have hq7 : Row w6 (w.heap.size + 1) 58 (byt [x0, x1, x2, x3, x4, x5, x6, x7]) := hk7.row hq6 (fun hf => by have := hFG _ hf; omega)
      have hb := hb.trans (hk7.below (fun k hk => by have := hFG k hk; omega) hb.size)
      have hq8 := hq7.below (below1 w6 (.cells #[Value.int .i64 (x0.toNat : Int), Value.int .i64 (S : Int), Value.int .u32 (N : Int)] 41))
      have hr8 := Row.new w6 41 [Value.int .i64 (x0.toNat : Int), Value.int .i64 (S : Int), Value.int .u32 (N : Int)]
      have hb := hb.alloc hb.size (.cells #[Value.int .i64 (x0.toNat : Int), Value.int .i64 (S : Int), Value.int .u32 (N : Int)] 41)
      have r0 : (w6.alloc (.cells #[Value.int .i64 (x0.toNat : Int), Value.int .i64 (S : Int), Value.int .u32 (N : Int)] 41)).cell? ⟨w6.heap.size, 0, none⟩ = some (Value.int .i64 (x0.toNat : Int)) := hr8.cell 0
      have r1 : (w6.alloc (.cells #[Value.int .i64 (x0.toNat : Int), Value.int .i64 (S : Int), Value.int .u32 (N : Int)] 41)).cell? ⟨w6.heap.size, 1, none⟩ = some (Value.int .i64 (S : Int)) := hr8.cell 1
      have r2 : (w6.alloc (.cells #[Value.int .i64 (x0.toNat : Int), Value.int .i64 (S : Int), Value.int .u32 (N : Int)] 41)).cell? ⟨w6.heap.size, 2, none⟩ = some (Value.int .u32 (N : Int)) := hr8.cell 2
      have q0 : (w6.alloc (.cells #[Value.int .i64 (x0.toNat : Int), Value.int .i64 (S : Int), Value.int .u32 (N : Int)] 41)).cell? ⟨w.heap.size + 1, 0, none⟩ = some (.int .u8 (x0.toNat : Int)) := hq8.cell 0
      have q1 : (w6.alloc (.cells #[Value.int .i64 (x0.toNat : Int), Value.int .i64 (S : Int), Value.int .u32 (N : Int)] 41)).cell? ⟨w.heap.size + 1, 1, none⟩ = some (.int .u8 (x1.toNat : Int)) := hq8.cell 1
      have q2 : (w6.alloc (.cells #[Value.int .i64 (x0.toNat : Int), Value.int .i64 (S : Int), Value.int .u32 (N : Int)] 41)).cell? ⟨w.heap.size + 1, 2, none⟩ = some (.int .u8 (x2.toNat : Int)) := hq8.cell 2
      have q3 : (w6.alloc (.cells #[Value.int .i64 (x0.toNat : Int), Value.int .i64 (S : Int), Value.int .u32 (N : Int)] 41)).cell? ⟨w.heap.size + 1, 3, none⟩ = some (.int .u8 (x3.toNat : Int)) := hq8.cell 3
      have q4 : (w6.alloc (.cells #[Value.int .i64 (x0.toNat : Int), Value.int .i64 (S : Int), Value.int .u32 (N : Int)] 41)).cell? ⟨w.heap.size + 1, 4, none⟩ = some (.int .u8 (x4.toNat : Int)) := hq8.cell 4
      have q5 : (w6.alloc (.cells #[Value.int .i64 (x0.toNat : Int), Value.int .i64 (S : Int), Value.int .u32 (N : Int)] 41)).cell? ⟨w.heap.size + 1, 5, none⟩ = some (.int .u8 (x5.toNat : Int)) := hq8.cell 5
      have q6 : (w6.alloc (.cells #[Value.int .i64 (x0.toNat : Int), Value.int .i64 (S : Int), Value.int .u32 (N : Int)] 41)).cell? ⟨w.heap.size + 1, 6, none⟩ = some (.int .u8 (x6.toNat : Int)) := hq8.cell 6
      have q7 : (w6.alloc (.cells #[Value.int .i64 (x0.toNat : Int), Value.int .i64 (S : Int), Value.int .u32 (N : Int)] 41)).cell? ⟨w.heap.size + 1, 7, none⟩ = some (.int .u8 (x7.toNat : Int)) := hq8.cell 7
      clear hq7 hq6 hr6 hk7 hq8 hr8
      go_wp2_with fail
      have hb := hb.alloc hb.size (.cells #[Value.int .i64 (x0.toNat : Int), Value.int .i64 (S : Int), Value.int .u32 (N : Int)] 41)
      refine (num_any _ _).mono ?_
      rintro e wx ⟨rfl, rfl⟩
      go_wp2_with fail
      refine (hW.out _ hb).mono ?_
      rintro e w9 ⟨rfl, hb'⟩
      have hb := hb.trans (hb'.mono hb.size)
      clear hb'
      go_wp2_with fail
      go_ret
      exact ⟨rfl, hb⟩
    · rw [if_neg hx] at hrec
      have hG := Lib.hid (H.getBad s' c' i' (HT.out _ hb) hH6 hok (upd_same _ _ _) hrec)
      refine hG.out.mono ?_
      rintro e w6 ⟨rfl, F8, _, hk7, _⟩
      by_cases hx0 : x0.toNat ≤ 4
      · have hx1 : ¬ x1 = 0 := fun h => hx ⟨hx0, h⟩
        have g0 : decide ((4 : Int) < (x0.toNat : Int)) = false := decide_eq_false (by omega)
        have g1 : ¬ 4 < x0.toNat := by omega
        have g2 : ¬ x1.toNat = 0 := fun h => hx1 (UInt8.toNat_inj.1 h)
        have g3 : ((x1.toNat : Int) == 0) = false := beq_eq_false_iff_ne.2 (by omega)
        clear hx hx0 hx1 hrec
        have hq7 : Row w6 (w.heap.size + 1) 58 (byt [x0, x1, x2, x3, x4, x5, x6, x7]) := hk7.row hq6 (fun hf => by have := hFG _ hf; omega)
        have hb := hb.trans (hk7.below (fun k hk => by have := hFG k hk; omega) hb.size)
        have hq8 := hq7.below (below1 w6 (.cells #[Value.int .i64 0, Value.int .i64 0, Value.int .u32 0] 41))
        have hr8 := Row.new w6 41 [Value.int .i64 0, Value.int .i64 0, Value.int .u32 0]
        have hb := hb.alloc hb.size (.cells #[Value.int .i64 0, Value.int .i64 0, Value.int .u32 0] 41)
        have r0 : (w6.alloc (.cells #[Value.int .i64 0, Value.int .i64 0, Value.int .u32 0] 41)).cell? ⟨w6.heap.size, 0, none⟩ = some (Value.int .i64 0) := hr8.cell 0
        have r1 : (w6.alloc (.cells #[Value.int .i64 0, Value.int .i64 0, Value.int .u32 0] 41)).cell? ⟨w6.heap.size, 1, none⟩ = some (Value.int .i64 0) := hr8.cell 1
        have r2 : (w6.alloc (.cells #[Value.int .i64 0, Value.int .i64 0, Value.int .u32 0] 41)).cell? ⟨w6.heap.size, 2, none⟩ = some (Value.int .u32 0) := hr8.cell 2
        have q0 : (w6.alloc (.cells #[Value.int .i64 0, Value.int .i64 0, Value.int .u32 0] 41)).cell? ⟨w.heap.size + 1, 0, none⟩ = some (.int .u8 (x0.toNat : Int)) := hq8.cell 0
        have q1 : (w6.alloc (.cells #[Value.int .i64 0, Value.int .i64 0, Value.int .u32 0] 41)).cell? ⟨w.heap.size + 1, 1, none⟩ = some (.int .u8 (x1.toNat : Int)) := hq8.cell 1
        have q2 : (w6.alloc (.cells #[Value.int .i64 0, Value.int .i64 0, Value.int .u32 0] 41)).cell? ⟨w.heap.size + 1, 2, none⟩ = some (.int .u8 (x2.toNat : Int)) := hq8.cell 2
        have q3 : (w6.alloc (.cells #[Value.int .i64 0, Value.int .i64 0, Value.int .u32 0] 41)).cell? ⟨w.heap.size + 1, 3, none⟩ = some (.int .u8 (x3.toNat : Int)) := hq8.cell 3
        have q4 : (w6.alloc (.cells #[Value.int .i64 0, Value.int .i64 0, Value.int .u32 0] 41)).cell? ⟨w.heap.size + 1, 4, none⟩ = some (.int .u8 (x4.toNat : Int)) := hq8.cell 4
        have q5 : (w6.alloc (.cells #[Value.int .i64 0, Value.int .i64 0, Value.int .u32 0] 41)).cell? ⟨w.heap.size + 1, 5, none⟩ = some (.int .u8 (x5.toNat : Int)) := hq8.cell 5
        have q6 : (w6.alloc (.cells #[Value.int .i64 0, Value.int .i64 0, Value.int .u32 0] 41)).cell? ⟨w.heap.size + 1, 6, none⟩ = some (.int .u8 (x6.toNat : Int)) := hq8.cell 6
        have q7 : (w6.alloc (.cells #[Value.int .i64 0, Value.int .i64 0, Value.int .u32 0] 41)).cell? ⟨w.heap.size + 1, 7, none⟩ = some (.int .u8 (x7.toNat : Int)) := hq8.cell 7
        clear hq7 hq6 hr6 hk7 hq8 hr8
        go_wp2_with fail
        refine (num_any _ _).mono ?_
        rintro e wx ⟨rfl, rfl⟩
        go_wp2_with fail
        refine (hW.out _ hb).mono ?_
        rintro e w9 ⟨rfl, hb'⟩
        have hb := hb.trans (hb'.mono hb.size)
        clear hb'
        go_wp2_with fail
        go_ret
        exact ⟨rfl, hb⟩
      · have g0 : decide ((4 : Int) < (x0.toNat : Int)) = true := decide_eq_true (by omega)
        have g1 : 4 < x0.toNat := by omega
        clear hx hx0 hrec
        have hq7 : Row w6 (w.heap.size + 1) 58 (byt [x0, x1, x2, x3, x4, x5, x6, x7]) := hk7.row hq6 (fun hf => by have := hFG _ hf; omega)
        have hb := hb.trans (hk7.below (fun k hk => by have := hFG k hk; omega) hb.size)
        have hq8 := hq7.below (below1 w6 (.cells #[Value.int .i64 0, Value.int .i64 0, Value.int .u32 0] 41))
        have hr8 := Row.new w6 41 [Value.int .i64 0, Value.int .i64 0, Value.int .u32 0]
        have hb := hb.alloc hb.size (.cells #[Value.int .i64 0, Value.int .i64 0, Value.int .u32 0] 41)
        have r0 : (w6.alloc (.cells #[Value.int .i64 0, Value.int .i64 0, Value.int .u32 0] 41)).cell? ⟨w6.heap.size, 0, none⟩ = some (Value.int .i64 0) := hr8.cell 0
        have r1 : (w6.alloc (.cells #[Value.int .i64 0, Value.int .i64 0, Value.int .u32 0] 41)).cell? ⟨w6.heap.size, 1, none⟩ = some (Value.int .i64 0) := hr8.cell 1
        have r2 : (w6.alloc (.cells #[Value.int .i64 0, Value.int .i64 0, Value.int .u32 0] 41)).cell? ⟨w6.heap.size, 2, none⟩ = some (Value.int .u32 0) := hr8.cell 2
        have q0 : (w6.alloc (.cells #[Value.int .i64 0, Value.int .i64 0, Value.int .u32 0] 41)).cell? ⟨w.heap.size + 1, 0, none⟩ = some (.int .u8 (x0.toNat : Int)) := hq8.cell 0
        have q1 : (w6.alloc (.cells #[Value.int .i64 0, Value.int .i64 0, Value.int .u32 0] 41)).cell? ⟨w.heap.size + 1, 1, none⟩ = some (.int .u8 (x1.toNat : Int)) := hq8.cell 1
        have q2 : (w6.alloc (.cells #[Value.int .i64 0, Value.int .i64 0, Value.int .u32 0] 41)).cell? ⟨w.heap.size + 1, 2, none⟩ = some (.int .u8 (x2.toNat : Int)) := hq8.cell 2
        have q3 : (w6.alloc (.cells #[Value.int .i64 0, Value.int .i64 0, Value.int .u32 0] 41)).cell? ⟨w.heap.size + 1, 3, none⟩ = some (.int .u8 (x3.toNat : Int)) := hq8.cell 3
        have q4 : (w6.alloc (.cells #[Value.int .i64 0, Value.int .i64 0, Value.int .u32 0] 41)).cell? ⟨w.heap.size + 1, 4, none⟩ = some (.int .u8 (x4.toNat : Int)) := hq8.cell 4
        have q5 : (w6.alloc (.cells #[Value.int .i64 0, Value.int .i64 0, Value.int .u32 0] 41)).cell? ⟨w.heap.size + 1, 5, none⟩ = some (.int .u8 (x5.toNat : Int)) := hq8.cell 5
        have q6 : (w6.alloc (.cells #[Value.int .i64 0, Value.int .i64 0, Value.int .u32 0] 41)).cell? ⟨w.heap.size + 1, 6, none⟩ = some (.int .u8 (x6.toNat : Int)) := hq8.cell 6
        have q7 : (w6.alloc (.cells #[Value.int .i64 0, Value.int .i64 0, Value.int .u32 0] 41)).cell? ⟨w.heap.size + 1, 7, none⟩ = some (.int .u8 (x7.toNat : Int)) := hq8.cell 7
        clear hq7 hq6 hr6 hk7 hq8 hr8
        go_wp2_with fail
        refine (num_any _ _).mono ?_
        rintro e wx ⟨rfl, rfl⟩
        go_wp2_with fail
        refine (hW.out _ hb).mono ?_
        rintro e w9 ⟨rfl, hb'⟩
        have hb := hb.trans (hb'.mono hb.size)
        clear hb'
        go_wp2_with fail
        go_ret
        exact ⟨rfl, hb⟩
  · have b0 : (asksS s c i == 0) = false := beq_eq_false_iff_ne.2 h0
    obtain ⟨E, hE⟩ : ∃ E, E = asksS s c i := ⟨_, rfl⟩
    rw [← hE] at h0 b0 ⊢
    clear hE
    go_wp2_with fail
    refine (hW.out _ hb).mono ?_
    rintro e w4 ⟨rfl, hb'⟩
    have hb := hb.trans (hb'.mono hb.size)
    clear hb'
    go_wp2_with fail
    go_ret
    exact ⟨rfl, hb⟩
end
end Go.Proofs.YtiahmccchpmdgaaGreatDoor.Me
