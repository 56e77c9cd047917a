import Derived.Test.YtiahmccchpmdgaaGreatDoorFAE
namespace Go.Proofs.YtiahmccchpmdgaaGreatDoor.Me
open Go.RowKit Go.Shelf
attribute [local go_sem] Oper.semAt_some

/- METAFINDS OVER ANY BOOKS: SLOTS' ADDRESSES, AND WHOSE THEY ARE. -/
section
variable {T : World → Prop} {Has : HasT} (H : MBase T Has)
include H
set_option maxHeartbeats 4000000 in
theorem finds_any (s c i : Int) (a : Nat) (ha : a < 4294967296) (w : World) (ht : T w) : Calls Tryz.prog 4 #[spV s c i, .int .u32 (a : Int)] w fun e w' => e = .returned (.bool true) ∧ Below w.heap.size w w' := by
  have HT := Lib.hid (fun W (hb : Below w.heap.size w W) => H.tb ht hb)
  have hF := Lib.hid (fun W (hb : Below w.heap.size w W) => H.find a W (HT.out W hb) ha)
  have hR := Lib.hid (fun W => rfind_any a ha W)
  have hA := Lib.hid (fun W => rasks_any s c i W)
  have hW := Lib.hid (fun W (hb : Below w.heap.size w W) => works_any H W (HT.out W hb))
  have hfn : ∃ x y z e : Int, fndV (findS a) = .tuple #[spV x y z, .int .i64 e] := by
    cases findS a with
    | none => exact ⟨_, _, _, _, rfl⟩
    | some p => exact ⟨_, _, _, _, rfl⟩
  obtain ⟨x, y, z, ee, hfn⟩ := hfn
  rw [hfn] at hF hR
  clear hfn
  have hr1 := Row.new w 37 [.int .i64 s, .int .i64 c, .int .i64 i]
  have hb := below1 w (.cells #[.int .i64 s, .int .i64 c, .int .i64 i] 37)
  obtain ⟨b0, b1, b2⟩ := box3 w (.int .i64 s) (.int .i64 c) (.int .i64 i) 37
  by_cases h0 : asksS s c i = 0
  · obtain ⟨s', c', i', rfl, rfl, rfl, hok⟩ : ∃ s' c' i' : Nat, s = (s' : Int) ∧ c = (c' : Int) ∧ i = (i' : Int) ∧ okS s' c' i' := by
      rcases asks_cases s c i with ⟨_, h⟩ | ⟨_, _, h⟩ | ⟨_, _, _, h⟩ | ⟨a, k, rfl, rfl, h1, h2, ⟨j, rfl, h3, _⟩ | ⟨_, h⟩⟩
      · omega
      · omega
      · omega
      · exact ⟨a, k, j, rfl, rfl, rfl, h1, h2, h3⟩
      · omega
    rw [h0] at hA
    have hN := Lib.hid (fun W (hb : Below w.heap.size w W) => H.atYes W (HT.out W hb) hok)
    have hN2 := Lib.hid (fun W => rat_any s' c' i' hok W)
    have hl := atS_lt hok
    have hG := Lib.hid (fun W (hb : Below w.heap.size w W) => H.find (atS s' c' i') W (HT.out W hb) hl)
    rw [findS_some hok rfl] at hG
    simp only [fndV] at hG
    obtain ⟨A, hA2⟩ : ∃ A, A = atS s' c' i' := ⟨_, rfl⟩
    rw [← hA2] at hN hN2 hG
    clear hA2 h0 hok hl ht ha
    go_enter Tryz.func4, Tryz.ntmps4
    go_wp2_with fail
    refine (hN.out _ hb).mono ?_
    rintro e w1 ⟨rfl, hb'⟩
    have hr := hr1.below hb'
    have hb := hb.trans (hb'.mono hb.size)
    have c0 : w1.cell? ⟨w.heap.size, 0, none⟩ = some (.int .i64 (s' : Int)) := hr.cell 0
    have c1 : w1.cell? ⟨w.heap.size, 1, none⟩ = some (.int .i64 (c' : Int)) := hr.cell 1
    have c2 : w1.cell? ⟨w.heap.size, 2, none⟩ = some (.int .i64 (i' : Int)) := hr.cell 2
    clear hb' hr1 b0 b1 b2
    go_wp2_with fail
    refine (hA.out _).mono ?_
    rintro e w2 ⟨rfl, hb'⟩
    have hr2 := hr.below hb'
    have hb := hb.trans (hb'.mono hb.size)
    have d0 : w2.cell? ⟨w.heap.size, 0, none⟩ = some (.int .i64 (s' : Int)) := hr2.cell 0
    have d1 : w2.cell? ⟨w.heap.size, 1, none⟩ = some (.int .i64 (c' : Int)) := hr2.cell 1
    have d2 : w2.cell? ⟨w.heap.size, 2, none⟩ = some (.int .i64 (i' : Int)) := hr2.cell 2
    clear hb' hr c0 c1 c2
    go_wp2_with fail
    refine (num_any _ _).mono ?_
    rintro e wx ⟨rfl, rfl⟩
    go_wp2_with fail
    refine (hN2.out _).mono ?_
    rintro e w3 ⟨rfl, hb'⟩
    have hr := hr2.below hb'
    have hb := hb.trans (hb'.mono hb.size)
    clear hb' hr2 d0 d1 d2
    go_wp2_with fail
    refine (hG.out _ hb).mono ?_
    rintro e w4 ⟨rfl, hb'⟩
    have hr4 := hr.below hb'
    have hb := hb.trans (hb'.mono hb.size)
    have hr5 := hr4.below (below1 w4 (.cells #[.int .i64 (s' : Int), .int .i64 (c' : Int), .int .i64 (i' : Int)] 37))
    obtain ⟨b0, b1, b2⟩ := box3 w4 (.int .i64 (s' : Int)) (.int .i64 (c' : Int)) (.int .i64 (i' : Int)) 37
    have hb := hb.alloc hb.size (.cells #[.int .i64 (s' : Int), .int .i64 (c' : Int), .int .i64 (i' : Int)] 37)
    have d0 : (w4.alloc (.cells #[.int .i64 (s' : Int), .int .i64 (c' : Int), .int .i64 (i' : Int)] 37)).cell? ⟨w.heap.size, 0, none⟩ = some (.int .i64 (s' : Int)) := hr5.cell 0
    have d1 : (w4.alloc (.cells #[.int .i64 (s' : Int), .int .i64 (c' : Int), .int .i64 (i' : Int)] 37)).cell? ⟨w.heap.size, 1, none⟩ = some (.int .i64 (c' : Int)) := hr5.cell 1
    have d2 : (w4.alloc (.cells #[.int .i64 (s' : Int), .int .i64 (c' : Int), .int .i64 (i' : Int)] 37)).cell? ⟨w.heap.size, 2, none⟩ = some (.int .i64 (i' : Int)) := hr5.cell 2
    clear hb' hr hr4 hr5
    go_wp2_with fail
    refine (num_any _ _).mono ?_
    rintro e wx ⟨rfl, rfl⟩
    clear b0 b1 b2 d0 d1 d2
    go_wp2_with fail
    refine (hF.out _ hb).mono ?_
    rintro e w6 ⟨rfl, hb'⟩
    have hb := hb.trans (hb'.mono hb.size)
    have hr6 := Row.new w6 37 [.int .i64 x, .int .i64 y, .int .i64 z]
    have hb := hb.alloc hb.size (.cells #[.int .i64 x, .int .i64 y, .int .i64 z] 37)
    clear hb'
    go_wp2_with fail
    refine (hR.out _).mono ?_
    rintro e w7 ⟨rfl, hb'⟩
    have hr7 := hr6.below hb'
    have hb := hb.trans (hb'.mono hb.size)
    have hr8 := hr7.below (below1 w7 (.cells #[.int .i64 x, .int .i64 y, .int .i64 z] 37))
    have hr9 := Row.new w7 37 [.int .i64 x, .int .i64 y, .int .i64 z]
    have hb := hb.alloc hb.size (.cells #[.int .i64 x, .int .i64 y, .int .i64 z] 37)
    have d0 : (w7.alloc (.cells #[.int .i64 x, .int .i64 y, .int .i64 z] 37)).cell? ⟨w6.heap.size, 0, none⟩ = some (.int .i64 x) := hr8.cell 0
    have d1 : (w7.alloc (.cells #[.int .i64 x, .int .i64 y, .int .i64 z] 37)).cell? ⟨w6.heap.size, 1, none⟩ = some (.int .i64 y) := hr8.cell 1
    have d2 : (w7.alloc (.cells #[.int .i64 x, .int .i64 y, .int .i64 z] 37)).cell? ⟨w6.heap.size, 2, none⟩ = some (.int .i64 z) := hr8.cell 2
    have e0 : (w7.alloc (.cells #[.int .i64 x, .int .i64 y, .int .i64 z] 37)).cell? ⟨w7.heap.size, 0, none⟩ = some (.int .i64 x) := hr9.cell 0
    have e1 : (w7.alloc (.cells #[.int .i64 x, .int .i64 y, .int .i64 z] 37)).cell? ⟨w7.heap.size, 1, none⟩ = some (.int .i64 y) := hr9.cell 1
    have e2 : (w7.alloc (.cells #[.int .i64 x, .int .i64 y, .int .i64 z] 37)).cell? ⟨w7.heap.size, 2, none⟩ = some (.int .i64 z) := hr9.cell 2
    clear hr6 hr7 hr8 hr9 hb'
    go_wp2_with fail
    refine (num_any _ _).mono ?_
    rintro e wx ⟨rfl, rfl⟩
    go_wp2_with fail
    refine (hW.out _ hb).mono ?_
    rintro e w9 ⟨rfl, hb'⟩
    have hb := hb.trans (hb'.mono hb.size)
    clear hb'
    go_wp2_with fail
    go_ret
    exact ⟨rfl, hb⟩
  · have hN := Lib.hid (fun W (hb : Below w.heap.size w W) => H.atNo W (HT.out W hb) h0)
    obtain ⟨E, hE⟩ : ∃ E, E = asksS s c i := ⟨_, rfl⟩
    rw [← hE] at hN hA h0
    have b0' : (E == 0) = false := beq_eq_false_iff_ne.2 h0
    clear hE ht ha
    go_enter Tryz.func4, Tryz.ntmps4
    go_wp2_with fail
    refine (hN.out _ hb).mono ?_
    rintro e w1 ⟨rfl, hb'⟩
    have hr := hr1.below hb'
    have hb := hb.trans (hb'.mono hb.size)
    have c0 : w1.cell? ⟨w.heap.size, 0, none⟩ = some (.int .i64 s) := hr.cell 0
    have c1 : w1.cell? ⟨w.heap.size, 1, none⟩ = some (.int .i64 c) := hr.cell 1
    have c2 : w1.cell? ⟨w.heap.size, 2, none⟩ = some (.int .i64 i) := hr.cell 2
    clear hb' hr1 b0 b1 b2
    go_wp2_with fail
    refine (hA.out _).mono ?_
    rintro e w2 ⟨rfl, hb'⟩
    have hb := hb.trans (hb'.mono hb.size)
    clear hb' hr c0 c1 c2
    go_wp2_with fail
    refine (num_any _ _).mono ?_
    rintro e wx ⟨rfl, rfl⟩
    go_wp2_with fail
    refine (hF.out _ hb).mono ?_
    rintro e w6 ⟨rfl, hb'⟩
    have hb := hb.trans (hb'.mono hb.size)
    have hr6 := Row.new w6 37 [.int .i64 x, .int .i64 y, .int .i64 z]
    have hb := hb.alloc hb.size (.cells #[.int .i64 x, .int .i64 y, .int .i64 z] 37)
    clear hb'
    go_wp2_with fail
    refine (hR.out _).mono ?_
    rintro e w7 ⟨rfl, hb'⟩
    have hr7 := hr6.below hb'
    have hb := hb.trans (hb'.mono hb.size)
    have hr8 := hr7.below (below1 w7 (.cells #[.int .i64 x, .int .i64 y, .int .i64 z] 37))
    have hr9 := Row.new w7 37 [.int .i64 x, .int .i64 y, .int .i64 z]
    have hb := hb.alloc hb.size (.cells #[.int .i64 x, .int .i64 y, .int .i64 z] 37)
    have d0 : (w7.alloc (.cells #[.int .i64 x, .int .i64 y, .int .i64 z] 37)).cell? ⟨w6.heap.size, 0, none⟩ = some (.int .i64 x) := hr8.cell 0
    have d1 : (w7.alloc (.cells #[.int .i64 x, .int .i64 y, .int .i64 z] 37)).cell? ⟨w6.heap.size, 1, none⟩ = some (.int .i64 y) := hr8.cell 1
    have d2 : (w7.alloc (.cells #[.int .i64 x, .int .i64 y, .int .i64 z] 37)).cell? ⟨w6.heap.size, 2, none⟩ = some (.int .i64 z) := hr8.cell 2
    have e0 : (w7.alloc (.cells #[.int .i64 x, .int .i64 y, .int .i64 z] 37)).cell? ⟨w7.heap.size, 0, none⟩ = some (.int .i64 x) := hr9.cell 0
    have e1 : (w7.alloc (.cells #[.int .i64 x, .int .i64 y, .int .i64 z] 37)).cell? ⟨w7.heap.size, 1, none⟩ = some (.int .i64 y) := hr9.cell 1
    have e2 : (w7.alloc (.cells #[.int .i64 x, .int .i64 y, .int .i64 z] 37)).cell? ⟨w7.heap.size, 2, none⟩ = some (.int .i64 z) := hr9.cell 2
    clear hr6 hr7 hr8 hr9 hb'
    go_wp2_with fail
    refine (num_any _ _).mono ?_
    rintro e wx ⟨rfl, rfl⟩
    go_wp2_with fail
    refine (hW.out _ hb).mono ?_
    rintro e w9 ⟨rfl, hb'⟩
    have hb := hb.trans (hb'.mono hb.size)
    clear hb'
    go_wp2_with fail
    go_ret
    exact ⟨rfl, hb⟩
end
end Go.Proofs.YtiahmccchpmdgaaGreatDoor.Me
