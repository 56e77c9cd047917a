import Derived.Test.YtmocdokikcbjeaaAsked
import Derived.Test.YtmocdokikcbjeaaNew
import Derived.Deep.RegionHeld3
namespace Go.Proofs.Ytmocdokikcbjeaa
open Go.RowKit Go.Shelf Go.Maps
attribute [local go_sem] Oper.semAt_some

/- THE QUESTIONS. -/
theorem map2_any (g : Nat) (z : Int) (w : World) (hc : w.cell? ⟨g, 0, none⟩ = some (.int .i64 z)) : Calls Try.prog 43 #[bx g] w fun e w' => e = .returned (.bool (pageB z)) ∧ Below w.heap.size w w' := by
  have h1 := Lib.hid (fun w => known_any z w)
  obtain ⟨q, hq⟩ : ∃ q, q = pageB z := ⟨_, rfl⟩
  rw [← hq] at h1 ⊢
  clear hq
  go_enter Try.func43, Try.ntmps43
  go_wp2_with fail
  refine (h1.out _).mono ?_
  rintro e w1 ⟨rfl, rfl⟩
  go_wp2
  go_ret
  exact ⟨rfl, Below.refl _ _⟩
theorem unmap1_any (g : Nat) (z : Int) (w : World) (hc : w.cell? ⟨g, 0, none⟩ = some (.int .i64 z)) : Calls Try.prog 52 #[bx g] w fun e w' => e = .returned (.bool (pageB z)) ∧ Below w.heap.size w w' := by
  have h1 := Lib.hid (fun w => known_any z w)
  obtain ⟨q, hq⟩ : ∃ q, q = pageB z := ⟨_, rfl⟩
  rw [← hq] at h1 ⊢
  clear hq
  go_enter Try.func52, Try.ntmps52
  go_wp2_with fail
  refine (h1.out _).mono ?_
  rintro e w1 ⟨rfl, rfl⟩
  go_wp2
  go_ret
  exact ⟨rfl, Below.refl _ _⟩
theorem prot1_any (g : Nat) (z : Int) (w : World) (hc : w.cell? ⟨g, 0, none⟩ = some (.int .i64 z)) : Calls Try.prog 55 #[bx g] w fun e w' => e = .returned (.bool (mayB z)) ∧ Below w.heap.size w w' := by
  have h1 := Lib.hid (fun w => allowed_any z w)
  obtain ⟨q, hq⟩ : ∃ q, q = mayB z := ⟨_, rfl⟩
  rw [← hq] at h1 ⊢
  clear hq
  go_enter Try.func55, Try.ntmps55
  go_wp2_with fail
  refine (h1.out _).mono ?_
  rintro e w1 ⟨rfl, rfl⟩
  go_wp2
  go_ret
  exact ⟨rfl, Below.refl _ _⟩
theorem prot2_any (g : Nat) (z : Int) (w : World) (hc : w.cell? ⟨g, 0, none⟩ = some (.int .i64 z)) : Calls Try.prog 57 #[bx g] w fun e w' => e = .returned (.bool (pageB z)) ∧ Below w.heap.size w w' := by
  have h1 := Lib.hid (fun w => known_any z w)
  obtain ⟨q, hq⟩ : ∃ q, q = pageB z := ⟨_, rfl⟩
  rw [← hq] at h1 ⊢
  clear hq
  go_enter Try.func57, Try.ntmps57
  go_wp2_with fail
  refine (h1.out _).mono ?_
  rintro e w1 ⟨rfl, rfl⟩
  go_wp2
  go_ret
  exact ⟨rfl, Below.refl _ _⟩
theorem map1_any (g : Nat) (x : En) (w : World) (hc : ∀ (j : Nat) v, (enC x)[j]? = some v → w.cell? ⟨g, j, none⟩ = some v) : Calls Try.prog 41 #[bx g] w fun e w' => e = .returned (.bool (rightB x)) ∧ Below w.heap.size w w' := by
  have h1 := Lib.hid (show ∀ V, Calls Try.prog 42 #[.agg #[.int .i64 x.1, .int .i64 x.2.1, .int .i64 x.2.2]] V (fun e w' => e = .returned (.bool (rightB x)) ∧ Below V.heap.size V w') from fun V => proper_any x V)
  have c0 := hc 0 _ rfl
  have c1 := hc 1 _ rfl
  have c2 := hc 2 _ rfl
  obtain ⟨q, hq⟩ : ∃ q, q = rightB x := ⟨_, rfl⟩
  rw [← hq] at h1 ⊢
  clear hq hc
  obtain ⟨o, m, f⟩ := x
  simp only at c0 c1 c2 h1
  go_enter Try.func41, Try.ntmps41
  go_wp2_with fail
  refine (h1.out _).mono ?_
  rintro e w1 ⟨rfl, hb⟩
  go_wp2
  go_ret
  exact ⟨rfl, hb⟩
set_option maxHeartbeats 1000000 in
theorem map3_any {b bp bf : Nat} {l : Tb} {w : World} (h : Rep w b l bp bf) (gt gp : Nat) (z : Int) (hz : I64 z) (ht : w.cell? ⟨gt, 0, none⟩ = some (bx b)) (hp : w.cell? ⟨gp, 0, none⟩ = some (.int .i64 z)) :
    Calls Try.prog 45 #[bx gt, bx gp] w fun e w' => e = .returned (.bool (!(look l z).isSome)) ∧ Below w.heap.size w w' := by
  have hh := Lib.hid (fun V (hb : Below w.heap.size w V) => (show Calls Try.prog 46 #[bx b, .int .i64 z] V (fun e w' => e = .returned (.bool (look l z).isSome) ∧ Below w.heap.size w w') from
    (mapped_any b bp l z V hz (h.below hb).c0 (h.below hb).pages).mono fun e w' ⟨e1, e2⟩ => ⟨e1, below0 hb e2⟩))
  have l1 := lt_of_cell ht
  have l2 := lt_of_cell hp
  obtain ⟨q, hq⟩ : ∃ q, q = (look l z).isSome := ⟨_, rfl⟩
  rw [← hq] at hh ⊢
  have HSA := Lib.hid (fun W (hB : Below w.heap.size w W) => (show W.cell? ⟨gt, 0, none⟩ = some (bx b) ∧ W.cell? ⟨gp, 0, none⟩ = some (.int .i64 z) ∧ Below w.heap.size w W from
    ⟨(hB.cell (p := ⟨gt, 0, none⟩) l1).trans ht, (hB.cell (p := ⟨gp, 0, none⟩) l2).trans hp, hB⟩))
  have hdr := Lib.hid (show Below w.heap.size w w.drew from (Below.refl _ _).drew)
  clear hq h
  go_enter Try.func45, Try.ntmps45
  go_wp2_with fail
  go_region_held3 (fun W => W.cell? ⟨gt, 0, none⟩ = some (bx b) ∧ W.cell? ⟨gp, 0, none⟩ = some (.int .i64 z) ∧ Below w.heap.size w W)
    (first | exact HSA.out _ hdr.out | exact HSA.out _ (by assumption) | (go_split_ands; exact HSA.out _ (by assumption)))
    (first | (go_at_call 46; refine (hh.out _ (by go_split_ands; assumption)).mono ?_; rintro e w2 ⟨rfl, hb2⟩))
  go_wp2
  go_ret
  exact ⟨rfl, hb2⟩
set_option maxHeartbeats 1000000 in
theorem unmap2_any {b bp bf : Nat} {l : Tb} {w : World} (h : Rep w b l bp bf) (gt gp : Nat) (z : Int) (hz : I64 z) (ht : w.cell? ⟨gt, 0, none⟩ = some (bx b)) (hp : w.cell? ⟨gp, 0, none⟩ = some (.int .i64 z)) :
    Calls Try.prog 53 #[bx gt, bx gp] w fun e w' => e = .returned (.bool ((look l z).isSome)) ∧ Below w.heap.size w w' := by
  have hh := Lib.hid (fun V (hb : Below w.heap.size w V) => (show Calls Try.prog 46 #[bx b, .int .i64 z] V (fun e w' => e = .returned (.bool (look l z).isSome) ∧ Below w.heap.size w w') from
    (mapped_any b bp l z V hz (h.below hb).c0 (h.below hb).pages).mono fun e w' ⟨e1, e2⟩ => ⟨e1, below0 hb e2⟩))
  have l1 := lt_of_cell ht
  have l2 := lt_of_cell hp
  obtain ⟨q, hq⟩ : ∃ q, q = (look l z).isSome := ⟨_, rfl⟩
  rw [← hq] at hh ⊢
  have HSA := Lib.hid (fun W (hB : Below w.heap.size w W) => (show W.cell? ⟨gt, 0, none⟩ = some (bx b) ∧ W.cell? ⟨gp, 0, none⟩ = some (.int .i64 z) ∧ Below w.heap.size w W from
    ⟨(hB.cell (p := ⟨gt, 0, none⟩) l1).trans ht, (hB.cell (p := ⟨gp, 0, none⟩) l2).trans hp, hB⟩))
  have hdr := Lib.hid (show Below w.heap.size w w.drew from (Below.refl _ _).drew)
  clear hq h
  go_enter Try.func53, Try.ntmps53
  go_wp2_with fail
  go_region_held3 (fun W => W.cell? ⟨gt, 0, none⟩ = some (bx b) ∧ W.cell? ⟨gp, 0, none⟩ = some (.int .i64 z) ∧ Below w.heap.size w W)
    (first | exact HSA.out _ hdr.out | exact HSA.out _ (by assumption) | (go_split_ands; exact HSA.out _ (by assumption)))
    (first | (go_at_call 46; refine (hh.out _ (by go_split_ands; assumption)).mono ?_; rintro e w2 ⟨rfl, hb2⟩))
  go_wp2
  go_ret
  exact ⟨rfl, hb2⟩
set_option maxHeartbeats 1000000 in
theorem prot3_any {b bp bf : Nat} {l : Tb} {w : World} (h : Rep w b l bp bf) (gt gp : Nat) (z : Int) (hz : I64 z) (ht : w.cell? ⟨gt, 0, none⟩ = some (bx b)) (hp : w.cell? ⟨gp, 0, none⟩ = some (.int .i64 z)) :
    Calls Try.prog 58 #[bx gt, bx gp] w fun e w' => e = .returned (.bool ((look l z).isSome)) ∧ Below w.heap.size w w' := by
  have hh := Lib.hid (fun V (hb : Below w.heap.size w V) => (show Calls Try.prog 46 #[bx b, .int .i64 z] V (fun e w' => e = .returned (.bool (look l z).isSome) ∧ Below w.heap.size w w') from
    (mapped_any b bp l z V hz (h.below hb).c0 (h.below hb).pages).mono fun e w' ⟨e1, e2⟩ => ⟨e1, below0 hb e2⟩))
  have l1 := lt_of_cell ht
  have l2 := lt_of_cell hp
  obtain ⟨q, hq⟩ : ∃ q, q = (look l z).isSome := ⟨_, rfl⟩
  rw [← hq] at hh ⊢
  have HSA := Lib.hid (fun W (hB : Below w.heap.size w W) => (show W.cell? ⟨gt, 0, none⟩ = some (bx b) ∧ W.cell? ⟨gp, 0, none⟩ = some (.int .i64 z) ∧ Below w.heap.size w W from
    ⟨(hB.cell (p := ⟨gt, 0, none⟩) l1).trans ht, (hB.cell (p := ⟨gp, 0, none⟩) l2).trans hp, hB⟩))
  have hdr := Lib.hid (show Below w.heap.size w w.drew from (Below.refl _ _).drew)
  clear hq h
  go_enter Try.func58, Try.ntmps58
  go_wp2_with fail
  go_region_held3 (fun W => W.cell? ⟨gt, 0, none⟩ = some (bx b) ∧ W.cell? ⟨gp, 0, none⟩ = some (.int .i64 z) ∧ Below w.heap.size w W)
    (first | exact HSA.out _ hdr.out | exact HSA.out _ (by assumption) | (go_split_ands; exact HSA.out _ (by assumption)))
    (first | (go_at_call 46; refine (hh.out _ (by go_split_ands; assumption)).mono ?_; rintro e w2 ⟨rfl, hb2⟩))
  go_wp2
  go_ret
  exact ⟨rfl, hb2⟩
set_option maxHeartbeats 1000000 in
theorem map4_any {b bp bf : Nat} {l : Tb} {w : World} (h : Rep w b l bp bf) (gt gx : Nat) (z : Int) (hz : I64 z) (ht : w.cell? ⟨gt, 0, none⟩ = some (bx b)) (hp : w.cell? ⟨gx, 2, none⟩ = some (.int .i64 z)) :
    Calls Try.prog 47 #[bx gt, bx gx] w fun e w' => e = .returned (.bool (!framed l z)) ∧ Below w.heap.size w w' := by
  have hh := Lib.hid (fun V (hb : Below w.heap.size w V) => (show Calls Try.prog 48 #[bx b, .int .i64 z] V (fun e w' => e = .returned (.bool (framed l z)) ∧ Below w.heap.size w w') from
    (framed_any b bf l z V hz (h.below hb).c1 (h.below hb).frames).mono fun e w' ⟨e1, e2⟩ => ⟨e1, below0 hb e2⟩))
  have l1 := lt_of_cell ht
  have l2 := lt_of_cell hp
  obtain ⟨q, hq⟩ : ∃ q, q = framed l z := ⟨_, rfl⟩
  rw [← hq] at hh ⊢
  have HSA := Lib.hid (fun W (hB : Below w.heap.size w W) => (show W.cell? ⟨gt, 0, none⟩ = some (bx b) ∧ W.cell? ⟨gx, 2, none⟩ = some (.int .i64 z) ∧ Below w.heap.size w W from
    ⟨(hB.cell (p := ⟨gt, 0, none⟩) l1).trans ht, (hB.cell (p := ⟨gx, 2, none⟩) l2).trans hp, hB⟩))
  have hdr := Lib.hid (show Below w.heap.size w w.drew from (Below.refl _ _).drew)
  clear hq h
  go_enter Try.func47, Try.ntmps47
  go_wp2_with fail
  go_region_held3 (fun W => W.cell? ⟨gt, 0, none⟩ = some (bx b) ∧ W.cell? ⟨gx, 2, none⟩ = some (.int .i64 z) ∧ Below w.heap.size w W)
    (first | exact HSA.out _ hdr.out | exact HSA.out _ (by assumption) | (go_split_ands; exact HSA.out _ (by assumption)))
    (first | (go_at_call 48; refine (hh.out _ (by go_split_ands; assumption)).mono ?_; rintro e w2 ⟨rfl, hb2⟩))
  go_wp2
  go_ret
  exact ⟨rfl, hb2⟩
theorem free1_any (g : Nat) (m : Int) (w : World) (hc : w.cell? ⟨g, 0, none⟩ = some (.int .i64 m)) : Calls Try.prog 60 #[bx g] w fun e w' => e = .returned (.bool (decide (1 ≤ m))) ∧ Below w.heap.size w w' := by
  go_enter Try.func60, Try.ntmps60
  go_wp2
  go_ret
  exact ⟨rfl, Below.refl _ _⟩
theorem free2_any (ga gm : Nat) (a m : Int) (w : World) (ha : w.cell? ⟨ga, 0, none⟩ = some (.int .i64 a)) (hm : w.cell? ⟨gm, 0, none⟩ = some (.int .i64 m)) : Calls Try.prog 61 #[bx ga, bx gm] w fun e w' => e = .returned (.bool (wholeB a m)) ∧ Below w.heap.size w w' := by
  have h1 := Lib.hid (fun w => whole_any a m w)
  obtain ⟨q, hq⟩ : ∃ q, q = wholeB a m := ⟨_, rfl⟩
  rw [← hq] at h1 ⊢
  clear hq
  go_enter Try.func61, Try.ntmps61
  go_wp2_with fail
  refine (h1.out _).mono ?_
  rintro e w1 ⟨rfl, rfl⟩
  go_wp2
  go_ret
  exact ⟨rfl, Below.refl _ _⟩
end Go.Proofs.Ytmocdokikcbjeaa
