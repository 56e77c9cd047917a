import Derived.Test.YtiahmccchpmdgaaGreatDoorHAP
namespace Go.Proofs.YtiahmccchpmdgaaGreatDoor.Me
open Go.RowKit Go.Shelf
attribute [local go_sem] Oper.semAt_some
section
variable {T : World → Prop} {Has : HasT} (H : MBase T Has)
include H
theorem St.more {W0 V V' : World} {v : Value} {B : Bks} {n : Nat} {L L' : List Rw} (h : St Has W0 v B n L V) (hb : Below V.heap.size V V') (hr : ∀ x ∈ L', Row V' x.1 x.2.1 x.2.2 ∧ V.heap.size ≤ x.1) : St Has W0 v B n (L' ++ L) V' := by
 obtain ⟨F, h1, h2, h3⟩ := h.has
 refine ⟨⟨F, H.keep h1 (fun k hk => hb.block _ (H.lt h1 k hk)), h2, fun x hx => ?_⟩, below0 h.low hb⟩
 rcases List.mem_append.1 hx with hx | hx
 ·exact ⟨(hr x hx).1, fun hf => by have := H.lt h1 _ hf; have := (hr x hx).2; omega⟩
 ·exact ⟨(h3 x hx).1.below hb, (h3 x hx).2⟩
omit H in
theorem two_new (V : World) (t : TypeId) (x y : List Value) : Row ((V.alloc (.cells x.toArray t)).alloc (.cells y.toArray t)).drew V.heap.size t x ∧ Row ((V.alloc (.cells x.toArray t)).alloc (.cells y.toArray t)).drew (V.heap.size + 1) t y :=
 ⟨(Row.new V t x).below (below1 _ _).drew, Row.new_at (V.alloc (.cells x.toArray t)) t y (by simp)⟩
set_option maxRecDepth 100000 in
set_option maxHeartbeats 4000000 in
theorem holds_any (sa ca ia sb cb ib s0 z0 s1 z1 gs gp gz gf : Int) (n0 n1 : Nat) (hn0 : n0 < 4294967296) (hn1 : n1 < 4294967296) (w : World) (ht : T w) :
  Calls Tryz.prog 7 #[.agg #[.int .i64 sa, .int .i64 ca, .int .i64 ia, .int .i64 sb, .int .i64 cb, .int .i64 ib], .agg #[.int .i64 s0, .int .i64 z0, .int .u32 (n0 : Int), .int .i64 s1, .int .i64 z1, .int .u32 (n1 : Int)], gtV gs gp gz gf] w fun e w' => e = .returned (.bool true) ∧ Below w.heap.size w w' := by
 have HT := Lib.hid (fun W (hb : Below w.heap.size w W) => H.tb ht hb)
 have hW := Lib.hid (fun W (hb : Below w.heap.size w W) => works_any H W (HT.out W hb))
 obtain ⟨w1, hw1⟩ : ∃ w1, w1 = ((w.alloc (.cells #[.int .i64 sa, .int .i64 ca, .int .i64 ia, .int .i64 sb, .int .i64 cb, .int .i64 ib] 73)).alloc (.cells #[.int .i64 s0, .int .i64 z0, .int .u32 (n0 : Int), .int .i64 s1, .int .i64 z1, .int .u32 (n1 : Int)] 74)).alloc (.cells #[.int .i64 gs, .int .i64 gp, .int .i64 gz, .int .i64 gf] 43) := ⟨_, rfl⟩
 have hx0 : Row w1 w.heap.size 73 [.int .i64 sa, .int .i64 ca, .int .i64 ia, .int .i64 sb, .int .i64 cb, .int .i64 ib] := by rw [hw1]; exact ((Row.new w _ [.int .i64 sa, .int .i64 ca, .int .i64 ia, .int .i64 sb, .int .i64 cb, .int .i64 ib]).below (below1 _ _)).below (below1 _ _)
 have hx1 : Row w1 (w.heap.size + 1) 74 [.int .i64 s0, .int .i64 z0, .int .u32 (n0 : Int), .int .i64 s1, .int .i64 z1, .int .u32 (n1 : Int)] := by rw [hw1]; exact (Row.new_at _ 74 [.int .i64 s0, .int .i64 z0, .int .u32 (n0 : Int), .int .i64 s1, .int .i64 z1, .int .u32 (n1 : Int)] (by simp)).below (below1 _ _)
 have hx2 : Row w1 (w.heap.size + 2) 43 [.int .i64 gs, .int .i64 gp, .int .i64 gz, .int .i64 gf] := by rw [hw1]; exact Row.new_at _ _ _ (by simp)
 have hb : Below w.heap.size w w1 := by rw [hw1]; exact below3 _ _ _ _
 have hs1 : w1.heap.size = w.heap.size + 3 := by rw [hw1]; simp
 have hM := Lib.hid (H.mem w1 (HT.out w1 hb))
 go_enter Tryz.func7, Tryz.ntmps7
 go_wp2_with fail
 rw [← hw1]
 clear hw1
 go_wp2_with fail
 refine hM.out.mono ?_
 rintro e w2 ⟨v, F, rfl, hH, hF, hb'⟩
 obtain ⟨ad, rfl⟩ := H.ptr hH
 have hS : St Has w (.pointer (some ad)) (fun _ => none) 100 [(w.heap.size, 73, [.int .i64 sa, .int .i64 ca, .int .i64 ia, .int .i64 sb, .int .i64 cb, .int .i64 ib]), (w.heap.size + 1, 74, [.int .i64 s0, .int .i64 z0, .int .u32 (n0 : Int), .int .i64 s1, .int .i64 z1, .int .u32 (n1 : Int)]), (w.heap.size + 2, 43, [.int .i64 gs, .int .i64 gp, .int .i64 gz, .int .i64 gf])] w2 := by
  refine ⟨⟨F, hH, fun k hk => by have := hF k hk; omega, fun x hx => ?_⟩, hb.trans (hb'.mono hb.size)⟩
  rcases List.mem_cons.1 hx with rfl | hx
  ·exact ⟨hx0.below hb', fun hf => by have := hF _ hf; simp only at this; omega⟩
  ·rcases List.mem_cons.1 hx with rfl | hx
   ·exact ⟨hx1.below hb', fun hf => by have := hF _ hf; simp only at this; omega⟩
   ·obtain rfl := List.mem_singleton.1 hx
    exact ⟨hx2.below hb', fun hf => by have := hF _ hf; simp only at this; omega⟩
 have hl0 := (hx0.below hb').lt
 clear hH hF hb' hx0 hx1 hx2 hb hM hs1
 have HS := Lib.hid hS
 have HSA : Hid (∀ W, Below w2.heap.size w2 W → W.cell? ⟨w.heap.size, 0, none⟩ = some (.int .i64 sa) ∧ W.cell? ⟨w.heap.size, 1, none⟩ = some (.int .i64 ca) ∧ W.cell? ⟨w.heap.size, 2, none⟩ = some (.int .i64 ia) ∧ W.cell? ⟨w.heap.size, 3, none⟩ = some (.int .i64 sb) ∧ W.cell? ⟨w.heap.size, 4, none⟩ = some (.int .i64 cb) ∧ W.cell? ⟨w.heap.size, 5, none⟩ = some (.int .i64 ib)) := Lib.hid (fun W hW => by
  have h := (hS.row 0 _ rfl).below hW
  exact ⟨h.cell 0, h.cell 1, h.cell 2, h.cell 3, h.cell 4, h.cell 5⟩)
 clear hS
 go_wp2_with fail
 refine (fun (HREST : ∀ ga gb V, St Has w (.pointer (some ad)) (fun _ => none) 100 [(ga, 37, [.int .i64 sa, .int .i64 ca, .int .i64 ia]), (gb, 37, [.int .i64 sb, .int .i64 cb, .int .i64 ib]), (w.heap.size, 73, [.int .i64 sa, .int .i64 ca, .int .i64 ia, .int .i64 sb, .int .i64 cb, .int .i64 ib]), (w.heap.size + 1, 74, [.int .i64 s0, .int .i64 z0, .int .u32 (n0 : Int), .int .i64 s1, .int .i64 z1, .int .u32 (n1 : Int)]), (w.heap.size + 2, 43, [.int .i64 gs, .int .i64 gp, .int .i64 gz, .int .i64 gf])] V → (?G : Nat → Nat → World → Prop) ga gb V) => ?main) ?rest
 case main =>
  refine wp_region_noPanic ?_
  refine wp_region_held_drew (S := fun W => W.cell? ⟨w.heap.size, 0, none⟩ = some (.int .i64 sa) ∧ W.cell? ⟨w.heap.size, 1, none⟩ = some (.int .i64 ca) ∧ W.cell? ⟨w.heap.size, 2, none⟩ = some (.int .i64 ia) ∧ W.cell? ⟨w.heap.size, 3, none⟩ = some (.int .i64 sb) ∧ W.cell? ⟨w.heap.size, 4, none⟩ = some (.int .i64 cb) ∧ W.cell? ⟨w.heap.size, 5, none⟩ = some (.int .i64 ib)) (by kernel_rfl) (HSA.out _ (Below.refl _ _).drew) (fun hHeld => ?_)
  refine wpAnyH_take (i := 0) (v := ?_) rfl (by kernel_rfl) (by kernel_rfl) (by kernel_rfl) (fun _ _ _ h => h) (Or.inl ⟨by kernel_rfl, ?_⟩) hHeld ?_
  rotate_left
  focus (intro w hSw; (try dsimp only at hSw); go_simp; try with_reducible rfl)
  simp only [Act.put]
  refine wpAnyH_take (i := 1) (v := ?_) rfl (by kernel_rfl) (by kernel_rfl) (by kernel_rfl) (fun _ _ _ h => h) (Or.inl ⟨by kernel_rfl, ?_⟩) hHeld ?_
  rotate_left
  focus (intro w hSw; (try dsimp only at hSw); go_simp; try with_reducible rfl)
  simp only [Act.put]
  refine wpAnyH_take (i := 2) (v := ?_) rfl (by kernel_rfl) (by kernel_rfl) (by kernel_rfl) (fun _ _ _ h => h) (Or.inl ⟨by kernel_rfl, ?_⟩) hHeld ?_
  rotate_left
  focus (intro w hSw; (try dsimp only at hSw); go_simp; try with_reducible rfl)
  simp only [Act.put]
  refine wpAnyH_take (i := 3) (v := ?_) rfl (by kernel_rfl) (by kernel_rfl) (by kernel_rfl) (fun _ _ _ h => h) (Or.inl ⟨by kernel_rfl, ?_⟩) hHeld ?_
  rotate_left
  focus (intro w hSw; (try dsimp only at hSw); go_simp; try with_reducible rfl)
  simp only [Act.put]
  refine wpAnyH_ready (rs := [4, 5]) (by kernel_rfl) (by simp) ?_
  refine AllReadyH.cons rfl (fun K hK => ?_) (AllReadyH.cons rfl (fun K hK => ?_) (AllReadyH.nil))
  ·go_simp
   refine hK.out _ _ (HSA.out _ (below1 w2 _).drew) (fun hHeld => ?_)
   clear hK K
   try simp only [Act.put]
   refine wpAnyH_ready (rs := [5]) (by kernel_rfl) (by simp) ?_
   refine AllReadyH.cons rfl (fun K hK => ?_) (AllReadyH.nil)
   go_simp
   refine hK.out _ _ (HSA.out _ (below2 w2 _ _).drew) (fun hHeld => ?_)
   clear hK K
   try simp only [Act.put]
   obtain ⟨hr1, hr2⟩ := two_new w2 37 [.int .i64 sa, .int .i64 ca, .int .i64 ia] [.int .i64 sb, .int .i64 cb, .int .i64 ib]
   have hfin := Lib.hid (St.more H HS.out (below2 w2 (.cells #[.int .i64 sa, .int .i64 ca, .int .i64 ia] 37) (.cells #[.int .i64 sb, .int .i64 cb, .int .i64 ib] 37)).drew (L' := [(w2.heap.size, 37, [.int .i64 sa, .int .i64 ca, .int .i64 ia]), (w2.heap.size + 1, 37, [.int .i64 sb, .int .i64 cb, .int .i64 ib])]) (fun x hx => by
    rcases List.mem_cons.1 hx with rfl | hx
    ·exact ⟨hr1, by simp only; omega⟩
    ·obtain rfl := List.mem_singleton.1 hx
     exact ⟨hr2, by simp only; omega⟩))
   clear hr1 hr2
   refine wpAnyH_ready (rs := [6]) (by kernel_rfl) (by simp) ?_
   refine AllReadyH.cons rfl (fun K hK => ?_) (AllReadyH.nil)
   go_simp
   refine hK.out _ _ (HSA.out _ (below2 w2 _ _).drew) (fun hHeld => ?_)
   clear hK K
   try simp only [Act.put]
   refine wpAnyH_ready (rs := [7]) (by kernel_rfl) (by simp) ?_
   refine AllReadyH.cons rfl (fun K hK => ?_) (AllReadyH.nil)
   go_simp
   refine hK.out _ _ (HSA.out _ (below2 w2 _ _).drew) (fun hHeld => ?_)
   clear hK K
   try simp only [Act.put]
   refine wpAnyH_done (by kernel_rfl) (NoPanic.normal ?_) _
   have hfin := hfin.out
   clear hHeld
   generalize hWW : ((w2.alloc (.cells #[.int .i64 sa, .int .i64 ca, .int .i64 ia] 37)).alloc (.cells #[.int .i64 sb, .int .i64 cb, .int .i64 ib] 37)).drew = WW at hfin ⊢
   generalize hgb : w2.heap.size + 1 = g1 at hfin ⊢
   generalize hgc : w2.heap.size = g0 at hfin ⊢
   exact HREST g0 g1 WW hfin
  ·go_simp
   refine hK.out _ _ (HSA.out _ (below1 w2 _).drew) (fun hHeld => ?_)
   clear hK K
   try simp only [Act.put]
   refine wpAnyH_ready (rs := [4]) (by kernel_rfl) (by simp) ?_
   refine AllReadyH.cons rfl (fun K hK => ?_) (AllReadyH.nil)
   go_simp
   refine hK.out _ _ (HSA.out _ (below2 w2 _ _).drew) (fun hHeld => ?_)
   clear hK K
   try simp only [Act.put]
   obtain ⟨hr1, hr2⟩ := two_new w2 37 [.int .i64 sb, .int .i64 cb, .int .i64 ib] [.int .i64 sa, .int .i64 ca, .int .i64 ia]
   have hfin := Lib.hid (St.more H HS.out (below2 w2 (.cells #[.int .i64 sb, .int .i64 cb, .int .i64 ib] 37) (.cells #[.int .i64 sa, .int .i64 ca, .int .i64 ia] 37)).drew (L' := [(w2.heap.size + 1, 37, [.int .i64 sa, .int .i64 ca, .int .i64 ia]), (w2.heap.size, 37, [.int .i64 sb, .int .i64 cb, .int .i64 ib])]) (fun x hx => by
    rcases List.mem_cons.1 hx with rfl | hx
    ·exact ⟨hr2, by simp only; omega⟩
    ·obtain rfl := List.mem_singleton.1 hx
     exact ⟨hr1, by simp only; omega⟩))
   clear hr1 hr2
   refine wpAnyH_ready (rs := [6]) (by kernel_rfl) (by simp) ?_
   refine AllReadyH.cons rfl (fun K hK => ?_) (AllReadyH.nil)
   go_simp
   refine hK.out _ _ (HSA.out _ (below2 w2 _ _).drew) (fun hHeld => ?_)
   clear hK K
   try simp only [Act.put]
   refine wpAnyH_ready (rs := [7]) (by kernel_rfl) (by simp) ?_
   refine AllReadyH.cons rfl (fun K hK => ?_) (AllReadyH.nil)
   go_simp
   refine hK.out _ _ (HSA.out _ (below2 w2 _ _).drew) (fun hHeld => ?_)
   clear hK K
   try simp only [Act.put]
   refine wpAnyH_done (by kernel_rfl) (NoPanic.normal ?_) _
   have hfin := hfin.out
   clear hHeld
   generalize hWW : ((w2.alloc (.cells #[.int .i64 sb, .int .i64 cb, .int .i64 ib] 37)).alloc (.cells #[.int .i64 sa, .int .i64 ca, .int .i64 ia] 37)).drew = WW at hfin ⊢
   generalize hgb : w2.heap.size + 1 = g1 at hfin ⊢
   generalize hgc : w2.heap.size = g0 at hfin ⊢
   exact HREST g1 g0 WW hfin
 case rest =>
  intro ga gb V hS
  have hra : Row V ga 37 [.int .i64 sa, .int .i64 ca, .int .i64 ia] := hS.row 0 _ rfl
  have hrb : Row V gb 37 [.int .i64 sb, .int .i64 cb, .int .i64 ib] := hS.row 1 _ rfl
  have a0 : V.cell? ⟨ga, 0, none⟩ = some (.int .i64 sa) := hra.cell 0
  have b0 : V.cell? ⟨gb, 0, none⟩ = some (.int .i64 sb) := hrb.cell 0
  clear HS HSA hra hrb
  by_cases c1 : sa = sb
  ·have d1 : (sa == sb) = true := beq_iff_eq.2 c1
   go_wp2_with fail
   refine (hW.out _ hS.low).mono ?_
   rintro e w9 ⟨rfl, hb'⟩
   have hb := hS.low.trans (hb'.mono hS.low.size)
   clear hb'
   go_wp2_with fail
   go_ret
   exact ⟨rfl, hb⟩
  ·have d1 : (sa == sb) = false := beq_eq_false_iff_ne.2 c1
   by_cases c2 : sa < 0
   ·have d2 : decide (sa < 0) = true := decide_eq_true c2
    go_wp2_with fail
    refine (hW.out _ hS.low).mono ?_
    rintro e w9 ⟨rfl, hb'⟩
    have hb := hS.low.trans (hb'.mono hS.low.size)
    clear hb'
    go_wp2_with fail
    go_ret
    exact ⟨rfl, hb⟩
   ·have d2 : decide (sa < 0) = false := decide_eq_false c2
    by_cases c3 : 3 < sa
    ·have d3 : decide (3 < sa) = true := decide_eq_true c3
     go_wp2_with fail
     refine (hW.out _ hS.low).mono ?_
     rintro e w9 ⟨rfl, hb'⟩
     have hb := hS.low.trans (hb'.mono hS.low.size)
     clear hb'
     go_wp2_with fail
     go_ret
     exact ⟨rfl, hb⟩
    ·have d3 : decide (3 < sa) = false := decide_eq_false c3
     by_cases c4 : sb < 0
     ·have d4 : decide (sb < 0) = true := decide_eq_true c4
      go_wp2_with fail
      refine (hW.out _ hS.low).mono ?_
      rintro e w9 ⟨rfl, hb'⟩
      have hb := hS.low.trans (hb'.mono hS.low.size)
      clear hb'
      go_wp2_with fail
      go_ret
      exact ⟨rfl, hb⟩
     ·have d4 : decide (sb < 0) = false := decide_eq_false c4
      by_cases c5 : 3 < sb
      ·have d5 : decide (3 < sb) = true := decide_eq_true c5
       go_wp2_with fail
       refine (hW.out _ hS.low).mono ?_
       rintro e w9 ⟨rfl, hb'⟩
       have hb := hS.low.trans (hb'.mono hS.low.size)
       clear hb'
       go_wp2_with fail
       go_ret
       exact ⟨rfl, hb⟩
      ·have d5 : decide (3 < sb) = false := decide_eq_false c5
       obtain ⟨a, rfl⟩ : ∃ k : Nat, sa = (k : Int) := ⟨sa.toNat, by omega⟩
       obtain ⟨b, rfl⟩ : ∃ k : Nat, sb = (k : Int) := ⟨sb.toNat, by omega⟩
       have ha : a < 4 := by omega
       have hbb : b < 4 := by omega
       have hab : a ≠ b := by omega
       have d3n : ¬ 3 < a := by omega
       have d5n : ¬ 3 < b := by omega
       have d1n : ¬ a = b := hab
       clear c1 c2 c3 c4 c5
       have HO := Lib.hid (St.open_ H hS ht ha rfl (by omega))
       clear hS
       go_wp2_with fail
       refine HO.out.mono ?_
       rintro e V1 ⟨rfl, hS⟩
       clear HO
       go_wp2_with fail
       refine (num_any _ _).mono ?_
       rintro e wx ⟨rfl, rfl⟩
       clear a0 b0
       have b0 : V1.cell? ⟨gb, 0, none⟩ = some (.int .i64 (b : Int)) := (hS.row 1 _ rfl).cell 0
       have HO := Lib.hid (St.open_ H hS ht hbb (upd_other _ _ _ _ hab.symm) (by omega))
       clear hS
       go_wp2_with fail
       refine HO.out.mono ?_
       rintro e V2 ⟨rfl, hS⟩
       clear HO
       go_wp2_with fail
       refine (num_any _ _).mono ?_
       rintro e wx ⟨rfl, rfl⟩
       clear b0
       have HB2 : Hid ((upd (upd (fun _ => none) a (some zeroB)) b (some zeroB)) a = some zeroB) := Lib.hid ((upd_other _ _ _ _ hab).trans (upd_same _ _ _))
       have HB2b : Hid ((upd (upd (fun _ => none) a (some zeroB)) b (some zeroB)) b = some zeroB) := Lib.hid (upd_same _ _ _)
       obtain ⟨B2, hB2⟩ : ∃ B : Bks, B = upd (upd (fun _ => none) a (some zeroB)) b (some zeroB) := ⟨_, rfl⟩
       rw [← hB2] at hS HB2 HB2b
       clear hB2
       have a0 : V2.cell? ⟨ga, 0, none⟩ = some (.int .i64 (a : Int)) := (hS.row 0 _ rfl).cell 0
       have a1 : V2.cell? ⟨ga, 1, none⟩ = some (.int .i64 ca) := (hS.row 0 _ rfl).cell 1
       have a2 : V2.cell? ⟨ga, 2, none⟩ = some (.int .i64 ia) := (hS.row 0 _ rfl).cell 2
       have r0 : V2.cell? ⟨w.heap.size + 1, 0, none⟩ = some (.int .i64 s0) := (hS.row 3 _ rfl).cell 0
       have r1 : V2.cell? ⟨w.heap.size + 1, 1, none⟩ = some (.int .i64 z0) := (hS.row 3 _ rfl).cell 1
       have r2 : V2.cell? ⟨w.heap.size + 1, 2, none⟩ = some (.int .u32 (n0 : Int)) := (hS.row 3 _ rfl).cell 2
       rcases St.put H hS ht HB2.out ca ia s0 z0 n0 hn0 with ⟨ka, ja, ta, ya, rfl, rfl, rfl, rfl, hka, hja, hta, hya, hP⟩ | ⟨E, hE, hP⟩
       rotate_left
       ·have hP := Lib.hid hP
        have e0 : (E == 0) = false := beq_eq_false_iff_ne.2 hE
        clear hS
        go_wp2_with fail
        refine hP.out.mono ?_
        rintro e V3 ⟨rfl, hS⟩
        go_wp2_with fail
        refine (num_any _ _).mono ?_
        rintro e wx ⟨rfl, rfl⟩
        go_wp2_with fail
        refine (hW.out _ hS.low).mono ?_
        rintro e w9 ⟨rfl, hb'⟩
        have hb := hS.low.trans (hb'.mono hS.low.size)
        clear hb'
        go_wp2_with fail
        go_ret
        exact ⟨rfl, hb⟩
       have hP := Lib.hid hP
       clear hS
       go_wp2_with fail
       refine hP.out.mono ?_
       rintro e V3 ⟨rfl, hS⟩
       clear a0 a1 a2 r0 r1 r2 hP
       go_wp2_with fail
       refine (num_any _ _).mono ?_
       rintro e wx ⟨rfl, rfl⟩
       have b0 : V3.cell? ⟨gb, 0, none⟩ = some (.int .i64 (b : Int)) := (hS.row 1 _ rfl).cell 0
       have b1 : V3.cell? ⟨gb, 1, none⟩ = some (.int .i64 cb) := (hS.row 1 _ rfl).cell 1
       have b2 : V3.cell? ⟨gb, 2, none⟩ = some (.int .i64 ib) := (hS.row 1 _ rfl).cell 2
       have r0 : V3.cell? ⟨w.heap.size + 1, 3, none⟩ = some (.int .i64 s1) := (hS.row 3 _ rfl).cell 3
       have r1 : V3.cell? ⟨w.heap.size + 1, 4, none⟩ = some (.int .i64 z1) := (hS.row 3 _ rfl).cell 4
       have r2 : V3.cell? ⟨w.heap.size + 1, 5, none⟩ = some (.int .u32 (n1 : Int)) := (hS.row 3 _ rfl).cell 5
       rcases St.put H hS ht ((upd_other _ _ _ _ hab.symm).trans HB2b.out) cb ib s1 z1 n1 hn1 with ⟨kb, jb, tb, yb, rfl, rfl, rfl, rfl, hkb, hjb, htb, hyb, hP⟩ | ⟨E, hE, hP⟩
       rotate_left
       ·have hP := Lib.hid hP
        have e0 : (E == 0) = false := beq_eq_false_iff_ne.2 hE
        clear hS
        go_wp2_with fail
        refine hP.out.mono ?_
        rintro e V4 ⟨rfl, hS⟩
        go_wp2_with fail
        refine (num_any _ _).mono ?_
        rintro e wx ⟨rfl, rfl⟩
        go_wp2_with fail
        refine (hW.out _ hS.low).mono ?_
        rintro e w9 ⟨rfl, hb'⟩
        have hb := hS.low.trans (hb'.mono hS.low.size)
        clear hb'
        go_wp2_with fail
        go_ret
        exact ⟨rfl, hb⟩
       have hP := Lib.hid hP
       clear hS
       go_wp2_with fail
       refine hP.out.mono ?_
       rintro e V4 ⟨rfl, hS⟩
       clear b0 b1 b2 r0 r1 r2 hP
       go_wp2_with fail
       refine (num_any _ _).mono ?_
       rintro e wx ⟨rfl, rfl⟩
       obtain ⟨fa, hfa⟩ : ∃ f : Byts, f = putB zeroB (recO ka ja) (recB ta ya n0) := ⟨_, rfl⟩
       obtain ⟨fb, hfb⟩ : ∃ f : Byts, f = putB zeroB (recO kb jb) (recB tb yb n1) := ⟨_, rfl⟩
       rw [← hfa, ← hfb] at hS
       have hga : greatAt fa (greatO 383) = some (0, 0, 0, 0) := by rw [hfa, great_out _ _ _ _ (.inr (by have := rec_lt hka hja; rw [recB_len]; unfold greatO; omega)), great_zero]
       have hraA : recAt fa (recO ka ja) = some (ta, ya, n0) := by rw [hfa]; exact rec_back _ _ _ _ _ hta hya hn0
       have hrbB : recAt fb (recO kb jb) = some (tb, yb, n1) := by rw [hfb]; exact rec_back _ _ _ _ _ htb hyb hn1
       have HBa : Hid ((upd (upd B2 a (some fa)) b (some fb)) a = some fa) := Lib.hid ((upd_other _ _ _ _ hab).trans (upd_same _ _ _))
       have HBb : Hid ((upd (upd B2 a (some fa)) b (some fb)) b = some fb) := Lib.hid (upd_same _ _ _)
       obtain ⟨B4, hB4⟩ : ∃ B : Bks, B = upd (upd B2 a (some fa)) b (some fb) := ⟨_, rfl⟩
       rw [← hB4] at hS HBa HBb
       clear hB4 hfa hfb HB2 HB2b
       have a0 : V4.cell? ⟨ga, 0, none⟩ = some (.int .i64 (a : Int)) := (hS.row 0 _ rfl).cell 0
       have HG := Lib.hid (St.gget H hS ht ha (by omega) HBa.out hga)
       clear hS
       go_wp2_with fail
       refine HG.out.mono ?_
       rintro e V5 ⟨rfl, hS⟩
       have hS := St.alloc H hS 43 [.int .i64 0, .int .i64 0, .int .i64 0, .int .i64 0]
       clear HG a0
       have p0 : (V5.alloc (.cells #[.int .i64 0, .int .i64 0, .int .i64 0, .int .i64 0] 43)).cell? ⟨ga, 0, none⟩ = some (.int .i64 (a : Int)) := (hS.row 1 _ rfl).cell 0
       have p1 : (V5.alloc (.cells #[.int .i64 0, .int .i64 0, .int .i64 0, .int .i64 0] 43)).cell? ⟨gb, 1, none⟩ = some (.int .i64 (kb : Int)) := (hS.row 2 _ rfl).cell 1
       have p2 : (V5.alloc (.cells #[.int .i64 0, .int .i64 0, .int .i64 0, .int .i64 0] 43)).cell? ⟨gb, 2, none⟩ = some (.int .i64 (jb : Int)) := (hS.row 2 _ rfl).cell 2
       have hS := St.alloc H hS 37 [.int .i64 (a : Int), .int .i64 (kb : Int), .int .i64 (jb : Int)]
       rw [World.size_alloc] at hS
       have q0 : ((V5.alloc (.cells #[.int .i64 0, .int .i64 0, .int .i64 0, .int .i64 0] 43)).alloc (.cells #[.int .i64 (a : Int), .int .i64 (kb : Int), .int .i64 (jb : Int)] 37)).cell? ⟨ga, 0, none⟩ = some (.int .i64 (a : Int)) := (hS.row 2 _ rfl).cell 0
       have q1 : ((V5.alloc (.cells #[.int .i64 0, .int .i64 0, .int .i64 0, .int .i64 0] 43)).alloc (.cells #[.int .i64 (a : Int), .int .i64 (kb : Int), .int .i64 (jb : Int)] 37)).cell? ⟨ga, 1, none⟩ = some (.int .i64 (ka : Int)) := (hS.row 2 _ rfl).cell 1
       have q2 : ((V5.alloc (.cells #[.int .i64 0, .int .i64 0, .int .i64 0, .int .i64 0] 43)).alloc (.cells #[.int .i64 (a : Int), .int .i64 (kb : Int), .int .i64 (jb : Int)] 37)).cell? ⟨ga, 2, none⟩ = some (.int .i64 (ja : Int)) := (hS.row 2 _ rfl).cell 2
       have bb0 : ((V5.alloc (.cells #[.int .i64 0, .int .i64 0, .int .i64 0, .int .i64 0] 43)).alloc (.cells #[.int .i64 (a : Int), .int .i64 (kb : Int), .int .i64 (jb : Int)] 37)).cell? ⟨gb, 0, none⟩ = some (.int .i64 (b : Int)) := (hS.row 3 _ rfl).cell 0
       by_cases hsame : kb = ka ∧ jb = ja
       ·obtain ⟨rfl, rfl⟩ := hsame
        have hAr := hraA
        have hAg := hga
        have HA5 := HBa
        have HB5 := HBb
        obtain ⟨B5, hB5⟩ : ∃ B : Bks, B = B4 := ⟨_, rfl⟩
        rw [← hB5] at hS HA5 HB5
        obtain ⟨f2, hf2⟩ : ∃ f : Byts, f = fa := ⟨_, rfl⟩
        rw [← hf2] at HA5 hAr hAg
        clear hB5 hf2
        go_wp2_with fail
        have hP := Lib.hid (hS.call (fun _ hF => H.gputYes b 0 0 0 0 0 (hS.t H ht) hF hbb (by omega) (by decide) HB5.out))
        clear hS
        refine hP.out.mono ?_
        rintro e V7 ⟨rfl, hS⟩
        clear hP
        have hrB : recAt (putB fb (greatO 0) (greatB 0 0 0 0)) (recO kb jb) = some (tb, yb, n1) := by rw [rec_out _ _ _ _ (.inl (by have := rec_lt hkb hjb; unfold greatO; omega))]; exact hrbB
        have HA6 : Hid ((upd B5 b (some (putB fb (greatO 0) (greatB 0 0 0 0)))) a = some f2) := Lib.hid ((upd_other _ _ _ _ hab).trans HA5.out)
        have HB6 : Hid ((upd B5 b (some (putB fb (greatO 0) (greatB 0 0 0 0)))) b = some (putB fb (greatO 0) (greatB 0 0 0 0))) := Lib.hid (upd_same _ _ _)
        obtain ⟨B6, hB6⟩ : ∃ B : Bks, B = upd B5 b (some (putB fb (greatO 0) (greatB 0 0 0 0))) := ⟨_, rfl⟩
        rw [← hB6] at hS HA6 HB6
        clear hB6
        go_wp2_with fail
        refine (num_any _ _).mono ?_
        rintro e wx ⟨rfl, rfl⟩
        have x0 : V7.cell? ⟨ga, 0, none⟩ = some (.int .i64 (a : Int)) := (hS.row 2 _ rfl).cell 0
        have x1 : V7.cell? ⟨ga, 1, none⟩ = some (.int .i64 (kb : Int)) := (hS.row 2 _ rfl).cell 1
        have x2 : V7.cell? ⟨ga, 2, none⟩ = some (.int .i64 (jb : Int)) := (hS.row 2 _ rfl).cell 2
        have hP := Lib.hid (St.get H hS ht ⟨ha, hkb, hjb⟩ HA6.out hAr)
        clear hS
        go_wp2_with fail
        refine hP.out.mono ?_
        rintro e V8 ⟨rfl, hS⟩
        clear hP x0 x1 x2
        have hS := St.alloc H hS 41 [.int .i64 (ta : Int), .int .i64 (ya : Int), .int .u32 (n0 : Int)]
        have x0 : (V8.alloc (.cells #[.int .i64 (ta : Int), .int .i64 (ya : Int), .int .u32 (n0 : Int)] 41)).cell? ⟨gb, 0, none⟩ = some (.int .i64 (b : Int)) := (hS.row 4 _ rfl).cell 0
        have x1 : (V8.alloc (.cells #[.int .i64 (ta : Int), .int .i64 (ya : Int), .int .u32 (n0 : Int)] 41)).cell? ⟨gb, 1, none⟩ = some (.int .i64 (kb : Int)) := (hS.row 4 _ rfl).cell 1
        have x2 : (V8.alloc (.cells #[.int .i64 (ta : Int), .int .i64 (ya : Int), .int .u32 (n0 : Int)] 41)).cell? ⟨gb, 2, none⟩ = some (.int .i64 (jb : Int)) := (hS.row 4 _ rfl).cell 2
        have hP := Lib.hid (St.get H hS ht ⟨hbb, hkb, hjb⟩ HB6.out hrB)
        clear hS
        go_wp2_with fail
        refine hP.out.mono ?_
        rintro e V9 ⟨rfl, hS⟩
        clear hP x0 x1 x2
        have hS := St.alloc H hS 41 [.int .i64 (tb : Int), .int .i64 (yb : Int), .int .u32 (n1 : Int)]
        have x0 : (V9.alloc (.cells #[.int .i64 (tb : Int), .int .i64 (yb : Int), .int .u32 (n1 : Int)] 41)).cell? ⟨ga, 0, none⟩ = some (.int .i64 (a : Int)) := (hS.row 4 _ rfl).cell 0
        have hP := Lib.hid (St.gget H hS ht ha (by omega) HA6.out hAg)
        clear hS
        go_wp2_with fail
        refine hP.out.mono ?_
        rintro e VA ⟨rfl, hS⟩
        clear hP x0
        have hS := St.alloc H hS 43 [.int .i64 0, .int .i64 0, .int .i64 0, .int .i64 0]
        have x0 : (VA.alloc (.cells #[.int .i64 0, .int .i64 0, .int .i64 0, .int .i64 0] 43)).cell? ⟨V8.heap.size, 0, none⟩ = some (.int .i64 (ta : Int)) := (hS.row 2 _ rfl).cell 0
        have x1 : (VA.alloc (.cells #[.int .i64 0, .int .i64 0, .int .i64 0, .int .i64 0] 43)).cell? ⟨V8.heap.size, 1, none⟩ = some (.int .i64 (ya : Int)) := (hS.row 2 _ rfl).cell 1
        have x2 : (VA.alloc (.cells #[.int .i64 0, .int .i64 0, .int .i64 0, .int .i64 0] 43)).cell? ⟨V8.heap.size, 2, none⟩ = some (.int .u32 (n0 : Int)) := (hS.row 2 _ rfl).cell 2
        have y0 : (VA.alloc (.cells #[.int .i64 0, .int .i64 0, .int .i64 0, .int .i64 0] 43)).cell? ⟨V9.heap.size, 0, none⟩ = some (.int .i64 (tb : Int)) := (hS.row 1 _ rfl).cell 0
        have y1 : (VA.alloc (.cells #[.int .i64 0, .int .i64 0, .int .i64 0, .int .i64 0] 43)).cell? ⟨V9.heap.size, 1, none⟩ = some (.int .i64 (yb : Int)) := (hS.row 1 _ rfl).cell 1
        have y2 : (VA.alloc (.cells #[.int .i64 0, .int .i64 0, .int .i64 0, .int .i64 0] 43)).cell? ⟨V9.heap.size, 2, none⟩ = some (.int .u32 (n1 : Int)) := (hS.row 1 _ rfl).cell 2
        have z0 : (VA.alloc (.cells #[.int .i64 0, .int .i64 0, .int .i64 0, .int .i64 0] 43)).cell? ⟨w.heap.size + 1, 0, none⟩ = some (.int .i64 (ta : Int)) := (hS.row 8 _ rfl).cell 0
        have z1 : (VA.alloc (.cells #[.int .i64 0, .int .i64 0, .int .i64 0, .int .i64 0] 43)).cell? ⟨w.heap.size + 1, 1, none⟩ = some (.int .i64 (ya : Int)) := (hS.row 8 _ rfl).cell 1
        have z2 : (VA.alloc (.cells #[.int .i64 0, .int .i64 0, .int .i64 0, .int .i64 0] 43)).cell? ⟨w.heap.size + 1, 2, none⟩ = some (.int .u32 (n0 : Int)) := (hS.row 8 _ rfl).cell 2
        have z3 : (VA.alloc (.cells #[.int .i64 0, .int .i64 0, .int .i64 0, .int .i64 0] 43)).cell? ⟨w.heap.size + 1, 3, none⟩ = some (.int .i64 (tb : Int)) := (hS.row 8 _ rfl).cell 3
        have z4 : (VA.alloc (.cells #[.int .i64 0, .int .i64 0, .int .i64 0, .int .i64 0] 43)).cell? ⟨w.heap.size + 1, 4, none⟩ = some (.int .i64 (yb : Int)) := (hS.row 8 _ rfl).cell 4
        have z5 : (VA.alloc (.cells #[.int .i64 0, .int .i64 0, .int .i64 0, .int .i64 0] 43)).cell? ⟨w.heap.size + 1, 5, none⟩ = some (.int .u32 (n1 : Int)) := (hS.row 8 _ rfl).cell 5
        have s0 : (VA.alloc (.cells #[.int .i64 0, .int .i64 0, .int .i64 0, .int .i64 0] 43)).cell? ⟨V5.heap.size, 0, none⟩ = some (.int .i64 0) := (hS.row 4 _ rfl).cell 0
        have s1 : (VA.alloc (.cells #[.int .i64 0, .int .i64 0, .int .i64 0, .int .i64 0] 43)).cell? ⟨V5.heap.size, 1, none⟩ = some (.int .i64 0) := (hS.row 4 _ rfl).cell 1
        have s2 : (VA.alloc (.cells #[.int .i64 0, .int .i64 0, .int .i64 0, .int .i64 0] 43)).cell? ⟨V5.heap.size, 2, none⟩ = some (.int .i64 0) := (hS.row 4 _ rfl).cell 2
        have s3 : (VA.alloc (.cells #[.int .i64 0, .int .i64 0, .int .i64 0, .int .i64 0] 43)).cell? ⟨V5.heap.size, 3, none⟩ = some (.int .i64 0) := (hS.row 4 _ rfl).cell 3
        have u0 : (VA.alloc (.cells #[.int .i64 0, .int .i64 0, .int .i64 0, .int .i64 0] 43)).cell? ⟨VA.heap.size, 0, none⟩ = some (.int .i64 0) := (hS.row 0 _ rfl).cell 0
        have u1 : (VA.alloc (.cells #[.int .i64 0, .int .i64 0, .int .i64 0, .int .i64 0] 43)).cell? ⟨VA.heap.size, 1, none⟩ = some (.int .i64 0) := (hS.row 0 _ rfl).cell 1
        have u2 : (VA.alloc (.cells #[.int .i64 0, .int .i64 0, .int .i64 0, .int .i64 0] 43)).cell? ⟨VA.heap.size, 2, none⟩ = some (.int .i64 0) := (hS.row 0 _ rfl).cell 2
        have u3 : (VA.alloc (.cells #[.int .i64 0, .int .i64 0, .int .i64 0, .int .i64 0] 43)).cell? ⟨VA.heap.size, 3, none⟩ = some (.int .i64 0) := (hS.row 0 _ rfl).cell 3
        have aa0 : (VA.alloc (.cells #[.int .i64 0, .int .i64 0, .int .i64 0, .int .i64 0] 43)).cell? ⟨ga, 0, none⟩ = some (.int .i64 (a : Int)) := (hS.row 5 _ rfl).cell 0
        have gg0 : (VA.alloc (.cells #[.int .i64 0, .int .i64 0, .int .i64 0, .int .i64 0] 43)).cell? ⟨w.heap.size + 2, 0, none⟩ = some (.int .i64 gs) := (hS.row 9 _ rfl).cell 0
        have gg1 : (VA.alloc (.cells #[.int .i64 0, .int .i64 0, .int .i64 0, .int .i64 0] 43)).cell? ⟨w.heap.size + 2, 1, none⟩ = some (.int .i64 gp) := (hS.row 9 _ rfl).cell 1
        have gg2 : (VA.alloc (.cells #[.int .i64 0, .int .i64 0, .int .i64 0, .int .i64 0] 43)).cell? ⟨w.heap.size + 2, 2, none⟩ = some (.int .i64 gz) := (hS.row 9 _ rfl).cell 2
        have gg3 : (VA.alloc (.cells #[.int .i64 0, .int .i64 0, .int .i64 0, .int .i64 0] 43)).cell? ⟨w.heap.size + 2, 3, none⟩ = some (.int .i64 gf) := (hS.row 9 _ rfl).cell 3
        go_wp2_with fail
        refine (num_any _ _).mono ?_
        rintro e wx ⟨rfl, rfl⟩
        go_wp2_with fail
        refine (num_any _ _).mono ?_
        rintro e wx ⟨rfl, rfl⟩
        go_wp2_with fail
        refine (num_any _ _).mono ?_
        rintro e wx ⟨rfl, rfl⟩
        go_wp2_with fail
        refine (num_any _ _).mono ?_
        rintro e wx ⟨rfl, rfl⟩
        rcases St.gput H hS ht ha HA6.out 0 (by omega) gs gp gz gf with ⟨q1, q2, q3, q4, rfl, rfl, rfl, rfl, hq1, hq2, hq3, hq4, hP⟩ | hP
        ·have hP := Lib.hid hP
         clear hS
         go_wp2_with fail
         refine hP.out.mono ?_
         rintro e VB ⟨rfl, hS⟩
         clear hP x0 x1 x2 y0 y1 y2 z0 z1 z2 z3 z4 z5 s0 s1 s2 s3 u0 u1 u2 u3 aa0 gg0 gg1 gg2 gg3
         have hgG : greatAt (putB f2 (greatO 0) (greatB q1 q2 q3 q4)) (greatO 0) = some (q1, q2, q3, q4) := great_back _ _ _ _ _ _ hq1 hq2 hq3 hq4
         have hrG : recAt (putB f2 (greatO 0) (greatB q1 q2 q3 q4)) (recO kb jb) = some (ta, ya, n0) := by rw [rec_out _ _ _ _ (.inl (by have := rec_lt hkb hjb; unfold greatO; omega))]; exact hAr
         have HF : Hid ((upd B6 a (some (putB f2 (greatO 0) (greatB q1 q2 q3 q4)))) a = some (putB f2 (greatO 0) (greatB q1 q2 q3 q4))) := Lib.hid (upd_same _ _ _)
         obtain ⟨BB, hBB⟩ : ∃ B : Bks, B = upd B6 a (some (putB f2 (greatO 0) (greatB q1 q2 q3 q4))) := ⟨_, rfl⟩
         rw [← hBB] at hS HF
         clear hBB
         go_wp2_with fail
         refine (num_any _ _).mono ?_
         rintro e wx ⟨rfl, rfl⟩
         have x0 : VB.cell? ⟨ga, 0, none⟩ = some (.int .i64 (a : Int)) := (hS.row 5 _ rfl).cell 0
         have hP := Lib.hid (St.gget H hS ht ha (by omega) HF.out hgG)
         clear hS
         go_wp2_with fail
         refine hP.out.mono ?_
         rintro e VC ⟨rfl, hS⟩
         clear hP x0
         have hS := St.alloc H hS 43 [.int .i64 (q1 : Int), .int .i64 (q2 : Int), .int .i64 (q3 : Int), .int .i64 (q4 : Int)]
         have x0 : (VC.alloc (.cells #[.int .i64 (q1 : Int), .int .i64 (q2 : Int), .int .i64 (q3 : Int), .int .i64 (q4 : Int)] 43)).cell? ⟨ga, 0, none⟩ = some (.int .i64 (a : Int)) := (hS.row 6 _ rfl).cell 0
         have x1 : (VC.alloc (.cells #[.int .i64 (q1 : Int), .int .i64 (q2 : Int), .int .i64 (q3 : Int), .int .i64 (q4 : Int)] 43)).cell? ⟨ga, 1, none⟩ = some (.int .i64 (kb : Int)) := (hS.row 6 _ rfl).cell 1
         have x2 : (VC.alloc (.cells #[.int .i64 (q1 : Int), .int .i64 (q2 : Int), .int .i64 (q3 : Int), .int .i64 (q4 : Int)] 43)).cell? ⟨ga, 2, none⟩ = some (.int .i64 (jb : Int)) := (hS.row 6 _ rfl).cell 2
         have hP := Lib.hid (St.get H hS ht ⟨ha, hkb, hjb⟩ HF.out hrG)
         clear hS
         go_wp2_with fail
         refine hP.out.mono ?_
         rintro e VD ⟨rfl, hS⟩
         clear hP x0 x1 x2
         have hS := St.alloc H hS 41 [.int .i64 (ta : Int), .int .i64 (ya : Int), .int .u32 (n0 : Int)]
         have x0 : (VD.alloc (.cells #[.int .i64 (ta : Int), .int .i64 (ya : Int), .int .u32 (n0 : Int)] 41)).cell? ⟨VC.heap.size, 0, none⟩ = some (.int .i64 (q1 : Int)) := (hS.row 1 _ rfl).cell 0
         have x1 : (VD.alloc (.cells #[.int .i64 (ta : Int), .int .i64 (ya : Int), .int .u32 (n0 : Int)] 41)).cell? ⟨VC.heap.size, 1, none⟩ = some (.int .i64 (q2 : Int)) := (hS.row 1 _ rfl).cell 1
         have x2 : (VD.alloc (.cells #[.int .i64 (ta : Int), .int .i64 (ya : Int), .int .u32 (n0 : Int)] 41)).cell? ⟨VC.heap.size, 2, none⟩ = some (.int .i64 (q3 : Int)) := (hS.row 1 _ rfl).cell 2
         have x3 : (VD.alloc (.cells #[.int .i64 (ta : Int), .int .i64 (ya : Int), .int .u32 (n0 : Int)] 41)).cell? ⟨VC.heap.size, 3, none⟩ = some (.int .i64 (q4 : Int)) := (hS.row 1 _ rfl).cell 3
         have y0 : (VD.alloc (.cells #[.int .i64 (ta : Int), .int .i64 (ya : Int), .int .u32 (n0 : Int)] 41)).cell? ⟨w.heap.size + 2, 0, none⟩ = some (.int .i64 (q1 : Int)) := (hS.row 11 _ rfl).cell 0
         have y1 : (VD.alloc (.cells #[.int .i64 (ta : Int), .int .i64 (ya : Int), .int .u32 (n0 : Int)] 41)).cell? ⟨w.heap.size + 2, 1, none⟩ = some (.int .i64 (q2 : Int)) := (hS.row 11 _ rfl).cell 1
         have y2 : (VD.alloc (.cells #[.int .i64 (ta : Int), .int .i64 (ya : Int), .int .u32 (n0 : Int)] 41)).cell? ⟨w.heap.size + 2, 2, none⟩ = some (.int .i64 (q3 : Int)) := (hS.row 11 _ rfl).cell 2
         have y3 : (VD.alloc (.cells #[.int .i64 (ta : Int), .int .i64 (ya : Int), .int .u32 (n0 : Int)] 41)).cell? ⟨w.heap.size + 2, 3, none⟩ = some (.int .i64 (q4 : Int)) := (hS.row 11 _ rfl).cell 3
         have z0 : (VD.alloc (.cells #[.int .i64 (ta : Int), .int .i64 (ya : Int), .int .u32 (n0 : Int)] 41)).cell? ⟨VD.heap.size, 0, none⟩ = some (.int .i64 (ta : Int)) := (hS.row 0 _ rfl).cell 0
         have z1 : (VD.alloc (.cells #[.int .i64 (ta : Int), .int .i64 (ya : Int), .int .u32 (n0 : Int)] 41)).cell? ⟨VD.heap.size, 1, none⟩ = some (.int .i64 (ya : Int)) := (hS.row 0 _ rfl).cell 1
         have z2 : (VD.alloc (.cells #[.int .i64 (ta : Int), .int .i64 (ya : Int), .int .u32 (n0 : Int)] 41)).cell? ⟨VD.heap.size, 2, none⟩ = some (.int .u32 (n0 : Int)) := (hS.row 0 _ rfl).cell 2
         have s0 : (VD.alloc (.cells #[.int .i64 (ta : Int), .int .i64 (ya : Int), .int .u32 (n0 : Int)] 41)).cell? ⟨w.heap.size + 1, 0, none⟩ = some (.int .i64 (ta : Int)) := (hS.row 10 _ rfl).cell 0
         have s1 : (VD.alloc (.cells #[.int .i64 (ta : Int), .int .i64 (ya : Int), .int .u32 (n0 : Int)] 41)).cell? ⟨w.heap.size + 1, 1, none⟩ = some (.int .i64 (ya : Int)) := (hS.row 10 _ rfl).cell 1
         have s2 : (VD.alloc (.cells #[.int .i64 (ta : Int), .int .i64 (ya : Int), .int .u32 (n0 : Int)] 41)).cell? ⟨w.heap.size + 1, 2, none⟩ = some (.int .u32 (n0 : Int)) := (hS.row 10 _ rfl).cell 2
         go_wp2_with fail
         refine (num_any _ _).mono ?_
         rintro e wx ⟨rfl, rfl⟩
         go_wp2_with fail
         refine (num_any _ _).mono ?_
         rintro e wx ⟨rfl, rfl⟩
         obtain ⟨NN, hNN⟩ : ∃ n : Nat, n = 100 - 48 - 48 := ⟨_, rfl⟩
         rw [← hNN] at hS
         clear hNN
         obtain ⟨LL, hLL⟩ : ∃ L : List Rw, L = [(VD.heap.size, 41, [.int .i64 (ta : Int), .int .i64 (ya : Int), .int .u32 (n0 : Int)]), (VC.heap.size, 43, [.int .i64 (q1 : Int), .int .i64 (q2 : Int), .int .i64 (q3 : Int), .int .i64 (q4 : Int)]), (VA.heap.size, 43, [.int .i64 0, .int .i64 0, .int .i64 0, .int .i64 0]), (V9.heap.size, 41, [.int .i64 (tb : Int), .int .i64 (yb : Int), .int .u32 (n1 : Int)]), (V8.heap.size, 41, [.int .i64 (ta : Int), .int .i64 (ya : Int), .int .u32 (n0 : Int)]), (V5.heap.size + 1, 37, [.int .i64 (a : Int), .int .i64 (kb : Int), .int .i64 (jb : Int)]), (V5.heap.size, 43, [.int .i64 0, .int .i64 0, .int .i64 0, .int .i64 0]), (ga, 37, [.int .i64 (a : Int), .int .i64 (kb : Int), .int .i64 (jb : Int)]), (gb, 37, [.int .i64 (b : Int), .int .i64 (kb : Int), .int .i64 (jb : Int)]), (w.heap.size, 73, [.int .i64 (a : Int), .int .i64 (kb : Int), .int .i64 (jb : Int), .int .i64 (b : Int), .int .i64 (kb : Int), .int .i64 (jb : Int)]), (w.heap.size + 1, 74, [.int .i64 (ta : Int), .int .i64 (ya : Int), .int .u32 (n0 : Int), .int .i64 (tb : Int), .int .i64 (yb : Int), .int .u32 (n1 : Int)]), (w.heap.size + 2, 43, [.int .i64 (q1 : Int), .int .i64 (q2 : Int), .int .i64 (q3 : Int), .int .i64 (q4 : Int)])] := ⟨_, rfl⟩
         have HRA : Hid (∀ V, St Has w (.pointer (some ad)) BB NN LL V → V.cell? ⟨ga, 0, none⟩ = some (.int .i64 (a : Int))) := Lib.hid (fun V h => by subst hLL; exact (h.row 7 _ rfl).cell 0)
         rw [← hLL] at hS
         clear hLL
         have HS0 := Lib.hid hS
         clear hS
         go_wp2_with fail
         go_loopw [24] (fun t wr => ∃ k : Nat, k ≤ 4 ∧ t = .int .i64 (k : Int) ∧ Hid (St Has w (.pointer (some ad)) BB NN LL wr)) (fun t _ => 4 - (_root_.Go.RowKit.intOf t).toNat)
         case atStart => exact ⟨0, by omega, rfl, HS0⟩
         case round =>
          clear HS0
          obtain ⟨k, hk, rfl, HSr⟩ := hrel
          by_cases hk4 : k < 4
          ·have f0 : decide ((k : Int) < 4) = true := decide_eq_true (by omega)
           have fn : k < 4 := hk4
           clear hk hk4
           go_wp2_with fail
           go_loopw [25] (fun t wr => ∃ j : Nat, j ≤ 48 ∧ t = .int .i64 (j : Int) ∧ Hid (St Has w (.pointer (some ad)) BB NN LL wr)) (fun t _ => 48 - (_root_.Go.RowKit.intOf t).toNat)
           case atStart => exact ⟨0, by omega, rfl, HSr⟩
           case round =>
            clear HSr
            obtain ⟨j, hj, rfl, HSr⟩ := hrel
            by_cases hj4 : j < 48
            ·have f1 : decide ((j : Int) < 48) = true := decide_eq_true (by omega)
             have fn1 : j < 48 := hj4
             have z0 := HRA.out _ HSr.out
             have e1 : IntKind.i64.wrap (64 * (a : Int)) = ((64 * a : Nat) : Int) := (wrapI _ (by omega) (by omega)).trans (by omega)
             have e2 : IntKind.i64.wrap (((64 * a : Nat) : Int) + 1) = ((64 * a + 1 : Nat) : Int) := (wrapI _ (by omega) (by omega)).trans (by omega)
             have e3 : IntKind.i64.wrap (((64 * a + 1 : Nat) : Int) + (j : Int)) = ((64 * a + 1 + j : Nat) : Int) := (wrapI _ (by omega) (by omega)).trans (by omega)
             have e4 : IntKind.i64.wrap (256 * ((64 * a + 1 + j : Nat) : Int)) = ((256 * (64 * a + 1 + j) : Nat) : Int) := (wrapI _ (by omega) (by omega)).trans (by omega)
             have e5 : IntKind.u32.wrap ((256 * (64 * a + 1 + j) : Nat) : Int) = ((256 * (64 * a + 1 + j) : Nat) : Int) := by rw [IntKind.wrap_u32]; omega
             have e6 : IntKind.i64.wrap ((j : Int) + 1) = ((j + 1 : Nat) : Int) := (wrapI _ (by omega) (by omega)).trans (by omega)
             have HLd := Lib.hid (St.load H HSr.out ht ha fn HF.out fn1)
             have HSd := Lib.hid (fun (V : World) A (h : St Has w (.pointer (some ad)) BB NN ((V.heap.size, 5, [.int .u8 1]) :: LL) A) => St.store H h ht (some ⟨V.heap.size, 0, none⟩) 1 (show Sees A A.heap.size (some ⟨V.heap.size, 0, none⟩) (byt [1]) from Row.sees (h.row 0 _ rfl)) ha fn HF.out fn1)
             obtain ⟨u1, hu1⟩ : ∃ u, u = 256 * (64 * a + 1 + j) := ⟨_, rfl⟩
             rw [← hu1] at e4 e5 HLd HSd
             obtain ⟨u2, hu2⟩ : ∃ u, u = 64 * a + 1 + j := ⟨_, rfl⟩
             rw [← hu2] at e3 e4
             obtain ⟨u3, hu3⟩ : ∃ u, u = 64 * a + 1 := ⟨_, rfl⟩
             rw [← hu3] at e2 e3
             obtain ⟨u4, hu4⟩ : ∃ u, u = 64 * a := ⟨_, rfl⟩
             rw [← hu4] at e1 e2
             clear hu1 hu2 hu3 hu4 hj hj4
             go_wp2_with fail
             refine HLd.out.mono ?_
             rintro e Va ⟨⟨xv, rfl⟩, hS⟩
             clear z0 HLd
             have HS2 := Lib.hid (HSd.out Va _ (St.alloc H hS 5 [.int .u8 1]))
             clear hS HSd
             go_wp2_with fail
             refine (num_any _ _).mono ?_
             rintro e wx ⟨rfl, rfl⟩
             go_wp2_with fail
             refine HS2.out.mono ?_
             rintro e Vb ⟨rfl, hS⟩
             have HSn := Lib.hid (St.tail hS)
             clear hS HS2
             go_wp2_with fail
             refine (num_any _ _).mono ?_
             rintro e wx ⟨rfl, rfl⟩
             go_wp2_with fail
             go_roundw
             case rel => exact ⟨j + 1, by omega, by first | rfl | go_num, HSn⟩
             case measure => simp [_root_.Go.RowKit.intOf]; omega
            ·obtain rfl : j = 48 := by omega
             have e6 : IntKind.i64.wrap ((k : Int) + 1) = ((k + 1 : Nat) : Int) := (wrapI _ (by omega) (by omega)).trans (by omega)
             go_wp2_with fail
             go_roundw
             case rel => exact ⟨k + 1, by omega, by first | rfl | go_num, HSr⟩
             case measure => simp [_root_.Go.RowKit.intOf]; omega
          ·obtain rfl : k = 4 := by omega
           have hS := HSr.out
           go_wp2_with fail
           refine (hW.out _ hS.low).mono ?_
           rintro e w9 ⟨rfl, hb'⟩
           have hb := hS.low.trans (hb'.mono hS.low.size)
           clear hb'
           go_wp2_with fail
           go_ret
           exact ⟨rfl, hb⟩
        ·have hP := Lib.hid hP
         clear hS
         go_wp2_with fail
         refine hP.out.mono ?_
         rintro e VB ⟨rfl, hS⟩
         clear hP x0 x1 x2 y0 y1 y2 z0 z1 z2 z3 z4 z5 s0 s1 s2 s3 u0 u1 u2 u3 aa0 gg0 gg1 gg2 gg3
         have HF := HA6
         obtain ⟨BB, hBB⟩ : ∃ B : Bks, B = B6 := ⟨_, rfl⟩
         rw [← hBB] at hS HF
         clear hBB
         go_wp2_with fail
         refine (num_any _ _).mono ?_
         rintro e wx ⟨rfl, rfl⟩
         obtain ⟨NN, hNN⟩ : ∃ n : Nat, n = 100 - 48 - 48 := ⟨_, rfl⟩
         rw [← hNN] at hS
         clear hNN
         obtain ⟨LL, hLL⟩ : ∃ L : List Rw, L = [(VA.heap.size, 43, [.int .i64 0, .int .i64 0, .int .i64 0, .int .i64 0]), (V9.heap.size, 41, [.int .i64 (tb : Int), .int .i64 (yb : Int), .int .u32 (n1 : Int)]), (V8.heap.size, 41, [.int .i64 (ta : Int), .int .i64 (ya : Int), .int .u32 (n0 : Int)]), (V5.heap.size + 1, 37, [.int .i64 (a : Int), .int .i64 (kb : Int), .int .i64 (jb : Int)]), (V5.heap.size, 43, [.int .i64 0, .int .i64 0, .int .i64 0, .int .i64 0]), (ga, 37, [.int .i64 (a : Int), .int .i64 (kb : Int), .int .i64 (jb : Int)]), (gb, 37, [.int .i64 (b : Int), .int .i64 (kb : Int), .int .i64 (jb : Int)]), (w.heap.size, 73, [.int .i64 (a : Int), .int .i64 (kb : Int), .int .i64 (jb : Int), .int .i64 (b : Int), .int .i64 (kb : Int), .int .i64 (jb : Int)]), (w.heap.size + 1, 74, [.int .i64 (ta : Int), .int .i64 (ya : Int), .int .u32 (n0 : Int), .int .i64 (tb : Int), .int .i64 (yb : Int), .int .u32 (n1 : Int)]), (w.heap.size + 2, 43, [.int .i64 gs, .int .i64 gp, .int .i64 gz, .int .i64 gf])] := ⟨_, rfl⟩
         have HRA : Hid (∀ V, St Has w (.pointer (some ad)) BB NN LL V → V.cell? ⟨ga, 0, none⟩ = some (.int .i64 (a : Int))) := Lib.hid (fun V h => by subst hLL; exact (h.row 5 _ rfl).cell 0)
         rw [← hLL] at hS
         clear hLL
         have HS0 := Lib.hid hS
         clear hS
         go_wp2_with fail
         go_loopw [24] (fun t wr => ∃ k : Nat, k ≤ 4 ∧ t = .int .i64 (k : Int) ∧ Hid (St Has w (.pointer (some ad)) BB NN LL wr)) (fun t _ => 4 - (_root_.Go.RowKit.intOf t).toNat)
         case atStart => exact ⟨0, by omega, rfl, HS0⟩
         case round =>
          clear HS0
          obtain ⟨k, hk, rfl, HSr⟩ := hrel
          by_cases hk4 : k < 4
          ·have f0 : decide ((k : Int) < 4) = true := decide_eq_true (by omega)
           have fn : k < 4 := hk4
           clear hk hk4
           go_wp2_with fail
           go_loopw [25] (fun t wr => ∃ j : Nat, j ≤ 48 ∧ t = .int .i64 (j : Int) ∧ Hid (St Has w (.pointer (some ad)) BB NN LL wr)) (fun t _ => 48 - (_root_.Go.RowKit.intOf t).toNat)
           case atStart => exact ⟨0, by omega, rfl, HSr⟩
           case round =>
            clear HSr
            obtain ⟨j, hj, rfl, HSr⟩ := hrel
            by_cases hj4 : j < 48
            ·have f1 : decide ((j : Int) < 48) = true := decide_eq_true (by omega)
             have fn1 : j < 48 := hj4
             have z0 := HRA.out _ HSr.out
             have e1 : IntKind.i64.wrap (64 * (a : Int)) = ((64 * a : Nat) : Int) := (wrapI _ (by omega) (by omega)).trans (by omega)
             have e2 : IntKind.i64.wrap (((64 * a : Nat) : Int) + 1) = ((64 * a + 1 : Nat) : Int) := (wrapI _ (by omega) (by omega)).trans (by omega)
             have e3 : IntKind.i64.wrap (((64 * a + 1 : Nat) : Int) + (j : Int)) = ((64 * a + 1 + j : Nat) : Int) := (wrapI _ (by omega) (by omega)).trans (by omega)
             have e4 : IntKind.i64.wrap (256 * ((64 * a + 1 + j : Nat) : Int)) = ((256 * (64 * a + 1 + j) : Nat) : Int) := (wrapI _ (by omega) (by omega)).trans (by omega)
             have e5 : IntKind.u32.wrap ((256 * (64 * a + 1 + j) : Nat) : Int) = ((256 * (64 * a + 1 + j) : Nat) : Int) := by rw [IntKind.wrap_u32]; omega
             have e6 : IntKind.i64.wrap ((j : Int) + 1) = ((j + 1 : Nat) : Int) := (wrapI _ (by omega) (by omega)).trans (by omega)
             have HLd := Lib.hid (St.load H HSr.out ht ha fn HF.out fn1)
             have HSd := Lib.hid (fun (V : World) A (h : St Has w (.pointer (some ad)) BB NN ((V.heap.size, 5, [.int .u8 1]) :: LL) A) => St.store H h ht (some ⟨V.heap.size, 0, none⟩) 1 (show Sees A A.heap.size (some ⟨V.heap.size, 0, none⟩) (byt [1]) from Row.sees (h.row 0 _ rfl)) ha fn HF.out fn1)
             obtain ⟨u1, hu1⟩ : ∃ u, u = 256 * (64 * a + 1 + j) := ⟨_, rfl⟩
             rw [← hu1] at e4 e5 HLd HSd
             obtain ⟨u2, hu2⟩ : ∃ u, u = 64 * a + 1 + j := ⟨_, rfl⟩
             rw [← hu2] at e3 e4
             obtain ⟨u3, hu3⟩ : ∃ u, u = 64 * a + 1 := ⟨_, rfl⟩
             rw [← hu3] at e2 e3
             obtain ⟨u4, hu4⟩ : ∃ u, u = 64 * a := ⟨_, rfl⟩
             rw [← hu4] at e1 e2
             clear hu1 hu2 hu3 hu4 hj hj4
             go_wp2_with fail
             refine HLd.out.mono ?_
             rintro e Va ⟨⟨xv, rfl⟩, hS⟩
             clear z0 HLd
             have HS2 := Lib.hid (HSd.out Va _ (St.alloc H hS 5 [.int .u8 1]))
             clear hS HSd
             go_wp2_with fail
             refine (num_any _ _).mono ?_
             rintro e wx ⟨rfl, rfl⟩
             go_wp2_with fail
             refine HS2.out.mono ?_
             rintro e Vb ⟨rfl, hS⟩
             have HSn := Lib.hid (St.tail hS)
             clear hS HS2
             go_wp2_with fail
             refine (num_any _ _).mono ?_
             rintro e wx ⟨rfl, rfl⟩
             go_wp2_with fail
             go_roundw
             case rel => exact ⟨j + 1, by omega, by first | rfl | go_num, HSn⟩
             case measure => simp [_root_.Go.RowKit.intOf]; omega
            ·obtain rfl : j = 48 := by omega
             have e6 : IntKind.i64.wrap ((k : Int) + 1) = ((k + 1 : Nat) : Int) := (wrapI _ (by omega) (by omega)).trans (by omega)
             go_wp2_with fail
             go_roundw
             case rel => exact ⟨k + 1, by omega, by first | rfl | go_num, HSr⟩
             case measure => simp [_root_.Go.RowKit.intOf]; omega
          ·obtain rfl : k = 4 := by omega
           have hS := HSr.out
           go_wp2_with fail
           refine (hW.out _ hS.low).mono ?_
           rintro e w9 ⟨rfl, hb'⟩
           have hb := hS.low.trans (hb'.mono hS.low.size)
           clear hb'
           go_wp2_with fail
           go_ret
           exact ⟨rfl, hb⟩
       ·have r0 : ((V5.alloc (.cells #[.int .i64 0, .int .i64 0, .int .i64 0, .int .i64 0] 43)).alloc (.cells #[.int .i64 (a : Int), .int .i64 (kb : Int), .int .i64 (jb : Int)] 37)).cell? ⟨w.heap.size + 1, 3, none⟩ = some (.int .i64 (tb : Int)) := (hS.row 5 _ rfl).cell 3
        have r1 : ((V5.alloc (.cells #[.int .i64 0, .int .i64 0, .int .i64 0, .int .i64 0] 43)).alloc (.cells #[.int .i64 (a : Int), .int .i64 (kb : Int), .int .i64 (jb : Int)] 37)).cell? ⟨w.heap.size + 1, 4, none⟩ = some (.int .i64 (yb : Int)) := (hS.row 5 _ rfl).cell 4
        have r2 : ((V5.alloc (.cells #[.int .i64 0, .int .i64 0, .int .i64 0, .int .i64 0] 43)).alloc (.cells #[.int .i64 (a : Int), .int .i64 (kb : Int), .int .i64 (jb : Int)] 37)).cell? ⟨w.heap.size + 1, 5, none⟩ = some (.int .u32 (n1 : Int)) := (hS.row 5 _ rfl).cell 5
        by_cases hk : kb = ka
        ·subst hk
         have hj : ¬ jb = ja := fun h => hsame ⟨rfl, h⟩
         have hj' : ((jb : Int) == (ja : Int)) = false := beq_eq_false_iff_ne.2 (by omega)
         have hap := rec_apart hkb hja hkb hjb (fun h => hsame ⟨h.1.symm, h.2.symm⟩)
         have hAr : recAt (putB fa (recO kb jb) (recB tb yb n1)) (recO kb ja) = some (ta, ya, n0) := by rw [rec_out _ _ _ _ (by rw [recB_len]; omega)]; exact hraA
         have hAg : greatAt (putB fa (recO kb jb) (recB tb yb n1)) (greatO 383) = some (0, 0, 0, 0) := by rw [great_out _ _ _ _ (.inr (by have := rec_lt hkb hjb; rw [recB_len]; unfold greatO; omega))]; exact hga
         have HA5 : Hid ((upd B4 a (some (putB fa (recO kb jb) (recB tb yb n1)))) a = some (putB fa (recO kb jb) (recB tb yb n1))) := Lib.hid (upd_same _ _ _)
         have HB5 : Hid ((upd B4 a (some (putB fa (recO kb jb) (recB tb yb n1)))) b = some fb) := Lib.hid ((upd_other _ _ _ _ hab.symm).trans HBb.out)
         have hP := Lib.hid (hS.call (fun _ hF => H.putYes a kb jb tb yb n1 (hS.t H ht) hF ⟨ha, hkb, hjb⟩ htb hyb hn1 HBa.out))
         clear hS
         obtain ⟨f2, hf2⟩ : ∃ f : Byts, f = putB fa (recO kb jb) (recB tb yb n1) := ⟨_, rfl⟩
         rw [← hf2] at hP hAr hAg HA5 HB5
         obtain ⟨B5, hB5⟩ : ∃ B : Bks, B = upd B4 a (some f2) := ⟨_, rfl⟩
         rw [← hB5] at hP HA5 HB5
         clear hf2 hB5 hap
         go_wp2_with fail
         refine hP.out.mono ?_
         rintro e V6 ⟨rfl, hS⟩
         clear hP q0 q1 q2 bb0 r0 r1 r2 p0 p1 p2
         go_wp2_with fail
         refine (num_any _ _).mono ?_
         rintro e wx ⟨rfl, rfl⟩
         have bb0 : V6.cell? ⟨gb, 0, none⟩ = some (.int .i64 (b : Int)) := (hS.row 3 _ rfl).cell 0
         go_wp2_with fail
         have hP := Lib.hid (hS.call (fun _ hF => H.gputYes b 0 0 0 0 0 (hS.t H ht) hF hbb (by omega) (by decide) HB5.out))
         clear hS
         refine hP.out.mono ?_
         rintro e V7 ⟨rfl, hS⟩
         clear hP
         have hrB : recAt (putB fb (greatO 0) (greatB 0 0 0 0)) (recO kb jb) = some (tb, yb, n1) := by rw [rec_out _ _ _ _ (.inl (by have := rec_lt hkb hjb; unfold greatO; omega))]; exact hrbB
         have HA6 : Hid ((upd B5 b (some (putB fb (greatO 0) (greatB 0 0 0 0)))) a = some f2) := Lib.hid ((upd_other _ _ _ _ hab).trans HA5.out)
         have HB6 : Hid ((upd B5 b (some (putB fb (greatO 0) (greatB 0 0 0 0)))) b = some (putB fb (greatO 0) (greatB 0 0 0 0))) := Lib.hid (upd_same _ _ _)
         obtain ⟨B6, hB6⟩ : ∃ B : Bks, B = upd B5 b (some (putB fb (greatO 0) (greatB 0 0 0 0))) := ⟨_, rfl⟩
         rw [← hB6] at hS HA6 HB6
         clear hB6
         go_wp2_with fail
         refine (num_any _ _).mono ?_
         rintro e wx ⟨rfl, rfl⟩
         have x0 : V7.cell? ⟨ga, 0, none⟩ = some (.int .i64 (a : Int)) := (hS.row 2 _ rfl).cell 0
         have x1 : V7.cell? ⟨ga, 1, none⟩ = some (.int .i64 (kb : Int)) := (hS.row 2 _ rfl).cell 1
         have x2 : V7.cell? ⟨ga, 2, none⟩ = some (.int .i64 (ja : Int)) := (hS.row 2 _ rfl).cell 2
         have hP := Lib.hid (St.get H hS ht ⟨ha, hkb, hja⟩ HA6.out hAr)
         clear hS
         go_wp2_with fail
         refine hP.out.mono ?_
         rintro e V8 ⟨rfl, hS⟩
         clear hP x0 x1 x2
         have hS := St.alloc H hS 41 [.int .i64 (ta : Int), .int .i64 (ya : Int), .int .u32 (n0 : Int)]
         have x0 : (V8.alloc (.cells #[.int .i64 (ta : Int), .int .i64 (ya : Int), .int .u32 (n0 : Int)] 41)).cell? ⟨gb, 0, none⟩ = some (.int .i64 (b : Int)) := (hS.row 4 _ rfl).cell 0
         have x1 : (V8.alloc (.cells #[.int .i64 (ta : Int), .int .i64 (ya : Int), .int .u32 (n0 : Int)] 41)).cell? ⟨gb, 1, none⟩ = some (.int .i64 (kb : Int)) := (hS.row 4 _ rfl).cell 1
         have x2 : (V8.alloc (.cells #[.int .i64 (ta : Int), .int .i64 (ya : Int), .int .u32 (n0 : Int)] 41)).cell? ⟨gb, 2, none⟩ = some (.int .i64 (jb : Int)) := (hS.row 4 _ rfl).cell 2
         have hP := Lib.hid (St.get H hS ht ⟨hbb, hkb, hjb⟩ HB6.out hrB)
         clear hS
         go_wp2_with fail
         refine hP.out.mono ?_
         rintro e V9 ⟨rfl, hS⟩
         clear hP x0 x1 x2
         have hS := St.alloc H hS 41 [.int .i64 (tb : Int), .int .i64 (yb : Int), .int .u32 (n1 : Int)]
         have x0 : (V9.alloc (.cells #[.int .i64 (tb : Int), .int .i64 (yb : Int), .int .u32 (n1 : Int)] 41)).cell? ⟨ga, 0, none⟩ = some (.int .i64 (a : Int)) := (hS.row 4 _ rfl).cell 0
         have hP := Lib.hid (St.gget H hS ht ha (by omega) HA6.out hAg)
         clear hS
         go_wp2_with fail
         refine hP.out.mono ?_
         rintro e VA ⟨rfl, hS⟩
         clear hP x0
         have hS := St.alloc H hS 43 [.int .i64 0, .int .i64 0, .int .i64 0, .int .i64 0]
         have x0 : (VA.alloc (.cells #[.int .i64 0, .int .i64 0, .int .i64 0, .int .i64 0] 43)).cell? ⟨V8.heap.size, 0, none⟩ = some (.int .i64 (ta : Int)) := (hS.row 2 _ rfl).cell 0
         have x1 : (VA.alloc (.cells #[.int .i64 0, .int .i64 0, .int .i64 0, .int .i64 0] 43)).cell? ⟨V8.heap.size, 1, none⟩ = some (.int .i64 (ya : Int)) := (hS.row 2 _ rfl).cell 1
         have x2 : (VA.alloc (.cells #[.int .i64 0, .int .i64 0, .int .i64 0, .int .i64 0] 43)).cell? ⟨V8.heap.size, 2, none⟩ = some (.int .u32 (n0 : Int)) := (hS.row 2 _ rfl).cell 2
         have y0 : (VA.alloc (.cells #[.int .i64 0, .int .i64 0, .int .i64 0, .int .i64 0] 43)).cell? ⟨V9.heap.size, 0, none⟩ = some (.int .i64 (tb : Int)) := (hS.row 1 _ rfl).cell 0
         have y1 : (VA.alloc (.cells #[.int .i64 0, .int .i64 0, .int .i64 0, .int .i64 0] 43)).cell? ⟨V9.heap.size, 1, none⟩ = some (.int .i64 (yb : Int)) := (hS.row 1 _ rfl).cell 1
         have y2 : (VA.alloc (.cells #[.int .i64 0, .int .i64 0, .int .i64 0, .int .i64 0] 43)).cell? ⟨V9.heap.size, 2, none⟩ = some (.int .u32 (n1 : Int)) := (hS.row 1 _ rfl).cell 2
         have z0 : (VA.alloc (.cells #[.int .i64 0, .int .i64 0, .int .i64 0, .int .i64 0] 43)).cell? ⟨w.heap.size + 1, 0, none⟩ = some (.int .i64 (ta : Int)) := (hS.row 8 _ rfl).cell 0
         have z1 : (VA.alloc (.cells #[.int .i64 0, .int .i64 0, .int .i64 0, .int .i64 0] 43)).cell? ⟨w.heap.size + 1, 1, none⟩ = some (.int .i64 (ya : Int)) := (hS.row 8 _ rfl).cell 1
         have z2 : (VA.alloc (.cells #[.int .i64 0, .int .i64 0, .int .i64 0, .int .i64 0] 43)).cell? ⟨w.heap.size + 1, 2, none⟩ = some (.int .u32 (n0 : Int)) := (hS.row 8 _ rfl).cell 2
         have z3 : (VA.alloc (.cells #[.int .i64 0, .int .i64 0, .int .i64 0, .int .i64 0] 43)).cell? ⟨w.heap.size + 1, 3, none⟩ = some (.int .i64 (tb : Int)) := (hS.row 8 _ rfl).cell 3
         have z4 : (VA.alloc (.cells #[.int .i64 0, .int .i64 0, .int .i64 0, .int .i64 0] 43)).cell? ⟨w.heap.size + 1, 4, none⟩ = some (.int .i64 (yb : Int)) := (hS.row 8 _ rfl).cell 4
         have z5 : (VA.alloc (.cells #[.int .i64 0, .int .i64 0, .int .i64 0, .int .i64 0] 43)).cell? ⟨w.heap.size + 1, 5, none⟩ = some (.int .u32 (n1 : Int)) := (hS.row 8 _ rfl).cell 5
         have s0 : (VA.alloc (.cells #[.int .i64 0, .int .i64 0, .int .i64 0, .int .i64 0] 43)).cell? ⟨V5.heap.size, 0, none⟩ = some (.int .i64 0) := (hS.row 4 _ rfl).cell 0
         have s1 : (VA.alloc (.cells #[.int .i64 0, .int .i64 0, .int .i64 0, .int .i64 0] 43)).cell? ⟨V5.heap.size, 1, none⟩ = some (.int .i64 0) := (hS.row 4 _ rfl).cell 1
         have s2 : (VA.alloc (.cells #[.int .i64 0, .int .i64 0, .int .i64 0, .int .i64 0] 43)).cell? ⟨V5.heap.size, 2, none⟩ = some (.int .i64 0) := (hS.row 4 _ rfl).cell 2
         have s3 : (VA.alloc (.cells #[.int .i64 0, .int .i64 0, .int .i64 0, .int .i64 0] 43)).cell? ⟨V5.heap.size, 3, none⟩ = some (.int .i64 0) := (hS.row 4 _ rfl).cell 3
         have u0 : (VA.alloc (.cells #[.int .i64 0, .int .i64 0, .int .i64 0, .int .i64 0] 43)).cell? ⟨VA.heap.size, 0, none⟩ = some (.int .i64 0) := (hS.row 0 _ rfl).cell 0
         have u1 : (VA.alloc (.cells #[.int .i64 0, .int .i64 0, .int .i64 0, .int .i64 0] 43)).cell? ⟨VA.heap.size, 1, none⟩ = some (.int .i64 0) := (hS.row 0 _ rfl).cell 1
         have u2 : (VA.alloc (.cells #[.int .i64 0, .int .i64 0, .int .i64 0, .int .i64 0] 43)).cell? ⟨VA.heap.size, 2, none⟩ = some (.int .i64 0) := (hS.row 0 _ rfl).cell 2
         have u3 : (VA.alloc (.cells #[.int .i64 0, .int .i64 0, .int .i64 0, .int .i64 0] 43)).cell? ⟨VA.heap.size, 3, none⟩ = some (.int .i64 0) := (hS.row 0 _ rfl).cell 3
         have aa0 : (VA.alloc (.cells #[.int .i64 0, .int .i64 0, .int .i64 0, .int .i64 0] 43)).cell? ⟨ga, 0, none⟩ = some (.int .i64 (a : Int)) := (hS.row 5 _ rfl).cell 0
         have gg0 : (VA.alloc (.cells #[.int .i64 0, .int .i64 0, .int .i64 0, .int .i64 0] 43)).cell? ⟨w.heap.size + 2, 0, none⟩ = some (.int .i64 gs) := (hS.row 9 _ rfl).cell 0
         have gg1 : (VA.alloc (.cells #[.int .i64 0, .int .i64 0, .int .i64 0, .int .i64 0] 43)).cell? ⟨w.heap.size + 2, 1, none⟩ = some (.int .i64 gp) := (hS.row 9 _ rfl).cell 1
         have gg2 : (VA.alloc (.cells #[.int .i64 0, .int .i64 0, .int .i64 0, .int .i64 0] 43)).cell? ⟨w.heap.size + 2, 2, none⟩ = some (.int .i64 gz) := (hS.row 9 _ rfl).cell 2
         have gg3 : (VA.alloc (.cells #[.int .i64 0, .int .i64 0, .int .i64 0, .int .i64 0] 43)).cell? ⟨w.heap.size + 2, 3, none⟩ = some (.int .i64 gf) := (hS.row 9 _ rfl).cell 3
         go_wp2_with fail
         refine (num_any _ _).mono ?_
         rintro e wx ⟨rfl, rfl⟩
         go_wp2_with fail
         refine (num_any _ _).mono ?_
         rintro e wx ⟨rfl, rfl⟩
         go_wp2_with fail
         refine (num_any _ _).mono ?_
         rintro e wx ⟨rfl, rfl⟩
         go_wp2_with fail
         refine (num_any _ _).mono ?_
         rintro e wx ⟨rfl, rfl⟩
         rcases St.gput H hS ht ha HA6.out 0 (by omega) gs gp gz gf with ⟨q1, q2, q3, q4, rfl, rfl, rfl, rfl, hq1, hq2, hq3, hq4, hP⟩ | hP
         ·have hP := Lib.hid hP
          clear hS
          go_wp2_with fail
          refine hP.out.mono ?_
          rintro e VB ⟨rfl, hS⟩
          clear hP x0 x1 x2 y0 y1 y2 z0 z1 z2 z3 z4 z5 s0 s1 s2 s3 u0 u1 u2 u3 aa0 gg0 gg1 gg2 gg3
          have hgG : greatAt (putB f2 (greatO 0) (greatB q1 q2 q3 q4)) (greatO 0) = some (q1, q2, q3, q4) := great_back _ _ _ _ _ _ hq1 hq2 hq3 hq4
          have hrG : recAt (putB f2 (greatO 0) (greatB q1 q2 q3 q4)) (recO kb ja) = some (ta, ya, n0) := by rw [rec_out _ _ _ _ (.inl (by have := rec_lt hkb hja; unfold greatO; omega))]; exact hAr
          have HF : Hid ((upd B6 a (some (putB f2 (greatO 0) (greatB q1 q2 q3 q4)))) a = some (putB f2 (greatO 0) (greatB q1 q2 q3 q4))) := Lib.hid (upd_same _ _ _)
          obtain ⟨BB, hBB⟩ : ∃ B : Bks, B = upd B6 a (some (putB f2 (greatO 0) (greatB q1 q2 q3 q4))) := ⟨_, rfl⟩
          rw [← hBB] at hS HF
          clear hBB
          go_wp2_with fail
          refine (num_any _ _).mono ?_
          rintro e wx ⟨rfl, rfl⟩
          have x0 : VB.cell? ⟨ga, 0, none⟩ = some (.int .i64 (a : Int)) := (hS.row 5 _ rfl).cell 0
          have hP := Lib.hid (St.gget H hS ht ha (by omega) HF.out hgG)
          clear hS
          go_wp2_with fail
          refine hP.out.mono ?_
          rintro e VC ⟨rfl, hS⟩
          clear hP x0
          have hS := St.alloc H hS 43 [.int .i64 (q1 : Int), .int .i64 (q2 : Int), .int .i64 (q3 : Int), .int .i64 (q4 : Int)]
          have x0 : (VC.alloc (.cells #[.int .i64 (q1 : Int), .int .i64 (q2 : Int), .int .i64 (q3 : Int), .int .i64 (q4 : Int)] 43)).cell? ⟨ga, 0, none⟩ = some (.int .i64 (a : Int)) := (hS.row 6 _ rfl).cell 0
          have x1 : (VC.alloc (.cells #[.int .i64 (q1 : Int), .int .i64 (q2 : Int), .int .i64 (q3 : Int), .int .i64 (q4 : Int)] 43)).cell? ⟨ga, 1, none⟩ = some (.int .i64 (kb : Int)) := (hS.row 6 _ rfl).cell 1
          have x2 : (VC.alloc (.cells #[.int .i64 (q1 : Int), .int .i64 (q2 : Int), .int .i64 (q3 : Int), .int .i64 (q4 : Int)] 43)).cell? ⟨ga, 2, none⟩ = some (.int .i64 (ja : Int)) := (hS.row 6 _ rfl).cell 2
          have hP := Lib.hid (St.get H hS ht ⟨ha, hkb, hja⟩ HF.out hrG)
          clear hS
          go_wp2_with fail
          refine hP.out.mono ?_
          rintro e VD ⟨rfl, hS⟩
          clear hP x0 x1 x2
          have hS := St.alloc H hS 41 [.int .i64 (ta : Int), .int .i64 (ya : Int), .int .u32 (n0 : Int)]
          have x0 : (VD.alloc (.cells #[.int .i64 (ta : Int), .int .i64 (ya : Int), .int .u32 (n0 : Int)] 41)).cell? ⟨VC.heap.size, 0, none⟩ = some (.int .i64 (q1 : Int)) := (hS.row 1 _ rfl).cell 0
          have x1 : (VD.alloc (.cells #[.int .i64 (ta : Int), .int .i64 (ya : Int), .int .u32 (n0 : Int)] 41)).cell? ⟨VC.heap.size, 1, none⟩ = some (.int .i64 (q2 : Int)) := (hS.row 1 _ rfl).cell 1
          have x2 : (VD.alloc (.cells #[.int .i64 (ta : Int), .int .i64 (ya : Int), .int .u32 (n0 : Int)] 41)).cell? ⟨VC.heap.size, 2, none⟩ = some (.int .i64 (q3 : Int)) := (hS.row 1 _ rfl).cell 2
          have x3 : (VD.alloc (.cells #[.int .i64 (ta : Int), .int .i64 (ya : Int), .int .u32 (n0 : Int)] 41)).cell? ⟨VC.heap.size, 3, none⟩ = some (.int .i64 (q4 : Int)) := (hS.row 1 _ rfl).cell 3
          have y0 : (VD.alloc (.cells #[.int .i64 (ta : Int), .int .i64 (ya : Int), .int .u32 (n0 : Int)] 41)).cell? ⟨w.heap.size + 2, 0, none⟩ = some (.int .i64 (q1 : Int)) := (hS.row 11 _ rfl).cell 0
          have y1 : (VD.alloc (.cells #[.int .i64 (ta : Int), .int .i64 (ya : Int), .int .u32 (n0 : Int)] 41)).cell? ⟨w.heap.size + 2, 1, none⟩ = some (.int .i64 (q2 : Int)) := (hS.row 11 _ rfl).cell 1
          have y2 : (VD.alloc (.cells #[.int .i64 (ta : Int), .int .i64 (ya : Int), .int .u32 (n0 : Int)] 41)).cell? ⟨w.heap.size + 2, 2, none⟩ = some (.int .i64 (q3 : Int)) := (hS.row 11 _ rfl).cell 2
          have y3 : (VD.alloc (.cells #[.int .i64 (ta : Int), .int .i64 (ya : Int), .int .u32 (n0 : Int)] 41)).cell? ⟨w.heap.size + 2, 3, none⟩ = some (.int .i64 (q4 : Int)) := (hS.row 11 _ rfl).cell 3
          have z0 : (VD.alloc (.cells #[.int .i64 (ta : Int), .int .i64 (ya : Int), .int .u32 (n0 : Int)] 41)).cell? ⟨VD.heap.size, 0, none⟩ = some (.int .i64 (ta : Int)) := (hS.row 0 _ rfl).cell 0
          have z1 : (VD.alloc (.cells #[.int .i64 (ta : Int), .int .i64 (ya : Int), .int .u32 (n0 : Int)] 41)).cell? ⟨VD.heap.size, 1, none⟩ = some (.int .i64 (ya : Int)) := (hS.row 0 _ rfl).cell 1
          have z2 : (VD.alloc (.cells #[.int .i64 (ta : Int), .int .i64 (ya : Int), .int .u32 (n0 : Int)] 41)).cell? ⟨VD.heap.size, 2, none⟩ = some (.int .u32 (n0 : Int)) := (hS.row 0 _ rfl).cell 2
          have s0 : (VD.alloc (.cells #[.int .i64 (ta : Int), .int .i64 (ya : Int), .int .u32 (n0 : Int)] 41)).cell? ⟨w.heap.size + 1, 0, none⟩ = some (.int .i64 (ta : Int)) := (hS.row 10 _ rfl).cell 0
          have s1 : (VD.alloc (.cells #[.int .i64 (ta : Int), .int .i64 (ya : Int), .int .u32 (n0 : Int)] 41)).cell? ⟨w.heap.size + 1, 1, none⟩ = some (.int .i64 (ya : Int)) := (hS.row 10 _ rfl).cell 1
          have s2 : (VD.alloc (.cells #[.int .i64 (ta : Int), .int .i64 (ya : Int), .int .u32 (n0 : Int)] 41)).cell? ⟨w.heap.size + 1, 2, none⟩ = some (.int .u32 (n0 : Int)) := (hS.row 10 _ rfl).cell 2
          go_wp2_with fail
          refine (num_any _ _).mono ?_
          rintro e wx ⟨rfl, rfl⟩
          go_wp2_with fail
          refine (num_any _ _).mono ?_
          rintro e wx ⟨rfl, rfl⟩
          obtain ⟨NN, hNN⟩ : ∃ n : Nat, n = 100 - 48 - 48 := ⟨_, rfl⟩
          rw [← hNN] at hS
          clear hNN
          obtain ⟨LL, hLL⟩ : ∃ L : List Rw, L = [(VD.heap.size, 41, [.int .i64 (ta : Int), .int .i64 (ya : Int), .int .u32 (n0 : Int)]), (VC.heap.size, 43, [.int .i64 (q1 : Int), .int .i64 (q2 : Int), .int .i64 (q3 : Int), .int .i64 (q4 : Int)]), (VA.heap.size, 43, [.int .i64 0, .int .i64 0, .int .i64 0, .int .i64 0]), (V9.heap.size, 41, [.int .i64 (tb : Int), .int .i64 (yb : Int), .int .u32 (n1 : Int)]), (V8.heap.size, 41, [.int .i64 (ta : Int), .int .i64 (ya : Int), .int .u32 (n0 : Int)]), (V5.heap.size + 1, 37, [.int .i64 (a : Int), .int .i64 (kb : Int), .int .i64 (jb : Int)]), (V5.heap.size, 43, [.int .i64 0, .int .i64 0, .int .i64 0, .int .i64 0]), (ga, 37, [.int .i64 (a : Int), .int .i64 (kb : Int), .int .i64 (ja : Int)]), (gb, 37, [.int .i64 (b : Int), .int .i64 (kb : Int), .int .i64 (jb : Int)]), (w.heap.size, 73, [.int .i64 (a : Int), .int .i64 (kb : Int), .int .i64 (ja : Int), .int .i64 (b : Int), .int .i64 (kb : Int), .int .i64 (jb : Int)]), (w.heap.size + 1, 74, [.int .i64 (ta : Int), .int .i64 (ya : Int), .int .u32 (n0 : Int), .int .i64 (tb : Int), .int .i64 (yb : Int), .int .u32 (n1 : Int)]), (w.heap.size + 2, 43, [.int .i64 (q1 : Int), .int .i64 (q2 : Int), .int .i64 (q3 : Int), .int .i64 (q4 : Int)])] := ⟨_, rfl⟩
          have HRA : Hid (∀ V, St Has w (.pointer (some ad)) BB NN LL V → V.cell? ⟨ga, 0, none⟩ = some (.int .i64 (a : Int))) := Lib.hid (fun V h => by subst hLL; exact (h.row 7 _ rfl).cell 0)
          rw [← hLL] at hS
          clear hLL
          have HS0 := Lib.hid hS
          clear hS
          go_wp2_with fail
          go_loopw [24] (fun t wr => ∃ k : Nat, k ≤ 4 ∧ t = .int .i64 (k : Int) ∧ Hid (St Has w (.pointer (some ad)) BB NN LL wr)) (fun t _ => 4 - (_root_.Go.RowKit.intOf t).toNat)
          case atStart => exact ⟨0, by omega, rfl, HS0⟩
          case round =>
           clear HS0
           obtain ⟨k, hk, rfl, HSr⟩ := hrel
           by_cases hk4 : k < 4
           ·have f0 : decide ((k : Int) < 4) = true := decide_eq_true (by omega)
            have fn : k < 4 := hk4
            clear hk hk4
            go_wp2_with fail
            go_loopw [25] (fun t wr => ∃ j : Nat, j ≤ 48 ∧ t = .int .i64 (j : Int) ∧ Hid (St Has w (.pointer (some ad)) BB NN LL wr)) (fun t _ => 48 - (_root_.Go.RowKit.intOf t).toNat)
            case atStart => exact ⟨0, by omega, rfl, HSr⟩
            case round =>
             clear HSr
             obtain ⟨j, hj, rfl, HSr⟩ := hrel
             by_cases hj4 : j < 48
             ·have f1 : decide ((j : Int) < 48) = true := decide_eq_true (by omega)
              have fn1 : j < 48 := hj4
              have z0 := HRA.out _ HSr.out
              have e1 : IntKind.i64.wrap (64 * (a : Int)) = ((64 * a : Nat) : Int) := (wrapI _ (by omega) (by omega)).trans (by omega)
              have e2 : IntKind.i64.wrap (((64 * a : Nat) : Int) + 1) = ((64 * a + 1 : Nat) : Int) := (wrapI _ (by omega) (by omega)).trans (by omega)
              have e3 : IntKind.i64.wrap (((64 * a + 1 : Nat) : Int) + (j : Int)) = ((64 * a + 1 + j : Nat) : Int) := (wrapI _ (by omega) (by omega)).trans (by omega)
              have e4 : IntKind.i64.wrap (256 * ((64 * a + 1 + j : Nat) : Int)) = ((256 * (64 * a + 1 + j) : Nat) : Int) := (wrapI _ (by omega) (by omega)).trans (by omega)
              have e5 : IntKind.u32.wrap ((256 * (64 * a + 1 + j) : Nat) : Int) = ((256 * (64 * a + 1 + j) : Nat) : Int) := by rw [IntKind.wrap_u32]; omega
              have e6 : IntKind.i64.wrap ((j : Int) + 1) = ((j + 1 : Nat) : Int) := (wrapI _ (by omega) (by omega)).trans (by omega)
              have HLd := Lib.hid (St.load H HSr.out ht ha fn HF.out fn1)
              have HSd := Lib.hid (fun (V : World) A (h : St Has w (.pointer (some ad)) BB NN ((V.heap.size, 5, [.int .u8 1]) :: LL) A) => St.store H h ht (some ⟨V.heap.size, 0, none⟩) 1 (show Sees A A.heap.size (some ⟨V.heap.size, 0, none⟩) (byt [1]) from Row.sees (h.row 0 _ rfl)) ha fn HF.out fn1)
              obtain ⟨u1, hu1⟩ : ∃ u, u = 256 * (64 * a + 1 + j) := ⟨_, rfl⟩
              rw [← hu1] at e4 e5 HLd HSd
              obtain ⟨u2, hu2⟩ : ∃ u, u = 64 * a + 1 + j := ⟨_, rfl⟩
              rw [← hu2] at e3 e4
              obtain ⟨u3, hu3⟩ : ∃ u, u = 64 * a + 1 := ⟨_, rfl⟩
              rw [← hu3] at e2 e3
              obtain ⟨u4, hu4⟩ : ∃ u, u = 64 * a := ⟨_, rfl⟩
              rw [← hu4] at e1 e2
              clear hu1 hu2 hu3 hu4 hj hj4
              go_wp2_with fail
              refine HLd.out.mono ?_
              rintro e Va ⟨⟨xv, rfl⟩, hS⟩
              clear z0 HLd
              have HS2 := Lib.hid (HSd.out Va _ (St.alloc H hS 5 [.int .u8 1]))
              clear hS HSd
              go_wp2_with fail
              refine (num_any _ _).mono ?_
              rintro e wx ⟨rfl, rfl⟩
              go_wp2_with fail
              refine HS2.out.mono ?_
              rintro e Vb ⟨rfl, hS⟩
              have HSn := Lib.hid (St.tail hS)
              clear hS HS2
              go_wp2_with fail
              refine (num_any _ _).mono ?_
              rintro e wx ⟨rfl, rfl⟩
              go_wp2_with fail
              go_roundw
              case rel => exact ⟨j + 1, by omega, by first | rfl | go_num, HSn⟩
              case measure => simp [_root_.Go.RowKit.intOf]; omega
             ·obtain rfl : j = 48 := by omega
              have e6 : IntKind.i64.wrap ((k : Int) + 1) = ((k + 1 : Nat) : Int) := (wrapI _ (by omega) (by omega)).trans (by omega)
              go_wp2_with fail
              go_roundw
              case rel => exact ⟨k + 1, by omega, by first | rfl | go_num, HSr⟩
              case measure => simp [_root_.Go.RowKit.intOf]; omega
           ·obtain rfl : k = 4 := by omega
            have hS := HSr.out
            go_wp2_with fail
            refine (hW.out _ hS.low).mono ?_
            rintro e w9 ⟨rfl, hb'⟩
            have hb := hS.low.trans (hb'.mono hS.low.size)
            clear hb'
            go_wp2_with fail
            go_ret
            exact ⟨rfl, hb⟩
         ·have hP := Lib.hid hP
          clear hS
          go_wp2_with fail
          refine hP.out.mono ?_
          rintro e VB ⟨rfl, hS⟩
          clear hP x0 x1 x2 y0 y1 y2 z0 z1 z2 z3 z4 z5 s0 s1 s2 s3 u0 u1 u2 u3 aa0 gg0 gg1 gg2 gg3
          have HF := HA6
          obtain ⟨BB, hBB⟩ : ∃ B : Bks, B = B6 := ⟨_, rfl⟩
          rw [← hBB] at hS HF
          clear hBB
          go_wp2_with fail
          refine (num_any _ _).mono ?_
          rintro e wx ⟨rfl, rfl⟩
          obtain ⟨NN, hNN⟩ : ∃ n : Nat, n = 100 - 48 - 48 := ⟨_, rfl⟩
          rw [← hNN] at hS
          clear hNN
          obtain ⟨LL, hLL⟩ : ∃ L : List Rw, L = [(VA.heap.size, 43, [.int .i64 0, .int .i64 0, .int .i64 0, .int .i64 0]), (V9.heap.size, 41, [.int .i64 (tb : Int), .int .i64 (yb : Int), .int .u32 (n1 : Int)]), (V8.heap.size, 41, [.int .i64 (ta : Int), .int .i64 (ya : Int), .int .u32 (n0 : Int)]), (V5.heap.size + 1, 37, [.int .i64 (a : Int), .int .i64 (kb : Int), .int .i64 (jb : Int)]), (V5.heap.size, 43, [.int .i64 0, .int .i64 0, .int .i64 0, .int .i64 0]), (ga, 37, [.int .i64 (a : Int), .int .i64 (kb : Int), .int .i64 (ja : Int)]), (gb, 37, [.int .i64 (b : Int), .int .i64 (kb : Int), .int .i64 (jb : Int)]), (w.heap.size, 73, [.int .i64 (a : Int), .int .i64 (kb : Int), .int .i64 (ja : Int), .int .i64 (b : Int), .int .i64 (kb : Int), .int .i64 (jb : Int)]), (w.heap.size + 1, 74, [.int .i64 (ta : Int), .int .i64 (ya : Int), .int .u32 (n0 : Int), .int .i64 (tb : Int), .int .i64 (yb : Int), .int .u32 (n1 : Int)]), (w.heap.size + 2, 43, [.int .i64 gs, .int .i64 gp, .int .i64 gz, .int .i64 gf])] := ⟨_, rfl⟩
          have HRA : Hid (∀ V, St Has w (.pointer (some ad)) BB NN LL V → V.cell? ⟨ga, 0, none⟩ = some (.int .i64 (a : Int))) := Lib.hid (fun V h => by subst hLL; exact (h.row 5 _ rfl).cell 0)
          rw [← hLL] at hS
          clear hLL
          have HS0 := Lib.hid hS
          clear hS
          go_wp2_with fail
          go_loopw [24] (fun t wr => ∃ k : Nat, k ≤ 4 ∧ t = .int .i64 (k : Int) ∧ Hid (St Has w (.pointer (some ad)) BB NN LL wr)) (fun t _ => 4 - (_root_.Go.RowKit.intOf t).toNat)
          case atStart => exact ⟨0, by omega, rfl, HS0⟩
          case round =>
           clear HS0
           obtain ⟨k, hk, rfl, HSr⟩ := hrel
           by_cases hk4 : k < 4
           ·have f0 : decide ((k : Int) < 4) = true := decide_eq_true (by omega)
            have fn : k < 4 := hk4
            clear hk hk4
            go_wp2_with fail
            go_loopw [25] (fun t wr => ∃ j : Nat, j ≤ 48 ∧ t = .int .i64 (j : Int) ∧ Hid (St Has w (.pointer (some ad)) BB NN LL wr)) (fun t _ => 48 - (_root_.Go.RowKit.intOf t).toNat)
            case atStart => exact ⟨0, by omega, rfl, HSr⟩
            case round =>
             clear HSr
             obtain ⟨j, hj, rfl, HSr⟩ := hrel
             by_cases hj4 : j < 48
             ·have f1 : decide ((j : Int) < 48) = true := decide_eq_true (by omega)
              have fn1 : j < 48 := hj4
              have z0 := HRA.out _ HSr.out
              have e1 : IntKind.i64.wrap (64 * (a : Int)) = ((64 * a : Nat) : Int) := (wrapI _ (by omega) (by omega)).trans (by omega)
              have e2 : IntKind.i64.wrap (((64 * a : Nat) : Int) + 1) = ((64 * a + 1 : Nat) : Int) := (wrapI _ (by omega) (by omega)).trans (by omega)
              have e3 : IntKind.i64.wrap (((64 * a + 1 : Nat) : Int) + (j : Int)) = ((64 * a + 1 + j : Nat) : Int) := (wrapI _ (by omega) (by omega)).trans (by omega)
              have e4 : IntKind.i64.wrap (256 * ((64 * a + 1 + j : Nat) : Int)) = ((256 * (64 * a + 1 + j) : Nat) : Int) := (wrapI _ (by omega) (by omega)).trans (by omega)
              have e5 : IntKind.u32.wrap ((256 * (64 * a + 1 + j) : Nat) : Int) = ((256 * (64 * a + 1 + j) : Nat) : Int) := by rw [IntKind.wrap_u32]; omega
              have e6 : IntKind.i64.wrap ((j : Int) + 1) = ((j + 1 : Nat) : Int) := (wrapI _ (by omega) (by omega)).trans (by omega)
              have HLd := Lib.hid (St.load H HSr.out ht ha fn HF.out fn1)
              have HSd := Lib.hid (fun (V : World) A (h : St Has w (.pointer (some ad)) BB NN ((V.heap.size, 5, [.int .u8 1]) :: LL) A) => St.store H h ht (some ⟨V.heap.size, 0, none⟩) 1 (show Sees A A.heap.size (some ⟨V.heap.size, 0, none⟩) (byt [1]) from Row.sees (h.row 0 _ rfl)) ha fn HF.out fn1)
              obtain ⟨u1, hu1⟩ : ∃ u, u = 256 * (64 * a + 1 + j) := ⟨_, rfl⟩
              rw [← hu1] at e4 e5 HLd HSd
              obtain ⟨u2, hu2⟩ : ∃ u, u = 64 * a + 1 + j := ⟨_, rfl⟩
              rw [← hu2] at e3 e4
              obtain ⟨u3, hu3⟩ : ∃ u, u = 64 * a + 1 := ⟨_, rfl⟩
              rw [← hu3] at e2 e3
              obtain ⟨u4, hu4⟩ : ∃ u, u = 64 * a := ⟨_, rfl⟩
              rw [← hu4] at e1 e2
              clear hu1 hu2 hu3 hu4 hj hj4
              go_wp2_with fail
              refine HLd.out.mono ?_
              rintro e Va ⟨⟨xv, rfl⟩, hS⟩
              clear z0 HLd
              have HS2 := Lib.hid (HSd.out Va _ (St.alloc H hS 5 [.int .u8 1]))
              clear hS HSd
              go_wp2_with fail
              refine (num_any _ _).mono ?_
              rintro e wx ⟨rfl, rfl⟩
              go_wp2_with fail
              refine HS2.out.mono ?_
              rintro e Vb ⟨rfl, hS⟩
              have HSn := Lib.hid (St.tail hS)
              clear hS HS2
              go_wp2_with fail
              refine (num_any _ _).mono ?_
              rintro e wx ⟨rfl, rfl⟩
              go_wp2_with fail
              go_roundw
              case rel => exact ⟨j + 1, by omega, by first | rfl | go_num, HSn⟩
              case measure => simp [_root_.Go.RowKit.intOf]; omega
             ·obtain rfl : j = 48 := by omega
              have e6 : IntKind.i64.wrap ((k : Int) + 1) = ((k + 1 : Nat) : Int) := (wrapI _ (by omega) (by omega)).trans (by omega)
              go_wp2_with fail
              go_roundw
              case rel => exact ⟨k + 1, by omega, by first | rfl | go_num, HSr⟩
              case measure => simp [_root_.Go.RowKit.intOf]; omega
           ·obtain rfl : k = 4 := by omega
            have hS := HSr.out
            go_wp2_with fail
            refine (hW.out _ hS.low).mono ?_
            rintro e w9 ⟨rfl, hb'⟩
            have hb := hS.low.trans (hb'.mono hS.low.size)
            clear hb'
            go_wp2_with fail
            go_ret
            exact ⟨rfl, hb⟩
        ·have hk' : ((kb : Int) == (ka : Int)) = false := beq_eq_false_iff_ne.2 (by omega)
         have hap := rec_apart hka hja hkb hjb (fun h => hsame ⟨h.1.symm, h.2.symm⟩)
         have hAr : recAt (putB fa (recO kb jb) (recB tb yb n1)) (recO ka ja) = some (ta, ya, n0) := by rw [rec_out _ _ _ _ (by rw [recB_len]; omega)]; exact hraA
         have hAg : greatAt (putB fa (recO kb jb) (recB tb yb n1)) (greatO 383) = some (0, 0, 0, 0) := by rw [great_out _ _ _ _ (.inr (by have := rec_lt hkb hjb; rw [recB_len]; unfold greatO; omega))]; exact hga
         have HA5 : Hid ((upd B4 a (some (putB fa (recO kb jb) (recB tb yb n1)))) a = some (putB fa (recO kb jb) (recB tb yb n1))) := Lib.hid (upd_same _ _ _)
         have HB5 : Hid ((upd B4 a (some (putB fa (recO kb jb) (recB tb yb n1)))) b = some fb) := Lib.hid ((upd_other _ _ _ _ hab.symm).trans HBb.out)
         have hP := Lib.hid (hS.call (fun _ hF => H.putYes a kb jb tb yb n1 (hS.t H ht) hF ⟨ha, hkb, hjb⟩ htb hyb hn1 HBa.out))
         clear hS
         obtain ⟨f2, hf2⟩ : ∃ f : Byts, f = putB fa (recO kb jb) (recB tb yb n1) := ⟨_, rfl⟩
         rw [← hf2] at hP hAr hAg HA5 HB5
         obtain ⟨B5, hB5⟩ : ∃ B : Bks, B = upd B4 a (some f2) := ⟨_, rfl⟩
         rw [← hB5] at hP HA5 HB5
         clear hf2 hB5 hap
         go_wp2_with fail
         refine hP.out.mono ?_
         rintro e V6 ⟨rfl, hS⟩
         clear hP q0 q1 q2 bb0 r0 r1 r2 p0 p1 p2
         go_wp2_with fail
         refine (num_any _ _).mono ?_
         rintro e wx ⟨rfl, rfl⟩
         have bb0 : V6.cell? ⟨gb, 0, none⟩ = some (.int .i64 (b : Int)) := (hS.row 3 _ rfl).cell 0
         go_wp2_with fail
         have hP := Lib.hid (hS.call (fun _ hF => H.gputYes b 0 0 0 0 0 (hS.t H ht) hF hbb (by omega) (by decide) HB5.out))
         clear hS
         refine hP.out.mono ?_
         rintro e V7 ⟨rfl, hS⟩
         clear hP
         have hrB : recAt (putB fb (greatO 0) (greatB 0 0 0 0)) (recO kb jb) = some (tb, yb, n1) := by rw [rec_out _ _ _ _ (.inl (by have := rec_lt hkb hjb; unfold greatO; omega))]; exact hrbB
         have HA6 : Hid ((upd B5 b (some (putB fb (greatO 0) (greatB 0 0 0 0)))) a = some f2) := Lib.hid ((upd_other _ _ _ _ hab).trans HA5.out)
         have HB6 : Hid ((upd B5 b (some (putB fb (greatO 0) (greatB 0 0 0 0)))) b = some (putB fb (greatO 0) (greatB 0 0 0 0))) := Lib.hid (upd_same _ _ _)
         obtain ⟨B6, hB6⟩ : ∃ B : Bks, B = upd B5 b (some (putB fb (greatO 0) (greatB 0 0 0 0))) := ⟨_, rfl⟩
         rw [← hB6] at hS HA6 HB6
         clear hB6
         go_wp2_with fail
         refine (num_any _ _).mono ?_
         rintro e wx ⟨rfl, rfl⟩
         have x0 : V7.cell? ⟨ga, 0, none⟩ = some (.int .i64 (a : Int)) := (hS.row 2 _ rfl).cell 0
         have x1 : V7.cell? ⟨ga, 1, none⟩ = some (.int .i64 (ka : Int)) := (hS.row 2 _ rfl).cell 1
         have x2 : V7.cell? ⟨ga, 2, none⟩ = some (.int .i64 (ja : Int)) := (hS.row 2 _ rfl).cell 2
         have hP := Lib.hid (St.get H hS ht ⟨ha, hka, hja⟩ HA6.out hAr)
         clear hS
         go_wp2_with fail
         refine hP.out.mono ?_
         rintro e V8 ⟨rfl, hS⟩
         clear hP x0 x1 x2
         have hS := St.alloc H hS 41 [.int .i64 (ta : Int), .int .i64 (ya : Int), .int .u32 (n0 : Int)]
         have x0 : (V8.alloc (.cells #[.int .i64 (ta : Int), .int .i64 (ya : Int), .int .u32 (n0 : Int)] 41)).cell? ⟨gb, 0, none⟩ = some (.int .i64 (b : Int)) := (hS.row 4 _ rfl).cell 0
         have x1 : (V8.alloc (.cells #[.int .i64 (ta : Int), .int .i64 (ya : Int), .int .u32 (n0 : Int)] 41)).cell? ⟨gb, 1, none⟩ = some (.int .i64 (kb : Int)) := (hS.row 4 _ rfl).cell 1
         have x2 : (V8.alloc (.cells #[.int .i64 (ta : Int), .int .i64 (ya : Int), .int .u32 (n0 : Int)] 41)).cell? ⟨gb, 2, none⟩ = some (.int .i64 (jb : Int)) := (hS.row 4 _ rfl).cell 2
         have hP := Lib.hid (St.get H hS ht ⟨hbb, hkb, hjb⟩ HB6.out hrB)
         clear hS
         go_wp2_with fail
         refine hP.out.mono ?_
         rintro e V9 ⟨rfl, hS⟩
         clear hP x0 x1 x2
         have hS := St.alloc H hS 41 [.int .i64 (tb : Int), .int .i64 (yb : Int), .int .u32 (n1 : Int)]
         have x0 : (V9.alloc (.cells #[.int .i64 (tb : Int), .int .i64 (yb : Int), .int .u32 (n1 : Int)] 41)).cell? ⟨ga, 0, none⟩ = some (.int .i64 (a : Int)) := (hS.row 4 _ rfl).cell 0
         have hP := Lib.hid (St.gget H hS ht ha (by omega) HA6.out hAg)
         clear hS
         go_wp2_with fail
         refine hP.out.mono ?_
         rintro e VA ⟨rfl, hS⟩
         clear hP x0
         have hS := St.alloc H hS 43 [.int .i64 0, .int .i64 0, .int .i64 0, .int .i64 0]
         have x0 : (VA.alloc (.cells #[.int .i64 0, .int .i64 0, .int .i64 0, .int .i64 0] 43)).cell? ⟨V8.heap.size, 0, none⟩ = some (.int .i64 (ta : Int)) := (hS.row 2 _ rfl).cell 0
         have x1 : (VA.alloc (.cells #[.int .i64 0, .int .i64 0, .int .i64 0, .int .i64 0] 43)).cell? ⟨V8.heap.size, 1, none⟩ = some (.int .i64 (ya : Int)) := (hS.row 2 _ rfl).cell 1
         have x2 : (VA.alloc (.cells #[.int .i64 0, .int .i64 0, .int .i64 0, .int .i64 0] 43)).cell? ⟨V8.heap.size, 2, none⟩ = some (.int .u32 (n0 : Int)) := (hS.row 2 _ rfl).cell 2
         have y0 : (VA.alloc (.cells #[.int .i64 0, .int .i64 0, .int .i64 0, .int .i64 0] 43)).cell? ⟨V9.heap.size, 0, none⟩ = some (.int .i64 (tb : Int)) := (hS.row 1 _ rfl).cell 0
         have y1 : (VA.alloc (.cells #[.int .i64 0, .int .i64 0, .int .i64 0, .int .i64 0] 43)).cell? ⟨V9.heap.size, 1, none⟩ = some (.int .i64 (yb : Int)) := (hS.row 1 _ rfl).cell 1
         have y2 : (VA.alloc (.cells #[.int .i64 0, .int .i64 0, .int .i64 0, .int .i64 0] 43)).cell? ⟨V9.heap.size, 2, none⟩ = some (.int .u32 (n1 : Int)) := (hS.row 1 _ rfl).cell 2
         have z0 : (VA.alloc (.cells #[.int .i64 0, .int .i64 0, .int .i64 0, .int .i64 0] 43)).cell? ⟨w.heap.size + 1, 0, none⟩ = some (.int .i64 (ta : Int)) := (hS.row 8 _ rfl).cell 0
         have z1 : (VA.alloc (.cells #[.int .i64 0, .int .i64 0, .int .i64 0, .int .i64 0] 43)).cell? ⟨w.heap.size + 1, 1, none⟩ = some (.int .i64 (ya : Int)) := (hS.row 8 _ rfl).cell 1
         have z2 : (VA.alloc (.cells #[.int .i64 0, .int .i64 0, .int .i64 0, .int .i64 0] 43)).cell? ⟨w.heap.size + 1, 2, none⟩ = some (.int .u32 (n0 : Int)) := (hS.row 8 _ rfl).cell 2
         have z3 : (VA.alloc (.cells #[.int .i64 0, .int .i64 0, .int .i64 0, .int .i64 0] 43)).cell? ⟨w.heap.size + 1, 3, none⟩ = some (.int .i64 (tb : Int)) := (hS.row 8 _ rfl).cell 3
         have z4 : (VA.alloc (.cells #[.int .i64 0, .int .i64 0, .int .i64 0, .int .i64 0] 43)).cell? ⟨w.heap.size + 1, 4, none⟩ = some (.int .i64 (yb : Int)) := (hS.row 8 _ rfl).cell 4
         have z5 : (VA.alloc (.cells #[.int .i64 0, .int .i64 0, .int .i64 0, .int .i64 0] 43)).cell? ⟨w.heap.size + 1, 5, none⟩ = some (.int .u32 (n1 : Int)) := (hS.row 8 _ rfl).cell 5
         have s0 : (VA.alloc (.cells #[.int .i64 0, .int .i64 0, .int .i64 0, .int .i64 0] 43)).cell? ⟨V5.heap.size, 0, none⟩ = some (.int .i64 0) := (hS.row 4 _ rfl).cell 0
         have s1 : (VA.alloc (.cells #[.int .i64 0, .int .i64 0, .int .i64 0, .int .i64 0] 43)).cell? ⟨V5.heap.size, 1, none⟩ = some (.int .i64 0) := (hS.row 4 _ rfl).cell 1
         have s2 : (VA.alloc (.cells #[.int .i64 0, .int .i64 0, .int .i64 0, .int .i64 0] 43)).cell? ⟨V5.heap.size, 2, none⟩ = some (.int .i64 0) := (hS.row 4 _ rfl).cell 2
         have s3 : (VA.alloc (.cells #[.int .i64 0, .int .i64 0, .int .i64 0, .int .i64 0] 43)).cell? ⟨V5.heap.size, 3, none⟩ = some (.int .i64 0) := (hS.row 4 _ rfl).cell 3
         have u0 : (VA.alloc (.cells #[.int .i64 0, .int .i64 0, .int .i64 0, .int .i64 0] 43)).cell? ⟨VA.heap.size, 0, none⟩ = some (.int .i64 0) := (hS.row 0 _ rfl).cell 0
         have u1 : (VA.alloc (.cells #[.int .i64 0, .int .i64 0, .int .i64 0, .int .i64 0] 43)).cell? ⟨VA.heap.size, 1, none⟩ = some (.int .i64 0) := (hS.row 0 _ rfl).cell 1
         have u2 : (VA.alloc (.cells #[.int .i64 0, .int .i64 0, .int .i64 0, .int .i64 0] 43)).cell? ⟨VA.heap.size, 2, none⟩ = some (.int .i64 0) := (hS.row 0 _ rfl).cell 2
         have u3 : (VA.alloc (.cells #[.int .i64 0, .int .i64 0, .int .i64 0, .int .i64 0] 43)).cell? ⟨VA.heap.size, 3, none⟩ = some (.int .i64 0) := (hS.row 0 _ rfl).cell 3
         have aa0 : (VA.alloc (.cells #[.int .i64 0, .int .i64 0, .int .i64 0, .int .i64 0] 43)).cell? ⟨ga, 0, none⟩ = some (.int .i64 (a : Int)) := (hS.row 5 _ rfl).cell 0
         have gg0 : (VA.alloc (.cells #[.int .i64 0, .int .i64 0, .int .i64 0, .int .i64 0] 43)).cell? ⟨w.heap.size + 2, 0, none⟩ = some (.int .i64 gs) := (hS.row 9 _ rfl).cell 0
         have gg1 : (VA.alloc (.cells #[.int .i64 0, .int .i64 0, .int .i64 0, .int .i64 0] 43)).cell? ⟨w.heap.size + 2, 1, none⟩ = some (.int .i64 gp) := (hS.row 9 _ rfl).cell 1
         have gg2 : (VA.alloc (.cells #[.int .i64 0, .int .i64 0, .int .i64 0, .int .i64 0] 43)).cell? ⟨w.heap.size + 2, 2, none⟩ = some (.int .i64 gz) := (hS.row 9 _ rfl).cell 2
         have gg3 : (VA.alloc (.cells #[.int .i64 0, .int .i64 0, .int .i64 0, .int .i64 0] 43)).cell? ⟨w.heap.size + 2, 3, none⟩ = some (.int .i64 gf) := (hS.row 9 _ rfl).cell 3
         go_wp2_with fail
         refine (num_any _ _).mono ?_
         rintro e wx ⟨rfl, rfl⟩
         go_wp2_with fail
         refine (num_any _ _).mono ?_
         rintro e wx ⟨rfl, rfl⟩
         go_wp2_with fail
         refine (num_any _ _).mono ?_
         rintro e wx ⟨rfl, rfl⟩
         go_wp2_with fail
         refine (num_any _ _).mono ?_
         rintro e wx ⟨rfl, rfl⟩
         rcases St.gput H hS ht ha HA6.out 0 (by omega) gs gp gz gf with ⟨q1, q2, q3, q4, rfl, rfl, rfl, rfl, hq1, hq2, hq3, hq4, hP⟩ | hP
         ·have hP := Lib.hid hP
          clear hS
          go_wp2_with fail
          refine hP.out.mono ?_
          rintro e VB ⟨rfl, hS⟩
          clear hP x0 x1 x2 y0 y1 y2 z0 z1 z2 z3 z4 z5 s0 s1 s2 s3 u0 u1 u2 u3 aa0 gg0 gg1 gg2 gg3
          have hgG : greatAt (putB f2 (greatO 0) (greatB q1 q2 q3 q4)) (greatO 0) = some (q1, q2, q3, q4) := great_back _ _ _ _ _ _ hq1 hq2 hq3 hq4
          have hrG : recAt (putB f2 (greatO 0) (greatB q1 q2 q3 q4)) (recO ka ja) = some (ta, ya, n0) := by rw [rec_out _ _ _ _ (.inl (by have := rec_lt hka hja; unfold greatO; omega))]; exact hAr
          have HF : Hid ((upd B6 a (some (putB f2 (greatO 0) (greatB q1 q2 q3 q4)))) a = some (putB f2 (greatO 0) (greatB q1 q2 q3 q4))) := Lib.hid (upd_same _ _ _)
          obtain ⟨BB, hBB⟩ : ∃ B : Bks, B = upd B6 a (some (putB f2 (greatO 0) (greatB q1 q2 q3 q4))) := ⟨_, rfl⟩
          rw [← hBB] at hS HF
          clear hBB
          go_wp2_with fail
          refine (num_any _ _).mono ?_
          rintro e wx ⟨rfl, rfl⟩
          have x0 : VB.cell? ⟨ga, 0, none⟩ = some (.int .i64 (a : Int)) := (hS.row 5 _ rfl).cell 0
          have hP := Lib.hid (St.gget H hS ht ha (by omega) HF.out hgG)
          clear hS
          go_wp2_with fail
          refine hP.out.mono ?_
          rintro e VC ⟨rfl, hS⟩
          clear hP x0
          have hS := St.alloc H hS 43 [.int .i64 (q1 : Int), .int .i64 (q2 : Int), .int .i64 (q3 : Int), .int .i64 (q4 : Int)]
          have x0 : (VC.alloc (.cells #[.int .i64 (q1 : Int), .int .i64 (q2 : Int), .int .i64 (q3 : Int), .int .i64 (q4 : Int)] 43)).cell? ⟨ga, 0, none⟩ = some (.int .i64 (a : Int)) := (hS.row 6 _ rfl).cell 0
          have x1 : (VC.alloc (.cells #[.int .i64 (q1 : Int), .int .i64 (q2 : Int), .int .i64 (q3 : Int), .int .i64 (q4 : Int)] 43)).cell? ⟨ga, 1, none⟩ = some (.int .i64 (ka : Int)) := (hS.row 6 _ rfl).cell 1
          have x2 : (VC.alloc (.cells #[.int .i64 (q1 : Int), .int .i64 (q2 : Int), .int .i64 (q3 : Int), .int .i64 (q4 : Int)] 43)).cell? ⟨ga, 2, none⟩ = some (.int .i64 (ja : Int)) := (hS.row 6 _ rfl).cell 2
          have hP := Lib.hid (St.get H hS ht ⟨ha, hka, hja⟩ HF.out hrG)
          clear hS
          go_wp2_with fail
          refine hP.out.mono ?_
          rintro e VD ⟨rfl, hS⟩
          clear hP x0 x1 x2
          have hS := St.alloc H hS 41 [.int .i64 (ta : Int), .int .i64 (ya : Int), .int .u32 (n0 : Int)]
          have x0 : (VD.alloc (.cells #[.int .i64 (ta : Int), .int .i64 (ya : Int), .int .u32 (n0 : Int)] 41)).cell? ⟨VC.heap.size, 0, none⟩ = some (.int .i64 (q1 : Int)) := (hS.row 1 _ rfl).cell 0
          have x1 : (VD.alloc (.cells #[.int .i64 (ta : Int), .int .i64 (ya : Int), .int .u32 (n0 : Int)] 41)).cell? ⟨VC.heap.size, 1, none⟩ = some (.int .i64 (q2 : Int)) := (hS.row 1 _ rfl).cell 1
          have x2 : (VD.alloc (.cells #[.int .i64 (ta : Int), .int .i64 (ya : Int), .int .u32 (n0 : Int)] 41)).cell? ⟨VC.heap.size, 2, none⟩ = some (.int .i64 (q3 : Int)) := (hS.row 1 _ rfl).cell 2
          have x3 : (VD.alloc (.cells #[.int .i64 (ta : Int), .int .i64 (ya : Int), .int .u32 (n0 : Int)] 41)).cell? ⟨VC.heap.size, 3, none⟩ = some (.int .i64 (q4 : Int)) := (hS.row 1 _ rfl).cell 3
          have y0 : (VD.alloc (.cells #[.int .i64 (ta : Int), .int .i64 (ya : Int), .int .u32 (n0 : Int)] 41)).cell? ⟨w.heap.size + 2, 0, none⟩ = some (.int .i64 (q1 : Int)) := (hS.row 11 _ rfl).cell 0
          have y1 : (VD.alloc (.cells #[.int .i64 (ta : Int), .int .i64 (ya : Int), .int .u32 (n0 : Int)] 41)).cell? ⟨w.heap.size + 2, 1, none⟩ = some (.int .i64 (q2 : Int)) := (hS.row 11 _ rfl).cell 1
          have y2 : (VD.alloc (.cells #[.int .i64 (ta : Int), .int .i64 (ya : Int), .int .u32 (n0 : Int)] 41)).cell? ⟨w.heap.size + 2, 2, none⟩ = some (.int .i64 (q3 : Int)) := (hS.row 11 _ rfl).cell 2
          have y3 : (VD.alloc (.cells #[.int .i64 (ta : Int), .int .i64 (ya : Int), .int .u32 (n0 : Int)] 41)).cell? ⟨w.heap.size + 2, 3, none⟩ = some (.int .i64 (q4 : Int)) := (hS.row 11 _ rfl).cell 3
          have z0 : (VD.alloc (.cells #[.int .i64 (ta : Int), .int .i64 (ya : Int), .int .u32 (n0 : Int)] 41)).cell? ⟨VD.heap.size, 0, none⟩ = some (.int .i64 (ta : Int)) := (hS.row 0 _ rfl).cell 0
          have z1 : (VD.alloc (.cells #[.int .i64 (ta : Int), .int .i64 (ya : Int), .int .u32 (n0 : Int)] 41)).cell? ⟨VD.heap.size, 1, none⟩ = some (.int .i64 (ya : Int)) := (hS.row 0 _ rfl).cell 1
          have z2 : (VD.alloc (.cells #[.int .i64 (ta : Int), .int .i64 (ya : Int), .int .u32 (n0 : Int)] 41)).cell? ⟨VD.heap.size, 2, none⟩ = some (.int .u32 (n0 : Int)) := (hS.row 0 _ rfl).cell 2
          have s0 : (VD.alloc (.cells #[.int .i64 (ta : Int), .int .i64 (ya : Int), .int .u32 (n0 : Int)] 41)).cell? ⟨w.heap.size + 1, 0, none⟩ = some (.int .i64 (ta : Int)) := (hS.row 10 _ rfl).cell 0
          have s1 : (VD.alloc (.cells #[.int .i64 (ta : Int), .int .i64 (ya : Int), .int .u32 (n0 : Int)] 41)).cell? ⟨w.heap.size + 1, 1, none⟩ = some (.int .i64 (ya : Int)) := (hS.row 10 _ rfl).cell 1
          have s2 : (VD.alloc (.cells #[.int .i64 (ta : Int), .int .i64 (ya : Int), .int .u32 (n0 : Int)] 41)).cell? ⟨w.heap.size + 1, 2, none⟩ = some (.int .u32 (n0 : Int)) := (hS.row 10 _ rfl).cell 2
          go_wp2_with fail
          refine (num_any _ _).mono ?_
          rintro e wx ⟨rfl, rfl⟩
          go_wp2_with fail
          refine (num_any _ _).mono ?_
          rintro e wx ⟨rfl, rfl⟩
          obtain ⟨NN, hNN⟩ : ∃ n : Nat, n = 100 - 48 - 48 := ⟨_, rfl⟩
          rw [← hNN] at hS
          clear hNN
          obtain ⟨LL, hLL⟩ : ∃ L : List Rw, L = [(VD.heap.size, 41, [.int .i64 (ta : Int), .int .i64 (ya : Int), .int .u32 (n0 : Int)]), (VC.heap.size, 43, [.int .i64 (q1 : Int), .int .i64 (q2 : Int), .int .i64 (q3 : Int), .int .i64 (q4 : Int)]), (VA.heap.size, 43, [.int .i64 0, .int .i64 0, .int .i64 0, .int .i64 0]), (V9.heap.size, 41, [.int .i64 (tb : Int), .int .i64 (yb : Int), .int .u32 (n1 : Int)]), (V8.heap.size, 41, [.int .i64 (ta : Int), .int .i64 (ya : Int), .int .u32 (n0 : Int)]), (V5.heap.size + 1, 37, [.int .i64 (a : Int), .int .i64 (kb : Int), .int .i64 (jb : Int)]), (V5.heap.size, 43, [.int .i64 0, .int .i64 0, .int .i64 0, .int .i64 0]), (ga, 37, [.int .i64 (a : Int), .int .i64 (ka : Int), .int .i64 (ja : Int)]), (gb, 37, [.int .i64 (b : Int), .int .i64 (kb : Int), .int .i64 (jb : Int)]), (w.heap.size, 73, [.int .i64 (a : Int), .int .i64 (ka : Int), .int .i64 (ja : Int), .int .i64 (b : Int), .int .i64 (kb : Int), .int .i64 (jb : Int)]), (w.heap.size + 1, 74, [.int .i64 (ta : Int), .int .i64 (ya : Int), .int .u32 (n0 : Int), .int .i64 (tb : Int), .int .i64 (yb : Int), .int .u32 (n1 : Int)]), (w.heap.size + 2, 43, [.int .i64 (q1 : Int), .int .i64 (q2 : Int), .int .i64 (q3 : Int), .int .i64 (q4 : Int)])] := ⟨_, rfl⟩
          have HRA : Hid (∀ V, St Has w (.pointer (some ad)) BB NN LL V → V.cell? ⟨ga, 0, none⟩ = some (.int .i64 (a : Int))) := Lib.hid (fun V h => by subst hLL; exact (h.row 7 _ rfl).cell 0)
          rw [← hLL] at hS
          clear hLL
          have HS0 := Lib.hid hS
          clear hS
          go_wp2_with fail
          go_loopw [24] (fun t wr => ∃ k : Nat, k ≤ 4 ∧ t = .int .i64 (k : Int) ∧ Hid (St Has w (.pointer (some ad)) BB NN LL wr)) (fun t _ => 4 - (_root_.Go.RowKit.intOf t).toNat)
          case atStart => exact ⟨0, by omega, rfl, HS0⟩
          case round =>
           clear HS0
           obtain ⟨k, hk, rfl, HSr⟩ := hrel
           by_cases hk4 : k < 4
           ·have f0 : decide ((k : Int) < 4) = true := decide_eq_true (by omega)
            have fn : k < 4 := hk4
            clear hk hk4
            go_wp2_with fail
            go_loopw [25] (fun t wr => ∃ j : Nat, j ≤ 48 ∧ t = .int .i64 (j : Int) ∧ Hid (St Has w (.pointer (some ad)) BB NN LL wr)) (fun t _ => 48 - (_root_.Go.RowKit.intOf t).toNat)
            case atStart => exact ⟨0, by omega, rfl, HSr⟩
            case round =>
             clear HSr
             obtain ⟨j, hj, rfl, HSr⟩ := hrel
             by_cases hj4 : j < 48
             ·have f1 : decide ((j : Int) < 48) = true := decide_eq_true (by omega)
              have fn1 : j < 48 := hj4
              have z0 := HRA.out _ HSr.out
              have e1 : IntKind.i64.wrap (64 * (a : Int)) = ((64 * a : Nat) : Int) := (wrapI _ (by omega) (by omega)).trans (by omega)
              have e2 : IntKind.i64.wrap (((64 * a : Nat) : Int) + 1) = ((64 * a + 1 : Nat) : Int) := (wrapI _ (by omega) (by omega)).trans (by omega)
              have e3 : IntKind.i64.wrap (((64 * a + 1 : Nat) : Int) + (j : Int)) = ((64 * a + 1 + j : Nat) : Int) := (wrapI _ (by omega) (by omega)).trans (by omega)
              have e4 : IntKind.i64.wrap (256 * ((64 * a + 1 + j : Nat) : Int)) = ((256 * (64 * a + 1 + j) : Nat) : Int) := (wrapI _ (by omega) (by omega)).trans (by omega)
              have e5 : IntKind.u32.wrap ((256 * (64 * a + 1 + j) : Nat) : Int) = ((256 * (64 * a + 1 + j) : Nat) : Int) := by rw [IntKind.wrap_u32]; omega
              have e6 : IntKind.i64.wrap ((j : Int) + 1) = ((j + 1 : Nat) : Int) := (wrapI _ (by omega) (by omega)).trans (by omega)
              have HLd := Lib.hid (St.load H HSr.out ht ha fn HF.out fn1)
              have HSd := Lib.hid (fun (V : World) A (h : St Has w (.pointer (some ad)) BB NN ((V.heap.size, 5, [.int .u8 1]) :: LL) A) => St.store H h ht (some ⟨V.heap.size, 0, none⟩) 1 (show Sees A A.heap.size (some ⟨V.heap.size, 0, none⟩) (byt [1]) from Row.sees (h.row 0 _ rfl)) ha fn HF.out fn1)
              obtain ⟨u1, hu1⟩ : ∃ u, u = 256 * (64 * a + 1 + j) := ⟨_, rfl⟩
              rw [← hu1] at e4 e5 HLd HSd
              obtain ⟨u2, hu2⟩ : ∃ u, u = 64 * a + 1 + j := ⟨_, rfl⟩
              rw [← hu2] at e3 e4
              obtain ⟨u3, hu3⟩ : ∃ u, u = 64 * a + 1 := ⟨_, rfl⟩
              rw [← hu3] at e2 e3
              obtain ⟨u4, hu4⟩ : ∃ u, u = 64 * a := ⟨_, rfl⟩
              rw [← hu4] at e1 e2
              clear hu1 hu2 hu3 hu4 hj hj4
              go_wp2_with fail
              refine HLd.out.mono ?_
              rintro e Va ⟨⟨xv, rfl⟩, hS⟩
              clear z0 HLd
              have HS2 := Lib.hid (HSd.out Va _ (St.alloc H hS 5 [.int .u8 1]))
              clear hS HSd
              go_wp2_with fail
              refine (num_any _ _).mono ?_
              rintro e wx ⟨rfl, rfl⟩
              go_wp2_with fail
              refine HS2.out.mono ?_
              rintro e Vb ⟨rfl, hS⟩
              have HSn := Lib.hid (St.tail hS)
              clear hS HS2
              go_wp2_with fail
              refine (num_any _ _).mono ?_
              rintro e wx ⟨rfl, rfl⟩
              go_wp2_with fail
              go_roundw
              case rel => exact ⟨j + 1, by omega, by first | rfl | go_num, HSn⟩
              case measure => simp [_root_.Go.RowKit.intOf]; omega
             ·obtain rfl : j = 48 := by omega
              have e6 : IntKind.i64.wrap ((k : Int) + 1) = ((k + 1 : Nat) : Int) := (wrapI _ (by omega) (by omega)).trans (by omega)
              go_wp2_with fail
              go_roundw
              case rel => exact ⟨k + 1, by omega, by first | rfl | go_num, HSr⟩
              case measure => simp [_root_.Go.RowKit.intOf]; omega
           ·obtain rfl : k = 4 := by omega
            have hS := HSr.out
            go_wp2_with fail
            refine (hW.out _ hS.low).mono ?_
            rintro e w9 ⟨rfl, hb'⟩
            have hb := hS.low.trans (hb'.mono hS.low.size)
            clear hb'
            go_wp2_with fail
            go_ret
            exact ⟨rfl, hb⟩
         ·have hP := Lib.hid hP
          clear hS
          go_wp2_with fail
          refine hP.out.mono ?_
          rintro e VB ⟨rfl, hS⟩
          clear hP x0 x1 x2 y0 y1 y2 z0 z1 z2 z3 z4 z5 s0 s1 s2 s3 u0 u1 u2 u3 aa0 gg0 gg1 gg2 gg3
          have HF := HA6
          obtain ⟨BB, hBB⟩ : ∃ B : Bks, B = B6 := ⟨_, rfl⟩
          rw [← hBB] at hS HF
          clear hBB
          go_wp2_with fail
          refine (num_any _ _).mono ?_
          rintro e wx ⟨rfl, rfl⟩
          obtain ⟨NN, hNN⟩ : ∃ n : Nat, n = 100 - 48 - 48 := ⟨_, rfl⟩
          rw [← hNN] at hS
          clear hNN
          obtain ⟨LL, hLL⟩ : ∃ L : List Rw, L = [(VA.heap.size, 43, [.int .i64 0, .int .i64 0, .int .i64 0, .int .i64 0]), (V9.heap.size, 41, [.int .i64 (tb : Int), .int .i64 (yb : Int), .int .u32 (n1 : Int)]), (V8.heap.size, 41, [.int .i64 (ta : Int), .int .i64 (ya : Int), .int .u32 (n0 : Int)]), (V5.heap.size + 1, 37, [.int .i64 (a : Int), .int .i64 (kb : Int), .int .i64 (jb : Int)]), (V5.heap.size, 43, [.int .i64 0, .int .i64 0, .int .i64 0, .int .i64 0]), (ga, 37, [.int .i64 (a : Int), .int .i64 (ka : Int), .int .i64 (ja : Int)]), (gb, 37, [.int .i64 (b : Int), .int .i64 (kb : Int), .int .i64 (jb : Int)]), (w.heap.size, 73, [.int .i64 (a : Int), .int .i64 (ka : Int), .int .i64 (ja : Int), .int .i64 (b : Int), .int .i64 (kb : Int), .int .i64 (jb : Int)]), (w.heap.size + 1, 74, [.int .i64 (ta : Int), .int .i64 (ya : Int), .int .u32 (n0 : Int), .int .i64 (tb : Int), .int .i64 (yb : Int), .int .u32 (n1 : Int)]), (w.heap.size + 2, 43, [.int .i64 gs, .int .i64 gp, .int .i64 gz, .int .i64 gf])] := ⟨_, rfl⟩
          have HRA : Hid (∀ V, St Has w (.pointer (some ad)) BB NN LL V → V.cell? ⟨ga, 0, none⟩ = some (.int .i64 (a : Int))) := Lib.hid (fun V h => by subst hLL; exact (h.row 5 _ rfl).cell 0)
          rw [← hLL] at hS
          clear hLL
          have HS0 := Lib.hid hS
          clear hS
          go_wp2_with fail
          go_loopw [24] (fun t wr => ∃ k : Nat, k ≤ 4 ∧ t = .int .i64 (k : Int) ∧ Hid (St Has w (.pointer (some ad)) BB NN LL wr)) (fun t _ => 4 - (_root_.Go.RowKit.intOf t).toNat)
          case atStart => exact ⟨0, by omega, rfl, HS0⟩
          case round =>
           clear HS0
           obtain ⟨k, hk, rfl, HSr⟩ := hrel
           by_cases hk4 : k < 4
           ·have f0 : decide ((k : Int) < 4) = true := decide_eq_true (by omega)
            have fn : k < 4 := hk4
            clear hk hk4
            go_wp2_with fail
            go_loopw [25] (fun t wr => ∃ j : Nat, j ≤ 48 ∧ t = .int .i64 (j : Int) ∧ Hid (St Has w (.pointer (some ad)) BB NN LL wr)) (fun t _ => 48 - (_root_.Go.RowKit.intOf t).toNat)
            case atStart => exact ⟨0, by omega, rfl, HSr⟩
            case round =>
             clear HSr
             obtain ⟨j, hj, rfl, HSr⟩ := hrel
             by_cases hj4 : j < 48
             ·have f1 : decide ((j : Int) < 48) = true := decide_eq_true (by omega)
              have fn1 : j < 48 := hj4
              have z0 := HRA.out _ HSr.out
              have e1 : IntKind.i64.wrap (64 * (a : Int)) = ((64 * a : Nat) : Int) := (wrapI _ (by omega) (by omega)).trans (by omega)
              have e2 : IntKind.i64.wrap (((64 * a : Nat) : Int) + 1) = ((64 * a + 1 : Nat) : Int) := (wrapI _ (by omega) (by omega)).trans (by omega)
              have e3 : IntKind.i64.wrap (((64 * a + 1 : Nat) : Int) + (j : Int)) = ((64 * a + 1 + j : Nat) : Int) := (wrapI _ (by omega) (by omega)).trans (by omega)
              have e4 : IntKind.i64.wrap (256 * ((64 * a + 1 + j : Nat) : Int)) = ((256 * (64 * a + 1 + j) : Nat) : Int) := (wrapI _ (by omega) (by omega)).trans (by omega)
              have e5 : IntKind.u32.wrap ((256 * (64 * a + 1 + j) : Nat) : Int) = ((256 * (64 * a + 1 + j) : Nat) : Int) := by rw [IntKind.wrap_u32]; omega
              have e6 : IntKind.i64.wrap ((j : Int) + 1) = ((j + 1 : Nat) : Int) := (wrapI _ (by omega) (by omega)).trans (by omega)
              have HLd := Lib.hid (St.load H HSr.out ht ha fn HF.out fn1)
              have HSd := Lib.hid (fun (V : World) A (h : St Has w (.pointer (some ad)) BB NN ((V.heap.size, 5, [.int .u8 1]) :: LL) A) => St.store H h ht (some ⟨V.heap.size, 0, none⟩) 1 (show Sees A A.heap.size (some ⟨V.heap.size, 0, none⟩) (byt [1]) from Row.sees (h.row 0 _ rfl)) ha fn HF.out fn1)
              obtain ⟨u1, hu1⟩ : ∃ u, u = 256 * (64 * a + 1 + j) := ⟨_, rfl⟩
              rw [← hu1] at e4 e5 HLd HSd
              obtain ⟨u2, hu2⟩ : ∃ u, u = 64 * a + 1 + j := ⟨_, rfl⟩
              rw [← hu2] at e3 e4
              obtain ⟨u3, hu3⟩ : ∃ u, u = 64 * a + 1 := ⟨_, rfl⟩
              rw [← hu3] at e2 e3
              obtain ⟨u4, hu4⟩ : ∃ u, u = 64 * a := ⟨_, rfl⟩
              rw [← hu4] at e1 e2
              clear hu1 hu2 hu3 hu4 hj hj4
              go_wp2_with fail
              refine HLd.out.mono ?_
              rintro e Va ⟨⟨xv, rfl⟩, hS⟩
              clear z0 HLd
              have HS2 := Lib.hid (HSd.out Va _ (St.alloc H hS 5 [.int .u8 1]))
              clear hS HSd
              go_wp2_with fail
              refine (num_any _ _).mono ?_
              rintro e wx ⟨rfl, rfl⟩
              go_wp2_with fail
              refine HS2.out.mono ?_
              rintro e Vb ⟨rfl, hS⟩
              have HSn := Lib.hid (St.tail hS)
              clear hS HS2
              go_wp2_with fail
              refine (num_any _ _).mono ?_
              rintro e wx ⟨rfl, rfl⟩
              go_wp2_with fail
              go_roundw
              case rel => exact ⟨j + 1, by omega, by first | rfl | go_num, HSn⟩
              case measure => simp [_root_.Go.RowKit.intOf]; omega
             ·obtain rfl : j = 48 := by omega
              have e6 : IntKind.i64.wrap ((k : Int) + 1) = ((k + 1 : Nat) : Int) := (wrapI _ (by omega) (by omega)).trans (by omega)
              go_wp2_with fail
              go_roundw
              case rel => exact ⟨k + 1, by omega, by first | rfl | go_num, HSr⟩
              case measure => simp [_root_.Go.RowKit.intOf]; omega
           ·obtain rfl : k = 4 := by omega
            have hS := HSr.out
            go_wp2_with fail
            refine (hW.out _ hS.low).mono ?_
            rintro e w9 ⟨rfl, hb'⟩
            have hb := hS.low.trans (hb'.mono hS.low.size)
            clear hb'
            go_wp2_with fail
            go_ret
            exact ⟨rfl, hb⟩
end
end Go.Proofs.YtiahmccchpmdgaaGreatDoor.Me
