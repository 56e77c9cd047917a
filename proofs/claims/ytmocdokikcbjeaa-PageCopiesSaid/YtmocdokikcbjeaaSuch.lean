import Derived.Test.YtmocdokikcbjeaaLays
import Derived.Maps.RangeWalk
import Derived.Laws.IdiomRangeMap
import Derived.Deep.LoopGhost
namespace Go.Proofs.Ytmocdokikcbjeaa
open Go.RowKit Go.Shelf Go.Maps
attribute [local go_sem] Oper.semAt_some

/- AN OWNER's ENTRIES, IN ANOTHER MAP. -/
theorem ofO_ok {l : Tb} (h : Tok l) (f : Int × En → Bool) : Tok (l.filter f) :=
  ⟨h.sorted.filter _, fun r hr => h.page r (List.mem_filter.1 hr).1, fun r hr => h.right r (List.mem_filter.1 hr).1, h.frame.filter _, fun r hr => h.big r (List.mem_filter.1 hr).1⟩
theorem ins_before : ∀ {l : Tb} {z : Int} (e : En), (∀ r ∈ l, z < r.1) → ins l z e = (z, e) :: l
  | [], _, _, _ => rfl
  | r :: t, z, e, h => by rw [ins, if_pos (h r (by simp))]
theorem filter_ins : ∀ {l : Tb} {z : Int} {e : En} (f g : Int × En → Bool), l.Pairwise (fun a b => a.1 < b.1) → (z, e) ∈ l → f (z, e) = false → g (z, e) = true → (∀ r ∈ l, r.1 ≠ z → g r = f r) → ins (l.filter f) z e = l.filter g
  | [], z, e, f, g, _, h, _, _, _ => by simp at h
  | r :: t, z, e, f, g, hs, h, hf, hg, hfg => by
    obtain ⟨h1, h2⟩ := List.pairwise_cons.1 hs
    rcases List.mem_cons.1 h with rfl | h
    · rw [List.filter_cons_of_neg (by simp [hf]), List.filter_cons_of_pos hg, ins_before e (fun q hq => h1 q (List.mem_filter.1 hq).1)]
      congr 1
      refine List.filter_congr fun q hq => ?_
      exact (hfg q (by simp [hq]) (by have := h1 q hq; simp only at this; omega)).symm
    · have hlt := h1 _ h
      simp only at hlt
      have ih := filter_ins f g h2 h hf hg fun q hq => hfg q (by simp [hq])
      have e1 := hfg r (by simp) (by omega)
      cases hr : f r with
      | true => rw [List.filter_cons_of_pos hr, List.filter_cons_of_pos (by rw [e1, hr]), ins, if_neg (by omega), ih]
      | false => rw [List.filter_cons_of_neg (by simp [hr]), List.filter_cons_of_neg (by simp [e1, hr]), ih]
/-- those that have come, and are the owner's -/
def came (l : Tb) (o : Int) (left : Lit → Bool) : Tb := l.filter fun r => !left (.int .i64 r.1) && (r.2.1 == o)
theorem came_start (l : Tb) (o : Int) : came l o (Maps.has (mapP l)) = [] := by
  unfold came
  rw [List.filter_eq_nil_iff]
  intro r hr
  rw [mapP_has]
  have : (look l r.1).isSome = true := by
    cases h : look l r.1 with
    | none => exact absurd rfl (look_none.1 h r hr)
    | some _ => rfl
  simp [this]
theorem came_end (l : Tb) (o : Int) (left : Lit → Bool) (h : ∀ k, left k = false) : came l o left = ofO l o := by
  unfold came ofO
  refine List.filter_congr fun r _ => ?_
  rw [h]
  simp
theorem came_no {l : Tb} {o : Int} {left : Lit → Bool} {z : Int} {e : En} (hs : l.Pairwise (fun a b => a.1 < b.1)) (he : look l z = some e) (ho : (e.1 == o) = false) : came l o (fun k => left k && !k.sameKey (.int .i64 z)) = came l o left := by
  unfold came
  refine List.filter_congr fun r hr => ?_
  by_cases h : r.1 = z
  · have : r.2 = e := by
      have h2 := (look_mem hs).2 (show (r.1, r.2) ∈ l from hr)
      rw [h, he] at h2
      injection h2 with h2
      exact h2.symm
    rw [this, ho, Bool.and_false, Bool.and_false]
  · simp [same_i, h]
theorem came_yes {l : Tb} {o : Int} {left : Lit → Bool} {z : Int} {e : En} (hs : l.Pairwise (fun a b => a.1 < b.1)) (he : look l z = some e) (hl : left (.int .i64 z) = true) (ho : (e.1 == o) = true) :
    look (came l o left) z = none ∧ ins (came l o left) z e = came l o (fun k => left k && !k.sameKey (.int .i64 z)) := by
  have hm := look_some he
  refine ⟨look_none.2 fun r hr h => ?_, ?_⟩
  · have := (List.mem_filter.1 hr).2
    rw [h, hl] at this
    simp at this
  · unfold came
    refine filter_ins _ _ hs hm (by simp [hl]) (by simp [same_i, ho]) fun r _ h => ?_
    simp [same_i, h]
theorem came_len (l : Tb) (o : Int) (left : Lit → Bool) : (came l o left).length ≤ l.length := List.length_filter_le _ _

theorem isown_any (g : Nat) (o : Int) (x : En) (w : World) (hc : w.cell? ⟨g, 0, none⟩ = some (.int .i64 o)) : Calls Try.prog 36 #[enV x, bx g] w fun e w' => e = .returned (.bool (x.1 == o)) ∧ Below w.heap.size w w' := by
  obtain ⟨x1, x2, x3⟩ := x
  have hb := Lib.hid (below1 w (.cells #[.int .i64 x1, .int .i64 x2, .int .i64 x3] 34))
  have hl := lt_of_cell hc
  simp only at hl
  show Calls _ _ #[.agg #[.int .i64 x1, .int .i64 x2, .int .i64 x3], _] _ _
  go_enter Try.func36, Try.ntmps36
  go_wp2_with fail
  go_ret
  exact ⟨rfl, hb.out⟩

set_option maxHeartbeats 4000000 in
set_option maxRecDepth 100000 in
theorem such_any {bp : Nat} {l : Tb} {w : World} (hok : Tok l) (hm : PMap w bp l) (g : Nat) (o : Int) (hc : w.cell? ⟨g, 0, none⟩ = some (.int .i64 o)) :
    Calls Try.prog 35 #[.map (some bp), .func (.func 36) #[] #[bx g]] w fun e w' => e = .returned (.map (some w.heap.size)) ∧ PMap w' w.heap.size (ofO l o) ∧ Below w.heap.size w w' := by
  have hmm := @run_makeMap Try.prog
  have hgl := lt_of_cell hc
  simp only at hgl
  have hpl := hm.lt
  obtain ⟨w1, hw1⟩ : ∃ w1, w1 = w.alloc (.map #[] 0) := ⟨_, rfl⟩
  have hb1 : Below w.heap.size w w1 := hw1 ▸ below1 w _
  have hm1 : PMap w1 bp l := owns_same hm (hb1.block _ hpl)
  have hn1 : PMap w1 w.heap.size [] := by
    rw [hw1]
    exact (World.ownsMap_made w Try.prog 3 entR).mono (Nat.zero_le _)
  have HS1 := Lib.hid (show w1.heap.size = w.heap.size + 1 by rw [hw1, World.size_alloc])
  have HC := Lib.hid (fun (V : World) (hV : Below w.heap.size w V) (x : En) => isown_any g o x V ((hV.cell (p := ⟨g, 0, none⟩) hgl).trans hc))
  have HS := Lib.hid hok.sorted
  have HLN := Lib.hid hok.len
  have HAT := Lib.hid (fun (z : Int) (v : Value) (y : DataW Unit × List MemPlace) (h1 : entR v = some y) (h2 : ∀ zd, (mapP l).atKey (.int .i64 z) zd = y.1) => (show ∃ e : En, v = enV e ∧ look l z = some e from by
    obtain ⟨x, rfl, rfl⟩ := entR_inv h1
    refine ⟨x, rfl, ?_⟩
    have h3 := h2 .nil
    rw [mapP_at] at h3
    cases hl : look l z with
    | none => rw [hl] at h3; cases h3
    | some e =>
      rw [hl] at h3
      rw [entD_inj h3]))
  have HX := Lib.hid hw1
  have HB1 := Lib.hid hb1
  have HN1 := Lib.hid hn1
  have HL := Lib.hid (And.intro hpl hgl)
  clear hok hm hc hw1 hb1 hn1
  go_enter Try.func35, Try.ntmps35
  go_wp2_with (first
    | (at_range; rw [← HX.out]; refine wpList_range_own _ rfl _ 70 rfl 3 34 law Try.underlying70 entR bp 65536 _ rfl hm1 ?_; intro w0 hrg0 hg0 hs0)
    | go_in)
  go_frame
  go_loopw [13] (fun _ wr => ∃ (left : Lit → Bool) (cnt : Nat), wr.ranges Try.prog 3 entR bp w1.heap.size 65536 (mapP l) left cnt ∧ PMap wr w.heap.size (came l o left) ∧ Below w.heap.size w wr) (fun _ wr => wr.rangeLeft bp w1.heap.size)
  case atStart =>
    refine ⟨_, _, hrg0, ?_, HB1.out.grown hg0 HB1.out.size (fun r e => by cases e)⟩
    rw [came_start]
    exact owns_same HN1.out (hg0.block _ (by have := HS1.out; omega) (by simp))
  case round =>
    obtain ⟨left, cnt, hrg, hown, hb0⟩ := hrel
    have hrl := hrg.lt
    go_wp2_with (first
      | (at_next; refine wpList_next_ranges _ rfl _ rfl 3 law entR (fun x : Int => Value.int .i64 x) (fun x : En => Value.agg #[.int .i64 x.1, .int .i64 x.2.1, .int .i64 x.2.2]) (fun key kl hk => by obtain ⟨x, rfl, _⟩ := Maps.keyOf_int_inv Try.underlying3 hk; exact ⟨x, rfl⟩) (fun v y hv => by obtain ⟨x, rfl, _⟩ := entR_inv hv; exact ⟨x, rfl⟩) bp w1.heap.size 65536 _ _ _ rfl hrg ?_ ?_)
      | go_in)
    · -- nothing is left
      intro _ hl0
      have he := came_end l o left hl0
      have hfin := Lib.hid (And.intro (he ▸ hown : PMap wr w.heap.size (ofO l o)) hb0)
      clear he hown hb0 hrg
      go_wp2
      go_ret
      exact ⟨rfl, hfin.out⟩
    · intro z x1 x2 x3 kl yd yp w2 cnt2 hkey hlx hv hat hrg2 hlt hg2 hs2 hen
      obtain ⟨z', ez, rfl, hwz⟩ := Maps.keyOf_int_inv Try.underlying3 hkey
      cases ez
      obtain ⟨e', ee, he⟩ := HAT.out z (enV (x1, x2, x3)) (yd, yp) hv hat
      have hxe : (x1, x2, x3) = e' := entD_inj (congrArg Prod.fst (Option.some.inj ((entR_en (x1, x2, x3)).symm.trans ((congrArg entR ee).trans (entR_en e')))))
      subst hxe
      have hb2 : Below w.heap.size w w2 := hb0.grown hg2 hb0.size (fun r e => by cases e; have := HS1.out; omega)
      have hown2 : PMap w2 w.heap.size (came l o left) := owns_same hown (hg2.block _ hown.lt (fun e => by have := Option.some.inj e; have := HS1.out; have := HL.out; omega))
      have hb3 : Below w2.heap.size w2 (w2.alloc (.cells #[.int .i64 x1, .int .i64 x2, .int .i64 x3] 34)) := below1 w2 _
      have HCL := Lib.hid (show Calls Try.prog 36 #[.agg #[.int .i64 x1, .int .i64 x2, .int .i64 x3], bx g] (w2.alloc (.cells #[.int .i64 x1, .int .i64 x2, .int .i64 x3] 34)) (fun e w' => e = .returned (.bool (x1 == o)) ∧ Below (w2.alloc (.cells #[.int .i64 x1, .int .i64 x2, .int .i64 x3] 34)).heap.size (w2.alloc (.cells #[.int .i64 x1, .int .i64 x2, .int .i64 x3] 34)) w') from HC.out _ (below0 hb2 hb3) (x1, x2, x3))
      have HY := Lib.hid (fun (h : (x1 == o) = true) => came_yes (left := left) HS.out he hlx h)
      have HNO := Lib.hid (fun (h : (x1 == o) = false) => came_no (left := left) HS.out he h)
      have hl2 := hrg2.lt
      have hbl2 := hrg2.owns.lt
      have HLE := Lib.hid (show w.heap.size ≤ w2.heap.size from hb2.size)
      have hml := hown2.lt
      have HG := Lib.hid (And.intro hrg2 (And.intro hown2 (And.intro hb2 hb3)))
      have HLEFT := Lib.hid (show w2.rangeLeft bp w1.heap.size = cnt2 ∧ wr.rangeLeft bp w1.heap.size = cnt from ⟨hrg2.left_eq, hrg.left_eq⟩)
      have HLT := Lib.hid hlt
      have HKZ := Lib.hid hkey
      clear hrg hrg2 hown hown2 hb0 hb2 hb3 hv hat ee hg2 hs2 hlx he hlt hkey hwz
      cases hq : (x1 == o) with
      | false =>
        rw [hq] at HCL
        have HN := Lib.hid (HNO.out hq)
        clear HY HNO hq
        go_wp2_with fail
        refine HCL.out.mono ?_
        rintro e w3 ⟨rfl, hb4⟩
        obtain ⟨g1, g2, g3, g4⟩ := HG.out
        have hb5 := below0 g4 hb4
        have HR := Lib.hid (And.intro (ranges_same g1 (hb5.block _ hbl2) (hb5.block _ hl2)) (And.intro (show PMap w3 w.heap.size (came l o fun k => left k && !k.sameKey (.int .i64 z)) from HN.out ▸ owns_same g2 (hb5.block _ hml)) (below0 g3 hb5)))
        clear g1 g2 g3 g4 hb4 hb5
        go_wp2_with fail
        go_roundw
        case rel => exact ⟨fun k => left k && !k.sameKey (.int .i64 z), cnt2, HR.out⟩
        case measure => rw [HR.out.1.left_eq, HLEFT.out.2]; exact HLT.out
      | true =>
        rw [hq] at HCL
        have HN := Lib.hid (HY.out hq)
        clear HY HNO hq
        go_wp2_with fail
        refine HCL.out.mono ?_
        rintro e w3 ⟨rfl, hb4⟩
        obtain ⟨g1, g2, g3, g4⟩ := HG.out
        have hb5 := below0 g4 hb4
        have hr3 := Lib.hid (ranges_same g1 (hb5.block _ hbl2) (hb5.block _ hl2))
        have hown3 := owns_same g2 (hb5.block _ hml)
        have hb6 := Lib.hid (below0 g3 hb5)
        have k0 : w3.cell? ⟨w2.heap.size, 0, none⟩ = some (.int .i64 x1) := (hb4.cell (p := ⟨w2.heap.size, 0, none⟩) (by simp)).trans (cell_alloc_new _ _ _ _)
        have k1 : w3.cell? ⟨w2.heap.size, 1, none⟩ = some (.int .i64 x2) := (hb4.cell (p := ⟨w2.heap.size, 1, none⟩) (by simp)).trans (cell_alloc_new _ _ _ _)
        have k2 : w3.cell? ⟨w2.heap.size, 2, none⟩ = some (.int .i64 x3) := (hb4.cell (p := ⟨w2.heap.size, 2, none⟩) (by simp)).trans (cell_alloc_new _ _ _ _)
        have hval : entR (.agg #[.int .i64 x1, .int .i64 x2, .int .i64 x3]) = some (entD (x1, x2, x3), []) := entR_en (x1, x2, x3)
        have HFIN := Lib.hid (fun (w4 : World) (ho : w4.ownsMap Try.prog 3 entR w.heap.size (65536 + 1) ((mapP (came l o left)).put (.int .i64 z) (entD (x1, x2, x3)))) (hg : w3.grownBy w4 (some w.heap.size)) =>
          (show w4.ranges Try.prog 3 entR bp w1.heap.size 65536 (mapP l) (fun k => left k && !k.sameKey (.int .i64 z)) cnt2 ∧ PMap w4 w.heap.size (came l o fun k => left k && !k.sameKey (.int .i64 z)) ∧ Below w.heap.size w w4 from by
            refine ⟨hr3.out.kept hg (fun e => by have := Option.some.inj e; have := HS1.out; have := HL.out; omega) (fun e => by have := Option.some.inj e; have := HS1.out; have := HL.out; omega), ?_, hb6.out.grown hg hb6.out.size (fun r e => by cases e; exact Nat.le_refl _)⟩
            rw [mapP_put _ HN.out.1, HN.out.2] at ho
            refine owns_tight ho ?_
            rw [mapP_size]
            exact Nat.le_trans (came_len _ _ _) HLN.out))
        have hkz := HKZ.out
        obtain ⟨D, hD⟩ : ∃ D, D = mapP (came l o left) := ⟨_, rfl⟩
        have hown3 : w3.ownsMap Try.prog 3 entR w.heap.size 65536 D := by rw [hD]; exact hown3
        rw [← hD] at HFIN
        clear g1 g2 g3 g4 hb4 hb5 hD
        go_wp2_with (at_mapUpdate; refine wpList_mapUpdate_own _ rfl _ _ _ 70 rfl 3 34 law Try.underlying70 entR w.heap.size 65536 D rfl hown3 (by decide) _ _ _ rfl rfl hkz _ _ hval ?_; intro w4 hown4 hg4; have HR := Lib.hid (HFIN.out w4 hown4 hg4); clear hown4 hg4)
        simp only [Act.put]
        go_roundw
        case rel => exact ⟨fun k => left k && !k.sameKey (.int .i64 z), cnt2, HR.out⟩
        case measure => rw [HR.out.1.left_eq, HLEFT.out.2]; exact HLT.out
end Go.Proofs.Ytmocdokikcbjeaa
