import Derived.Test.YtmocdokikcbjeaaCollect
namespace Go.Proofs.Ytmocdokikcbjeaa
open Go.RowKit Go.Shelf Go.Maps Go.Sort
attribute [local go_sem] Oper.semAt_some

/- ARE TWO MAPS OF ENTRIES THE SAME? -/
theorem sub_of : ∀ (l2 l1 : Tb), l1.Pairwise (fun a b => a.1 < b.1) → l2.Pairwise (fun a b => a.1 < b.1) → (∀ r ∈ l1, r ∈ l2) → l1.Sublist l2
  | [], l1, _, _, h => by
    cases l1 with
    | nil => exact List.Sublist.refl _
    | cons a t => exact absurd (h a (by simp)) (by simp)
  | b :: t2, [], _, _, _ => List.nil_sublist _
  | b :: t2, a :: t1, h1, h2, h => by
    obtain ⟨g1, g2⟩ := List.pairwise_cons.1 h1
    obtain ⟨k1, k2⟩ := List.pairwise_cons.1 h2
    by_cases hab : a = b
    · subst hab
      refine List.Sublist.cons_cons _ (sub_of t2 t1 g2 k2 fun r hr => ?_)
      rcases List.mem_cons.1 (h r (by simp [hr])) with e | e
      · have := g1 r hr
        rw [e] at this
        omega
      · exact e
    · refine List.Sublist.cons _ (sub_of t2 (a :: t1) h1 k2 fun r hr => ?_)
      have ha : a ∈ t2 := by
        rcases List.mem_cons.1 (h a (by simp)) with e | e
        · exact absurd e hab
        · exact e
      have hba := k1 a ha
      rcases List.mem_cons.1 (h r hr) with e | e
      · rcases List.mem_cons.1 hr with e2 | e2
        · rw [e] at e2
          exact absurd e2.symm hab
        · have := g1 r e2
          rw [e] at this
          omega
      · exact e
theorem eq_of_sub {l1 l2 : Tb} (h1 : l1.Pairwise (fun a b => a.1 < b.1)) (h2 : l2.Pairwise (fun a b => a.1 < b.1)) (hl : l1.length = l2.length) (hs : ∀ r ∈ l1, r ∈ l2) : l1 = l2 :=
  (sub_of l2 l1 h1 h2 hs).eq_of_length hl
theorem look_in {l1 l2 : Tb} (h1 : l1.Pairwise (fun a b => a.1 < b.1)) (h2 : l2.Pairwise (fun a b => a.1 < b.1)) (hl : l1.length = l2.length) (h : ∀ z e, look l1 z = some e → look l2 z = some e) : l1 = l2 :=
  eq_of_sub h1 h2 hl fun r hr => (look_mem h2).1 (h r.1 r.2 ((look_mem h1).2 hr))
set_option maxRecDepth 100000 in
set_option maxHeartbeats 4000000 in
theorem equal_any {p1 p2 : Nat} {l1 l2 : Tb} {w : World} (ok1 : Tok l1) (ok2 : Tok l2) (h1 : PMap w p1 l1) (h2 : PMap w p2 l2) :
    Calls Try.prog 33 #[.map (some p1), .map (some p2)] w fun e w' => e = .returned (.bool (decide (l1 = l2))) ∧ Below w.heap.size w w' := by
  have g1 := fun ty => World.ownsMap.len (t := 70) h1 Try.underlying70 ty
  have g2 := fun ty => World.ownsMap.len (t := 70) h2 Try.underlying70 ty
  rw [mapP_size] at g1 g2
  by_cases hsz : l1.length = l2.length
  · rw [hsz] at g1
    have HEQ := Lib.hid (fun h => look_in ok1.sorted ok2.sorted hsz h)
    have HL2 := Lib.hid (fun (v : Value) (z : Int) (ps : List MemPlace) h => (show v = .agg #[.int .i64 (getX l2 z).1, .int .i64 (getX l2 z).2.1, .int .i64 (getX l2 z).2.2] from look_en (l := l2) (z := z) (v := v) (ps := ps) h))
    have HH2 := Lib.hid (fun z => mapP_has l2 z)
    have HAT := Lib.hid (fun (z : Int) (v : Value) (y : DataW Unit × List MemPlace) (h1 : entR v = some y) (h2 : ∀ zd, (mapP l1).atKey (.int .i64 z) zd = y.1) => (show ∃ e : En, v = enV e ∧ look l1 z = some e from by
      obtain ⟨x, rfl, rfl⟩ := entR_inv h1
      refine ⟨x, rfl, ?_⟩
      have h3 := h2 .nil
      rw [mapP_at] at h3
      cases hl : look l1 z with
      | none => rw [hl] at h3; cases h3
      | some e =>
        rw [hl] at h3
        rw [entD_inj h3]))
    have H2 := Lib.hid h2
    have HLT := Lib.hid (And.intro h1.lt h2.lt)
    have HE := Lib.hid (entR_en zeroEn)
    clear ok1 ok2 h2
    go_enter Try.func33, Try.ntmps33
    go_wp2_with (first
      | (at_range; refine wpList_range_own _ rfl _ 70 rfl 3 34 law Try.underlying70 entR p1 65536 _ rfl h1 ?_; intro w0 hrg0 hg0 hs0)
      | go_in)
    go_frame
    go_loopw [18] (fun _ wr => ∃ (left : Lit → Bool) (cnt : Nat), wr.ranges Try.prog 3 entR p1 w.heap.size 65536 (mapP l1) left cnt ∧ Below w.heap.size w wr ∧ Hid (∀ z e, look l1 z = some e → left (.int .i64 z) = false → look l2 z = some e)) (fun _ wr => wr.rangeLeft p1 w.heap.size)
    case atStart =>
      refine ⟨_, _, hrg0, (Below.refl _ _).grown hg0 (Nat.le_refl _) (fun r e => by cases e), Lib.hid fun z e he hl => ?_⟩
      rw [mapP_has, he] at hl
      cases hl
    case round =>
      obtain ⟨left, cnt, hrg, hb0, HG⟩ := hrel
      go_wp2_with (first
        | (at_next; refine wpList_next_ranges _ rfl _ rfl 3 law entR (fun x : Int => Value.int .i64 x) (fun x : En => Value.agg #[.int .i64 x.1, .int .i64 x.2.1, .int .i64 x.2.2]) (fun key kl hk => by obtain ⟨x, rfl, _⟩ := Maps.keyOf_int_inv Try.underlying3 hk; exact ⟨x, rfl⟩) (fun v y hv => by obtain ⟨x, rfl, _⟩ := entR_inv hv; exact ⟨x, rfl⟩) p1 w.heap.size 65536 _ _ _ rfl hrg ?_ ?_)
        | go_in)
      · intro _ hl0
        have he := Lib.hid (decide_eq_true (HEQ.out fun z e h => HG.out z e h (hl0 _)))
        clear hrg hl0
        go_wp2
        go_ret
        exact ⟨by rw [he.out]; rfl, hb0⟩
      · intro z x1 x2 x3 kl yd yp w2 cnt2 hkey hlx hv hat hrg2 hlt hg2 hs2 hen
        obtain ⟨z', ez, rfl, hwz⟩ := Maps.keyOf_int_inv Try.underlying3 hkey
        cases ez
        obtain ⟨e', ee, he⟩ := HAT.out z (enV (x1, x2, x3)) (yd, yp) hv hat
        have hxe : (x1, x2, x3) = e' := entD_inj (congrArg Prod.fst (Option.some.inj ((entR_en (x1, x2, x3)).symm.trans ((congrArg entR ee).trans (entR_en e')))))
        subst hxe
        have hrl := hrg.lt
        have hb2 : Below w.heap.size w w2 := hb0.grown hg2 hb0.size (fun r e => by cases e; omega)
        have h22 : w2.ownsMap Try.prog 3 entR p2 65536 (mapP l2) := owns_same H2.out (hb2.block _ HLT.out.2)
        have h22a : (w2.alloc (.cells #[.int .i64 x1, .int .i64 x2, .int .i64 x3] 34)).ownsMap Try.prog 3 entR p2 65536 (mapP l2) := h22.alloc _
        have hh2 := HH2.out z
        have hb3 := Lib.hid (below0 hb2 (below1 w2 (.cells #[.int .i64 x1, .int .i64 x2, .int .i64 x3] 34)))
        have hl2 := HL2.out
        have HLEFT := Lib.hid (And.intro hrg2.left_eq hrg.left_eq)
        have HR2 := Lib.hid hrg2
        have HLT2 := Lib.hid hlt
        have HNO := Lib.hid (fun (h : ¬ (look l2 z = some (x1, x2, x3))) => (show decide (l1 = l2) = false from decide_eq_false (fun e => h (by rw [← e]; exact he))))
        have HYES := Lib.hid (fun (h : look l2 z = some (x1, x2, x3)) (z' : Int) (e' : En) (h1 : look l1 z' = some e') (h2 : (left (.int .i64 z') && !(Lit.int .i64 z').sameKey (.int .i64 z)) = false) => (show look l2 z' = some e' from by
          by_cases ez : z' = z
          · rw [ez] at h1 ⊢
            rw [h, ← he, h1]
          · refine HG.out z' e' h1 ?_
            rw [same_i, decide_eq_false ez] at h2
            simpa using h2))
        clear hrg hrg2 hb0 hv hat ee hg2 hs2 hlx hlt hwz h22 he
        obtain ⟨D, hD⟩ : ∃ D, D = mapP l2 := ⟨_, rfl⟩
        rw [← hD] at h22a hh2 hl2
        cases hlk : look l2 z with
        | none =>
          rw [hlk] at hh2
          have hn := Lib.hid (HNO.out (by rw [hlk]; intro e; cases e))
          have HLD := Lib.hid (fun (v : Value) ps h => hl2 v z ps h)
          obtain ⟨y, hy⟩ : ∃ y, y = getX l2 z := ⟨_, rfl⟩
          rw [← hy] at HLD
          clear hD hlk HNO HYES hl2 hy
          obtain ⟨y1, y2, y3⟩ := y
          simp only [Option.isSome_none] at HLD hh2
          go_wp2_with (at_lookup; refine wpList_lookup_own_ok _ rfl _ _ 70 rfl 3 34 law Try.underlying70 entR (zeroP _) (entD zeroEn) [] HE.out p2 65536 D rfl h22a _ _ rfl hkey ?_; intro v ps hv; rw [hh2]; obtain rfl := HLD.out _ _ hv; clear hv)
          go_ret
          exact ⟨by rw [hn.out]; rfl, hb3.out.alloc hb3.out.size _⟩
        | some y =>
          rw [hlk] at hh2
          have HLD := Lib.hid (fun (v : Value) ps h => (show v = .agg #[.int .i64 y.1, .int .i64 y.2.1, .int .i64 y.2.2] from by
            have := hl2 v z ps h
            have e : getX l2 z = y := by unfold getX; rw [hlk]; rfl
            rw [e] at this
            exact this))
          by_cases hxy : y = (x1, x2, x3)
          · subst hxy
            have hn := Lib.hid (HYES.out hlk)
            clear hD hlk HNO HYES hl2
            simp only [Option.isSome_some] at HLD hh2
            go_wp2_with (at_lookup; refine wpList_lookup_own_ok _ rfl _ _ 70 rfl 3 34 law Try.underlying70 entR (zeroP _) (entD zeroEn) [] HE.out p2 65536 D rfl h22a _ _ rfl hkey ?_; intro v ps hv; rw [hh2]; obtain rfl := HLD.out _ _ hv; clear hv)
            go_roundw
            case rel => exact ⟨_, cnt2, (HR2.out.alloc _).alloc _, hb3.out.alloc hb3.out.size _, Lib.hid hn.out⟩
            case measure => rw [HLEFT.out.2, ((HR2.out.alloc _).alloc _).left_eq]; exact HLT2.out
          · have hn := Lib.hid (HNO.out (by rw [hlk]; intro e; exact hxy (Option.some.inj e)))
            obtain ⟨y1, y2, y3⟩ := y
            have hx : ¬ (x1 = y1 ∧ x2 = y2 ∧ x3 = y3) := fun ⟨e1, e2, e3⟩ => hxy (by rw [e1, e2, e3])
            clear hD hlk HNO HYES hl2 hxy
            simp only [Option.isSome_some] at HLD hh2
            by_cases q1 : x1 = y1
            · subst q1
              by_cases q2 : x2 = y2
              · subst q2
                have q3 : (x3 == y3) = false := beq_eq_false_iff_ne.2 (fun e => hx ⟨rfl, rfl, e⟩)
                clear hx
                go_wp2_with (at_lookup; refine wpList_lookup_own_ok _ rfl _ _ 70 rfl 3 34 law Try.underlying70 entR (zeroP _) (entD zeroEn) [] HE.out p2 65536 D rfl h22a _ _ rfl hkey ?_; intro v ps hv; rw [hh2]; obtain rfl := HLD.out _ _ hv; clear hv)
                go_ret
                exact ⟨by rw [hn.out]; rfl, hb3.out.alloc hb3.out.size _⟩
              · have q3 : (x2 == y2) = false := beq_eq_false_iff_ne.2 q2
                clear hx q2
                go_wp2_with (at_lookup; refine wpList_lookup_own_ok _ rfl _ _ 70 rfl 3 34 law Try.underlying70 entR (zeroP _) (entD zeroEn) [] HE.out p2 65536 D rfl h22a _ _ rfl hkey ?_; intro v ps hv; rw [hh2]; obtain rfl := HLD.out _ _ hv; clear hv)
                go_ret
                exact ⟨by rw [hn.out]; rfl, hb3.out.alloc hb3.out.size _⟩
            · have q3 : (x1 == y1) = false := beq_eq_false_iff_ne.2 q1
              clear hx q1
              go_wp2_with (at_lookup; refine wpList_lookup_own_ok _ rfl _ _ 70 rfl 3 34 law Try.underlying70 entR (zeroP _) (entD zeroEn) [] HE.out p2 65536 D rfl h22a _ _ rfl hkey ?_; intro v ps hv; rw [hh2]; obtain rfl := HLD.out _ _ hv; clear hv)
              go_ret
              exact ⟨by rw [hn.out]; rfl, hb3.out.alloc hb3.out.size _⟩
  · have HF := Lib.hid (show decide (l1 = l2) = false from decide_eq_false (fun e => hsz (by rw [e])))
    have hne : ((l1.length : Int) != (l2.length : Int)) = true := by
      simp
      omega
    clear ok1 ok2 h1 h2
    go_enter Try.func33, Try.ntmps33
    go_wp2
    go_ret
    exact ⟨by rw [HF.out]; rfl, Below.refl _ _⟩
end Go.Proofs.Ytmocdokikcbjeaa
