import Derived.Test.YtmbjjbgpcacoeaaGreatSB
import Derived.ChangeKeysEq
namespace Go.Proofs.YtmbjjbgpcacoeaaGreat
open Go.RowKit Go.Shelf Go.Maps Go.Sort
attribute [local go_sem] Oper.semAt_some

/- ARRAYS OF NUMBERS THAT ARE COMPARED; WHICH OF THE DOCUMENT's POOLS ARE THE SAME. -/
theorem items_int {P : Program} (w : World) (d : Nat) {e : TypeId} {K : IntKind} (he : P.underlying e = some (.int K)) (fs gs : List Int) (hl : fs.length = gs.length) : ∀ (is : List Nat), (∀ i ∈ is, i < fs.length) →
    (Op.eqItems (d + 1) e 1 (fs.map (Value.int K)).toArray (gs.map (Value.int K)).toArray is).run P w = .ok (is.all fun i => fs[i]? == gs[i]?) w
  | [], _ => rfl
  | i :: is, h => by
    have hi := h i (by simp)
    have hp : P.plainKey e = true := by simp [Program.plainKey, he]
    have h1 : (part e (fs.map (Value.int K)).toArray (i * 1)).run P w = .ok (.int K fs[i]) w := run_part_plain w hp (by simp [hi])
    have h2 : (part e (gs.map (Value.int K)).toArray (i * 1)).run P w = .ok (.int K (gs[i]'(hl ▸ hi))) w := run_part_plain w hp (by simp [hl ▸ hi])
    have h3 := run_equalIn_int (P := P) w d e K K fs[i] (gs[i]'(hl ▸ hi)) he
    simp only [Op.eqItems, Sem.run_bind, h1, h2, h3, Result.andThen_ok]
    have h4 : (fs[i]? == gs[i]?) = (fs[i] == gs[i]'(hl ▸ hi)) := by
      rw [List.getElem?_eq_getElem hi, List.getElem?_eq_getElem (hl ▸ hi)]
      rfl
    rw [List.all_cons, h4]
    cases (fs[i] == gs[i]'(hl ▸ hi))
    · rfl
    · have := items_int w d he fs gs hl is (fun j hj => h j (by simp [hj]))
      simpa using this
theorem all_range (fs gs : List Int) (hl : fs.length = gs.length) : ((List.range fs.length).all fun i => fs[i]? == gs[i]?) = decide (fs = gs) := by
  rw [Bool.eq_iff_iff, decide_eq_true_iff]
  constructor
  · intro h
    refine List.ext_getElem? fun i => ?_
    by_cases hi : i < fs.length
    · have := (List.all_eq_true.1 h) i (List.mem_range.2 hi)
      simpa using this
    · rw [List.getElem?_eq_none (by omega), List.getElem?_eq_none (by omega)]
  · rintro rfl
    simp
theorem arr_eq {P : Program} (w : World) {t e : TypeId} {K : IntKind} {n : Nat} {i : TypeInfo} (ht : P.underlying t = some (.array n e)) (he : P.underlying e = some (.int K)) (hi : P.info? e = some i) (hc : P.cellsOf e = 1) (fs gs : List Int) (h1 : fs.length = n) (h2 : gs.length = n) :
    (Op.equal t (.agg (fs.map (Value.int K)).toArray) (.agg (gs.map (Value.int K)).toArray)).run P w = .ok (decide (fs = gs)) w := by
  show (Op.equalIn (9998 + 1 + 1) t _ _).run P w = _
  rw [run_equalIn_array w (9998 + 1) _ _ ht hi, hc, items_int w 9998 he fs gs (h1.trans h2.symm) _ (fun j hj => by rw [h1]; exact List.mem_range.1 hj), ← h1, all_range fs gs (h1.trans h2.symm)]
theorem arr_eql {P : Program} (w : World) {t e : TypeId} {K : IntKind} {n : Nat} {i : TypeInfo} (ht : P.underlying t = some (.array n e)) (he : P.underlying e = some (.int K)) (hi : P.info? e = some i) (hc : P.cellsOf e = 1) (fs gs : List Int) (h1 : fs.length = n) (h2 : gs.length = n) :
    (binOp .eql t (.agg (fs.map (Value.int K)).toArray) (.agg (gs.map (Value.int K)).toArray)).run P w = .ok (.bool (decide (fs = gs))) w := by
  simp only [binOp, Sem.run_bind, arr_eq w ht he hi hc fs gs h1 h2, Result.andThen_ok, Sem.run_pure]
theorem arr_neq {P : Program} (w : World) {t e : TypeId} {K : IntKind} {n : Nat} {i : TypeInfo} (ht : P.underlying t = some (.array n e)) (he : P.underlying e = some (.int K)) (hi : P.info? e = some i) (hc : P.cellsOf e = 1) (fs gs : List Int) (h1 : fs.length = n) (h2 : gs.length = n) :
    (binOp .neq t (.agg (fs.map (Value.int K)).toArray) (.agg (gs.map (Value.int K)).toArray)).run P w = .ok (.bool (!decide (fs = gs))) w := by
  simp only [binOp, Sem.run_bind, arr_eq w ht he hi hc fs gs h1 h2, Result.andThen_ok, Sem.run_pure]
theorem fr_inj {x y : Fr} (h1 : oi x = oi y) (h2 : sb x = sb y) : x = y := by
  rcases x with _ | ⟨o, a⟩
  · rcases y with _ | ⟨u, c⟩
    · rfl
    · simp only [oi] at h1
      omega
  · rcases y with _ | ⟨u, c⟩
    · simp only [oi] at h1
      omega
    · simp only [oi] at h1
      have := str_inj h2
      subst this
      rw [show o = u by omega]
theorem resV_map (p : Pl) : resV p = ((List.range 64).map fun k => (resN p k : Int)).map (Value.int .i64) := by
  simp [resV, iv]
/-- what is reserved is the same -/
abbrev SameR (p q : Pl) : Prop := ((List.range 64).map fun k => (resN p k : Int)) = (List.range 64).map fun k => (resN q k : Int)
set_option maxRecDepth 100000 in
set_option maxHeartbeats 4000000 in
theorem rSame_any (p q : Pl) (A B : Option Addr) (n m c d : Nat) (w : World) (hl : p.fr.length = n) (hm : q.fr.length = m) (hn : n ≤ 16384) (hA : Lies w A p.fr) (hB : Lies w B q.fr) :
    Calls Tryz.prog 16 #[rv p A n c, rv q B m d] w fun e w' => (∃ t : Bool, e = .returned (.bool t) ∧ (t = true ↔ p.fr = q.fr ∧ SameR p q)) ∧ Below w.heap.size w w' := by
  obtain ⟨cs, hcs⟩ : ∃ cs, cs = rc p A n c := ⟨_, rfl⟩
  obtain ⟨ds, hds⟩ : ∃ ds, ds = rc q B m d := ⟨_, rfl⟩
  obtain ⟨r1, hr1⟩ : ∃ r1, r1 = resV p := ⟨_, rfl⟩
  obtain ⟨r2, hr2⟩ : ∃ r2, r2 = resV q := ⟨_, rfl⟩
  obtain ⟨i0, hi0, hc0⟩ : ∃ i0, Tryz.prog.info? 3 = some i0 ∧ Tryz.prog.cellsOf 3 = 1 := ⟨_, rfl, by kernel_rfl⟩
  obtain ⟨t, ht⟩ : ∃ t, t = decide (SameR p q) := ⟨_, rfl⟩
  have hrr : ∀ W, (binOp .neq 34 (.agg r1.toArray) (.agg r2.toArray)).run Tryz.prog W = .ok (.bool (!t)) W := fun W => by
    rw [hr1, hr2, resV_map, resV_map, ht]
    exact arr_neq W Tryz.underlying34 Tryz.underlying3 hi0 hc0 ((List.range 64).map fun k => (resN p k : Int)) ((List.range 64).map fun k => (resN q k : Int)) (by simp) (by simp)
  have hw0 := below2 w (.cells cs.toArray 36) (.cells ds.toArray 36)
  obtain ⟨W, hW⟩ : ∃ W, W = (w.alloc (.cells cs.toArray 36)).alloc (.cells ds.toArray 36) := ⟨_, rfl⟩
  have row1 : Row W w.heap.size 36 cs := by rw [hW]; exact (Row.new w _ cs).below (below1 _ _)
  have row2 : Row W (w.heap.size + 1) 36 ds := by rw [hW]; exact Row.new_at _ _ _ (by simp)
  rw [← hW] at hw0
  have HSZ := Lib.hid (show (Tryz.prog.info? 34).map (·.size) = some r1.length by rw [hr1, resV_len]; kernel_rfl)
  have HSZ2 := Lib.hid (show (Tryz.prog.info? 34).map (·.size) = some r2.length by rw [hr2, resV_len]; kernel_rfl)
  have HRA := Lib.hid (fun V (hb : Below W.heap.size W V) => (show V.rangeAt w.heap.size 1 r1 from fun j v hj => by
    show V.cell? ⟨w.heap.size, 1 + j, none⟩ = some v
    rw [(row1.below hb).cell, hcs, Nat.add_comm 1 j]
    show (resV p)[j]? = some v
    rw [← hr1]
    exact hj))
  have HRB := Lib.hid (fun V (hb : Below W.heap.size W V) => (show V.rangeAt (w.heap.size + 1) 1 r2 from fun j v hj => by
    show V.cell? ⟨w.heap.size + 1, 1 + j, none⟩ = some v
    rw [(row2.below hb).cell, hds, Nat.add_comm 1 j]
    show (resV q)[j]? = some v
    rw [← hr2]
    exact hj))
  have HC := Lib.hid (fun V (hb : Below W.heap.size W V) => (show V.cell? ⟨w.heap.size, 0, none⟩ = some (.slice A n c) ∧ V.cell? ⟨w.heap.size + 1, 0, none⟩ = some (.slice B m d) from ⟨by rw [(row1.below hb).cell, hcs]; rfl, by rw [(row2.below hb).cell, hds]; rfl⟩))
  have HLA := Lib.hid (fun V (hb : Below W.heap.size W V) (k : Nat) (hk : k < p.fr.length) => (hA.below (below0 hw0 hb)).at_ k hk)
  have HLB := Lib.hid (fun V (hb : Below W.heap.size W V) (k : Nat) (hk : k < q.fr.length) => (hB.below (below0 hw0 hb)).at_ k hk)
  have HW0 := Lib.hid hw0
  have HL := Lib.hid hl
  have HM := Lib.hid hm
  have HTT := Lib.hid ht
  rw [show rv p A n c = .agg cs.toArray by rw [hcs]; rfl, show rv q B m d = .agg ds.toArray by rw [hds]; rfl]
  have c0 := (HC.out W (Below.refl _ _)).1
  have c1 := (HC.out W (Below.refl _ _)).2
  rw [hW] at c0 c1
  have HWW := Lib.hid hW
  clear hcs hds hr1 hr2 hi0 hc0 row1 row2 hw0 hA hB hl hm ht hW
  by_cases h1 : n = m
  · subst h1
    have e1 : ((n : Int) == (n : Int)) = true := by simp
    cases t
    · have hra := Lib.hid (HRA.out W (Below.refl _ _))
      have hrb := Lib.hid (HRB.out W (Below.refl _ _))
      rw [HWW.out] at hra hrb
      go_enter Tryz.func16, Tryz.ntmps16
      go_wp2_with (first
        | refine wpList_load_midG (by kernel_rfl) 34 (.tmp 14) rfl w.heap.size 1 rfl r1 _ hra.out Tryz.underlying34 rfl HSZ.out ?_
        | refine wpList_load_midG (by kernel_rfl) 34 (.tmp 16) rfl (w.heap.size + 1) 1 rfl r2 _ hrb.out Tryz.underlying34 rfl HSZ2.out ?_)
      rw [← HWW.out]
      go_ret
      exact ⟨⟨false, rfl, by simp only [Bool.false_eq_true, false_iff]; exact fun h => (decide_eq_false_iff_not.1 HTT.out.symm) h.2⟩, HW0.out⟩
    · have hra := Lib.hid (HRA.out W (Below.refl _ _))
      have hrb := Lib.hid (HRB.out W (Below.refl _ _))
      rw [HWW.out] at hra hrb
      go_enter Tryz.func16, Tryz.ntmps16
      go_wp2_with (first
        | refine wpList_load_midG (by kernel_rfl) 34 (.tmp 14) rfl w.heap.size 1 rfl r1 _ hra.out Tryz.underlying34 rfl HSZ.out ?_
        | refine wpList_load_midG (by kernel_rfl) 34 (.tmp 16) rfl (w.heap.size + 1) 1 rfl r2 _ hrb.out Tryz.underlying34 rfl HSZ2.out ?_)
      rw [← HWW.out]
      clear hra hrb c0 c1
      go_loopw [5] (fun s5 wr => ∃ k : Nat, s5 = .int .i64 (k : Int) ∧ k ≤ n ∧ (∀ j, j < k → p.fr[j]? = q.fr[j]?) ∧ Below W.heap.size W wr) (fun s5 _ => n - (_root_.Go.RowKit.intOf s5).toNat)
      case atStart => exact ⟨0, rfl, Nat.zero_le _, fun j hj => by omega, Below.refl _ _⟩
      case round =>
        obtain ⟨k, rfl, hk, hj, hB⟩ := hrel
        obtain ⟨c0, c1⟩ := HC.out _ hB
        by_cases hlt : k < n
        · have i0 : (0 : Int) ≤ (k : Int) := by omega
          have i1 : (k : Int) < (n : Int) := by omega
          have j1 : decide ((k : Int) < (n : Int)) = true := decide_eq_true i1
          have ew : IntKind.i64.wrap ((k : Int) + 1) = (k : Int) + 1 := wrapI _ (by omega) (by omega)
          have hk1 : k < p.fr.length := by rw [HL.out]; exact hlt
          have hk2 : k < q.fr.length := by rw [HM.out]; exact hlt
          have HJ := Lib.hid hj
          have HB := Lib.hid hB
          obtain ⟨ad, rfl, a0, a1⟩ := HLA.out _ hB k hk1
          obtain ⟨bd, rfl, b0, b1⟩ := HLB.out _ hB k hk2
          have HI := Lib.hid (fun (h1 : oi p.fr[k] = oi q.fr[k]) (h2 : sb p.fr[k] = sb q.fr[k]) => fr_inj h1 h2)
          have HE1 := Lib.hid (And.intro (List.getElem?_eq_getElem hk1) (List.getElem?_eq_getElem hk2))
          obtain ⟨x, hx⟩ : ∃ x, x = p.fr[k] := ⟨_, rfl⟩
          obtain ⟨y, hy⟩ : ∃ y, y = q.fr[k] := ⟨_, rfl⟩
          rw [← hx, ← hy] at HE1 HI
          rw [← hx] at a0 a1
          rw [← hy] at b0 b1
          clear hx hy hj hB
          obtain ⟨o1, h1⟩ : ∃ o1, o1 = oi x := ⟨_, rfl⟩
          obtain ⟨o2, h2⟩ : ∃ o2, o2 = oi y := ⟨_, rfl⟩
          obtain ⟨s1, h3⟩ : ∃ s1, s1 = sb x := ⟨_, rfl⟩
          obtain ⟨s2, h4⟩ : ∃ s2, s2 = sb y := ⟨_, rfl⟩
          rw [← h1] at a0
          rw [← h3] at a1
          rw [← h2] at b0
          rw [← h4] at b1
          rw [← h1, ← h2, ← h3, ← h4] at HI
          have HX := Lib.hid (And.intro h1 (And.intro h2 (And.intro h3 h4)))
          clear h1 h2 h3 h4
          by_cases ho : o1 = o2
          · by_cases hs : s1 = s2
            · have hxy := HI.out ho hs
              subst ho
              subst hs
              have q1 : (o1 == o1) = true := by simp
              have q2 : (s1.toList == s1.toList) = true := by simp
              have HXY := Lib.hid hxy
              clear hxy
              go_wp2_with fail
              go_quiet (fail)
              go_wp2_with fail
              go_roundw
              case rel => exact ⟨k + 1, by go_num, by omega, fun j hj => by
                by_cases e : j = k
                · subst e
                  rw [HE1.out.1, HE1.out.2, HXY.out]
                · exact HJ.out j (by omega), below_drewN HB.out _⟩
              case measure => simp [_root_.Go.RowKit.intOf]; omega
            · subst ho
              have q1 : (o1 == o1) = true := by simp
              have q2 : (s1.toList == s2.toList) = false := beq_eq_false_iff_ne.2 (fun e => hs (by
                obtain ⟨⟨x1⟩⟩ := s1
                obtain ⟨⟨x2⟩⟩ := s2
                rw [ByteArray.toList_eq, ByteArray.toList_eq] at e
                simpa using e))
              have HS := Lib.hid hs
              clear hs
              go_wp2_with fail
              go_quiet (fail)
              have hB2 := Lib.hid (below_drewN HB.out nq)
              go_wp2_with fail
              go_ret
              exact ⟨⟨false, rfl, by
                simp only [Bool.false_eq_true, false_iff]
                rintro ⟨h, _⟩
                have h2 := HE1.out.1
                rw [h, HE1.out.2] at h2
                have h3 := Option.some.inj h2
                exact HS.out (by rw [HX.out.2.2.1, HX.out.2.2.2, h3])⟩, below0 HW0.out hB2.out⟩
          · have q1 : (o1 == o2) = false := beq_eq_false_iff_ne.2 ho
            have HS := Lib.hid ho
            clear ho
            go_wp2_with fail
            go_quiet (fail)
            have hB2 := Lib.hid (below_drewN HB.out nq)
            go_wp2_with fail
            go_ret
            exact ⟨⟨false, rfl, by
              simp only [Bool.false_eq_true, false_iff]
              rintro ⟨h, _⟩
              have h2 := HE1.out.1
              rw [h, HE1.out.2] at h2
              have h3 := Option.some.inj h2
              exact HS.out (by rw [HX.out.1, HX.out.2.1, h3])⟩, below0 HW0.out hB2.out⟩
        · obtain rfl : k = n := by omega
          have j1 : decide ((k : Int) < (k : Int)) = false := decide_eq_false (by omega)
          have HB := Lib.hid (below0 HW0.out hB)
          have HJ := Lib.hid hj
          clear hB hj
          go_wp2_with fail
          go_ret
          exact ⟨⟨true, rfl, by
            simp only [true_iff]
            refine ⟨List.ext_getElem? fun j => ?_, of_decide_eq_true HTT.out.symm⟩
            by_cases hj : j < k
            · exact HJ.out j hj
            · rw [List.getElem?_eq_none (by rw [HL.out]; omega), List.getElem?_eq_none (by rw [HM.out]; omega)]⟩, HB.out⟩
  · have e1 : ((n : Int) == (m : Int)) = false := beq_eq_false_iff_ne.2 (by omega)
    go_enter Tryz.func16, Tryz.ntmps16
    go_wp2_with fail
    rw [← HWW.out]
    go_ret
    exact ⟨⟨false, rfl, by simp only [Bool.false_eq_true, false_iff]; exact fun h => h1 (by rw [← HL.out, ← HM.out, h.1])⟩, HW0.out⟩
end Go.Proofs.YtmbjjbgpcacoeaaGreat
