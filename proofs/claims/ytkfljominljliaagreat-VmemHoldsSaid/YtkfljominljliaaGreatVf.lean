import Derived.Test.YtkfljominljliaaGreatVe
import Derived.Deep.RegionHeld3
namespace Go.Proofs.YtkfljominljliaaGreat.Vm
open Go.RowKit Go.Shelf Go.Maps Go.Sort
attribute [local go_sem] Oper.semAt_some

/- WHAT IS READ, PART BY PART. -/

theorem own_ne {w : World} {B1 B2 s1 s2 n1 n2 k : Nat} {e1 e2 : TypeId} {v1 v2 : Value} {xs1 xs2 : List Value} (h1 : w.ownsRow B1 e1 s1 v1 n1 xs1) (h2 : w.ownsRow B2 e2 s2 v2 n2 xs2) (he : e1 ≠ e2) (hk : v1.ownBlock = some k) : v2.ownBlock ≠ some k := by
  intro hk2
  obtain ⟨_, ⟨rfl, rfl⟩ | ⟨g, c, cur, rfl, hg, hh, _⟩⟩ := h1
  · cases hk
  · obtain ⟨_, ⟨rfl, rfl⟩ | ⟨g', c', cur', rfl, hg', hh', _⟩⟩ := h2
    · cases hk2
    · have e1 : g = k := Option.some.inj hk
      have e2 : g' = k := Option.some.inj hk2
      subst e1
      subst e2
      have := hh.symm.trans hh'
      injection this with this
      injection this with _ h _
      exact he h
section
variable {w w' : World} {b t q : Nat} {l : Pg.Tb} {p : Pl} {F1 F2 : Nat → Prop}
theorem MRep.keep (h : MRep w b t q l p F1 F2) (hk : ∀ k, (k = b ∨ F1 k ∨ F2 k) → w'.heap[k]? = w.heap[k]?) : MRep w' b t q l p F1 F2 :=
  ⟨h.obj.same (hk b (.inl rfl)), h.tab.keep fun k hf => hk k (.inr (.inl hf)), h.pool.keep fun k hf => hk k (.inr (.inr hf)), h.apart, h.b1, h.b2⟩
theorem MRep.lt (h : MRep w b t q l p F1 F2) : ∀ k, (k = b ∨ F1 k ∨ F2 k) → k < w.heap.size := by
  rintro k (rfl | hf | hf)
  · exact h.obj.lt
  · exact h.tab.lt k hf
  · exact h.pool.lt k hf
end
theorem getX_i64 {l : Pg.Tb} (h : Pg.Tok l) (z : Int) : Pg.I64 (Pg.getX l z).2.2 := by
  unfold Pg.getX
  cases hl : Pg.look l z with
  | none => simp [Pg.zeroEn, Pg.I64]
  | some e => exact (h.big _ ((Pg.look_mem h.sorted).1 hl)).2.2
/-- a part's bytes -/
def pce (p : Pl) (l : Pg.Tb) (x : Part) : List UInt8 := readP p (Pg.getX l (x.1 : Int)).2.2 (x.2.1 : Int) (x.2.2 : Int)
/-- a slice of bytes that lies in a block of one's own -/
def Mine (w : World) (O : Nat → Prop) (V : World) (u : Value) (bs : List UInt8) : Prop := ∃ A n c, u = .slice A n c ∧ n = bs.length ∧ V.ownsRow w.heap.size 5 1 (.slice A n c) n (byt bs) ∧ ∀ k, (Value.slice A n c).ownBlock = some k → O k
structure RdRel (w : World) (gm b t q : Nat) (l : Pg.Tb) (p : Pl) (F1 F2 : Nat → Prop) (pre : List Part) (s : Sl3) (O : Nat → Prop) (V : World) : Prop where
  many : s.2.1 = pre.length
  size : w.heap.size ≤ V.heap.size
  list : ∃ vs : List Value, vs.length = pre.length ∧ V.ownsRow w.heap.size 35 1 (slV s) pre.length vs ∧ (∀ k, (slV s).ownBlock = some k → O k) ∧ ∀ i (h : i < pre.length), ∃ u, vs[i]? = some u ∧ Mine w O V u (pce p l pre[i])
  mem : MRep V b t q l p F1 F2
  box : V.cell? ⟨gm, 0, none⟩ = some (bx b)
theorem Mine.keep {w V V' : World} {O O2 : Nat → Prop} {u : Value} {bs : List UInt8} (h : Mine w O V u bs) (hO : ∀ k, O k → O2 k) (hk : ∀ k, O k → u.ownBlock = some k → V'.heap[k]? = V.heap[k]?) : Mine w O2 V' u bs := by
  obtain ⟨A, n, c, rfl, h1, h2, h3⟩ := h
  exact ⟨A, n, c, rfl, h1, own_same h2 (fun k e => hk k (h3 k e) e), fun k e => hO k (h3 k e)⟩
theorem Mine.lt {w V : World} {O : Nat → Prop} {u : Value} {bs : List UInt8} (h : Mine w O V u bs) {k : Nat} (hk : u.ownBlock = some k) : k < V.heap.size := by
  obtain ⟨A, n, c, rfl, h1, h2, h3⟩ := h
  exact own_lt h2 hk
theorem slice_info : (Tryz.prog.info? 35).map (fun i => (i.zero, i.size, i.bytes)) = some (some (.slice none 0 0), 1, 24) := by kernel_rfl
set_option maxRecDepth 100000 in
set_option maxHeartbeats 2000000 in
theorem read1_any {w V : World} {gm b t q : Nat} {l : Pg.Tb} {p : Pl} {F1 F2 O : Nat → Prop} {pre : List Part} {s : Sl3} (h0 : MRep w b t q l p F1 F2) (hg : gm < w.heap.size) (hgF : gm ≠ b ∧ ¬ F1 gm ∧ ¬ F2 gm) (hO : ∀ k, O k → w.heap.size ≤ k ∧ k < V.heap.size) (h : RdRel w gm b t q l p F1 F2 pre s O V) (hlen : pre.length ≤ 1000000) (x : Part) (hx : x.1 < 65536) (hx2 : x.2.1 < 256) (hx3 : x.2.2 ≤ 256) :
    Calls Tryz.prog 82 (#[slV s, enc3 x] ++ #[bx gm]) V fun e V' => ∃ v', e = .returned (slV v') ∧ V.heap.size ≤ V'.heap.size ∧ RdRel w gm b t q l p F1 F2 (pre ++ [x]) v' (fun k => O k ∨ (V.heap.size ≤ k ∧ k < V'.heap.size)) V' ∧ Keep (fun k => False ∨ O k) V V' := by
  obtain ⟨i0, hi, hz0, hz1, hz2⟩ := info_parts slice_info
  obtain ⟨sA, sm, sc⟩ := s
  obtain ⟨h1, hsz, ⟨vs, hvl, hown, hvO, hmine⟩, hmem, hbox⟩ := h
  simp only at h1
  subst h1
  obtain ⟨pg, pl, k⟩ := x
  simp only at hx hx2 hx3
  obtain ⟨L, hL⟩ : ∃ L, L = pre.length := ⟨_, rfl⟩
  obtain ⟨V1, hV1⟩ : ∃ V1, V1 = V.alloc (.cells #[.int .i64 (pg : Int), .int .i64 (pl : Int), .int .i64 (k : Int)] 111) := ⟨_, rfl⟩
  have hb1 : Below V.heap.size V V1 := by rw [hV1]; exact below1 _ _
  have hz1' : V1.heap.size = V.heap.size + 1 := by rw [hV1]; simp
  have hrow : Row V1 V.heap.size 111 [.int .i64 (pg : Int), .int .i64 (pl : Int), .int .i64 (k : Int)] := by rw [hV1]; exact Row.new V 111 [.int .i64 (pg : Int), .int .i64 (pl : Int), .int .i64 (k : Int)]
  have HSS := Lib.hid (fun (W : World) (hb : Below V1.heap.size V1 W) => (show W.cell? ⟨gm, 0, none⟩ = some (bx b) ∧ W.cell? ⟨b, 0, none⟩ = some (bx t) ∧ W.cell? ⟨b, 1, none⟩ = some (bx q) ∧ W.cell? ⟨V.heap.size, 0, none⟩ = some (.int .i64 (pg : Int)) ∧ W.cell? ⟨V.heap.size, 1, none⟩ = some (.int .i64 (pl : Int)) ∧ W.cell? ⟨V.heap.size, 2, none⟩ = some (.int .i64 (k : Int)) from
    ⟨((below0 hb1 hb).cell (p := ⟨gm, 0, none⟩) (by show gm < _; omega)).trans hbox, (hmem.below (below0 hb1 hb)).c0, (hmem.below (below0 hb1 hb)).c1, (hrow.below hb).cell 0, (hrow.below hb).cell 1, (hrow.below hb).cell 2⟩))
  have HFR := Lib.hid (fun (W : World) (hb : Below V1.heap.size V1 W) => framed_any (hmem.below (below0 hb1 hb)).tab (pg : Int) (by unfold Pg.I64; omega))
  have hfi := getX_i64 hmem.tab.ok (pg : Int)
  unfold Pg.I64 at hfi
  have HRD := Lib.hid (fun (W : World) (hb : Below V1.heap.size V1 W) => read_any (hmem.below (below0 hb1 hb)).pool (Pg.getX l (pg : Int)).2.2 (pl : Int) (k : Int) hfi.2 (by omega))
  have hpce : pce p l (pg, pl, k) = readP p (Pg.getX l (pg : Int)).2.2 (pl : Int) (k : Int) := rfl
  obtain ⟨f, hf⟩ : ∃ f, f = (Pg.getX l (pg : Int)).2.2 := ⟨_, rfl⟩
  rw [← hf] at HFR HRD hpce
  obtain ⟨E, hE⟩ : ∃ E, E = reachE p f (pl : Int) (k : Int) := ⟨_, rfl⟩
  rw [← hE] at HRD
  rw [← hpce] at HRD
  have HF := Lib.hid (And.intro hmem (And.intro hbox (And.intro hvO hmine)))
  have HVL := Lib.hid (And.intro hvl hsz)
  have HHL := Lib.hid hL
  have HO := Lib.hid hO
  have HN := Lib.hid hlen
  have HB1 := Lib.hid (And.intro hb1 hz1')
  have HM0 := Lib.hid (And.intro h0 (And.intro hg hgF))
  have hownV : Hid (V.ownsRow w.heap.size 35 1 (.slice sA L sc) pre.length vs) := by rw [hL]; exact Lib.hid hown
  have HOWN := Lib.hid (fun W (hb : Below V1.heap.size V1 W) => (own_same hown (fun kk e => (below0 hb1 hb).block kk (own_lt hown e)) : W.ownsRow w.heap.size 35 1 (slV (sA, pre.length, sc)) pre.length vs))
  rw [← hL] at HOWN ⊢
  simp only [slV] at HOWN
  show Calls _ _ #[.slice sA L sc, .agg #[.int .i64 (pg : Int), .int .i64 (pl : Int), .int .i64 (k : Int)], bx gm] _ _
  clear hfi hpce hf hE hmem hbox hvO hmine hvl hsz hL hO hlen hb1 hz1' h0 hg hgF hown hrow hx hx2 hx3
  go_enter Tryz.func82, Tryz.ntmps82
  go_wp2_with fail
  rw [← hV1]
  clear hV1
  have hdr : Below V1.heap.size V1 V1.drew := (Below.refl _ _).drew
  refine wp_region_held_drew (S := fun W => W.cell? ⟨gm, 0, none⟩ = some (bx b) ∧ W.cell? ⟨b, 0, none⟩ = some (bx t) ∧ W.cell? ⟨b, 1, none⟩ = some (bx q) ∧ W.cell? ⟨V.heap.size, 0, none⟩ = some (.int .i64 (pg : Int)) ∧ W.cell? ⟨V.heap.size, 1, none⟩ = some (.int .i64 (pl : Int)) ∧ W.cell? ⟨V.heap.size, 2, none⟩ = some (.int .i64 (k : Int))) (by kernel_rfl) (HSS.out _ hdr) (fun hHeld => ?_)
  refine wpAnyH_take (i := 0) (v := ?_) rfl (by kernel_rfl) (by kernel_rfl) (by kernel_rfl) (fun _ _ _ h => h) (Or.inl ⟨by kernel_rfl, ?_⟩) hHeld ?_
  rotate_left
  focus (intro w hSw; (try dsimp only at hSw); go_simp; try with_reducible rfl)
  simp only [Act.put]
  refine wpAnyH_take (i := 1) (v := ?_) rfl (by kernel_rfl) (by kernel_rfl) (by kernel_rfl) (fun _ _ _ h => h) (Or.inl ⟨by kernel_rfl, ?_⟩) hHeld ?_
  rotate_left
  focus (intro w hSw; (try dsimp only at hSw); go_simp; try with_reducible rfl)
  simp only [Act.put]
  refine wpAnyH_take (i := 2) (v := ?_) rfl (by kernel_rfl) (by kernel_rfl) (by kernel_rfl) (fun _ _ _ h => h) (Or.inl ⟨by kernel_rfl, ?_⟩) hHeld ?_
  rotate_left
  focus (intro w hSw; (try dsimp only at hSw); go_simp; try with_reducible rfl)
  simp only [Act.put]
  refine wpAnyH_take (i := 3) (v := ?_) rfl (by kernel_rfl) (by kernel_rfl) (by kernel_rfl) (fun _ _ _ h => h) (Or.inl ⟨by kernel_rfl, ?_⟩) hHeld ?_
  rotate_left
  focus (intro w hSw; (try dsimp only at hSw); go_simp; try with_reducible rfl)
  simp only [Act.put]
  refine wpAnyH_take (i := 4) (v := ?_) rfl (by kernel_rfl) (by kernel_rfl) (by kernel_rfl) (fun _ _ _ h => h) (Or.inl ⟨by kernel_rfl, ?_⟩) hHeld ?_
  rotate_left
  focus (intro w hSw; (try dsimp only at hSw); go_simp; try with_reducible rfl)
  simp only [Act.put]
  refine wpAnyH_take (i := 5) (v := ?_) rfl (by kernel_rfl) (by kernel_rfl) (by kernel_rfl) (fun _ _ _ h => h) (Or.inl ⟨by kernel_rfl, ?_⟩) hHeld ?_
  rotate_left
  focus (intro w hSw; (try dsimp only at hSw); go_simp; try with_reducible rfl)
  simp only [Act.put]
  refine wpAnyH_take (i := 6) (v := ?_) rfl (by kernel_rfl) (by kernel_rfl) (by kernel_rfl) (fun _ _ _ h => h) (Or.inl ⟨by kernel_rfl, ?_⟩) hHeld ?_
  rotate_left
  focus (intro w hSw; (try dsimp only at hSw); go_simp; try with_reducible rfl)
  simp only [Act.put]
  refine wpAnyH_take (i := 7) (v := ?_) rfl (by kernel_rfl) (by kernel_rfl) (by kernel_rfl) (fun _ _ _ h => h) (Or.inl ⟨by kernel_rfl, ?_⟩) hHeld ?_
  rotate_left
  focus (intro w hSw; (try dsimp only at hSw); go_simp; try with_reducible rfl)
  simp only [Act.put]
  refine wpAnyH_take (i := 8) (v := ?_) rfl (by kernel_rfl) (by kernel_rfl) (by kernel_rfl) (fun _ _ _ h => h) (Or.inl ⟨by kernel_rfl, ?_⟩) hHeld ?_
  rotate_left
  focus (intro w hSw; (try dsimp only at hSw); go_simp; try with_reducible rfl)
  simp only [Act.put]
  refine wpAnyH_take (i := 9) (v := ?_) rfl (by kernel_rfl) (by kernel_rfl) (by kernel_rfl) (fun _ _ _ h => h) (Or.inl ⟨by kernel_rfl, ?_⟩) hHeld ?_
  rotate_left
  focus (intro w hSw; (try dsimp only at hSw); go_simp; try with_reducible rfl)
  simp only [Act.put]
  refine wpAnyH_take (i := 11) (v := ?_) rfl (by kernel_rfl) (by kernel_rfl) (by kernel_rfl) (fun _ _ _ h => h) (Or.inl ⟨by kernel_rfl, ?_⟩) hHeld ?_
  rotate_left
  focus (intro w hSw; (try dsimp only at hSw); go_simp; try with_reducible rfl)
  simp only [Act.put]
  refine wpAnyH_take (i := 12) (v := ?_) rfl (by kernel_rfl) (by kernel_rfl) (by kernel_rfl) (fun _ _ _ h => h) (Or.inl ⟨by kernel_rfl, ?_⟩) hHeld ?_
  rotate_left
  focus (intro w hSw; (try dsimp only at hSw); go_simp; try with_reducible rfl)
  simp only [Act.put]
  refine wpAnyH_take (i := 13) (v := ?_) rfl (by kernel_rfl) (by kernel_rfl) (by kernel_rfl) (fun _ _ _ h => h) (Or.inl ⟨by kernel_rfl, ?_⟩) hHeld ?_
  rotate_left
  focus (intro w hSw; (try dsimp only at hSw); go_simp; try with_reducible rfl)
  simp only [Act.put]
  refine wpAnyH_take (i := 14) (v := ?_) rfl (by kernel_rfl) (by kernel_rfl) (by kernel_rfl) (fun _ _ _ h => h) (Or.inl ⟨by kernel_rfl, ?_⟩) hHeld ?_
  rotate_left
  focus (intro w hSw; (try dsimp only at hSw); go_simp; try with_reducible rfl)
  simp only [Act.put]
  refine wpAnyH_ready (rs := [10]) (by kernel_rfl) (by simp) ?_
  refine AllReadyH.cons rfl (fun K hK => ?_) (AllReadyH.nil)
  go_simp
  refine (HFR.out _ hdr).mono ?_
  rintro e W1 ⟨rfl, hb2⟩
  replace hb2 := below0 hdr hb2
  refine hK.out _ _ (HSS.out _ hb2) (fun hHeld => ?_)
  clear hK K
  try simp only [Act.put]
  refine wpAnyH_ready (rs := [15]) (by kernel_rfl) (by simp) ?_
  refine AllReadyH.cons rfl (fun K hK => ?_) (AllReadyH.nil)
  go_simp
  refine (HRD.out _ hb2).mono ?_
  rintro e W2 ⟨A, n, c, rfl, hn, hnc, hown2, hb3⟩
  have HP := Lib.hid (And.intro hn (And.intro hown2 (And.intro hb2 hb3)))
  replace hb3 := below0 hb2 hb3
  refine hK.out _ _ (HSS.out _ hb3) (fun hHeld => ?_)
  clear hK K hown2 hn hnc hb2 hdr
  try simp only [Act.put]
  refine wpAnyH_take (i := 16) (v := ?_) rfl (by kernel_rfl) (by kernel_rfl) (by kernel_rfl) (fun _ _ _ h => h) (Or.inl ⟨by kernel_rfl, ?_⟩) hHeld ?_
  rotate_left
  focus (intro w hSw; (try dsimp only at hSw); go_simp; try with_reducible rfl)
  simp only [Act.put]
  refine wpAnyH_take (i := 17) (v := ?_) rfl (by kernel_rfl) (by kernel_rfl) (by kernel_rfl) (fun _ _ _ h => h) (Or.inl ⟨by kernel_rfl, ?_⟩) hHeld ?_
  rotate_left
  focus (intro w hSw; (try dsimp only at hSw); go_simp; try with_reducible rfl)
  simp only [Act.put]
  refine wpAnyH_take (i := 18) (v := ?_) rfl (by kernel_rfl) (by kernel_rfl) (by kernel_rfl) (fun _ _ _ h => h) (Or.inl ⟨by kernel_rfl, ?_⟩) hHeld ?_
  rotate_left
  focus (intro w hSw; (try dsimp only at hSw); go_simp; try with_reducible rfl)
  simp only [Act.put]
  refine wpAnyH_ready (rs := [19]) (by kernel_rfl) (by simp) ?_
  refine AllReadyH.cons rfl (fun K hK => ?_) (AllReadyH.nil)
  go_simp
  refine hK.out _ _ (HSS.out _ hb3) (fun hHeld => ?_)
  clear hK K
  try simp only [Act.put]
  refine wpAnyH_ready (rs := [20]) (by kernel_rfl) (by simp) ?_
  refine AllReadyH.cons rfl (fun K hK => ?_) (AllReadyH.nil)
  go_simp
  refine hK.out _ _ (HSS.out _ hb3) (fun hHeld => ?_)
  clear hK K
  try simp only [Act.put]
  refine wpAnyH_done (by kernel_rfl) ?_ _
  clear HSS HFR HRD
  have hownA := (HOWN.out _ hb3).alloc (.cells #[.slice A n c] 35)
  have HB3 := Lib.hid hb3
  have hsz3 : w.heap.size ≤ W2.heap.size + 1 := by have := hb3.size; have := HB1.out.2; have := HVL.out.2; omega
  have hLn := HN.out
  rw [← HHL.out] at hLn
  clear hb3 HOWN
  go_wp2_with (at_builtin; go_loud (refine wpList_append_sees rfl (.tmp 27) (.tmp 29) 114 rfl w.heap.size 35 i0 _ 1 24 Tryz.underlying114 hi hz0 hz1 hz2 rfl (by decide) (.slice sA L sc) L vs rfl hownA _ (some ⟨W2.heap.size, 0, none⟩) 1 1 [.slice A n c] rfl rfl (Row.new W2 35 [.slice A n c]).sees (by simp [Value.oneCell']) (by unfold maxLen; omega) (by omega) (by simp; omega) ?_; intro v' w1 hown' hg1 hgg; obtain ⟨A', c', rfl⟩ := own_slice hown'))
  have HFIN := Lib.hid (show V.heap.size ≤ w1.heap.size ∧ RdRel w gm b t q l p F1 F2 (pre ++ [(pg, pl, k)]) (A', L + 1, c') (fun kk => O kk ∨ (V.heap.size ≤ kk ∧ kk < w1.heap.size)) w1 ∧ Keep (fun kk => False ∨ O kk) V w1 from by
    obtain ⟨hmem, hbox, hvO, hmine⟩ := HF.out
    obtain ⟨hvl, hsz⟩ := HVL.out
    obtain ⟨hn, hown2, hb12, hb22⟩ := HP.out
    obtain ⟨h0, hg, hgF⟩ := HM0.out
    obtain ⟨hb1, hz1'⟩ := HB1.out
    have hbV := below0 hb1 HB3.out
    have hbA := hbV.alloc hbV.size (.cells #[.slice A n c] 35)
    have hgs := hg1.size
    have hs3 := hbV.size
    have hs1 := hb1.size
    have hs12 := hb12.size
    rw [World.size_alloc] at hgs
    have hLL := HHL.out
    have hO := HO.out
    have hown0 : ∀ kk, (Value.slice sA L sc).ownBlock = some kk → O kk := by rw [hLL]; exact hvO
    have hk : ∀ kk, kk < V.heap.size → some kk ≠ (Value.slice sA L sc).ownBlock → w1.heap[kk]? = V.heap[kk]? := fun kk h1 h2 => (hg1.block kk (by rw [World.size_alloc]; omega) h2).trans (hbA.block kk h1)
    have hkw : ∀ kk, kk < w.heap.size → w1.heap[kk]? = V.heap[kk]? := fun kk h1 => hk kk (by omega) (fun e => by have := hO kk (hown0 kk e.symm); omega)
    refine ⟨by omega, ⟨by simp [hLL], by omega, ⟨vs ++ [.slice A n c], by simp [hvl], ?_, ?_, ?_⟩, hmem.keep fun kk hkk => hkw kk (h0.lt kk hkk), (World.cell?_of_block (hkw gm hg)).trans hbox⟩, (Keep.of_below hbA).grown hg1 (fun r e => .inr (.inr (hown0 r e)))⟩
    · rw [List.length_append, ← hLL]
      exact hown'
    · intro kk e
      rcases hgg with h | h
      · exact .inl (hown0 kk (by rw [← h]; exact e))
      · have := own_lt hown' e
        have e2 : some kk = some (W2.heap.size + 1) := by rw [← World.size_alloc W2, ← h]; exact e.symm
        injection e2 with e2
        exact .inr ⟨by omega, this⟩
    · intro i hi9
      rw [List.length_append, List.length_singleton] at hi9
      by_cases hil : i < pre.length
      · obtain ⟨u, hu, hm⟩ := hmine i hil
        refine ⟨u, by rw [List.getElem?_append_left (by omega)]; exact hu, ?_⟩
        rw [List.getElem_append_left hil]
        refine hm.keep (fun kk h => .inl h) (fun kk ho e => hk kk (hm.lt e) (fun e2 => ?_))
        obtain ⟨A9, n9, c9, rfl, _, hh, _⟩ := hm
        exact own_ne hh hownV.out (by decide) e e2.symm
      · obtain rfl : i = pre.length := by omega
        refine ⟨.slice A n c, by rw [List.getElem?_append_right (by omega)]; simp [hvl], ?_⟩
        rw [List.getElem_append_right (by omega)]
        simp only [Nat.sub_self, List.getElem_cons_zero]
        refine ⟨A, n, c, rfl, hn, ?_, ?_⟩
        · refine own_mono (own_same hown2 fun kk e => ?_) (by omega)
          have h9 := hown2.lt kk e
          have hkl := own_lt hown2 e
          exact (hg1.block kk (by rw [World.size_alloc]; omega) (fun e2 => by have := hO kk (hown0 kk e2.symm); omega)).trans (Below.heap_alloc _ _ _ hkl)
        · intro kk e
          have h9 := hown2.lt kk e
          have hkl := own_lt hown2 e
          exact .inr ⟨by omega, by omega⟩)
  clear hg1 hgg hown' hownA
  go_ret
  exact ⟨(A', L + 1, c'), rfl, HFIN.out⟩
end Go.Proofs.YtkfljominljliaaGreat.Vm
