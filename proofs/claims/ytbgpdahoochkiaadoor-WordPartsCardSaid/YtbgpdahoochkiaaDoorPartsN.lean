import Derived.Test.YtbgpdahoochkiaaDoorPartsM
namespace Go.Proofs.YtbgpdahoochkiaaDoor
open Go.RowKit Go.Shelf
attribute [local go_sem] Oper.semAt_some


set_option maxHeartbeats 1000000 in
theorem parts_any (l : List UInt8) (c B : Nat) (A : Option Addr) (s many : Int) (w : World) (hm : l.length ≤ 1000000) (hr : Sees w B A (byt l)) (hB : B ≤ w.heap.size) :
    Calls Tryd.prog 22 #[.slice A l.length c, .int .i64 s, .int .i64 many] w fun e w' => ∃ v, e = .returned v ∧ Plist w.heap.size w' v (partl s l (pk s many l.length)) ∧ Below w.heap.size w w' := by
  have hnn : ∀ bo bs w, (binOp .eql 59 (.func (.func 35) #[] #[.pointer (some ⟨bo, 0, none⟩), .pointer (some ⟨bs, 0, none⟩)]) .nilFunc).run Tryd.prog w = .ok (.bool false) w := fun bo bs w => by kernel_rfl
  have hr1 := (hr.alloc hB (.cells #[.int .i64 many] 3)).alloc (by simp; omega) (.cells #[.slice none 0 0] 41)
  refine calls_marks Tryd.func22 rfl ?_
  simp only [Tryd.ntmps22, List.size_toArray, List.length_cons, List.length_nil, Nat.reduceAdd, Nat.reduceSub, Array.replicate_succ, Array.replicate_zero, List.push_toArray, List.append_toArray, List.nil_append, List.cons_append]
  go_wp2_with fail
  refine (partsF_any l l.length c B A s ((w.alloc (.cells #[.int .i64 many] 3)).alloc (.cells #[.slice none 0 0] 41)) rfl (by omega) hr1 (by simp; omega)).mono ?_
  rintro e w2 ⟨v1, bo1, bs1, rfl, _, _, _, _, _, hb1⟩
  have hnn1 := hnn bo1 bs1 w2
  have hr2 := hr1.below (hb1.mono (by simp only [World.size_alloc]; omega : B ≤ _))
  have hs2 : w.heap.size + 2 ≤ w2.heap.size := by have := hb1.size; simpa using this
  have hM2 : Boxed w2 w.heap.size 3 (.int .i64 many) := (hb1.block _ (by simp only [World.size_alloc]; omega)).trans ((Boxed.new w _ _).alloc _)
  have hL2 : Boxed w2 (w.heap.size + 1) 41 (.slice none 0 0) := (hb1.block _ (by simp only [World.size_alloc]; omega)).trans (by have := Boxed.new (w.alloc (.cells #[.int .i64 many] 3)) 41 (.slice none 0 0); rwa [World.size_alloc] at this)
  have hB2 : Below w.heap.size w w2 := (((Below.refl _ _).alloc (Nat.le_refl _) _).alloc (by simp only [World.size_alloc]; omega) _).trans (hb1.mono (by simp only [World.size_alloc]; omega))
  clear hr1 hb1
  go_wp2_with fail
  refine (partsF_any l l.length c B A s w2 rfl (by omega) hr2 (by omega)).mono ?_
  rintro e w3 ⟨v2, bo, bs, rfl, hbo, hbs, hco, hcs, hown, hb2⟩
  obtain ⟨A2, cA, rfl⟩ := own_slice hown
  have hs3 : w.heap.size + 2 ≤ w3.heap.size := by have := hb2.size; omega
  have hM3 : Boxed w3 w.heap.size 3 (.int .i64 many) := (hb2.block _ (by omega)).trans hM2
  have hL3 : Boxed w3 (w.heap.size + 1) 41 (.slice none 0 0) := (hb2.block _ (by omega)).trans hL2
  have hB3 : Below w.heap.size w w3 := hB2.trans (hb2.mono (by omega))
  have hit := parts1_it l s bo bs _ cA A2 w3 (by omega) hco hcs hown
  have hboL := lt_of_cell hco
  have hbsL := lt_of_cell hcs
  have hmix : Tryd.prog.follows .mixedOrders = true := by kernel_rfl
  have hPv : ∀ k, (k = bo ∨ k = bs ∨ (Value.slice A2 l.length cA).ownBlock = some k) → k < w3.heap.size ∧ k ≠ w.heap.size + 1 := by
    rintro k (rfl | rfl | h)
    · exact ⟨hboL, by omega⟩
    · exact ⟨hbsL, by omega⟩
    · have := hown.lt k h
      exact ⟨this.2, by omega⟩
  clear hM2 hL2 hB2 hr2 hr hnn hb2
  go_wp2_with fail
  refine wpIn_wide.1 (wpIn_range_it (gf := 35) (lb := #[.pointer (some ⟨bo, 0, none⟩), .pointer (some ⟨bs, 0, none⟩)]) rfl (enters_of Tryd.func35 (by kernel_rfl) rfl) hit (fun k hk => (hPv k hk).1) (fun _ => rfl)
    (fun pre x V V' hk h => ⟨own_same h.1 (fun k e => hk k (by simp only [Value.ownBlock, Option.some.injEq] at e; exact e.symm)), h.2⟩)
    (pinv w w3.heap.size many) (pstop w w3.heap.size many) (pinv.abid hs3) (pstop.abid hs3) ?h0
    (fun x => { tmps := #[.slice A l.length c, .int .i64 s, .int .i64 many, undef, undef, .pointer (some ⟨w.heap.size, 0, none⟩), .slice none 0 0, .pointer (some ⟨w.heap.size + 1, 0, none⟩), .int .i64 x.at_, .slice (some ⟨x.blk, 0, none⟩) x.bytes.length x.cap, .slice A l.length c, .int .i64 s, .func (.func 35) #[] #[.pointer (some ⟨bo1, 0, none⟩), .pointer (some ⟨bs1, 0, none⟩)], .bool false, .slice A l.length c, .int .i64 s, .func (.func 35) #[] #[.pointer (some ⟨bo, 0, none⟩), .pointer (some ⟨bs, 0, none⟩)], .int .i64 x.at_, .slice (some ⟨x.blk, 0, none⟩) x.bytes.length x.cap, undef, undef, undef, undef, undef, undef, undef, undef, undef, undef, undef, undef, undef, undef, undef, undef, undef, undef], defers := [] }) ?assign ?body ?done ?stop)
  case h0 => exact ⟨⟨_, [], hL3, hM3, World.ownsRow_nil _ _ _ _, fun k h => (by cases h), PRow.nil_, hB3⟩, by simp; omega, fun _ h => h.elim⟩
  case assign =>
    intro l' x W' K hK
    simp only [encPart]
    gi_wp2
    exact hK
  case body =>
    rintro l' pre x O V hVs hO ⟨hpl, hmany, hOw⟩ ⟨hxo, hxp, hx0⟩ hM
    have hxM := hM x.blk rfl
    have hcut : x.bytes = (cutOf l (cutk s.toNat l.length pre.length)).2 := congrArg Prod.snd hxp
    have hx1 : x.bytes.length ≤ 1000000 := by
      rw [hcut]
      simp only [cutOf, List.length_take, List.length_drop]
      omega
    have hn : pre.length ≤ 1000000 := by
      obtain ⟨h1, h2⟩ := cut_pos (hcut ▸ hx0)
      have := Nat.le_mul_of_pos_right pre.length (show 0 < s.toNat by omega)
      omega
    obtain ⟨v, w1, w4, g1, c1, g2, c2, hb0, hb1, hb2, hb3, hrun1, hrun2, hbw, b0, hcx, hfx, hfin⟩ := (PLI.drew hpl).round (V := V.drew) (Priv := fun k => k = bo ∨ k = bs ∨ (Value.slice A2 l.length cA).ownBlock = some k) hs3 (by show _ ≤ V.heap.size; omega) (fun k hk => by have := hO k hk; exact ⟨by omega, this.2⟩) hxo hx0 hx1 hn (by omega) hxM.2.2 hPv
    have hcl : ∀ u, ((w4.setCell ⟨w.heap.size + 1, 0, none⟩ (.slice (some ⟨g2, 0, none⟩) (pre.length + 1) c2)).setCell ⟨x.blk, 0, none⟩ u).cell? ⟨w.heap.size + 1, 0, none⟩ = some (.slice (some ⟨g2, 0, none⟩) (pre.length + 1) c2) := fun u => (hfin u _ rfl).1
    have hcm : ∀ u, ((w4.setCell ⟨w.heap.size + 1, 0, none⟩ (.slice (some ⟨g2, 0, none⟩) (pre.length + 1) c2)).setCell ⟨x.blk, 0, none⟩ u).cell? ⟨w.heap.size, 0, none⟩ = some (.int .i64 many) := fun u => (hfin u _ rfl).2.1
    have hpost : ∀ u, Hid (Keeps (fun k => k = bo ∨ k = bs ∨ (Value.slice A2 l.length cA).ownBlock = some k) w3.heap.size O (memPart x) V ((w4.setCell ⟨w.heap.size + 1, 0, none⟩ (.slice (some ⟨g2, 0, none⟩) (pre.length + 1) c2)).setCell ⟨x.blk, 0, none⟩ u) ∧
        PLI w w3.heap.size many (pre ++ [x]) (nextO O (memPart x) V ((w4.setCell ⟨w.heap.size + 1, 0, none⟩ (.slice (some ⟨g2, 0, none⟩) (pre.length + 1) c2)).setCell ⟨x.blk, 0, none⟩ u)) ((w4.setCell ⟨w.heap.size + 1, 0, none⟩ (.slice (some ⟨g2, 0, none⟩) (pre.length + 1) c2)).setCell ⟨x.blk, 0, none⟩ u) ∧
        ∀ k, nextO O (memPart x) V ((w4.setCell ⟨w.heap.size + 1, 0, none⟩ (.slice (some ⟨g2, 0, none⟩) (pre.length + 1) c2)).setCell ⟨x.blk, 0, none⟩ u) k → w3.heap.size + 2 ≤ k) := fun u => by
      obtain ⟨h1, h2⟩ := (hfin u _ rfl).2.2.out
      exact ⟨⟨h1.size, h1.same⟩, h2, nextO_ge hOw (fun k hk => by rw [show k = x.blk from hk]; omega) hVs⟩
    have hc0 : V.cell? ⟨w.heap.size + 1, 0, none⟩ = some v := hb0.cell
    have hc1 : (V.alloc (.cells #[] 5)).cell? ⟨w.heap.size + 1, 0, none⟩ = some v := hb1.cell
    have hc2 := hb2.cell
    have hc3 := hb3.cell
    have hcw := hbw.cell
    have hfw := hbw.frozen
    clear hfin hpl hxo hxp hcut hb0 hb1 hb2 hb3 hbw hO hM hit hL3 hM3 hown hco hcs
    by_cases hq : (pre.length : Int) + 1 = many
    · have hpst : ∀ u, Hid (itPost (fun k => k = bo ∨ k = bs ∨ (Value.slice A2 l.length cA).ownBlock = some k) w3.heap.size memPart (pinv w w3.heap.size many) (pstop w w3.heap.size many) pre x O V (.exit 0) ⟨#[], []⟩ ((w4.setCell ⟨w.heap.size + 1, 0, none⟩ (.slice (some ⟨g2, 0, none⟩) (pre.length + 1) c2)).setCell ⟨x.blk, 0, none⟩ u)) := fun u => by
        obtain ⟨h1, h2, h3⟩ := (hpost u).out
        exact ⟨h1, rfl, h2, by omega, by simp; omega, h3⟩
      clear hpost
      gi_wp2
      rename_i hKc
      refine region_round l' hmix (by kernel_rfl) ?_
      refine wpAnyIn_take (i := 1) (v := ?_) rfl rfl (by kernel_rfl) (by kernel_rfl) (by kernel_rfl) (fun _ _ _ h => h) ⟨Or.inl ⟨by rfl, ?_⟩, fun _ => rfl⟩ ?_
      rotate_left
      focus (intro w; go_simp; try with_reducible rfl)
      refine wpAnyIn_take (i := 3) (v := ?_) rfl rfl (by kernel_rfl) (by kernel_rfl) (by kernel_rfl) (fun _ _ _ h => h) ⟨Or.inl ⟨by rfl, ?_⟩, fun _ => rfl⟩ ?_
      rotate_left
      focus (intro w; go_simp; try with_reducible rfl)
      refine wpAnyIn_ready (rs := [0, 2]) (by kernel_rfl) (by simp) ?_
      refine AllReadyIn.cons rfl (fun K hK => ?_) (AllReadyIn.cons rfl (fun K hK => ?_) AllReadyIn.nil)
      · go_simp
        refine hK _ _ ?_
        clear hK K
        refine wpAnyIn_ready (rs := [2]) (by kernel_rfl) (by simp) ?_
        refine AllReadyIn.cons rfl (fun K hK => ?_) AllReadyIn.nil
        go_simp
        refine hK _ _ ?_
        clear hK K
        refine wpAnyIn_ready (rs := [4]) (by kernel_rfl) (by simp) ?_
        refine AllReadyIn.cons rfl (fun K hK => ?_) AllReadyIn.nil
        refine operIn_app (.tmp 21) (.tmp 22) 23 rfl rfl rfl hrun1 (hK _ _ ?_)
        clear hK K
        refine wpAnyIn_take (i := 5) (v := ?_) rfl rfl (by kernel_rfl) (by kernel_rfl) (by kernel_rfl) (fun _ _ _ h => h) ⟨Or.inl ⟨by rfl, ?_⟩, fun _ => rfl⟩ ?_
        rotate_left
        focus (intro w; go_simp; try with_reducible rfl)
        refine wpAnyIn_ready (rs := [6]) (by kernel_rfl) (by simp) ?_
        refine AllReadyIn.cons rfl (fun K hK => ?_) AllReadyIn.nil
        go_simp
        refine hK _ _ ?_
        clear hK K
        refine wpAnyIn_ready (rs := [7]) (by kernel_rfl) (by simp) ?_
        refine AllReadyIn.cons rfl (fun K hK => ?_) AllReadyIn.nil
        refine operIn_app (.tmp 19) (.tmp 25) 41 rfl rfl rfl hrun2 (hK _ _ ?_)
        clear hK K
        refine wpAnyIn_ready (rs := [8]) (by kernel_rfl) (by simp) ?_
        refine AllReadyIn.cons rfl (fun K hK => ?_) AllReadyIn.nil
        go_simp
        refine hK _ _ ?_
        clear hK K
        refine wpAnyIn_done (by kernel_rfl) ?_ _
        refine hKc _ _ ?_
        gi_wp2
        exact (hpst _).out
      · go_simp
        refine hK _ _ ?_
        clear hK K
        refine wpAnyIn_ready (rs := [0, 4]) (by kernel_rfl) (by simp) ?_
        refine AllReadyIn.cons rfl (fun K hK => ?_) (AllReadyIn.cons rfl (fun K hK => ?_) AllReadyIn.nil)
        · go_simp
          refine hK _ _ ?_
          clear hK K
          refine wpAnyIn_ready (rs := [4]) (by kernel_rfl) (by simp) ?_
          refine AllReadyIn.cons rfl (fun K hK => ?_) AllReadyIn.nil
          refine operIn_app (.tmp 21) (.tmp 22) 23 rfl rfl rfl hrun1 (hK _ _ ?_)
          clear hK K
          refine wpAnyIn_take (i := 5) (v := ?_) rfl rfl (by kernel_rfl) (by kernel_rfl) (by kernel_rfl) (fun _ _ _ h => h) ⟨Or.inl ⟨by rfl, ?_⟩, fun _ => rfl⟩ ?_
          rotate_left
          focus (intro w; go_simp; try with_reducible rfl)
          refine wpAnyIn_ready (rs := [6]) (by kernel_rfl) (by simp) ?_
          refine AllReadyIn.cons rfl (fun K hK => ?_) AllReadyIn.nil
          go_simp
          refine hK _ _ ?_
          clear hK K
          refine wpAnyIn_ready (rs := [7]) (by kernel_rfl) (by simp) ?_
          refine AllReadyIn.cons rfl (fun K hK => ?_) AllReadyIn.nil
          refine operIn_app (.tmp 19) (.tmp 25) 41 rfl rfl rfl hrun2 (hK _ _ ?_)
          clear hK K
          refine wpAnyIn_ready (rs := [8]) (by kernel_rfl) (by simp) ?_
          refine AllReadyIn.cons rfl (fun K hK => ?_) AllReadyIn.nil
          go_simp
          refine hK _ _ ?_
          clear hK K
          refine wpAnyIn_done (by kernel_rfl) ?_ _
          refine hKc _ _ ?_
          gi_wp2
          exact (hpst _).out
        · refine operIn_app (.tmp 21) (.tmp 22) 23 rfl rfl rfl hrun1 (hK _ _ ?_)
          clear hK K
          refine wpAnyIn_take (i := 5) (v := ?_) rfl rfl (by kernel_rfl) (by kernel_rfl) (by kernel_rfl) (fun _ _ _ h => h) ⟨Or.inl ⟨by rfl, ?_⟩, fun _ => rfl⟩ ?_
          rotate_left
          focus (intro w; go_simp; try with_reducible rfl)
          refine wpAnyIn_ready (rs := [0, 6]) (by kernel_rfl) (by simp) ?_
          refine AllReadyIn.cons rfl (fun K hK => ?_) (AllReadyIn.cons rfl (fun K hK => ?_) AllReadyIn.nil)
          · go_simp
            refine hK _ _ ?_
            clear hK K
            refine wpAnyIn_ready (rs := [6]) (by kernel_rfl) (by simp) ?_
            refine AllReadyIn.cons rfl (fun K hK => ?_) AllReadyIn.nil
            go_simp
            refine hK _ _ ?_
            clear hK K
            refine wpAnyIn_ready (rs := [7]) (by kernel_rfl) (by simp) ?_
            refine AllReadyIn.cons rfl (fun K hK => ?_) AllReadyIn.nil
            refine operIn_app (.tmp 19) (.tmp 25) 41 rfl rfl rfl hrun2 (hK _ _ ?_)
            clear hK K
            refine wpAnyIn_ready (rs := [8]) (by kernel_rfl) (by simp) ?_
            refine AllReadyIn.cons rfl (fun K hK => ?_) AllReadyIn.nil
            go_simp
            refine hK _ _ ?_
            clear hK K
            refine wpAnyIn_done (by kernel_rfl) ?_ _
            refine hKc _ _ ?_
            gi_wp2
            exact (hpst _).out
          · go_simp
            refine hK _ _ ?_
            clear hK K
            refine wpAnyIn_ready (rs := [0]) (by kernel_rfl) (by simp) ?_
            refine AllReadyIn.cons rfl (fun K hK => ?_) AllReadyIn.nil
            go_simp
            refine hK _ _ ?_
            clear hK K
            refine wpAnyIn_ready (rs := [7]) (by kernel_rfl) (by simp) ?_
            refine AllReadyIn.cons rfl (fun K hK => ?_) AllReadyIn.nil
            refine operIn_app (.tmp 19) (.tmp 25) 41 rfl rfl rfl hrun2 (hK _ _ ?_)
            clear hK K
            refine wpAnyIn_ready (rs := [8]) (by kernel_rfl) (by simp) ?_
            refine AllReadyIn.cons rfl (fun K hK => ?_) AllReadyIn.nil
            go_simp
            refine hK _ _ ?_
            clear hK K
            refine wpAnyIn_done (by kernel_rfl) ?_ _
            refine hKc _ _ ?_
            gi_wp2
            exact (hpst _).out
    · have hpst : ∀ u, Hid (itPost (fun k => k = bo ∨ k = bs ∨ (Value.slice A2 l.length cA).ownBlock = some k) w3.heap.size memPart (pinv w w3.heap.size many) (pstop w w3.heap.size many) pre x O V .normal ⟨#[], []⟩ ((w4.setCell ⟨w.heap.size + 1, 0, none⟩ (.slice (some ⟨g2, 0, none⟩) (pre.length + 1) c2)).setCell ⟨x.blk, 0, none⟩ u)) := fun u => by
        obtain ⟨h1, h2, h3⟩ := (hpost u).out
        exact ⟨h1, h2, by simp; omega, h3⟩
      clear hpost
      gi_wp2
      rename_i hKc
      refine region_round l' hmix (by kernel_rfl) ?_
      refine wpAnyIn_take (i := 1) (v := ?_) rfl rfl (by kernel_rfl) (by kernel_rfl) (by kernel_rfl) (fun _ _ _ h => h) ⟨Or.inl ⟨by rfl, ?_⟩, fun _ => rfl⟩ ?_
      rotate_left
      focus (intro w; go_simp; try with_reducible rfl)
      refine wpAnyIn_take (i := 3) (v := ?_) rfl rfl (by kernel_rfl) (by kernel_rfl) (by kernel_rfl) (fun _ _ _ h => h) ⟨Or.inl ⟨by rfl, ?_⟩, fun _ => rfl⟩ ?_
      rotate_left
      focus (intro w; go_simp; try with_reducible rfl)
      refine wpAnyIn_ready (rs := [0, 2]) (by kernel_rfl) (by simp) ?_
      refine AllReadyIn.cons rfl (fun K hK => ?_) (AllReadyIn.cons rfl (fun K hK => ?_) AllReadyIn.nil)
      · go_simp
        refine hK _ _ ?_
        clear hK K
        refine wpAnyIn_ready (rs := [2]) (by kernel_rfl) (by simp) ?_
        refine AllReadyIn.cons rfl (fun K hK => ?_) AllReadyIn.nil
        go_simp
        refine hK _ _ ?_
        clear hK K
        refine wpAnyIn_ready (rs := [4]) (by kernel_rfl) (by simp) ?_
        refine AllReadyIn.cons rfl (fun K hK => ?_) AllReadyIn.nil
        refine operIn_app (.tmp 21) (.tmp 22) 23 rfl rfl rfl hrun1 (hK _ _ ?_)
        clear hK K
        refine wpAnyIn_take (i := 5) (v := ?_) rfl rfl (by kernel_rfl) (by kernel_rfl) (by kernel_rfl) (fun _ _ _ h => h) ⟨Or.inl ⟨by rfl, ?_⟩, fun _ => rfl⟩ ?_
        rotate_left
        focus (intro w; go_simp; try with_reducible rfl)
        refine wpAnyIn_ready (rs := [6]) (by kernel_rfl) (by simp) ?_
        refine AllReadyIn.cons rfl (fun K hK => ?_) AllReadyIn.nil
        go_simp
        refine hK _ _ ?_
        clear hK K
        refine wpAnyIn_ready (rs := [7]) (by kernel_rfl) (by simp) ?_
        refine AllReadyIn.cons rfl (fun K hK => ?_) AllReadyIn.nil
        refine operIn_app (.tmp 19) (.tmp 25) 41 rfl rfl rfl hrun2 (hK _ _ ?_)
        clear hK K
        refine wpAnyIn_ready (rs := [8]) (by kernel_rfl) (by simp) ?_
        refine AllReadyIn.cons rfl (fun K hK => ?_) AllReadyIn.nil
        go_simp
        refine hK _ _ ?_
        clear hK K
        refine wpAnyIn_done (by kernel_rfl) ?_ _
        refine hKc _ _ ?_
        gi_wp2
        exact (hpst _).out
      · go_simp
        refine hK _ _ ?_
        clear hK K
        refine wpAnyIn_ready (rs := [0, 4]) (by kernel_rfl) (by simp) ?_
        refine AllReadyIn.cons rfl (fun K hK => ?_) (AllReadyIn.cons rfl (fun K hK => ?_) AllReadyIn.nil)
        · go_simp
          refine hK _ _ ?_
          clear hK K
          refine wpAnyIn_ready (rs := [4]) (by kernel_rfl) (by simp) ?_
          refine AllReadyIn.cons rfl (fun K hK => ?_) AllReadyIn.nil
          refine operIn_app (.tmp 21) (.tmp 22) 23 rfl rfl rfl hrun1 (hK _ _ ?_)
          clear hK K
          refine wpAnyIn_take (i := 5) (v := ?_) rfl rfl (by kernel_rfl) (by kernel_rfl) (by kernel_rfl) (fun _ _ _ h => h) ⟨Or.inl ⟨by rfl, ?_⟩, fun _ => rfl⟩ ?_
          rotate_left
          focus (intro w; go_simp; try with_reducible rfl)
          refine wpAnyIn_ready (rs := [6]) (by kernel_rfl) (by simp) ?_
          refine AllReadyIn.cons rfl (fun K hK => ?_) AllReadyIn.nil
          go_simp
          refine hK _ _ ?_
          clear hK K
          refine wpAnyIn_ready (rs := [7]) (by kernel_rfl) (by simp) ?_
          refine AllReadyIn.cons rfl (fun K hK => ?_) AllReadyIn.nil
          refine operIn_app (.tmp 19) (.tmp 25) 41 rfl rfl rfl hrun2 (hK _ _ ?_)
          clear hK K
          refine wpAnyIn_ready (rs := [8]) (by kernel_rfl) (by simp) ?_
          refine AllReadyIn.cons rfl (fun K hK => ?_) AllReadyIn.nil
          go_simp
          refine hK _ _ ?_
          clear hK K
          refine wpAnyIn_done (by kernel_rfl) ?_ _
          refine hKc _ _ ?_
          gi_wp2
          exact (hpst _).out
        · refine operIn_app (.tmp 21) (.tmp 22) 23 rfl rfl rfl hrun1 (hK _ _ ?_)
          clear hK K
          refine wpAnyIn_take (i := 5) (v := ?_) rfl rfl (by kernel_rfl) (by kernel_rfl) (by kernel_rfl) (fun _ _ _ h => h) ⟨Or.inl ⟨by rfl, ?_⟩, fun _ => rfl⟩ ?_
          rotate_left
          focus (intro w; go_simp; try with_reducible rfl)
          refine wpAnyIn_ready (rs := [0, 6]) (by kernel_rfl) (by simp) ?_
          refine AllReadyIn.cons rfl (fun K hK => ?_) (AllReadyIn.cons rfl (fun K hK => ?_) AllReadyIn.nil)
          · go_simp
            refine hK _ _ ?_
            clear hK K
            refine wpAnyIn_ready (rs := [6]) (by kernel_rfl) (by simp) ?_
            refine AllReadyIn.cons rfl (fun K hK => ?_) AllReadyIn.nil
            go_simp
            refine hK _ _ ?_
            clear hK K
            refine wpAnyIn_ready (rs := [7]) (by kernel_rfl) (by simp) ?_
            refine AllReadyIn.cons rfl (fun K hK => ?_) AllReadyIn.nil
            refine operIn_app (.tmp 19) (.tmp 25) 41 rfl rfl rfl hrun2 (hK _ _ ?_)
            clear hK K
            refine wpAnyIn_ready (rs := [8]) (by kernel_rfl) (by simp) ?_
            refine AllReadyIn.cons rfl (fun K hK => ?_) AllReadyIn.nil
            go_simp
            refine hK _ _ ?_
            clear hK K
            refine wpAnyIn_done (by kernel_rfl) ?_ _
            refine hKc _ _ ?_
            gi_wp2
            exact (hpst _).out
          · go_simp
            refine hK _ _ ?_
            clear hK K
            refine wpAnyIn_ready (rs := [0]) (by kernel_rfl) (by simp) ?_
            refine AllReadyIn.cons rfl (fun K hK => ?_) AllReadyIn.nil
            go_simp
            refine hK _ _ ?_
            clear hK K
            refine wpAnyIn_ready (rs := [7]) (by kernel_rfl) (by simp) ?_
            refine AllReadyIn.cons rfl (fun K hK => ?_) AllReadyIn.nil
            refine operIn_app (.tmp 19) (.tmp 25) 41 rfl rfl rfl hrun2 (hK _ _ ?_)
            clear hK K
            refine wpAnyIn_ready (rs := [8]) (by kernel_rfl) (by simp) ?_
            refine AllReadyIn.cons rfl (fun K hK => ?_) AllReadyIn.nil
            go_simp
            refine hK _ _ ?_
            clear hK K
            refine wpAnyIn_done (by kernel_rfl) ?_ _
            refine hKc _ _ ?_
            gi_wp2
            exact (hpst _).out
  case done =>
    intro xs O V hall hI hD
    have hnO : ¬ O w3.heap.size := fun h => by have := hI.2.2 _ h; omega
    obtain ⟨v0, hbx0, ⟨cs0, hov0, _⟩, _⟩ := pend_done (by omega) hall hI
    obtain ⟨v, hbx, hpl, hbl⟩ := pend_done (by omega) hall (pinv.abid hs3 _ _ _ _ (some w3.heap.size) hI (putObj_grown V w3.heap.size (.deferred none)) (fun r e => by cases e; exact ⟨Nat.le_refl _, hnO⟩))
    have hvv : v0 = v := by
      have h := hbx0.kept (putObj_grown V w3.heap.size (.deferred none)) (by simp; omega)
      have h1 := h.cell.symm.trans hbx.cell
      injection h1
    subst hvv
    obtain ⟨Av, cv, rfl⟩ := own_slice hov0
    have hcv := hbx0.cell
    have hfin := Lib.hid (And.intro hpl hbl)
    clear hall hI hbx0 hov0 hbx hpl hbl
    go_wp2
    refine ⟨by simp, .inl ⟨_, _, rfl, run_takeDeferred hD, ?_⟩⟩
    exact ⟨_, results_tmp (t := 6) rfl _ _ _, ⟨_, rfl, hfin.out.1, hfin.out.2⟩⟩
  case stop =>
    rintro c' xs O V hall hI hD
    have hnO : ¬ O w3.heap.size := fun h => by have := hI.2.2.2.2 _ h; omega
    obtain ⟨v0, hbx0, ⟨cs0, hov0, _⟩, _⟩ := pend_stop (by omega) hall hI
    obtain ⟨v, hbx, hpl, hbl⟩ := pend_stop (by omega) hall (pstop.abid hs3 _ _ _ _ _ (some w3.heap.size) hI (putObj_grown V w3.heap.size (.deferred none)) (fun r e => by cases e; exact ⟨Nat.le_refl _, hnO⟩))
    have hvv : v0 = v := by
      have h := hbx0.kept (putObj_grown V w3.heap.size (.deferred none)) (by simp; omega)
      have h1 := h.cell.symm.trans hbx.cell
      injection h1
    subst hvv
    obtain ⟨Av, cv, rfl⟩ := own_slice hov0
    have hcv := hbx0.cell
    have hfin := Lib.hid (And.intro hpl hbl)
    obtain rfl := hI.1
    clear hall hI hbx0 hov0 hbx hpl hbl
    refine wpIn_wide.2 ?_
    go_wp2
    refine ⟨by simp, .inl ⟨_, _, rfl, run_takeDeferred hD, ?_⟩⟩
    exact ⟨_, results_tmp (t := 6) rfl _ _ _, ⟨_, rfl, hfin.out.1, hfin.out.2⟩⟩
end Go.Proofs.YtbgpdahoochkiaaDoor
