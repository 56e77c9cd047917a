import Derived.Test.YtmbjjbgpcacoeaaGreatRG
namespace Go.Proofs.YtmbjjbgpcacoeaaGreat
open Go.RowKit Go.Shelf Go.Maps Go.Sort

/- THE DOCUMENT's POOL: WRITE. -/
theorem str_add (w : World) (a b : List UInt8) (ha : a.length ≤ 8388608) (hb : b.length ≤ 8388608) : (Op.stringOp .add (str a) (str b)).run Tryz.prog w = .ok (.string (str (a ++ b))) w :=
  run_string_add_lists w a b (by omega) (by omega)
set_option maxRecDepth 100000 in
set_option maxHeartbeats 1000000 in
theorem rwrite_any (p : Pl) (A : Option Addr) (n c : Nat) (i a : Int) (S : Option Addr) (m c2 : Nat) (l : List UInt8) (w : World) (hl : p.fr.length = n) (hok : p.ok) (hA : Lies w A p.fr) (hm : l.length = m) (hS : Sees w w.heap.size S (byt l)) :
    Calls Tryz.prog 43 #[rv p A n c, .int .i64 i, .int .i64 a, .slice S m c2] w (RefP w A (writeP p i a l) n [.int .i64 (reachE p i a l.length : Int)]) := by
  obtain ⟨cs, hcs⟩ : ∃ cs, cs = rc p A n c := ⟨_, rfl⟩
  obtain ⟨W, hW⟩ : ∃ W, W = (w.alloc (.cells cs.toArray 36)).alloc (.cells Tryz.zeroCells36 36) := ⟨_, rfl⟩
  have tw : Two w W cs := hW ▸ Two.new w cs
  have hlen : cs.length = 65 := by rw [hcs, rc_len]
  have TW := Lib.hid tw
  have HLEN := Lib.hid hlen
  have HSZ := Lib.hid (show (Tryz.prog.info? 36).map (·.size) = some cs.length from hcs ▸ refpool_size p A n c)
  have HSZ2 := Lib.hid (refpool_size2 hlen)
  have HO := Lib.hid (hcs ▸ rc_one p A n c : cs.toArray.all (·.oneCell') = true)
  have hc0 : W.cell? ⟨w.heap.size, 0, none⟩ = some (.slice A n c) := by
    rw [tw.row.cell, hcs]
    rfl
  have HA := Lib.hid hA
  have HLD : Hid (∀ V, Two w V cs → (loadVar 36 ⟨w.heap.size + 1, 0, none⟩).run Tryz.prog (V.setCells (w.heap.size + 1) 0 cs) = .ok (rv p A n c) (V.setCells (w.heap.size + 1) 0 cs)) := Lib.hid (fun V h => hcs ▸ h.ld (resV_len p))
  have HRV := Lib.hid (show rv p A n c = .agg cs.toArray by rw [hcs]; rfl)
  have HCS := Lib.hid hcs
  have HW := Lib.hid hW
  have HL := Lib.hid hl
  have HOK := Lib.hid hok
  have HM := Lib.hid (hl ▸ hok.most : n ≤ 16384)
  rw [show rv p A n c = .agg cs.toArray by rw [hcs]; rfl]
  have hx0 := hc0
  rw [hW] at hx0
  have hs0 : W.heap.size = w.heap.size + 1 + 1 := by rw [hW, World.size_alloc, World.size_alloc]
  clear hcs hlen tw hA hl hok hc0 hW
  have hCA := asks_any p A n c i a (m : Int) W HL.out (Lies.below HA.out TW.out.bl)
  rw [HRV.out, HW.out] at hCA
  have HC := Lib.hid hCA
  have T2 := Lib.hid (HW.out ▸ TW.out)
  have HS := Lib.hid hS
  have HLM := Lib.hid hm
  rw [hm]
  obtain ⟨E, hEE⟩ : ∃ E, E = reachE p i a (m : Int) := ⟨_, rfl⟩
  rw [← hEE] at HC ⊢
  clear hCA hS hm
  by_cases hz : E = 0
  · subst hz
    obtain ⟨g1, g2, g3, g4, g5, o, bs, g6, g7⟩ := reach_some hEE.symm
    obtain ⟨k, rfl⟩ : ∃ k : Nat, i = k := ⟨i.toNat, by omega⟩
    obtain ⟨x, rfl⟩ : ∃ x : Nat, a = x := ⟨a.toNat, by omega⟩
    have hk : k < p.fr.length := by omega
    have hx256 : x + m ≤ 256 := by omega
    have hf : p.fr[k] = some (o, bs) := by
      have := g6
      rw [Int.toNat_natCast, List.getElem?_eq_getElem hk] at this
      exact Option.some.inj this
    have hbs := (HOK.out.own o bs (List.mem_of_getElem? g6)).2
    have hWP : (writeP p (k : Int) (x : Int) l).fr = p.fr.set k (some (o, putB bs x l)) := by
      rw [writeP_ok (by rw [HLM.out]; exact hEE.symm) g7]
      rfl
    have HWP := Lib.hid hWP
    have HG := Lib.hid (write_res (p := p) (k : Int) (x : Int) l)
    have HLA := Lib.hid (fun V (hb : Below W.heap.size W V) => Lies.at_ ((Lies.below HA.out TW.out.bl).below hb) k hk)
    obtain ⟨ad, hAd, _, _⟩ := (Lies.below HA.out TW.out.bl).at_ k hk
    subst hAd
    obtain ⟨B0, hB0⟩ : ∃ B0, B0 = str bs := ⟨_, rfl⟩
    obtain ⟨B1, hB1⟩ : ∃ B1, B1 = str (bs.take x) := ⟨_, rfl⟩
    obtain ⟨B2, hB2⟩ : ∃ B2, B2 = str (bs.drop (x + m)) := ⟨_, rfl⟩
    obtain ⟨BL, hBL⟩ : ∃ BL, BL = str l := ⟨_, rfl⟩
    obtain ⟨B3, hB3⟩ : ∃ B3, B3 = str (bs.take x ++ l) := ⟨_, rfl⟩
    obtain ⟨B4, hB4⟩ : ∃ B4, B4 = str (putB bs x l) := ⟨_, rfl⟩
    have hs0 : B0.size = 256 := by rw [hB0]; exact hbs
    have hsl1 : ∀ V, (Instr.slice 9 (.string B0) none (some (.int .i64 (x : Int))) none).run Tryz.prog V = .ok (.string B1) V := fun V => by
      rw [run_slice_string_to_if V 9 B0 .i64 _ Tryz.underlying9, if_pos (by rw [hs0]; omega), hB0, hB1, Int.toNat_natCast]
      have := str_slice bs 0 x
      rw [Nat.zero_add, List.drop_zero] at this
      rw [this]
    have hsl2 : ∀ V, (Instr.slice 9 (.string B0) (some (.int .i64 ((x : Int) + (m : Int)))) none none).run Tryz.prog V = .ok (.string B2) V := fun V => by
      rw [run_slice_string_from_if V 9 B0 .i64 _ Tryz.underlying9, if_pos (by rw [hs0]; omega), hs0, hB0, hB2, show ((x : Int) + (m : Int)).toNat = x + m by omega]
      have := str_slice bs (x + m) (256 - (x + m))
      rw [show x + m + (256 - (x + m)) = 256 by omega, List.take_of_length_le (by rw [List.length_drop, hbs]; exact Nat.le_refl _)] at this
      rw [this]
    have hadd1 : ∀ V, (Op.stringOp .add B1 BL).run Tryz.prog V = .ok (.string B3) V := fun V => by
      rw [hB1, hBL, hB3]
      exact str_add V _ _ (by rw [List.length_take]; omega) (by rw [HLM.out]; omega)
    have hadd2 : ∀ V, (Op.stringOp .add B3 B2).run Tryz.prog V = .ok (.string B4) V := fun V => by
      rw [hB3, hB2, hB4]
      have := str_add V (bs.take x ++ l) (bs.drop (x + m)) (by rw [List.length_append, List.length_take, HLM.out]; omega) (by rw [List.length_drop]; omega)
      rw [this]
      unfold putB
      rw [HLM.out]
    have hw : IntKind.i64.wrap ((x : Int) + (m : Int)) = (x : Int) + (m : Int) := wrapI _ (by omega) (by omega)
    have i0 : (0 : Int) ≤ (k : Int) := by omega
    have i1 : (k : Int) < (n : Int) := by have := HL.out; omega
    have HF := Lib.hid hf
    have HB0 := Lib.hid hB0
    have HB4 := Lib.hid hB4
    have HBL := Lib.hid hBL
    clear g1 g2 g3 g4 g5 g6 g7 hf hbs hWP hB0 hB1 hB2 hBL hB3 hB4 hs0 hEE
    go_enter Tryz.func43, Tryz.ntmps43
    go_wp2_with (first
      | refine wpList_load_mid rfl 36 (.tmp 4) rfl w.heap.size 0 rfl cs _ T2.out.range Tryz.underlying36 rfl HSZ.out ?_)
    refine HC.out.mono ?_
    rintro e w3 ⟨rfl, hb3⟩
    have T3 := Lib.hid (T2.out.below hb3)
    have hx3 : w3.cell? ⟨w.heap.size, 0, none⟩ = some (.slice (some ad) n c) := by
      rw [T3.out.row.cell, HCS.out]
      rfl
    rw [← HW.out] at hb3
    obtain ⟨ad', hAd, c1, c2'⟩ := HLA.out w3 hb3
    obtain rfl : ad = ad' := Option.some.inj hAd
    rw [HF.out] at c1 c2'
    have c1' : w3.cell? (ad.add (k * 2)) = some (.int .i64 (o : Int)) := c1
    have c3 : w3.cell? ⟨(ad.add (k * 2)).block, (ad.add (k * 2)).off + 1, none⟩ = some (.string B0) := by rw [HB0.out]; exact c2'
    clear c1 c2' hAd hb3
    obtain ⟨w5, hw5⟩ : ∃ w5, w5 = w3.alloc (.cells #[.int .i64 (o : Int), .string B0] 100) := ⟨_, rfl⟩
    obtain ⟨f, hff⟩ : ∃ f, f = w3.heap.size := ⟨_, rfl⟩
    have hr5 : Row w5 f 100 [.int .i64 (o : Int), .string B0] := hff ▸ hw5 ▸ Row.new w3 _ _
    have hb5 : Below w3.heap.size w3 w5 := hw5 ▸ below1 w3 _
    have e5 : w5.cell? ⟨f, 1, none⟩ = some (.string B0) := hr5.cell 1
    have e50 : w5.cell? ⟨f, 0, none⟩ = some (.int .i64 (o : Int)) := hr5.cell 0
    have z5 := hr5.frozen 1
    have hcv : (convert 23 9 (.slice S m c2)).run Tryz.prog w5.drew = .ok (.string BL) w5.drew := by
      rw [HBL.out]
      refine run_conv_sees _ Tryz.underlying23 Tryz.underlying5 Tryz.underlying9 HLM.out (B := w.heap.size) ?_
      exact ((HS.out.below T3.out.bl).below (hb5.mono T3.out.bl.size)).drew
    have hb7 : Below w3.heap.size w3 (w5.drew.setCell ⟨f, 1, none⟩ (.string B4)) := (hb5.drew).setCell (show w3.heap.size ≤ f from Nat.le_of_eq hff.symm) _
    have hr7 : Row (w5.drew.setCell ⟨f, 1, none⟩ (.string B4)) f 100 [.int .i64 (o : Int), .string B4] := (show Row w5.drew f _ _ from hr5).set 1 (.string B4)
    have e70 : (w5.drew.setCell ⟨f, 1, none⟩ (.string B4)).cell? ⟨f, 0, none⟩ = some (.int .i64 (o : Int)) := hr7.cell 0
    have e71 : (w5.drew.setCell ⟨f, 1, none⟩ (.string B4)).cell? ⟨f, 1, none⟩ = some (.string B4) := hr7.cell 1
    have T7 := Lib.hid (T3.out.below hb7)
    have hwc := with_any (resV p) (resV_len p) (resV_one p) p.fr (some ad) n c k (some (o, putB bs x l)) _ HL.out (by omega) HM.out (Lies.below HA.out T7.out.bl)
    rw [show Value.slice (some ad) n c :: resV p = cs from HCS.out.symm, show oi (some (o, putB bs x l)) = (o : Int) from rfl, show sb (some (o, putB bs x l)) = B4 from HB4.out.symm] at hwc
    have HC2 := Lib.hid hwc
    have HTS := Lib.hid (fun (A' : Option Addr) (c' : Nat) => (show (Value.slice A' n c' :: resV p).length = 65 by rw [List.length_cons, resV_len]))
    go_wp2_with fail
    rw [← hw5, ← hff]
    have mixed : Tryz.prog.follows .mixedOrders = true := by kernel_rfl
    clear hw5 hff hr5 hb5 hb7 hr7 hwc c1' c3
    refine wp_region_any mixed ?_
    refine wpAny_take (i := 0) (v := ?_) rfl (by kernel_rfl) (by kernel_rfl) (by kernel_rfl) (fun _ _ _ h => h) (Or.inl ⟨by kernel_rfl, ?_⟩) ?_
    rotate_left
    focus (intro w; go_simp; try with_reducible rfl)
    simp only [Act.put]
    refine wpAny_take (i := 2) (v := ?_) rfl (by kernel_rfl) (by kernel_rfl) (by kernel_rfl) (fun _ _ _ h => h) (Or.inl ⟨by kernel_rfl, ?_⟩) ?_
    rotate_left
    focus (intro w; go_simp; try with_reducible rfl)
    simp only [Act.put]
    refine wpAny_take (i := 4) (v := ?_) rfl (by kernel_rfl) (by kernel_rfl) (by kernel_rfl) (fun _ _ _ h => h) (Or.inl ⟨by kernel_rfl, ?_⟩) ?_
    rotate_left
    focus (intro w; go_simp; try with_reducible rfl)
    simp only [Act.put]
    refine wpAny_take (i := 7) (v := ?_) rfl (by kernel_rfl) (by kernel_rfl) (by kernel_rfl) (fun _ _ _ h => h) (Or.inl ⟨by kernel_rfl, ?_⟩) ?_
    rotate_left
    focus (intro w; go_simp; try with_reducible rfl)
    simp only [Act.put]
    refine wpAny_take (i := 9) (v := ?_) rfl (by kernel_rfl) (by kernel_rfl) (by kernel_rfl) (fun _ _ _ h => h) (Or.inl ⟨by kernel_rfl, ?_⟩) ?_
    rotate_left
    focus (intro w; go_simp; try with_reducible rfl)
    simp only [Act.put]
    refine wpAny_take (i := 10) (v := ?_) rfl (by kernel_rfl) (by kernel_rfl) (by kernel_rfl) (fun _ _ _ h => h) (Or.inl ⟨by kernel_rfl, ?_⟩) ?_
    rotate_left
    focus (intro w; go_simp; try with_reducible rfl)
    simp only [Act.put]
    refine wpAny_take (i := 11) (v := ?_) rfl (by kernel_rfl) (by kernel_rfl) (by kernel_rfl) (fun _ _ _ h => h) (Or.inl ⟨by kernel_rfl, ?_⟩) ?_
    rotate_left
    focus (intro w; go_simp; try with_reducible rfl)
    simp only [Act.put]
    refine wpAny_take (i := 12) (v := ?_) rfl (by kernel_rfl) (by kernel_rfl) (by kernel_rfl) (fun _ _ _ h => h) (Or.inl ⟨by kernel_rfl, ?_⟩) ?_
    rotate_left
    focus (intro w; go_simp; try with_reducible rfl)
    simp only [Act.put]
    refine wpAny_ready (rs := [1, 5, 8]) (by kernel_rfl) (by simp) ?_
    refine AllReady.cons rfl (fun K hK => ?_) (AllReady.cons rfl (fun K hK => ?_) (AllReady.cons rfl (fun K hK => ?_) (AllReady.nil)))
    · go_simp
      refine hK _ _ ?_
      clear hK K
      try simp only [Act.put]
      refine wpAny_take (i := 3) (v := ?_) rfl (by kernel_rfl) (by kernel_rfl) (by kernel_rfl) (fun _ _ _ h => h) (Or.inl ⟨by kernel_rfl, ?_⟩) ?_
      rotate_left
      focus (intro w; go_simp; try with_reducible rfl)
      simp only [Act.put]
      refine wpAny_ready (rs := [5, 8]) (by kernel_rfl) (by simp) ?_
      refine AllReady.cons rfl (fun K hK => ?_) (AllReady.cons rfl (fun K hK => ?_) (AllReady.nil))
      · go_simp
        refine hK _ _ ?_
        clear hK K
        try simp only [Act.put]
        refine wpAny_take (i := 6) (v := ?_) rfl (by kernel_rfl) (by kernel_rfl) (by kernel_rfl) (fun _ _ _ h => h) (Or.inl ⟨by kernel_rfl, ?_⟩) ?_
        rotate_left
        focus (intro w; go_simp; try with_reducible rfl)
        simp only [Act.put]
        refine wpAny_ready (rs := [8]) (by kernel_rfl) (by simp) ?_
        refine AllReady.cons rfl (fun K hK => ?_) (AllReady.nil)
        go_simp
        refine hK _ _ ?_
        clear hK K
        try simp only [Act.put]
        refine wpAny_take (i := 13) (v := ?_) rfl (by kernel_rfl) (by kernel_rfl) (by kernel_rfl) (fun _ _ _ h => h) (Or.inl ⟨by kernel_rfl, ?_⟩) ?_
        rotate_left
        focus (intro w; go_simp; try with_reducible rfl)
        simp only [Act.put]
        refine wpAny_take (i := 14) (v := ?_) rfl (by kernel_rfl) (by kernel_rfl) (by kernel_rfl) (fun _ _ _ h => h) (Or.inl ⟨by kernel_rfl, ?_⟩) ?_
        rotate_left
        focus (intro w; go_simp; try with_reducible rfl)
        simp only [Act.put]
        refine wpAny_take (i := 15) (v := ?_) rfl (by kernel_rfl) (by kernel_rfl) (by kernel_rfl) (fun _ _ _ h => h) (Or.inl ⟨by kernel_rfl, ?_⟩) ?_
        rotate_left
        focus (intro w; go_simp; try with_reducible rfl)
        simp only [Act.put]
        refine wpAny_ready (rs := [16]) (by kernel_rfl) (by simp) ?_
        refine AllReady.cons rfl (fun K hK => ?_) (AllReady.nil)
        go_simp
        refine hK _ _ ?_
        clear hK K
        try simp only [Act.put]
        refine wpAny_done (by kernel_rfl) ?_ _
        go_wp2_with (first
          | refine wpList_load_mid rfl 36 (.tmp 4) rfl w.heap.size 0 rfl cs _ T7.out.range Tryz.underlying36 rfl HSZ.out ?_)
        refine HC2.out.mono ?_
        rintro e w8 ⟨A', c', rfl, hA', hb', hne⟩
        have T8 := Lib.hid (T7.out.below hb')
        have HF8 := Lib.hid (T7.out.fin2 hA' hb' hne (Value.slice A' n c' :: resV p))
        have HNE := Lib.hid (fun a ha => Nat.le_trans T7.out.bl.size (hne a ha))
        clear hA' hb' hne
        go_wp2_with (first
          | refine wpList_store_mid rfl 36 (.tmp 8) (.tmp 46) rfl (w.heap.size + 1) 0 (Value.slice A' n c' :: resV p).toArray rfl rfl (T8.out.there (HTS.out A' c')) (refpool_size2 (HTS.out A' c')) (cells_one rfl (resV_one p)) ?_)
        exact bodyPost_ret (res_cell2 Tryz.results43 rfl (T8.out.ld (resV_len p))) rfl ⟨A', c', by unfold rv rc; rw [HG.out]; rfl, .inr HNE.out, by rw [HWP.out]; exact HF8.out.1, HF8.out.2⟩
      · go_simp
        refine hK _ _ ?_
        clear hK K
        try simp only [Act.put]
        refine wpAny_take (i := 13) (v := ?_) rfl (by kernel_rfl) (by kernel_rfl) (by kernel_rfl) (fun _ _ _ h => h) (Or.inl ⟨by kernel_rfl, ?_⟩) ?_
        rotate_left
        focus (intro w; go_simp; try with_reducible rfl)
        simp only [Act.put]
        refine wpAny_ready (rs := [5]) (by kernel_rfl) (by simp) ?_
        refine AllReady.cons rfl (fun K hK => ?_) (AllReady.nil)
        go_simp
        refine hK _ _ ?_
        clear hK K
        try simp only [Act.put]
        refine wpAny_take (i := 6) (v := ?_) rfl (by kernel_rfl) (by kernel_rfl) (by kernel_rfl) (fun _ _ _ h => h) (Or.inl ⟨by kernel_rfl, ?_⟩) ?_
        rotate_left
        focus (intro w; go_simp; try with_reducible rfl)
        simp only [Act.put]
        refine wpAny_take (i := 14) (v := ?_) rfl (by kernel_rfl) (by kernel_rfl) (by kernel_rfl) (fun _ _ _ h => h) (Or.inl ⟨by kernel_rfl, ?_⟩) ?_
        rotate_left
        focus (intro w; go_simp; try with_reducible rfl)
        simp only [Act.put]
        refine wpAny_take (i := 15) (v := ?_) rfl (by kernel_rfl) (by kernel_rfl) (by kernel_rfl) (fun _ _ _ h => h) (Or.inl ⟨by kernel_rfl, ?_⟩) ?_
        rotate_left
        focus (intro w; go_simp; try with_reducible rfl)
        simp only [Act.put]
        refine wpAny_ready (rs := [16]) (by kernel_rfl) (by simp) ?_
        refine AllReady.cons rfl (fun K hK => ?_) (AllReady.nil)
        go_simp
        refine hK _ _ ?_
        clear hK K
        try simp only [Act.put]
        refine wpAny_done (by kernel_rfl) ?_ _
        go_wp2_with (first
          | refine wpList_load_mid rfl 36 (.tmp 4) rfl w.heap.size 0 rfl cs _ T7.out.range Tryz.underlying36 rfl HSZ.out ?_)
        refine HC2.out.mono ?_
        rintro e w8 ⟨A', c', rfl, hA', hb', hne⟩
        have T8 := Lib.hid (T7.out.below hb')
        have HF8 := Lib.hid (T7.out.fin2 hA' hb' hne (Value.slice A' n c' :: resV p))
        have HNE := Lib.hid (fun a ha => Nat.le_trans T7.out.bl.size (hne a ha))
        clear hA' hb' hne
        go_wp2_with (first
          | refine wpList_store_mid rfl 36 (.tmp 8) (.tmp 46) rfl (w.heap.size + 1) 0 (Value.slice A' n c' :: resV p).toArray rfl rfl (T8.out.there (HTS.out A' c')) (refpool_size2 (HTS.out A' c')) (cells_one rfl (resV_one p)) ?_)
        exact bodyPost_ret (res_cell2 Tryz.results43 rfl (T8.out.ld (resV_len p))) rfl ⟨A', c', by unfold rv rc; rw [HG.out]; rfl, .inr HNE.out, by rw [HWP.out]; exact HF8.out.1, HF8.out.2⟩
    · go_simp
      refine hK _ _ ?_
      clear hK K
      try simp only [Act.put]
      refine wpAny_ready (rs := [1, 8]) (by kernel_rfl) (by simp) ?_
      refine AllReady.cons rfl (fun K hK => ?_) (AllReady.cons rfl (fun K hK => ?_) (AllReady.nil))
      · go_simp
        refine hK _ _ ?_
        clear hK K
        try simp only [Act.put]
        refine wpAny_take (i := 3) (v := ?_) rfl (by kernel_rfl) (by kernel_rfl) (by kernel_rfl) (fun _ _ _ h => h) (Or.inl ⟨by kernel_rfl, ?_⟩) ?_
        rotate_left
        focus (intro w; go_simp; try with_reducible rfl)
        simp only [Act.put]
        refine wpAny_take (i := 6) (v := ?_) rfl (by kernel_rfl) (by kernel_rfl) (by kernel_rfl) (fun _ _ _ h => h) (Or.inl ⟨by kernel_rfl, ?_⟩) ?_
        rotate_left
        focus (intro w; go_simp; try with_reducible rfl)
        simp only [Act.put]
        refine wpAny_ready (rs := [8]) (by kernel_rfl) (by simp) ?_
        refine AllReady.cons rfl (fun K hK => ?_) (AllReady.nil)
        go_simp
        refine hK _ _ ?_
        clear hK K
        try simp only [Act.put]
        refine wpAny_take (i := 13) (v := ?_) rfl (by kernel_rfl) (by kernel_rfl) (by kernel_rfl) (fun _ _ _ h => h) (Or.inl ⟨by kernel_rfl, ?_⟩) ?_
        rotate_left
        focus (intro w; go_simp; try with_reducible rfl)
        simp only [Act.put]
        refine wpAny_take (i := 14) (v := ?_) rfl (by kernel_rfl) (by kernel_rfl) (by kernel_rfl) (fun _ _ _ h => h) (Or.inl ⟨by kernel_rfl, ?_⟩) ?_
        rotate_left
        focus (intro w; go_simp; try with_reducible rfl)
        simp only [Act.put]
        refine wpAny_take (i := 15) (v := ?_) rfl (by kernel_rfl) (by kernel_rfl) (by kernel_rfl) (fun _ _ _ h => h) (Or.inl ⟨by kernel_rfl, ?_⟩) ?_
        rotate_left
        focus (intro w; go_simp; try with_reducible rfl)
        simp only [Act.put]
        refine wpAny_ready (rs := [16]) (by kernel_rfl) (by simp) ?_
        refine AllReady.cons rfl (fun K hK => ?_) (AllReady.nil)
        go_simp
        refine hK _ _ ?_
        clear hK K
        try simp only [Act.put]
        refine wpAny_done (by kernel_rfl) ?_ _
        go_wp2_with (first
          | refine wpList_load_mid rfl 36 (.tmp 4) rfl w.heap.size 0 rfl cs _ T7.out.range Tryz.underlying36 rfl HSZ.out ?_)
        refine HC2.out.mono ?_
        rintro e w8 ⟨A', c', rfl, hA', hb', hne⟩
        have T8 := Lib.hid (T7.out.below hb')
        have HF8 := Lib.hid (T7.out.fin2 hA' hb' hne (Value.slice A' n c' :: resV p))
        have HNE := Lib.hid (fun a ha => Nat.le_trans T7.out.bl.size (hne a ha))
        clear hA' hb' hne
        go_wp2_with (first
          | refine wpList_store_mid rfl 36 (.tmp 8) (.tmp 46) rfl (w.heap.size + 1) 0 (Value.slice A' n c' :: resV p).toArray rfl rfl (T8.out.there (HTS.out A' c')) (refpool_size2 (HTS.out A' c')) (cells_one rfl (resV_one p)) ?_)
        exact bodyPost_ret (res_cell2 Tryz.results43 rfl (T8.out.ld (resV_len p))) rfl ⟨A', c', by unfold rv rc; rw [HG.out]; rfl, .inr HNE.out, by rw [HWP.out]; exact HF8.out.1, HF8.out.2⟩
      · go_simp
        refine hK _ _ ?_
        clear hK K
        try simp only [Act.put]
        refine wpAny_take (i := 13) (v := ?_) rfl (by kernel_rfl) (by kernel_rfl) (by kernel_rfl) (fun _ _ _ h => h) (Or.inl ⟨by kernel_rfl, ?_⟩) ?_
        rotate_left
        focus (intro w; go_simp; try with_reducible rfl)
        simp only [Act.put]
        refine wpAny_ready (rs := [1]) (by kernel_rfl) (by simp) ?_
        refine AllReady.cons rfl (fun K hK => ?_) (AllReady.nil)
        go_simp
        refine hK _ _ ?_
        clear hK K
        try simp only [Act.put]
        refine wpAny_take (i := 3) (v := ?_) rfl (by kernel_rfl) (by kernel_rfl) (by kernel_rfl) (fun _ _ _ h => h) (Or.inl ⟨by kernel_rfl, ?_⟩) ?_
        rotate_left
        focus (intro w; go_simp; try with_reducible rfl)
        simp only [Act.put]
        refine wpAny_take (i := 6) (v := ?_) rfl (by kernel_rfl) (by kernel_rfl) (by kernel_rfl) (fun _ _ _ h => h) (Or.inl ⟨by kernel_rfl, ?_⟩) ?_
        rotate_left
        focus (intro w; go_simp; try with_reducible rfl)
        simp only [Act.put]
        refine wpAny_take (i := 14) (v := ?_) rfl (by kernel_rfl) (by kernel_rfl) (by kernel_rfl) (fun _ _ _ h => h) (Or.inl ⟨by kernel_rfl, ?_⟩) ?_
        rotate_left
        focus (intro w; go_simp; try with_reducible rfl)
        simp only [Act.put]
        refine wpAny_take (i := 15) (v := ?_) rfl (by kernel_rfl) (by kernel_rfl) (by kernel_rfl) (fun _ _ _ h => h) (Or.inl ⟨by kernel_rfl, ?_⟩) ?_
        rotate_left
        focus (intro w; go_simp; try with_reducible rfl)
        simp only [Act.put]
        refine wpAny_ready (rs := [16]) (by kernel_rfl) (by simp) ?_
        refine AllReady.cons rfl (fun K hK => ?_) (AllReady.nil)
        go_simp
        refine hK _ _ ?_
        clear hK K
        try simp only [Act.put]
        refine wpAny_done (by kernel_rfl) ?_ _
        go_wp2_with (first
          | refine wpList_load_mid rfl 36 (.tmp 4) rfl w.heap.size 0 rfl cs _ T7.out.range Tryz.underlying36 rfl HSZ.out ?_)
        refine HC2.out.mono ?_
        rintro e w8 ⟨A', c', rfl, hA', hb', hne⟩
        have T8 := Lib.hid (T7.out.below hb')
        have HF8 := Lib.hid (T7.out.fin2 hA' hb' hne (Value.slice A' n c' :: resV p))
        have HNE := Lib.hid (fun a ha => Nat.le_trans T7.out.bl.size (hne a ha))
        clear hA' hb' hne
        go_wp2_with (first
          | refine wpList_store_mid rfl 36 (.tmp 8) (.tmp 46) rfl (w.heap.size + 1) 0 (Value.slice A' n c' :: resV p).toArray rfl rfl (T8.out.there (HTS.out A' c')) (refpool_size2 (HTS.out A' c')) (cells_one rfl (resV_one p)) ?_)
        exact bodyPost_ret (res_cell2 Tryz.results43 rfl (T8.out.ld (resV_len p))) rfl ⟨A', c', by unfold rv rc; rw [HG.out]; rfl, .inr HNE.out, by rw [HWP.out]; exact HF8.out.1, HF8.out.2⟩
    · go_simp
      refine hK _ _ ?_
      clear hK K
      try simp only [Act.put]
      refine wpAny_take (i := 13) (v := ?_) rfl (by kernel_rfl) (by kernel_rfl) (by kernel_rfl) (fun _ _ _ h => h) (Or.inl ⟨by kernel_rfl, ?_⟩) ?_
      rotate_left
      focus (intro w; go_simp; try with_reducible rfl)
      simp only [Act.put]
      refine wpAny_ready (rs := [1, 5]) (by kernel_rfl) (by simp) ?_
      refine AllReady.cons rfl (fun K hK => ?_) (AllReady.cons rfl (fun K hK => ?_) (AllReady.nil))
      · go_simp
        refine hK _ _ ?_
        clear hK K
        try simp only [Act.put]
        refine wpAny_take (i := 3) (v := ?_) rfl (by kernel_rfl) (by kernel_rfl) (by kernel_rfl) (fun _ _ _ h => h) (Or.inl ⟨by kernel_rfl, ?_⟩) ?_
        rotate_left
        focus (intro w; go_simp; try with_reducible rfl)
        simp only [Act.put]
        refine wpAny_ready (rs := [5]) (by kernel_rfl) (by simp) ?_
        refine AllReady.cons rfl (fun K hK => ?_) (AllReady.nil)
        go_simp
        refine hK _ _ ?_
        clear hK K
        try simp only [Act.put]
        refine wpAny_take (i := 6) (v := ?_) rfl (by kernel_rfl) (by kernel_rfl) (by kernel_rfl) (fun _ _ _ h => h) (Or.inl ⟨by kernel_rfl, ?_⟩) ?_
        rotate_left
        focus (intro w; go_simp; try with_reducible rfl)
        simp only [Act.put]
        refine wpAny_take (i := 14) (v := ?_) rfl (by kernel_rfl) (by kernel_rfl) (by kernel_rfl) (fun _ _ _ h => h) (Or.inl ⟨by kernel_rfl, ?_⟩) ?_
        rotate_left
        focus (intro w; go_simp; try with_reducible rfl)
        simp only [Act.put]
        refine wpAny_take (i := 15) (v := ?_) rfl (by kernel_rfl) (by kernel_rfl) (by kernel_rfl) (fun _ _ _ h => h) (Or.inl ⟨by kernel_rfl, ?_⟩) ?_
        rotate_left
        focus (intro w; go_simp; try with_reducible rfl)
        simp only [Act.put]
        refine wpAny_ready (rs := [16]) (by kernel_rfl) (by simp) ?_
        refine AllReady.cons rfl (fun K hK => ?_) (AllReady.nil)
        go_simp
        refine hK _ _ ?_
        clear hK K
        try simp only [Act.put]
        refine wpAny_done (by kernel_rfl) ?_ _
        go_wp2_with (first
          | refine wpList_load_mid rfl 36 (.tmp 4) rfl w.heap.size 0 rfl cs _ T7.out.range Tryz.underlying36 rfl HSZ.out ?_)
        refine HC2.out.mono ?_
        rintro e w8 ⟨A', c', rfl, hA', hb', hne⟩
        have T8 := Lib.hid (T7.out.below hb')
        have HF8 := Lib.hid (T7.out.fin2 hA' hb' hne (Value.slice A' n c' :: resV p))
        have HNE := Lib.hid (fun a ha => Nat.le_trans T7.out.bl.size (hne a ha))
        clear hA' hb' hne
        go_wp2_with (first
          | refine wpList_store_mid rfl 36 (.tmp 8) (.tmp 46) rfl (w.heap.size + 1) 0 (Value.slice A' n c' :: resV p).toArray rfl rfl (T8.out.there (HTS.out A' c')) (refpool_size2 (HTS.out A' c')) (cells_one rfl (resV_one p)) ?_)
        exact bodyPost_ret (res_cell2 Tryz.results43 rfl (T8.out.ld (resV_len p))) rfl ⟨A', c', by unfold rv rc; rw [HG.out]; rfl, .inr HNE.out, by rw [HWP.out]; exact HF8.out.1, HF8.out.2⟩
      · go_simp
        refine hK _ _ ?_
        clear hK K
        try simp only [Act.put]
        refine wpAny_ready (rs := [1]) (by kernel_rfl) (by simp) ?_
        refine AllReady.cons rfl (fun K hK => ?_) (AllReady.nil)
        go_simp
        refine hK _ _ ?_
        clear hK K
        try simp only [Act.put]
        refine wpAny_take (i := 3) (v := ?_) rfl (by kernel_rfl) (by kernel_rfl) (by kernel_rfl) (fun _ _ _ h => h) (Or.inl ⟨by kernel_rfl, ?_⟩) ?_
        rotate_left
        focus (intro w; go_simp; try with_reducible rfl)
        simp only [Act.put]
        refine wpAny_take (i := 6) (v := ?_) rfl (by kernel_rfl) (by kernel_rfl) (by kernel_rfl) (fun _ _ _ h => h) (Or.inl ⟨by kernel_rfl, ?_⟩) ?_
        rotate_left
        focus (intro w; go_simp; try with_reducible rfl)
        simp only [Act.put]
        refine wpAny_take (i := 14) (v := ?_) rfl (by kernel_rfl) (by kernel_rfl) (by kernel_rfl) (fun _ _ _ h => h) (Or.inl ⟨by kernel_rfl, ?_⟩) ?_
        rotate_left
        focus (intro w; go_simp; try with_reducible rfl)
        simp only [Act.put]
        refine wpAny_take (i := 15) (v := ?_) rfl (by kernel_rfl) (by kernel_rfl) (by kernel_rfl) (fun _ _ _ h => h) (Or.inl ⟨by kernel_rfl, ?_⟩) ?_
        rotate_left
        focus (intro w; go_simp; try with_reducible rfl)
        simp only [Act.put]
        refine wpAny_ready (rs := [16]) (by kernel_rfl) (by simp) ?_
        refine AllReady.cons rfl (fun K hK => ?_) (AllReady.nil)
        go_simp
        refine hK _ _ ?_
        clear hK K
        try simp only [Act.put]
        refine wpAny_done (by kernel_rfl) ?_ _
        go_wp2_with (first
          | refine wpList_load_mid rfl 36 (.tmp 4) rfl w.heap.size 0 rfl cs _ T7.out.range Tryz.underlying36 rfl HSZ.out ?_)
        refine HC2.out.mono ?_
        rintro e w8 ⟨A', c', rfl, hA', hb', hne⟩
        have T8 := Lib.hid (T7.out.below hb')
        have HF8 := Lib.hid (T7.out.fin2 hA' hb' hne (Value.slice A' n c' :: resV p))
        have HNE := Lib.hid (fun a ha => Nat.le_trans T7.out.bl.size (hne a ha))
        clear hA' hb' hne
        go_wp2_with (first
          | refine wpList_store_mid rfl 36 (.tmp 8) (.tmp 46) rfl (w.heap.size + 1) 0 (Value.slice A' n c' :: resV p).toArray rfl rfl (T8.out.there (HTS.out A' c')) (refpool_size2 (HTS.out A' c')) (cells_one rfl (resV_one p)) ?_)
        exact bodyPost_ret (res_cell2 Tryz.results43 rfl (T8.out.ld (resV_len p))) rfl ⟨A', c', by unfold rv rc; rw [HG.out]; rfl, .inr HNE.out, by rw [HWP.out]; exact HF8.out.1, HF8.out.2⟩
  · have HP := Lib.hid (show writeP p i a l = p by unfold writeP; rw [if_neg (by rw [HLM.out, ← hEE]; exact hz)])
    have hq : (((E : Nat) : Int) != 0) = true := by simp [hz]
    clear hz hEE
    go_enter Tryz.func43, Tryz.ntmps43
    go_wp2_with (first
      | refine wpList_load_mid rfl 36 (.tmp 4) rfl w.heap.size 0 rfl cs _ T2.out.range Tryz.underlying36 rfl HSZ.out ?_)
    refine HC.out.mono ?_
    rintro e w3 ⟨rfl, hb3⟩
    have T3 := Lib.hid (T2.out.below hb3)
    clear hb3
    go_wp2_with (first
      | refine wpList_load_mid rfl 36 (.tmp 4) rfl w.heap.size 0 rfl cs _ T3.out.range Tryz.underlying36 rfl HSZ.out ?_
      | refine wpList_store_mid rfl 36 (.tmp 8) (.tmp 20) rfl (w.heap.size + 1) 0 cs.toArray rfl rfl (T3.out.there HLEN.out) HSZ2.out HO.out ?_)
    exact bodyPost_ret (res_cell2 Tryz.results43 rfl (HLD.out _ T3.out)) rfl (by rw [HP.out]; exact ⟨_, _, rfl, .inl rfl, T3.out.fin HA.out _⟩)
end Go.Proofs.YtmbjjbgpcacoeaaGreat
