import Derived.Test.YtmbjjbgpcacoeaaGreatRF
import Derived.Test.YtmbjjbgpcacoeaaGreatMake
namespace Go.Proofs.YtmbjjbgpcacoeaaGreat
open Go.RowKit Go.Shelf Go.Maps Go.Sort

/- THE DOCUMENT's POOL: TAKE. -/
theorem takeE_2 {p : Pl} {o : Int} (h : ownerB o = false) : takeE p o = 2 := by
  unfold takeE
  rw [if_pos (by rw [h]; decide)]
theorem takeE_3 {p : Pl} {o : Nat} (h : o < 64) : takeE p (o : Int) = if resN p o ≤ taken p.fr o then 171 else 0 := by
  unfold takeE resN
  rw [if_neg (by rw [Classical.not_not, ownerB_iff]; omega), Int.toNat_natCast]
  by_cases h1 : leftN p o = 0
  · rw [if_pos h1, if_pos (by omega)]
  · rw [if_neg h1, if_neg (by omega)]
theorem take_at {p : Pl} {k i n : Nat} (hE : takeE p (k : Int) = 0) (hl : p.fr.length = n) (hi : i < p.fr.length) (hn : p.fr[i] = none) (hb : ∀ j (hj : j < p.fr.length), j < i → p.fr[j] ≠ none) : takeI p (k : Int) = i ∧ (takeP p (k : Int)).fr = p.fr.set i (some (k, zero256)) := by
  have h1 : free1 p.fr = some i := free1_of _ _ (by rw [List.getElem?_eq_getElem hi, hn]) (fun j hj => by
    have hjl : j < p.fr.length := by omega
    have := hb j hjl hj
    rw [List.getElem?_eq_getElem hjl]
    cases hx : p.fr[j] with
    | none => exact absurd hx this
    | some y => exact ⟨y, rfl⟩)
  have h2 : takeI p (k : Int) = i := by
    unfold takeI
    rw [if_pos hE, h1]
    rfl
  refine ⟨h2, ?_⟩
  unfold takeP
  rw [if_pos hE, h2]
  rfl
theorem take_none {p : Pl} (hok : p.ok) {o : Int} (hE : takeE p o = 0) (hb : ∀ j (hj : j < p.fr.length), p.fr[j] ≠ none) : False := by
  obtain ⟨_, _, _, h4, _⟩ := takeE_left hok hE
  obtain ⟨h5, _⟩ := free1_spec _ _ h4
  obtain ⟨h6, h7⟩ := List.getElem?_eq_some_iff.1 h5
  exact hb _ h6 h7
set_option maxRecDepth 100000 in
set_option maxHeartbeats 1000000 in
theorem rtake_any (p : Pl) (A : Option Addr) (n c : Nat) (o : Int) (w : World) (hl : p.fr.length = n) (hok : p.ok) (hA : Lies w A p.fr) :
    Calls Tryz.prog 41 #[rv p A n c, .int .i64 o] w (RefP w A (takeP p o) n [.int .i64 (takeI p o : Int), .int .i64 (takeE p o : Int)]) := by
  obtain ⟨cs, hcs⟩ : ∃ cs, cs = rc p A n c := ⟨_, rfl⟩
  obtain ⟨W, hW⟩ : ∃ W, W = (w.alloc (.cells cs.toArray 36)).alloc (.cells Tryz.zeroCells36 36) := ⟨_, rfl⟩
  have tw : Two w W cs := hW ▸ Two.new w cs
  have hlen : cs.length = 65 := by rw [hcs, rc_len]
  have TW := Lib.hid tw
  have HLEN := Lib.hid hlen
  have HSZ := Lib.hid (show (Tryz.prog.info? 36).map (·.size) = some cs.length from hcs ▸ refpool_size p A n c)
  have HSZ2 := Lib.hid (refpool_size2 hlen)
  have HO := Lib.hid (hcs ▸ rc_one p A n c : cs.toArray.all (·.oneCell') = true)
  have hc0 : W.cell? ⟨w.heap.size, 0, none⟩ = some (.slice A n c) := by
    rw [tw.row.cell, hcs]
    rfl
  have HA := Lib.hid hA
  have HLD : Hid (∀ V, Two w V cs → (loadVar 36 ⟨w.heap.size + 1, 0, none⟩).run Tryz.prog (V.setCells (w.heap.size + 1) 0 cs) = .ok (rv p A n c) (V.setCells (w.heap.size + 1) 0 cs)) := Lib.hid (fun V h => hcs ▸ h.ld (resV_len p))
  have HRV := Lib.hid (show rv p A n c = .agg cs.toArray by rw [hcs]; rfl)
  have HCS := Lib.hid hcs
  have HW := Lib.hid hW
  have HL := Lib.hid hl
  have HOK := Lib.hid hok
  have HM := Lib.hid (hl ▸ hok.most : n ≤ 16384)
  rw [show rv p A n c = .agg cs.toArray by rw [hcs]; rfl]
  have hx0 := hc0
  rw [hW] at hx0
  have hs0 : W.heap.size = w.heap.size + 1 + 1 := by rw [hW, World.size_alloc, World.size_alloc]
  clear hcs hlen tw hA hl hok hc0 hW
  cases hob : ownerB o with
  | false =>
    have ho := owner_any o W
    rw [hob, HW.out] at ho
    have hE := takeE_2 (p := p) hob
    have HP := Lib.hid (takeP_same (p := p) (o := o) (by rw [hE]; decide))
    rw [no_take (by rw [hE]; decide), hE]
    have T2 := Lib.hid (HW.out ▸ TW.out)
    have HO2 := Lib.hid ho
    clear hE ho hob
    go_enter Tryz.func41, Tryz.ntmps41
    go_wp2_with fail
    refine HO2.out.mono ?_
    rintro e w3 ⟨rfl, rfl⟩
    go_wp2_with (first
      | refine wpList_load_mid rfl 36 (.tmp 2) rfl w.heap.size 0 rfl cs _ T2.out.range Tryz.underlying36 rfl HSZ.out ?_
      | refine wpList_store_mid rfl 36 (.tmp 4) (.tmp 11) rfl (w.heap.size + 1) 0 cs.toArray rfl rfl (T2.out.there HLEN.out) HSZ2.out HO.out ?_)
    exact bodyPost_ret (res_cell3 Tryz.results41 rfl (HLD.out _ T2.out)) rfl (by rw [HP.out]; exact ⟨_, _, rfl, .inl rfl, T2.out.fin HA.out _⟩)
  | true =>
  have hob1 := (ownerB_iff o).1 hob
  obtain ⟨k, rfl⟩ : ∃ k : Nat, o = k := ⟨o.toNat, by omega⟩
  have hk : k < 64 := by omega
  have hE := takeE_3 (p := p) hk
  have ho := owner_any (k : Int) W
  rw [hob, HW.out] at ho
  have ht : ∀ V, Lies V A p.fr → Calls Tryz.prog 54 #[.agg cs.toArray, .int .i64 (k : Int)] V fun e w' => e = .returned (.int .i64 (taken p.fr k : Int)) ∧ Below V.heap.size V w' := fun V hV => HRV.out ▸ rtaken_any p A n c k V HL.out HM.out hV
  have T2 := Lib.hid (HW.out ▸ TW.out)
  obtain ⟨w4, hw4⟩ : ∃ w4, w4 = (w.alloc (.cells cs.toArray 36)).alloc (.cells Tryz.zeroCells36 36) := ⟨_, rfl⟩
  have T4 := Lib.hid (hw4 ▸ T2.out)
  obtain ⟨t, htt⟩ : ∃ t, t = taken p.fr k := ⟨_, rfl⟩
  obtain ⟨r, hrr⟩ : ∃ r, r = resN p k := ⟨_, rfl⟩
  rw [← htt] at hE ht
  rw [← hrr] at hE
  have hck : w4.cell? ⟨w.heap.size, 1 + k, none⟩ = some (.int .i64 (r : Int)) := by
    rw [T4.out.row.cell, HCS.out, Nat.add_comm 1 k]
    exact (resV_get p k hk).trans (by rw [hrr]; rfl)
  have HRM := Lib.hid (fun V (hb : Below w4.heap.size w4 V) => ht V (Lies.below HA.out (T4.out.below hb).bl))
  have HS := Lib.hid (fun V (hb : Below w4.heap.size w4 V) => (show V.rangeAt w.heap.size 0 cs ∧ V.cell? ⟨w.heap.size, 1 + k, none⟩ = some (.int .i64 (r : Int)) from ⟨(T4.out.below hb).range, (hb.cell (p := ⟨w.heap.size, 1 + k, none⟩) T4.out.row.lt).trans hck⟩))
  have hbd : Below w4.heap.size w4 w4.drew := (Below.refl _ _).drew
  have HO2 := Lib.hid ho
  have i0 : (0 : Int) ≤ (k : Int) := by omega
  have i1 : (k : Int) < 64 := by omega
  have HW4 := Lib.hid hw4
  clear ho ht hob hob1 htt hrr hck
  by_cases h4 : r ≤ t
  · have d4 : decide ((r : Int) ≤ (t : Int)) = true := decide_eq_true (by omega)
    have d4n : decide (r ≤ t) = true := decide_eq_true h4
    rw [if_pos h4] at hE
    have HP := Lib.hid (takeP_same (p := p) (o := (k : Int)) (by rw [hE]; decide))
    rw [no_take (by rw [hE]; decide), hE]
    clear hE h4 hw4
    go_enter Tryz.func41, Tryz.ntmps41
    go_wp2_with fail
    refine HO2.out.mono ?_
    rintro e w3 ⟨rfl, rfl⟩
    rw [← HW4.out]
    go_wp2_with fail
    refine wp_region_noPanic ?_
    refine wp_region_held_drew (S := fun V => V.rangeAt w.heap.size 0 cs ∧ V.cell? ⟨w.heap.size, 1 + k, none⟩ = some (.int .i64 (r : Int))) (by kernel_rfl) (HS.out _ hbd) (fun hHeld => ?_)
    refine wpAnyH_take (i := 0) rfl (by kernel_rfl) (by kernel_rfl) (by kernel_rfl) (fun _ _ _ h => h) (yieldsIf_load_mid (by kernel_rfl) 36 (.tmp 2) rfl w.heap.size 0 rfl cs _ (fun V hV => hV.1) Tryz.underlying36 rfl HSZ.out) hHeld ?_
    simp only [Act.put]
    refine wpAnyH_take (i := 1) (v := ?_) rfl (by kernel_rfl) (by kernel_rfl) (by kernel_rfl) (fun _ _ _ h => h) (Or.inl ⟨by kernel_rfl, ?_⟩) hHeld ?_
    rotate_left
    focus (intro w hSw; (try dsimp only at hSw); go_simp; try with_reducible rfl)
    simp only [Act.put]
    refine wpAnyH_take (i := 3) (v := ?_) rfl (by kernel_rfl) (by kernel_rfl) (by kernel_rfl) (fun _ _ _ h => h) (Or.inl ⟨by kernel_rfl, ?_⟩) hHeld ?_
    rotate_left
    focus (intro w hSw; (try dsimp only at hSw); go_simp; try with_reducible rfl)
    simp only [Act.put]
    refine wpAnyH_take (i := 4) (v := ?_) rfl (by kernel_rfl) (by kernel_rfl) (by kernel_rfl) (fun _ _ _ h => h) (Or.inl ⟨by kernel_rfl, ?_⟩) hHeld ?_
    rotate_left
    focus (intro w hSw; (try dsimp only at hSw); go_simp; try with_reducible rfl)
    simp only [Act.put]
    refine wpAnyH_take (i := 5) (v := ?_) rfl (by kernel_rfl) (by kernel_rfl) (by kernel_rfl) (fun _ _ _ h => h) (Or.inl ⟨by kernel_rfl, ?_⟩) hHeld ?_
    rotate_left
    focus (intro w hSw; (try dsimp only at hSw); go_simp; try with_reducible rfl)
    simp only [Act.put]
    refine wpAnyH_take (i := 6) (v := ?_) rfl (by kernel_rfl) (by kernel_rfl) (by kernel_rfl) (fun _ _ _ h => h) (Or.inl ⟨by kernel_rfl, ?_⟩) hHeld ?_
    rotate_left
    focus (intro w hSw; (try dsimp only at hSw); go_simp; try with_reducible rfl)
    simp only [Act.put]
    refine wpAnyH_ready (rs := [2]) (by kernel_rfl) (by simp) ?_
    refine AllReadyH.cons rfl (fun K hK => ?_) (AllReadyH.nil)
    go_simp
    refine (HRM.out _ hbd).mono ?_
    rintro e w5 ⟨rfl, hb5⟩
    have hB5 := below0 hbd hb5
    refine hK.out _ _ (HS.out _ hB5) (fun hHeld => ?_)
    clear hK K
    try simp only [Act.put]
    refine wpAnyH_take (i := 7) (v := ?_) rfl (by kernel_rfl) (by kernel_rfl) (by kernel_rfl) (fun _ _ _ h => h) (Or.inl ⟨by kernel_rfl, ?_⟩) hHeld ?_
    rotate_left
    focus (intro w hSw; (try dsimp only at hSw); go_simp; try with_reducible rfl)
    simp only [Act.put]
    refine wpAnyH_done (by kernel_rfl) ?_ _
    refine NoPanic.normal ?_
    have T5 := Lib.hid (T4.out.below hB5)
    clear hb5 hB5 hbd
    go_wp2_with (first
      | refine wpList_load_mid rfl 36 (.tmp 2) rfl w.heap.size 0 rfl cs _ T5.out.range Tryz.underlying36 rfl HSZ.out ?_
      | refine wpList_store_mid rfl 36 (.tmp 4) (.tmp 20) rfl (w.heap.size + 1) 0 cs.toArray rfl rfl (T5.out.there HLEN.out) HSZ2.out HO.out ?_)
    exact bodyPost_ret (res_cell3 Tryz.results41 rfl (HLD.out _ T5.out)) rfl (by rw [HP.out]; exact ⟨_, _, rfl, .inl rfl, T5.out.fin HA.out _⟩)
  · have d4 : decide ((r : Int) ≤ (t : Int)) = false := decide_eq_false (by omega)
    have d4n : decide (r ≤ t) = false := decide_eq_false h4
    rw [if_neg h4] at hE
    have HE := Lib.hid hE
    rw [hE]
    clear hE h4 hw4
    go_enter Tryz.func41, Tryz.ntmps41
    go_wp2_with fail
    refine HO2.out.mono ?_
    rintro e w3 ⟨rfl, rfl⟩
    rw [← HW4.out]
    go_wp2_with fail
    refine wp_region_noPanic ?_
    refine wp_region_held_drew (S := fun V => V.rangeAt w.heap.size 0 cs ∧ V.cell? ⟨w.heap.size, 1 + k, none⟩ = some (.int .i64 (r : Int))) (by kernel_rfl) (HS.out _ hbd) (fun hHeld => ?_)
    refine wpAnyH_take (i := 0) rfl (by kernel_rfl) (by kernel_rfl) (by kernel_rfl) (fun _ _ _ h => h) (yieldsIf_load_mid (by kernel_rfl) 36 (.tmp 2) rfl w.heap.size 0 rfl cs _ (fun V hV => hV.1) Tryz.underlying36 rfl HSZ.out) hHeld ?_
    simp only [Act.put]
    refine wpAnyH_take (i := 1) (v := ?_) rfl (by kernel_rfl) (by kernel_rfl) (by kernel_rfl) (fun _ _ _ h => h) (Or.inl ⟨by kernel_rfl, ?_⟩) hHeld ?_
    rotate_left
    focus (intro w hSw; (try dsimp only at hSw); go_simp; try with_reducible rfl)
    simp only [Act.put]
    refine wpAnyH_take (i := 3) (v := ?_) rfl (by kernel_rfl) (by kernel_rfl) (by kernel_rfl) (fun _ _ _ h => h) (Or.inl ⟨by kernel_rfl, ?_⟩) hHeld ?_
    rotate_left
    focus (intro w hSw; (try dsimp only at hSw); go_simp; try with_reducible rfl)
    simp only [Act.put]
    refine wpAnyH_take (i := 4) (v := ?_) rfl (by kernel_rfl) (by kernel_rfl) (by kernel_rfl) (fun _ _ _ h => h) (Or.inl ⟨by kernel_rfl, ?_⟩) hHeld ?_
    rotate_left
    focus (intro w hSw; (try dsimp only at hSw); go_simp; try with_reducible rfl)
    simp only [Act.put]
    refine wpAnyH_take (i := 5) (v := ?_) rfl (by kernel_rfl) (by kernel_rfl) (by kernel_rfl) (fun _ _ _ h => h) (Or.inl ⟨by kernel_rfl, ?_⟩) hHeld ?_
    rotate_left
    focus (intro w hSw; (try dsimp only at hSw); go_simp; try with_reducible rfl)
    simp only [Act.put]
    refine wpAnyH_take (i := 6) (v := ?_) rfl (by kernel_rfl) (by kernel_rfl) (by kernel_rfl) (fun _ _ _ h => h) (Or.inl ⟨by kernel_rfl, ?_⟩) hHeld ?_
    rotate_left
    focus (intro w hSw; (try dsimp only at hSw); go_simp; try with_reducible rfl)
    simp only [Act.put]
    refine wpAnyH_ready (rs := [2]) (by kernel_rfl) (by simp) ?_
    refine AllReadyH.cons rfl (fun K hK => ?_) (AllReadyH.nil)
    go_simp
    refine (HRM.out _ hbd).mono ?_
    rintro e w5 ⟨rfl, hb5⟩
    have hB5 := below0 hbd hb5
    refine hK.out _ _ (HS.out _ hB5) (fun hHeld => ?_)
    clear hK K
    try simp only [Act.put]
    refine wpAnyH_take (i := 7) (v := ?_) rfl (by kernel_rfl) (by kernel_rfl) (by kernel_rfl) (fun _ _ _ h => h) (Or.inl ⟨by kernel_rfl, ?_⟩) hHeld ?_
    rotate_left
    focus (intro w hSw; (try dsimp only at hSw); go_simp; try with_reducible rfl)
    simp only [Act.put]
    refine wpAnyH_done (by kernel_rfl) ?_ _
    refine NoPanic.normal ?_
    have T5 := Lib.hid (T4.out.below hB5)
    clear hb5 hB5 hbd
    have hx5 : w5.cell? ⟨w.heap.size, 0, none⟩ = some (.slice A n c) := by
      rw [T5.out.row.cell, HCS.out]
      rfl
    go_wp2_with fail
    go_loopw [7] (fun s7 wr => ∃ i : Nat, i ≤ n ∧ s7 = .int .i64 (i : Int) ∧ Hid (∀ j (hj : j < p.fr.length), j < i → p.fr[j] ≠ none) ∧ wr = w5) (fun s7 _ => n - (_root_.Go.RowKit.intOf s7).toNat)
    case atStart => exact ⟨0, Nat.zero_le _, rfl, Lib.hid (fun j _ h => absurd h (by omega)), rfl⟩
    case round =>
      obtain ⟨i, hi, rfl, HB, rfl⟩ := hrel
      by_cases hlt : i < n
      · have hil : i < p.fr.length := by rw [HL.out]; exact hlt
        obtain ⟨ad, rfl, c1, _⟩ := (Lies.below HA.out T5.out.bl).at_ i hil
        have i3 : i < 16384 := by have := HM.out; omega
        have j0 : (0 : Int) ≤ (i : Int) := by omega
        have j1 : (i : Int) < (n : Int) := by omega
        have j2 : decide ((i : Int) < (n : Int)) = true := decide_eq_true j1
        have j3 : decide (i < n) = true := decide_eq_true hlt
        by_cases hf : p.fr[i] = none
        · rw [hf] at c1
          have e1 : decide ((-1 : Int) < 0) = true := by decide
          have c1' : wr.cell? (ad.add (i * 2)) = some (.int .i64 (-1)) := c1
          obtain ⟨hI, hFR⟩ := take_at HE.out HL.out hil hf HB.out
          have HI := Lib.hid hI
          have HFR := Lib.hid hFR
          obtain ⟨ZC, hZC⟩ : ∃ ZC, ZC = (List.replicate 256 (Value.int .u8 0)).toArray := ⟨_, rfl⟩
          obtain ⟨q0, hj, hj0, hj1, hj2⟩ := info_parts u8_info
          have hmk : (Instr.makeSlice 23 (.int .i64 256) (.int .i64 256)).run Tryz.prog wr.drew = .ok (.slice (some ⟨wr.heap.size, 0, none⟩) 256 256) ((wr.alloc (.cells ZC 5)).drew) := by
            rw [hZC]
            exact make_one Tryz.underlying23 hj hj0 hj1 rfl 256 256 (by omega) (by rw [hj2]; omega) (by omega) wr.drew
          obtain ⟨Z, hZ⟩ : ∃ Z, Z = sb (some (k, zero256)) := ⟨_, rfl⟩
          have hba : Below wr.heap.size wr ((wr.alloc (.cells ZC 5)).drew) := below_drewN (below1 wr _) 1
          obtain ⟨V, hV⟩ : ∃ V, V = (wr.alloc (.cells ZC 5)).drew := ⟨_, rfl⟩
          have hcv : (convert 23 9 (.slice (some ⟨wr.heap.size, 0, none⟩) 256 256)).run Tryz.prog V = .ok (.string Z) V := by
            rw [hZ, hV]
            refine run_conv_sees _ Tryz.underlying23 Tryz.underlying5 Tryz.underlying9 zero_len0 (B := wr.heap.size + 1) ?_
            have hs := sees_lit wr zero256 5
            have hz : ZC = (byt zero256).toArray := by rw [hZC]; kernel_rfl
            rw [hz]
            exact hs.drew
          rw [← hV] at hmk hba
          have TV := T5.out.below hba
          have hwc := with_any (resV p) (resV_len p) (resV_one p) p.fr (some ad) n c i (some (k, zero256)) V HL.out hlt HM.out (Lies.below HA.out TV.bl)
          rw [show Value.slice (some ad) n c :: resV p = cs from HCS.out.symm, ← hZ, show oi (some (k, zero256)) = (k : Int) from rfl] at hwc
          have HC := Lib.hid hwc
          have HTS := Lib.hid (fun (A' : Option Addr) (c' : Nat) => (show (Value.slice A' n c' :: resV p).length = 65 by rw [List.length_cons, resV_len]))
          have TVH := Lib.hid TV
          have HG := Lib.hid (take_res HOK.out (k : Int))
          have S0 := Lib.hid (T5.out.below ((Below.refl _ _).drew : Below wr.heap.size wr wr.drew)).range
          have SV := Lib.hid TV.range
          clear c1 hI hFR hf HB hZC hj hj0 hj1 hj2 hZ hV hba hwc TV
          go_wp2_with fail
          refine wp_region_noPanic ?_
          refine wp_region_held_drew (S := fun V => V.rangeAt w.heap.size 0 cs) (by kernel_rfl) S0.out (fun hHeld => ?_)
          refine wpAnyH_take (i := 0) rfl (by kernel_rfl) (by kernel_rfl) (by kernel_rfl) (fun _ _ _ h => h) (yieldsIf_load_mid (by kernel_rfl) 36 (.tmp 2) rfl w.heap.size 0 rfl cs _ (fun V hV => hV) Tryz.underlying36 rfl HSZ.out) hHeld ?_
          simp only [Act.put]
          refine wpAnyH_take (i := 1) (v := ?_) rfl (by kernel_rfl) (by kernel_rfl) (by kernel_rfl) (fun _ _ _ h => h) (Or.inl ⟨by kernel_rfl, ?_⟩) hHeld ?_
          rotate_left
          focus (intro w hSw; (try dsimp only at hSw); go_simp; try with_reducible rfl)
          simp only [Act.put]
          refine wpAnyH_take (i := 2) (v := ?_) rfl (by kernel_rfl) (by kernel_rfl) (by kernel_rfl) (fun _ _ _ h => h) (Or.inl ⟨by kernel_rfl, ?_⟩) hHeld ?_
          rotate_left
          focus (intro w hSw; (try dsimp only at hSw); go_simp; try with_reducible rfl)
          simp only [Act.put]
          refine wpAnyH_take (i := 7) (v := ?_) rfl (by kernel_rfl) (by kernel_rfl) (by kernel_rfl) (fun _ _ _ h => h) (Or.inl ⟨by kernel_rfl, ?_⟩) hHeld ?_
          rotate_left
          focus (intro w hSw; (try dsimp only at hSw); go_simp; try with_reducible rfl)
          simp only [Act.put]
          refine wpAnyH_ready (rs := [3]) (by kernel_rfl) (by simp) ?_
          refine AllReadyH.cons rfl (fun K hK => ?_) (AllReadyH.nil)
          go_simp
          refine hK.out _ _ SV.out (fun hHeld => ?_)
          clear hK K
          try simp only [Act.put]
          refine wpAnyH_ready (rs := [4]) (by kernel_rfl) (by simp) ?_
          refine AllReadyH.cons rfl (fun K hK => ?_) (AllReadyH.nil)
          go_simp
          refine hK.out _ _ SV.out (fun hHeld => ?_)
          clear hK K
          try simp only [Act.put]
          refine wpAnyH_take (i := 5) (v := ?_) rfl (by kernel_rfl) (by kernel_rfl) (by kernel_rfl) (fun _ _ _ h => h) (Or.inl ⟨by kernel_rfl, ?_⟩) hHeld ?_
          rotate_left
          focus (intro w hSw; (try dsimp only at hSw); go_simp; try with_reducible rfl)
          simp only [Act.put]
          refine wpAnyH_ready (rs := [6]) (by kernel_rfl) (by simp) ?_
          refine AllReadyH.cons rfl (fun K hK => ?_) (AllReadyH.nil)
          go_simp
          refine HC.out.mono ?_
          rintro e w8 ⟨A', c', rfl, hA', hb', hne⟩
          have T8 := Lib.hid (TVH.out.below hb')
          have HF := Lib.hid (TVH.out.fin2 hA' hb' hne (Value.slice A' n c' :: resV p))
          have HNE := Lib.hid (fun a ha => Nat.le_trans TVH.out.bl.size (hne a ha))
          clear hA' hb' hne
          refine hK.out _ _ T8.out.range (fun hHeld => ?_)
          clear hK K
          try simp only [Act.put]
          refine wpAnyH_ready (rs := [8]) (by kernel_rfl) (by simp) ?_
          refine AllReadyH.cons rfl (fun K hK => ?_) (AllReadyH.nil)
          refine step_store_mid rfl 36 _ _ rfl (w.heap.size + 1) 0 (Value.slice A' n c' :: resV p).toArray (by simp [Act.eval]) (by simp [Act.eval]) (T8.out.there (HTS.out A' c')) (refpool_size2 (HTS.out A' c')) (cells_one rfl (resV_one p)) ?_
          refine hK.out _ _ (World.rangeAt_setCells_apart T8.out.range _ _ _ (.inl (by omega))) (fun hHeld => ?_)
          clear hK K
          try simp only [Act.put]
          refine wpAnyH_take (i := 9) (v := ?_) rfl (by kernel_rfl) (by kernel_rfl) (by kernel_rfl) (fun _ _ _ h => h) (Or.inl ⟨by kernel_rfl, ?_⟩) hHeld ?_
          rotate_left
          focus (intro w hSw; (try dsimp only at hSw); go_simp; try with_reducible rfl)
          simp only [Act.put]
          refine wpAnyH_take (i := 10) (v := ?_) rfl (by kernel_rfl) (by kernel_rfl) (by kernel_rfl) (fun _ _ _ h => h) (Or.inl ⟨by kernel_rfl, ?_⟩) hHeld ?_
          rotate_left
          focus (intro w hSw; (try dsimp only at hSw); go_simp; try with_reducible rfl)
          simp only [Act.put]
          refine wpAnyH_done (by kernel_rfl) ?_ _
          refine NoPanic.normal ?_
          go_wp2_with fail
          exact bodyPost_ret (res_cell3 Tryz.results41 rfl (T8.out.ld (resV_len p))) rfl ⟨A', c', by unfold rv rc; rw [HG.out, HI.out]; rfl, .inr HNE.out, by rw [HFR.out]; exact HF.out.1, HF.out.2⟩

        · have hs : ∃ y, p.fr[i] = some y := by
            cases hx : p.fr[i] with
            | none => exact absurd hx hf
            | some y => exact ⟨y, rfl⟩
          obtain ⟨y, hy⟩ := hs
          rw [hy] at c1
          obtain ⟨x, hx⟩ : ∃ x : Nat, x = y.1 := ⟨_, rfl⟩
          have c1' : wr.cell? (ad.add (i * 2)) = some (.int .i64 (x : Int)) := hx ▸ c1
          have e1 : decide ((x : Int) < 0) = false := decide_eq_false (by omega)
          have HB2 : Hid (∀ j (hj : j < p.fr.length), j < i + 1 → p.fr[j] ≠ none) := Lib.hid (fun j hj h => by
            by_cases e : j < i
            · exact HB.out j hj e
            · obtain rfl : j = i := by omega
              exact hf)
          clear c1 hf hy hx HB
          go_wp2
          go_roundw
          case rel => exact ⟨i + 1, by omega, by go_num, HB2, trivial⟩
          case measure => simp [_root_.Go.RowKit.intOf]; omega
      · obtain rfl : i = n := by omega
        exact (take_none HOK.out HE.out (fun j hj => HB.out j hj (by rw [← HL.out]; exact hj))).elim
end Go.Proofs.YtmbjjbgpcacoeaaGreat
