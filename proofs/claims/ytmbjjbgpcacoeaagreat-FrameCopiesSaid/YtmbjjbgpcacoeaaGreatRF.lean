import Derived.Test.YtmbjjbgpcacoeaaGreatRE
namespace Go.Proofs.YtmbjjbgpcacoeaaGreat
open Go.RowKit Go.Shelf Go.Maps Go.Sort

/- THE DOCUMENT's POOL: RESERVE. -/
theorem reserveE_2 {p : Pl} {o m : Int} (h : ownerB o = false ∨ m < 0) : reserveE p o m = 2 := by
  unfold reserveE
  rw [if_pos]
  rintro ⟨h1, h2⟩
  rcases h with h | h
  · rw [h1] at h
    cases h
  · omega
theorem reserveE_3 {p : Pl} {o m : Nat} (h : o < 64) : reserveE p (o : Int) (m : Int) = if m < taken p.fr o then 172 else if (p.room : Int) + (resN p o : Int) < (m : Int) then 170 else 0 := by
  unfold reserveE
  rw [if_neg (by rw [ownerB_iff]; omega), Int.toNat_natCast]
  by_cases h1 : m < taken p.fr o
  · rw [if_pos (by omega), if_pos h1]
  · rw [if_neg (by omega), if_neg h1]
    by_cases h2 : (p.room : Int) + (resN p o : Int) < (m : Int)
    · rw [if_pos (by omega), if_pos h2]
    · rw [if_neg (by omega), if_neg h2]
theorem reserveP_no {p : Pl} {o m : Int} (h : reserveE p o m ≠ 0) : reserveP p o m = p := by
  unfold reserveP
  rw [if_neg h]
theorem resN_le {p : Pl} (h : p.ok) {o : Nat} (ho : o < 64) : resN p o ≤ p.fr.length := by
  have h1 := sum_ge p.left o _ (h.left_get ho)
  have h2 := taken_used p.fr o
  have h3 := h.sum
  unfold resN
  omega
theorem room_le (p : Pl) : p.room ≤ p.fr.length := by
  unfold Pl.room
  omega
set_option maxRecDepth 100000 in
set_option maxHeartbeats 1000000 in
theorem rreserve_any (p : Pl) (A : Option Addr) (n c : Nat) (o m : Int) (w : World) (hl : p.fr.length = n) (hok : p.ok) (hA : Lies w A p.fr) :
    Calls Tryz.prog 40 #[rv p A n c, .int .i64 o, .int .i64 m] w (RefP w A (reserveP p o m) n [.int .i64 (reserveE p o m : Int)]) := by
  obtain ⟨cs, hcs⟩ : ∃ cs, cs = rc p A n c := ⟨_, rfl⟩
  obtain ⟨W, hW⟩ : ∃ W, W = (w.alloc (.cells cs.toArray 36)).alloc (.cells Tryz.zeroCells36 36) := ⟨_, rfl⟩
  have tw : Two w W cs := hW ▸ Two.new w cs
  have hlen : cs.length = 65 := by rw [hcs, rc_len]
  have TW := Lib.hid tw
  have HLEN := Lib.hid hlen
  have HSZ := Lib.hid (show (Tryz.prog.info? 36).map (·.size) = some cs.length from hcs ▸ refpool_size p A n c)
  have HSZ2 := Lib.hid (refpool_size2 hlen)
  have HO := Lib.hid (hcs ▸ rc_one p A n c : cs.toArray.all (·.oneCell') = true)
  have hc0 : W.cell? ⟨w.heap.size, 0, none⟩ = some (.slice A n c) := by
    rw [tw.row.cell, hcs]
    rfl
  have HA := Lib.hid hA
  have HLD : Hid (∀ V, Two w V cs → (loadVar 36 ⟨w.heap.size + 1, 0, none⟩).run Tryz.prog (V.setCells (w.heap.size + 1) 0 cs) = .ok (rv p A n c) (V.setCells (w.heap.size + 1) 0 cs)) := Lib.hid (fun V h => hcs ▸ h.ld (resV_len p))
  have HRV := Lib.hid (show rv p A n c = .agg cs.toArray by rw [hcs]; rfl)
  have HCS := Lib.hid hcs
  have HW := Lib.hid hW
  have HL := Lib.hid hl
  have HOK := Lib.hid hok
  have HM := Lib.hid (hl ▸ hok.most : n ≤ 16384)
  rw [show rv p A n c = .agg cs.toArray by rw [hcs]; rfl]
  have hx0 := hc0
  rw [hW] at hx0
  have hs0 : W.heap.size = w.heap.size + 1 + 1 := by rw [hW, World.size_alloc, World.size_alloc]
  clear hcs hlen tw hA hl hok hc0 hW
  cases hob : ownerB o with
  | false =>
    have ho := owner_any o W
    rw [hob, HW.out] at ho
    have hE := reserveE_2 (p := p) (m := m) (.inl hob)
    have HP := Lib.hid (reserveP_no (p := p) (o := o) (m := m) (by rw [hE]; decide))
    rw [hE]
    have T2 := Lib.hid (HW.out ▸ TW.out)
    have HO2 := Lib.hid ho
    clear hE ho hob 
    go_enter Tryz.func40, Tryz.ntmps40
    go_wp2_with fail
    refine HO2.out.mono ?_
    rintro e w3 ⟨rfl, rfl⟩
    go_wp2_with (first
      | refine wpList_load_mid rfl 36 (.tmp 3) rfl w.heap.size 0 rfl cs _ T2.out.range Tryz.underlying36 rfl HSZ.out ?_
      | refine wpList_store_mid rfl 36 (.tmp 6) (.tmp 15) rfl (w.heap.size + 1) 0 cs.toArray rfl rfl (T2.out.there HLEN.out) HSZ2.out HO.out ?_)
    exact bodyPost_ret (res_cell2 Tryz.results40 rfl (HLD.out _ T2.out)) rfl (by rw [HP.out]; exact ⟨_, _, rfl, .inl rfl, T2.out.fin HA.out _⟩)
  | true =>
  by_cases h2 : m < 0
  · have ho := owner_any o W
    rw [hob, HW.out] at ho
    have d2 : decide (m < 0) = true := decide_eq_true h2
    have hE := reserveE_2 (p := p) (o := o) (.inr h2)
    have HP := Lib.hid (reserveP_no (p := p) (o := o) (m := m) (by rw [hE]; decide))
    rw [hE]
    have T2 := Lib.hid (HW.out ▸ TW.out)
    have HO2 := Lib.hid ho
    clear hE ho hob h2
    go_enter Tryz.func40, Tryz.ntmps40
    go_wp2_with fail
    refine HO2.out.mono ?_
    rintro e w3 ⟨rfl, rfl⟩
    go_wp2_with (first
      | refine wpList_load_mid rfl 36 (.tmp 3) rfl w.heap.size 0 rfl cs _ T2.out.range Tryz.underlying36 rfl HSZ.out ?_
      | refine wpList_store_mid rfl 36 (.tmp 6) (.tmp 15) rfl (w.heap.size + 1) 0 cs.toArray rfl rfl (T2.out.there HLEN.out) HSZ2.out HO.out ?_)
    exact bodyPost_ret (res_cell2 Tryz.results40 rfl (HLD.out _ T2.out)) rfl (by rw [HP.out]; exact ⟨_, _, rfl, .inl rfl, T2.out.fin HA.out _⟩)
  have hob1 := (ownerB_iff o).1 hob
  obtain ⟨k, rfl⟩ : ∃ k : Nat, o = k := ⟨o.toNat, by omega⟩
  obtain ⟨y, rfl⟩ : ∃ y : Nat, m = y := ⟨m.toNat, by omega⟩
  have hk : k < 64 := by omega
  have hE := reserveE_3 (p := p) (m := y) hk
  have ho := owner_any (k : Int) W
  rw [hob, HW.out] at ho
  have d2 : decide ((y : Int) < 0) = false := decide_eq_false h2
  have ht := rtaken_any p A n c k W HL.out HM.out (Lies.below HA.out TW.out.bl)
  rw [HRV.out, HW.out] at ht
  have T2 := Lib.hid (HW.out ▸ TW.out)
  have HT := Lib.hid ht
  have HO2 := Lib.hid ho
  obtain ⟨t, htt⟩ : ∃ t, t = taken p.fr k := ⟨_, rfl⟩
  have HTT := Lib.hid htt
  rw [← htt] at hE HT
  clear ho ht hob h2 hob1 htt
  by_cases h3 : y < t
  · have d3 : decide ((y : Int) < (t : Int)) = true := decide_eq_true (by omega)
    have d3n : decide (y < t) = true := decide_eq_true h3
    rw [if_pos h3] at hE
    have HP := Lib.hid (reserveP_no (p := p) (o := (k : Int)) (m := (y : Int)) (by rw [hE]; decide))
    rw [hE]
    clear hE h3
    go_enter Tryz.func40, Tryz.ntmps40
    go_wp2_with fail
    refine HO2.out.mono ?_
    rintro e w3 ⟨rfl, rfl⟩
    go_wp2_with (first
      | refine wpList_load_mid rfl 36 (.tmp 3) rfl w.heap.size 0 rfl cs _ T2.out.range Tryz.underlying36 rfl HSZ.out ?_)
    refine HT.out.mono ?_
    rintro e w4 ⟨rfl, hb4⟩
    have T4 := Lib.hid (T2.out.below hb4)
    clear hb4
    go_wp2_with (first
      | refine wpList_load_mid rfl 36 (.tmp 3) rfl w.heap.size 0 rfl cs _ T4.out.range Tryz.underlying36 rfl HSZ.out ?_
      | refine wpList_store_mid rfl 36 (.tmp 6) (.tmp 21) rfl (w.heap.size + 1) 0 cs.toArray rfl rfl (T4.out.there HLEN.out) HSZ2.out HO.out ?_)
    exact bodyPost_ret (res_cell2 Tryz.results40 rfl (HLD.out _ T4.out)) rfl (by rw [HP.out]; exact ⟨_, _, rfl, .inl rfl, T4.out.fin HA.out _⟩)
  have HRR0 : ∃ r, r = resN p k := ⟨_, rfl⟩
  obtain ⟨r, hrr⟩ := HRR0
  have hrl : r ≤ n := by rw [hrr, ← HL.out]; exact resN_le HOK.out hk
  have hml : p.room ≤ n := by rw [← HL.out]; exact room_le p
  have HRM0 : Hid (∀ V, Lies V A p.fr → Calls Tryz.prog 56 #[.agg cs.toArray] V fun e w' => e = .returned (.int .i64 (p.room : Int)) ∧ Below V.heap.size V w') := Lib.hid (fun V hV => HRV.out ▸ rroom_any p A n c V HL.out HOK.out)
  have hn0 := HM.out
  rw [← hrr] at hE
  have HRR := Lib.hid hrr
  have HK := Lib.hid hk
  obtain ⟨q, hq⟩ : ∃ q, q = p.room := ⟨_, rfl⟩
  rw [← hq] at hE hml HRM0
  have hw : IntKind.i64.wrap ((q : Int) + (r : Int)) = (q : Int) + (r : Int) := wrapI _ (by omega) (by omega)
  have d3 : decide ((y : Int) < (t : Int)) = false := decide_eq_false (by omega)
  have d3n : decide (y < t) = false := decide_eq_false h3
  have i0 : (0 : Int) ≤ (k : Int) := by omega
  have i1 : (k : Int) < 64 := by omega
  rw [if_neg h3] at hE
  by_cases h4 : (q : Int) + (r : Int) < (y : Int)
  · have d4 : decide ((q : Int) + (r : Int) < (y : Int)) = true := decide_eq_true h4
    have d4n : decide (q + r < y) = true := decide_eq_true (by omega)
    rw [if_pos h4] at hE
    have HP := Lib.hid (reserveP_no (p := p) (o := (k : Int)) (m := (y : Int)) (by rw [hE]; decide))
    rw [hE]
    clear hE h3 h4 hq hrr hrl hml hn0
    go_enter Tryz.func40, Tryz.ntmps40
    go_wp2_with fail
    refine HO2.out.mono ?_
    rintro e w3 ⟨rfl, rfl⟩
    go_wp2_with (first
      | refine wpList_load_mid rfl 36 (.tmp 3) rfl w.heap.size 0 rfl cs _ T2.out.range Tryz.underlying36 rfl HSZ.out ?_)
    refine HT.out.mono ?_
    rintro e w4 ⟨rfl, hb4⟩
    have T4 := Lib.hid (T2.out.below hb4)
    have hck : w4.cell? ⟨w.heap.size, 1 + k, none⟩ = some (.int .i64 (r : Int)) := by
      rw [T4.out.row.cell, HCS.out, Nat.add_comm 1 k]
      exact (resV_get p k HK.out).trans (by rw [HRR.out]; rfl)
    have HRM := Lib.hid (fun V (hb : Below w4.heap.size w4 V) => HRM0.out V (Lies.below HA.out (T4.out.below hb).bl))
    have HS := Lib.hid (fun V (hb : Below w4.heap.size w4 V) => (show V.rangeAt w.heap.size 0 cs ∧ V.cell? ⟨w.heap.size, 1 + k, none⟩ = some (.int .i64 (r : Int)) from ⟨(T4.out.below hb).range, (hb.cell (p := ⟨w.heap.size, 1 + k, none⟩) T4.out.row.lt).trans hck⟩))
    have hbd : Below w4.heap.size w4 w4.drew := (Below.refl _ _).drew
    clear hb4 hck
    go_wp2_with fail
    refine wp_region_noPanic ?_
    refine wp_region_held_drew (S := fun V => V.rangeAt w.heap.size 0 cs ∧ V.cell? ⟨w.heap.size, 1 + k, none⟩ = some (.int .i64 (r : Int))) (by kernel_rfl) (HS.out _ hbd) (fun hHeld => ?_)
    refine wpAnyH_take (i := 0) (v := ?_) rfl (by kernel_rfl) (by kernel_rfl) (by kernel_rfl) (fun _ _ _ h => h) (Or.inl ⟨by kernel_rfl, ?_⟩) hHeld ?_
    rotate_left
    focus (intro w hSw; (try dsimp only at hSw); go_simp; try with_reducible rfl)
    simp only [Act.put]
    refine wpAnyH_take (i := 1) rfl (by kernel_rfl) (by kernel_rfl) (by kernel_rfl) (fun _ _ _ h => h) (yieldsIf_load_mid (by kernel_rfl) 36 (.tmp 3) rfl w.heap.size 0 rfl cs _ (fun V hV => hV.1) Tryz.underlying36 rfl HSZ.out) hHeld ?_
    simp only [Act.put]
    refine wpAnyH_take (i := 3) (v := ?_) rfl (by kernel_rfl) (by kernel_rfl) (by kernel_rfl) (fun _ _ _ h => h) (Or.inl ⟨by kernel_rfl, ?_⟩) hHeld ?_
    rotate_left
    focus (intro w hSw; (try dsimp only at hSw); go_simp; try with_reducible rfl)
    simp only [Act.put]
    refine wpAnyH_take (i := 4) (v := ?_) rfl (by kernel_rfl) (by kernel_rfl) (by kernel_rfl) (fun _ _ _ h => h) (Or.inl ⟨by kernel_rfl, ?_⟩) hHeld ?_
    rotate_left
    focus (intro w hSw; (try dsimp only at hSw); go_simp; try with_reducible rfl)
    simp only [Act.put]
    refine wpAnyH_take (i := 5) (v := ?_) rfl (by kernel_rfl) (by kernel_rfl) (by kernel_rfl) (fun _ _ _ h => h) (Or.inl ⟨by kernel_rfl, ?_⟩) hHeld ?_
    rotate_left
    focus (intro w hSw; (try dsimp only at hSw); go_simp; try with_reducible rfl)
    simp only [Act.put]
    refine wpAnyH_take (i := 6) (v := ?_) rfl (by kernel_rfl) (by kernel_rfl) (by kernel_rfl) (fun _ _ _ h => h) (Or.inl ⟨by kernel_rfl, ?_⟩) hHeld ?_
    rotate_left
    focus (intro w hSw; (try dsimp only at hSw); go_simp; try with_reducible rfl)
    simp only [Act.put]
    refine wpAnyH_ready (rs := [2]) (by kernel_rfl) (by simp) ?_
    refine AllReadyH.cons rfl (fun K hK => ?_) (AllReadyH.nil)
    go_simp
    refine (HRM.out _ hbd).mono ?_
    rintro e w5 ⟨rfl, hb5⟩
    have hB5 := below0 hbd hb5
    refine hK.out _ _ (HS.out _ hB5) (fun hHeld => ?_)
    clear hK K
    try simp only [Act.put]
    refine wpAnyH_take (i := 7) (v := ?_) rfl (by kernel_rfl) (by kernel_rfl) (by kernel_rfl) (fun _ _ _ h => h) (Or.inl ⟨by kernel_rfl, ?_⟩) hHeld ?_
    rotate_left
    focus (intro w hSw; (try dsimp only at hSw); go_simp; try with_reducible rfl)
    simp only [Act.put]
    refine wpAnyH_take (i := 8) (v := ?_) rfl (by kernel_rfl) (by kernel_rfl) (by kernel_rfl) (fun _ _ _ h => h) (Or.inl ⟨by kernel_rfl, ?_⟩) hHeld ?_
    rotate_left
    focus (intro w hSw; (try dsimp only at hSw); go_simp; try with_reducible rfl)
    simp only [Act.put]
    refine wpAnyH_done (by kernel_rfl) ?_ _
    refine NoPanic.normal ?_
    have T5 := Lib.hid (T4.out.below hB5)
    have hg0 := (HS.out _ hB5).2
    have hg1 := T5.out.row.frozen (1 + k)
    clear hb5 hB5 hbd
    go_wp2_with (first
      | refine wpList_load_mid rfl 36 (.tmp 3) rfl w.heap.size 0 rfl cs _ T5.out.range Tryz.underlying36 rfl HSZ.out ?_
      | refine wpList_store_mid rfl 36 (.tmp 6) (.tmp 31) rfl (w.heap.size + 1) 0 cs.toArray rfl rfl (T5.out.there HLEN.out) HSZ2.out HO.out ?_)
    exact bodyPost_ret (res_cell2 Tryz.results40 rfl (HLD.out _ T5.out)) rfl (by rw [HP.out]; exact ⟨_, _, rfl, .inl rfl, T5.out.fin HA.out _⟩)
  · have d4 : decide ((q : Int) + (r : Int) < (y : Int)) = false := decide_eq_false h4
    have d4n : decide (q + r < y) = false := decide_eq_false (by omega)
    rw [if_neg h4] at hE
    obtain ⟨cs2, hcs2⟩ : ∃ cs2, cs2 = Value.slice A n c :: (resV p).set k (iv y) := ⟨_, rfl⟩
    have hlen2 : cs2.length = 65 := by rw [hcs2, List.length_cons, List.length_set, resV_len]
    have HLEN2 := Lib.hid hlen2
    have HSZ3 := Lib.hid (show (Tryz.prog.info? 36).map (·.size) = some cs2.length by rw [hlen2]; kernel_rfl)
    have HSZ4 := Lib.hid (refpool_size2 hlen2)
    have HO3 : Hid (cs2.toArray.all (·.oneCell') = true) := Lib.hid (by
      rw [hcs2]
      refine cells_one rfl fun u hu => ?_
      rcases List.mem_or_eq_of_mem_set hu with h | rfl
      · exact resV_one p u h
      · rfl)
    have hrv : rv (reserveP p (k : Int) (y : Int)) A n c = .agg cs2.toArray := by
      rw [hcs2]
      unfold rv rc
      rw [reserve_res HOK.out hE hk]
    have HRV2 := Lib.hid hrv
    have HFR := Lib.hid (show (reserveP p (k : Int) (y : Int)).fr = p.fr by unfold reserveP; split <;> rfl)
    have HLD2 := Lib.hid (fun V (h : Two w V cs2) => (show (loadVar 36 ⟨w.heap.size + 1, 0, none⟩).run Tryz.prog (V.setCells (w.heap.size + 1) 0 cs2) = .ok (.agg cs2.toArray) (V.setCells (w.heap.size + 1) 0 cs2) from hcs2 ▸ (hcs2 ▸ h : Two w V (Value.slice A n c :: (resV p).set k (iv y))).ld (R := (resV p).set k (iv y)) (by rw [List.length_set, resV_len])))
    have HT6 := Lib.hid (fun V (h : Two w V cs) => (show Two w (V.setCell ⟨w.heap.size, 1 + k, none⟩ (.int .i64 (y : Int))) cs2 from ⟨by
      have := h.row.set (1 + k) (.int .i64 (y : Int))
      rw [HCS.out, Nat.add_comm 1 k] at this
      rw [hcs2, Nat.add_comm 1 k]
      exact this, h.rm.same (heap_set (by omega)), h.bl.setCell (Nat.le_refl _) _⟩))
    rw [hE]
    clear hE h3 h4 hq hrr hrl hml hn0 hlen2 hrv hcs2
    go_enter Tryz.func40, Tryz.ntmps40
    go_wp2_with fail
    refine HO2.out.mono ?_
    rintro e w3 ⟨rfl, rfl⟩
    go_wp2_with (first
      | refine wpList_load_mid rfl 36 (.tmp 3) rfl w.heap.size 0 rfl cs _ T2.out.range Tryz.underlying36 rfl HSZ.out ?_)
    refine HT.out.mono ?_
    rintro e w4 ⟨rfl, hb4⟩
    have T4 := Lib.hid (T2.out.below hb4)
    have hck : w4.cell? ⟨w.heap.size, 1 + k, none⟩ = some (.int .i64 (r : Int)) := by
      rw [T4.out.row.cell, HCS.out, Nat.add_comm 1 k]
      exact (resV_get p k HK.out).trans (by rw [HRR.out]; rfl)
    have HRM := Lib.hid (fun V (hb : Below w4.heap.size w4 V) => HRM0.out V (Lies.below HA.out (T4.out.below hb).bl))
    have HS := Lib.hid (fun V (hb : Below w4.heap.size w4 V) => (show V.rangeAt w.heap.size 0 cs ∧ V.cell? ⟨w.heap.size, 1 + k, none⟩ = some (.int .i64 (r : Int)) from ⟨(T4.out.below hb).range, (hb.cell (p := ⟨w.heap.size, 1 + k, none⟩) T4.out.row.lt).trans hck⟩))
    have hbd : Below w4.heap.size w4 w4.drew := (Below.refl _ _).drew
    clear hb4 hck
    go_wp2_with fail
    refine wp_region_noPanic ?_
    refine wp_region_held_drew (S := fun V => V.rangeAt w.heap.size 0 cs ∧ V.cell? ⟨w.heap.size, 1 + k, none⟩ = some (.int .i64 (r : Int))) (by kernel_rfl) (HS.out _ hbd) (fun hHeld => ?_)
    refine wpAnyH_take (i := 0) (v := ?_) rfl (by kernel_rfl) (by kernel_rfl) (by kernel_rfl) (fun _ _ _ h => h) (Or.inl ⟨by kernel_rfl, ?_⟩) hHeld ?_
    rotate_left
    focus (intro w hSw; (try dsimp only at hSw); go_simp; try with_reducible rfl)
    simp only [Act.put]
    refine wpAnyH_take (i := 1) rfl (by kernel_rfl) (by kernel_rfl) (by kernel_rfl) (fun _ _ _ h => h) (yieldsIf_load_mid (by kernel_rfl) 36 (.tmp 3) rfl w.heap.size 0 rfl cs _ (fun V hV => hV.1) Tryz.underlying36 rfl HSZ.out) hHeld ?_
    simp only [Act.put]
    refine wpAnyH_take (i := 3) (v := ?_) rfl (by kernel_rfl) (by kernel_rfl) (by kernel_rfl) (fun _ _ _ h => h) (Or.inl ⟨by kernel_rfl, ?_⟩) hHeld ?_
    rotate_left
    focus (intro w hSw; (try dsimp only at hSw); go_simp; try with_reducible rfl)
    simp only [Act.put]
    refine wpAnyH_take (i := 4) (v := ?_) rfl (by kernel_rfl) (by kernel_rfl) (by kernel_rfl) (fun _ _ _ h => h) (Or.inl ⟨by kernel_rfl, ?_⟩) hHeld ?_
    rotate_left
    focus (intro w hSw; (try dsimp only at hSw); go_simp; try with_reducible rfl)
    simp only [Act.put]
    refine wpAnyH_take (i := 5) (v := ?_) rfl (by kernel_rfl) (by kernel_rfl) (by kernel_rfl) (fun _ _ _ h => h) (Or.inl ⟨by kernel_rfl, ?_⟩) hHeld ?_
    rotate_left
    focus (intro w hSw; (try dsimp only at hSw); go_simp; try with_reducible rfl)
    simp only [Act.put]
    refine wpAnyH_take (i := 6) (v := ?_) rfl (by kernel_rfl) (by kernel_rfl) (by kernel_rfl) (fun _ _ _ h => h) (Or.inl ⟨by kernel_rfl, ?_⟩) hHeld ?_
    rotate_left
    focus (intro w hSw; (try dsimp only at hSw); go_simp; try with_reducible rfl)
    simp only [Act.put]
    refine wpAnyH_ready (rs := [2]) (by kernel_rfl) (by simp) ?_
    refine AllReadyH.cons rfl (fun K hK => ?_) (AllReadyH.nil)
    go_simp
    refine (HRM.out _ hbd).mono ?_
    rintro e w5 ⟨rfl, hb5⟩
    have hB5 := below0 hbd hb5
    refine hK.out _ _ (HS.out _ hB5) (fun hHeld => ?_)
    clear hK K
    try simp only [Act.put]
    refine wpAnyH_take (i := 7) (v := ?_) rfl (by kernel_rfl) (by kernel_rfl) (by kernel_rfl) (fun _ _ _ h => h) (Or.inl ⟨by kernel_rfl, ?_⟩) hHeld ?_
    rotate_left
    focus (intro w hSw; (try dsimp only at hSw); go_simp; try with_reducible rfl)
    simp only [Act.put]
    refine wpAnyH_take (i := 8) (v := ?_) rfl (by kernel_rfl) (by kernel_rfl) (by kernel_rfl) (fun _ _ _ h => h) (Or.inl ⟨by kernel_rfl, ?_⟩) hHeld ?_
    rotate_left
    focus (intro w hSw; (try dsimp only at hSw); go_simp; try with_reducible rfl)
    simp only [Act.put]
    refine wpAnyH_done (by kernel_rfl) ?_ _
    refine NoPanic.normal ?_
    have T5 := Lib.hid (T4.out.below hB5)
    have hg0 := (HS.out _ hB5).2
    have hg1 := T5.out.row.frozen (1 + k)
    clear hb5 hB5 hbd
    have T6 := Lib.hid (HT6.out _ T5.out)
    go_wp2_with (first
      | refine wpList_load_mid rfl 36 (.tmp 3) rfl w.heap.size 0 rfl cs2 _ T6.out.range Tryz.underlying36 rfl HSZ3.out ?_
      | refine wpList_store_mid rfl 36 (.tmp 6) (.tmp 36) rfl (w.heap.size + 1) 0 cs2.toArray rfl rfl (T6.out.there HLEN2.out) HSZ4.out HO3.out ?_)
    exact bodyPost_ret (res_cell2 Tryz.results40 rfl (HLD2.out _ T6.out)) rfl ⟨A, c, by rw [HRV2.out]; rfl, .inl rfl, by rw [HFR.out]; exact (T6.out.fin HA.out _).1, (T6.out.fin HA.out _).2⟩
end Go.Proofs.YtmbjjbgpcacoeaaGreat
