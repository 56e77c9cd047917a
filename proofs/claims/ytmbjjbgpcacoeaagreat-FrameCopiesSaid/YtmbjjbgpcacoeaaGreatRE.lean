import Derived.Test.YtmbjjbgpcacoeaaGreatRD
namespace Go.Proofs.YtmbjjbgpcacoeaaGreat
open Go.RowKit Go.Shelf Go.Maps Go.Sort

/- THE DOCUMENT's POOL, CALL BY CALL. -/
def RefP (w : World) (A : Option Addr) (p' : Pl) (n : Nat) (tail : List Value) (e : Ending) (w' : World) : Prop :=
  ∃ A' c', e = .returned (.tuple (rv p' A' n c' :: tail).toArray) ∧ (A' = A ∨ ∀ a, A' = some a → w.heap.size ≤ a.block) ∧ Lies w' A' p'.fr ∧ Below w.heap.size w w'
theorem giveE_4 {p : Pl} {i : Int} {n : Nat} (hl : p.fr.length = n) (h : i < 0 ∨ (n : Int) ≤ i) : giveE p i = 4 := by
  unfold giveE
  rw [if_pos]
  simp only [frameB, Bool.and_eq_true, decide_eq_true_eq]
  omega
theorem giveE_5 {p : Pl} {k n : Nat} (hl : p.fr.length = n) (hk : k < p.fr.length) : giveE p (k : Int) = if oi p.fr[k] < 0 then 5 else 0 := by
  unfold giveE
  rw [if_neg]
  · rw [Int.toNat_natCast, show frameO p k = p.fr[k] by unfold frameO; rw [List.getElem?_eq_getElem hk]; rfl]
    cases p.fr[k] with
    | none => rfl
    | some y => rw [if_neg (by simp), if_neg (by simp only [oi]; omega)]
  · simp only [frameB, Bool.and_eq_true, decide_eq_true_eq]
    omega
set_option maxRecDepth 100000 in
set_option maxHeartbeats 1000000 in
theorem rgive_any (p : Pl) (A : Option Addr) (n c : Nat) (i : Int) (w : World) (hl : p.fr.length = n) (hok : p.ok) (hA : Lies w A p.fr) :
    Calls Tryz.prog 42 #[rv p A n c, .int .i64 i] w (RefP w A (giveP p i) n [.int .i64 (giveE p i : Int)]) := by
  obtain ⟨cs, hcs⟩ : ∃ cs, cs = rc p A n c := ⟨_, rfl⟩
  obtain ⟨W, hW⟩ : ∃ W, W = (w.alloc (.cells cs.toArray 36)).alloc (.cells Tryz.zeroCells36 36) := ⟨_, rfl⟩
  have tw : Two w W cs := hW ▸ Two.new w cs
  have hlen : cs.length = 65 := by rw [hcs, rc_len]
  have TW := Lib.hid tw
  have HLEN := Lib.hid hlen
  have HSZ := Lib.hid (show (Tryz.prog.info? 36).map (·.size) = some cs.length from hcs ▸ refpool_size p A n c)
  have HSZ2 := Lib.hid (refpool_size2 hlen)
  have HO := Lib.hid (hcs ▸ rc_one p A n c : cs.toArray.all (·.oneCell') = true)
  have hc0 : W.cell? ⟨w.heap.size, 0, none⟩ = some (.slice A n c) := by
    rw [tw.row.cell, hcs]
    rfl
  have HA := Lib.hid hA
  have HLD : Hid (∀ V, Two w V cs → (loadVar 36 ⟨w.heap.size + 1, 0, none⟩).run Tryz.prog (V.setCells (w.heap.size + 1) 0 cs) = .ok (rv p A n c) (V.setCells (w.heap.size + 1) 0 cs)) := Lib.hid (fun V h => hcs ▸ h.ld (resV_len p))
  have HRV := Lib.hid (show rv p A n c = .agg cs.toArray by rw [hcs]; rfl)
  have HCS := Lib.hid hcs
  have HW := Lib.hid hW
  have HL := Lib.hid hl
  have HOK := Lib.hid hok
  have HM := Lib.hid (hl ▸ hok.most : n ≤ 16384)
  rw [show rv p A n c = .agg cs.toArray by rw [hcs]; rfl]
  have hx0 := hc0
  rw [hW] at hx0
  have hs0 : W.heap.size = w.heap.size + 1 + 1 := by rw [hW, World.size_alloc, World.size_alloc]
  clear hcs hlen tw hA hl hok hc0 hW
  by_cases h1 : i < 0
  · have d1 : decide (i < 0) = true := decide_eq_true h1
    have hE := giveE_4 HL.out (.inl h1)
    have HP := Lib.hid (giveE_P (p := p) (i := i) (by rw [hE]; decide))
    rw [hE]
    have tw := HW.out ▸ TW.out
    have T2 := Lib.hid tw
    clear hE tw h1 
    go_enter Tryz.func42, Tryz.ntmps42
    go_wp2_with (first
      | refine wpList_load_mid rfl 36 (.tmp 2) rfl w.heap.size 0 rfl cs _ T2.out.range Tryz.underlying36 rfl HSZ.out ?_
      | refine wpList_store_mid rfl 36 (.tmp 4) (.tmp 15) rfl (w.heap.size + 1) 0 cs.toArray rfl rfl (T2.out.there HLEN.out) HSZ2.out HO.out ?_)
    exact bodyPost_ret (res_cell2 Tryz.results42 rfl (HLD.out _ T2.out)) rfl (by rw [HP.out]; exact ⟨_, _, rfl, .inl rfl, T2.out.fin HA.out _⟩)
  by_cases h2 : (n : Int) ≤ i
  · have d2 : decide ((n : Int) ≤ i) = true := decide_eq_true h2
    have d1 : decide (i < 0) = false := decide_eq_false h1
    have hE := giveE_4 HL.out (.inr h2)
    have HP := Lib.hid (giveE_P (p := p) (i := i) (by rw [hE]; decide))
    rw [hE]
    have tw := HW.out ▸ TW.out
    have T2 := Lib.hid tw
    clear hE tw h1 h2
    go_enter Tryz.func42, Tryz.ntmps42
    go_wp2_with (first
      | refine wpList_load_mid rfl 36 (.tmp 2) rfl w.heap.size 0 rfl cs _ T2.out.range Tryz.underlying36 rfl HSZ.out ?_
      | refine wpList_store_mid rfl 36 (.tmp 4) (.tmp 15) rfl (w.heap.size + 1) 0 cs.toArray rfl rfl (T2.out.there HLEN.out) HSZ2.out HO.out ?_)
    exact bodyPost_ret (res_cell2 Tryz.results42 rfl (HLD.out _ T2.out)) rfl (by rw [HP.out]; exact ⟨_, _, rfl, .inl rfl, T2.out.fin HA.out _⟩)
  obtain ⟨k, rfl⟩ : ∃ k : Nat, i = k := ⟨i.toNat, by omega⟩
  have hk : k < p.fr.length := by rw [HL.out]; omega
  have hE := giveE_5 HL.out hk
  obtain ⟨ad, rfl, c1, _⟩ := (Lies.below HA.out TW.out.bl).at_ k hk
  rw [HW.out] at c1
  have d1 : decide ((k : Int) < 0) = false := decide_eq_false h1
  have d2 : decide ((n : Int) ≤ (k : Int)) = false := decide_eq_false h2
  have i0 : (0 : Int) ≤ (k : Int) := by omega
  have i1 : (k : Int) < (n : Int) := by omega
  have T2 := Lib.hid (HW.out ▸ TW.out)
  by_cases h3 : oi p.fr[k] < 0
  · have d3 : decide (oi p.fr[k] < 0) = true := decide_eq_true h3
    rw [if_pos h3] at hE
    have HP := Lib.hid (giveE_P (p := p) (i := (k : Int)) (by rw [hE]; decide))
    rw [hE]
    obtain ⟨x, hx⟩ : ∃ x, x = oi p.fr[k] := ⟨_, rfl⟩
    rw [← hx] at c1 d3
    clear hE h1 h2 h3 hx
    go_enter Tryz.func42, Tryz.ntmps42
    go_wp2_with (first
      | refine wpList_load_mid rfl 36 (.tmp 2) rfl w.heap.size 0 rfl cs _ T2.out.range Tryz.underlying36 rfl HSZ.out ?_
      | refine wpList_store_mid rfl 36 (.tmp 4) (.tmp 23) rfl (w.heap.size + 1) 0 cs.toArray rfl rfl (T2.out.there HLEN.out) HSZ2.out HO.out ?_)
    exact bodyPost_ret (res_cell2 Tryz.results42 rfl (HLD.out _ T2.out)) rfl (by rw [HP.out]; exact ⟨_, _, rfl, .inl rfl, T2.out.fin HA.out _⟩)
  · have d3 : decide (oi p.fr[k] < 0) = false := decide_eq_false h3
    rw [if_neg h3] at hE
    obtain ⟨_, o, bs, g6, g7⟩ := giveE_some hE
    have HG := Lib.hid (give_res HOK.out (k : Int))
    rw [hE]
    obtain ⟨x, hx⟩ : ∃ x, x = oi p.fr[k] := ⟨_, rfl⟩
    rw [← hx] at c1 d3
    have HQ := Lib.hid (congrArg Pl.fr g7)
    clear hE h1 h2 h3 hx g7
    have hwc := with_any (resV p) (resV_len p) (resV_one p) p.fr (some ad) n c k none W HL.out (by have := HL.out; omega) HM.out (Lies.below HA.out TW.out.bl)
    rw [show Value.slice (some ad) n c :: resV p = cs from HCS.out.symm, HW.out] at hwc
    have HC : Hid (Calls Tryz.prog 115 #[.agg cs.toArray, .int .i64 (k : Int), .agg #[(.int .i64 (-1)), (.string ⟨#[]⟩)]] _ _) := Lib.hid hwc
    have HTS := Lib.hid (fun (A' : Option Addr) (c' : Nat) => (show (Value.slice A' n c' :: resV p).length = 65 by rw [List.length_cons, resV_len]))
    clear hwc
    go_enter Tryz.func42, Tryz.ntmps42
    go_wp2_with (first
      | refine wpList_load_mid rfl 36 (.tmp 2) rfl w.heap.size 0 rfl cs _ T2.out.range Tryz.underlying36 rfl HSZ.out ?_)
    refine HC.out.mono ?_
    rintro e w3 ⟨A', c', rfl, hA', hb', hne⟩
    have T3 := Lib.hid (T2.out.below hb')
    have HF := Lib.hid (T2.out.fin2 hA' hb' hne (Value.slice A' n c' :: resV p))
    have HNE := Lib.hid (fun a ha => Nat.le_trans T2.out.bl.size (hne a ha))
    clear hA' hb' hne
    go_wp2_with (first
      | refine wpList_store_mid rfl 36 (.tmp 4) (.tmp 27) rfl (w.heap.size + 1) 0 (Value.slice A' n c' :: resV p).toArray rfl rfl (T3.out.there (HTS.out A' c')) (refpool_size2 (HTS.out A' c')) (cells_one rfl (resV_one p)) ?_)
    exact bodyPost_ret (res_cell2 Tryz.results42 rfl (T3.out.ld (resV_len p))) rfl ⟨A', c', by unfold rv rc; rw [HG.out]; rfl, .inr HNE.out, by rw [HQ.out]; exact HF.out.1, HF.out.2⟩
end Go.Proofs.YtmbjjbgpcacoeaaGreat
