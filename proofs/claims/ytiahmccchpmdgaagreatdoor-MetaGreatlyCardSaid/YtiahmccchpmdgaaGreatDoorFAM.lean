import Derived.Test.YtiahmccchpmdgaaGreatDoorFAL
namespace Go.Proofs.YtiahmccchpmdgaaGreatDoor.Vm
open Go.RowKit Go.Shelf Go.Maps Go.Sort
attribute [local go_sem] Oper.semAt_some

/- WHAT IS WRITTEN, PART BY PART. -/

def sumL (pre : List Part) : Nat := (pre.map fun x => x.2.2).sum
theorem sumL_snoc (pre : List Part) (x : Part) : sumL (pre ++ [x]) = sumL pre + x.2.2 := by simp [sumL]
set_option maxRecDepth 100000 in
theorem pts_sum : ∀ (n a : Nat), sumL (pts a n) = n := by
  intro n
  induction n using Nat.strongRecOn with
  | _ n ih =>
    intro a
    rcases Nat.eq_zero_or_pos n with rfl | hn
    · rw [pts_zero]; rfl
    · have hm : a % 256 < 256 := Nat.mod_lt _ (by decide)
      obtain ⟨k, hk⟩ : ∃ k, k = min n (256 - a % 256) := ⟨_, rfl⟩
      have h2 := ih (n - k) (by omega) (a + k)
      rw [pts_pos hn, ← hk]
      show k + sumL (pts (a + k) (n - k)) = n
      rw [h2]
      omega
/-- bytes, part by part -/
def wr (p : Pl) (l : Pg.Tb) : List Part → List UInt8 → Pl
  | [], _ => p
  | x :: r, bs => wr (writeP p (Pg.getX l (x.1 : Int)).2.2 (x.2.1 : Int) (bs.take x.2.2)) l r (bs.drop x.2.2)
theorem wr_snoc (l : Pg.Tb) (x : Part) : ∀ (pre : List Part) (p : Pl) (bs : List UInt8), wr p l (pre ++ [x]) bs = writeP (wr p l pre bs) (Pg.getX l (x.1 : Int)).2.2 (x.2.1 : Int) ((bs.drop (sumL pre)).take x.2.2)
  | [], p, bs => by simp [wr, sumL]
  | y :: r, p, bs => by
    rw [List.cons_append, wr, wr_snoc l x r, List.drop_drop]
    rfl
theorem add_add (a : Addr) (f j : Nat) : (a.add f).add j = a.add (f + j) := by
  unfold Addr.add
  by_cases hf : f = 0
  · subst hf
    simp
  · by_cases hj : j = 0
    · subst hj
      simp [hf]
    · rw [if_neg hf, if_neg hj, if_neg (by omega)]
      simp only [Addr.mk.injEq, and_true, true_and]
      omega
theorem sees_drop {w : World} {B : Nat} {ad : Addr} {xs : List Value} (h : Sees w B (some ad) xs) (f : Nat) : Sees w B (some (ad.add f)) (xs.drop f) := fun hn => by
  have hne : xs ≠ [] := by rintro rfl; simp at hn
  obtain ⟨a, e, hb, hc⟩ := h hne
  injection e with e
  subst e
  refine ⟨_, rfl, by rw [add_block]; exact hb, fun j u hu => ?_⟩
  rw [List.getElem?_drop] at hu
  rw [add_add]
  exact hc (f + j) u hu
theorem Sees.keep_ {w w' : World} {B : Nat} {ad : Addr} {xs : List Value} (h : Sees w B (some ad) xs) (hk : xs ≠ [] → w'.heap[ad.block]? = w.heap[ad.block]?) : Sees w' B (some ad) xs := fun hn => by
  obtain ⟨a, e, hb, hc⟩ := h hn
  injection e with e
  subst e
  refine ⟨_, rfl, hb, fun j u hu => (World.cell?_of_block ?_).trans (hc j u hu)⟩
  rw [add_block]
  exact hk hn
structure WrRel (w : World) (gm b t q : Nat) (l : Pg.Tb) (p : Pl) (bs : List UInt8) (F1 F2 : Nat → Prop) (pre : List Part) (s : Sl3) (O : Nat → Prop) (V : World) : Prop where
  size : w.heap.size ≤ V.heap.size
  box : V.cell? ⟨gm, 0, none⟩ = some (bx b)
  mem : ∃ F2', MRep V b t q l (wr p l pre bs) F1 F2' ∧ ∀ k, F2' k → F2 k ∨ O k
  many : s.2.1 = (bs.drop (sumL pre)).length
  cap : s.2.1 ≤ s.2.2
  sees : Sees V w.heap.size s.1 (byt (bs.drop (sumL pre)))
  src : ∀ a, s.1 = some a → bs.drop (sumL pre) ≠ [] → a.block < w.heap.size ∧ ¬ F1 a.block ∧ ¬ F2 a.block ∧ a.block ≠ b
theorem byt_drop (l : List UInt8) (k : Nat) : byt (l.drop k) = (byt l).drop k := by simp [byt]
theorem byt_take (l : List UInt8) (k : Nat) : byt (l.take k) = (byt l).take k := by simp [byt]
set_option maxRecDepth 100000 in
set_option maxHeartbeats 2000000 in
theorem write1_any {w V : World} {gm b t q : Nat} {l : Pg.Tb} {p : Pl} {bs : List UInt8} {F1 F2 O : Nat → Prop} {pre : List Part} {s : Sl3} (h0 : MRep w b t q l p F1 F2) (hg : gm < w.heap.size) (hgF : gm ≠ b ∧ ¬ F1 gm ∧ ¬ F2 gm) (hO : ∀ k, O k → w.heap.size ≤ k ∧ k < V.heap.size) (h : WrRel w gm b t q l p bs F1 F2 pre s O V) (x : Part) (hx : x.1 < 65536) (hx2 : x.2.1 < 256) (hx3 : 0 < x.2.2) (hx4 : x.2.2 ≤ 256) (hx5 : sumL pre + x.2.2 ≤ bs.length) :
    Calls Tryz.prog 114 (#[slV s, enc3 x] ++ #[bx gm]) V fun e V' => ∃ v', e = .returned (slV v') ∧ V.heap.size ≤ V'.heap.size ∧ WrRel w gm b t q l p bs F1 F2 (pre ++ [x]) v' (fun k => O k ∨ (V.heap.size ≤ k ∧ k < V'.heap.size)) V' ∧ Keep (fun k => F2 k ∨ O k) V V' := by
  obtain ⟨sA, sm, sc⟩ := s
  obtain ⟨hsz, hbox, ⟨F2', hmem, hF2⟩, hmany, hcap, hsees, hsrc⟩ := h
  simp only at hmany hcap hsees hsrc
  have hne : bs.drop (sumL pre) ≠ [] := by
    intro e
    have := congrArg List.length e
    rw [List.length_drop, List.length_nil] at this
    omega
  obtain ⟨ad, rfl, _, _⟩ := hsees (by simpa [byt] using hne)
  obtain ⟨pg, pl, k⟩ := x
  simp only at hx hx2 hx3 hx4 hx5
  have hwr := wr_snoc l (pg, pl, k) pre p bs
  have hsn := sumL_snoc pre (pg, pl, k)
  simp only at hwr hsn
  obtain ⟨off, hoff⟩ : ∃ off, off = sumL pre := ⟨_, rfl⟩
  obtain ⟨rs, hrs⟩ : ∃ rs, rs = bs.drop (sumL pre) := ⟨_, rfl⟩
  have hlr : rs.length = bs.length - off := by rw [hrs, List.length_drop, hoff]
  rw [← hrs] at hmany hsees hsrc hne hwr
  obtain ⟨p1, hp1⟩ : ∃ p1, p1 = wr p l pre bs := ⟨_, rfl⟩
  rw [← hp1] at hmem hwr
  obtain ⟨V1, hV1⟩ : ∃ V1, V1 = V.alloc (.cells #[.int .i64 (pg : Int), .int .i64 (pl : Int), .int .i64 (k : Int)] 193) := ⟨_, rfl⟩
  have hb1 : Below V.heap.size V V1 := by rw [hV1]; exact below1 _ _
  have hz1' : V1.heap.size = V.heap.size + 1 := by rw [hV1]; simp
  have hrow : Row V1 V.heap.size 193 [.int .i64 (pg : Int), .int .i64 (pl : Int), .int .i64 (k : Int)] := by rw [hV1]; exact Row.new V 193 [.int .i64 (pg : Int), .int .i64 (pl : Int), .int .i64 (k : Int)]
  have HSS := Lib.hid (fun (W : World) (hb : Below V1.heap.size V1 W) => (show W.cell? ⟨gm, 0, none⟩ = some (bx b) ∧ W.cell? ⟨b, 0, none⟩ = some (bx t) ∧ W.cell? ⟨b, 1, none⟩ = some (bx q) ∧ W.cell? ⟨V.heap.size, 0, none⟩ = some (.int .i64 (pg : Int)) ∧ W.cell? ⟨V.heap.size, 1, none⟩ = some (.int .i64 (pl : Int)) ∧ W.cell? ⟨V.heap.size, 2, none⟩ = some (.int .i64 (k : Int)) from
    ⟨((below0 hb1 hb).cell (p := ⟨gm, 0, none⟩) (by show gm < _; omega)).trans hbox, (hmem.below (below0 hb1 hb)).c0, (hmem.below (below0 hb1 hb)).c1, (hrow.below hb).cell 0, (hrow.below hb).cell 1, (hrow.below hb).cell 2⟩))
  have HFR := Lib.hid (fun (W : World) (hb : Below V1.heap.size V1 W) => framed_any (hmem.below (below0 hb1 hb)).tab (pg : Int) (by unfold Pg.I64; omega))
  have hfi := getX_i64 hmem.tab.ok (pg : Int)
  unfold Pg.I64 at hfi
  have htk : (rs.take k).length = k := by rw [List.length_take]; omega
  have HWR := Lib.hid (fun (W : World) (hb : Below V1.heap.size V1 W) => write_any (hmem.below (below0 hb1 hb)).pool (Pg.getX l (pg : Int)).2.2 (pl : Int) hfi.2 (by omega) (some ad) k sc (rs.take k) htk (by
    rw [byt_take]
    exact ((hsees.keep fun p hp => (below0 hb1 hb).cell (by omega)).take k).more (by have := (below0 hb1 hb).size; omega)))
  obtain ⟨f, hf⟩ : ∃ f, f = (Pg.getX l (pg : Int)).2.2 := ⟨_, rfl⟩
  rw [← hf] at HFR HWR hwr
  rw [htk] at HWR
  obtain ⟨E, hE⟩ : ∃ E, E = reachE p1 f (pl : Int) ((k : Nat) : Int) := ⟨_, rfl⟩
  rw [← hE] at HWR
  have HF := Lib.hid (And.intro hmem (And.intro hF2 (And.intro hbox (And.intro hsees hsrc))))
  have HO := Lib.hid hO
  have HW := Lib.hid hwr
  have HSN := Lib.hid hsn
  have HRS := Lib.hid hrs
  have HB1 := Lib.hid (And.intro hb1 (And.intro hz1' hsz))
  have HM0 := Lib.hid (And.intro h0 (And.intro hg hgF))
  have HL := Lib.hid (And.intro hlr (And.intro hoff (And.intro hx5 hmany)))
  have j0 : (0 : Int) ≤ (k : Int) := by omega
  have j1 : (k : Int) ≤ (sc : Int) := by omega
  have j2 : k ≤ sc := by omega
  have j3 : (k : Int) ≤ (sm : Int) := by omega
  have j4 : k ≤ sm := by omega
  have j5 : sm ≤ sc := hcap
  have j6 : (sm : Int) ≤ (sc : Int) := by omega
  show Calls _ _ #[.slice (some ad) sm sc, .agg #[.int .i64 (pg : Int), .int .i64 (pl : Int), .int .i64 (k : Int)], bx gm] _ _
  clear hfi htk hf hE hmem hF2 hbox hsees hsrc hO hwr hsn hrs hb1 hz1' hsz h0 hg hgF hrow hx hx2 hx3 hx4 hx5 hne hlr hoff hmany hcap hp1
  go_enter Tryz.func114, Tryz.ntmps114
  go_wp2_with fail
  rw [← hV1]
  clear hV1
  have hdr : Below V1.heap.size V1 V1.drew := (Below.refl _ _).drew
  refine wp_region_held_drew (S := fun W => W.cell? ⟨gm, 0, none⟩ = some (bx b) ∧ W.cell? ⟨b, 0, none⟩ = some (bx t) ∧ W.cell? ⟨b, 1, none⟩ = some (bx q) ∧ W.cell? ⟨V.heap.size, 0, none⟩ = some (.int .i64 (pg : Int)) ∧ W.cell? ⟨V.heap.size, 1, none⟩ = some (.int .i64 (pl : Int)) ∧ W.cell? ⟨V.heap.size, 2, none⟩ = some (.int .i64 (k : Int))) (by kernel_rfl) (HSS.out _ hdr) (fun hHeld => ?_)
  refine wpAnyH_take (i := 0) (v := ?_) rfl (by kernel_rfl) (by kernel_rfl) (by kernel_rfl) (fun _ _ _ h => h) (Or.inl ⟨by kernel_rfl, ?_⟩) hHeld ?_
  rotate_left
  focus (intro w hSw; (try dsimp only at hSw); go_simp; try with_reducible rfl)
  simp only [Act.put]
  refine wpAnyH_take (i := 1) (v := ?_) rfl (by kernel_rfl) (by kernel_rfl) (by kernel_rfl) (fun _ _ _ h => h) (Or.inl ⟨by kernel_rfl, ?_⟩) hHeld ?_
  rotate_left
  focus (intro w hSw; (try dsimp only at hSw); go_simp; try with_reducible rfl)
  simp only [Act.put]
  refine wpAnyH_take (i := 2) (v := ?_) rfl (by kernel_rfl) (by kernel_rfl) (by kernel_rfl) (fun _ _ _ h => h) (Or.inl ⟨by kernel_rfl, ?_⟩) hHeld ?_
  rotate_left
  focus (intro w hSw; (try dsimp only at hSw); go_simp; try with_reducible rfl)
  simp only [Act.put]
  refine wpAnyH_take (i := 3) (v := ?_) rfl (by kernel_rfl) (by kernel_rfl) (by kernel_rfl) (fun _ _ _ h => h) (Or.inl ⟨by kernel_rfl, ?_⟩) hHeld ?_
  rotate_left
  focus (intro w hSw; (try dsimp only at hSw); go_simp; try with_reducible rfl)
  simp only [Act.put]
  refine wpAnyH_take (i := 4) (v := ?_) rfl (by kernel_rfl) (by kernel_rfl) (by kernel_rfl) (fun _ _ _ h => h) (Or.inl ⟨by kernel_rfl, ?_⟩) hHeld ?_
  rotate_left
  focus (intro w hSw; (try dsimp only at hSw); go_simp; try with_reducible rfl)
  simp only [Act.put]
  refine wpAnyH_take (i := 5) (v := ?_) rfl (by kernel_rfl) (by kernel_rfl) (by kernel_rfl) (fun _ _ _ h => h) (Or.inl ⟨by kernel_rfl, ?_⟩) hHeld ?_
  rotate_left
  focus (intro w hSw; (try dsimp only at hSw); go_simp; try with_reducible rfl)
  simp only [Act.put]
  refine wpAnyH_take (i := 6) (v := ?_) rfl (by kernel_rfl) (by kernel_rfl) (by kernel_rfl) (fun _ _ _ h => h) (Or.inl ⟨by kernel_rfl, ?_⟩) hHeld ?_
  rotate_left
  focus (intro w hSw; (try dsimp only at hSw); go_simp; try with_reducible rfl)
  simp only [Act.put]
  refine wpAnyH_take (i := 7) (v := ?_) rfl (by kernel_rfl) (by kernel_rfl) (by kernel_rfl) (fun _ _ _ h => h) (Or.inl ⟨by kernel_rfl, ?_⟩) hHeld ?_
  rotate_left
  focus (intro w hSw; (try dsimp only at hSw); go_simp; try with_reducible rfl)
  simp only [Act.put]
  refine wpAnyH_take (i := 8) (v := ?_) rfl (by kernel_rfl) (by kernel_rfl) (by kernel_rfl) (fun _ _ _ h => h) (Or.inl ⟨by kernel_rfl, ?_⟩) hHeld ?_
  rotate_left
  focus (intro w hSw; (try dsimp only at hSw); go_simp; try with_reducible rfl)
  simp only [Act.put]
  refine wpAnyH_take (i := 9) (v := ?_) rfl (by kernel_rfl) (by kernel_rfl) (by kernel_rfl) (fun _ _ _ h => h) (Or.inl ⟨by kernel_rfl, ?_⟩) hHeld ?_
  rotate_left
  focus (intro w hSw; (try dsimp only at hSw); go_simp; try with_reducible rfl)
  simp only [Act.put]
  refine wpAnyH_take (i := 11) (v := ?_) rfl (by kernel_rfl) (by kernel_rfl) (by kernel_rfl) (fun _ _ _ h => h) (Or.inl ⟨by kernel_rfl, ?_⟩) hHeld ?_
  rotate_left
  focus (intro w hSw; (try dsimp only at hSw); go_simp; try with_reducible rfl)
  simp only [Act.put]
  refine wpAnyH_take (i := 12) (v := ?_) rfl (by kernel_rfl) (by kernel_rfl) (by kernel_rfl) (fun _ _ _ h => h) (Or.inl ⟨by kernel_rfl, ?_⟩) hHeld ?_
  rotate_left
  focus (intro w hSw; (try dsimp only at hSw); go_simp; try with_reducible rfl)
  simp only [Act.put]
  refine wpAnyH_take (i := 13) (v := ?_) rfl (by kernel_rfl) (by kernel_rfl) (by kernel_rfl) (fun _ _ _ h => h) (Or.inl ⟨by kernel_rfl, ?_⟩) hHeld ?_
  rotate_left
  focus (intro w hSw; (try dsimp only at hSw); go_simp; try with_reducible rfl)
  simp only [Act.put]
  refine wpAnyH_take (i := 14) (v := ?_) rfl (by kernel_rfl) (by kernel_rfl) (by kernel_rfl) (fun _ _ _ h => h) (Or.inl ⟨by kernel_rfl, ?_⟩) hHeld ?_
  rotate_left
  focus (intro w hSw; (try dsimp only at hSw); go_simp; try with_reducible rfl)
  simp only [Act.put]
  refine wpAnyH_take (i := 15) (v := ?_) rfl (by kernel_rfl) (by kernel_rfl) (by kernel_rfl) (fun _ _ _ h => h) (Or.inl ⟨by kernel_rfl, ?_⟩) hHeld ?_
  rotate_left
  focus (intro w hSw; (try dsimp only at hSw); go_simp; try with_reducible rfl)
  simp only [Act.put]
  refine wpAnyH_take (i := 16) (v := ?_) rfl (by kernel_rfl) (by kernel_rfl) (by kernel_rfl) (fun _ _ _ h => h) (Or.inl ⟨by kernel_rfl, ?_⟩) hHeld ?_
  rotate_left
  focus (intro w hSw; (try dsimp only at hSw); go_simp; try with_reducible rfl)
  simp only [Act.put]
  refine wpAnyH_ready (rs := [10]) (by kernel_rfl) (by simp) ?_
  refine AllReadyH.cons rfl (fun K hK => ?_) (AllReadyH.nil)
  go_simp
  refine (HFR.out _ hdr).mono ?_
  rintro e W1 ⟨rfl, hb2⟩
  replace hb2 := below0 hdr hb2
  refine hK.out _ _ (HSS.out _ hb2) (fun hHeld => ?_)
  clear hK K hdr
  try simp only [Act.put]
  refine wpAnyH_ready (rs := [17]) (by kernel_rfl) (by simp) ?_
  refine AllReadyH.cons rfl (fun K hK => ?_) (AllReadyH.nil)
  go_simp
  refine (HWR.out _ hb2).mono ?_
  rintro e W2 ⟨rfl, F3, hhas, hkeep, hF3⟩
  have HS2 : W2.cell? ⟨gm, 0, none⟩ = some (bx b) ∧ W2.cell? ⟨b, 0, none⟩ = some (bx t) ∧ W2.cell? ⟨b, 1, none⟩ = some (bx q) ∧ W2.cell? ⟨V.heap.size, 0, none⟩ = some (.int .i64 (pg : Int)) ∧ W2.cell? ⟨V.heap.size, 1, none⟩ = some (.int .i64 (pl : Int)) ∧ W2.cell? ⟨V.heap.size, 2, none⟩ = some (.int .i64 (k : Int)) := by
    obtain ⟨s1, s2, s3, s4, s5, s6⟩ := HSS.out _ hb2
    obtain ⟨hmem, hF2, _⟩ := HF.out
    obtain ⟨h0, hg, hgF⟩ := HM0.out
    have hvs : ¬ F2' V.heap.size := fun hf => by have := hmem.pool.lt _ hf; omega
    have n1 : ¬ F2' gm := fun hf => (hF2 _ hf).elim hgF.2.2 (fun ho => by have := HO.out _ ho; omega)
    have n2 : ¬ F2' b := hmem.b2
    have l0 := hb2.size
    have l1 := HB1.out.2.1
    have l2 := HB1.out.2.2
    have l3 := h0.lt b (.inl rfl)
    exact ⟨(hkeep.cell (p := ⟨gm, 0, none⟩) (by show gm < _; omega) n1).trans s1, (hkeep.cell (p := ⟨b, 0, none⟩) (by show b < _; omega) n2).trans s2, (hkeep.cell (p := ⟨b, 1, none⟩) (by show b < _; omega) n2).trans s3, (hkeep.cell (p := ⟨V.heap.size, 0, none⟩) (by show V.heap.size < _; omega) hvs).trans s4, (hkeep.cell (p := ⟨V.heap.size, 1, none⟩) (by show V.heap.size < _; omega) hvs).trans s5, (hkeep.cell (p := ⟨V.heap.size, 2, none⟩) (by show V.heap.size < _; omega) hvs).trans s6⟩
  refine hK.out _ _ HS2 (fun hHeld => ?_)
  clear hK K
  try simp only [Act.put]
  refine wpAnyH_done (by kernel_rfl) ?_ _
  have c5 := HS2.2.2.2.2.2
  have HFIN := Lib.hid (fun (A9 : Option Addr) (c9 : Nat) (hA9 : A9 = some (ad.add k) ∨ sm - k = 0) (hc9 : sm - k ≤ c9) => show V.heap.size ≤ W2.heap.size ∧ WrRel w gm b t q l p bs F1 F2 (pre ++ [(pg, pl, k)]) (A9, sm - k, c9) (fun kk => O kk ∨ (V.heap.size ≤ kk ∧ kk < W2.heap.size)) W2 ∧ Keep (fun kk => F2 kk ∨ O kk) V W2 from by
    obtain ⟨hmem, hF2, hbox, hsees, hsrc⟩ := HF.out
    obtain ⟨h0, hg, hgF⟩ := HM0.out
    obtain ⟨hb1, hz1', hsz⟩ := HB1.out
    obtain ⟨hlr, hoff, hx5, hmany⟩ := HL.out
    have hbV := below0 hb1 hb2
    have hs1 := hbV.size
    have hs2 := hkeep.size
    have hk : ∀ kk, kk < V.heap.size → ¬ F2' kk → W2.heap[kk]? = V.heap[kk]? := fun kk h1 h2 => (hkeep.block kk (by omega) h2).trans (hbV.block kk h1)
    have n1 : ¬ F2' gm := fun hf => (hF2 _ hf).elim hgF.2.2 (fun ho => by have := HO.out _ ho; omega)
    have hF1 : ∀ kk, F1 kk → ¬ F2' kk := hmem.apart
    have hdr : bs.drop (sumL (pre ++ [(pg, pl, k)])) = rs.drop k := by rw [HSN.out, HRS.out, List.drop_drop]
    refine ⟨by omega, ⟨by omega, (World.cell?_of_block (hk gm (by omega) n1)).trans hbox, ⟨F3, ⟨?_, ?_, by rw [HW.out]; exact hhas, ?_, hmem.b1, ?_⟩, ?_⟩, ?_, ?_, ?_, ?_⟩, ?_⟩
    · exact hmem.obj.same (hk b (hmem.lt b (.inl rfl)) hmem.b2)
    · exact hmem.tab.keep fun kk hf => hk kk (hmem.tab.lt kk hf) (hF1 kk hf)
    · intro kk h1 h3
      rcases hF3 kk h3 with h | h
      · exact hF1 kk h1 h
      · have := hmem.tab.lt kk h1; omega
    · intro h3
      rcases hF3 b h3 with h | h
      · exact hmem.b2 h
      · have := hmem.lt b (.inl rfl); omega
    · intro kk h3
      have := hhas.lt kk h3
      rcases hF3 kk h3 with h | h
      · exact (hF2 kk h).imp id .inl
      · exact .inr (.inr ⟨by omega, by omega⟩)
    · show sm - k = _
      rw [hdr, List.length_drop, hmany]
    · exact hc9
    · rcases hA9 with hA9 | hA9
      · subst hA9
        rw [hdr, byt_drop]
        refine sees_drop (_root_.Go.Proofs.YtiahmccchpmdgaaGreatDoor.Vm.Sees.keep_ hsees ?_) k
        intro hn
        have hsb := hsrc ad rfl (by rintro rfl; simp [byt] at hn)
        exact hk ad.block (by omega) (fun hf => (hF2 _ hf).elim hsb.2.2.1 (fun ho => by have := HO.out _ ho; omega))
      · rw [hdr, List.eq_nil_of_length_eq_zero (show (rs.drop k).length = 0 by rw [List.length_drop, ← hmany]; exact hA9)]
        exact Sees.nil_
    · intro a ha hn
      rw [hdr] at hn
      rcases hA9 with hA9 | hA9
      · subst hA9
        injection ha with ha
        subst ha
        rw [add_block]
        exact hsrc ad rfl (by rintro rfl; simp at hn)
      · exact absurd (List.eq_nil_of_length_eq_zero (show (rs.drop k).length = 0 by rw [List.length_drop, ← hmany]; exact hA9)) hn
    · refine ((Keep.of_below (F := fun kk => F2 kk ∨ O kk) hbV).trans hkeep fun kk _ h => hF2 kk h))
  clear HSS HFR HWR HF HO HW HSN HRS HB1 HM0 hb2 hhas hkeep hF3 HS2
  have HJ := Lib.hid (And.intro j2 (And.intro j4 j5))
  by_cases hke : k = sc
  · subst hke
    clear j0 j1 j2 j3 j4 j5 j6
    have j4 := HJ.out.2.1
    have j5 := HJ.out.2.2
    have j6 : (k : Int) ≤ (sm : Int) := by omega
    go_wp2_with fail
    go_ret
    have e0 : sm - k = 0 := by have := HJ.out; omega
    have H9 := HFIN.out (some ad) 0 (.inr e0) (by omega)
    rw [e0] at H9
    exact ⟨(some ad, 0, 0), rfl, H9⟩
  · go_wp2_with fail
    go_ret
    exact ⟨(some (ad.add k), sm - k, sc - k), rfl, HFIN.out _ _ (.inl rfl) (by omega)⟩
end Go.Proofs.YtiahmccchpmdgaaGreatDoor.Vm

namespace Go.Proofs.YtiahmccchpmdgaaGreatDoor.Vm
open Go.RowKit Go.Shelf Go.Maps Go.Sort
attribute [local go_sem] Oper.semAt_some

/- WRITE: THE BYTES OF A REACH. -/

/-- bytes that came in, apart from the memory -/
def Src (w : World) (b : Nat) (F1 F2 : Nat → Prop) (S : Option Addr) (bs : List UInt8) : Prop :=
  Sees w w.heap.size S (byt bs) ∧ ∀ a, S = some a → bs ≠ [] → a.block < w.heap.size ∧ ¬ F1 a.block ∧ ¬ F2 a.block ∧ a.block ≠ b
theorem wr_does {w : World} {gm b t q : Nat} {l : Pg.Tb} {p : Pl} {bs : List UInt8} {F1 F2 : Nat → Prop} (h0 : MRep w b t q l p F1 F2) (hg : gm < w.heap.size) (hgF : gm ≠ b ∧ ¬ F1 gm ∧ ¬ F2 gm) (a n : Nat) (han : a + n ≤ 16777216) (hn : n = bs.length) :
    Does w a n 114 #[bx gm] F2 (WrRel w gm b t q l p bs F1 F2) := by
  refine ⟨enters_of Tryz.func114 (by kernel_rfl) rfl, fun k h => h0.pool.lt k h, ?_, ?_, ?_⟩
  · rintro pre v O V V' ⟨h1, h2, ⟨F3, h3, h4⟩, h5, h6, h7, h8⟩ hs hk
    refine ⟨by omega, (World.cell?_of_block (hk gm (by omega) (.inl hg))).trans h2, ⟨F3, h3.keep fun k hkk => hk k (h3.lt k hkk) ?_, h4⟩, h5, h6, h7.keep fun p hp => World.cell?_of_block (hk p.block (by omega) (.inl hp)), h8⟩
    rcases hkk with rfl | hf | hf
    · exact .inl (h0.lt _ (.inl rfl))
    · exact .inl (h0.lt _ (.inr (.inl hf)))
    · exact (h4 k hf).imp (fun h => h0.lt _ (.inr (.inr h))) id
  · rintro pre v O O2 V hO ⟨h1, h2, ⟨F3, h3, h4⟩, h5, h6, h7, h8⟩
    exact ⟨h1, h2, ⟨F3, h3, fun k hf => (h4 k hf).imp id (hO k)⟩, h5, h6, h7, h8⟩
  · rintro pre x v O V ⟨post, hpost⟩ hsz hO h
    have hx := pts_mem n a han x (by rw [hpost]; simp)
    have hl := pts_sum n a
    rw [hpost, show pre ++ x :: post = (pre ++ [x]) ++ post by simp] at hl
    have h9 : sumL ((pre ++ [x]) ++ post) = sumL (pre ++ [x]) + sumL post := by simp [sumL]; omega
    rw [h9, sumL_snoc] at hl
    exact write1_any h0 hg hgF hO h x hx.1 hx.2.1 hx.2.2.1 (by omega) (by omega)
set_option maxHeartbeats 1000000 in
theorem writeM_any {w : World} {b t q : Nat} {l : Pg.Tb} {p : Pl} {F1 F2 : Nat → Prop} (h : MRep w b t q l p F1 F2) (a n c : Nat) (S : Option Addr) (bs : List UInt8) (han : a + n ≤ 16777216) (hn : bs.length = n) (hc : n ≤ c) (hS : Src w b F1 F2 S bs) :
    Calls Tryz.prog 61 #[bx b, .agg #[.int .u32 (a : Int), .int .i64 (n : Int)], .slice S n c] w fun e w' => (∃ v, e = .returned v) ∧ (∃ F3, MRep w' b t q l (wr p l (pts a n) bs) F1 F3 ∧ ∀ k, F3 k → F2 k ∨ w.heap.size ≤ k) ∧ Keep F2 w w' := by
  obtain ⟨W, hW⟩ : ∃ W, W = (w.alloc (.cells #[bx b] 24)).alloc (.cells #[.int .u32 (a : Int), .int .i64 (n : Int)] 123) := ⟨_, rfl⟩
  have hbW : Below w.heap.size w W := by rw [hW]; exact below2 _ _ _
  have hc0 : W.cell? ⟨w.heap.size, 0, none⟩ = some (bx b) := by
    rw [hW]
    exact (World.cell?_alloc_lt _ _ _ (by simp)).trans (cell_alloc_new _ _ _ _)
  have hsW : W.heap.size = w.heap.size + 1 + 1 := by rw [hW]; simp
  have h0 := h.below hbW
  have hgF : w.heap.size ≠ b ∧ ¬ F1 w.heap.size ∧ ¬ F2 w.heap.size := ⟨fun e => by have := h.lt b (.inl rfl); omega, fun hf => by have := h.lt _ (.inr (.inl hf)); omega, fun hf => by have := h.lt _ (.inr (.inr hf)); omega⟩
  have HP := Lib.hid (partwiseB_any a n 114 #[bx w.heap.size] S n c W F2 (WrRel W w.heap.size b t q l p bs F1 F2) han (wr_does h0 (by omega) hgF a n han hn.symm)
    ⟨Nat.le_refl _, hc0, ⟨F2, h0, fun k h => .inl h⟩, by simp [sumL, hn], hc, by simpa [sumL] using (hS.1.below hbW).more hbW.size, fun ad e hne => by
      have h1 := hS.2 ad e (by simpa [sumL] using hne)
      exact ⟨by have := h1.1; omega, h1.2⟩⟩)
  have HB := Lib.hid (And.intro hbW hsW)
  have HF2 := Lib.hid (fun k (hf : F2 k) => h.pool.lt k hf)
  clear h h0 hgF hc0 hbW hsW hS hn hc
  go_enter Tryz.func61, Tryz.ntmps61
  go_wp2_with fail
  rw [← hW]
  clear hW
  refine (HP.out).mono ?_
  rintro e w1 ⟨v, O, rfl, ⟨_, _, ⟨F3, h3, h4⟩, _, _, _, _⟩, hO, hK⟩
  have HF := Lib.hid (show (∃ F3, MRep w1 b t q l (wr p l (pts a n) bs) F1 F3 ∧ ∀ k, F3 k → F2 k ∨ w.heap.size ≤ k) ∧ Keep F2 w w1 from
    ⟨⟨F3, h3, fun k hf => (h4 k hf).imp id (fun ho => by have := hO k ho; have := HB.out.2; omega)⟩, (Keep.of_below (F := F2) HB.out.1).trans hK (fun _ _ h => h)⟩)
  clear h3 h4 hO hK
  go_wp2_with fail
  go_end0
  exact ⟨⟨_, rfl⟩, HF.out⟩
end Go.Proofs.YtiahmccchpmdgaaGreatDoor.Vm

namespace Go.Proofs.YtiahmccchpmdgaaGreatDoor.Vm
open Go.RowKit Go.Shelf Go.Maps Go.Sort
attribute [local go_sem] Oper.semAt_some

/- WHO REACHES WHAT. -/

/-- what is wrong with a reach by somebody who may be or not -/
def rE (may : Bool) (f : Nat → Bool) (a : Nat) (n : Int) : Nat := if ¬ (may && properB n) = true then 2 else if ¬ withinB a n = true then 4 else if ¬ seenB f a n.toNat = true then 190 else 0
theorem reached1_any (a : Nat) (n : Int) (may : Bool) (g1 g2 : Nat) (w : World) (h1 : w.cell? ⟨g1, 0, none⟩ = some (.bool may)) (h2 : w.cell? ⟨g2, 0, none⟩ = some (.int .u32 (a : Int))) (h3 : w.cell? ⟨g2, 1, none⟩ = some (.int .i64 n)) :
    Calls Tryz.prog 202 #[bx g1, bx g2] w fun e w' => e = .returned (.bool (may && properB n)) ∧ Below w.heap.size w w' := by
  have hp := Lib.hid (proper_any a n w)
  obtain ⟨q, hq⟩ : ∃ q, q = properB n := ⟨_, rfl⟩
  rw [← hq] at hp ⊢
  clear hq
  cases may
  · go_enter Tryz.func202, Tryz.ntmps202
    go_wp2_with fail
    go_ret
    exact ⟨rfl, Below.refl _ _⟩
  · go_enter Tryz.func202, Tryz.ntmps202
    go_wp2_with fail
    refine hp.out.mono ?_
    rintro e w1 ⟨rfl, hb⟩
    go_wp2_with fail
    go_ret
    exact ⟨rfl, hb⟩
theorem reached2_any (f : Nat → Bool) (a n cf : Nat) (cap : Array Value) (g1 g2 : Nat) (w : World) (han : a + n ≤ 16777216) (h1 : w.cell? ⟨g1, 0, none⟩ = some (.int .u32 (a : Int))) (h2 : w.cell? ⟨g1, 1, none⟩ = some (.int .i64 (n : Int))) (h3 : w.cell? ⟨g2, 0, none⟩ = some (.func (.func cf) #[] cap))
    (eg : ∀ args w, (callFunc cf args).run Tryz.prog w = .ok (.enter cf args) w)
    (HF : ∀ (z : Nat) V, z < 65536 → Below w.heap.size w V → Calls Tryz.prog cf (#[.int .i64 (z : Int)] ++ cap) V fun e V' => e = .returned (.bool (f z)) ∧ Below V.heap.size V V') :
    Calls Tryz.prog 205 #[bx g1, bx g2] w fun e w' => e = .returned (.bool (seenB f a n)) ∧ Below w.heap.size w w' := by
  have hp := Lib.hid (seen_any f a n cf cap w han eg HF)
  obtain ⟨q, hq⟩ : ∃ q, q = seenB f a n := ⟨_, rfl⟩
  rw [← hq] at hp ⊢
  clear hq HF eg
  go_enter Tryz.func205, Tryz.ntmps205
  go_wp2_with fail
  refine hp.out.mono ?_
  rintro e w1 ⟨rfl, hb⟩
  go_wp2_with fail
  go_ret
  exact ⟨rfl, hb⟩
def rchB (a : Nat) (n : Int) (may : Bool) (fv : Value) : List (List Value × TypeId) := [([.int .u32 (a : Int), .int .i64 n], 123), ([.bool may], 4), ([fv], 88)]
def rchL (b a : Nat) (n : Int) (s : Nat) (a2 a3 a4 : Bool) : List Ask :=
  [⟨100, #[bx b], #[], 1, true⟩, ⟨202, #[], #[bx (s + 1), bx s], 2, a2⟩, ⟨204, #[.agg #[.int .u32 (a : Int), .int .i64 n]], #[], 4, a3⟩, ⟨205, #[], #[bx s, bx (s + 2)], 190, a4⟩]
theorem rch_asked {w : World} (b q a : Nat) (n : Int) (may : Bool) (f : Nat → Bool) (cf : Nat) (cap : Array Value) (hc : w.cell? ⟨b, 1, none⟩ = some (bx q)) (ha : a < 4294967296) (eg : ∀ args w, (callFunc cf args).run Tryz.prog w = .ok (.enter cf args) w)
    (HF : ∀ (z : Nat) V, z < 65536 → Below w.heap.size w V → Calls Tryz.prog cf (#[.int .i64 (z : Int)] ++ cap) V fun e V' => e = .returned (.bool (f z)) ∧ Below V.heap.size V V') :
    Calls Tryz.prog 99 #[.slice (some ⟨w.heap.size + 3, 0, none⟩) 4 4] (askW w (rchB a n may (.func (.func cf) #[] cap)) (rchL b a n w.heap.size true true true)) fun e w' => e = .returned (.int .i64 (rE may f a n : Int)) ∧ Below w.heap.size w w' := by
  obtain ⟨a2, ha2⟩ : ∃ a2, a2 = (may && properB n) := ⟨_, rfl⟩
  obtain ⟨a3, ha3⟩ : ∃ a3, a3 = withinB a n := ⟨_, rfl⟩
  obtain ⟨a4, ha4⟩ : ∃ a4, a4 = seenB f a n.toNat := ⟨_, rfl⟩
  have hE : askE (rchL b a n w.heap.size a2 a3 a4) = (rE may f a n : Int) := by
    unfold rE
    rw [← ha2, ← ha3, ← ha4]
    cases a2 <;> cases a3 <;> cases a4 <;> rfl
  refine (asked_box (rchB a n may (.func (.func cf) #[] cap)) (rchL b a n w.heap.size a2 a3 a4) 4 4 _ rfl rfl (by omega) fun k hk hall => ?_).mono fun e w' ⟨e1, e2, _⟩ => ⟨by rw [e1, hE], e2.below⟩
  rcases k with _ | _ | _ | _ | k
  · refine ⟨enters_of Tryz.func100 (by kernel_rfl) rfl, fun V hV => ?_⟩
    exact (there_any b q V ((hV.below.cell (p := ⟨b, 1, none⟩) (lt_of_cell hc)).trans hc)).mono fun e w' ⟨e1, e2⟩ => ⟨e1, e2 ▸ Below.refl _ _⟩
  · refine ⟨enters_of Tryz.func202 (by kernel_rfl) rfl, fun V hV => ?_⟩
    have := reached1_any a n may (w.heap.size + 1) w.heap.size V (hV.cell 1 _ rfl 0 _ rfl) (hV.cell 0 _ rfl 0 _ rfl) (hV.cell 0 _ rfl 1 _ rfl)
    rw [← ha2] at this
    exact this
  · refine ⟨enters_of Tryz.func204 (by kernel_rfl) rfl, fun V hV => ?_⟩
    have := within_any a n V ha
    rw [← ha3] at this
    exact this
  · have t2 : a2 = true := hall 1 (by simp [rchL]) (by omega)
    have t3 : a3 = true := hall 2 (by simp [rchL]) (by omega)
    rw [ha2] at t2
    rw [ha3] at t3
    simp only [properB, withinB, Bool.and_eq_true, decide_eq_true_eq] at t2 t3
    obtain ⟨m, rfl⟩ : ∃ m : Nat, n = m := ⟨n.toNat, by omega⟩
    refine ⟨enters_of Tryz.func205 (by kernel_rfl) rfl, fun V hV => ?_⟩
    have := reached2_any f a m cf cap w.heap.size (w.heap.size + 2) V (by omega) (hV.cell 0 _ rfl 0 _ rfl) (hV.cell 0 _ rfl 1 _ rfl) (hV.cell 2 _ rfl 0 _ rfl) eg (fun z V' hz hb => HF z V' hz (below0 hV.below hb))
    rw [Int.toNat_natCast] at ha4
    rw [← ha4] at this
    exact this
  · simp [rchL] at hk
    omega
set_option maxHeartbeats 1000000 in
theorem reached_any {w : World} (b q a : Nat) (n : Int) (may : Bool) (f : Nat → Bool) (cf : Nat) (cap : Array Value) (hc : w.cell? ⟨b, 1, none⟩ = some (bx q)) (ha : a < 4294967296) (eg : ∀ args w, (callFunc cf args).run Tryz.prog w = .ok (.enter cf args) w)
    (HF : ∀ (z : Nat) V, z < 65536 → Below w.heap.size w V → Calls Tryz.prog cf (#[.int .i64 (z : Int)] ++ cap) V fun e V' => e = .returned (.bool (f z)) ∧ Below V.heap.size V V') :
    Calls Tryz.prog 111 #[bx b, .agg #[.int .u32 (a : Int), .int .i64 n], .bool may, .func (.func cf) #[] cap] w fun e w' => e = .returned (.int .i64 (rE may f a n : Int)) ∧ Below w.heap.size w w' := by
  have h1 := Lib.hid (rch_asked b q a n may f cf cap hc ha eg HF)
  obtain ⟨E, hE⟩ : ∃ E, E = rE may f a n := ⟨_, rfl⟩
  rw [← hE] at h1 ⊢
  clear hE HF eg hc
  go_enter Tryz.func111, Tryz.ntmps111
  go_wp2_with fail
  refine (h1.out).mono ?_
  rintro e w1 ⟨rfl, hb⟩
  go_wp2_with fail
  go_ret
  exact ⟨rfl, hb⟩
set_option maxHeartbeats 1000000 in
theorem owned1_any {w : World} {b t g1 g2 g3 : Nat} {l : Pg.Tb} {F : Nat → Prop} (o m : Int) (z : Nat) (hz : z < 65536) (ht : Pg.Has w t l F) (hb0 : w.cell? ⟨b, 0, none⟩ = some (bx t)) (h1 : w.cell? ⟨g1, 0, none⟩ = some (bx b)) (h2 : w.cell? ⟨g2, 0, none⟩ = some (.int .i64 o)) (h3 : w.cell? ⟨g3, 0, none⟩ = some (.int .i64 m)) :
    Calls Tryz.prog 141 #[.int .i64 (z : Int), bx g1, bx g2, bx g3] w fun e w' => e = .returned (.bool (grantB l z o m)) ∧ Below w.heap.size w w' := by
  have HSS := Lib.hid (fun (W : World) (hb : Below w.heap.size w W) => (show W.cell? ⟨g1, 0, none⟩ = some (bx b) ∧ W.cell? ⟨b, 0, none⟩ = some (bx t) ∧ W.cell? ⟨g2, 0, none⟩ = some (.int .i64 o) ∧ W.cell? ⟨g3, 0, none⟩ = some (.int .i64 m) from
    ⟨(hb.cell (p := ⟨g1, 0, none⟩) (lt_of_cell h1)).trans h1, (hb.cell (p := ⟨b, 0, none⟩) (lt_of_cell hb0)).trans hb0, (hb.cell (p := ⟨g2, 0, none⟩) (lt_of_cell h2)).trans h2, (hb.cell (p := ⟨g3, 0, none⟩) (lt_of_cell h3)).trans h3⟩))
  have HG := Lib.hid (fun (W : World) (hb : Below w.heap.size w W) => grants_any (ht.below hb) (z : Int) (by unfold Pg.I64; omega) o m)
  obtain ⟨r, hr⟩ : ∃ r, r = grantB l z o m := ⟨_, rfl⟩
  rw [← hr] at HG ⊢
  clear hr ht hb0 h1 h2 h3
  go_enter Tryz.func141, Tryz.ntmps141
  go_wp2_with fail
  have hdr : Below w.heap.size w w.drew := (Below.refl _ _).drew
  refine wp_region_held_drew (S := fun W => W.cell? ⟨g1, 0, none⟩ = some (bx b) ∧ W.cell? ⟨b, 0, none⟩ = some (bx t) ∧ W.cell? ⟨g2, 0, none⟩ = some (.int .i64 o) ∧ W.cell? ⟨g3, 0, none⟩ = some (.int .i64 m)) (by kernel_rfl) (HSS.out _ hdr) (fun hHeld => ?_)
  refine wpAnyH_take (i := 0) (v := ?_) rfl (by kernel_rfl) (by kernel_rfl) (by kernel_rfl) (fun _ _ _ h => h) (Or.inl ⟨by kernel_rfl, ?_⟩) hHeld ?_
  rotate_left
  focus (intro w hSw; (try dsimp only at hSw); go_simp; try with_reducible rfl)
  simp only [Act.put]
  refine wpAnyH_take (i := 1) (v := ?_) rfl (by kernel_rfl) (by kernel_rfl) (by kernel_rfl) (fun _ _ _ h => h) (Or.inl ⟨by kernel_rfl, ?_⟩) hHeld ?_
  rotate_left
  focus (intro w hSw; (try dsimp only at hSw); go_simp; try with_reducible rfl)
  simp only [Act.put]
  refine wpAnyH_take (i := 2) (v := ?_) rfl (by kernel_rfl) (by kernel_rfl) (by kernel_rfl) (fun _ _ _ h => h) (Or.inl ⟨by kernel_rfl, ?_⟩) hHeld ?_
  rotate_left
  focus (intro w hSw; (try dsimp only at hSw); go_simp; try with_reducible rfl)
  simp only [Act.put]
  refine wpAnyH_take (i := 3) (v := ?_) rfl (by kernel_rfl) (by kernel_rfl) (by kernel_rfl) (fun _ _ _ h => h) (Or.inl ⟨by kernel_rfl, ?_⟩) hHeld ?_
  rotate_left
  focus (intro w hSw; (try dsimp only at hSw); go_simp; try with_reducible rfl)
  simp only [Act.put]
  refine wpAnyH_take (i := 4) (v := ?_) rfl (by kernel_rfl) (by kernel_rfl) (by kernel_rfl) (fun _ _ _ h => h) (Or.inl ⟨by kernel_rfl, ?_⟩) hHeld ?_
  rotate_left
  focus (intro w hSw; (try dsimp only at hSw); go_simp; try with_reducible rfl)
  simp only [Act.put]
  refine wpAnyH_take (i := 5) (v := ?_) rfl (by kernel_rfl) (by kernel_rfl) (by kernel_rfl) (fun _ _ _ h => h) (Or.inl ⟨by kernel_rfl, ?_⟩) hHeld ?_
  rotate_left
  focus (intro w hSw; (try dsimp only at hSw); go_simp; try with_reducible rfl)
  simp only [Act.put]
  refine wpAnyH_take (i := 6) (v := ?_) rfl (by kernel_rfl) (by kernel_rfl) (by kernel_rfl) (fun _ _ _ h => h) (Or.inl ⟨by kernel_rfl, ?_⟩) hHeld ?_
  rotate_left
  focus (intro w hSw; (try dsimp only at hSw); go_simp; try with_reducible rfl)
  simp only [Act.put]
  refine wpAnyH_ready (rs := [7]) (by kernel_rfl) (by simp) ?_
  refine AllReadyH.cons rfl (fun K hK => ?_) (AllReadyH.nil)
  go_simp
  refine (HG.out _ hdr).mono ?_
  rintro e W1 ⟨rfl, hb2⟩
  replace hb2 := below0 hdr hb2
  refine hK.out _ _ (HSS.out _ hb2) (fun hHeld => ?_)
  clear hK K hdr
  try simp only [Act.put]
  refine wpAnyH_ready (rs := [8]) (by kernel_rfl) (by simp) ?_
  refine AllReadyH.cons rfl (fun K hK => ?_) (AllReadyH.nil)
  go_simp
  refine hK.out _ _ (HSS.out _ hb2) (fun hHeld => ?_)
  clear hK K
  try simp only [Act.put]
  refine wpAnyH_done (by kernel_rfl) ?_ _
  clear HSS HG
  go_wp2_with fail
  go_ret
  exact ⟨rfl, hb2⟩
def ownE (l : Pg.Tb) (o m : Int) (a : Nat) (n : Int) : Nat := rE (ownsB o) (fun z => grantB l z o m) a n
set_option maxHeartbeats 1000000 in
theorem owned_any {w : World} {b t q : Nat} {l : Pg.Tb} {p : Pl} {F1 F2 : Nat → Prop} (h : MRep w b t q l p F1 F2) (a : Nat) (n o m : Int) (ha : a < 4294967296) :
    Calls Tryz.prog 70 #[bx b, .agg #[.int .u32 (a : Int), .int .i64 n], .int .i64 o, .int .i64 m] w fun e w' => e = .returned (.int .i64 (ownE l o m a n : Int)) ∧ Below w.heap.size w w' := by
  obtain ⟨W0, hW⟩ : ∃ W0, W0 = boxW w [([bx b], 24), ([.int .u32 (a : Int), .int .i64 n], 123), ([.int .i64 o], 3), ([.int .i64 m], 121)] := ⟨_, rfl⟩
  have hrow := fun k x hk => box_row [([bx b], 24), ([.int .u32 (a : Int), .int .i64 n], 123), ([.int .i64 o], 3), ([.int .i64 m], 121)] w k x hk
  have hbb := box_below [([bx b], 24), ([.int .u32 (a : Int), .int .i64 n], 123), ([.int .i64 o], 3), ([.int .i64 m], 121)] w w (Below.refl _ _)
  rw [← hW] at hrow hbb
  have r0 := hrow 0 _ rfl
  have r1 := hrow 1 _ rfl
  have r2 := hrow 2 _ rfl
  have r3 := hrow 3 _ rfl
  clear hrow
  have HSS := Lib.hid (fun (W : World) (hb : Below W0.heap.size W0 W) => (show W.cell? ⟨w.heap.size, 0, none⟩ = some (bx b) ∧ W.cell? ⟨w.heap.size + 1, 0, none⟩ = some (.int .u32 (a : Int)) ∧ W.cell? ⟨w.heap.size + 1, 1, none⟩ = some (.int .i64 n) ∧ W.cell? ⟨w.heap.size + 1 + 1, 0, none⟩ = some (.int .i64 o) from
    ⟨(r0.below hb).cell 0, (r1.below hb).cell 0, (r1.below hb).cell 1, (r2.below hb).cell 0⟩))
  have HOW := Lib.hid (fun w => owns_any o w)
  have HRC := Lib.hid (fun (W : World) (hb : Below W0.heap.size W0 W) => reached_any b q a n (ownsB o) (fun z => grantB l z o m) 141 #[bx w.heap.size, bx (w.heap.size + 2), bx (w.heap.size + 3)] (h.below (below0 hbb hb)).c1 ha (enters_of Tryz.func141 (by kernel_rfl) rfl)
    (fun z V hz hbV => owned1_any o m z hz (h.below (below0 (below0 hbb hb) hbV)).tab (h.below (below0 (below0 hbb hb) hbV)).c0 ((r0.below (below0 hb hbV)).cell 0) ((r2.below (below0 hb hbV)).cell 0) ((r3.below (below0 hb hbV)).cell 0)))
  have HB := Lib.hid hbb
  unfold ownE
  obtain ⟨E, hE⟩ : ∃ E, E = rE (ownsB o) (fun z => grantB l z o m) a n := ⟨_, rfl⟩
  rw [← hE] at HRC ⊢
  obtain ⟨ob, hob⟩ : ∃ ob, ob = ownsB o := ⟨_, rfl⟩
  rw [← hob] at HRC HOW
  have hW' : W0 = (((w.alloc (.cells #[bx b] 24)).alloc (.cells #[.int .u32 (a : Int), .int .i64 n] 123)).alloc (.cells #[.int .i64 o] 3)).alloc (.cells #[.int .i64 m] 121) := hW
  have HW := Lib.hid hW'
  clear hE hob hW hW' h hbb r0 r1 r2 r3
  go_enter Tryz.func70, Tryz.ntmps70
  go_wp2_with fail
  rw [← HW.out]
  have hdr : Below W0.heap.size W0 W0.drew := (Below.refl _ _).drew
  refine wp_region_held_drew (S := fun W => W.cell? ⟨w.heap.size, 0, none⟩ = some (bx b) ∧ W.cell? ⟨w.heap.size + 1, 0, none⟩ = some (.int .u32 (a : Int)) ∧ W.cell? ⟨w.heap.size + 1, 1, none⟩ = some (.int .i64 n) ∧ W.cell? ⟨w.heap.size + 1 + 1, 0, none⟩ = some (.int .i64 o)) (by kernel_rfl) (HSS.out _ hdr) (fun hHeld => ?_)
  refine wpAnyH_take (i := 0) (v := ?_) rfl (by kernel_rfl) (by kernel_rfl) (by kernel_rfl) (fun _ _ _ h => h) (Or.inl ⟨by kernel_rfl, ?_⟩) hHeld ?_
  rotate_left
  focus (intro w hSw; (try dsimp only at hSw); go_simp; try with_reducible rfl)
  simp only [Act.put]
  refine wpAnyH_take (i := 1) (v := ?_) rfl (by kernel_rfl) (by kernel_rfl) (by kernel_rfl) (fun _ _ _ h => h) (Or.inl ⟨by kernel_rfl, ?_⟩) hHeld ?_
  rotate_left
  focus (intro w hSw; (try dsimp only at hSw); go_simp; try with_reducible rfl)
  simp only [Act.put]
  refine wpAnyH_take (i := 2) (v := ?_) rfl (by kernel_rfl) (by kernel_rfl) (by kernel_rfl) (fun _ _ _ h => h) (Or.inl ⟨by kernel_rfl, ?_⟩) hHeld ?_
  rotate_left
  focus (intro w hSw; (try dsimp only at hSw); go_simp; try with_reducible rfl)
  simp only [Act.put]
  refine wpAnyH_take (i := 4) (v := ?_) rfl (by kernel_rfl) (by kernel_rfl) (by kernel_rfl) (fun _ _ _ h => h) (Or.inl ⟨by kernel_rfl, ?_⟩) hHeld ?_
  rotate_left
  focus (intro w hSw; (try dsimp only at hSw); go_simp; try with_reducible rfl)
  simp only [Act.put]
  refine wpAnyH_ready (rs := [3]) (by kernel_rfl) (by simp) ?_
  refine AllReadyH.cons rfl (fun K hK => ?_) (AllReadyH.nil)
  go_simp
  refine (HOW.out _).mono ?_
  rintro e W1 ⟨rfl, rfl⟩
  refine hK.out _ _ (HSS.out _ hdr) (fun hHeld => ?_)
  clear hK K
  try simp only [Act.put]
  refine wpAnyH_ready (rs := [5]) (by kernel_rfl) (by simp) ?_
  refine AllReadyH.cons rfl (fun K hK => ?_) (AllReadyH.nil)
  go_simp
  refine (HRC.out _ hdr).mono ?_
  rintro e W1 ⟨rfl, hb2⟩
  replace hb2 := below0 hdr hb2
  refine hK.out _ _ (HSS.out _ hb2) (fun hHeld => ?_)
  clear hK K hdr
  try simp only [Act.put]
  refine wpAnyH_ready (rs := [6]) (by kernel_rfl) (by simp) ?_
  refine AllReadyH.cons rfl (fun K hK => ?_) (AllReadyH.nil)
  go_simp
  refine hK.out _ _ (HSS.out _ hb2) (fun hHeld => ?_)
  clear hK K
  try simp only [Act.put]
  refine wpAnyH_done (by kernel_rfl) ?_ _
  have HF := Lib.hid (below0 HB.out hb2)
  clear HSS HRC HOW hb2
  go_wp2_with fail
  go_ret
  exact ⟨rfl, HF.out⟩
end Go.Proofs.YtiahmccchpmdgaaGreatDoor.Vm

namespace Go.Proofs.YtiahmccchpmdgaaGreatDoor.Vm
open Go.RowKit Go.Shelf Go.Maps Go.Sort
attribute [local go_sem] Oper.semAt_some

/- LOAD, STORE, PEEK. -/
set_option maxHeartbeats 1000000 in
theorem handed1_any {w : World} {b t g1 : Nat} {l : Pg.Tb} {F : Nat → Prop} (z : Nat) (hz : z < 65536) (ht : Pg.Has w t l F) (hb0 : w.cell? ⟨b, 0, none⟩ = some (bx t)) (h1 : w.cell? ⟨g1, 0, none⟩ = some (bx b)) :
    Calls Tryz.prog 112 #[.int .i64 (z : Int), bx g1] w fun e w' => e = .returned (.bool (Pg.look l (z : Int)).isSome) ∧ Below w.heap.size w w' := by
  have HG := Lib.hid (mapped_any ht (z : Int) (by unfold Pg.I64; omega))
  obtain ⟨r, hr⟩ : ∃ r, r = (Pg.look l (z : Int)).isSome := ⟨_, rfl⟩
  rw [← hr] at HG ⊢
  clear hr ht
  go_enter Tryz.func112, Tryz.ntmps112
  go_wp2_with fail
  refine (HG.out).mono ?_
  rintro e W1 ⟨rfl, hb2⟩
  go_wp2_with fail
  go_ret
  exact ⟨rfl, hb2⟩
def hndE (l : Pg.Tb) (a : Nat) (n : Int) : Nat := rE true (fun z => (Pg.look l (z : Int)).isSome) a n
set_option maxHeartbeats 1000000 in
theorem handed_any {w : World} {b t q : Nat} {l : Pg.Tb} {p : Pl} {F1 F2 : Nat → Prop} (h : MRep w b t q l p F1 F2) (a : Nat) (n : Int) (ha : a < 4294967296) :
    Calls Tryz.prog 60 #[bx b, .agg #[.int .u32 (a : Int), .int .i64 n]] w fun e w' => e = .returned (.int .i64 (hndE l a n : Int)) ∧ Below w.heap.size w w' := by
  obtain ⟨W0, hW⟩ : ∃ W0, W0 = (w.alloc (.cells #[bx b] 24)).alloc (.cells #[.int .u32 (a : Int), .int .i64 n] 123) := ⟨_, rfl⟩
  have hbb : Below w.heap.size w W0 := by rw [hW]; exact below2 _ _ _
  have r0 : W0.cell? ⟨w.heap.size, 0, none⟩ = some (bx b) := by
    rw [hW]
    exact (World.cell?_alloc_lt _ _ _ (by simp)).trans (cell_alloc_new _ _ _ _)
  have HRC := Lib.hid (reached_any b q a n true (fun z => (Pg.look l (z : Int)).isSome) 112 #[bx w.heap.size] (h.below hbb).c1 ha (enters_of Tryz.func112 (by kernel_rfl) rfl)
    (fun z V hz hbV => handed1_any z hz (h.below (below0 hbb hbV)).tab (h.below (below0 hbb hbV)).c0 ((hbV.cell (p := ⟨w.heap.size, 0, none⟩) (lt_of_cell r0)).trans r0)))
  have HB := Lib.hid hbb
  unfold hndE
  obtain ⟨E, hE⟩ : ∃ E, E = rE true (fun z => (Pg.look l (z : Int)).isSome) a n := ⟨_, rfl⟩
  rw [← hE] at HRC ⊢
  have HW := Lib.hid hW
  clear hE hW h hbb r0
  go_enter Tryz.func60, Tryz.ntmps60
  go_wp2_with fail
  rw [← HW.out]
  refine (HRC.out).mono ?_
  rintro e W1 ⟨rfl, hb2⟩
  have HF := Lib.hid (below0 HB.out hb2)
  clear hb2
  go_wp2_with fail
  go_ret
  exact ⟨rfl, HF.out⟩
/-- what a reading answers -/
def RdA (w : World) (E : Nat) (bs : List UInt8) (e : Ending) (w' : World) : Prop := ∃ A m c, e = .returned (.tuple #[.slice A m c, .int .i64 (E : Int)]) ∧ m = bs.length ∧ w'.ownsRow w.heap.size 5 1 (.slice A m c) m (byt bs) ∧ Below w.heap.size w w'
theorem rE_0 {may : Bool} {f : Nat → Bool} {a : Nat} {n : Int} (h : rE may f a n = 0) : ∃ m : Nat, n = m ∧ 1 ≤ m ∧ a + m ≤ 16777216 ∧ seenB f a m = true := by
  unfold rE at h
  split at h
  · cases h
  · split at h
    · cases h
    · split at h
      · cases h
      · rename_i h1 h2 h3
        have h1 := Classical.not_not.1 h1
        have h2 := Classical.not_not.1 h2
        have h3 := Classical.not_not.1 h3
        simp only [properB, withinB, Bool.and_eq_true, decide_eq_true_eq] at h1 h2
        obtain ⟨m, rfl⟩ : ∃ m : Nat, n = m := ⟨n.toNat, by omega⟩
        exact ⟨m, rfl, by omega, by omega, by simpa using h3⟩
set_option maxHeartbeats 1000000 in
theorem load_any {w : World} {b t q : Nat} {l : Pg.Tb} {p : Pl} {F1 F2 : Nat → Prop} (h : MRep w b t q l p F1 F2) (a : Nat) (n o : Int) (ha : a < 4294967296) :
    Calls Tryz.prog 25 #[bx b, .int .i64 o, .int .u32 (a : Int), .int .i64 n] w (RdA w (ownE l o 1 a n) (if ownE l o 1 a n = 0 then rdB p l a n.toNat else [])) := by
  have hbb := below1 w (.cells #[.int .u32 (a : Int), .int .i64 n] 123)
  have HO := Lib.hid (owned_any (h.below hbb) a n o 1 ha)
  have HB := Lib.hid hbb
  by_cases hE : ownE l o 1 a n = 0
  · rw [if_pos hE]
    obtain ⟨m, rfl, hm1, hm2, _⟩ := rE_0 hE
    rw [hE] at HO ⊢
    rw [Int.toNat_natCast]
    have HR := Lib.hid (fun W (hb : Below (w.alloc (.cells #[.int .u32 (a : Int), .int .i64 (m : Int)] 123)).heap.size (w.alloc (.cells #[.int .u32 (a : Int), .int .i64 (m : Int)] 123)) W) => readM_any ((h.below hbb).below hb) a m hm2)
    have hw0 := lt_of_cell (show (w.alloc (.cells #[.int .u32 (a : Int), .int .i64 (m : Int)] 123)).cell? ⟨w.heap.size, 0, none⟩ = some (.int .u32 (a : Int)) from cell_alloc_new _ _ _ _)
    clear h hbb hE
    go_enter Tryz.func25, Tryz.ntmps25
    go_wp2_with fail
    refine wp_scope_jump 1 fun R hR hJm => ?_
    go_wp2_with fail
    refine (HO.out).mono ?_
    rintro e W1 ⟨rfl, hb1⟩
    have c0 : W1.cell? ⟨w.heap.size, 0, none⟩ = some (.int .u32 (a : Int)) := (hb1.cell (p := ⟨w.heap.size, 0, none⟩) hw0).trans (cell_alloc_new _ _ _ _)
    have c1 : W1.cell? ⟨w.heap.size, 1, none⟩ = some (.int .i64 (m : Int)) := (hb1.cell (p := ⟨w.heap.size, 1, none⟩) hw0).trans (cell_alloc_new _ _ _ _)
    have HR1 := Lib.hid (HR.out _ hb1)
    have HB1 := Lib.hid (below0 HB.out hb1)
    clear hb1 HR
    go_wp2_with fail
    refine (HR1.out).mono ?_
    rintro e W2 ⟨v, rfl, hown, hb2⟩
    obtain ⟨A, c, rfl⟩ := own_slice hown
    have HF := Lib.hid (show RdA w 0 (rdB p l a m) (.returned (.tuple #[.slice A (rdB p l a m).length c, .int .i64 0])) W2 from ⟨A, _, c, rfl, rfl, own_mono hown HB1.out.size, below0 HB1.out hb2⟩)
    clear hown hb2 c0 c1 hw0
    go_wp2_with fail
    refine hR.out _ _ _ _ (by simp) ?_
    go_ret2
    exact HF.out
  · rw [if_neg hE]
    obtain ⟨E, hE2⟩ : ∃ E, E = ownE l o 1 a n := ⟨_, rfl⟩
    rw [← hE2] at HO hE ⊢
    have e0 : (((E : Int)) == 0) = false := by rw [beq_eq_false_iff_ne]; omega
    have e1 : ¬ ((E : Int) = 0) := by omega
    clear h hbb hE hE2
    go_enter Tryz.func25, Tryz.ntmps25
    go_wp2_with fail
    refine wp_scope_jump 1 fun R hR hJm => ?_
    go_wp2_with fail
    refine (HO.out).mono ?_
    rintro e W1 ⟨rfl, hb1⟩
    have HF := Lib.hid (show RdA w E [] (.returned (.tuple #[.slice none 0 0, .int .i64 (E : Int)])) W1 from ⟨none, 0, 0, rfl, rfl, World.ownsRow_nil _ _ _ _, below0 HB.out hb1⟩)
    clear hb1
    go_wp2_with fail
    refine wp_goto (hJm.out _ _ _ _ _ rfl ?_)
    go_wp2_with fail
    refine hR.out _ _ _ _ (by simp) ?_
    go_ret2
    exact HF.out
set_option maxHeartbeats 1000000 in
theorem peek_any {w : World} {b t q : Nat} {l : Pg.Tb} {p : Pl} {F1 F2 : Nat → Prop} (h : MRep w b t q l p F1 F2) (a : Nat) (n : Int) (ha : a < 4294967296) :
    Calls Tryz.prog 94 #[bx b, .int .u32 (a : Int), .int .i64 n] w (RdA w (hndE l a n) (if hndE l a n = 0 then rdB p l a n.toNat else [])) := by
  have hbb := below1 w (.cells #[.int .u32 (a : Int), .int .i64 n] 123)
  have HO := Lib.hid (handed_any (h.below hbb) a n ha)
  have HB := Lib.hid hbb
  by_cases hE : hndE l a n = 0
  · rw [if_pos hE]
    obtain ⟨m, rfl, hm1, hm2, _⟩ := rE_0 hE
    rw [hE] at HO ⊢
    rw [Int.toNat_natCast]
    have HR := Lib.hid (fun W (hb : Below (w.alloc (.cells #[.int .u32 (a : Int), .int .i64 (m : Int)] 123)).heap.size (w.alloc (.cells #[.int .u32 (a : Int), .int .i64 (m : Int)] 123)) W) => readM_any ((h.below hbb).below hb) a m hm2)
    have hw0 := lt_of_cell (show (w.alloc (.cells #[.int .u32 (a : Int), .int .i64 (m : Int)] 123)).cell? ⟨w.heap.size, 0, none⟩ = some (.int .u32 (a : Int)) from cell_alloc_new _ _ _ _)
    clear h hbb hE
    go_enter Tryz.func94, Tryz.ntmps94
    go_wp2_with fail
    refine wp_scope_jump 1 fun R hR hJm => ?_
    go_wp2_with fail
    refine (HO.out).mono ?_
    rintro e W1 ⟨rfl, hb1⟩
    have c0 : W1.cell? ⟨w.heap.size, 0, none⟩ = some (.int .u32 (a : Int)) := (hb1.cell (p := ⟨w.heap.size, 0, none⟩) hw0).trans (cell_alloc_new _ _ _ _)
    have c1 : W1.cell? ⟨w.heap.size, 1, none⟩ = some (.int .i64 (m : Int)) := (hb1.cell (p := ⟨w.heap.size, 1, none⟩) hw0).trans (cell_alloc_new _ _ _ _)
    have HR1 := Lib.hid (HR.out _ hb1)
    have HB1 := Lib.hid (below0 HB.out hb1)
    clear hb1 HR
    go_wp2_with fail
    refine (HR1.out).mono ?_
    rintro e W2 ⟨v, rfl, hown, hb2⟩
    obtain ⟨A, c, rfl⟩ := own_slice hown
    have HF := Lib.hid (show RdA w 0 (rdB p l a m) (.returned (.tuple #[.slice A (rdB p l a m).length c, .int .i64 0])) W2 from ⟨A, _, c, rfl, rfl, own_mono hown HB1.out.size, below0 HB1.out hb2⟩)
    clear hown hb2 c0 c1 hw0
    go_wp2_with fail
    refine hR.out _ _ _ _ (by simp) ?_
    go_ret2
    exact HF.out
  · rw [if_neg hE]
    obtain ⟨E, hE2⟩ : ∃ E, E = hndE l a n := ⟨_, rfl⟩
    rw [← hE2] at HO hE ⊢
    have e0 : (((E : Int)) == 0) = false := by rw [beq_eq_false_iff_ne]; omega
    have e1 : ¬ ((E : Int) = 0) := by omega
    clear h hbb hE hE2
    go_enter Tryz.func94, Tryz.ntmps94
    go_wp2_with fail
    refine wp_scope_jump 1 fun R hR hJm => ?_
    go_wp2_with fail
    refine (HO.out).mono ?_
    rintro e W1 ⟨rfl, hb1⟩
    have HF := Lib.hid (show RdA w E [] (.returned (.tuple #[.slice none 0 0, .int .i64 (E : Int)])) W1 from ⟨none, 0, 0, rfl, rfl, World.ownsRow_nil _ _ _ _, below0 HB.out hb1⟩)
    clear hb1
    go_wp2_with fail
    refine wp_goto (hJm.out _ _ _ _ _ rfl ?_)
    go_wp2_with fail
    refine hR.out _ _ _ _ (by simp) ?_
    go_ret2
    exact HF.out
end Go.Proofs.YtiahmccchpmdgaaGreatDoor.Vm

namespace Go.Proofs.YtiahmccchpmdgaaGreatDoor.Vm
open Go.RowKit Go.Shelf Go.Maps Go.Sort
attribute [local go_sem] Oper.semAt_some

/- WHAT TURNS A MEMORY. -/

section
variable {w V V' : World} {b : Nat} {p : Pl} {F : Nat → Prop}
theorem reserveN (h : Has w b p F) (o m : Int) (hm : m ≤ 9223372036854775807) : Calls Tryz.prog 75 #[bx b, .int .i64 o, .int .i64 m] w fun e w' => e = .returned (.int .i64 (reserveE p o m : Int)) ∧ Next w b (reserveP p o m) F w' := by
  by_cases hE : reserveE p o m = 0
  · have hob : 0 ≤ o ∧ 0 ≤ m := by
      unfold reserveE at hE
      split at hE
      · cases hE
      next h4 =>
        have h5 := Classical.not_not.1 h4
        simp only [ownerB, Bool.and_eq_true, decide_eq_true_eq] at h5
        exact ⟨h5.1.1, h5.2⟩
    obtain ⟨x, rfl⟩ : ∃ x : Nat, o = x := ⟨o.toNat, by omega⟩
    obtain ⟨y, rfl⟩ : ∃ y : Nat, m = y := ⟨m.toNat, by omega⟩
    rw [hE]
    exact reserve_yes h x y (by omega) hE
  · exact reserve_no h o m hm hE
theorem takeN (h : Has w b p F) (o : Int) : Calls Tryz.prog 109 #[bx b, .int .i64 o] w fun e w' => e = .returned (.tuple #[.int .i64 (takeI p o : Int), .int .i64 (takeE p o : Int)]) ∧ Next w b (takeP p o) F w' := by
  by_cases hE : takeE p o = 0
  · obtain ⟨g1, _⟩ := takeE_left h.ok hE
    obtain ⟨x, rfl⟩ : ∃ x : Nat, o = x := ⟨o.toNat, by omega⟩
    rw [hE]
    exact take_yes h x hE
  · exact take_no h o hE
theorem giveN (h : Has w b p F) (i : Int) (hi : i ≤ 9223372036854775807) : Calls Tryz.prog 165 #[bx b, .int .i64 i] w fun e w' => e = .returned (.int .i64 (giveE p i : Int)) ∧ Next w b (giveP p i) F w' := by
  by_cases hE : giveE p i = 0
  · obtain ⟨g1, _⟩ := giveE_some hE
    obtain ⟨x, rfl⟩ : ∃ x : Nat, i = x := ⟨i.toNat, by omega⟩
    rw [hE]
    exact give_yes h x (by omega) hE
  · exact give_no h i hi hE
end
/-- behind a call -/
def MNext (w : World) (b t q : Nat) (l : Pg.Tb) (p : Pl) (F1 F2 : Nat → Prop) (w' : World) : Prop := ∃ F3, MRep w' b t q l p F1 F3 ∧ (∀ k, F3 k → F2 k ∨ w.heap.size ≤ k) ∧ Keep (fun k => F1 k ∨ F2 k) w w'
section
variable {w w0 w' : World} {b t q : Nat} {l l' : Pg.Tb} {p p' : Pl} {F1 F2 : Nat → Prop}
theorem MNext.same (h : MRep w b t q l p F1 F2) (hb : Below w.heap.size w w') : MNext w b t q l p F1 F2 w' := ⟨F2, h.below hb, fun _ h => .inl h, Keep.of_below hb⟩
/-- the pool turned -/
theorem MNext.pool (h : MRep w b t q l p F1 F2) (hb : Below w.heap.size w w0) (hn : Next w0 q p' F2 w') : MNext w b t q l p' F1 F2 w' := by
  obtain ⟨F3, h1, h2, h3⟩ := hn
  have hs := hb.size
  have hk : ∀ k, k < w.heap.size → ¬ F2 k → w'.heap[k]? = w.heap[k]? := fun k h4 h5 => (h2.block k (by omega) h5).trans (hb.block k h4)
  refine ⟨F3, ⟨h.obj.same (hk b (h.lt b (.inl rfl)) h.b2), h.tab.keep fun k hf => hk k (h.tab.lt k hf) (h.apart k hf), h1, fun k h4 h5 => ?_, h.b1, fun h4 => ?_⟩, fun k h4 => (h3 k h4).imp id (fun h => by omega), ((Keep.of_below (F := fun k => F1 k ∨ F2 k) hb).trans h2 fun _ _ h => .inr h)⟩
  · rcases h3 k h5 with h6 | h6
    · exact h.apart k h4 h6
    · have := h.tab.lt k h4; omega
  · rcases h3 b h4 with h6 | h6
    · exact h.b2 h6
    · have := h.lt b (.inl rfl); omega
/-- the table turned -/
theorem MNext.tab (h : MRep w b t q l p F1 F2) (hb : Below w.heap.size w w0) (hn : Pg.Next w0 t l' F1 w') : MNext w b t q l' p F1 F2 w' := by
  obtain ⟨h1, h2⟩ := hn
  have hs := hb.size
  have hk : ∀ k, k < w.heap.size → ¬ F1 k → w'.heap[k]? = w.heap[k]? := fun k h4 h5 => (h2.block k (by omega) h5).trans (hb.block k h4)
  exact ⟨F2, ⟨h.obj.same (hk b (h.lt b (.inl rfl)) h.b1), h1, h.pool.keep fun k hf => hk k (h.pool.lt k hf) (fun hf1 => h.apart k hf1 hf), h.apart, h.b1, h.b2⟩, fun _ h => .inl h, (Keep.of_below (F := fun k => F1 k ∨ F2 k) hb).trans h2 fun _ _ h => .inl h⟩
theorem MNext.trans {F3 : Nat → Prop} (h3 : ∀ k, F3 k → F2 k ∨ w.heap.size ≤ k) (hk : Keep (fun k => F1 k ∨ F2 k) w w0) (hn : MNext w0 b t q l' p' F1 F3 w') : MNext w b t q l' p' F1 F2 w' := by
  obtain ⟨F4, h4, h5, h6⟩ := hn
  have hs := hk.size
  refine ⟨F4, h4, fun k hf => ?_, hk.trans h6 fun k hlt hf => hf.imp id fun hf => (h3 k hf).elim id (fun h => by omega)⟩
  rcases h5 k hf with h7 | h7
  · exact h3 k h7
  · exact .inr (by omega)
end
set_option maxHeartbeats 1000000 in
theorem new_any (n : Nat) (w : World) (hn : n ≤ 16384) : Calls Tryz.prog 27 #[.int .i64 (n : Int)] w fun e w' => ∃ b t q F1 F2, e = .returned (.tuple #[bx b, .int .i64 0]) ∧ MRep w' b t q [] (newP n) F1 F2 ∧ (∀ k, k = b ∨ F1 k ∨ F2 k → w.heap.size ≤ k) ∧ Below w.heap.size w w' := by
  have h1 := Lib.hid (new_yes n w hn)
  have h2 := Lib.hid (fun w => Pg.new_any w)
  clear hn
  go_enter Tryz.func27, Tryz.ntmps27
  go_wp2_with fail
  refine wp_scope_jump 1 fun R hR hJm => ?_
  go_wp2_with fail
  refine (h1.out).mono ?_
  rintro e w1 ⟨q, F2, rfl, hh2, hf2, hb1⟩
  have H2 := Lib.hid (And.intro hh2 (And.intro hf2 hb1))
  clear hh2 hf2 hb1
  go_wp2_with fail
  refine (h2.out _).mono ?_
  rintro e w2 ⟨t, F1, rfl, hh1, hf1, hb2⟩
  have HF := Lib.hid (show ∃ F1 F2, MRep (w2.alloc (.cells #[bx t, bx q] 158)) w2.heap.size t q [] (newP n) F1 F2 ∧ (∀ k, k = w2.heap.size ∨ F1 k ∨ F2 k → w.heap.size ≤ k) ∧ Below w.heap.size w (w2.alloc (.cells #[bx t, bx q] 158)) from by
    obtain ⟨hh2, hf2, hb1⟩ := H2.out
    have hba := below1 w2 (.cells #[bx t, bx q] 158)
    have hl1 := hh1.lt
    have hl2 := hh2.lt
    have hs1 := hb1.size
    have hs2 := hb2.size
    refine ⟨F1, F2, ⟨Row.new w2 158 [bx t, bx q], hh1.below hba, (hh2.below hb2).below hba, fun k h4 h5 => ?_, fun h => ?_, fun h => ?_⟩, ?_, below0 (below0 hb1 hb2) hba⟩
    · have := hf1 k h4
      have := hl2 k h5
      omega
    · have := hl1 _ h; omega
    · have := hl2 _ h; omega
    · rintro k (rfl | h | h)
      · omega
      · have := hf1 k h; omega
      · exact hf2 k h)
  clear hh1 hf1 hb2 H2
  go_wp2_with fail
  refine hR.out _ _ _ _ (by simp) ?_
  go_ret2
  obtain ⟨F8, F9, h9⟩ := HF.out
  exact ⟨_, t, q, F8, F9, rfl, h9⟩
theorem reserve_any {w : World} {b t q : Nat} {l : Pg.Tb} {p : Pl} {F1 F2 : Nat → Prop} (h : MRep w b t q l p F1 F2) (o m : Int) (hm : m ≤ 9223372036854775807) : Calls Tryz.prog 28 #[bx b, .int .i64 o, .int .i64 m] w fun e w' => e = .returned (.int .i64 (reserveE p o m : Int)) ∧ MNext w b t q l (reserveP p o m) F1 F2 w' := by
  have h1 := Lib.hid (frames_any b q w h.c1)
  have h2 := Lib.hid ((reserveN h.pool o m hm).mono fun e w' ⟨e1, e2⟩ => (show e = Ending.returned (.int .i64 (reserveE p o m : Int)) ∧ MNext w b t q l (reserveP p o m) F1 F2 w' from ⟨e1, MNext.pool h (Below.refl _ _) e2⟩))
  obtain ⟨E, hE⟩ : ∃ E, E = reserveE p o m := ⟨_, rfl⟩
  rw [← hE] at h2 ⊢
  clear hE h
  go_enter Tryz.func28, Tryz.ntmps28
  go_wp2_with fail
  refine (h1.out).mono ?_
  rintro e w1 ⟨rfl, rfl⟩
  go_wp2_with fail
  refine (h2.out).mono ?_
  rintro e w1 ⟨rfl, hn⟩
  have HN := Lib.hid hn
  clear hn
  go_wp2_with fail
  go_ret
  exact ⟨rfl, HN.out⟩
end Go.Proofs.YtiahmccchpmdgaaGreatDoor.Vm
