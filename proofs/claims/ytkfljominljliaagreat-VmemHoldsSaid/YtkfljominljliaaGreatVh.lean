import Derived.Test.YtkfljominljliaaGreatVg
namespace Go.Proofs.YtkfljominljliaaGreat.Vm
open Go.RowKit Go.Shelf Go.Maps Go.Sort
attribute [local go_sem] Oper.semAt_some

/- WHAT IS WRITTEN, PART BY PART. -/

def sumL (pre : List Part) : Nat := (pre.map fun x => x.2.2).sum
theorem sumL_snoc (pre : List Part) (x : Part) : sumL (pre ++ [x]) = sumL pre + x.2.2 := by simp [sumL]
set_option maxRecDepth 100000 in
theorem pts_sum : ∀ (n a : Nat), sumL (pts a n) = n := by
  intro n
  induction n using Nat.strongRecOn with
  | _ n ih =>
    intro a
    rcases Nat.eq_zero_or_pos n with rfl | hn
    · rw [pts_zero]; rfl
    · have hm : a % 256 < 256 := Nat.mod_lt _ (by decide)
      obtain ⟨k, hk⟩ : ∃ k, k = min n (256 - a % 256) := ⟨_, rfl⟩
      have h2 := ih (n - k) (by omega) (a + k)
      rw [pts_pos hn, ← hk]
      show k + sumL (pts (a + k) (n - k)) = n
      rw [h2]
      omega
/-- bytes, part by part -/
def wr (p : Pl) (l : Pg.Tb) : List Part → List UInt8 → Pl
  | [], _ => p
  | x :: r, bs => wr (writeP p (Pg.getX l (x.1 : Int)).2.2 (x.2.1 : Int) (bs.take x.2.2)) l r (bs.drop x.2.2)
theorem wr_snoc (l : Pg.Tb) (x : Part) : ∀ (pre : List Part) (p : Pl) (bs : List UInt8), wr p l (pre ++ [x]) bs = writeP (wr p l pre bs) (Pg.getX l (x.1 : Int)).2.2 (x.2.1 : Int) ((bs.drop (sumL pre)).take x.2.2)
  | [], p, bs => by simp [wr, sumL]
  | y :: r, p, bs => by
    rw [List.cons_append, wr, wr_snoc l x r, List.drop_drop]
    rfl
theorem add_add (a : Addr) (f j : Nat) : (a.add f).add j = a.add (f + j) := by
  unfold Addr.add
  by_cases hf : f = 0
  · subst hf
    simp
  · by_cases hj : j = 0
    · subst hj
      simp [hf]
    · rw [if_neg hf, if_neg hj, if_neg (by omega)]
      simp only [Addr.mk.injEq, and_true, true_and]
      omega
theorem sees_drop {w : World} {B : Nat} {ad : Addr} {xs : List Value} (h : Sees w B (some ad) xs) (f : Nat) : Sees w B (some (ad.add f)) (xs.drop f) := fun hn => by
  have hne : xs ≠ [] := by rintro rfl; simp at hn
  obtain ⟨a, e, hb, hc⟩ := h hne
  injection e with e
  subst e
  refine ⟨_, rfl, by rw [add_block]; exact hb, fun j u hu => ?_⟩
  rw [List.getElem?_drop] at hu
  rw [add_add]
  exact hc (f + j) u hu
theorem Sees.keep_ {w w' : World} {B : Nat} {ad : Addr} {xs : List Value} (h : Sees w B (some ad) xs) (hk : xs ≠ [] → w'.heap[ad.block]? = w.heap[ad.block]?) : Sees w' B (some ad) xs := fun hn => by
  obtain ⟨a, e, hb, hc⟩ := h hn
  injection e with e
  subst e
  refine ⟨_, rfl, hb, fun j u hu => (World.cell?_of_block ?_).trans (hc j u hu)⟩
  rw [add_block]
  exact hk hn
structure WrRel (w : World) (gm b t q : Nat) (l : Pg.Tb) (p : Pl) (bs : List UInt8) (F1 F2 : Nat → Prop) (pre : List Part) (s : Sl3) (O : Nat → Prop) (V : World) : Prop where
  size : w.heap.size ≤ V.heap.size
  box : V.cell? ⟨gm, 0, none⟩ = some (bx b)
  mem : ∃ F2', MRep V b t q l (wr p l pre bs) F1 F2' ∧ ∀ k, F2' k → F2 k ∨ O k
  many : s.2.1 = (bs.drop (sumL pre)).length
  cap : s.2.1 ≤ s.2.2
  sees : Sees V w.heap.size s.1 (byt (bs.drop (sumL pre)))
  src : ∀ a, s.1 = some a → bs.drop (sumL pre) ≠ [] → a.block < w.heap.size ∧ ¬ F1 a.block ∧ ¬ F2 a.block ∧ a.block ≠ b
theorem byt_drop (l : List UInt8) (k : Nat) : byt (l.drop k) = (byt l).drop k := by simp [byt]
theorem byt_take (l : List UInt8) (k : Nat) : byt (l.take k) = (byt l).take k := by simp [byt]
set_option maxRecDepth 100000 in
set_option maxHeartbeats 2000000 in
theorem write1_any {w V : World} {gm b t q : Nat} {l : Pg.Tb} {p : Pl} {bs : List UInt8} {F1 F2 O : Nat → Prop} {pre : List Part} {s : Sl3} (h0 : MRep w b t q l p F1 F2) (hg : gm < w.heap.size) (hgF : gm ≠ b ∧ ¬ F1 gm ∧ ¬ F2 gm) (hO : ∀ k, O k → w.heap.size ≤ k ∧ k < V.heap.size) (h : WrRel w gm b t q l p bs F1 F2 pre s O V) (x : Part) (hx : x.1 < 65536) (hx2 : x.2.1 < 256) (hx3 : 0 < x.2.2) (hx4 : x.2.2 ≤ 256) (hx5 : sumL pre + x.2.2 ≤ bs.length) :
    Calls Tryz.prog 78 (#[slV s, enc3 x] ++ #[bx gm]) V fun e V' => ∃ v', e = .returned (slV v') ∧ V.heap.size ≤ V'.heap.size ∧ WrRel w gm b t q l p bs F1 F2 (pre ++ [x]) v' (fun k => O k ∨ (V.heap.size ≤ k ∧ k < V'.heap.size)) V' ∧ Keep (fun k => F2 k ∨ O k) V V' := by
  obtain ⟨sA, sm, sc⟩ := s
  obtain ⟨hsz, hbox, ⟨F2', hmem, hF2⟩, hmany, hcap, hsees, hsrc⟩ := h
  simp only at hmany hcap hsees hsrc
  have hne : bs.drop (sumL pre) ≠ [] := by
    intro e
    have := congrArg List.length e
    rw [List.length_drop, List.length_nil] at this
    omega
  obtain ⟨ad, rfl, _, _⟩ := hsees (by simpa [byt] using hne)
  obtain ⟨pg, pl, k⟩ := x
  simp only at hx hx2 hx3 hx4 hx5
  have hwr := wr_snoc l (pg, pl, k) pre p bs
  have hsn := sumL_snoc pre (pg, pl, k)
  simp only at hwr hsn
  obtain ⟨off, hoff⟩ : ∃ off, off = sumL pre := ⟨_, rfl⟩
  obtain ⟨rs, hrs⟩ : ∃ rs, rs = bs.drop (sumL pre) := ⟨_, rfl⟩
  have hlr : rs.length = bs.length - off := by rw [hrs, List.length_drop, hoff]
  rw [← hrs] at hmany hsees hsrc hne hwr
  obtain ⟨p1, hp1⟩ : ∃ p1, p1 = wr p l pre bs := ⟨_, rfl⟩
  rw [← hp1] at hmem hwr
  obtain ⟨V1, hV1⟩ : ∃ V1, V1 = V.alloc (.cells #[.int .i64 (pg : Int), .int .i64 (pl : Int), .int .i64 (k : Int)] 111) := ⟨_, rfl⟩
  have hb1 : Below V.heap.size V V1 := by rw [hV1]; exact below1 _ _
  have hz1' : V1.heap.size = V.heap.size + 1 := by rw [hV1]; simp
  have hrow : Row V1 V.heap.size 111 [.int .i64 (pg : Int), .int .i64 (pl : Int), .int .i64 (k : Int)] := by rw [hV1]; exact Row.new V 111 [.int .i64 (pg : Int), .int .i64 (pl : Int), .int .i64 (k : Int)]
  have HSS := Lib.hid (fun (W : World) (hb : Below V1.heap.size V1 W) => (show W.cell? ⟨gm, 0, none⟩ = some (bx b) ∧ W.cell? ⟨b, 0, none⟩ = some (bx t) ∧ W.cell? ⟨b, 1, none⟩ = some (bx q) ∧ W.cell? ⟨V.heap.size, 0, none⟩ = some (.int .i64 (pg : Int)) ∧ W.cell? ⟨V.heap.size, 1, none⟩ = some (.int .i64 (pl : Int)) ∧ W.cell? ⟨V.heap.size, 2, none⟩ = some (.int .i64 (k : Int)) from
    ⟨((below0 hb1 hb).cell (p := ⟨gm, 0, none⟩) (by show gm < _; omega)).trans hbox, (hmem.below (below0 hb1 hb)).c0, (hmem.below (below0 hb1 hb)).c1, (hrow.below hb).cell 0, (hrow.below hb).cell 1, (hrow.below hb).cell 2⟩))
  have HFR := Lib.hid (fun (W : World) (hb : Below V1.heap.size V1 W) => framed_any (hmem.below (below0 hb1 hb)).tab (pg : Int) (by unfold Pg.I64; omega))
  have hfi := getX_i64 hmem.tab.ok (pg : Int)
  unfold Pg.I64 at hfi
  have htk : (rs.take k).length = k := by rw [List.length_take]; omega
  have HWR := Lib.hid (fun (W : World) (hb : Below V1.heap.size V1 W) => write_any (hmem.below (below0 hb1 hb)).pool (Pg.getX l (pg : Int)).2.2 (pl : Int) hfi.2 (by omega) (some ad) k sc (rs.take k) htk (by
    rw [byt_take]
    exact ((hsees.keep fun p hp => (below0 hb1 hb).cell (by omega)).take k).more (by have := (below0 hb1 hb).size; omega)))
  obtain ⟨f, hf⟩ : ∃ f, f = (Pg.getX l (pg : Int)).2.2 := ⟨_, rfl⟩
  rw [← hf] at HFR HWR hwr
  rw [htk] at HWR
  obtain ⟨E, hE⟩ : ∃ E, E = reachE p1 f (pl : Int) ((k : Nat) : Int) := ⟨_, rfl⟩
  rw [← hE] at HWR
  have HF := Lib.hid (And.intro hmem (And.intro hF2 (And.intro hbox (And.intro hsees hsrc))))
  have HO := Lib.hid hO
  have HW := Lib.hid hwr
  have HSN := Lib.hid hsn
  have HRS := Lib.hid hrs
  have HB1 := Lib.hid (And.intro hb1 (And.intro hz1' hsz))
  have HM0 := Lib.hid (And.intro h0 (And.intro hg hgF))
  have HL := Lib.hid (And.intro hlr (And.intro hoff (And.intro hx5 hmany)))
  have j0 : (0 : Int) ≤ (k : Int) := by omega
  have j1 : (k : Int) ≤ (sc : Int) := by omega
  have j2 : k ≤ sc := by omega
  have j3 : (k : Int) ≤ (sm : Int) := by omega
  have j4 : k ≤ sm := by omega
  have j5 : sm ≤ sc := hcap
  have j6 : (sm : Int) ≤ (sc : Int) := by omega
  show Calls _ _ #[.slice (some ad) sm sc, .agg #[.int .i64 (pg : Int), .int .i64 (pl : Int), .int .i64 (k : Int)], bx gm] _ _
  clear hfi htk hf hE hmem hF2 hbox hsees hsrc hO hwr hsn hrs hb1 hz1' hsz h0 hg hgF hrow hx hx2 hx3 hx4 hx5 hne hlr hoff hmany hcap hp1
  go_enter Tryz.func78, Tryz.ntmps78
  go_wp2_with fail
  rw [← hV1]
  clear hV1
  have hdr : Below V1.heap.size V1 V1.drew := (Below.refl _ _).drew
  refine wp_region_held_drew (S := fun W => W.cell? ⟨gm, 0, none⟩ = some (bx b) ∧ W.cell? ⟨b, 0, none⟩ = some (bx t) ∧ W.cell? ⟨b, 1, none⟩ = some (bx q) ∧ W.cell? ⟨V.heap.size, 0, none⟩ = some (.int .i64 (pg : Int)) ∧ W.cell? ⟨V.heap.size, 1, none⟩ = some (.int .i64 (pl : Int)) ∧ W.cell? ⟨V.heap.size, 2, none⟩ = some (.int .i64 (k : Int))) (by kernel_rfl) (HSS.out _ hdr) (fun hHeld => ?_)
  refine wpAnyH_take (i := 0) (v := ?_) rfl (by kernel_rfl) (by kernel_rfl) (by kernel_rfl) (fun _ _ _ h => h) (Or.inl ⟨by kernel_rfl, ?_⟩) hHeld ?_
  rotate_left
  focus (intro w hSw; (try dsimp only at hSw); go_simp; try with_reducible rfl)
  simp only [Act.put]
  refine wpAnyH_take (i := 1) (v := ?_) rfl (by kernel_rfl) (by kernel_rfl) (by kernel_rfl) (fun _ _ _ h => h) (Or.inl ⟨by kernel_rfl, ?_⟩) hHeld ?_
  rotate_left
  focus (intro w hSw; (try dsimp only at hSw); go_simp; try with_reducible rfl)
  simp only [Act.put]
  refine wpAnyH_take (i := 2) (v := ?_) rfl (by kernel_rfl) (by kernel_rfl) (by kernel_rfl) (fun _ _ _ h => h) (Or.inl ⟨by kernel_rfl, ?_⟩) hHeld ?_
  rotate_left
  focus (intro w hSw; (try dsimp only at hSw); go_simp; try with_reducible rfl)
  simp only [Act.put]
  refine wpAnyH_take (i := 3) (v := ?_) rfl (by kernel_rfl) (by kernel_rfl) (by kernel_rfl) (fun _ _ _ h => h) (Or.inl ⟨by kernel_rfl, ?_⟩) hHeld ?_
  rotate_left
  focus (intro w hSw; (try dsimp only at hSw); go_simp; try with_reducible rfl)
  simp only [Act.put]
  refine wpAnyH_take (i := 4) (v := ?_) rfl (by kernel_rfl) (by kernel_rfl) (by kernel_rfl) (fun _ _ _ h => h) (Or.inl ⟨by kernel_rfl, ?_⟩) hHeld ?_
  rotate_left
  focus (intro w hSw; (try dsimp only at hSw); go_simp; try with_reducible rfl)
  simp only [Act.put]
  refine wpAnyH_take (i := 5) (v := ?_) rfl (by kernel_rfl) (by kernel_rfl) (by kernel_rfl) (fun _ _ _ h => h) (Or.inl ⟨by kernel_rfl, ?_⟩) hHeld ?_
  rotate_left
  focus (intro w hSw; (try dsimp only at hSw); go_simp; try with_reducible rfl)
  simp only [Act.put]
  refine wpAnyH_take (i := 6) (v := ?_) rfl (by kernel_rfl) (by kernel_rfl) (by kernel_rfl) (fun _ _ _ h => h) (Or.inl ⟨by kernel_rfl, ?_⟩) hHeld ?_
  rotate_left
  focus (intro w hSw; (try dsimp only at hSw); go_simp; try with_reducible rfl)
  simp only [Act.put]
  refine wpAnyH_take (i := 7) (v := ?_) rfl (by kernel_rfl) (by kernel_rfl) (by kernel_rfl) (fun _ _ _ h => h) (Or.inl ⟨by kernel_rfl, ?_⟩) hHeld ?_
  rotate_left
  focus (intro w hSw; (try dsimp only at hSw); go_simp; try with_reducible rfl)
  simp only [Act.put]
  refine wpAnyH_take (i := 8) (v := ?_) rfl (by kernel_rfl) (by kernel_rfl) (by kernel_rfl) (fun _ _ _ h => h) (Or.inl ⟨by kernel_rfl, ?_⟩) hHeld ?_
  rotate_left
  focus (intro w hSw; (try dsimp only at hSw); go_simp; try with_reducible rfl)
  simp only [Act.put]
  refine wpAnyH_take (i := 9) (v := ?_) rfl (by kernel_rfl) (by kernel_rfl) (by kernel_rfl) (fun _ _ _ h => h) (Or.inl ⟨by kernel_rfl, ?_⟩) hHeld ?_
  rotate_left
  focus (intro w hSw; (try dsimp only at hSw); go_simp; try with_reducible rfl)
  simp only [Act.put]
  refine wpAnyH_take (i := 11) (v := ?_) rfl (by kernel_rfl) (by kernel_rfl) (by kernel_rfl) (fun _ _ _ h => h) (Or.inl ⟨by kernel_rfl, ?_⟩) hHeld ?_
  rotate_left
  focus (intro w hSw; (try dsimp only at hSw); go_simp; try with_reducible rfl)
  simp only [Act.put]
  refine wpAnyH_take (i := 12) (v := ?_) rfl (by kernel_rfl) (by kernel_rfl) (by kernel_rfl) (fun _ _ _ h => h) (Or.inl ⟨by kernel_rfl, ?_⟩) hHeld ?_
  rotate_left
  focus (intro w hSw; (try dsimp only at hSw); go_simp; try with_reducible rfl)
  simp only [Act.put]
  refine wpAnyH_take (i := 13) (v := ?_) rfl (by kernel_rfl) (by kernel_rfl) (by kernel_rfl) (fun _ _ _ h => h) (Or.inl ⟨by kernel_rfl, ?_⟩) hHeld ?_
  rotate_left
  focus (intro w hSw; (try dsimp only at hSw); go_simp; try with_reducible rfl)
  simp only [Act.put]
  refine wpAnyH_take (i := 14) (v := ?_) rfl (by kernel_rfl) (by kernel_rfl) (by kernel_rfl) (fun _ _ _ h => h) (Or.inl ⟨by kernel_rfl, ?_⟩) hHeld ?_
  rotate_left
  focus (intro w hSw; (try dsimp only at hSw); go_simp; try with_reducible rfl)
  simp only [Act.put]
  refine wpAnyH_take (i := 15) (v := ?_) rfl (by kernel_rfl) (by kernel_rfl) (by kernel_rfl) (fun _ _ _ h => h) (Or.inl ⟨by kernel_rfl, ?_⟩) hHeld ?_
  rotate_left
  focus (intro w hSw; (try dsimp only at hSw); go_simp; try with_reducible rfl)
  simp only [Act.put]
  refine wpAnyH_take (i := 16) (v := ?_) rfl (by kernel_rfl) (by kernel_rfl) (by kernel_rfl) (fun _ _ _ h => h) (Or.inl ⟨by kernel_rfl, ?_⟩) hHeld ?_
  rotate_left
  focus (intro w hSw; (try dsimp only at hSw); go_simp; try with_reducible rfl)
  simp only [Act.put]
  refine wpAnyH_ready (rs := [10]) (by kernel_rfl) (by simp) ?_
  refine AllReadyH.cons rfl (fun K hK => ?_) (AllReadyH.nil)
  go_simp
  refine (HFR.out _ hdr).mono ?_
  rintro e W1 ⟨rfl, hb2⟩
  replace hb2 := below0 hdr hb2
  refine hK.out _ _ (HSS.out _ hb2) (fun hHeld => ?_)
  clear hK K hdr
  try simp only [Act.put]
  refine wpAnyH_ready (rs := [17]) (by kernel_rfl) (by simp) ?_
  refine AllReadyH.cons rfl (fun K hK => ?_) (AllReadyH.nil)
  go_simp
  refine (HWR.out _ hb2).mono ?_
  rintro e W2 ⟨rfl, F3, hhas, hkeep, hF3⟩
  have HS2 : W2.cell? ⟨gm, 0, none⟩ = some (bx b) ∧ W2.cell? ⟨b, 0, none⟩ = some (bx t) ∧ W2.cell? ⟨b, 1, none⟩ = some (bx q) ∧ W2.cell? ⟨V.heap.size, 0, none⟩ = some (.int .i64 (pg : Int)) ∧ W2.cell? ⟨V.heap.size, 1, none⟩ = some (.int .i64 (pl : Int)) ∧ W2.cell? ⟨V.heap.size, 2, none⟩ = some (.int .i64 (k : Int)) := by
    obtain ⟨s1, s2, s3, s4, s5, s6⟩ := HSS.out _ hb2
    obtain ⟨hmem, hF2, _⟩ := HF.out
    obtain ⟨h0, hg, hgF⟩ := HM0.out
    have hvs : ¬ F2' V.heap.size := fun hf => by have := hmem.pool.lt _ hf; omega
    have n1 : ¬ F2' gm := fun hf => (hF2 _ hf).elim hgF.2.2 (fun ho => by have := HO.out _ ho; omega)
    have n2 : ¬ F2' b := hmem.b2
    have l0 := hb2.size
    have l1 := HB1.out.2.1
    have l2 := HB1.out.2.2
    have l3 := h0.lt b (.inl rfl)
    exact ⟨(hkeep.cell (p := ⟨gm, 0, none⟩) (by show gm < _; omega) n1).trans s1, (hkeep.cell (p := ⟨b, 0, none⟩) (by show b < _; omega) n2).trans s2, (hkeep.cell (p := ⟨b, 1, none⟩) (by show b < _; omega) n2).trans s3, (hkeep.cell (p := ⟨V.heap.size, 0, none⟩) (by show V.heap.size < _; omega) hvs).trans s4, (hkeep.cell (p := ⟨V.heap.size, 1, none⟩) (by show V.heap.size < _; omega) hvs).trans s5, (hkeep.cell (p := ⟨V.heap.size, 2, none⟩) (by show V.heap.size < _; omega) hvs).trans s6⟩
  refine hK.out _ _ HS2 (fun hHeld => ?_)
  clear hK K
  try simp only [Act.put]
  refine wpAnyH_done (by kernel_rfl) ?_ _
  have c5 := HS2.2.2.2.2.2
  have HFIN := Lib.hid (fun (A9 : Option Addr) (c9 : Nat) (hA9 : A9 = some (ad.add k) ∨ sm - k = 0) (hc9 : sm - k ≤ c9) => show V.heap.size ≤ W2.heap.size ∧ WrRel w gm b t q l p bs F1 F2 (pre ++ [(pg, pl, k)]) (A9, sm - k, c9) (fun kk => O kk ∨ (V.heap.size ≤ kk ∧ kk < W2.heap.size)) W2 ∧ Keep (fun kk => F2 kk ∨ O kk) V W2 from by
    obtain ⟨hmem, hF2, hbox, hsees, hsrc⟩ := HF.out
    obtain ⟨h0, hg, hgF⟩ := HM0.out
    obtain ⟨hb1, hz1', hsz⟩ := HB1.out
    obtain ⟨hlr, hoff, hx5, hmany⟩ := HL.out
    have hbV := below0 hb1 hb2
    have hs1 := hbV.size
    have hs2 := hkeep.size
    have hk : ∀ kk, kk < V.heap.size → ¬ F2' kk → W2.heap[kk]? = V.heap[kk]? := fun kk h1 h2 => (hkeep.block kk (by omega) h2).trans (hbV.block kk h1)
    have n1 : ¬ F2' gm := fun hf => (hF2 _ hf).elim hgF.2.2 (fun ho => by have := HO.out _ ho; omega)
    have hF1 : ∀ kk, F1 kk → ¬ F2' kk := hmem.apart
    have hdr : bs.drop (sumL (pre ++ [(pg, pl, k)])) = rs.drop k := by rw [HSN.out, HRS.out, List.drop_drop]
    refine ⟨by omega, ⟨by omega, (World.cell?_of_block (hk gm (by omega) n1)).trans hbox, ⟨F3, ⟨?_, ?_, by rw [HW.out]; exact hhas, ?_, hmem.b1, ?_⟩, ?_⟩, ?_, ?_, ?_, ?_⟩, ?_⟩
    · exact hmem.obj.same (hk b (hmem.lt b (.inl rfl)) hmem.b2)
    · exact hmem.tab.keep fun kk hf => hk kk (hmem.tab.lt kk hf) (hF1 kk hf)
    · intro kk h1 h3
      rcases hF3 kk h3 with h | h
      · exact hF1 kk h1 h
      · have := hmem.tab.lt kk h1; omega
    · intro h3
      rcases hF3 b h3 with h | h
      · exact hmem.b2 h
      · have := hmem.lt b (.inl rfl); omega
    · intro kk h3
      have := hhas.lt kk h3
      rcases hF3 kk h3 with h | h
      · exact (hF2 kk h).imp id .inl
      · exact .inr (.inr ⟨by omega, by omega⟩)
    · show sm - k = _
      rw [hdr, List.length_drop, hmany]
    · exact hc9
    · rcases hA9 with hA9 | hA9
      · subst hA9
        rw [hdr, byt_drop]
        refine sees_drop (_root_.Go.Proofs.YtkfljominljliaaGreat.Vm.Sees.keep_ hsees ?_) k
        intro hn
        have hsb := hsrc ad rfl (by rintro rfl; simp [byt] at hn)
        exact hk ad.block (by omega) (fun hf => (hF2 _ hf).elim hsb.2.2.1 (fun ho => by have := HO.out _ ho; omega))
      · rw [hdr, List.eq_nil_of_length_eq_zero (show (rs.drop k).length = 0 by rw [List.length_drop, ← hmany]; exact hA9)]
        exact Sees.nil_
    · intro a ha hn
      rw [hdr] at hn
      rcases hA9 with hA9 | hA9
      · subst hA9
        injection ha with ha
        subst ha
        rw [add_block]
        exact hsrc ad rfl (by rintro rfl; simp at hn)
      · exact absurd (List.eq_nil_of_length_eq_zero (show (rs.drop k).length = 0 by rw [List.length_drop, ← hmany]; exact hA9)) hn
    · refine ((Keep.of_below (F := fun kk => F2 kk ∨ O kk) hbV).trans hkeep fun kk _ h => hF2 kk h))
  clear HSS HFR HWR HF HO HW HSN HRS HB1 HM0 hb2 hhas hkeep hF3 HS2
  have HJ := Lib.hid (And.intro j2 (And.intro j4 j5))
  by_cases hke : k = sc
  · subst hke
    clear j0 j1 j2 j3 j4 j5 j6
    have j4 := HJ.out.2.1
    have j5 := HJ.out.2.2
    have j6 : (k : Int) ≤ (sm : Int) := by omega
    go_wp2_with fail
    go_ret
    have e0 : sm - k = 0 := by have := HJ.out; omega
    have H9 := HFIN.out (some ad) 0 (.inr e0) (by omega)
    rw [e0] at H9
    exact ⟨(some ad, 0, 0), rfl, H9⟩
  · go_wp2_with fail
    go_ret
    exact ⟨(some (ad.add k), sm - k, sc - k), rfl, HFIN.out _ _ (.inl rfl) (by omega)⟩
end Go.Proofs.YtkfljominljliaaGreat.Vm
