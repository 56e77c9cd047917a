import Derived.Test.YtodbaahnmmfgiaaLQ
import Derived.Deep.RegionHeld3
import Derived.Shelf.RegionOpen
namespace Go.Proofs.Ytodbaahnmmfgiaa.Lk
open Go.RowKit Go.Shelf
attribute [local go_sem] Oper.semAt_some

/- LOCKCOPIES: COPIES GO ON APART; WHICH ARE THE SAME; ONE MAY LEAVE THE LOCKS, AS THEY WERE WHEN ONE ASKED. -/
abbrev twoV (xw xt xr yw yt yr : Int) : Value := .agg #[.int .i64 xw, .int .i64 xt, .int .i64 xr, .int .i64 yw, .int .i64 yt, .int .i64 yr]
/-- between two rounds of the law's own range -/
def LI2 (w : World) (g7 gn B2 : Nat) (vv : Value) (l : Ls) (pre : List (Nat × Int)) (O : Nat → Prop) (V : World) : Prop :=
  g7 < gn ∧ gn + 1 < B2 ∧ w.heap.size ≤ gn ∧ Boxed V g7 28 vv ∧ Wi V vv l ∧ Boxed V gn 3 (.int .i64 (pre.length : Int)) ∧ Boxed V (gn + 1) 3 (.int .i64 (lastOf pre)) ∧ Below w.heap.size w V ∧ (∀ k, O k → B2 + 2 ≤ k) ∧ (∀ g, vv.ownBlock = some g → g < gn)
theorem LI2.abid {w : World} {g7 gn B2 : Nat} {vv : Value} {l : Ls} : Abid B2 (LI2 w g7 gn B2 vv l) := by
  rintro pre O V V' row ⟨h1, h2, h3, h4, h5, h6, h7, h8, h9, h10⟩ hg hr
  have hne : ∀ k, k < B2 → some k ≠ row := fun k hk e => by have := (hr k e.symm).1; omega
  refine ⟨h1, h2, h3, h4.kept hg (hne _ (by omega)), ?_, h6.kept hg (hne _ (by omega)), h7.kept hg (hne _ h2), h8.grown hg h8.size (fun k e => by have := (hr k e).1; omega), h9, h10⟩
  obtain ⟨A, c, e, hc, hw⟩ := h5
  refine ⟨A, c, e, hc, fun hn => ?_⟩
  obtain ⟨g, rest, e2, hrow⟩ := hw hn
  have hgb := h10 g (by rw [e, e2]; rfl)
  exact ⟨g, rest, e2, hrow.same (hg.block _ hrow.lt (hne _ (by omega)))⟩
theorem LI2.step {w : World} {g7 gn B2 : Nat} {vv : Value} {l : Ls} {pre : List (Nat × Int)} {O Pv : Nat → Prop} {V : World} (h : LI2 w g7 gn B2 vv l pre O V) (hV : B2 + 2 ≤ V.heap.size) (hp : ∀ k, Pv k → k < gn) (x : Nat × Int) :
    Keeps Pv B2 O (fun _ => False) V ((V.setCell ⟨gn + 1, 0, none⟩ (.int .i64 (x.1 : Int))).setCell ⟨gn, 0, none⟩ (.int .i64 ((pre.length + 1 : Nat) : Int))) ∧
      LI2 w g7 gn B2 vv l (pre ++ [x]) (nextO O (fun _ => False) V ((V.setCell ⟨gn + 1, 0, none⟩ (.int .i64 (x.1 : Int))).setCell ⟨gn, 0, none⟩ (.int .i64 ((pre.length + 1 : Nat) : Int)))) ((V.setCell ⟨gn + 1, 0, none⟩ (.int .i64 (x.1 : Int))).setCell ⟨gn, 0, none⟩ (.int .i64 ((pre.length + 1 : Nat) : Int))) := by
  obtain ⟨h1, h2, h3, h4, h5, h6, h7, h8, h9, h10⟩ := h
  have hB : ∀ k, k ≠ gn → k ≠ gn + 1 → ((V.setCell ⟨gn + 1, 0, none⟩ (.int .i64 (x.1 : Int))).setCell ⟨gn, 0, none⟩ (.int .i64 ((pre.length + 1 : Nat) : Int))).heap[k]? = V.heap[k]? := fun k a b => (heap_set a).trans (heap_set b)
  refine ⟨⟨by simp [World.setCell], fun k hk hq => ?_⟩, h1, h2, h3, (hB _ (by omega) (by omega)).trans h4, ?_, ?_, ?_, (h8.setCell (show w.heap.size ≤ gn + 1 by omega) _).setCell (show w.heap.size ≤ gn by omega) _, nextO_ge h9 (fun _ h => h.elim) hV, h10⟩
  · rcases hq with hq | ⟨hq, _⟩
    · have := hp k hq
      exact hB k (by omega) (by omega)
    · exact hB k (by omega) (by omega)
  · obtain ⟨A, c, e, hc, hw⟩ := h5
    refine ⟨A, c, e, hc, fun hn => ?_⟩
    obtain ⟨g, rest, e2, hrow⟩ := hw hn
    have hgb := h10 g (by rw [e, e2]; rfl)
    exact ⟨g, rest, e2, hrow.same (hB _ (by omega) (by omega))⟩
  · have := (show Boxed (V.setCell ⟨gn + 1, 0, none⟩ (.int .i64 (x.1 : Int))) gn 3 (.int .i64 (pre.length : Int)) from (heap_set (by omega)).trans h6).set (.int .i64 ((pre.length + 1 : Nat) : Int))
    rwa [List.length_append]
  · rw [lastOf_snoc]
    exact (heap_set (by omega)).trans (h7.set _)
def LI3 (w : World) (g7 gn B2 : Nat) (vv : Value) (l : Ls) (pre : List (Nat × Int)) (O : Nat → Prop) (V : World) : Prop := LI2 w g7 gn B2 vv l pre O V ∧ pre.length < 2
theorem LI3.abid {w : World} {g7 gn B2 : Nat} {vv : Value} {l : Ls} : Abid B2 (LI3 w g7 gn B2 vv l) := fun s O V V' row hp hg hr => ⟨LI2.abid s O V V' row hp.1 hg hr, hp.2⟩
def LX2 (w : World) (g7 gn B2 : Nat) (vv : Value) (l : Ls) (c : Code) (pre : List (Nat × Int)) (O : Nat → Prop) (V : World) : Prop := c = .exit 2 ∧ LI2 w g7 gn B2 vv l pre O V ∧ pre.length = 2
theorem LX2.abid {w : World} {g7 gn B2 : Nat} {vv : Value} {l : Ls} (c : Code) : Abid B2 (LX2 w g7 gn B2 vv l c) := fun s O V V' row hp hg hr => ⟨hp.1, LI2.abid s O V V' row hp.2.1 hg hr, hp.2.2⟩
set_option maxRecDepth 100000 in
set_option maxHeartbeats 16000000 in
theorem copies_main {Has : HasT} {gf : Nat} (HA : ApiA Has gf) (acts : List Ac) (A0 : Option Addr) (n ca : Nat) (xw xt xr yw yt yr : Int) (w : World) (hA : Acs w acts A0) (hl : acts.length = n) (hn30 : n ≤ 30) (hx : Ac.fits ⟨xw, xt, xr⟩) (hy : Ac.fits ⟨yw, yt, yr⟩) :
    Calls Try.prog 5 #[.slice A0 n ca, twoV xw xt xr yw yt yr] w fun e w' => e = .returned (.bool true) ∧ Below w.heap.size w w' := by
  have hn := Lib.hid (fun n w => num_any n w)
  have hwk := Lib.hid (fun w => works_any HA.api w)
  obtain ⟨W0, hW0⟩ : ∃ W0, W0 = (w.alloc (.cells #[.int .i64 xw, .int .i64 xt, .int .i64 xr, .int .i64 yw, .int .i64 yt, .int .i64 yr] 45)).alloc (.cells #[.bool false] 4) := ⟨_, rfl⟩
  have hz0 : W0.heap.size = w.heap.size + 2 := by rw [hW0]; simp
  have hB0 : Below w.heap.size w W0 := by rw [hW0]; exact below2 _ _ _
  have hxc : ∀ o u, (#[.int .i64 xw, .int .i64 xt, .int .i64 xr, .int .i64 yw, .int .i64 yt, .int .i64 yr] : Array Value)[o]? = some u → W0.cell? ⟨w.heap.size, o, none⟩ = some u := fun o u h => by
    rw [hW0, World.cell?_alloc_lt _ _ _ (by simp), cell_alloc_new]; exact h
  have hrb : Boxed W0 (w.heap.size + 1) 4 (.bool false) := by
    have h := Boxed.new (w.alloc (.cells #[.int .i64 xw, .int .i64 xt, .int .i64 xr, .int .i64 yw, .int .i64 yt, .int .i64 yr] 45)) 4 (.bool false)
    rw [World.size_alloc] at h
    rw [hW0]; exact h
  have HX := Lib.hid (fun V (hb : Below W0.heap.size W0 V) o u (h : (#[.int .i64 xw, .int .i64 xt, .int .i64 xr, .int .i64 yw, .int .i64 yt, .int .i64 yr] : Array Value)[o]? = some u) => (hb.cell (p := ⟨w.heap.size, o, none⟩) (by simp only; omega)).trans (hxc o u h))
  have HRB := Lib.hid hrb
  have HZ0 := Lib.hid hz0
  have HWB := Lib.hid (fun V (h : Below W0.heap.size W0 V) => hB0.trans (h.mono hB0.size))
  have HFX := Lib.hid hx
  have HFY := Lib.hid hy
  have HAC := Lib.hid (fun V (hb : Below w.heap.size w V) i (hi : i < acts.length) => (hA.below hb).at_ i hi)
  have HF := Lib.hid (fun i (hi : i < acts.length) => hA.fits _ (List.getElem_mem hi))
  have HLA := Lib.hid hl
  have HNEW := Lib.hid (HA.api.new W0 6 (by omega))
  have HRN := Lib.hid (fun V => rnew_ok 6 V (by omega))
  have HNN := Lib.hid HA.nn
  have HL6 := Lib.hid (frees_len 6)
  obtain ⟨L0, hL0⟩ : ∃ L, L = frees 6 := ⟨_, rfl⟩
  rw [← hL0] at HNEW HRN HL6
  have g0 : decide ((30 : Int) < (n : Int)) = false := decide_eq_false (by omega)
  have HW0 := Lib.hid hW0
  clear hL0 hA hl hx hy hxc hrb hz0 hB0 hW0
  refine calls_marks Try.func5 rfl ?_
  simp only [Try.ntmps5, List.size_toArray, List.length_cons, List.length_nil, Nat.reduceAdd, Nat.reduceSub, Array.replicate_succ, Array.replicate_zero, List.push_toArray, List.append_toArray, List.nil_append, List.cons_append]
  go_wp2_with fail
  rw [← HW0.out]
  refine HNEW.out.mono ?_
  rintro e w1 ⟨v, F, rfl, h1, h2, hb1⟩
  have HH1 := Lib.hid (And.intro h1 (And.intro h2 hb1))
  clear h1 h2 hb1 HNEW
  go_wp2_with fail
  refine (HRN.out _).mono ?_
  rintro e w2 ⟨vv, rfl, hwi, hb2, _⟩
  obtain ⟨A1, c1, rfl, hcl, hrow⟩ := hwi
  have hwi : Wi w2 (.slice A1 L0.length c1) L0 := ⟨A1, c1, rfl, hcl, hrow⟩
  rw [HL6.out] at hwi
  rw [HL6.out]
  obtain ⟨g7, hg7⟩ : ∃ g7, g7 = w2.heap.size := ⟨_, rfl⟩
  have HG7 := Lib.hid hg7
  have HCS := Lib.hid (show CS Has W0 g7 v L0 (w2.alloc (.cells #[.slice A1 6 c1] 28)) from by
    obtain ⟨a1, a2, a3⟩ := HH1.out
    have hb3 := hb2.alloc hb2.size (.cells #[.slice A1 6 c1] 28)
    exact ⟨F, _, HA.api.below a1 hb3, fun k hk => ⟨a2 k hk, by have := HA.api.lt a1 k hk; have := hb2.size; omega⟩, by rw [hg7]; exact Boxed.new w2 _ _, hwi.below (below1 _ _), below0 a3 hb3, by rw [hg7]; have := a3.size; have := hb2.size; omega⟩)
  rw [hg7] at HCS
  clear hwi hcl hrow hb2 hg7
  go_wp2_with fail
  go_loopw [5, 9] (fun s5 s9 wr => ∃ (i : Nat) (v : Value) (l : Ls), v = s5 ∧ s9 = .int .i64 (i : Int) ∧ i ≤ n ∧ Hid (l.length = 6) ∧ CS Has W0 w2.heap.size v l wr) (fun _ s9 _ => n - (_root_.Go.RowKit.intOf s9).toNat)
  case atStart => exact ⟨0, v, L0, rfl, rfl, Nat.zero_le _, HL6, HCS.out⟩
  case round =>
    obtain ⟨i, v2, l, rfl, rfl, hi, HLEN, P⟩ := hrel
    obtain ⟨AW, cW, h4, hBw⟩ : ∃ A' c', wr.cell? ⟨w2.heap.size, 0, none⟩ = some (.slice A' 6 c') ∧ Below W0.heap.size W0 wr := by
      obtain ⟨F, vv, _, _, h3, ⟨A', c', e, _⟩, h7, _⟩ := P
      subst e
      have := h3.cell
      rw [HLEN.out] at this
      exact ⟨A', c', this, h7⟩
    by_cases hlt : i < n
    · have hil : i < acts.length := by rw [HLA.out]; exact hlt
      have i0 : (0 : Int) ≤ (i : Int) := by omega
      have i1 : (i : Int) < (n : Int) := by omega
      have i2 : decide ((i : Int) < (n : Int)) = true := decide_eq_true i1
      obtain ⟨ad0, rfl, a0, _⟩ := HAC.out _ (HWB.out _ hBw) i hil
      have hbd : Below wr.heap.size wr wr.drew := (Below.refl _ _).drew
      have HACT := Lib.hid (CS.step HA.api P (A := AW) (c := cW) (by rw [HLEN.out]; exact h4) hbd acts[i] (HF.out i hil))
      rw [HLEN.out] at HACT
      obtain ⟨ac, hac⟩ : ∃ ac, ac = acts[i] := ⟨_, rfl⟩
      rw [← hac] at a0 HACT
      have HSS0 := Lib.hid (fun (W : World) (hb : Below W0.heap.size W0 W) => (show AtAc W (ad0.add (i * 3)) ac from by
        obtain ⟨ad5, e5, a5, _⟩ := HAC.out W (HWB.out _ hb) i hil
        obtain rfl := Option.some.inj e5
        rw [← hac] at a5
        exact a5))
      obtain ⟨what, t, r⟩ := ac
      have HSS := Lib.hid (fun (W : World) (hb : Below W0.heap.size W0 W) => (show W.cell? (ad0.add (i * 3)) = some (.int .i64 what) ∧ W.cell? ⟨(ad0.add (i * 3)).block, (ad0.add (i * 3)).off + 1, none⟩ = some (.int .i64 t) ∧ W.cell? ⟨(ad0.add (i * 3)).block, (ad0.add (i * 3)).off + 2, none⟩ = some (.int .i64 r) from
        ⟨(HSS0.out W hb).c0, (HSS0.out W hb).c1, (HSS0.out W hb).c2⟩))
      have HLEN2 := Lib.hid (show (actL l what t r).length = 6 by rw [actL_len]; exact HLEN.out)
      simp only [Ac.cells] at HACT
      have HBW := Lib.hid (below0 hBw hbd)
      clear hac P a0 hBw hbd
      go_wp2_with fail
      refine wp_region_noPanic ?_
      refine wp_region_held_drew (S := fun W => W.cell? (ad0.add (i * 3)) = some (.int .i64 what) ∧ W.cell? ⟨(ad0.add (i * 3)).block, (ad0.add (i * 3)).off + 1, none⟩ = some (.int .i64 t) ∧ W.cell? ⟨(ad0.add (i * 3)).block, (ad0.add (i * 3)).off + 2, none⟩ = some (.int .i64 r)) (by kernel_rfl) ?_ (fun hHeld => ?_)
      · exact HSS.out _ HBW.out
      refine wpAnyH_take (i := 0) (v := ?_) rfl (by kernel_rfl) (by kernel_rfl) (by kernel_rfl) (fun _ _ _ h => h) (Or.inl ⟨by kernel_rfl, ?_⟩) hHeld ?_
      rotate_left
      focus (intro w hSw; (try dsimp only at hSw); go_simp; try with_reducible rfl)
      try simp only [Act.put]
      refine wpAnyH_take (i := 2) (v := ?_) rfl (by kernel_rfl) (by kernel_rfl) (by kernel_rfl) (fun _ _ _ h => h) (Or.inl ⟨by kernel_rfl, ?_⟩) hHeld ?_
      rotate_left
      focus (intro w hSw; (try dsimp only at hSw); go_simp; try with_reducible rfl)
      try simp only [Act.put]
      refine wpAnyH_take (i := 3) (v := ?_) rfl (by kernel_rfl) (by kernel_rfl) (by kernel_rfl) (fun _ _ _ h => h) (Or.inl ⟨by kernel_rfl, ?_⟩) hHeld ?_
      rotate_left
      focus (intro w hSw; (try dsimp only at hSw); go_simp; try with_reducible rfl)
      try simp only [Act.put]
      refine wpAnyH_take (i := 4) (v := ?_) rfl (by kernel_rfl) (by kernel_rfl) (by kernel_rfl) (fun _ _ _ h => h) (Or.inl ⟨by kernel_rfl, ?_⟩) hHeld ?_
      rotate_left
      focus (intro w hSw; (try dsimp only at hSw); go_simp; try with_reducible rfl)
      try simp only [Act.put]
      refine wpAnyH_take (i := 5) (v := ?_) rfl (by kernel_rfl) (by kernel_rfl) (by kernel_rfl) (fun _ _ _ h => h) (Or.inl ⟨by kernel_rfl, ?_⟩) hHeld ?_
      rotate_left
      focus (intro w hSw; (try dsimp only at hSw); go_simp; try with_reducible rfl)
      try simp only [Act.put]
      refine wpAnyH_ready (rs := [1]) (by kernel_rfl) (by simp) ?_
      refine AllReadyH.cons rfl (fun K hK => ?_) (AllReadyH.nil)
      go_simp
      refine hK.out _ _ ?_ (fun hHeld => ?_)
      · exact HSS.out _ HBW.out
      clear hK K
      try simp only [Act.put]
      refine wpAnyH_ready (rs := [6]) (by kernel_rfl) (by simp) ?_
      refine AllReadyH.cons rfl (fun K hK => ?_) (AllReadyH.nil)
      go_simp
      refine (HACT.out).mono ?_
      rintro e V1 ⟨v3, A3, c3, y3, rfl, k4, z4, hB1, hB2, hq1⟩
      rw [HLEN2.out] at hB2 hq1
      rw [HLEN2.out]
      refine hK.out _ _ ?_ (fun hHeld => ?_)
      · exact HSS.out _ hB1
      clear hK K
      try simp only [Act.put]
      refine wpAnyH_take (i := 7) (v := ?_) rfl (by kernel_rfl) (by kernel_rfl) (by kernel_rfl) (fun _ _ _ h => h) (Or.inl ⟨by kernel_rfl, ?_⟩) hHeld ?_
      rotate_left
      focus (intro w hSw; (try dsimp only at hSw); go_simp; try with_reducible rfl)
      try simp only [Act.put]
      refine wpAnyH_take (i := 8) (v := ?_) rfl (by kernel_rfl) (by kernel_rfl) (by kernel_rfl) (fun _ _ _ h => h) (Or.inl ⟨by kernel_rfl, ?_⟩) hHeld ?_
      rotate_left
      focus (intro w hSw; (try dsimp only at hSw); go_simp; try with_reducible rfl)
      try simp only [Act.put]
      refine wpAnyH_take (i := 9) (v := ?_) rfl (by kernel_rfl) (by kernel_rfl) (by kernel_rfl) (fun _ _ _ h => h) (Or.inl ⟨by kernel_rfl, ?_⟩) hHeld ?_
      rotate_left
      focus (intro w hSw; (try dsimp only at hSw); go_simp; try with_reducible rfl)
      try simp only [Act.put]
      refine wpAnyH_take (i := 10) (v := ?_) rfl (by kernel_rfl) (by kernel_rfl) (by kernel_rfl) (fun _ _ _ h => h) (Or.inl ⟨by kernel_rfl, ?_⟩) hHeld ?_
      rotate_left
      focus (intro w hSw; (try dsimp only at hSw); go_simp; try with_reducible rfl)
      try simp only [Act.put]
      refine wpAnyH_ready (rs := [11]) (by kernel_rfl) (by simp) ?_
      refine AllReadyH.cons rfl (fun K hK => ?_) (AllReadyH.nil)
      go_simp
      refine hK.out _ _ ?_ (fun hHeld => ?_)
      · exact HSS.out _ hB1
      clear hK K
      try simp only [Act.put]
      refine wpAnyH_ready (rs := [12]) (by kernel_rfl) (by simp) ?_
      refine AllReadyH.cons rfl (fun K hK => ?_) (AllReadyH.nil)
      go_simp
      refine hK.out _ _ ?_ (fun hHeld => ?_)
      · exact HSS.out _ hB2
      clear hK K
      try simp only [Act.put]
      refine wpAnyH_done (by kernel_rfl) ?_ _
      refine NoPanic.normal ?_
      have HR := Lib.hid hq1
      clear z4 k4 hB1 hB2 hq1 h4
      go_wp2_with fail
      go_roundw
      case rel => exact ⟨i + 1, v3, _, rfl, by go_num, by omega, Lib.hid HLEN2.out, HR.out⟩
      case measure => simp [_root_.Go.RowKit.intOf]; omega
    · obtain rfl : i = n := by omega
      have i2 : decide ((i : Int) < (i : Int)) = false := decide_eq_false (by omega)
      obtain ⟨w5, hw5⟩ : ∃ x : World, x = wr := ⟨_, rfl⟩
      subst hw5
      have HP := Lib.hid P
      have HCP := Lib.hid (show Calls Try.prog 18 #[v2] w5 (fun e w' => ∃ vd Fd F, e = .returned vd ∧ Has w5 v2 l F ∧ (∀ k, F k → W0.heap.size ≤ k ∧ k ≠ w2.heap.size) ∧ Has w' vd l Fd ∧ (∀ k, Fd k → w5.heap.size ≤ k) ∧ Below w5.heap.size w5 w') from by
        obtain ⟨F, vv, h1, h2, _⟩ := P
        exact (HA.api.copy h1).mono fun _ _ ⟨vd, Fd, e, a1, a2, a3⟩ => ⟨vd, Fd, F, e, h1, h2, a1, a2, a3⟩)
      clear P hi hlt
      go_wp2_with fail
      refine HCP.out.mono ?_
      rintro e V1 ⟨vd, Fd, F3, rfl, f1, f2, f3, f4, hbV1⟩
      have HAL := Lib.hid (HA.all (HA.api.below f1 hbV1))
      have HV1 := Lib.hid (And.intro f1 (And.intro f2 (And.intro f3 (And.intro f4 hbV1))))
      clear f1 f2 f3 f4 hbV1 HCP
      go_wp2_with fail
      refine HAL.out.mono ?_
      rintro e V4 ⟨lb, Pv, rfl, hit, hpv, hbV2⟩
      have HIT := Lib.hid hit
      have HD1 := Lib.hid (show D1 Has W0 w2.heap.size v2 vd (.slice AW 6 cW) l F3 Fd Pv V4 V4 from by
        obtain ⟨f1, f2, f3, f4, hbV1⟩ := HV1.out
        obtain ⟨F, vv, a1, a2, a3, a4, a5, a6⟩ := HP.out
        have e := a3.cell.symm.trans h4
        simp only [Option.some.injEq] at e
        subst e
        have hs1 := hbV1.size
        have hs2 := hbV2.size
        have hgl := a3.lt
        exact ⟨HA.api.below (HA.api.below f1 hbV1) hbV2, HA.api.below f3 hbV2, fun k hk => ⟨(f2 k hk).1, (f2 k hk).2, fun hd => by have := f4 k hd; have := HA.api.lt f1 k hk; omega, fun hp => by have := (hpv k hp).1; have := HA.api.lt f1 k hk; omega⟩,
          fun k hk => ⟨by have := f4 k hk; have := a5.size; omega, by have := f4 k hk; omega, fun hp => by have := (hpv k hp).1; have := HA.api.lt f3 k hk; omega⟩,
          boxed_below (boxed_below a3 hbV1) hbV2, (a4.below hbV1).below hbV2, below0 (below0 a5 hbV1) hbV2, fun k hk => ⟨(hpv k hk).2, rfl⟩, Nat.le_refl _⟩)
      have q0 := HX.out V4 HD1.out.below 0 _ rfl
      have q1 := HX.out V4 HD1.out.below 1 _ rfl
      have q2 := HX.out V4 HD1.out.below 2 _ rfl
      have b7 := HD1.out.box.cell
      have HA1 := Lib.hid (D1.act HA.api HD1.out ⟨xw, xt, xr⟩ HFX.out)
      simp only [Ac.cells] at HA1
      clear hit hpv hbV2 HAL HV1 h4
      go_wp2_with fail
      refine HA1.out.mono ?_
      rintro e V5 ⟨v3, vv3, F4, rfl, d2⟩
      have HD2 := Lib.hid d2
      clear d2 q0 q1 q2 b7 HA1
      have q0 := HX.out V5 HD2.out.below 3 _ rfl
      have q1 := HX.out V5 HD2.out.below 4 _ rfl
      have q2 := HX.out V5 HD2.out.below 5 _ rfl
      have b7 := HD2.out.box.cell
      have HA2 := Lib.hid (D2.act HA.api HD2.out ⟨yw, yt, yr⟩ HFY.out)
      simp only [Ac.cells] at HA2
      obtain ⟨l1, hl1⟩ : ∃ l1, l1 = actL l xw xt xr := ⟨_, rfl⟩
      obtain ⟨l2, hl2⟩ : ∃ l2, l2 = actL l yw yt yr := ⟨_, rfl⟩
      rw [← hl1, ← hl2] at HA2
      clear hl1 hl2
      go_wp2_with fail
      refine HA2.out.mono ?_
      rintro e V6 ⟨v4, vv4, F5, rfl, d3⟩
      have HD3 := Lib.hid d3
      obtain ⟨q, hq⟩ : ∃ q, q = decide (l1 = l2) := ⟨_, rfl⟩
      have HCC := Lib.hid (fun V (h : D3 Has W0 w2.heap.size v3 v4 (.slice AW 6 cW) vv3 vv4 l l1 l2 F4 F5 Pv V4 V) => And.intro (D3.is1 HA h) (And.intro (D3.is2 HA h) (And.intro (D3.same HA.api h) (And.intro (D3.same2 HA.api h) (D3.rsame HA.api h)))))
      rw [← hq] at HCC
      have hqq : (q != q) = false := by simp
      clear d3 q0 q1 q2 b7 HA2 hq HD1 HD2
      go_wp2_with fail
      refine (hn.out _ _).mono ?_
      rintro e u0 ⟨rfl, rfl⟩
      go_wp2_with fail
      refine (HCC.out _ HD3.out).1.mono ?_
      rintro e V8K1 ⟨rfl, k1⟩
      have K1 := Lib.hid k1
      clear k1
      go_wp2_with fail
      refine (HCC.out _ K1.out).2.1.mono ?_
      rintro e V8K2 ⟨rfl, k1⟩
      have K2 := Lib.hid k1
      clear k1
      go_wp2_with fail
      refine (HCC.out _ K2.out).2.2.1.mono ?_
      rintro e V8K3 ⟨rfl, k1⟩
      have K3 := Lib.hid k1
      clear k1
      go_wp2_with fail
      refine (HCC.out _ K3.out).2.2.2.2.mono ?_
      rintro e V8K4 ⟨rfl, k1⟩
      have K4 := Lib.hid k1
      clear k1
      go_wp2_with fail
      refine (HCC.out _ K4.out).2.2.2.1.mono ?_
      rintro e V8K5 ⟨rfl, k1⟩
      have K5 := Lib.hid k1
      clear k1
      go_wp2_with fail
      refine (HCC.out _ K5.out).2.2.2.2.mono ?_
      rintro e V7 ⟨rfl, k1⟩
      have K6 := Lib.hid k1
      clear k1
      clear HD3 K1 K2 K3 K4 K5 HCC hqq
      go_wp2_with fail
      obtain ⟨w8, hw8⟩ : ∃ w8, w8 = (V7.alloc (.cells #[.int .i64 0] 3)).alloc (.cells #[.int .i64 (-1)] 3) := ⟨_, rfl⟩
      have hz8 : w8.heap.size = V7.heap.size + 2 := by rw [hw8]; simp
      have hb8 : Below V7.heap.size V7 w8 := by rw [hw8]; exact below2 _ _ _
      have hxn : Boxed w8 V7.heap.size 3 (.int .i64 0) := by rw [hw8]; exact (Boxed.new V7 _ _).alloc _
      have hxl : Boxed w8 (V7.heap.size + 1) 3 (.int .i64 (-1)) := by
        rw [hw8]
        have := Boxed.new (V7.alloc (.cells #[.int .i64 0] 3)) 3 (.int .i64 (-1))
        rwa [World.size_alloc] at this
      have hk := K6.out
      have h8w := hb8.size
      have h06 := hk.below.size
      have hg7 := hk.box.lt
      have hgw : ∀ g, (Value.slice AW 6 cW).ownBlock = some g → g < V7.heap.size := fun g hg => by
        obtain ⟨A', c', e, _, hw⟩ := hk.wi
        injection e with e _ _
        subst e
        obtain ⟨g', rest, e2, hr⟩ := hw (fun h => by have := HLEN.out; rw [h] at this; simp at this)
        subst e2
        injection hg with hg
        subst hg
        exact hr.lt
      have hit := (HIT.out).later (w1 := w8) (fun k hk' => (hb8.block k (Nat.lt_of_lt_of_le (hk.pv k hk').1 hk.size)).trans (hk.pv k hk').2) (Nat.le_trans hk.size h8w)
      have hpv8 : ∀ k, Pv k → k < w8.heap.size := fun k hk' => by have := (hk.pv k hk').1; have := hk.size; omega
      have HPV := Lib.hid (fun k (hk' : Pv k) => (show k < V7.heap.size from Nat.lt_of_lt_of_le (hk.pv k hk').1 hk.size))
      have h0 : LI3 W0 w2.heap.size V7.heap.size w8.heap.size (.slice AW 6 cW) l [] (fun _ => False) w8 :=
        ⟨⟨hg7, by omega, h06, boxed_below hk.box hb8, hk.wi.below hb8, hxn, hxl, below0 hk.below hb8, fun _ h => h.elim, hgw⟩, by simp⟩
      have H8 := Lib.hid (And.intro hz8 h06)
      rw [← hw8]
      clear hw8 hb8 hxn hxl hk h8w h06 hg7 hgw hz8
      refine wpIn_wide.1 (wpIn_range_it (gf := gf) (lb := lb) rfl HA.ent hit hpv8 (fun _ => rfl) (fun _ _ _ _ _ h => h)
        (LI3 W0 w2.heap.size V7.heap.size w8.heap.size (.slice AW 6 cW) l) (LX2 W0 w2.heap.size V7.heap.size w8.heap.size (.slice AW 6 cW) l) LI3.abid LX2.abid h0
        ?a1 ?assign ?body ?done ?stop)
      case assign =>
        intro l9 r W' K hK
        simp only [encP]
        gi_wp2
        exact hK
      case body =>
        rintro l9 pre ⟨k, z⟩ O V hVs hO hI ⟨post, hpp⟩ _
        obtain ⟨hI, hl2⟩ := hI
        have HII := Lib.hid (LI2.step hI hVs HPV.out (k, z))
        have HL2 := Lib.hid hl2
        obtain ⟨g1, g2, g3, g5, g6, g7', g8, g9, g10, g11⟩ := hI
        have hmem : (k, z) ∈ prTo l l.length := by show _ ∈ prs l; rw [hpp]; simp
        obtain ⟨hk6, hz0, hzg⟩ := prTo_mem l l.length (k, z) hmem
        simp only at hk6 hz0 hzg
        have hlast : lastOf pre < (k : Int) := last_lt (prTo_sorted l l.length) hpp
        have hlge := lastOf_ge pre
        have hpl : pre.length + 1 ≤ 6 := by
          have h1 := prTo_len l l.length
          have h2 : (prTo l l.length).length = pre.length + post.length + 1 := by show (prs l).length = _; rw [hpp]; simp; omega
          have := HLEN.out
          omega
        have hgk : l[k]'hk6 = z := by rw [hzg]; simp [hk6]
        obtain ⟨A9, c9, e9, _, hs9⟩ := g6.sees
        injection e9 with e9 e10 e11
        subst e9
        clear e10 e11
        obtain ⟨bd, rfl, _, hc9⟩ := sees_int hs9 hk6
        rw [hgk] at hc9
        have hck : V.cell? (bd.add k) = some (.int .i64 z) := hc9
        obtain ⟨la, hla⟩ : ∃ la, la = lastOf pre := ⟨_, rfl⟩
        obtain ⟨np, hnp⟩ : ∃ np, np = pre.length := ⟨_, rfl⟩
        have c5 := g5.cell
        have c7 := g7'.cell
        have c8 := g8.cell
        have f7 := g7'.frozen
        have f8 := g8.frozen
        rw [← hla] at c8 hlast hlge
        rw [← hnp] at c7 hpl HII
        have hk6' : k < 6 := by have := HLEN.out; omega
        have p1 : decide ((k : Int) ≤ la) = false := decide_eq_false (by omega)
        have p2 : decide ((6 : Int) ≤ (k : Int)) = false := decide_eq_false (by omega)
        have p3 : (z != z) = false := by simp
        have p4 : (0 : Int) ≤ (k : Int) := by omega
        have p5 : (k : Int) < 6 := by omega
        have e1 : IntKind.i64.wrap ((np : Int) + 1) = ((np + 1 : Nat) : Int) := by rw [wrapI _ (by omega) (by omega)]; omega
        obtain ⟨n1, hn1⟩ : ∃ n1, n1 = np + 1 := ⟨_, rfl⟩
        rw [← hn1] at e1 HII
        have HNP := Lib.hid (And.intro hla (And.intro hnp hn1))
        have HPP := Lib.hid hpp
        clear hl2 g1 g2 g3 g5 g6 g7' g8 g9 g10 g11 hmem hzg hlast hgk hs9 hc9 hla hnp hn1 hpp hlge hz0 hit hpv8 h0
        by_cases h2 : n1 = 2
        · have p6 : ((n1 : Int) == 2) = true := by rw [h2]; rfl
          have H2 := Lib.hid h2
          clear h2
          gi_wp2_with fail
          exact ⟨HII.out.1, rfl, HII.out.2, by have := HNP.out; have := H2.out; simp; omega⟩
        · have p6 : ((n1 : Int) == 2) = false := by rw [beq_eq_false_iff_ne]; omega
          have H2 := Lib.hid h2
          clear h2
          gi_wp2_with fail
          exact ⟨HII.out.1, HII.out.2, by have := HNP.out; have := HL2.out; have := H2.out; simp; omega⟩
      case done =>
        rintro xs9 O Z hall ⟨⟨k1, k2, k3, k4, k5, k6, k7, k8, k9, k10⟩, hlx⟩ hD
        have hnq : xs9.length = min 2 (prs l).length := by
          rw [show xs9 = prs l from hall] at hlx ⊢
          omega
        clear hlx
        have hnb := k6.cell
        have hgb := k4.cell
        have HWI := Lib.hid k5
        have HBZ := Lib.hid (show Below W0.heap.size W0 Z from k8)
        have hrb : Boxed Z (w.heap.size + 1) 4 (.bool false) := (k8.block _ (by have := HZ0.out; omega)).trans HRB.out
        have HRBZ := Lib.hid hrb
        have hzlt := (Array.getElem?_eq_some_iff.1 hD).1
        have HZLT := Lib.hid hzlt
        have HD := Lib.hid hD
        have hLs : Sees Z Z.heap.size AW (izs l) := by
          obtain ⟨A9, c9, e9, _, hs⟩ := k5.sees
          injection e9 with e9 e10 e11
          subst e9
          exact hs
        have HLC := Lib.hid (fun i (hi : i < l.length) => (show ∃ bd, AW = some bd ∧ Z.cell? (bd.add i) = some (.int .i64 l[i]) from by
          obtain ⟨bd, e, _, hc⟩ := sees_int hLs hi
          exact ⟨bd, e, hc⟩))
        have HNQ := Lib.hid hnq
        clear hall hit hD hrb hzlt hLs k1 k2 k3 k4 k5 k6 k7 k8 k9 k10 hnq hpv8 h0
        go_wp2_with fail
        obtain ⟨wq, hwq⟩ : ∃ x : World, x = Z := ⟨_, rfl⟩
        subst hwq
        go_loopw [22, 23] (fun s22 s23 wr => ∃ i : Nat, s23 = .int .i64 (i : Int) ∧ i ≤ 6 ∧ s22 = .int .i64 ((prTo l i).length : Int) ∧ wr = wq) (fun _ s23 _ => 6 - (_root_.Go.RowKit.intOf s23).toNat)
        case atStart => exact ⟨0, rfl, by omega, rfl, rfl⟩
        case round =>
          obtain ⟨i, rfl, hi6, rfl, rfl⟩ := hrel
          have hpl := prTo_len l i
          by_cases hlt : i < 6
          · have hil : i < l.length := by rw [HLEN.out]; exact hlt
            have j0 : (0 : Int) ≤ (i : Int) := by omega
            have j1 : (i : Int) < 6 := by omega
            have j2 : decide ((i : Int) < 6) = true := decide_eq_true j1
            obtain ⟨bd, rfl, hc⟩ := HLC.out i hil
            have hst : prTo l (i + 1) = prTo l i ++ (if l[i] < 0 then [] else [(i, l[i])]) := by
              have hgd : l.getD i (-1) = l[i] := by simp [hil]
              rw [prTo]
              unfold prAt
              rw [hgd]
            obtain ⟨z, hz⟩ : ∃ z, z = l[i] := ⟨_, rfl⟩
            rw [← hz] at hc hst
            obtain ⟨q, hq⟩ : ∃ q, q = (prTo l i).length := ⟨_, rfl⟩
            rw [← hq] at hpl ⊢
            by_cases h0 : z < 0
            · have p1 : decide (0 ≤ z) = false := decide_eq_false (by omega)
              rw [if_pos h0, List.append_nil] at hst
              have HQ2 := Lib.hid (show (prTo l (i + 1)).length = q by rw [hst, hq])
              clear hst h0 hz hq
              go_wp2_with fail
              go_roundw
              case rel => exact ⟨i + 1, by go_num, by omega, by rw [HQ2.out], trivial⟩
              case measure => simp [_root_.Go.RowKit.intOf]; omega
            · have p1 : decide (0 ≤ z) = true := decide_eq_true (by omega)
              rw [if_neg h0] at hst
              have HQ2 := Lib.hid (show (prTo l (i + 1)).length = q + 1 by rw [hst, List.length_append, hq]; rfl)
              have ew : IntKind.i64.wrap ((q : Int) + 1) = ((q + 1 : Nat) : Int) := by rw [wrapI _ (by omega) (by omega)]; omega
              obtain ⟨q1, hq1⟩ : ∃ q1, q1 = q + 1 := ⟨_, rfl⟩
              rw [← hq1] at HQ2 ew
              clear hst h0 hz hq hq1
              go_wp2_with fail
              go_roundw
              case rel => exact ⟨i + 1, by go_num, by omega, by rw [HQ2.out], trivial⟩
              case measure => simp [_root_.Go.RowKit.intOf]; omega
          · obtain rfl : i = 6 := by omega
            have j2 : decide ((6 : Int) < 6) = false := by decide
            have hq6 : (prTo l 6).length = (prs l).length := by unfold prs; rw [HLEN.out]
            obtain ⟨q, hq⟩ : ∃ q, q = (prTo l 6).length := ⟨_, rfl⟩
            rw [← hq]
            have hmm : xs9.length = min 2 q := by rw [hq, hq6]; exact HNQ.out
            obtain ⟨mm, hmq⟩ : ∃ mm, mm = xs9.length := ⟨_, rfl⟩
            rw [← hmq] at hnb hmm
            have hmin : min (2 : Int) (q : Int) = (mm : Int) := by omega
            have hmin2 : (if (q : Int) < 2 then (q : Int) else 2) = (mm : Int) := by split <;> omega
            have hmin3 : (if q < 2 then (q : Int) else 2) = (mm : Int) := by split <;> omega
            have hee : ((mm : Int) == (mm : Int)) = true := by simp
            clear hq hq6 hmm hmq hpl
            go_wp2_with fail
            refine (hwk.out _).mono ?_
            rintro e wz ⟨rfl, hbw⟩
            have hrz : Boxed wz (w.heap.size + 1) 4 (.bool false) := boxed_below HRBZ.out hbw
            have hrc := hrz.cell
            have hrf := hrz.frozen
            have hDz : wz.heap[w8.heap.size]? = some (.deferred (some [])) := (hbw.block _ HZLT.out).trans HD.out
            obtain ⟨Y1, hY1⟩ : ∃ Y, Y = wz.setCell ⟨w.heap.size + 1, 0, none⟩ (.bool true) := ⟨_, rfl⟩
            have hDy : Y1.heap[w8.heap.size]? = some (.deferred (some [])) := by rw [hY1]; exact (heap_set (by have := H8.out; have := HZ0.out; omega)).trans hDz
            have hry : Boxed (Y1.putObj w8.heap.size (.deferred none)) (w.heap.size + 1) 4 (.bool true) := by
              refine (World.putObj_heap_other (by have := H8.out; have := HZ0.out; omega)).trans ?_
              rw [hY1]
              exact hrz.set _
            have hrcy := hry.cell
            have hBy : Below w.heap.size w (Y1.putObj w8.heap.size (.deferred none)) := by
              have h1 : Below w.heap.size w wz := HWB.out _ (below0 HBZ.out hbw)
              have h2 : Below w.heap.size w Y1 := by rw [hY1]; exact h1.setCell (show w.heap.size ≤ w.heap.size + 1 by omega) _
              exact h2.grown (putObj_grown Y1 _ _) (by have := h2.size; omega) (fun r e => by cases e; have := H8.out; have := HZ0.out; omega)
            have HFIN := Lib.hid hBy
            have HY1 := Lib.hid hY1
            clear hbw hrz hDz hry hBy hY1 hnb hgb hmin hmin2 hmin3
            go_wp2_with fail
            rw [← HY1.out]
            refine ⟨by simp, .inl ⟨_, _, rfl, run_takeDeferred hDy, ?_⟩⟩
            exact ⟨_, by simp [results, Try.results5, go_sem, hrcy], rfl, HFIN.out⟩
      case stop =>
        rintro c9' xs9 O Z hall ⟨rfl, ⟨k1, k2, k3, k4, k5, k6, k7, k8, k9, k10⟩, hlx⟩ hD
        have hnq : xs9.length = min 2 (prs l).length := by
          obtain ⟨post, hpp⟩ := hall
          rw [hpp, List.length_append]
          omega
        clear hlx
        have hnb := k6.cell
        have hgb := k4.cell
        have HWI := Lib.hid k5
        have HBZ := Lib.hid (show Below W0.heap.size W0 Z from k8)
        have hrb : Boxed Z (w.heap.size + 1) 4 (.bool false) := (k8.block _ (by have := HZ0.out; omega)).trans HRB.out
        have HRBZ := Lib.hid hrb
        have hzlt := (Array.getElem?_eq_some_iff.1 hD).1
        have HZLT := Lib.hid hzlt
        have HD := Lib.hid hD
        have hLs : Sees Z Z.heap.size AW (izs l) := by
          obtain ⟨A9, c9, e9, _, hs⟩ := k5.sees
          injection e9 with e9 e10 e11
          subst e9
          exact hs
        have HLC := Lib.hid (fun i (hi : i < l.length) => (show ∃ bd, AW = some bd ∧ Z.cell? (bd.add i) = some (.int .i64 l[i]) from by
          obtain ⟨bd, e, _, hc⟩ := sees_int hLs hi
          exact ⟨bd, e, hc⟩))
        have HNQ := Lib.hid hnq
        clear hall hit hD hrb hzlt hLs k1 k2 k3 k4 k5 k6 k7 k8 k9 k10 hnq hpv8 h0
        refine wpIn_wide.2 ?_
        go_wp2_with fail
        obtain ⟨wq, hwq⟩ : ∃ x : World, x = Z := ⟨_, rfl⟩
        subst hwq
        go_loopw [22, 23] (fun s22 s23 wr => ∃ i : Nat, s23 = .int .i64 (i : Int) ∧ i ≤ 6 ∧ s22 = .int .i64 ((prTo l i).length : Int) ∧ wr = wq) (fun _ s23 _ => 6 - (_root_.Go.RowKit.intOf s23).toNat)
        case atStart => exact ⟨0, rfl, by omega, rfl, rfl⟩
        case round =>
          obtain ⟨i, rfl, hi6, rfl, rfl⟩ := hrel
          have hpl := prTo_len l i
          by_cases hlt : i < 6
          · have hil : i < l.length := by rw [HLEN.out]; exact hlt
            have j0 : (0 : Int) ≤ (i : Int) := by omega
            have j1 : (i : Int) < 6 := by omega
            have j2 : decide ((i : Int) < 6) = true := decide_eq_true j1
            obtain ⟨bd, rfl, hc⟩ := HLC.out i hil
            have hst : prTo l (i + 1) = prTo l i ++ (if l[i] < 0 then [] else [(i, l[i])]) := by
              have hgd : l.getD i (-1) = l[i] := by simp [hil]
              rw [prTo]
              unfold prAt
              rw [hgd]
            obtain ⟨z, hz⟩ : ∃ z, z = l[i] := ⟨_, rfl⟩
            rw [← hz] at hc hst
            obtain ⟨q, hq⟩ : ∃ q, q = (prTo l i).length := ⟨_, rfl⟩
            rw [← hq] at hpl ⊢
            by_cases h0 : z < 0
            · have p1 : decide (0 ≤ z) = false := decide_eq_false (by omega)
              rw [if_pos h0, List.append_nil] at hst
              have HQ2 := Lib.hid (show (prTo l (i + 1)).length = q by rw [hst, hq])
              clear hst h0 hz hq
              go_wp2_with fail
              go_roundw
              case rel => exact ⟨i + 1, by go_num, by omega, by rw [HQ2.out], trivial⟩
              case measure => simp [_root_.Go.RowKit.intOf]; omega
            · have p1 : decide (0 ≤ z) = true := decide_eq_true (by omega)
              rw [if_neg h0] at hst
              have HQ2 := Lib.hid (show (prTo l (i + 1)).length = q + 1 by rw [hst, List.length_append, hq]; rfl)
              have ew : IntKind.i64.wrap ((q : Int) + 1) = ((q + 1 : Nat) : Int) := by rw [wrapI _ (by omega) (by omega)]; omega
              obtain ⟨q1, hq1⟩ : ∃ q1, q1 = q + 1 := ⟨_, rfl⟩
              rw [← hq1] at HQ2 ew
              clear hst h0 hz hq hq1
              go_wp2_with fail
              go_roundw
              case rel => exact ⟨i + 1, by go_num, by omega, by rw [HQ2.out], trivial⟩
              case measure => simp [_root_.Go.RowKit.intOf]; omega
          · obtain rfl : i = 6 := by omega
            have j2 : decide ((6 : Int) < 6) = false := by decide
            have hq6 : (prTo l 6).length = (prs l).length := by unfold prs; rw [HLEN.out]
            obtain ⟨q, hq⟩ : ∃ q, q = (prTo l 6).length := ⟨_, rfl⟩
            rw [← hq]
            have hmm : xs9.length = min 2 q := by rw [hq, hq6]; exact HNQ.out
            obtain ⟨mm, hmq⟩ : ∃ mm, mm = xs9.length := ⟨_, rfl⟩
            rw [← hmq] at hnb hmm
            have hmin : min (2 : Int) (q : Int) = (mm : Int) := by omega
            have hmin2 : (if (q : Int) < 2 then (q : Int) else 2) = (mm : Int) := by split <;> omega
            have hmin3 : (if q < 2 then (q : Int) else 2) = (mm : Int) := by split <;> omega
            have hee : ((mm : Int) == (mm : Int)) = true := by simp
            clear hq hq6 hmm hmq hpl
            go_wp2_with fail
            refine (hwk.out _).mono ?_
            rintro e wz ⟨rfl, hbw⟩
            have hrz : Boxed wz (w.heap.size + 1) 4 (.bool false) := boxed_below HRBZ.out hbw
            have hrc := hrz.cell
            have hrf := hrz.frozen
            have hDz : wz.heap[w8.heap.size]? = some (.deferred (some [])) := (hbw.block _ HZLT.out).trans HD.out
            obtain ⟨Y1, hY1⟩ : ∃ Y, Y = wz.setCell ⟨w.heap.size + 1, 0, none⟩ (.bool true) := ⟨_, rfl⟩
            have hDy : Y1.heap[w8.heap.size]? = some (.deferred (some [])) := by rw [hY1]; exact (heap_set (by have := H8.out; have := HZ0.out; omega)).trans hDz
            have hry : Boxed (Y1.putObj w8.heap.size (.deferred none)) (w.heap.size + 1) 4 (.bool true) := by
              refine (World.putObj_heap_other (by have := H8.out; have := HZ0.out; omega)).trans ?_
              rw [hY1]
              exact hrz.set _
            have hrcy := hry.cell
            have hBy : Below w.heap.size w (Y1.putObj w8.heap.size (.deferred none)) := by
              have h1 : Below w.heap.size w wz := HWB.out _ (below0 HBZ.out hbw)
              have h2 : Below w.heap.size w Y1 := by rw [hY1]; exact h1.setCell (show w.heap.size ≤ w.heap.size + 1 by omega) _
              exact h2.grown (putObj_grown Y1 _ _) (by have := h2.size; omega) (fun r e => by cases e; have := H8.out; have := HZ0.out; omega)
            have HFIN := Lib.hid hBy
            have HY1 := Lib.hid hY1
            clear hbw hrz hDz hry hBy hY1 hnb hgb hmin hmin2 hmin3
            go_wp2_with fail
            rw [← HY1.out]
            refine ⟨by simp, .inl ⟨_, _, rfl, run_takeDeferred hDy, ?_⟩⟩
            exact ⟨_, by simp [results, Try.results5, go_sem, hrcy], rfl, HFIN.out⟩
set_option maxRecDepth 100000 in
theorem copies_more {Has : HasT} (H : Api Has) (A0 : Option Addr) (n ca : Nat) (xw xt xr yw yt yr : Int) (w : World) (hn30 : 30 < n) :
    Calls Try.prog 5 #[.slice A0 n ca, twoV xw xt xr yw yt yr] w fun e w' => e = .returned (.bool true) ∧ Below w.heap.size w w' := by
  have hwk := Lib.hid (fun w => works_any H w)
  have g0 : decide ((30 : Int) < (n : Int)) = true := decide_eq_true (by omega)
  obtain ⟨W0, hW0⟩ : ∃ W0, W0 = (w.alloc (.cells #[.int .i64 xw, .int .i64 xt, .int .i64 xr, .int .i64 yw, .int .i64 yt, .int .i64 yr] 45)).alloc (.cells #[.bool false] 4) := ⟨_, rfl⟩
  have hB0 : Below w.heap.size w W0 := by rw [hW0]; exact below2 _ _ _
  have HB := Lib.hid hB0
  have hz0 : W0.heap.size = w.heap.size + 2 := by rw [hW0]; simp
  have hrb : Boxed W0 (w.heap.size + 1) 4 (.bool false) := by
    have h := Boxed.new (w.alloc (.cells #[.int .i64 xw, .int .i64 xt, .int .i64 xr, .int .i64 yw, .int .i64 yt, .int .i64 yr] 45)) 4 (.bool false)
    rw [World.size_alloc] at h
    rw [hW0]; exact h
  have HRB := Lib.hid hrb
  have HZ := Lib.hid hz0
  have HW0 := Lib.hid hW0
  clear H hB0 hrb hz0 hW0
  refine calls_marks Try.func5 rfl ?_
  simp only [Try.ntmps5, List.size_toArray, List.length_cons, List.length_nil, Nat.reduceAdd, Nat.reduceSub, Array.replicate_succ, Array.replicate_zero, List.push_toArray, List.append_toArray, List.nil_append, List.cons_append]
  go_wp2_with fail
  rw [← HW0.out]
  refine (hwk.out _).mono ?_
  rintro e wz ⟨rfl, hbw⟩
  have hrz : Boxed wz (w.heap.size + 1) 4 (.bool false) := boxed_below HRB.out hbw
  have hrc := hrz.cell
  have hrf := hrz.frozen
  have hrcy := (hrz.set (.bool true)).cell
  have HFIN := Lib.hid ((below0 HB.out hbw).setCell (p := ⟨w.heap.size + 1, 0, none⟩) (show w.heap.size ≤ w.heap.size + 1 by omega) (.bool true))
  clear hbw hrz
  go_wp2_with fail
  exact ⟨_, by simp [results, Try.results5, go_sem, hrcy], rfl, HFIN.out⟩
theorem lockCopies_any {Has : HasT} {gf : Nat} (HA : ApiA Has gf) (acts : List Ac) (A0 : Option Addr) (n ca : Nat) (x y : Ac) (w : World) (hA : Acs w acts A0) (hl : acts.length = n) (hx : x.fits) (hy : y.fits) :
    Calls Try.prog 5 #[.slice A0 n ca, twoV x.what x.thread x.rank y.what y.thread y.rank] w fun e w' => e = .returned (.bool true) ∧ Below w.heap.size w w' := by
  by_cases h30 : n ≤ 30
  · exact copies_main HA acts A0 n ca _ _ _ _ _ _ w hA hl h30 hx hy
  · exact copies_more HA.api A0 n ca _ _ _ _ _ _ w (by omega)
end Go.Proofs.Ytodbaahnmmfgiaa.Lk
