import Derived.Test.YtmocdokikcbjeaaActZ
import Derived.Test.YtmocdokikcbjeaaIs
import Derived.Test.YtmocdokikcbjeaaNoneZ
namespace Go.Proofs.Ytmocdokikcbjeaa
open Go.RowKit Go.Shelf Go.Maps Go.Sort
attribute [local go_sem] Oper.semAt_some

/- PAGEPLAYS. -/
/-- both tables between two calls of the law -/
def PlS (w : World) (g4 b : Nat) (l : Tb) (V : World) : Prop :=
  ∃ F A' c', Has V b l F ∧ (∀ q, F q → w.heap.size ≤ q ∧ q ≠ g4) ∧ Row V g4 29 [.slice A' l.length c'] ∧ l.length ≤ c' ∧ Lies V A' l ∧ Below w.heap.size w V ∧ w.heap.size ≤ g4
/-- behind a call: the answer's tables; the old rows lie in g4 still, the new ones in g7 -/
def PlB (w : World) (g4 g7 b : Nat) (l : Tb) (A' : Option Addr) (c' : Nat) (V : World) : Prop :=
  (∃ F, Has V b l F ∧ ∀ q, F q → w.heap.size ≤ q ∧ q ≠ g4) ∧ (∃ v, (∃ A n c, v = .slice A n c) ∧ Row V g4 29 [v]) ∧ V.cell? ⟨g7, 0, none⟩ = some (.slice A' l.length c') ∧ l.length ≤ c' ∧ Lies V A' l ∧ Below w.heap.size w V ∧ w.heap.size ≤ g4 ∧ g7 ≠ g4
theorem lies_set {V : World} {g : Nat} {ty : TypeId} {v u : Value} {l : Tb} {A : Option Addr} (hA : Lies V A l) (hr : Row V g ty [v]) (hv : ∀ z, v ≠ .int .i64 z) : Lies (V.setCell ⟨g, 0, none⟩ u) A l := by
  refine hA.keepX ?_
  rintro k ⟨hn, ad, rfl, rfl⟩
  refine heap_set ?_
  obtain ⟨ad2, e2, hlt, hcc⟩ := Sees.at_ (k := 0) hA (by
    cases l with
    | nil => exact absurd rfl hn
    | cons r t => simp [encR])
  cases e2
  obtain ⟨r, t, rfl⟩ : ∃ r t, l = r :: t := by
    cases l with
    | nil => exact absurd rfl hn
    | cons r t => exact ⟨r, t, rfl⟩
  have hc2 : V.cell? (ad.add 0) = some (.int .i64 r.1) := by rw [hcc]; rfl
  have := not_cell hr (by simpa using fun h => hv _ h.symm) hc2
  rwa [add_block] at this
theorem PlB.drew {w V : World} {g4 g7 b c' : Nat} {l : Tb} {A' : Option Addr} (h : PlB w g4 g7 b l A' c' V) : PlB w g4 g7 b l A' c' V.drew := by
  obtain ⟨⟨F, h1, h2⟩, h3, h4, h5, h6, h7, h8, h9⟩ := h
  have hb : Below V.heap.size V V.drew := (Below.refl _ _).drew
  exact ⟨⟨F, h1.below hb, h2⟩, h3, h4, h5, h6.below hb, h7.drew, h8, h9⟩
theorem PlB.fin {w V : World} {g4 g7 b c' : Nat} {l : Tb} {A' : Option Addr} (h : PlB w g4 g7 b l A' c' V) : PlS w g4 b l (V.setCell ⟨g4, 0, none⟩ (.slice A' l.length c')) := by
  obtain ⟨⟨F, h1, h2⟩, ⟨v, ⟨A, n, c, rfl⟩, h3⟩, h4, h5, h6, h7, h8, _⟩ := h
  exact ⟨F, A', c', h1.keep fun k hk => heap_set (h2 k hk).2, h2, h3.set 0 _, h5, lies_set h6 h3 (by simp), h7.setCell h8 _, h8⟩
/-- a call, at a world that is below -/
theorem PlS.act {w V V0 : World} {g4 b c' : Nat} {l : Tb} {A' : Option Addr} (h : PlS w g4 b l V) (h4 : V.cell? ⟨g4, 0, none⟩ = some (.slice A' l.length c')) (hb : Below V.heap.size V V0) (x : Ac) (hx : x.fits) :
    Calls Try.prog 10 #[bx b, .agg #[.slice A' l.length c'], .agg #[.int .i64 x.what, .int .i64 x.page, .int .i64 x.many, .int .i64 x.en.1, .int .i64 x.en.2.1, .int .i64 x.en.2.2]] V0 fun e V1 =>
      ∃ b' A'' c'', e = .returned (.tuple #[bx b', .agg #[.slice A'' (stepT l x).length c''], .bool true]) ∧ V1.cell? ⟨g4, 0, none⟩ = some (.slice A' l.length c') ∧ V1.frozen? ⟨g4, 0, none⟩ = false ∧ Below w.heap.size w V1 ∧
        (PlB w g4 V1.heap.size b' (stepT l x) A'' c'' (V1.alloc (.cells #[.slice A'' (stepT l x).length c''] 29))) ∧
        (∀ g7, V.heap.size ≤ g7 → g7 < V0.heap.size → Row V0 g7 29 [.slice none 0 0] → Row V1 g7 29 [.slice none 0 0] ∧ PlB w g4 g7 b' (stepT l x) A'' c'' (V1.setCell ⟨g7, 0, none⟩ (.slice A'' (stepT l x).length c''))) := by
  obtain ⟨F, A2, c2, h1, h2, h3, h5, h6, h7, h8⟩ := h
  have e := (h3.cell 0).symm.trans h4
  simp only [List.getElem?_cons_zero, Option.some.injEq, Value.slice.injEq, true_and] at e
  obtain ⟨rfl, rfl⟩ := e
  have hlt := h3.lt
  have hFl := h1.lt
  refine (act_any (h1.below hb) h5 (h6.below hb) x hx).mono ?_
  rintro e V1 ⟨b', F', A'', c'', rfl, g1, g2, g3, g5, g6⟩
  have r4 := g3.row (h3.below hb) (fun hf => (h2 _ hf).2 rfl)
  have hbs := hb.size
  have hF' : ∀ q, F' q → w.heap.size ≤ q ∧ q ≠ g4 := fun q hq => by
    rcases g2 q hq with h | h
    · exact h2 q h
    · have := h7.size
      exact ⟨by omega, by omega⟩
  have hB1 : Below w.heap.size w V1 := (below0 h7 hb).trans (g3.below (fun k hk => (h2 k hk).1) (below0 h7 hb).size)
  refine ⟨b', A'', c'', rfl, r4.cell 0, r4.frozen 0, hB1, ?_, fun g7 hg1 hg2 hg7 => ?_⟩
  · have hba := below1 V1 (.cells #[.slice A'' (stepT l x).length c''] 29)
    exact ⟨⟨F', g1.below hba, hF'⟩, ⟨_, ⟨_, _, _, rfl⟩, r4.below hba⟩, (Row.new V1 29 [.slice A'' (stepT l x).length c'']).cell 0, g5, g6.below hba, below0 hB1 hba, h8, by have := r4.lt; omega⟩
  · have r7 : Row V1 g7 29 [.slice none 0 0] := g3.row hg7 (fun hf => by have := hFl _ hf; omega)
    have hF7 : ∀ q, F' q → q ≠ g7 := fun q hq => by
      rcases g2 q hq with h | h
      · have := hFl q h; omega
      · omega
    have h7s := h7.size
    exact ⟨r7, ⟨F', g1.keep fun k hk => heap_set (hF7 k hk), hF'⟩, ⟨_, ⟨_, _, _, rfl⟩, r4.same (heap_set (by omega))⟩, (r7.set 0 _).cell 0, g5, lies_set g6 r7 (by simp), hB1.setCell (show w.heap.size ≤ g7 by omega) _, h8, by omega⟩
set_option maxRecDepth 100000 in
set_option maxHeartbeats 4000000 in
theorem pagePlays_any (l : List Ac) (A : Option Addr) (n c : Nat) (w : World) (h : Acs w l A) (hl : l.length = n) (hn : n ≤ 4611686018427387904) :
    Calls Try.prog 3 #[.slice A n c] w fun e w' => e = .returned (.bool true) ∧ Below w.heap.size w w' := by
  have hwk := Lib.hid (fun w => works_any w)
  have hno := Lib.hid (fun z w => none_any z w)
  have HA := Lib.hid h
  have HL := Lib.hid hl
  clear h hl
  by_cases q0 : 50 < n
  · have e1 : decide ((50 : Int) < (n : Int)) = true := decide_eq_true (by omega)
    clear hn q0
    go_enter Try.func3, Try.ntmps3
    go_wp2_with fail
    refine (hwk.out _).mono ?_
    rintro e w1 ⟨rfl, hb⟩
    have hf := Lib.hid hb
    clear hb
    go_wp2_with fail
    go_ret
    exact ⟨rfl, hf.out⟩
  have e1 : decide ((50 : Int) < (n : Int)) = false := decide_eq_false (by omega)
  have hn50 : n ≤ 50 := by omega
  clear q0 hn
  go_enter Try.func3, Try.ntmps3
  go_wp2_with fail
  refine (hno.out _ _).mono ?_
  rintro e w0 ⟨rfl, hb0⟩
  go_wp2_with fail
  refine (Run.new _).mono ?_
  rintro e w1 ⟨b, rfl, R1⟩
  have hP0 : PlS w w1.heap.size b [] (w1.alloc (.cells #[.slice none 0 0] 29)) := by
    obtain ⟨F, h1, h2, h3⟩ := R1
    have hlt := h1.lt
    have hba := below1 w1 (.cells #[.slice none 0 0] 29)
    have hB1 := below0 hb0 h3
    have hs0 := hb0.size
    exact ⟨F, none, 0, h1.below hba, fun q hq => ⟨by have := h2 q hq; omega, by have := hlt q hq; omega⟩, Row.new w1 29 [.slice none 0 0], Nat.le_refl _, Sees.nil_, below0 hB1 hba, hB1.size⟩
  clear R1 hb0
  go_wp2_with fail
  obtain ⟨g4, hg4⟩ : ∃ g4, g4 = w1.heap.size := ⟨_, rfl⟩
  rw [← hg4] at hP0 ⊢
  obtain ⟨w2, hw2⟩ : ∃ w2, w2 = w1.alloc (.cells #[.slice none 0 0] 29) := ⟨_, rfl⟩
  rw [← hw2] at hP0 ⊢
  clear hw2 hg4
  go_loopw [3, 5] (fun s3 s5 V => ∃ k b l', s3 = bx b ∧ s5 = .int .i64 ((k : Nat) : Int) ∧ k ≤ n ∧ l'.length ≤ k ∧ PlS w g4 b l' V) (fun _ s5 _ => n - (_root_.Go.RowKit.intOf s5).toNat)
  case atStart => exact ⟨0, b, [], rfl, rfl, Nat.zero_le _, Nat.le_refl _, hP0⟩
  case round =>
    obtain ⟨k, b, l', rfl, rfl, hk, hlen, hP⟩ := hrel
    clear hP0
    by_cases hlt : k < n
    · have i0 : (0 : Int) ≤ (k : Int) := by omega
      have i1 : (k : Int) < (n : Int) := by omega
      have j1 : decide ((k : Int) < (n : Int)) = true := decide_eq_true i1
      have hkl : k < l.length := by rw [HL.out]; exact hlt
      have HS0 : ∃ ad, A = some ad ∧ ∀ W, Below w.heap.size w W → AcAt W ad k l[k] := by
        obtain ⟨ad, e, _⟩ := HA.out.at_ k hkl
        refine ⟨ad, e, fun W hb => ?_⟩
        obtain ⟨ad', e', h'⟩ := (HA.out.below hb).at_ k hkl
        rw [e] at e'
        obtain rfl := Option.some.inj e'
        exact h'
      obtain ⟨ad, rfl, hS⟩ := HS0
      have hfit := HA.out.fits _ (List.getElem_mem hkl)
      obtain ⟨y, hy⟩ : ∃ y, y = l[k] := ⟨_, rfl⟩
      rw [← hy] at hS hfit
      clear hy
      obtain ⟨wh, pg, mn, en⟩ := y
      obtain ⟨o1, o2, o3⟩ := en
      obtain ⟨A', c', h4⟩ : ∃ A' c', wr.cell? ⟨g4, 0, none⟩ = some (.slice A' l'.length c') := by
        obtain ⟨F, A', c', _, _, h3, _⟩ := hP
        exact ⟨A', c', h3.cell 0⟩
      have hlt4 := lt_of_cell h4
      have hBw : Below w.heap.size w wr := by
        obtain ⟨F, A', c', _, _, _, _, _, h7, _⟩ := hP
        exact h7
      simp only at hlt4
      have HSS := Lib.hid (fun (W : World) (hb : Below w.heap.size w W) (h4 : W.cell? ⟨g4, 0, none⟩ = some (.slice A' l'.length c')) => (show (W.cell? ⟨g4, 0, none⟩ = some (.slice A' l'.length c') ∧ W.cell? (ad.add (k * 6)) = some (.int .i64 wh) ∧ W.cell? ⟨(ad.add (k * 6)).block, (ad.add (k * 6)).off + 1, none⟩ = some (.int .i64 pg) ∧ W.cell? ⟨(ad.add (k * 6)).block, (ad.add (k * 6)).off + 2, none⟩ = some (.int .i64 mn) ∧ W.cell? ⟨(ad.add (k * 6)).block, (ad.add (k * 6)).off + 3, none⟩ = some (.int .i64 o1) ∧ W.cell? ⟨(ad.add (k * 6)).block, (ad.add (k * 6)).off + 4, none⟩ = some (.int .i64 o2) ∧ W.cell? ⟨(ad.add (k * 6)).block, (ad.add (k * 6)).off + 5, none⟩ = some (.int .i64 o3)) from
        ⟨h4, (hS W hb).c0, (hS W hb).c1, (hS W hb).c2, (hS W hb).c3, (hS W hb).c4, (hS W hb).c5⟩))
      have HACT := Lib.hid (fun V0 (hb : Below wr.heap.size wr V0) => PlS.act hP h4 hb ⟨wh, pg, mn, (o1, o2, o3)⟩ hfit)
      have hls := step_len l' ⟨wh, pg, mn, (o1, o2, o3)⟩
      obtain ⟨l2, hl2⟩ : ∃ l2, l2 = stepT l' ⟨wh, pg, mn, (o1, o2, o3)⟩ := ⟨_, rfl⟩
      rw [← hl2] at HACT hls
      obtain ⟨L, hL⟩ : ∃ L, L = l'.length := ⟨_, rfl⟩
      rw [← hL] at HACT HSS h4
      have hL50 : L ≤ k := by omega
      rw [← hL] at hls
      clear hL hl2 hlen
      have hbd : Below wr.heap.size wr wr.drew := (Below.refl _ _).drew
      have HBD := Lib.hid hbd
      have HBA := Lib.hid ((below1 wr (.cells #[.slice none 0 0] 29)).drew)
      have HBW := Lib.hid hBw
      have H4 := Lib.hid h4
      have HRA := Lib.hid (show Row ((wr.alloc (.cells #[.slice none 0 0] 29)).drew) wr.heap.size 29 [.slice none 0 0] from Row.new wr 29 [.slice none 0 0])
      have HLT := Lib.hid hlt4
      have HGE := Lib.hid (show w.heap.size ≤ wr.heap.size from hBw.size)
      have ew : IntKind.i64.wrap ((k : Int) + 1) = (k : Int) + 1 := wrapI _ (by omega) (by omega)
      clear hP hS hfit hBw hbd h4 hlt4
      go_wp2_with fail
      refine wp_region_held_drew (S := fun W => W.cell? ⟨g4, 0, none⟩ = some (.slice A' L c') ∧ W.cell? (ad.add (k * 6)) = some (.int .i64 wh) ∧ W.cell? ⟨(ad.add (k * 6)).block, (ad.add (k * 6)).off + 1, none⟩ = some (.int .i64 pg) ∧ W.cell? ⟨(ad.add (k * 6)).block, (ad.add (k * 6)).off + 2, none⟩ = some (.int .i64 mn) ∧ W.cell? ⟨(ad.add (k * 6)).block, (ad.add (k * 6)).off + 3, none⟩ = some (.int .i64 o1) ∧ W.cell? ⟨(ad.add (k * 6)).block, (ad.add (k * 6)).off + 4, none⟩ = some (.int .i64 o2) ∧ W.cell? ⟨(ad.add (k * 6)).block, (ad.add (k * 6)).off + 5, none⟩ = some (.int .i64 o3)) (by kernel_rfl) ?_ (fun hHeld => ?_)
      · exact HSS.out _ (below0 HBW.out HBD.out) H4.out
      refine wpAnyH_take (i := 0) (v := ?_) rfl (by kernel_rfl) (by kernel_rfl) (by kernel_rfl) (fun _ _ _ h => h) (Or.inl ⟨by kernel_rfl, ?_⟩) (by assumption) ?_
      rotate_left
      focus (intro w hSw; (try dsimp only at hSw); go_simp; try with_reducible rfl)
      simp only [Act.put]
      refine wpAnyH_take (i := 1) (v := ?_) rfl (by kernel_rfl) (by kernel_rfl) (by kernel_rfl) (fun _ _ _ h => h) (Or.inl ⟨by kernel_rfl, ?_⟩) (by assumption) ?_
      rotate_left
      focus (intro w hSw; (try dsimp only at hSw); go_simp; try with_reducible rfl)
      simp only [Act.put]
      refine wpAnyH_take (i := 2) (v := ?_) rfl (by kernel_rfl) (by kernel_rfl) (by kernel_rfl) (fun _ _ _ h => h) (Or.inl ⟨by kernel_rfl, ?_⟩) (by assumption) ?_
      rotate_left
      focus (intro w hSw; (try dsimp only at hSw); go_simp; try with_reducible rfl)
      simp only [Act.put]
      refine wpAnyH_take (i := 3) (v := ?_) rfl (by kernel_rfl) (by kernel_rfl) (by kernel_rfl) (fun _ _ _ h => h) (Or.inl ⟨by kernel_rfl, ?_⟩) (by assumption) ?_
      rotate_left
      focus (intro w hSw; (try dsimp only at hSw); go_simp; try with_reducible rfl)
      simp only [Act.put]
      refine wpAnyH_take (i := 4) (v := ?_) rfl (by kernel_rfl) (by kernel_rfl) (by kernel_rfl) (fun _ _ _ h => h) (Or.inl ⟨by kernel_rfl, ?_⟩) (by assumption) ?_
      rotate_left
      focus (intro w hSw; (try dsimp only at hSw); go_simp; try with_reducible rfl)
      simp only [Act.put]
      refine wpAnyH_take (i := 5) (v := ?_) rfl (by kernel_rfl) (by kernel_rfl) (by kernel_rfl) (fun _ _ _ h => h) (Or.inl ⟨by kernel_rfl, ?_⟩) (by assumption) ?_
      rotate_left
      focus (intro w hSw; (try dsimp only at hSw); go_simp; try with_reducible rfl)
      simp only [Act.put]
      refine wpAnyH_ready (rs := [6, 11]) (by kernel_rfl) (by simp) ?_
      refine AllReadyH.cons rfl (fun K hK => ?_) (AllReadyH.cons rfl (fun K hK => ?_) AllReadyH.nil)
      · go_simp
        refine (HACT.out _ HBD.out).mono ?_
        rintro e V1 ⟨b', A2, c2, rfl, k4, z4, hB1, hq1, hq2⟩
        have s1 := HSS.out _ hB1 k4
        refine hK.out _ _ ?_ (fun hHeld => ?_)
        · exact s1
        clear hK K
        try simp only [Act.put]
        refine wpAnyH_take (i := 7) (v := ?_) rfl (by kernel_rfl) (by kernel_rfl) (by kernel_rfl) (fun _ _ _ h => h) (Or.inl ⟨by kernel_rfl, ?_⟩) (by assumption) ?_
        rotate_left
        focus (intro w hSw; (try dsimp only at hSw); go_simp; try with_reducible rfl)
        simp only [Act.put]
        refine wpAnyH_take (i := 8) (v := ?_) rfl (by kernel_rfl) (by kernel_rfl) (by kernel_rfl) (fun _ _ _ h => h) (Or.inl ⟨by kernel_rfl, ?_⟩) (by assumption) ?_
        rotate_left
        focus (intro w hSw; (try dsimp only at hSw); go_simp; try with_reducible rfl)
        simp only [Act.put]
        refine wpAnyH_take (i := 9) (v := ?_) rfl (by kernel_rfl) (by kernel_rfl) (by kernel_rfl) (fun _ _ _ h => h) (Or.inl ⟨by kernel_rfl, ?_⟩) (by assumption) ?_
        rotate_left
        focus (intro w hSw; (try dsimp only at hSw); go_simp; try with_reducible rfl)
        simp only [Act.put]
        refine wpAnyH_take (i := 10) (v := ?_) rfl (by kernel_rfl) (by kernel_rfl) (by kernel_rfl) (fun _ _ _ h => h) (Or.inl ⟨by kernel_rfl, ?_⟩) (by assumption) ?_
        rotate_left
        focus (intro w hSw; (try dsimp only at hSw); go_simp; try with_reducible rfl)
        simp only [Act.put]
        refine wpAnyH_ready (rs := [11]) (by kernel_rfl) (by simp) ?_
        refine AllReadyH.cons rfl (fun K hK => ?_) AllReadyH.nil
        go_simp
        refine hK.out _ _ ?_ (fun hHeld => ?_)
        · exact HSS.out _ (below0 hB1 (below1 V1 _)) ((cell_same (Below.heap_alloc _ _ _ (by have := lt_of_cell k4; simpa using this))).trans k4)
        clear hK K
        try simp only [Act.put]
        refine wpAnyH_ready (rs := [12]) (by kernel_rfl) (by simp) ?_
        refine AllReadyH.cons rfl (fun K hK => ?_) AllReadyH.nil
        go_simp
        refine hK.out _ _ ?_ (fun hHeld => ?_)
        · exact HSS.out _ (below0 hB1 (below1 V1 _)) ((cell_same (Below.heap_alloc _ _ _ (by have := lt_of_cell k4; simpa using this))).trans k4)
        clear hK K
        try simp only [Act.put]
        refine wpAnyH_ready (rs := [13]) (by kernel_rfl) (by simp) ?_
        refine AllReadyH.cons rfl (fun K hK => ?_) AllReadyH.nil
        go_simp
        refine hK.out _ _ ?_ (fun hHeld => ?_)
        · exact HSS.out _ (below0 hB1 (below1 V1 _)) ((cell_same (Below.heap_alloc _ _ _ (by have := lt_of_cell k4; simpa using this))).trans k4)
        clear hK K
        try simp only [Act.put]
        refine wpAnyH_ready (rs := [14]) (by kernel_rfl) (by simp) ?_
        refine AllReadyH.cons rfl (fun K hK => ?_) AllReadyH.nil
        go_simp
        refine hK.out _ _ ?_ (fun hHeld => ?_)
        · exact HSS.out _ (below0 hB1 (below1 V1 _)) ((cell_same (Below.heap_alloc _ _ _ (by have := lt_of_cell k4; simpa using this))).trans k4)
        clear hK K
        try simp only [Act.put]
        have hq := hq1
        refine wpAnyH_done (by kernel_rfl) ?_ _
        obtain ⟨g7, hg7⟩ : ∃ g7, g7 = V1.heap.size := ⟨_, rfl⟩
        obtain ⟨V2, hV2⟩ : ∃ V2, V2 = V1.alloc (.cells #[.slice A2 l2.length c2] 29) := ⟨_, rfl⟩
        rw [← hV2] at hq ⊢
        rw [← hg7] at hq ⊢
        clear hg7 hV2 s1 k4 z4 hq1 hq2 hB1
        have hq' := hq.drew
        obtain ⟨_, ⟨v4, _, r4⟩, c7, _, _, hB2, hg4w, hne⟩ := hq
        have k4 : ∃ x, V2.cell? ⟨g4, 0, none⟩ = some x := ⟨_, r4.cell 0⟩
        obtain ⟨x4, k4⟩ := k4
        have z4 := r4.frozen 0
        have HFN := Lib.hid (hq'.fin)
        have C7 := Lib.hid c7
        clear r4 c7 hq'
        go_wp2_with fail
        refine wp_region_held_drew (S := fun W => W.cell? ⟨g7, 0, none⟩ = some (.slice A2 l2.length c2)) (by kernel_rfl) ?_ (fun hHeld => ?_)
        · exact C7.out
        refine wpAnyH_take (i := 0) (v := ?_) rfl (by kernel_rfl) (by kernel_rfl) (by kernel_rfl) (fun _ _ _ h => h) (Or.inl ⟨by kernel_rfl, ?_⟩) (by assumption) ?_
        rotate_left
        focus (intro w hSw; (try dsimp only at hSw); go_simp; try with_reducible rfl)
        simp only [Act.put]
        refine wpAnyH_take (i := 1) (v := ?_) rfl (by kernel_rfl) (by kernel_rfl) (by kernel_rfl) (fun _ _ _ h => h) (Or.inl ⟨by kernel_rfl, ?_⟩) (by assumption) ?_
        rotate_left
        focus (intro w hSw; (try dsimp only at hSw); go_simp; try with_reducible rfl)
        simp only [Act.put]
        refine wpAnyH_ready (rs := [2]) (by kernel_rfl) (by simp) ?_
        refine AllReadyH.cons rfl (fun K hK => ?_) AllReadyH.nil
        go_simp
        refine hK.out _ _ ?_ (fun hHeld => ?_)
        · exact C7.out
        clear hK K
        try simp only [Act.put]
        refine wpAnyH_ready (rs := [3]) (by kernel_rfl) (by simp) ?_
        refine AllReadyH.cons rfl (fun K hK => ?_) AllReadyH.nil
        go_simp
        refine hK.out _ _ ?_ (fun hHeld => ?_)
        · exact (cell_same (heap_set hne)).trans C7.out
        clear hK K
        try simp only [Act.put]
        refine wpAnyH_done (by kernel_rfl) ?_ _
        have HR := Lib.hid HFN.out
        clear z4 k4
        go_wp2_with fail
        go_roundw
        case rel => exact ⟨k + 1, b', l2, rfl, by go_num, by omega, by omega, HR.out⟩
        case measure => simp [_root_.Go.RowKit.intOf]; omega
      · go_simp
        refine hK.out _ _ ?_ (fun hHeld => ?_)
        · exact HSS.out _ (below0 HBW.out HBA.out) ((cell_same (Below.heap_alloc _ _ _ HLT.out)).trans H4.out)
        clear hK K
        try simp only [Act.put]
        refine wpAnyH_ready (rs := [6]) (by kernel_rfl) (by simp) ?_
        refine AllReadyH.cons rfl (fun K hK => ?_) AllReadyH.nil
        go_simp
        refine (HACT.out _ HBA.out).mono ?_
        rintro e V1 ⟨b', A2, c2, rfl, k4, z4, hB1, hq1, hq2⟩
        have s1 := HSS.out _ hB1 k4
        refine hK.out _ _ ?_ (fun hHeld => ?_)
        · exact s1
        clear hK K
        try simp only [Act.put]
        obtain ⟨r7, hq⟩ := hq2 wr.heap.size (Nat.le_refl _) (by simp) HRA.out
        have e7 := r7.cell 0
        have f7 := r7.frozen 0
        simp only [List.getElem?_cons_zero] at e7
        clear r7
        refine wpAnyH_take (i := 7) (v := ?_) rfl (by kernel_rfl) (by kernel_rfl) (by kernel_rfl) (fun _ _ _ h => h) (Or.inl ⟨by kernel_rfl, ?_⟩) (by assumption) ?_
        rotate_left
        focus (intro w hSw; (try dsimp only at hSw); go_simp; try with_reducible rfl)
        simp only [Act.put]
        refine wpAnyH_take (i := 8) (v := ?_) rfl (by kernel_rfl) (by kernel_rfl) (by kernel_rfl) (fun _ _ _ h => h) (Or.inl ⟨by kernel_rfl, ?_⟩) (by assumption) ?_
        rotate_left
        focus (intro w hSw; (try dsimp only at hSw); go_simp; try with_reducible rfl)
        simp only [Act.put]
        refine wpAnyH_take (i := 9) (v := ?_) rfl (by kernel_rfl) (by kernel_rfl) (by kernel_rfl) (fun _ _ _ h => h) (Or.inl ⟨by kernel_rfl, ?_⟩) (by assumption) ?_
        rotate_left
        focus (intro w hSw; (try dsimp only at hSw); go_simp; try with_reducible rfl)
        simp only [Act.put]
        refine wpAnyH_take (i := 10) (v := ?_) rfl (by kernel_rfl) (by kernel_rfl) (by kernel_rfl) (fun _ _ _ h => h) (Or.inl ⟨by kernel_rfl, ?_⟩) (by assumption) ?_
        rotate_left
        focus (intro w hSw; (try dsimp only at hSw); go_simp; try with_reducible rfl)
        simp only [Act.put]
        refine wpAnyH_ready (rs := [12]) (by kernel_rfl) (by simp) ?_
        refine AllReadyH.cons rfl (fun K hK => ?_) AllReadyH.nil
        go_simp
        refine hK.out _ _ ?_ (fun hHeld => ?_)
        · exact s1
        clear hK K
        try simp only [Act.put]
        refine wpAnyH_ready (rs := [13]) (by kernel_rfl) (by simp) ?_
        refine AllReadyH.cons rfl (fun K hK => ?_) AllReadyH.nil
        go_simp
        refine hK.out _ _ ?_ (fun hHeld => ?_)
        · exact HSS.out _ (hB1.setCell HGE.out _) ((cell_same (heap_set (by have := HLT.out; simp; omega))).trans k4)
        clear hK K
        try simp only [Act.put]
        refine wpAnyH_ready (rs := [14]) (by kernel_rfl) (by simp) ?_
        refine AllReadyH.cons rfl (fun K hK => ?_) AllReadyH.nil
        go_simp
        refine hK.out _ _ ?_ (fun hHeld => ?_)
        · exact HSS.out _ (hB1.setCell HGE.out _) ((cell_same (heap_set (by have := HLT.out; simp; omega))).trans k4)
        clear hK K
        try simp only [Act.put]
        clear e7 f7
        refine wpAnyH_done (by kernel_rfl) ?_ _
        obtain ⟨g7, hg7⟩ : ∃ g7, g7 = wr.heap.size := ⟨_, rfl⟩
        obtain ⟨V2, hV2⟩ : ∃ V2, V2 = V1.setCell ⟨wr.heap.size, 0, none⟩ (.slice A2 l2.length c2) := ⟨_, rfl⟩
        rw [← hV2] at hq ⊢
        rw [← hg7] at hq ⊢
        clear hg7 hV2 s1 k4 z4 hq1 hq2 hB1
        have hq' := hq.drew
        obtain ⟨_, ⟨v4, _, r4⟩, c7, _, _, hB2, hg4w, hne⟩ := hq
        have k4 : ∃ x, V2.cell? ⟨g4, 0, none⟩ = some x := ⟨_, r4.cell 0⟩
        obtain ⟨x4, k4⟩ := k4
        have z4 := r4.frozen 0
        have HFN := Lib.hid (hq'.fin)
        have C7 := Lib.hid c7
        clear r4 c7 hq'
        go_wp2_with fail
        refine wp_region_held_drew (S := fun W => W.cell? ⟨g7, 0, none⟩ = some (.slice A2 l2.length c2)) (by kernel_rfl) ?_ (fun hHeld => ?_)
        · exact C7.out
        refine wpAnyH_take (i := 0) (v := ?_) rfl (by kernel_rfl) (by kernel_rfl) (by kernel_rfl) (fun _ _ _ h => h) (Or.inl ⟨by kernel_rfl, ?_⟩) (by assumption) ?_
        rotate_left
        focus (intro w hSw; (try dsimp only at hSw); go_simp; try with_reducible rfl)
        simp only [Act.put]
        refine wpAnyH_take (i := 1) (v := ?_) rfl (by kernel_rfl) (by kernel_rfl) (by kernel_rfl) (fun _ _ _ h => h) (Or.inl ⟨by kernel_rfl, ?_⟩) (by assumption) ?_
        rotate_left
        focus (intro w hSw; (try dsimp only at hSw); go_simp; try with_reducible rfl)
        simp only [Act.put]
        refine wpAnyH_ready (rs := [2]) (by kernel_rfl) (by simp) ?_
        refine AllReadyH.cons rfl (fun K hK => ?_) AllReadyH.nil
        go_simp
        refine hK.out _ _ ?_ (fun hHeld => ?_)
        · exact C7.out
        clear hK K
        try simp only [Act.put]
        refine wpAnyH_ready (rs := [3]) (by kernel_rfl) (by simp) ?_
        refine AllReadyH.cons rfl (fun K hK => ?_) AllReadyH.nil
        go_simp
        refine hK.out _ _ ?_ (fun hHeld => ?_)
        · exact (cell_same (heap_set hne)).trans C7.out
        clear hK K
        try simp only [Act.put]
        refine wpAnyH_done (by kernel_rfl) ?_ _
        have HR := Lib.hid HFN.out
        clear z4 k4
        go_wp2_with fail
        go_roundw
        case rel => exact ⟨k + 1, b', l2, rfl, by go_num, by omega, by omega, HR.out⟩
        case measure => simp [_root_.Go.RowKit.intOf]; omega
    · obtain rfl : k = n := by omega
      have j1 : decide ((k : Int) < (k : Int)) = false := decide_eq_false (by omega)
      obtain ⟨F, A', c', h1, h2, h3, h5, h6, h7, h8⟩ := hP
      have c4 := h3.cell 0
      simp only [List.getElem?_cons_zero] at c4
      have HIS := Lib.hid (is_any (c := c') h1 h6 (by omega))
      have HY := Lib.hid (fun V (hb : Below wr.heap.size wr V) => (show There (bx b) true V from by
        obtain ⟨bp, bf, h9, _⟩ := h1
        exact there_yes (h9.below hb)))
      have HB := Lib.hid h7
      clear h1 h2 h3 h5 h6 h7 h8 hlen
      go_wp2_with fail
      refine (HIS.out).mono ?_
      rintro e V1 ⟨rfl, hb1⟩
      go_wp2_with fail
      refine (Same_there _ _ true false _ rfl (fun U hU => HY.out _ (below0 hb1 hU)) (fun U _ => there_no (.inl rfl))).mono ?_
      rintro e V2 ⟨rfl, hb2⟩
      replace hb2 := below0 hb1 hb2
      go_wp2_with fail
      refine (Same_there _ _ false true _ rfl (fun U _ => there_no (.inl rfl)) (fun U hU => HY.out _ (below0 hb2 hU))).mono ?_
      rintro e V3 ⟨rfl, hb3⟩
      have hb4 := below0 HB.out (below0 hb2 hb3)
      clear hb1 hb2 hb3
      go_wp2_with fail
      refine (hwk.out _).mono ?_
      rintro e V4 ⟨rfl, hb5⟩
      have HF := Lib.hid (below0 hb4 hb5)
      clear hb4 hb5
      go_wp2_with fail
      go_ret
      exact ⟨rfl, HF.out⟩
end Go.Proofs.Ytmocdokikcbjeaa
