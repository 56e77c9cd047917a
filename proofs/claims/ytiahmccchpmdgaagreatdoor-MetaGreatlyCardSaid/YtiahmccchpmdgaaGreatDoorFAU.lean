import Derived.Test.YtiahmccchpmdgaaGreatDoorFAS
import Derived.Test.YtiahmccchpmdgaaGreatDoorFAT
import Derived.Test.YtiahmccchpmdgaaGreatDoorFAQ
namespace Go.Proofs.YtiahmccchpmdgaaGreatDoor.Me
open Go.RowKit Go.Shelf
attribute [local go_sem] Oper.semAt_some

/- A RECORD's NUMBERS SAID, ONE BEHIND THE OTHER. -/
/-- what is said to keeps what it has in blocks of its own -/
structure Says (A : Nat → World → (Nat → Prop) → Prop) : Prop where
  keep : ∀ {k V V' G}, A k V G → (∀ b, G b → V'.heap[b]? = V.heap[b]?) → A k V' G
  lt : ∀ {k V G}, A k V G → ∀ b, G b → b < V.heap.size
def WrI (A : Nat → World → (Nat → Prop) → Prop) (w : World) (G0 : Nat → Prop) (gr gl : Nat) (tr : TypeId) (cs : List Value) (fv : Value) (pre : List Nat) (O : Nat → Prop) (V : World) : Prop :=
  ∃ G, A pre.length V G ∧ (∀ b, G b → G0 b ∨ O b) ∧ (∀ b, O b → w.heap.size + 5 ≤ b) ∧ Row V gr tr cs ∧ Boxed V gl 298 fv ∧ Keep G0 w V
theorem keep_grown {F : Nat → Prop} {w V V' : World} {row : Option Nat} (h : Keep F w V) (hg : V.grownBy V' row) (hr : ∀ r, row = some r → w.heap.size ≤ r) : Keep F w V' :=
  ⟨hg.os.trans h.os, hg.tape.trans h.tape, hg.output.trans h.output, Nat.le_trans h.size hg.size, fun k hk hf => (hg.block k (Nat.lt_of_lt_of_le hk h.size) (fun e => by have := hr k e.symm; omega)).trans (h.block k hk hf)⟩
theorem WrI.abid {A : Nat → World → (Nat → Prop) → Prop} (HA : Says A) {w : World} {G0 : Nat → Prop} {gr gl B : Nat} {tr : TypeId} {cs : List Value} {fv : Value} (h : gr < B ∧ gl < B ∧ w.heap.size ≤ B) (hG : ∀ b, G0 b → b < w.heap.size) : Abid B (WrI A w G0 gr gl tr cs fv) := by
  rintro pre O V V' row ⟨G, h1, h2, h3, h4, h5, h6⟩ hg hr
  refine ⟨G, HA.keep h1 (fun b hb => hg.block b (HA.lt h1 b hb) (fun e => ?_)), h2, h3, row_kept h4 hg (fun e => by have := hr gr e.symm; omega), h5.kept hg (fun e => by have := hr gl e.symm; omega), keep_grown h6 hg (fun r e => by have := hr r e; omega)⟩
  obtain ⟨e1, e2⟩ := hr b e.symm
  rcases h2 b hb with h | h
  · have := hG b h
    omega
  · exact e2 h
set_option maxRecDepth 100000 in
set_option maxHeartbeats 8000000 in
theorem write_Rec (st sz no : Int) (A : Nat → World → (Nat → Prop) → Prop) (HA : Says A) (G0 : Nat → Prop) (tv : Nat → Int) (cf : Nat) (cap : Array Value) (l : List Prt) (g n c : Nat) (t : TypeId) (w : World) (hrow : Row w g t (prtCells l)) (hn : l.length = n) (hm : n ≤ 6) (hc : n ≤ c) (hf : ∀ k, k ≤ n → frm l k ≤ 1000)
    (h0 : A 0 w G0) (hg0 : ¬ G0 g)
    (eg : ∀ args w, (callFunc cf args).run Tryz.prog w = .ok (.enter cf args) w)
    (HL : ∀ k, k < l.length → ∀ W G, Keep G0 w W → A k W G → Calls Tryz.prog cf (#[.int .i64 (tv k), .int .i64 ((prt l k).wd : Int)] ++ cap) W fun e W' => (∃ u, e = .returned u) ∧ ∃ G', A (k + 1) W' G' ∧ Keep G W W' ∧ ∀ b, G' b → G b ∨ W.heap.size ≤ b)
    (EG : ∀ k, k < l.length → ∀ args w, (callFunc (prt l k).tf args).run Tryz.prog w = .ok (.enter (prt l k).tf args) w)
    (HT : ∀ k, k < l.length → ∀ W, Calls Tryz.prog (prt l k).tf #[.agg #[.int .i64 st, .int .i64 sz, .int .u32 no]] W fun e W' => e = .returned (.int .i64 (tv k)) ∧ Below W.heap.size W W') :
    Calls Tryz.prog 219 #[.agg #[.int .i64 st, .int .i64 sz, .int .u32 no], .func (.func cf) #[] cap, .slice (some ⟨g, 0, none⟩) n c] w fun e w' => (∃ u, e = .returned u) ∧ ∃ G, A n w' G ∧ Keep G0 w w' ∧ ∀ b, G b → G0 b ∨ w.heap.size ≤ b := by
  have HEG := Lib.hid EG
  have HTT := Lib.hid HT
  have HLL := Lib.hid HL
  have hGl := HA.lt h0
  have HGL := Lib.hid hGl
  have HAA := Lib.hid HA
  clear EG HT HL
  refine calls_marks Tryz.func219 rfl ?_
  simp only [Tryz.ntmps219, List.size_toArray, List.length_cons, List.length_nil, Nat.reduceAdd, Nat.reduceSub, Array.replicate_succ, Array.replicate_zero, List.push_toArray, List.append_toArray, List.nil_append, List.cons_append]
  go_wp2_with fail
  obtain ⟨W4, hW4⟩ : ∃ W4, W4 = ((w.alloc (.cells #[.int .i64 st, .int .i64 sz, .int .u32 no] 41)).alloc (.cells #[.func (.func cf) #[] cap] 298)) := ⟨_, rfl⟩
  have hs4 : W4.heap.size = w.heap.size + 1 + 1 := by rw [hW4]; simp
  have hB4 : Below w.heap.size w W4 := by rw [hW4]; exact ((Below.refl _ _).alloc (Nat.le_refl _) _).alloc (by simp) _
  have hX1 : Row W4 (w.heap.size) 41 [.int .i64 st, .int .i64 sz, .int .u32 no] := by rw [hW4]; exact (Row.new w _ _).below (below1 _ _)
  have hX2 : Row W4 (w.heap.size + 1) 298 [.func (.func cf) #[] cap] := by rw [hW4]; exact Row.new_at _ _ _ (by simp)
  rw [← hW4]
  clear hW4
  refine (placed_Rec _ _ _ _).mono ?_
  rintro e W5 ⟨rfl, hW5⟩
  have hb5 : Below W4.heap.size W4 W5 := by rw [hW5]; exact below1 _ _
  have hs5 : W5.heap.size = W4.heap.size + 1 := by rw [hW5]; simp
  have hr5 : Row W5 W4.heap.size 136 [.slice (some ⟨g, 0, none⟩) n c] := by rw [hW5]; exact Row.new W4 _ _
  have hB5 := below0 hB4 hb5
  have hpl : Pls W5 W4.heap.size g n l t c := ⟨hr5.cell 0, hrow.below hB5⟩
  have hit := placed1_Rec W4.heap.size g n c l t W5 hpl hn hm hc hf
  have hpv := hpl.lt
  rw [hs4] at hit hpv
  have hI0 : WrI A w G0 (w.heap.size) (w.heap.size + 1) 41 [.int .i64 st, .int .i64 sz, .int .u32 no] (.func (.func cf) #[] cap) [] (fun _ => False) W5 := ⟨G0, HA.keep h0 (fun b hb => hB5.block b (hGl b hb)), fun b hb => .inl hb, fun _ h => h.elim, hX1.below hb5, hX2.below hb5, Keep.of_below hB5⟩
  have hgl := hrow.lt
  have hmix : Tryz.prog.follows .mixedOrders = true := by kernel_rfl
  clear hW5 hb5 hX1 hX2 hB4 hr5 hpl hrow hf
  go_wp2_with fail
  refine wpIn_wide.1 (wpIn_range_box (gf := 268) (lb := #[.pointer (some ⟨w.heap.size + 1 + 1, 0, none⟩)]) rfl (enters_of Tryz.func268 (by kernel_rfl) rfl) hit hpv (fun _ => rfl) (fun _ _ _ _ _ h => h)
    (WrI A w G0 (w.heap.size) (w.heap.size + 1) 41 [.int .i64 st, .int .i64 sz, .int .u32 no] (.func (.func cf) #[] cap)) (fun _ _ _ _ => False) (WrI.abid HA (by omega) hGl) (fun _ _ _ _ _ _ h _ _ => h) hI0
    (fun gg x => { tmps := #[.agg #[.int .i64 st, .int .i64 sz, .int .u32 no], .func (.func cf) #[] cap, .slice (some ⟨g, 0, none⟩) n c, .pointer (some ⟨w.heap.size, 0, none⟩), .pointer (some ⟨w.heap.size + 1, 0, none⟩), undef, undef, .pointer (some ⟨gg, 0, none⟩), .slice (some ⟨g, 0, none⟩) n c, .func (.func 268) #[] #[.pointer (some ⟨w.heap.size + 1 + 1, 0, none⟩)], .int .i64 (frm l x : Int), .agg #[.int .i64 ((prt l x).wd : Int), .int .i64 ((prt l x).mo : Int), .func (.func (prt l x).tf) #[] #[], .func (.func (prt l x).sf) #[] #[]], undef, undef, undef, undef, undef, undef, undef, undef], defers := [] })
    (fun x => .cells #[.int .i64 ((prt l x).wd : Int), .int .i64 ((prt l x).mo : Int), .func (.func (prt l x).tf) #[] #[], .func (.func (prt l x).sf) #[] #[]] 129) ?assign ?body ?done ?stop)
  case assign =>
    intro l' x W' K hK
    simp only [encP_eq]
    gi_wp2
    exact hK
  case body =>
    rintro l' pre x O V hVs hO ⟨G, h1, h2, h3, h4, h5, h6⟩ ⟨hxp, hxl⟩ _
    rw [← hxp] at h1
    obtain ⟨V1, hV1⟩ : ∃ V1, V1 = V.alloc (.cells #[.int .i64 ((prt l x).wd : Int), .int .i64 ((prt l x).mo : Int), .func (.func (prt l x).tf) #[] #[], .func (.func (prt l x).sf) #[] #[]] 129) := ⟨_, rfl⟩
    have hb1 : Below V.heap.size V V1 := by rw [hV1]; exact below1 _ _
    have hz1 : V1.heap.size = V.heap.size + 1 := by rw [hV1]; simp
    have hrp : Row V1 V.heap.size 129 [.int .i64 ((prt l x).wd : Int), .int .i64 ((prt l x).mo : Int), .func (.func (prt l x).tf) #[] #[], .func (.func (prt l x).sf) #[] #[]] := by rw [hV1]; exact Row.new _ _ _
    have HCALL := Lib.hid (HTT.out x hxl)
    have eg2 := HEG.out x hxl
    have HLAY := Lib.hid (fun W G hk ha => HLL.out x hxl W G hk ha)
    obtain ⟨p, hp⟩ : ∃ p, p = prt l x := ⟨_, rfl⟩
    rw [← hp] at HCALL eg2 HLAY hrp ⊢
    obtain ⟨a, b, tf, sf⟩ := p
    simp only at HCALL eg2 HLAY hrp ⊢
    obtain ⟨y, hy⟩ : ∃ y, y = tv x := ⟨_, rfl⟩
    rw [← hy] at HCALL HLAY
    rw [← hp] at hV1
    simp only at hV1
    rw [← hV1]
    have HGV := Lib.hid (HAA.out.lt h1)
    have HG2 := Lib.hid h2
    have HG3 := Lib.hid h3
    have HK6 := Lib.hid h6
    have HH1 := Lib.hid h1
    have HB1 := Lib.hid hb1
    have HOO := Lib.hid hO
    have HSS : Hid (∀ W, Below V1.heap.size V1 W → W.cell? ⟨w.heap.size, 0, none⟩ = some (.int .i64 st) ∧ W.cell? ⟨w.heap.size, 1, none⟩ = some (.int .i64 sz) ∧ W.cell? ⟨w.heap.size, 2, none⟩ = some (.int .u32 no) ∧ W.cell? ⟨w.heap.size + 1, 0, none⟩ = some (.func (.func cf) #[] cap) ∧ W.cell? ⟨V.heap.size, 0, none⟩ = some (.int .i64 (a : Int)) ∧ W.cell? ⟨V.heap.size, 2, none⟩ = some (.func (.func tf) #[] #[])) := Lib.hid (fun W hb => by
      have q1 := (h4.below hb1).below hb
      have q2 : Boxed W (w.heap.size + 1) 298 (.func (.func cf) #[] cap) := (hb.block _ (by have := h5.lt; omega)).trans ((hb1.block _ h5.lt).trans h5)
      have q3 := hrp.below hb
      exact ⟨q1.cell 0, q1.cell 1, q1.cell 2, q2.cell, q3.cell 0, q3.cell 2⟩)
    have HSK : Hid (∀ W W', Below V1.heap.size V1 W → Keep G W W' → W'.cell? ⟨w.heap.size, 0, none⟩ = some (.int .i64 st) ∧ W'.cell? ⟨w.heap.size, 1, none⟩ = some (.int .i64 sz) ∧ W'.cell? ⟨w.heap.size, 2, none⟩ = some (.int .u32 no) ∧ W'.cell? ⟨w.heap.size + 1, 0, none⟩ = some (.func (.func cf) #[] cap) ∧ W'.cell? ⟨V.heap.size, 0, none⟩ = some (.int .i64 (a : Int)) ∧ W'.cell? ⟨V.heap.size, 2, none⟩ = some (.func (.func tf) #[] #[])) := Lib.hid (fun W W' hb hk => by
      have hs := hb.size
      have ng : ∀ j, j = w.heap.size ∨ j = w.heap.size + 1 ∨ j = V.heap.size → ¬ G j := fun j hj hg => by
        have hl := HGV.out j hg
        rcases h2 j hg with h | h
        · have := HGL.out j h
          omega
        · have := h3 j h
          omega
      have q1 := hk.row ((h4.below hb1).below hb) (ng _ (.inl rfl))
      have q2 : Boxed W' (w.heap.size + 1) 298 (.func (.func cf) #[] cap) := (hk.block _ (by have := h5.lt; omega) (ng _ (.inr (.inl rfl)))).trans ((hb.block _ (by have := h5.lt; omega)).trans ((hb1.block _ h5.lt).trans h5))
      have q3 := hk.row (hrp.below hb) (ng _ (.inr (.inr rfl)))
      exact ⟨q1.cell 0, q1.cell 1, q1.cell 2, q2.cell, q3.cell 0, q3.cell 2⟩)
    have HXP := Lib.hid hxp
    have HFIN : Hid (∀ V2 V3 G', Below V.heap.size V V2 → Keep G V2 V3 → A (x + 1) V3 G' → (∀ b, G' b → G b ∨ V2.heap.size ≤ b) → Keeps (pvL (w.heap.size + 1 + 1) g) W5.heap.size O (fun _ => False) V V3 ∧ WrI A w G0 (w.heap.size) (w.heap.size + 1) 41 [.int .i64 st, .int .i64 sz, .int .u32 no] (.func (.func cf) #[] cap) (pre ++ [x]) (nextO O (fun _ => False) V V3) V3) := Lib.hid (fun V2 V3 G' hb hk q1 q3 => by
      have hs := hb.size
      have hs3 := hk.size
      have hgl0 := hGl
      have nk : ∀ j, j = w.heap.size ∨ j = w.heap.size + 1 ∨ j = w.heap.size + 1 + 1 ∨ j = g ∨ (W5.heap.size ≤ j ∧ ¬ O j) → ¬ G j := fun j hj hg => by
        rcases h2 j hg with h | h
        · have := hGl j h
          rcases hj with rfl | rfl | rfl | rfl | ⟨h8, _⟩
          · omega
          · omega
          · omega
          · exact hg0 h
          · omega
        · have := h3 j h
          rcases hj with rfl | rfl | rfl | rfl | ⟨_, h9⟩
          · omega
          · omega
          · omega
          · omega
          · exact h9 h
      refine ⟨⟨by omega, fun k hkl hp => (hk.block k (by omega) (nk k ?_)).trans (hb.block k hkl)⟩, G', ?_, fun b hb' => ?_, fun b hb' => ?_, hk.row (h4.below hb) (nk _ (.inl rfl)), (hk.block _ (by have := h5.lt; omega) (nk _ (.inr (.inl rfl)))).trans ((hb.block _ h5.lt).trans h5), (h6.trans (Keep.of_below hb) (fun k hk h => h)).trans hk (fun k hkl hg => ?_)⟩
      · rcases hp with (h | h) | ⟨h, h', _⟩
        · exact .inr (.inr (.inl h))
        · exact .inr (.inr (.inr (.inl h)))
        · exact .inr (.inr (.inr (.inr ⟨h, h'⟩)))
      · have hl : (pre ++ [x]).length = x + 1 := by rw [List.length_append, ← hxp]; rfl
        rw [hl]
        exact q1
      · rcases q3 b hb' with h | h
        · rcases h2 b h with h | h
          · exact .inl h
          · exact .inr (.inl h)
        · exact .inr (.inr (.inr ⟨by omega, HAA.out.lt q1 b hb'⟩))
      · rcases hb' with h | h | h
        · exact h3 b h
        · exact h.elim
        · omega
      · rcases h2 k hg with h | h
        · exact h
        · have := h3 k h
          omega)
    have hdr : Below V1.heap.size V1 V1.drew := (Below.refl _ _).drew
    clear hp hy hV1 hb1 hrp h1 h2 h3 h4 h5 h6 hit hI0 hxp hO
    gi_wp2_with fail
    refine wpIn_region_heldH l' 8 (S := fun W => W.cell? ⟨w.heap.size, 0, none⟩ = some (.int .i64 st) ∧ W.cell? ⟨w.heap.size, 1, none⟩ = some (.int .i64 sz) ∧ W.cell? ⟨w.heap.size, 2, none⟩ = some (.int .u32 no) ∧ W.cell? ⟨w.heap.size + 1, 0, none⟩ = some (.func (.func cf) #[] cap) ∧ W.cell? ⟨V.heap.size, 0, none⟩ = some (.int .i64 (a : Int)) ∧ W.cell? ⟨V.heap.size, 2, none⟩ = some (.func (.func tf) #[] #[])) hmix (by kernel_rfl) (by kernel_rfl) (HSS.out _ hdr) (fun hHeld => ?_)
    simp only [List.take_succ_cons, List.take_zero]
    refine wpAnyH_take (i := 0) (v := ?_) rfl (by kernel_rfl) (by kernel_rfl) (by kernel_rfl) (fun _ _ _ h => h) (Or.inl ⟨by kernel_rfl, ?_⟩) hHeld ?_
    rotate_left
    focus (intro w hSw; (try dsimp only at hSw); go_simp; try with_reducible rfl)
    simp only [Act.put]
    refine wpAnyH_take (i := 1) (v := ?_) rfl (by kernel_rfl) (by kernel_rfl) (by kernel_rfl) (fun _ _ _ h => h) (Or.inl ⟨by kernel_rfl, ?_⟩) hHeld ?_
    rotate_left
    focus (intro w hSw; (try dsimp only at hSw); go_simp; try with_reducible rfl)
    simp only [Act.put]
    refine wpAnyH_take (i := 2) (v := ?_) rfl (by kernel_rfl) (by kernel_rfl) (by kernel_rfl) (fun _ _ _ h => h) (Or.inl ⟨by kernel_rfl, ?_⟩) hHeld ?_
    rotate_left
    focus (intro w hSw; (try dsimp only at hSw); go_simp; try with_reducible rfl)
    simp only [Act.put]
    refine wpAnyH_take (i := 3) (v := ?_) rfl (by kernel_rfl) (by kernel_rfl) (by kernel_rfl) (fun _ _ _ h => h) (Or.inl ⟨by kernel_rfl, ?_⟩) hHeld ?_
    rotate_left
    focus (intro w hSw; (try dsimp only at hSw); go_simp; try with_reducible rfl)
    simp only [Act.put]
    refine wpAnyH_take (i := 5) (v := ?_) rfl (by kernel_rfl) (by kernel_rfl) (by kernel_rfl) (fun _ _ _ h => h) (Or.inl ⟨by kernel_rfl, ?_⟩) hHeld ?_
    rotate_left
    focus (intro w hSw; (try dsimp only at hSw); go_simp; try with_reducible rfl)
    simp only [Act.put]
    refine wpAnyH_take (i := 6) (v := ?_) rfl (by kernel_rfl) (by kernel_rfl) (by kernel_rfl) (fun _ _ _ h => h) (Or.inl ⟨by kernel_rfl, ?_⟩) hHeld ?_
    rotate_left
    focus (intro w hSw; (try dsimp only at hSw); go_simp; try with_reducible rfl)
    simp only [Act.put]
    refine wpAnyH_ready (rs := [4]) (by kernel_rfl) (by simp) ?_
    refine AllReadyH.cons rfl (fun K hK => ?_) (AllReadyH.nil)
    go_simp
    refine (HCALL.out _).mono ?_
    rintro e V2 ⟨rfl, hb2⟩
    replace hb2 := below0 hdr hb2
    refine hK.out _ _ (HSS.out _ hb2) (fun hHeld => ?_)
    clear hK K hdr
    try simp only [Act.put]
    refine wpAnyH_ready (rs := [7]) (by kernel_rfl) (by simp) ?_
    refine AllReadyH.cons rfl (fun K hK => ?_) (AllReadyH.nil)
    go_simp
    refine (HLAY.out V2 G (HK6.out.trans (Keep.of_below (below0 HB1.out hb2)) (fun k hk h => h)) (HAA.out.keep HH1.out (fun b hb => (below0 HB1.out hb2).block b (HGV.out b hb)))).mono ?_
    rintro e V3 ⟨⟨u, rfl⟩, G', q1, q2, q3⟩
    refine hK.out _ _ (HSK.out _ _ hb2 q2) (fun hHeld => ?_)
    clear hK K
    try simp only [Act.put]
    refine wpAnyH_done (by kernel_rfl) ?_ _
    refine ⟨by kernel_rfl, ?_⟩
    exact HFIN.out V2 V3 G' (below0 HB1.out hb2) q2 q1 q3
  case done =>
    intro xs O Z hall hI hD
    obtain ⟨G, h1, h2, h3, h4, h5, h6⟩ := hI
    have hxs : xs.length = n := by rw [show xs.length = l.length from hall, hn]
    rw [hxs] at h1
    have hgk : ∀ b, G b → b ≠ W5.heap.size := fun b hb e => by
      subst e
      rcases h2 _ hb with h | h
      · have := hGl _ h
        omega
      · have := h3 _ h
        omega
    have HFI := Lib.hid (show ∃ G, A n (Z.putObj W5.heap.size (.deferred none)) G ∧ Keep G0 w (Z.putObj W5.heap.size (.deferred none)) ∧ ∀ b, G b → G0 b ∨ w.heap.size ≤ b from
      ⟨G, HAA.out.keep h1 (fun b hb => World.putObj_heap_other (hgk b hb)), keep_grown h6 (putObj_grown Z _ _) (fun r e => by cases e; omega), fun b hb => by
        rcases h2 b hb with h | h
        · exact .inl h
        · have := h3 b h
          exact .inr (by omega)⟩)
    have HD := Lib.hid hD
    clear h1 h2 h3 h4 h5 h6 hit hI0 hD hall hxs hgk
    go_wp2_with fail
    refine ⟨by simp, .inl ⟨_, _, rfl, run_takeDeferred HD.out, ?_⟩⟩
    exact ⟨_, results_none rfl _ _ _, ⟨_, rfl⟩, HFI.out⟩
  case stop =>
    intro c' xs O Z _ h
    exact h.elim
set_option maxRecDepth 100000 in
set_option maxHeartbeats 8000000 in
theorem write_Gre (st pg sz fi : Int) (A : Nat → World → (Nat → Prop) → Prop) (HA : Says A) (G0 : Nat → Prop) (tv : Nat → Int) (cf : Nat) (cap : Array Value) (l : List Prt) (g n c : Nat) (t : TypeId) (w : World) (hrow : Row w g t (prtCells l)) (hn : l.length = n) (hm : n ≤ 6) (hc : n ≤ c) (hf : ∀ k, k ≤ n → frm l k ≤ 1000)
    (h0 : A 0 w G0) (hg0 : ¬ G0 g)
    (eg : ∀ args w, (callFunc cf args).run Tryz.prog w = .ok (.enter cf args) w)
    (HL : ∀ k, k < l.length → ∀ W G, Keep G0 w W → A k W G → Calls Tryz.prog cf (#[.int .i64 (tv k), .int .i64 ((prt l k).wd : Int)] ++ cap) W fun e W' => (∃ u, e = .returned u) ∧ ∃ G', A (k + 1) W' G' ∧ Keep G W W' ∧ ∀ b, G' b → G b ∨ W.heap.size ≤ b)
    (EG : ∀ k, k < l.length → ∀ args w, (callFunc (prt l k).tf args).run Tryz.prog w = .ok (.enter (prt l k).tf args) w)
    (HT : ∀ k, k < l.length → ∀ W, Calls Tryz.prog (prt l k).tf #[.agg #[.int .i64 st, .int .i64 pg, .int .i64 sz, .int .i64 fi]] W fun e W' => e = .returned (.int .i64 (tv k)) ∧ Below W.heap.size W W') :
    Calls Tryz.prog 223 #[.agg #[.int .i64 st, .int .i64 pg, .int .i64 sz, .int .i64 fi], .func (.func cf) #[] cap, .slice (some ⟨g, 0, none⟩) n c] w fun e w' => (∃ u, e = .returned u) ∧ ∃ G, A n w' G ∧ Keep G0 w w' ∧ ∀ b, G b → G0 b ∨ w.heap.size ≤ b := by
  have HEG := Lib.hid EG
  have HTT := Lib.hid HT
  have HLL := Lib.hid HL
  have hGl := HA.lt h0
  have HGL := Lib.hid hGl
  have HAA := Lib.hid HA
  clear EG HT HL
  refine calls_marks Tryz.func223 rfl ?_
  simp only [Tryz.ntmps223, List.size_toArray, List.length_cons, List.length_nil, Nat.reduceAdd, Nat.reduceSub, Array.replicate_succ, Array.replicate_zero, List.push_toArray, List.append_toArray, List.nil_append, List.cons_append]
  go_wp2_with fail
  obtain ⟨W4, hW4⟩ : ∃ W4, W4 = ((w.alloc (.cells #[.int .i64 st, .int .i64 pg, .int .i64 sz, .int .i64 fi] 43)).alloc (.cells #[.func (.func cf) #[] cap] 298)) := ⟨_, rfl⟩
  have hs4 : W4.heap.size = w.heap.size + 1 + 1 := by rw [hW4]; simp
  have hB4 : Below w.heap.size w W4 := by rw [hW4]; exact ((Below.refl _ _).alloc (Nat.le_refl _) _).alloc (by simp) _
  have hX1 : Row W4 (w.heap.size) 43 [.int .i64 st, .int .i64 pg, .int .i64 sz, .int .i64 fi] := by rw [hW4]; exact (Row.new w _ _).below (below1 _ _)
  have hX2 : Row W4 (w.heap.size + 1) 298 [.func (.func cf) #[] cap] := by rw [hW4]; exact Row.new_at _ _ _ (by simp)
  rw [← hW4]
  clear hW4
  refine (placed_Gre _ _ _ _).mono ?_
  rintro e W5 ⟨rfl, hW5⟩
  have hb5 : Below W4.heap.size W4 W5 := by rw [hW5]; exact below1 _ _
  have hs5 : W5.heap.size = W4.heap.size + 1 := by rw [hW5]; simp
  have hr5 : Row W5 W4.heap.size 145 [.slice (some ⟨g, 0, none⟩) n c] := by rw [hW5]; exact Row.new W4 _ _
  have hB5 := below0 hB4 hb5
  have hpl : Pls W5 W4.heap.size g n l t c := ⟨hr5.cell 0, hrow.below hB5⟩
  have hit := placed1_Gre W4.heap.size g n c l t W5 hpl hn hm hc hf
  have hpv := hpl.lt
  rw [hs4] at hit hpv
  have hI0 : WrI A w G0 (w.heap.size) (w.heap.size + 1) 43 [.int .i64 st, .int .i64 pg, .int .i64 sz, .int .i64 fi] (.func (.func cf) #[] cap) [] (fun _ => False) W5 := ⟨G0, HA.keep h0 (fun b hb => hB5.block b (hGl b hb)), fun b hb => .inl hb, fun _ h => h.elim, hX1.below hb5, hX2.below hb5, Keep.of_below hB5⟩
  have hgl := hrow.lt
  have hmix : Tryz.prog.follows .mixedOrders = true := by kernel_rfl
  clear hW5 hb5 hX1 hX2 hB4 hr5 hpl hrow hf
  go_wp2_with fail
  refine wpIn_wide.1 (wpIn_range_box (gf := 271) (lb := #[.pointer (some ⟨w.heap.size + 1 + 1, 0, none⟩)]) rfl (enters_of Tryz.func271 (by kernel_rfl) rfl) hit hpv (fun _ => rfl) (fun _ _ _ _ _ h => h)
    (WrI A w G0 (w.heap.size) (w.heap.size + 1) 43 [.int .i64 st, .int .i64 pg, .int .i64 sz, .int .i64 fi] (.func (.func cf) #[] cap)) (fun _ _ _ _ => False) (WrI.abid HA (by omega) hGl) (fun _ _ _ _ _ _ h _ _ => h) hI0
    (fun gg x => { tmps := #[.agg #[.int .i64 st, .int .i64 pg, .int .i64 sz, .int .i64 fi], .func (.func cf) #[] cap, .slice (some ⟨g, 0, none⟩) n c, .pointer (some ⟨w.heap.size, 0, none⟩), .pointer (some ⟨w.heap.size + 1, 0, none⟩), undef, undef, .pointer (some ⟨gg, 0, none⟩), .slice (some ⟨g, 0, none⟩) n c, .func (.func 271) #[] #[.pointer (some ⟨w.heap.size + 1 + 1, 0, none⟩)], .int .i64 (frm l x : Int), .agg #[.int .i64 ((prt l x).wd : Int), .int .i64 ((prt l x).mo : Int), .func (.func (prt l x).tf) #[] #[], .func (.func (prt l x).sf) #[] #[]], undef, undef, undef, undef, undef, undef, undef, undef], defers := [] })
    (fun x => .cells #[.int .i64 ((prt l x).wd : Int), .int .i64 ((prt l x).mo : Int), .func (.func (prt l x).tf) #[] #[], .func (.func (prt l x).sf) #[] #[]] 140) ?assign ?body ?done ?stop)
  case assign =>
    intro l' x W' K hK
    simp only [encP_eq]
    gi_wp2
    exact hK
  case body =>
    rintro l' pre x O V hVs hO ⟨G, h1, h2, h3, h4, h5, h6⟩ ⟨hxp, hxl⟩ _
    rw [← hxp] at h1
    obtain ⟨V1, hV1⟩ : ∃ V1, V1 = V.alloc (.cells #[.int .i64 ((prt l x).wd : Int), .int .i64 ((prt l x).mo : Int), .func (.func (prt l x).tf) #[] #[], .func (.func (prt l x).sf) #[] #[]] 140) := ⟨_, rfl⟩
    have hb1 : Below V.heap.size V V1 := by rw [hV1]; exact below1 _ _
    have hz1 : V1.heap.size = V.heap.size + 1 := by rw [hV1]; simp
    have hrp : Row V1 V.heap.size 140 [.int .i64 ((prt l x).wd : Int), .int .i64 ((prt l x).mo : Int), .func (.func (prt l x).tf) #[] #[], .func (.func (prt l x).sf) #[] #[]] := by rw [hV1]; exact Row.new _ _ _
    have HCALL := Lib.hid (HTT.out x hxl)
    have eg2 := HEG.out x hxl
    have HLAY := Lib.hid (fun W G hk ha => HLL.out x hxl W G hk ha)
    obtain ⟨p, hp⟩ : ∃ p, p = prt l x := ⟨_, rfl⟩
    rw [← hp] at HCALL eg2 HLAY hrp ⊢
    obtain ⟨a, b, tf, sf⟩ := p
    simp only at HCALL eg2 HLAY hrp ⊢
    obtain ⟨y, hy⟩ : ∃ y, y = tv x := ⟨_, rfl⟩
    rw [← hy] at HCALL HLAY
    rw [← hp] at hV1
    simp only at hV1
    rw [← hV1]
    have HGV := Lib.hid (HAA.out.lt h1)
    have HG2 := Lib.hid h2
    have HG3 := Lib.hid h3
    have HK6 := Lib.hid h6
    have HH1 := Lib.hid h1
    have HB1 := Lib.hid hb1
    have HOO := Lib.hid hO
    have HSS : Hid (∀ W, Below V1.heap.size V1 W → W.cell? ⟨w.heap.size, 0, none⟩ = some (.int .i64 st) ∧ W.cell? ⟨w.heap.size, 1, none⟩ = some (.int .i64 pg) ∧ W.cell? ⟨w.heap.size, 2, none⟩ = some (.int .i64 sz) ∧ W.cell? ⟨w.heap.size, 3, none⟩ = some (.int .i64 fi) ∧ W.cell? ⟨w.heap.size + 1, 0, none⟩ = some (.func (.func cf) #[] cap) ∧ W.cell? ⟨V.heap.size, 0, none⟩ = some (.int .i64 (a : Int)) ∧ W.cell? ⟨V.heap.size, 2, none⟩ = some (.func (.func tf) #[] #[])) := Lib.hid (fun W hb => by
      have q1 := (h4.below hb1).below hb
      have q2 : Boxed W (w.heap.size + 1) 298 (.func (.func cf) #[] cap) := (hb.block _ (by have := h5.lt; omega)).trans ((hb1.block _ h5.lt).trans h5)
      have q3 := hrp.below hb
      exact ⟨q1.cell 0, q1.cell 1, q1.cell 2, q1.cell 3, q2.cell, q3.cell 0, q3.cell 2⟩)
    have HSK : Hid (∀ W W', Below V1.heap.size V1 W → Keep G W W' → W'.cell? ⟨w.heap.size, 0, none⟩ = some (.int .i64 st) ∧ W'.cell? ⟨w.heap.size, 1, none⟩ = some (.int .i64 pg) ∧ W'.cell? ⟨w.heap.size, 2, none⟩ = some (.int .i64 sz) ∧ W'.cell? ⟨w.heap.size, 3, none⟩ = some (.int .i64 fi) ∧ W'.cell? ⟨w.heap.size + 1, 0, none⟩ = some (.func (.func cf) #[] cap) ∧ W'.cell? ⟨V.heap.size, 0, none⟩ = some (.int .i64 (a : Int)) ∧ W'.cell? ⟨V.heap.size, 2, none⟩ = some (.func (.func tf) #[] #[])) := Lib.hid (fun W W' hb hk => by
      have hs := hb.size
      have ng : ∀ j, j = w.heap.size ∨ j = w.heap.size + 1 ∨ j = V.heap.size → ¬ G j := fun j hj hg => by
        have hl := HGV.out j hg
        rcases h2 j hg with h | h
        · have := HGL.out j h
          omega
        · have := h3 j h
          omega
      have q1 := hk.row ((h4.below hb1).below hb) (ng _ (.inl rfl))
      have q2 : Boxed W' (w.heap.size + 1) 298 (.func (.func cf) #[] cap) := (hk.block _ (by have := h5.lt; omega) (ng _ (.inr (.inl rfl)))).trans ((hb.block _ (by have := h5.lt; omega)).trans ((hb1.block _ h5.lt).trans h5))
      have q3 := hk.row (hrp.below hb) (ng _ (.inr (.inr rfl)))
      exact ⟨q1.cell 0, q1.cell 1, q1.cell 2, q1.cell 3, q2.cell, q3.cell 0, q3.cell 2⟩)
    have HXP := Lib.hid hxp
    have HFIN : Hid (∀ V2 V3 G', Below V.heap.size V V2 → Keep G V2 V3 → A (x + 1) V3 G' → (∀ b, G' b → G b ∨ V2.heap.size ≤ b) → Keeps (pvL (w.heap.size + 1 + 1) g) W5.heap.size O (fun _ => False) V V3 ∧ WrI A w G0 (w.heap.size) (w.heap.size + 1) 43 [.int .i64 st, .int .i64 pg, .int .i64 sz, .int .i64 fi] (.func (.func cf) #[] cap) (pre ++ [x]) (nextO O (fun _ => False) V V3) V3) := Lib.hid (fun V2 V3 G' hb hk q1 q3 => by
      have hs := hb.size
      have hs3 := hk.size
      have hgl0 := hGl
      have nk : ∀ j, j = w.heap.size ∨ j = w.heap.size + 1 ∨ j = w.heap.size + 1 + 1 ∨ j = g ∨ (W5.heap.size ≤ j ∧ ¬ O j) → ¬ G j := fun j hj hg => by
        rcases h2 j hg with h | h
        · have := hGl j h
          rcases hj with rfl | rfl | rfl | rfl | ⟨h8, _⟩
          · omega
          · omega
          · omega
          · exact hg0 h
          · omega
        · have := h3 j h
          rcases hj with rfl | rfl | rfl | rfl | ⟨_, h9⟩
          · omega
          · omega
          · omega
          · omega
          · exact h9 h
      refine ⟨⟨by omega, fun k hkl hp => (hk.block k (by omega) (nk k ?_)).trans (hb.block k hkl)⟩, G', ?_, fun b hb' => ?_, fun b hb' => ?_, hk.row (h4.below hb) (nk _ (.inl rfl)), (hk.block _ (by have := h5.lt; omega) (nk _ (.inr (.inl rfl)))).trans ((hb.block _ h5.lt).trans h5), (h6.trans (Keep.of_below hb) (fun k hk h => h)).trans hk (fun k hkl hg => ?_)⟩
      · rcases hp with (h | h) | ⟨h, h', _⟩
        · exact .inr (.inr (.inl h))
        · exact .inr (.inr (.inr (.inl h)))
        · exact .inr (.inr (.inr (.inr ⟨h, h'⟩)))
      · have hl : (pre ++ [x]).length = x + 1 := by rw [List.length_append, ← hxp]; rfl
        rw [hl]
        exact q1
      · rcases q3 b hb' with h | h
        · rcases h2 b h with h | h
          · exact .inl h
          · exact .inr (.inl h)
        · exact .inr (.inr (.inr ⟨by omega, HAA.out.lt q1 b hb'⟩))
      · rcases hb' with h | h | h
        · exact h3 b h
        · exact h.elim
        · omega
      · rcases h2 k hg with h | h
        · exact h
        · have := h3 k h
          omega)
    have hdr : Below V1.heap.size V1 V1.drew := (Below.refl _ _).drew
    clear hp hy hV1 hb1 hrp h1 h2 h3 h4 h5 h6 hit hI0 hxp hO
    gi_wp2_with fail
    refine wpIn_region_heldH l' 8 (S := fun W => W.cell? ⟨w.heap.size, 0, none⟩ = some (.int .i64 st) ∧ W.cell? ⟨w.heap.size, 1, none⟩ = some (.int .i64 pg) ∧ W.cell? ⟨w.heap.size, 2, none⟩ = some (.int .i64 sz) ∧ W.cell? ⟨w.heap.size, 3, none⟩ = some (.int .i64 fi) ∧ W.cell? ⟨w.heap.size + 1, 0, none⟩ = some (.func (.func cf) #[] cap) ∧ W.cell? ⟨V.heap.size, 0, none⟩ = some (.int .i64 (a : Int)) ∧ W.cell? ⟨V.heap.size, 2, none⟩ = some (.func (.func tf) #[] #[])) hmix (by kernel_rfl) (by kernel_rfl) (HSS.out _ hdr) (fun hHeld => ?_)
    simp only [List.take_succ_cons, List.take_zero]
    refine wpAnyH_take (i := 0) (v := ?_) rfl (by kernel_rfl) (by kernel_rfl) (by kernel_rfl) (fun _ _ _ h => h) (Or.inl ⟨by kernel_rfl, ?_⟩) hHeld ?_
    rotate_left
    focus (intro w hSw; (try dsimp only at hSw); go_simp; try with_reducible rfl)
    simp only [Act.put]
    refine wpAnyH_take (i := 1) (v := ?_) rfl (by kernel_rfl) (by kernel_rfl) (by kernel_rfl) (fun _ _ _ h => h) (Or.inl ⟨by kernel_rfl, ?_⟩) hHeld ?_
    rotate_left
    focus (intro w hSw; (try dsimp only at hSw); go_simp; try with_reducible rfl)
    simp only [Act.put]
    refine wpAnyH_take (i := 2) (v := ?_) rfl (by kernel_rfl) (by kernel_rfl) (by kernel_rfl) (fun _ _ _ h => h) (Or.inl ⟨by kernel_rfl, ?_⟩) hHeld ?_
    rotate_left
    focus (intro w hSw; (try dsimp only at hSw); go_simp; try with_reducible rfl)
    simp only [Act.put]
    refine wpAnyH_take (i := 3) (v := ?_) rfl (by kernel_rfl) (by kernel_rfl) (by kernel_rfl) (fun _ _ _ h => h) (Or.inl ⟨by kernel_rfl, ?_⟩) hHeld ?_
    rotate_left
    focus (intro w hSw; (try dsimp only at hSw); go_simp; try with_reducible rfl)
    simp only [Act.put]
    refine wpAnyH_take (i := 5) (v := ?_) rfl (by kernel_rfl) (by kernel_rfl) (by kernel_rfl) (fun _ _ _ h => h) (Or.inl ⟨by kernel_rfl, ?_⟩) hHeld ?_
    rotate_left
    focus (intro w hSw; (try dsimp only at hSw); go_simp; try with_reducible rfl)
    simp only [Act.put]
    refine wpAnyH_take (i := 6) (v := ?_) rfl (by kernel_rfl) (by kernel_rfl) (by kernel_rfl) (fun _ _ _ h => h) (Or.inl ⟨by kernel_rfl, ?_⟩) hHeld ?_
    rotate_left
    focus (intro w hSw; (try dsimp only at hSw); go_simp; try with_reducible rfl)
    simp only [Act.put]
    refine wpAnyH_ready (rs := [4]) (by kernel_rfl) (by simp) ?_
    refine AllReadyH.cons rfl (fun K hK => ?_) (AllReadyH.nil)
    go_simp
    refine (HCALL.out _).mono ?_
    rintro e V2 ⟨rfl, hb2⟩
    replace hb2 := below0 hdr hb2
    refine hK.out _ _ (HSS.out _ hb2) (fun hHeld => ?_)
    clear hK K hdr
    try simp only [Act.put]
    refine wpAnyH_ready (rs := [7]) (by kernel_rfl) (by simp) ?_
    refine AllReadyH.cons rfl (fun K hK => ?_) (AllReadyH.nil)
    go_simp
    refine (HLAY.out V2 G (HK6.out.trans (Keep.of_below (below0 HB1.out hb2)) (fun k hk h => h)) (HAA.out.keep HH1.out (fun b hb => (below0 HB1.out hb2).block b (HGV.out b hb)))).mono ?_
    rintro e V3 ⟨⟨u, rfl⟩, G', q1, q2, q3⟩
    refine hK.out _ _ (HSK.out _ _ hb2 q2) (fun hHeld => ?_)
    clear hK K
    try simp only [Act.put]
    refine wpAnyH_done (by kernel_rfl) ?_ _
    refine ⟨by kernel_rfl, ?_⟩
    exact HFIN.out V2 V3 G' (below0 HB1.out hb2) q2 q1 q3
  case done =>
    intro xs O Z hall hI hD
    obtain ⟨G, h1, h2, h3, h4, h5, h6⟩ := hI
    have hxs : xs.length = n := by rw [show xs.length = l.length from hall, hn]
    rw [hxs] at h1
    have hgk : ∀ b, G b → b ≠ W5.heap.size := fun b hb e => by
      subst e
      rcases h2 _ hb with h | h
      · have := hGl _ h
        omega
      · have := h3 _ h
        omega
    have HFI := Lib.hid (show ∃ G, A n (Z.putObj W5.heap.size (.deferred none)) G ∧ Keep G0 w (Z.putObj W5.heap.size (.deferred none)) ∧ ∀ b, G b → G0 b ∨ w.heap.size ≤ b from
      ⟨G, HAA.out.keep h1 (fun b hb => World.putObj_heap_other (hgk b hb)), keep_grown h6 (putObj_grown Z _ _) (fun r e => by cases e; omega), fun b hb => by
        rcases h2 b hb with h | h
        · exact .inl h
        · have := h3 b h
          exact .inr (by omega)⟩)
    have HD := Lib.hid hD
    clear h1 h2 h3 h4 h5 h6 hit hI0 hD hall hxs hgk
    go_wp2_with fail
    refine ⟨by simp, .inl ⟨_, _, rfl, run_takeDeferred HD.out, ?_⟩⟩
    exact ⟨_, results_none rfl _ _ _, ⟨_, rfl⟩, HFI.out⟩
  case stop =>
    intro c' xs O Z _ h
    exact h.elim
end Go.Proofs.YtiahmccchpmdgaaGreatDoor.Me

namespace Go.Proofs.YtiahmccchpmdgaaGreatDoor.Me
open Go.RowKit Go.Shelf
attribute [local go_sem] Oper.semAt_some

/- THE PARTS OF BOTH KINDS OF RECORDS. -/
def smallP : List Prt := [⟨1, 4, 117, 118⟩, ⟨1, 0, 209, 210⟩, ⟨2, 65535, 120, 121⟩, ⟨4, 4294967295, 122, 123⟩]
theorem smallP_frm : ∀ k, k ≤ 4 → frm smallP k ≤ 1000 := by
  intro k hk
  rcases (show k = 0 ∨ k = 1 ∨ k = 2 ∨ k = 3 ∨ k = 4 by omega) with rfl | rfl | rfl | rfl | rfl <;> decide
theorem nought_Rec (K : Int) (w : World) : Calls Tryz.prog 119 #[.int .i64 K] w fun e w' => e = .returned (paV K 0 209 210) ∧ Below w.heap.size w w' := by
  go_enter Tryz.func119, Tryz.ntmps119
  go_wp2
  have r0 := Row.new w 129 [.int .i64 K, .int .i64 0, .func (.func 209) #[] #[], .func (.func 210) #[] #[]]
  have d0 := r0.cell 0
  have d1 := r0.cell 1
  have d2 := r0.cell 2
  have d3 := r0.cell 3
  exact bodyPost_ret (v := paV K 0 209 210) (by simp [results, Tryz.results119, go_sem, d0, d1, d2, d3]) rfl ⟨rfl, below1 _ _⟩
theorem tell_small1 (st sz no : Int) (w : World) : Calls Tryz.prog 117 #[.agg #[.int .i64 st, .int .i64 sz, .int .u32 no]] w fun e w' => e = .returned (.int .i64 st) ∧ Below w.heap.size w w' := by
  go_enter Tryz.func117, Tryz.ntmps117
  go_wp2
  go_ret
  exact ⟨rfl, below1 _ _⟩
theorem say_small2 (x0 x1 x2 : Value) (b : Nat) (z : Int) (w : World) (h : Row w b 41 [x0, x1, x2]) : Calls Tryz.prog 118 #[.pointer (some ⟨b, 0, none⟩), .int .i64 z] w fun e w' => (∃ u, e = .returned u) ∧ Row w' b 41 [.int .i64 z, x1, x2] ∧ Keep (· = b) w w' := by
  have c0 : w.cell? ⟨b, 0, none⟩ = _ := h.cell 0
  have f0 := h.frozen 0
  have HR := Lib.hid h
  go_enter Tryz.func118, Tryz.ntmps118
  go_wp2
  go_end0
  exact ⟨⟨_, rfl⟩, HR.out.set 0 _, (Keep.refl _).set _ (.inl rfl)⟩
theorem tell_nought_Rec_1 (st sz no : Int) (w : World) : Calls Tryz.prog 209 #[.agg #[.int .i64 st, .int .i64 sz, .int .u32 no]] w fun e w' => e = .returned (.int .i64 0) ∧ Below w.heap.size w w' := by
  go_enter Tryz.func209, Tryz.ntmps209
  go_wp2
  go_ret
  exact ⟨rfl, below1 _ _⟩
theorem say_nought_Rec_2 (cs : List Value) (b : Nat) (z : Int) (w : World) (h : Row w b 41 cs) : Calls Tryz.prog 210 #[.pointer (some ⟨b, 0, none⟩), .int .i64 z] w fun e w' => (∃ u, e = .returned u) ∧ Row w' b 41 cs ∧ Keep (· = b) w w' := by
  go_enter Tryz.func210, Tryz.ntmps210
  go_wp2
  go_end0
  exact ⟨⟨_, rfl⟩, h, Keep.refl _⟩
theorem tell_small3 (st sz no : Int) (w : World) : Calls Tryz.prog 120 #[.agg #[.int .i64 st, .int .i64 sz, .int .u32 no]] w fun e w' => e = .returned (.int .i64 sz) ∧ Below w.heap.size w w' := by
  go_enter Tryz.func120, Tryz.ntmps120
  go_wp2
  go_ret
  exact ⟨rfl, below1 _ _⟩
theorem say_small4 (x0 x1 x2 : Value) (b : Nat) (z : Int) (w : World) (h : Row w b 41 [x0, x1, x2]) : Calls Tryz.prog 121 #[.pointer (some ⟨b, 0, none⟩), .int .i64 z] w fun e w' => (∃ u, e = .returned u) ∧ Row w' b 41 [x0, .int .i64 z, x2] ∧ Keep (· = b) w w' := by
  have c0 : w.cell? ⟨b, 1, none⟩ = _ := h.cell 1
  have f0 := h.frozen 1
  have HR := Lib.hid h
  go_enter Tryz.func121, Tryz.ntmps121
  go_wp2
  go_end0
  exact ⟨⟨_, rfl⟩, HR.out.set 1 _, (Keep.refl _).set _ (.inl rfl)⟩
theorem tell_small5 (st sz no : Int) (w : World) (h : 0 ≤ no) (h2 : no < 4294967296) : Calls Tryz.prog 122 #[.agg #[.int .i64 st, .int .i64 sz, .int .u32 no]] w fun e w' => e = .returned (.int .i64 no) ∧ Below w.heap.size w w' := by
  have e0 : IntKind.i64.wrap no = no := wrapI _ (by omega) (by omega)
  go_enter Tryz.func122, Tryz.ntmps122
  go_wp2
  go_ret
  exact ⟨rfl, below1 _ _⟩
theorem say_small6 (x0 x1 x2 : Value) (b : Nat) (z : Int) (w : World) (h : Row w b 41 [x0, x1, x2]) (h1 : 0 ≤ z) (h2 : z < 4294967296) : Calls Tryz.prog 123 #[.pointer (some ⟨b, 0, none⟩), .int .i64 z] w fun e w' => (∃ u, e = .returned u) ∧ Row w' b 41 [x0, x1, .int .u32 z] ∧ Keep (· = b) w w' := by
  have c0 : w.cell? ⟨b, 2, none⟩ = _ := h.cell 2
  have f0 := h.frozen 2
  have e0 : IntKind.u32.wrap z = z := wrapU _ h1 h2
  have HR := Lib.hid h
  go_enter Tryz.func123, Tryz.ntmps123
  go_wp2
  go_end0
  exact ⟨⟨_, rfl⟩, HR.out.set 2 _, (Keep.refl _).set _ (.inl rfl)⟩
def greatP : List Prt := [⟨1, 4, 126, 127⟩, ⟨1, 0, 214, 215⟩, ⟨2, 65535, 129, 130⟩, ⟨4, 262144, 131, 132⟩, ⟨4, 65535, 133, 134⟩, ⟨4, 0, 214, 215⟩]
theorem greatP_frm : ∀ k, k ≤ 6 → frm greatP k ≤ 1000 := by
  intro k hk
  rcases (show k = 0 ∨ k = 1 ∨ k = 2 ∨ k = 3 ∨ k = 4 ∨ k = 5 ∨ k = 6 by omega) with rfl | rfl | rfl | rfl | rfl | rfl | rfl <;> decide
theorem nought_Gre (K : Int) (w : World) : Calls Tryz.prog 128 #[.int .i64 K] w fun e w' => e = .returned (paV K 0 214 215) ∧ Below w.heap.size w w' := by
  go_enter Tryz.func128, Tryz.ntmps128
  go_wp2
  have r0 := Row.new w 140 [.int .i64 K, .int .i64 0, .func (.func 214) #[] #[], .func (.func 215) #[] #[]]
  have d0 := r0.cell 0
  have d1 := r0.cell 1
  have d2 := r0.cell 2
  have d3 := r0.cell 3
  exact bodyPost_ret (v := paV K 0 214 215) (by simp [results, Tryz.results128, go_sem, d0, d1, d2, d3]) rfl ⟨rfl, below1 _ _⟩
theorem tell_great1 (st pg sz fi : Int) (w : World) : Calls Tryz.prog 126 #[.agg #[.int .i64 st, .int .i64 pg, .int .i64 sz, .int .i64 fi]] w fun e w' => e = .returned (.int .i64 st) ∧ Below w.heap.size w w' := by
  go_enter Tryz.func126, Tryz.ntmps126
  go_wp2
  go_ret
  exact ⟨rfl, below1 _ _⟩
theorem say_great2 (x0 x1 x2 x3 : Value) (b : Nat) (z : Int) (w : World) (h : Row w b 43 [x0, x1, x2, x3]) : Calls Tryz.prog 127 #[.pointer (some ⟨b, 0, none⟩), .int .i64 z] w fun e w' => (∃ u, e = .returned u) ∧ Row w' b 43 [.int .i64 z, x1, x2, x3] ∧ Keep (· = b) w w' := by
  have c0 : w.cell? ⟨b, 0, none⟩ = _ := h.cell 0
  have f0 := h.frozen 0
  have HR := Lib.hid h
  go_enter Tryz.func127, Tryz.ntmps127
  go_wp2
  go_end0
  exact ⟨⟨_, rfl⟩, HR.out.set 0 _, (Keep.refl _).set _ (.inl rfl)⟩
theorem tell_nought_Gre_1 (st pg sz fi : Int) (w : World) : Calls Tryz.prog 214 #[.agg #[.int .i64 st, .int .i64 pg, .int .i64 sz, .int .i64 fi]] w fun e w' => e = .returned (.int .i64 0) ∧ Below w.heap.size w w' := by
  go_enter Tryz.func214, Tryz.ntmps214
  go_wp2
  go_ret
  exact ⟨rfl, below1 _ _⟩
theorem say_nought_Gre_2 (cs : List Value) (b : Nat) (z : Int) (w : World) (h : Row w b 43 cs) : Calls Tryz.prog 215 #[.pointer (some ⟨b, 0, none⟩), .int .i64 z] w fun e w' => (∃ u, e = .returned u) ∧ Row w' b 43 cs ∧ Keep (· = b) w w' := by
  go_enter Tryz.func215, Tryz.ntmps215
  go_wp2
  go_end0
  exact ⟨⟨_, rfl⟩, h, Keep.refl _⟩
theorem tell_great3 (st pg sz fi : Int) (w : World) : Calls Tryz.prog 129 #[.agg #[.int .i64 st, .int .i64 pg, .int .i64 sz, .int .i64 fi]] w fun e w' => e = .returned (.int .i64 pg) ∧ Below w.heap.size w w' := by
  go_enter Tryz.func129, Tryz.ntmps129
  go_wp2
  go_ret
  exact ⟨rfl, below1 _ _⟩
theorem say_great4 (x0 x1 x2 x3 : Value) (b : Nat) (z : Int) (w : World) (h : Row w b 43 [x0, x1, x2, x3]) : Calls Tryz.prog 130 #[.pointer (some ⟨b, 0, none⟩), .int .i64 z] w fun e w' => (∃ u, e = .returned u) ∧ Row w' b 43 [x0, .int .i64 z, x2, x3] ∧ Keep (· = b) w w' := by
  have c0 : w.cell? ⟨b, 1, none⟩ = _ := h.cell 1
  have f0 := h.frozen 1
  have HR := Lib.hid h
  go_enter Tryz.func130, Tryz.ntmps130
  go_wp2
  go_end0
  exact ⟨⟨_, rfl⟩, HR.out.set 1 _, (Keep.refl _).set _ (.inl rfl)⟩
theorem tell_great5 (st pg sz fi : Int) (w : World) : Calls Tryz.prog 131 #[.agg #[.int .i64 st, .int .i64 pg, .int .i64 sz, .int .i64 fi]] w fun e w' => e = .returned (.int .i64 sz) ∧ Below w.heap.size w w' := by
  go_enter Tryz.func131, Tryz.ntmps131
  go_wp2
  go_ret
  exact ⟨rfl, below1 _ _⟩
theorem say_great6 (x0 x1 x2 x3 : Value) (b : Nat) (z : Int) (w : World) (h : Row w b 43 [x0, x1, x2, x3]) : Calls Tryz.prog 132 #[.pointer (some ⟨b, 0, none⟩), .int .i64 z] w fun e w' => (∃ u, e = .returned u) ∧ Row w' b 43 [x0, x1, .int .i64 z, x3] ∧ Keep (· = b) w w' := by
  have c0 : w.cell? ⟨b, 2, none⟩ = _ := h.cell 2
  have f0 := h.frozen 2
  have HR := Lib.hid h
  go_enter Tryz.func132, Tryz.ntmps132
  go_wp2
  go_end0
  exact ⟨⟨_, rfl⟩, HR.out.set 2 _, (Keep.refl _).set _ (.inl rfl)⟩
theorem tell_great7 (st pg sz fi : Int) (w : World) : Calls Tryz.prog 133 #[.agg #[.int .i64 st, .int .i64 pg, .int .i64 sz, .int .i64 fi]] w fun e w' => e = .returned (.int .i64 fi) ∧ Below w.heap.size w w' := by
  go_enter Tryz.func133, Tryz.ntmps133
  go_wp2
  go_ret
  exact ⟨rfl, below1 _ _⟩
theorem say_great8 (x0 x1 x2 x3 : Value) (b : Nat) (z : Int) (w : World) (h : Row w b 43 [x0, x1, x2, x3]) : Calls Tryz.prog 134 #[.pointer (some ⟨b, 0, none⟩), .int .i64 z] w fun e w' => (∃ u, e = .returned u) ∧ Row w' b 43 [x0, x1, x2, .int .i64 z] ∧ Keep (· = b) w w' := by
  have c0 : w.cell? ⟨b, 3, none⟩ = _ := h.cell 3
  have f0 := h.frozen 3
  have HR := Lib.hid h
  go_enter Tryz.func134, Tryz.ntmps134
  go_wp2
  go_end0
  exact ⟨⟨_, rfl⟩, HR.out.set 3 _, (Keep.refl _).set _ (.inl rfl)⟩
def smallC : List Value := [.int .i64 1, .int .i64 4, .func (.func 117) #[] #[], .func (.func 118) #[] #[], .int .i64 1, .int .i64 0, .func (.func 209) #[] #[], .func (.func 210) #[] #[], .int .i64 2, .int .i64 65535, .func (.func 120) #[] #[], .func (.func 121) #[] #[], .int .i64 4, .int .i64 4294967295, .func (.func 122) #[] #[], .func (.func 123) #[] #[]]
theorem smallC_eq : prtCells smallP = smallC := rfl
theorem small_info : (Tryz.prog.info? 130).map (·.size) = some 16 := by kernel_rfl
set_option maxRecDepth 100000 in
set_option maxHeartbeats 4000000 in
theorem small_any (w : World) : Calls Tryz.prog 62 #[] w fun e w' => e = .returned (.agg (prtCells smallP).toArray) ∧ Below w.heap.size w w' := by
  rw [smallC_eq]
  have HN := Lib.hid (fun K W => nought_Rec K W)
  have HFIN : Hid (∀ W, Row W w.heap.size 130 [.int .i64 0, .int .i64 0, .nilFunc, .nilFunc, .int .i64 0, .int .i64 0, .nilFunc, .nilFunc, .int .i64 0, .int .i64 0, .nilFunc, .nilFunc, .int .i64 0, .int .i64 0, .nilFunc, .nilFunc] → Below w.heap.size w W → (W.there w.heap.size 0 (smallC.toArray.size) ∧ (Tryz.prog.info? 130).map (·.size) = some smallC.toArray.size ∧ smallC.toArray.all (·.oneCell') = true ∧ (loadVar 130 ⟨w.heap.size, 0, none⟩).run Tryz.prog (W.setCells w.heap.size 0 smallC.toArray.toList) = .ok (.agg smallC.toArray) (W.setCells w.heap.size 0 smallC.toArray.toList) ∧ Below w.heap.size w (W.setCells w.heap.size 0 smallC.toArray.toList))) := Lib.hid (fun W h hb => by
    have r3 : Row (W.setCells w.heap.size 0 smallC.toArray.toList) w.heap.size 130 smallC := set_from smallC [] _ h rfl
    exact ⟨row_there h rfl, small_info, by kernel_rfl, run_loadVar_mid _ w.heap.size 0 _ smallC _ (row_range r3) Tryz.underlying130 rfl small_info, set_below w.heap.size _ (Nat.le_refl _) _ _ _ hb⟩)
  have HR0 := Lib.hid (Row.new w 130 [.int .i64 0, .int .i64 0, .nilFunc, .nilFunc, .int .i64 0, .int .i64 0, .nilFunc, .nilFunc, .int .i64 0, .int .i64 0, .nilFunc, .nilFunc, .int .i64 0, .int .i64 0, .nilFunc, .nilFunc])
  have HB0 := Lib.hid (below1 w (.cells #[.int .i64 0, .int .i64 0, .nilFunc, .nilFunc, .int .i64 0, .int .i64 0, .nilFunc, .nilFunc, .int .i64 0, .int .i64 0, .nilFunc, .nilFunc, .int .i64 0, .int .i64 0, .nilFunc, .nilFunc] 130))
  go_enter Tryz.func62, Tryz.ntmps62
  go_wp2_with fail
  refine (HN.out _ _).mono ?_
  rintro e w1 ⟨rfl, hb⟩
  have HR1 := Lib.hid (HR0.out.below hb)
  have HB1 := Lib.hid (below0 HB0.out hb)
  clear hb
  obtain ⟨t1, t2, t3, t4, t5⟩ := HFIN.out _ HR1.out HB1.out
  have HT := Lib.hid (And.intro t1 (And.intro t2 (And.intro t3 (And.intro t4 t5))))
  clear t1 t2 t3 t4 t5 HFIN
  go_wp2_with (refine wpList_store_mid rfl 130 (.tmp 0) (.tmp 5) rfl w.heap.size 0 smallC.toArray rfl rfl HT.out.1 HT.out.2.1 HT.out.2.2.1 ?_)
  exact bodyPost_ret (res_cell1 Tryz.results62 rfl HT.out.2.2.2.1) rfl ⟨rfl, HT.out.2.2.2.2⟩
def greatC : List Value := [.int .i64 1, .int .i64 4, .func (.func 126) #[] #[], .func (.func 127) #[] #[], .int .i64 1, .int .i64 0, .func (.func 214) #[] #[], .func (.func 215) #[] #[], .int .i64 2, .int .i64 65535, .func (.func 129) #[] #[], .func (.func 130) #[] #[], .int .i64 4, .int .i64 262144, .func (.func 131) #[] #[], .func (.func 132) #[] #[], .int .i64 4, .int .i64 65535, .func (.func 133) #[] #[], .func (.func 134) #[] #[], .int .i64 4, .int .i64 0, .func (.func 214) #[] #[], .func (.func 215) #[] #[]]
theorem greatC_eq : prtCells greatP = greatC := rfl
theorem great_info : (Tryz.prog.info? 141).map (·.size) = some 24 := by kernel_rfl
set_option maxRecDepth 100000 in
set_option maxHeartbeats 4000000 in
theorem great_any (w : World) : Calls Tryz.prog 65 #[] w fun e w' => e = .returned (.agg (prtCells greatP).toArray) ∧ Below w.heap.size w w' := by
  rw [greatC_eq]
  have HN := Lib.hid (fun K W => nought_Gre K W)
  have HFIN : Hid (∀ W, Row W w.heap.size 141 [.int .i64 0, .int .i64 0, .nilFunc, .nilFunc, .int .i64 0, .int .i64 0, .nilFunc, .nilFunc, .int .i64 0, .int .i64 0, .nilFunc, .nilFunc, .int .i64 0, .int .i64 0, .nilFunc, .nilFunc, .int .i64 0, .int .i64 0, .nilFunc, .nilFunc, .int .i64 0, .int .i64 0, .nilFunc, .nilFunc] → Below w.heap.size w W → (W.there w.heap.size 0 (greatC.toArray.size) ∧ (Tryz.prog.info? 141).map (·.size) = some greatC.toArray.size ∧ greatC.toArray.all (·.oneCell') = true ∧ (loadVar 141 ⟨w.heap.size, 0, none⟩).run Tryz.prog (W.setCells w.heap.size 0 greatC.toArray.toList) = .ok (.agg greatC.toArray) (W.setCells w.heap.size 0 greatC.toArray.toList) ∧ Below w.heap.size w (W.setCells w.heap.size 0 greatC.toArray.toList))) := Lib.hid (fun W h hb => by
    have r3 : Row (W.setCells w.heap.size 0 greatC.toArray.toList) w.heap.size 141 greatC := set_from greatC [] _ h rfl
    exact ⟨row_there h rfl, great_info, by kernel_rfl, run_loadVar_mid _ w.heap.size 0 _ greatC _ (row_range r3) Tryz.underlying141 rfl great_info, set_below w.heap.size _ (Nat.le_refl _) _ _ _ hb⟩)
  have HR0 := Lib.hid (Row.new w 141 [.int .i64 0, .int .i64 0, .nilFunc, .nilFunc, .int .i64 0, .int .i64 0, .nilFunc, .nilFunc, .int .i64 0, .int .i64 0, .nilFunc, .nilFunc, .int .i64 0, .int .i64 0, .nilFunc, .nilFunc, .int .i64 0, .int .i64 0, .nilFunc, .nilFunc, .int .i64 0, .int .i64 0, .nilFunc, .nilFunc])
  have HB0 := Lib.hid (below1 w (.cells #[.int .i64 0, .int .i64 0, .nilFunc, .nilFunc, .int .i64 0, .int .i64 0, .nilFunc, .nilFunc, .int .i64 0, .int .i64 0, .nilFunc, .nilFunc, .int .i64 0, .int .i64 0, .nilFunc, .nilFunc, .int .i64 0, .int .i64 0, .nilFunc, .nilFunc, .int .i64 0, .int .i64 0, .nilFunc, .nilFunc] 141))
  go_enter Tryz.func65, Tryz.ntmps65
  go_wp2_with fail
  refine (HN.out _ _).mono ?_
  rintro e w1 ⟨rfl, hb⟩
  have HR1 := Lib.hid (HR0.out.below hb)
  have HB1 := Lib.hid (below0 HB0.out hb)
  clear hb
  go_wp2_with fail
  refine (HN.out _ _).mono ?_
  rintro e w2 ⟨rfl, hb⟩
  have HR2 := Lib.hid (HR1.out.below hb)
  have HB2 := Lib.hid (below0 HB1.out hb)
  clear hb
  obtain ⟨t1, t2, t3, t4, t5⟩ := HFIN.out _ HR2.out HB2.out
  have HT := Lib.hid (And.intro t1 (And.intro t2 (And.intro t3 (And.intro t4 t5))))
  clear t1 t2 t3 t4 t5 HFIN
  go_wp2_with (refine wpList_store_mid rfl 141 (.tmp 0) (.tmp 7) rfl w.heap.size 0 greatC.toArray rfl rfl HT.out.1 HT.out.2.1 HT.out.2.2.1 ?_)
  exact bodyPost_ret (res_cell1 Tryz.results65 rfl HT.out.2.2.2.1) rfl ⟨rfl, HT.out.2.2.2.2⟩
end Go.Proofs.YtiahmccchpmdgaaGreatDoor.Me
