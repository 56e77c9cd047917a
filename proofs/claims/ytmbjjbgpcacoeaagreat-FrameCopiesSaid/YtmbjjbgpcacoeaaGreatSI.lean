import Derived.Test.YtmbjjbgpcacoeaaGreatSH
namespace Go.Proofs.YtmbjjbgpcacoeaaGreat
open Go.RowKit Go.Shelf Go.Maps Go.Sort
attribute [local go_sem] Oper.semAt_some

/- FRAMECOPIES: THE MAIN WAY. -/
/-- a load of many cells in a region that draws -/
theorem step_load_mid {P : Program} {ops : Array Oper} {o : Oper} {a : Act} {w : World} {K : Act → World → Prop} {Q : Exit → Act → World → Prop} {E : Prop} (hgd : o.guard = none) (ty : TypeId) (x : Operand) (ho : o.op = .load ty x)
    (b off : Nat) (hx : a.eval x = .pointer (some ⟨b, off, none⟩)) (cs : List Value) (d : TypeDesc) (hc : w.rangeAt b off cs) (hu : P.underlying ty = some d) (hd : d.isRow = true) (hi : (P.info? ty).map (·.size) = some cs.length)
    (h : K (a.put o.dst (.agg cs.toArray)) w) : if Region.wanted o (yielded ops a.tmps) = true then Oper.wp P o a w K Q else E := by
  rw [if_pos (by simp [Region.wanted, hgd])]
  exact wp_load_mid ty x ho b off hx cs d hc hu hd hi h
def gatKX2 {α : Type} (ti ts te : TypeId) (enc : α → List Value) (kk : Nat) (w : World) (bm bl B2 : Nat) (many : Nat) (c : Code) (pre : List α) (O : Nat → Prop) (V : World) : Prop := c = .exit 2 ∧ GatK ti ts te enc kk w bm bl B2 many pre O V ∧ pre.length = many ∧ ∀ k, O k → B2 + 2 ≤ k
theorem gatKX2.abid {α : Type} {ti ts te : TypeId} {enc : α → List Value} {kk : Nat} {w : World} {B2 many : Nat} {bm bl : Nat} (h : bm < B2 ∧ bl < B2 ∧ w.heap.size ≤ B2) (c : Code) : Abid B2 (gatKX2 ti ts te enc kk w bm bl B2 many c) :=
  fun s O V V' row hp hg hr => ⟨hp.1, GatK.abid h s O V V' row hp.2.1 hg hr, hp.2.2⟩
theorem row_take2 : ∀ (l : List (Nat × Nat)) (k : Nat), (l.flatMap encR).take (k * 2) = (l.take k).flatMap encR
  | [], k => by simp
  | r :: t, 0 => by simp
  | r :: t, k + 1 => by
    have := row_take2 t k
    rw [List.flatMap_cons, List.take_succ_cons, List.flatMap_cons, show (k + 1) * 2 = (encR r).length + k * 2 by show _ = 2 + _; omega, List.take_length_add_append, this]
section
variable {w V : World} {g g1 g2 a b bw bm n c c1 c2 : Nat} {p p1 p2 : Pl} {lo : List (Option Nat)} {A A1 A2 : Option Addr}
theorem F2.is1 (h : F2 w g g1 g2 a b bw bm n p p1 p2 lo A c A1 c1 A2 c2 V) (hl : p1.fr.length = n) (W : World) (hb : Below V.heap.size V W) :
    Calls Tryz.prog 14 #[bx a, rv p1 A1 n c1] W fun e w' => e = .returned (.bool true) ∧ Below V.heap.size V w' := by
  obtain ⟨F, h1⟩ := h.one
  exact (lawIs_any p1 A1 n c1 a F W (h1.below hb) hl (h.lies1.below hb)).mono fun _ _ ⟨e1, e2⟩ => ⟨e1, below0 hb e2⟩
theorem F2.is2 (h : F2 w g g1 g2 a b bw bm n p p1 p2 lo A c A1 c1 A2 c2 V) (hl : p2.fr.length = n) (W : World) (hb : Below V.heap.size V W) :
    Calls Tryz.prog 14 #[bx b, rv p2 A2 n c2] W fun e w' => e = .returned (.bool true) ∧ Below V.heap.size V w' := by
  obtain ⟨F, h1⟩ := h.two
  exact (lawIs_any p2 A2 n c2 b F W (h1.below hb) hl (h.lies2.below hb)).mono fun _ _ ⟨e1, e2⟩ => ⟨e1, below0 hb e2⟩
theorem F2.same (h : F2 w g g1 g2 a b bw bm n p p1 p2 lo A c A1 c1 A2 c2 V) (q : Bool) (hq : q = true ↔ p1.fr = p2.fr ∧ SameR p1 p2) (W : World) (hb : Below V.heap.size V W) :
    Calls Tryz.prog 15 #[bx a, bx b] W fun e w' => e = .returned (.bool q) ∧ Below V.heap.size V w' := by
  obtain ⟨F, h1⟩ := h.one
  obtain ⟨G, h2⟩ := h.two
  exact (sameF_any (h1.below hb) (h2.below hb)).mono fun _ _ ⟨⟨t, e1, e3⟩, e2⟩ => ⟨by rw [e1, Bool.eq_iff_iff.2 (e3.trans hq.symm)], below0 hb e2⟩
theorem F2.same' (h : F2 w g g1 g2 a b bw bm n p p1 p2 lo A c A1 c1 A2 c2 V) (q : Bool) (hq : q = true ↔ p1.fr = p2.fr ∧ SameR p1 p2) (W : World) (hb : Below V.heap.size V W) :
    Calls Tryz.prog 15 #[bx b, bx a] W fun e w' => e = .returned (.bool q) ∧ Below V.heap.size V w' := by
  obtain ⟨F, h1⟩ := h.one
  obtain ⟨G, h2⟩ := h.two
  have hc : (p2.fr = p1.fr ∧ SameR p2 p1) ↔ (p1.fr = p2.fr ∧ SameR p1 p2) := ⟨fun h => ⟨h.1.symm, Eq.symm h.2⟩, fun h => ⟨h.1.symm, Eq.symm h.2⟩⟩
  exact (sameF_any (h2.below hb) (h1.below hb)).mono fun _ _ ⟨⟨t, e1, e3⟩, e2⟩ => ⟨by rw [e1, Bool.eq_iff_iff.2 ((e3.trans hc).trans hq.symm)], below0 hb e2⟩
theorem F2.rows (h : F2 w g g1 g2 a b bw bm n p p1 p2 lo A c A1 c1 A2 c2 V) (q : Bool) (hq : q = true ↔ p1.fr = p2.fr ∧ SameR p1 p2) (hl1 : p1.fr.length = n) (hl2 : p2.fr.length = n) (hn : n ≤ 16384) (W : World) (hb : Below V.heap.size V W) :
    Calls Tryz.prog 16 #[rv p1 A1 n c1, rv p2 A2 n c2] W fun e w' => e = .returned (.bool q) ∧ Below V.heap.size V w' :=
  (rSame_any p1 p2 A1 A2 n n c1 c2 W hl1 hl2 hn (h.lies1.below hb) (h.lies2.below hb)).mono fun _ _ ⟨⟨t, e1, e3⟩, e2⟩ => ⟨by rw [e1, Bool.eq_iff_iff.2 (e3.trans hq.symm)], below0 hb e2⟩
end
set_option maxRecDepth 100000 in
set_option maxHeartbeats 16000000 in
theorem copies_main (l : List Ac) (A0 : Option Addr) (n0 c0 : Nat) (x y : Ac) (mn : Nat) (w : World) (h : Acs w l A0) (hl : l.length = n0) (hx : x.fits w) (hy : y.fits w) (hq : fewB (l ++ [x, y]) 32 = true) (hm1 : 1 ≤ mn) (hm9 : mn ≤ 9) :
    Calls Tryz.prog 3 #[.slice A0 n0 c0, .agg #[.int .i64 x.what, .int .i64 x.owner, .int .i64 x.n, .int .i64 x.at_, .slice x.A x.bs.length x.c, .int .i64 y.what, .int .i64 y.owner, .int .i64 y.n, .int .i64 y.at_, .slice y.A y.bs.length y.c], .int .i64 (mn : Int)] w fun e w' => e = .returned (.bool true) ∧ Below w.heap.size w w' := by
  have hn : n0 ≤ 1000000 := by
    unfold fewB at hq
    simp only [Bool.and_eq_true, decide_eq_true_eq, List.length_append, List.length_cons, List.length_nil] at hq
    omega
  obtain ⟨many, hmany⟩ : ∃ many : Int, many = (mn : Int) := ⟨_, rfl⟩
  rw [← hmany]
  obtain ⟨j0, hj, hj0, hj1, hj2⟩ := info_parts act_info
  have hW : ∃ W0, W0 = (w.alloc (.cells #[.int .i64 x.what, .int .i64 x.owner, .int .i64 x.n, .int .i64 x.at_, .slice x.A x.bs.length x.c, .int .i64 y.what, .int .i64 y.owner, .int .i64 y.n, .int .i64 y.at_, .slice y.A y.bs.length y.c] 26)).alloc (.cells #[.int .i64 many] 3) := ⟨_, rfl⟩
  obtain ⟨W0, hW0⟩ := hW
  have hb0 : Below w.heap.size w W0 := by rw [hW0]; exact below2 _ _ _
  have rx : Row W0 w.heap.size 26 [.int .i64 x.what, .int .i64 x.owner, .int .i64 x.n, .int .i64 x.at_, .slice x.A x.bs.length x.c, .int .i64 y.what, .int .i64 y.owner, .int .i64 y.n, .int .i64 y.at_, .slice y.A y.bs.length y.c] := by rw [hW0]; exact (Row.new w _ [.int .i64 x.what, .int .i64 x.owner, .int .i64 x.n, .int .i64 x.at_, .slice x.A x.bs.length x.c, .int .i64 y.what, .int .i64 y.owner, .int .i64 y.n, .int .i64 y.at_, .slice y.A y.bs.length y.c]).below (below1 _ _)
  have rm : Row W0 (w.heap.size + 1) 3 [.int .i64 many] := by rw [hW0]; exact Row.new_at _ _ [.int .i64 many] (by simp)
  have hs0 : W0.heap.size = w.heap.size + 1 + 1 := by rw [hW0]; simp
  have HSS := Lib.hid (fun V (hb : Below W0.heap.size W0 V) => (show (fun V : World => V.cell? ⟨w.heap.size, 0, none⟩ = some (.int .i64 x.what) ∧ V.cell? ⟨w.heap.size, 1, none⟩ = some (.int .i64 x.owner) ∧ V.cell? ⟨w.heap.size, 2, none⟩ = some (.int .i64 x.n) ∧ V.cell? ⟨w.heap.size, 3, none⟩ = some (.int .i64 x.at_) ∧ V.cell? ⟨w.heap.size, 4, none⟩ = some (.slice x.A x.bs.length x.c) ∧ V.cell? ⟨w.heap.size, 5, none⟩ = some (.int .i64 y.what) ∧ V.cell? ⟨w.heap.size, 6, none⟩ = some (.int .i64 y.owner) ∧ V.cell? ⟨w.heap.size, 7, none⟩ = some (.int .i64 y.n) ∧ V.cell? ⟨w.heap.size, 8, none⟩ = some (.int .i64 y.at_) ∧ V.cell? ⟨w.heap.size, 9, none⟩ = some (.slice y.A y.bs.length y.c) ∧ V.cell? ⟨w.heap.size + 1, 0, none⟩ = some (.int .i64 many)) V from ⟨(rx.below hb).cell 0, (rx.below hb).cell 1, (rx.below hb).cell 2, (rx.below hb).cell 3, (rx.below hb).cell 4, (rx.below hb).cell 5, (rx.below hb).cell 6, (rx.below hb).cell 7, (rx.below hb).cell 8, (rx.below hb).cell 9, (rm.below hb).cell 0⟩))
  have HS0 := Lib.hid hs0
  have HA := Lib.hid (h.below hb0)
  have HX := Lib.hid (hx.below hb0)
  have HY := Lib.hid (hy.below hb0)
  have HL := Lib.hid hl
  have HB0 := Lib.hid hb0
  have HW0 := Lib.hid hW0
  have hwk := Lib.hid (fun w => works_any w)
  obtain ⟨f, hf⟩ : ∃ f, f = fewB (l ++ [x, y]) 32 := ⟨_, rfl⟩
  have HFW := Lib.hid (fun V (A2 : Option Addr) (c2 : Nat) (hb : Below W0.heap.size W0 V) (hs : Sees V V.heap.size A2 ((l ++ [x, y]).flatMap Ac.cells)) => (show Calls Tryz.prog 6 #[.slice A2 (n0 + 2) c2, .int .i64 32] V (fun e w' => e = .returned (.bool f) ∧ V = w') from by
    have h1 := few_any (l ++ [x, y]) A2 (n0 + 2) c2 32 V ⟨hs, fun z hz => by
      rcases List.mem_append.1 hz with hz | hz
      · exact (HA.out.below hb).fits z hz
      · simp only [List.mem_cons, List.not_mem_nil, or_false] at hz
        rcases hz with rfl | rfl
        · exact HX.out.below hb
        · exact HY.out.below hb⟩ (by rw [List.length_append, HL.out]; rfl) (by omega)
    rw [← hf] at h1
    exact h1))
  have hll : (l.flatMap Ac.cells).length = n0 * 5 := by rw [acs_len, hl]
  have HSL := Lib.hid (fun V (hb : Below W0.heap.size W0 V) => (HA.out.below hb).sees)
  have HHF := Lib.hid hf
  clear h hx hy hl hb0 rx rm hs0 hW0 hf
  obtain rfl : f = true := HHF.out.trans hq
  have e1 : decide (many < 1) = false := decide_eq_false (by omega)
  have e2 : decide (9 < many) = false := decide_eq_false (by omega)
  have HMN := Lib.hid hmany
  obtain ⟨i0, hi, hz0, hz1, hz2⟩ := info_parts row_info
  have hnn : ∀ bo w, (binOp .eql 43 (.func (.func 49) #[] #[.pointer (some ⟨bo, 0, none⟩)]) .nilFunc).run Tryz.prog w = .ok (.bool false) w := fun bo w => by kernel_rfl
  have HNN := Lib.hid hnn
  have hnw := fun w => new_yes 8 w (by omega)
  have hrn := fun w => rnew_yes 8 w (by omega)
  clear hq hmany hnn
  refine calls_marks Tryz.func3 rfl ?_
  simp only [Tryz.ntmps3, List.size_toArray, List.length_cons, List.length_nil, Nat.reduceAdd, Nat.reduceSub, Array.replicate_succ, Array.replicate_zero, List.push_toArray, List.append_toArray, List.nil_append, List.cons_append]
  go_wp2_with fail
  rw [← HW0.out]
  refine wp_region_noPanic ?_
  refine (fun (HREST : ∀ (v24 v26 v31 v32 : Value) (W : World), Below W0.heap.size W0 W → (?G : Value → Value → Value → Value → World → Prop) v24 v26 v31 v32 W) => ?main) ?rest
  case main =>
    have hBc : Below W0.heap.size W0 W0.drew := (Below.refl _ _).drew
    refine wp_region_held_drew (S := (fun V : World => V.cell? ⟨w.heap.size, 0, none⟩ = some (.int .i64 x.what) ∧ V.cell? ⟨w.heap.size, 1, none⟩ = some (.int .i64 x.owner) ∧ V.cell? ⟨w.heap.size, 2, none⟩ = some (.int .i64 x.n) ∧ V.cell? ⟨w.heap.size, 3, none⟩ = some (.int .i64 x.at_) ∧ V.cell? ⟨w.heap.size, 4, none⟩ = some (.slice x.A x.bs.length x.c) ∧ V.cell? ⟨w.heap.size, 5, none⟩ = some (.int .i64 y.what) ∧ V.cell? ⟨w.heap.size, 6, none⟩ = some (.int .i64 y.owner) ∧ V.cell? ⟨w.heap.size, 7, none⟩ = some (.int .i64 y.n) ∧ V.cell? ⟨w.heap.size, 8, none⟩ = some (.int .i64 y.at_) ∧ V.cell? ⟨w.heap.size, 9, none⟩ = some (.slice y.A y.bs.length y.c) ∧ V.cell? ⟨w.heap.size + 1, 0, none⟩ = some (.int .i64 many))) (by kernel_rfl) (HSS.out _ hBc) (fun hHeld => ?_)
    refine wpAnyH_take (i := 1) (v := ?_) rfl (by kernel_rfl) (by kernel_rfl) (by kernel_rfl) (fun _ _ _ h => h) (Or.inl ⟨by kernel_rfl, ?_⟩) hHeld ?_
    rotate_left
    focus (intro w hSw; (try dsimp only at hSw); go_simp; try with_reducible rfl)
    simp only [Act.put]
    refine wpAnyH_take (i := 3) (v := ?_) rfl (by kernel_rfl) (by kernel_rfl) (by kernel_rfl) (fun _ _ _ h => h) (Or.inl ⟨by kernel_rfl, ?_⟩) hHeld ?_
    rotate_left
    focus (intro w hSw; (try dsimp only at hSw); go_simp; try with_reducible rfl)
    simp only [Act.put]
    refine wpAnyH_take (i := 4) (v := ?_) rfl (by kernel_rfl) (by kernel_rfl) (by kernel_rfl) (fun _ _ _ h => h) (Or.inl ⟨by kernel_rfl, ?_⟩) hHeld ?_
    rotate_left
    focus (intro w hSw; (try dsimp only at hSw); go_simp; try with_reducible rfl)
    simp only [Act.put]
    refine wpAnyH_take (i := 5) (v := ?_) rfl (by kernel_rfl) (by kernel_rfl) (by kernel_rfl) (fun _ _ _ h => h) (Or.inl ⟨by kernel_rfl, ?_⟩) hHeld ?_
    rotate_left
    focus (intro w hSw; (try dsimp only at hSw); go_simp; try with_reducible rfl)
    simp only [Act.put]
    refine wpAnyH_take (i := 6) (v := ?_) rfl (by kernel_rfl) (by kernel_rfl) (by kernel_rfl) (fun _ _ _ h => h) (Or.inl ⟨by kernel_rfl, ?_⟩) hHeld ?_
    rotate_left
    focus (intro w hSw; (try dsimp only at hSw); go_simp; try with_reducible rfl)
    simp only [Act.put]
    refine wpAnyH_ready (rs := [0, 7]) (by kernel_rfl) (by simp) ?_
    refine AllReadyH.cons rfl (fun K hK => ?_) (AllReadyH.cons rfl (fun K hK => ?_) (AllReadyH.nil))
    · go_simp
      have hown0 : ((W0.drew).alloc (.cells #[] 25)).ownsRow W0.heap.size 25 5 (.slice (some ⟨(W0.drew).heap.size, 0, none⟩) 0 0) 0 [] := World.ownsRow_lit (W0.drew) #[] 0 hBc.size (Nat.zero_le _) rfl
      replace hBc := hBc.alloc hBc.size (.cells #[] 25)
      refine hK.out _ _ (HSS.out _ hBc) (fun hHeld => ?_)
      clear hK K
      try simp only [Act.put]
      refine wpAnyH_ready (rs := [2, 7]) (by kernel_rfl) (by simp) ?_
      refine AllReadyH.cons rfl (fun K hK => ?_) (AllReadyH.cons rfl (fun K hK => ?_) (AllReadyH.nil))
      · refine step_append_sees rfl (.tmp 24) (.tmp 25) 22 rfl W0.heap.size 25 j0 _ 5 56 Tryz.underlying22 hj hj0 hj1 hj2 rfl (by decide) _ 0 [] (by simp [Act.eval]) hown0 _ A0 n0 c0 (l.flatMap Ac.cells) (by simp [Act.eval]) hll (HSL.out _ hBc) acs_one (by unfold maxLen; omega) (by omega) hBc.size ?_
        intro v26 V26 hown1 hg1 hv1
        have hBn := hBc.grown hg1 hBc.size (fun k hk => (hown0.lt k hk).1)
        replace hBc := hBn
        clear hBn
        refine hK.out _ _ (HSS.out _ hBc) (fun hHeld => ?_)
        clear hK K
        try simp only [Act.put]
        refine wpAnyH_ready (rs := [7]) (by kernel_rfl) (by simp) ?_
        refine AllReadyH.cons rfl (fun K hK => ?_) (AllReadyH.nil)
        go_simp
        have hr31 : Row ((V26).alloc (.cells #[.int .i64 x.what, .int .i64 x.owner, .int .i64 x.n, .int .i64 x.at_, .slice x.A x.bs.length x.c, .int .i64 y.what, .int .i64 y.owner, .int .i64 y.n, .int .i64 y.at_, .slice y.A y.bs.length y.c] 25)) (V26).heap.size 25 [.int .i64 x.what, .int .i64 x.owner, .int .i64 x.n, .int .i64 x.at_, .slice x.A x.bs.length x.c, .int .i64 y.what, .int .i64 y.owner, .int .i64 y.n, .int .i64 y.at_, .slice y.A y.bs.length y.c] := Row.new (V26) _ [.int .i64 x.what, .int .i64 x.owner, .int .i64 x.n, .int .i64 x.at_, .slice x.A x.bs.length x.c, .int .i64 y.what, .int .i64 y.owner, .int .i64 y.n, .int .i64 y.at_, .slice y.A y.bs.length y.c]
        replace hBc := hBc.alloc hBc.size (.cells #[.int .i64 x.what, .int .i64 x.owner, .int .i64 x.n, .int .i64 x.at_, .slice x.A x.bs.length x.c, .int .i64 y.what, .int .i64 y.owner, .int .i64 y.n, .int .i64 y.at_, .slice y.A y.bs.length y.c] 25)
        refine hK.out _ _ (HSS.out _ hBc) (fun hHeld => ?_)
        clear hK K
        try simp only [Act.put]
        replace hown1 := hown1.alloc (.cells #[.int .i64 x.what, .int .i64 x.owner, .int .i64 x.n, .int .i64 x.at_, .slice x.A x.bs.length x.c, .int .i64 y.what, .int .i64 y.owner, .int .i64 y.n, .int .i64 y.at_, .slice y.A y.bs.length y.c] 25)
        refine wpAnyH_ready (rs := [8]) (by kernel_rfl) (by simp) ?_
        refine AllReadyH.cons rfl (fun K hK => ?_) (AllReadyH.nil)
        refine step_append_sees rfl (.tmp 26) (.tmp 31) 22 rfl W0.heap.size 25 j0 _ 5 56 Tryz.underlying22 hj hj0 hj1 hj2 rfl (by decide) _ (0 + n0) ([] ++ l.flatMap Ac.cells) (by simp [Act.eval]) hown1 _ _ 2 2 [.int .i64 x.what, .int .i64 x.owner, .int .i64 x.n, .int .i64 x.at_, .slice x.A x.bs.length x.c, .int .i64 y.what, .int .i64 y.owner, .int .i64 y.n, .int .i64 y.at_, .slice y.A y.bs.length y.c] (by simp [Act.eval]) rfl hr31.sees (by intro u hu; simp only [List.mem_cons, List.not_mem_nil, or_false] at hu; rcases hu with rfl | rfl | rfl | rfl | rfl | rfl | rfl | rfl | rfl | rfl <;> rfl) (by unfold maxLen; omega) (by omega) hBc.size ?_
        intro v32 V32 hown2 hg2 hv2
        replace hBc := hBc.grown hg2 hBc.size (fun k hk => (hown1.lt k hk).1)
        obtain ⟨A32, c32, rfl⟩ := own_slice hown2
        refine hK.out _ _ (HSS.out _ hBc) (fun hHeld => ?_)
        clear hK K
        try simp only [Act.put]
        refine wpAnyH_ready (rs := [9]) (by kernel_rfl) (by simp) ?_
        refine AllReadyH.cons rfl (fun K hK => ?_) (AllReadyH.nil)
        go_simp
        refine (HFW.out _ _ _ hBc (by
          have h3 := sees_any hown2
          simpa [List.flatMap_append, Ac.cells, Ac.sl] using h3)).mono ?_
        rintro e _ ⟨rfl, rfl⟩
        refine hK.out _ _ (HSS.out _ hBc) (fun hHeld => ?_)
        clear hK K
        try simp only [Act.put]
        refine wpAnyH_take (i := 10) (v := ?_) rfl (by kernel_rfl) (by kernel_rfl) (by kernel_rfl) (fun _ _ _ h => h) (Or.inl ⟨by kernel_rfl, ?_⟩) hHeld ?_
        rotate_left
        focus (intro w hSw; (try dsimp only at hSw); go_simp; try with_reducible rfl)
        simp only [Act.put]
        refine wpAnyH_take (i := 11) (v := ?_) rfl (by kernel_rfl) (by kernel_rfl) (by kernel_rfl) (fun _ _ _ h => h) (Or.inl ⟨by kernel_rfl, ?_⟩) hHeld ?_
        rotate_left
        focus (intro w hSw; (try dsimp only at hSw); go_simp; try with_reducible rfl)
        simp only [Act.put]
        refine wpAnyH_take (i := 12) (v := ?_) rfl (by kernel_rfl) (by kernel_rfl) (by kernel_rfl) (fun _ _ _ h => h) (Or.inl ⟨by kernel_rfl, ?_⟩) hHeld ?_
        rotate_left
        focus (intro w hSw; (try dsimp only at hSw); go_simp; try with_reducible rfl)
        simp only [Act.put]
        refine wpAnyH_take (i := 13) (v := ?_) rfl (by kernel_rfl) (by kernel_rfl) (by kernel_rfl) (fun _ _ _ h => h) (Or.inl ⟨by kernel_rfl, ?_⟩) hHeld ?_
        rotate_left
        focus (intro w hSw; (try dsimp only at hSw); go_simp; try with_reducible rfl)
        simp only [Act.put]
        refine wpAnyH_take (i := 14) (v := ?_) rfl (by kernel_rfl) (by kernel_rfl) (by kernel_rfl) (fun _ _ _ h => h) (Or.inl ⟨by kernel_rfl, ?_⟩) hHeld ?_
        rotate_left
        focus (intro w hSw; (try dsimp only at hSw); go_simp; try with_reducible rfl)
        simp only [Act.put]
        refine wpAnyH_take (i := 15) (v := ?_) rfl (by kernel_rfl) (by kernel_rfl) (by kernel_rfl) (fun _ _ _ h => h) (Or.inl ⟨by kernel_rfl, ?_⟩) hHeld ?_
        rotate_left
        focus (intro w hSw; (try dsimp only at hSw); go_simp; try with_reducible rfl)
        simp only [Act.put]
        refine wpAnyH_take (i := 16) (v := ?_) rfl (by kernel_rfl) (by kernel_rfl) (by kernel_rfl) (fun _ _ _ h => h) (Or.inl ⟨by kernel_rfl, ?_⟩) hHeld ?_
        rotate_left
        focus (intro w hSw; (try dsimp only at hSw); go_simp; try with_reducible rfl)
        simp only [Act.put]
        refine wpAnyH_take (i := 17) (v := ?_) rfl (by kernel_rfl) (by kernel_rfl) (by kernel_rfl) (fun _ _ _ h => h) (Or.inl ⟨by kernel_rfl, ?_⟩) hHeld ?_
        rotate_left
        focus (intro w hSw; (try dsimp only at hSw); go_simp; try with_reducible rfl)
        simp only [Act.put]
        refine wpAnyH_ready (rs := [18]) (by kernel_rfl) (by simp) ?_
        refine AllReadyH.cons rfl (fun K hK => ?_) (AllReadyH.nil)
        go_simp
        refine hK.out _ _ (HSS.out _ hBc) (fun hHeld => ?_)
        clear hK K
        try simp only [Act.put]
        refine wpAnyH_done (by kernel_rfl) ?_ _
        refine NoPanic.normal ?_
        obtain ⟨v24, h24⟩ : ∃ v, v = Value.slice (some ⟨W0.drew.heap.size, 0, none⟩) 0 0 := ⟨_, rfl⟩
        obtain ⟨v31, h31⟩ : ∃ v, v = Value.slice (some ⟨V26.heap.size, 0, none⟩) 2 2 := ⟨_, rfl⟩
        obtain ⟨v32, h32⟩ : ∃ v, v = Value.slice A32 (n0 + 2) c32 := ⟨_, rfl⟩
        simp only [World.size_drew] at h24 h31
        rw [← h24, ← h31, ← h32]
        exact HREST v24 v26 v31 v32 V32 hBc
      · go_simp
        have hr31 : Row (((W0.drew.alloc (.cells #[] 25))).alloc (.cells #[.int .i64 x.what, .int .i64 x.owner, .int .i64 x.n, .int .i64 x.at_, .slice x.A x.bs.length x.c, .int .i64 y.what, .int .i64 y.owner, .int .i64 y.n, .int .i64 y.at_, .slice y.A y.bs.length y.c] 25)) ((W0.drew.alloc (.cells #[] 25))).heap.size 25 [.int .i64 x.what, .int .i64 x.owner, .int .i64 x.n, .int .i64 x.at_, .slice x.A x.bs.length x.c, .int .i64 y.what, .int .i64 y.owner, .int .i64 y.n, .int .i64 y.at_, .slice y.A y.bs.length y.c] := Row.new ((W0.drew.alloc (.cells #[] 25))) _ [.int .i64 x.what, .int .i64 x.owner, .int .i64 x.n, .int .i64 x.at_, .slice x.A x.bs.length x.c, .int .i64 y.what, .int .i64 y.owner, .int .i64 y.n, .int .i64 y.at_, .slice y.A y.bs.length y.c]
        replace hBc := hBc.alloc hBc.size (.cells #[.int .i64 x.what, .int .i64 x.owner, .int .i64 x.n, .int .i64 x.at_, .slice x.A x.bs.length x.c, .int .i64 y.what, .int .i64 y.owner, .int .i64 y.n, .int .i64 y.at_, .slice y.A y.bs.length y.c] 25)
        refine hK.out _ _ (HSS.out _ hBc) (fun hHeld => ?_)
        clear hK K
        try simp only [Act.put]
        replace hown0 := hown0.alloc (.cells #[.int .i64 x.what, .int .i64 x.owner, .int .i64 x.n, .int .i64 x.at_, .slice x.A x.bs.length x.c, .int .i64 y.what, .int .i64 y.owner, .int .i64 y.n, .int .i64 y.at_, .slice y.A y.bs.length y.c] 25)
        refine wpAnyH_ready (rs := [2]) (by kernel_rfl) (by simp) ?_
        refine AllReadyH.cons rfl (fun K hK => ?_) (AllReadyH.nil)
        refine step_append_sees rfl (.tmp 24) (.tmp 25) 22 rfl W0.heap.size 25 j0 _ 5 56 Tryz.underlying22 hj hj0 hj1 hj2 rfl (by decide) _ 0 [] (by simp [Act.eval]) hown0 _ A0 n0 c0 (l.flatMap Ac.cells) (by simp [Act.eval]) hll (HSL.out _ hBc) acs_one (by unfold maxLen; omega) (by omega) hBc.size ?_
        intro v26 V26 hown1 hg1 hv1
        have hBn := hBc.grown hg1 hBc.size (fun k hk => (hown0.lt k hk).1)
        replace hBc := hBn
        clear hBn
        refine hK.out _ _ (HSS.out _ hBc) (fun hHeld => ?_)
        clear hK K
        try simp only [Act.put]
        have hne31 : some ((W0.drew.alloc (.cells #[] 25)).heap.size) ≠ (Value.slice (some ⟨W0.drew.heap.size, 0, none⟩) 0 0).ownBlock := fun e => by
          have e2 := Option.some.inj e
          simp at e2
        replace hr31 := hr31.same (hg1.block _ hr31.lt hne31)
        refine wpAnyH_ready (rs := [8]) (by kernel_rfl) (by simp) ?_
        refine AllReadyH.cons rfl (fun K hK => ?_) (AllReadyH.nil)
        refine step_append_sees rfl (.tmp 26) (.tmp 31) 22 rfl W0.heap.size 25 j0 _ 5 56 Tryz.underlying22 hj hj0 hj1 hj2 rfl (by decide) _ (0 + n0) ([] ++ l.flatMap Ac.cells) (by simp [Act.eval]) hown1 _ _ 2 2 [.int .i64 x.what, .int .i64 x.owner, .int .i64 x.n, .int .i64 x.at_, .slice x.A x.bs.length x.c, .int .i64 y.what, .int .i64 y.owner, .int .i64 y.n, .int .i64 y.at_, .slice y.A y.bs.length y.c] (by simp [Act.eval]) rfl hr31.sees (by intro u hu; simp only [List.mem_cons, List.not_mem_nil, or_false] at hu; rcases hu with rfl | rfl | rfl | rfl | rfl | rfl | rfl | rfl | rfl | rfl <;> rfl) (by unfold maxLen; omega) (by omega) hBc.size ?_
        intro v32 V32 hown2 hg2 hv2
        replace hBc := hBc.grown hg2 hBc.size (fun k hk => (hown1.lt k hk).1)
        obtain ⟨A32, c32, rfl⟩ := own_slice hown2
        refine hK.out _ _ (HSS.out _ hBc) (fun hHeld => ?_)
        clear hK K
        try simp only [Act.put]
        refine wpAnyH_ready (rs := [9]) (by kernel_rfl) (by simp) ?_
        refine AllReadyH.cons rfl (fun K hK => ?_) (AllReadyH.nil)
        go_simp
        refine (HFW.out _ _ _ hBc (by
          have h3 := sees_any hown2
          simpa [List.flatMap_append, Ac.cells, Ac.sl] using h3)).mono ?_
        rintro e _ ⟨rfl, rfl⟩
        refine hK.out _ _ (HSS.out _ hBc) (fun hHeld => ?_)
        clear hK K
        try simp only [Act.put]
        refine wpAnyH_take (i := 10) (v := ?_) rfl (by kernel_rfl) (by kernel_rfl) (by kernel_rfl) (fun _ _ _ h => h) (Or.inl ⟨by kernel_rfl, ?_⟩) hHeld ?_
        rotate_left
        focus (intro w hSw; (try dsimp only at hSw); go_simp; try with_reducible rfl)
        simp only [Act.put]
        refine wpAnyH_take (i := 11) (v := ?_) rfl (by kernel_rfl) (by kernel_rfl) (by kernel_rfl) (fun _ _ _ h => h) (Or.inl ⟨by kernel_rfl, ?_⟩) hHeld ?_
        rotate_left
        focus (intro w hSw; (try dsimp only at hSw); go_simp; try with_reducible rfl)
        simp only [Act.put]
        refine wpAnyH_take (i := 12) (v := ?_) rfl (by kernel_rfl) (by kernel_rfl) (by kernel_rfl) (fun _ _ _ h => h) (Or.inl ⟨by kernel_rfl, ?_⟩) hHeld ?_
        rotate_left
        focus (intro w hSw; (try dsimp only at hSw); go_simp; try with_reducible rfl)
        simp only [Act.put]
        refine wpAnyH_take (i := 13) (v := ?_) rfl (by kernel_rfl) (by kernel_rfl) (by kernel_rfl) (fun _ _ _ h => h) (Or.inl ⟨by kernel_rfl, ?_⟩) hHeld ?_
        rotate_left
        focus (intro w hSw; (try dsimp only at hSw); go_simp; try with_reducible rfl)
        simp only [Act.put]
        refine wpAnyH_take (i := 14) (v := ?_) rfl (by kernel_rfl) (by kernel_rfl) (by kernel_rfl) (fun _ _ _ h => h) (Or.inl ⟨by kernel_rfl, ?_⟩) hHeld ?_
        rotate_left
        focus (intro w hSw; (try dsimp only at hSw); go_simp; try with_reducible rfl)
        simp only [Act.put]
        refine wpAnyH_take (i := 15) (v := ?_) rfl (by kernel_rfl) (by kernel_rfl) (by kernel_rfl) (fun _ _ _ h => h) (Or.inl ⟨by kernel_rfl, ?_⟩) hHeld ?_
        rotate_left
        focus (intro w hSw; (try dsimp only at hSw); go_simp; try with_reducible rfl)
        simp only [Act.put]
        refine wpAnyH_take (i := 16) (v := ?_) rfl (by kernel_rfl) (by kernel_rfl) (by kernel_rfl) (fun _ _ _ h => h) (Or.inl ⟨by kernel_rfl, ?_⟩) hHeld ?_
        rotate_left
        focus (intro w hSw; (try dsimp only at hSw); go_simp; try with_reducible rfl)
        simp only [Act.put]
        refine wpAnyH_take (i := 17) (v := ?_) rfl (by kernel_rfl) (by kernel_rfl) (by kernel_rfl) (fun _ _ _ h => h) (Or.inl ⟨by kernel_rfl, ?_⟩) hHeld ?_
        rotate_left
        focus (intro w hSw; (try dsimp only at hSw); go_simp; try with_reducible rfl)
        simp only [Act.put]
        refine wpAnyH_ready (rs := [18]) (by kernel_rfl) (by simp) ?_
        refine AllReadyH.cons rfl (fun K hK => ?_) (AllReadyH.nil)
        go_simp
        refine hK.out _ _ (HSS.out _ hBc) (fun hHeld => ?_)
        clear hK K
        try simp only [Act.put]
        refine wpAnyH_done (by kernel_rfl) ?_ _
        refine NoPanic.normal ?_
        obtain ⟨v24, h24⟩ : ∃ v, v = Value.slice (some ⟨W0.drew.heap.size, 0, none⟩) 0 0 := ⟨_, rfl⟩
        obtain ⟨v31, h31⟩ : ∃ v, v = Value.slice (some ⟨(W0.drew.alloc (.cells #[] 25)).heap.size, 0, none⟩) 2 2 := ⟨_, rfl⟩
        obtain ⟨v32, h32⟩ : ∃ v, v = Value.slice A32 (n0 + 2) c32 := ⟨_, rfl⟩
        simp only [World.size_drew, World.size_alloc] at h24 h31
        rw [← h24, ← h31, ← h32]
        exact HREST v24 v26 v31 v32 V32 hBc
    · go_simp
      have hr31 : Row ((W0.drew).alloc (.cells #[.int .i64 x.what, .int .i64 x.owner, .int .i64 x.n, .int .i64 x.at_, .slice x.A x.bs.length x.c, .int .i64 y.what, .int .i64 y.owner, .int .i64 y.n, .int .i64 y.at_, .slice y.A y.bs.length y.c] 25)) (W0.drew).heap.size 25 [.int .i64 x.what, .int .i64 x.owner, .int .i64 x.n, .int .i64 x.at_, .slice x.A x.bs.length x.c, .int .i64 y.what, .int .i64 y.owner, .int .i64 y.n, .int .i64 y.at_, .slice y.A y.bs.length y.c] := Row.new (W0.drew) _ [.int .i64 x.what, .int .i64 x.owner, .int .i64 x.n, .int .i64 x.at_, .slice x.A x.bs.length x.c, .int .i64 y.what, .int .i64 y.owner, .int .i64 y.n, .int .i64 y.at_, .slice y.A y.bs.length y.c]
      replace hBc := hBc.alloc hBc.size (.cells #[.int .i64 x.what, .int .i64 x.owner, .int .i64 x.n, .int .i64 x.at_, .slice x.A x.bs.length x.c, .int .i64 y.what, .int .i64 y.owner, .int .i64 y.n, .int .i64 y.at_, .slice y.A y.bs.length y.c] 25)
      refine hK.out _ _ (HSS.out _ hBc) (fun hHeld => ?_)
      clear hK K
      try simp only [Act.put]
      refine wpAnyH_ready (rs := [0]) (by kernel_rfl) (by simp) ?_
      refine AllReadyH.cons rfl (fun K hK => ?_) (AllReadyH.nil)
      go_simp
      have hown0 : (((W0.drew.alloc (.cells #[.int .i64 x.what, .int .i64 x.owner, .int .i64 x.n, .int .i64 x.at_, .slice x.A x.bs.length x.c, .int .i64 y.what, .int .i64 y.owner, .int .i64 y.n, .int .i64 y.at_, .slice y.A y.bs.length y.c] 25))).alloc (.cells #[] 25)).ownsRow W0.heap.size 25 5 (.slice (some ⟨((W0.drew.alloc (.cells #[.int .i64 x.what, .int .i64 x.owner, .int .i64 x.n, .int .i64 x.at_, .slice x.A x.bs.length x.c, .int .i64 y.what, .int .i64 y.owner, .int .i64 y.n, .int .i64 y.at_, .slice y.A y.bs.length y.c] 25))).heap.size, 0, none⟩) 0 0) 0 [] := World.ownsRow_lit ((W0.drew.alloc (.cells #[.int .i64 x.what, .int .i64 x.owner, .int .i64 x.n, .int .i64 x.at_, .slice x.A x.bs.length x.c, .int .i64 y.what, .int .i64 y.owner, .int .i64 y.n, .int .i64 y.at_, .slice y.A y.bs.length y.c] 25))) #[] 0 hBc.size (Nat.zero_le _) rfl
      replace hBc := hBc.alloc hBc.size (.cells #[] 25)
      refine hK.out _ _ (HSS.out _ hBc) (fun hHeld => ?_)
      clear hK K
      try simp only [Act.put]
      replace hr31 := hr31.below (below1 _ (.cells #[] 25))
      refine wpAnyH_ready (rs := [2]) (by kernel_rfl) (by simp) ?_
      refine AllReadyH.cons rfl (fun K hK => ?_) (AllReadyH.nil)
      refine step_append_sees rfl (.tmp 24) (.tmp 25) 22 rfl W0.heap.size 25 j0 _ 5 56 Tryz.underlying22 hj hj0 hj1 hj2 rfl (by decide) _ 0 [] (by simp [Act.eval]) hown0 _ A0 n0 c0 (l.flatMap Ac.cells) (by simp [Act.eval]) hll (HSL.out _ hBc) acs_one (by unfold maxLen; omega) (by omega) hBc.size ?_
      intro v26 V26 hown1 hg1 hv1
      have hBn := hBc.grown hg1 hBc.size (fun k hk => (hown0.lt k hk).1)
      replace hBc := hBn
      clear hBn
      refine hK.out _ _ (HSS.out _ hBc) (fun hHeld => ?_)
      clear hK K
      try simp only [Act.put]
      have hne31 : some W0.drew.heap.size ≠ (Value.slice (some ⟨(W0.drew.alloc (.cells #[.int .i64 x.what, .int .i64 x.owner, .int .i64 x.n, .int .i64 x.at_, .slice x.A x.bs.length x.c, .int .i64 y.what, .int .i64 y.owner, .int .i64 y.n, .int .i64 y.at_, .slice y.A y.bs.length y.c] 25)).heap.size, 0, none⟩) 0 0).ownBlock := fun e => by
        have e2 := Option.some.inj e
        simp at e2
      replace hr31 := hr31.same (hg1.block _ hr31.lt hne31)
      refine wpAnyH_ready (rs := [8]) (by kernel_rfl) (by simp) ?_
      refine AllReadyH.cons rfl (fun K hK => ?_) (AllReadyH.nil)
      refine step_append_sees rfl (.tmp 26) (.tmp 31) 22 rfl W0.heap.size 25 j0 _ 5 56 Tryz.underlying22 hj hj0 hj1 hj2 rfl (by decide) _ (0 + n0) ([] ++ l.flatMap Ac.cells) (by simp [Act.eval]) hown1 _ _ 2 2 [.int .i64 x.what, .int .i64 x.owner, .int .i64 x.n, .int .i64 x.at_, .slice x.A x.bs.length x.c, .int .i64 y.what, .int .i64 y.owner, .int .i64 y.n, .int .i64 y.at_, .slice y.A y.bs.length y.c] (by simp [Act.eval]) rfl hr31.sees (by intro u hu; simp only [List.mem_cons, List.not_mem_nil, or_false] at hu; rcases hu with rfl | rfl | rfl | rfl | rfl | rfl | rfl | rfl | rfl | rfl <;> rfl) (by unfold maxLen; omega) (by omega) hBc.size ?_
      intro v32 V32 hown2 hg2 hv2
      replace hBc := hBc.grown hg2 hBc.size (fun k hk => (hown1.lt k hk).1)
      obtain ⟨A32, c32, rfl⟩ := own_slice hown2
      refine hK.out _ _ (HSS.out _ hBc) (fun hHeld => ?_)
      clear hK K
      try simp only [Act.put]
      refine wpAnyH_ready (rs := [9]) (by kernel_rfl) (by simp) ?_
      refine AllReadyH.cons rfl (fun K hK => ?_) (AllReadyH.nil)
      go_simp
      refine (HFW.out _ _ _ hBc (by
        have h3 := sees_any hown2
        simpa [List.flatMap_append, Ac.cells, Ac.sl] using h3)).mono ?_
      rintro e _ ⟨rfl, rfl⟩
      refine hK.out _ _ (HSS.out _ hBc) (fun hHeld => ?_)
      clear hK K
      try simp only [Act.put]
      refine wpAnyH_take (i := 10) (v := ?_) rfl (by kernel_rfl) (by kernel_rfl) (by kernel_rfl) (fun _ _ _ h => h) (Or.inl ⟨by kernel_rfl, ?_⟩) hHeld ?_
      rotate_left
      focus (intro w hSw; (try dsimp only at hSw); go_simp; try with_reducible rfl)
      simp only [Act.put]
      refine wpAnyH_take (i := 11) (v := ?_) rfl (by kernel_rfl) (by kernel_rfl) (by kernel_rfl) (fun _ _ _ h => h) (Or.inl ⟨by kernel_rfl, ?_⟩) hHeld ?_
      rotate_left
      focus (intro w hSw; (try dsimp only at hSw); go_simp; try with_reducible rfl)
      simp only [Act.put]
      refine wpAnyH_take (i := 12) (v := ?_) rfl (by kernel_rfl) (by kernel_rfl) (by kernel_rfl) (fun _ _ _ h => h) (Or.inl ⟨by kernel_rfl, ?_⟩) hHeld ?_
      rotate_left
      focus (intro w hSw; (try dsimp only at hSw); go_simp; try with_reducible rfl)
      simp only [Act.put]
      refine wpAnyH_take (i := 13) (v := ?_) rfl (by kernel_rfl) (by kernel_rfl) (by kernel_rfl) (fun _ _ _ h => h) (Or.inl ⟨by kernel_rfl, ?_⟩) hHeld ?_
      rotate_left
      focus (intro w hSw; (try dsimp only at hSw); go_simp; try with_reducible rfl)
      simp only [Act.put]
      refine wpAnyH_take (i := 14) (v := ?_) rfl (by kernel_rfl) (by kernel_rfl) (by kernel_rfl) (fun _ _ _ h => h) (Or.inl ⟨by kernel_rfl, ?_⟩) hHeld ?_
      rotate_left
      focus (intro w hSw; (try dsimp only at hSw); go_simp; try with_reducible rfl)
      simp only [Act.put]
      refine wpAnyH_take (i := 15) (v := ?_) rfl (by kernel_rfl) (by kernel_rfl) (by kernel_rfl) (fun _ _ _ h => h) (Or.inl ⟨by kernel_rfl, ?_⟩) hHeld ?_
      rotate_left
      focus (intro w hSw; (try dsimp only at hSw); go_simp; try with_reducible rfl)
      simp only [Act.put]
      refine wpAnyH_take (i := 16) (v := ?_) rfl (by kernel_rfl) (by kernel_rfl) (by kernel_rfl) (fun _ _ _ h => h) (Or.inl ⟨by kernel_rfl, ?_⟩) hHeld ?_
      rotate_left
      focus (intro w hSw; (try dsimp only at hSw); go_simp; try with_reducible rfl)
      simp only [Act.put]
      refine wpAnyH_take (i := 17) (v := ?_) rfl (by kernel_rfl) (by kernel_rfl) (by kernel_rfl) (fun _ _ _ h => h) (Or.inl ⟨by kernel_rfl, ?_⟩) hHeld ?_
      rotate_left
      focus (intro w hSw; (try dsimp only at hSw); go_simp; try with_reducible rfl)
      simp only [Act.put]
      refine wpAnyH_ready (rs := [18]) (by kernel_rfl) (by simp) ?_
      refine AllReadyH.cons rfl (fun K hK => ?_) (AllReadyH.nil)
      go_simp
      refine hK.out _ _ (HSS.out _ hBc) (fun hHeld => ?_)
      clear hK K
      try simp only [Act.put]
      refine wpAnyH_done (by kernel_rfl) ?_ _
      refine NoPanic.normal ?_
      obtain ⟨v24, h24⟩ : ∃ v, v = Value.slice (some ⟨(W0.drew.alloc (.cells #[.int .i64 x.what, .int .i64 x.owner, .int .i64 x.n, .int .i64 x.at_, .slice x.A x.bs.length x.c, .int .i64 y.what, .int .i64 y.owner, .int .i64 y.n, .int .i64 y.at_, .slice y.A y.bs.length y.c] 25)).heap.size, 0, none⟩) 0 0 := ⟨_, rfl⟩
      obtain ⟨v31, h31⟩ : ∃ v, v = Value.slice (some ⟨W0.drew.heap.size, 0, none⟩) 2 2 := ⟨_, rfl⟩
      obtain ⟨v32, h32⟩ : ∃ v, v = Value.slice A32 (n0 + 2) c32 := ⟨_, rfl⟩
      simp only [World.size_drew, World.size_alloc] at h24 h31
      rw [← h24, ← h31, ← h32]
      exact HREST v24 v26 v31 v32 V32 hBc
  case rest =>
    intro v24 v26 v31 v32 W hBW
    obtain rfl := HMN.out
    have HI := Lib.hid (And.intro hi (And.intro hz0 (And.intro hz1 hz2)))
    clear HFW HSL HHF HMN hi hz0 hz1 hz2 hj hj0 hj1 hj2 hll e1 e2
    have hMB : Boxed W0 (w.heap.size + 1) 3 (.int .i64 (mn : Int)) := by
      rw [HW0.out]
      have := Boxed.new (w.alloc (.cells #[.int .i64 x.what, .int .i64 x.owner, .int .i64 x.n, .int .i64 x.at_, .slice x.A x.bs.length x.c, .int .i64 y.what, .int .i64 y.owner, .int .i64 y.n, .int .i64 y.at_, .slice y.A y.bs.length y.c] 26)) 3 (.int .i64 (mn : Int))
      rwa [World.size_alloc] at this
    have HMB := Lib.hid hMB
    obtain ⟨k8, hk8⟩ : ∃ k8 : Nat, k8 = 8 := ⟨_, rfl⟩
    have hnw := Lib.hid (fun w => (show Calls Tryz.prog 8 #[.int .i64 8] w _ from by rw [show (8 : Int) = ((k8 : Nat) : Int) by omega]; exact new_yes k8 w (by omega)))
    have hrn := Lib.hid (fun w => (show Calls Tryz.prog 9 #[.int .i64 8] w (NewP w ((k8 : Nat) : Int)) from by rw [show (8 : Int) = ((k8 : Nat) : Int) by omega]; exact rnew_yes k8 w (by omega)))
    have hE : newE ((k8 : Nat) : Int) = 0 := by
      unfold newE
      split <;> first | rfl | omega
    have HE := Lib.hid hE
    have hk16 : k8 ≤ 16384 := by omega
    have HK16 := Lib.hid hk16
    clear hMB hk8 hE hk16
    go_wp2_with fail
    refine (hnw.out _).mono ?_
    rintro e w1 ⟨b0, F, rfl, hH, hFs, hb1⟩
    go_wp2_with fail
    refine (hrn.out _).mono ?_
    rintro e w2 ⟨hQ, _, hb2⟩
    obtain ⟨A, c, rfl, hLi, hAf⟩ := hQ HE.out
    simp only [Int.toNat_natCast] at hLi hAf ⊢
    obtain ⟨csI, hcs⟩ : ∃ csI, csI = rc (newP k8) A k8 c := ⟨_, rfl⟩
    have hlen : csI.length = 65 := by rw [hcs, rc_len]
    have HLEN := Lib.hid hlen
    have HONE := Lib.hid (hcs ▸ rc_one (newP k8) A k8 c : csI.toArray.all (·.oneCell') = true)
    have hth : (w2.alloc (.cells Tryz.zeroCells36 36)).there w2.heap.size 0 csI.toArray.size := by
      show World.there _ _ 0 csI.length
      rw [hlen]
      exact (Rm.new w2).there
    have HTH := Lib.hid hth
    have hB2 := below0 hBW (below0 hb1 hb2)
    have hFl := hH.lt
    have hs1 := hb2.size
    have hs0 := hb1.size
    have hsw := hBW.size
    have hPl : PlC W0 w2.heap.size b0 k8 (newP k8) F A c ((w2.alloc (.cells Tryz.zeroCells36 36)).setCells w2.heap.size 0 csI.toArray.toList) := by
      have hba := below1 w2 (.cells Tryz.zeroCells36 36)
      have hM : MidP W0 w2.heap.size b0 k8 (newP k8) F A (w2.alloc (.cells Tryz.zeroCells36 36)) :=
        ⟨(hH.below hb2).below hba, fun q hq => ⟨by have := hFs q hq; omega, by have := hFl q hq; omega⟩, Rm.new w2, by simp [newP], hLi.below hba, fun a ha hn hf => by have := hAf a ha hn; have := hFl _ hf; omega, fun a ha hn => by have := hLi.lt hn ha; omega, below0 hB2 hba, hB2.size⟩
      have := hM.fin (c := c)
      rw [← hcs] at this
      exact this
    rw [show rv (newP k8) A k8 c = .agg csI.toArray by rw [hcs]; rfl]
    clear hlen hth hb1 hb2 hQ hB2 hH hFs hLi hAf hFl hs1 hs0 hcs hBW hsw
    go_wp2_with (first
      | refine wpList_store_mid rfl 36 (.tmp 9) (.tmp 50) rfl w2.heap.size 0 csI.toArray rfl rfl HTH.out (refpool_size2 HLEN.out) HONE.out ?_)
    obtain ⟨g, hg⟩ : ∃ g, g = w2.heap.size := ⟨_, rfl⟩
    obtain ⟨w3, hw3⟩ : ∃ w3, w3 = (w2.alloc (.cells Tryz.zeroCells36 36)).setCells w2.heap.size 0 csI.toArray.toList := ⟨_, rfl⟩
    rw [← hw3] at hPl ⊢
    rw [← hg] at hPl ⊢
    clear hw3 hg HTH hnw hrn HE
    go_loopw [7, 11] (fun s7 s11 V => ∃ k b p, s7 = bx b ∧ s11 = .int .i64 ((k : Nat) : Int) ∧ k ≤ n0 ∧ ∃ F A c, PlC W0 g b k8 p F A c V) (fun _ s11 _ => n0 - (_root_.Go.RowKit.intOf s11).toNat)
    case atStart => exact ⟨0, b0, newP k8, rfl, rfl, Nat.zero_le _, F, A, c, hPl⟩
    case round =>
      clear hPl HLEN HONE
      obtain ⟨k, b, p, rfl, rfl, hk, F, A, c, hP⟩ := hrel
      obtain ⟨cs, hcs⟩ : ∃ cs, cs = rc p A k8 c := ⟨_, rfl⟩
      have HSZ := Lib.hid (show (Tryz.prog.info? 36).map (·.size) = some cs.length from hcs ▸ refpool_size p A k8 c)
      by_cases hlt : k < n0
      · have i0' : (0 : Int) ≤ (k : Int) := by omega
        have i1' : (k : Int) < (n0 : Int) := by omega
        have j1 : decide ((k : Int) < (n0 : Int)) = true := decide_eq_true i1'
        have hkl : k < l.length := by rw [HL.out]; exact hlt
        have HS0 : ∃ ad, A0 = some ad ∧ ∀ W, Below W0.heap.size W0 W → (W.cell? (ad.add (k * 5)) = some (.int .i64 l[k].what) ∧ W.cell? ⟨(ad.add (k * 5)).block, (ad.add (k * 5)).off + 1, none⟩ = some (.int .i64 l[k].owner) ∧ W.cell? ⟨(ad.add (k * 5)).block, (ad.add (k * 5)).off + 2, none⟩ = some (.int .i64 l[k].n) ∧
            W.cell? ⟨(ad.add (k * 5)).block, (ad.add (k * 5)).off + 3, none⟩ = some (.int .i64 l[k].at_) ∧ W.cell? ⟨(ad.add (k * 5)).block, (ad.add (k * 5)).off + 4, none⟩ = some l[k].sl) := by
          obtain ⟨ad, e, _⟩ := HA.out.at_ k hkl
          refine ⟨ad, e, fun W hb => ?_⟩
          obtain ⟨ad', e', h'⟩ := (HA.out.below hb).at_ k hkl
          rw [e] at e'
          obtain rfl := Option.some.inj e'
          exact h'
        obtain ⟨ad, rfl, hS⟩ := HS0
        have hfit := fun W (hb : Below W0.heap.size W0 W) => (HA.out.below hb).fits _ (List.getElem_mem hkl)
        obtain ⟨z, hz⟩ : ∃ z, z = l[k] := ⟨_, rfl⟩
        rw [← hz] at hS hfit
        clear hz
        have hrv : rv p A k8 c = .agg cs.toArray := by rw [hcs]; rfl
        have HACT0 := fun (V0 : World) (hb : Below wr.heap.size wr V0) => hP.act hb z (hfit V0 (below0 hP.mid.below hb))
        rw [hrv] at HACT0
        have HACT := Lib.hid HACT0
        clear HACT0 hrv
        obtain ⟨wh, hwh⟩ : ∃ wh, wh = z.what := ⟨_, rfl⟩
        obtain ⟨ow, how⟩ : ∃ ow, ow = z.owner := ⟨_, rfl⟩
        obtain ⟨fn, hfn⟩ : ∃ fn, fn = z.n := ⟨_, rfl⟩
        obtain ⟨at_, hat⟩ : ∃ at_, at_ = z.at_ := ⟨_, rfl⟩
        obtain ⟨m, hmm⟩ : ∃ m, m = z.bs.length := ⟨_, rfl⟩
        obtain ⟨Sx, hSx⟩ : ∃ Sx, Sx = z.A := ⟨_, rfl⟩
        obtain ⟨cx, hcx⟩ : ∃ cx, cx = z.c := ⟨_, rfl⟩
        unfold Ac.sl at hS
        rw [← hwh, ← how, ← hfn, ← hat, ← hmm, ← hSx, ← hcx] at hS HACT
        have HCS := Lib.hid hcs
        have HS5 := Lib.hid (fun (W : World) (hb : Below W0.heap.size W0 W) => (show (fun W : World => W.cell? (ad.add (k * 5)) = some (.int .i64 wh) ∧ W.cell? ⟨(ad.add (k * 5)).block, (ad.add (k * 5)).off + 1, none⟩ = some (.int .i64 ow) ∧ W.cell? ⟨(ad.add (k * 5)).block, (ad.add (k * 5)).off + 2, none⟩ = some (.int .i64 fn) ∧ W.cell? ⟨(ad.add (k * 5)).block, (ad.add (k * 5)).off + 3, none⟩ = some (.int .i64 at_) ∧ W.cell? ⟨(ad.add (k * 5)).block, (ad.add (k * 5)).off + 4, none⟩ = some (.slice Sx m cx)) W from hS W hb))
        have hbd : Below wr.heap.size wr wr.drew := (Below.refl _ _).drew
        have HBD := Lib.hid (And.intro hbd (And.intro (below0 hP.mid.below hbd) (show wr.drew.rangeAt g 0 cs from by rw [hcs]; exact (hP.more hbd).rg)))
        have ew : IntKind.i64.wrap ((k : Int) + 1) = (k : Int) + 1 := wrapI _ (by omega) (by omega)
        clear hP hS hfit hbd hcs hwh how hfn hat hmm hSx hcx
        go_wp2_with fail
        rename_i Kc1 ac1 Qc2 Kc2 ac2
        have HC1 := Lib.hid ac1
        have HC2 := Lib.hid ac2
        clear ac1 ac2
        refine wp_region_noPanic ?_
        refine wp_region_held_drew (S := (fun W : World => W.cell? (ad.add (k * 5)) = some (.int .i64 wh) ∧ W.cell? ⟨(ad.add (k * 5)).block, (ad.add (k * 5)).off + 1, none⟩ = some (.int .i64 ow) ∧ W.cell? ⟨(ad.add (k * 5)).block, (ad.add (k * 5)).off + 2, none⟩ = some (.int .i64 fn) ∧ W.cell? ⟨(ad.add (k * 5)).block, (ad.add (k * 5)).off + 3, none⟩ = some (.int .i64 at_) ∧ W.cell? ⟨(ad.add (k * 5)).block, (ad.add (k * 5)).off + 4, none⟩ = some (.slice Sx m cx))) (by kernel_rfl) (HS5.out _ HBD.out.2.1) (fun hHeld => ?_)
        refine wpAnyH_take (i := 0) (v := ?_) rfl (by kernel_rfl) (by kernel_rfl) (by kernel_rfl) (fun _ _ _ h => h) (Or.inl ⟨by kernel_rfl, ?_⟩) hHeld ?_
        rotate_left
        focus (intro w hSw; (try dsimp only at hSw); go_simp; try with_reducible rfl)
        simp only [Act.put]
        refine wpAnyH_take (i := 2) (v := ?_) rfl (by kernel_rfl) (by kernel_rfl) (by kernel_rfl) (fun _ _ _ h => h) (Or.inl ⟨by kernel_rfl, ?_⟩) hHeld ?_
        rotate_left
        focus (intro w hSw; (try dsimp only at hSw); go_simp; try with_reducible rfl)
        simp only [Act.put]
        refine wpAnyH_take (i := 3) (v := ?_) rfl (by kernel_rfl) (by kernel_rfl) (by kernel_rfl) (fun _ _ _ h => h) (Or.inl ⟨by kernel_rfl, ?_⟩) hHeld ?_
        rotate_left
        focus (intro w hSw; (try dsimp only at hSw); go_simp; try with_reducible rfl)
        simp only [Act.put]
        refine wpAnyH_take (i := 4) (v := ?_) rfl (by kernel_rfl) (by kernel_rfl) (by kernel_rfl) (fun _ _ _ h => h) (Or.inl ⟨by kernel_rfl, ?_⟩) hHeld ?_
        rotate_left
        focus (intro w hSw; (try dsimp only at hSw); go_simp; try with_reducible rfl)
        simp only [Act.put]
        refine wpAnyH_take (i := 5) (v := ?_) rfl (by kernel_rfl) (by kernel_rfl) (by kernel_rfl) (fun _ _ _ h => h) (Or.inl ⟨by kernel_rfl, ?_⟩) hHeld ?_
        rotate_left
        focus (intro w hSw; (try dsimp only at hSw); go_simp; try with_reducible rfl)
        simp only [Act.put]
        refine wpAnyH_ready (rs := [1]) (by kernel_rfl) (by simp) ?_
        refine AllReadyH.cons rfl (fun K hK => ?_) (AllReadyH.nil)
        refine step_load_mid rfl 36 (.tmp 9) rfl g 0 (by kernel_rfl) cs _ HBD.out.2.2 Tryz.underlying36 rfl HSZ.out ?_
        refine hK.out _ _ (HS5.out _ HBD.out.2.1) (fun hHeld => ?_)
        clear hK K
        try simp only [Act.put]
        refine wpAnyH_ready (rs := [6]) (by kernel_rfl) (by simp) ?_
        refine AllReadyH.cons rfl (fun K hK => ?_) (AllReadyH.nil)
        go_simp
        refine (HACT.out _ HBD.out.1).mono ?_
        rintro e V1 ⟨b', F', A', c', rfl, hM, hrg, hK7⟩
        obtain ⟨cs2, hcs2⟩ : ∃ cs2, cs2 = rc (stepP p z) A' k8 c' := ⟨_, rfl⟩
        have hlen2 : cs2.length = 65 := by rw [hcs2, rc_len]
        have HLEN2 := Lib.hid hlen2
        have HONE2 := Lib.hid (hcs2 ▸ rc_one (stepP p z) A' k8 c' : cs2.toArray.all (·.oneCell') = true)
        have HSZ2 := Lib.hid (show (Tryz.prog.info? 36).map (·.size) = some cs2.length from hcs2 ▸ refpool_size (stepP p z) A' k8 c')
        rw [show rv (stepP p z) A' k8 c' = .agg cs2.toArray by rw [hcs2]; rfl]
        have HFN := Lib.hid (hM.fin (c := c'))
        rw [← hcs2] at HFN
        have hth : V1.there g 0 cs2.toArray.size := by
          show World.there _ _ 0 cs2.length
          rw [hlen2]
          exact hM.rm.there
        have HTH := Lib.hid hth
        have HMB1 := Lib.hid hM.below
        clear hcs2 hlen2 hrg hK7 hth hM
        refine hK.out _ _ (HS5.out _ HMB1.out) (fun hHeld => ?_)
        clear hK K
        try simp only [Act.put]
        refine wpAnyH_take (i := 7) (v := ?_) rfl (by kernel_rfl) (by kernel_rfl) (by kernel_rfl) (fun _ _ _ h => h) (Or.inl ⟨by kernel_rfl, ?_⟩) hHeld ?_
        rotate_left
        focus (intro w hSw; (try dsimp only at hSw); go_simp; try with_reducible rfl)
        simp only [Act.put]
        refine wpAnyH_take (i := 8) (v := ?_) rfl (by kernel_rfl) (by kernel_rfl) (by kernel_rfl) (fun _ _ _ h => h) (Or.inl ⟨by kernel_rfl, ?_⟩) hHeld ?_
        rotate_left
        focus (intro w hSw; (try dsimp only at hSw); go_simp; try with_reducible rfl)
        simp only [Act.put]
        refine wpAnyH_take (i := 9) (v := ?_) rfl (by kernel_rfl) (by kernel_rfl) (by kernel_rfl) (fun _ _ _ h => h) (Or.inl ⟨by kernel_rfl, ?_⟩) hHeld ?_
        rotate_left
        focus (intro w hSw; (try dsimp only at hSw); go_simp; try with_reducible rfl)
        simp only [Act.put]
        refine wpAnyH_take (i := 10) (v := ?_) rfl (by kernel_rfl) (by kernel_rfl) (by kernel_rfl) (fun _ _ _ h => h) (Or.inl ⟨by kernel_rfl, ?_⟩) hHeld ?_
        rotate_left
        focus (intro w hSw; (try dsimp only at hSw); go_simp; try with_reducible rfl)
        simp only [Act.put]
        refine wpAnyH_ready (rs := [11]) (by kernel_rfl) (by simp) ?_
        refine AllReadyH.cons rfl (fun K hK => ?_) (AllReadyH.nil)
        go_simp
        refine hK.out _ _ (HS5.out _ HMB1.out) (fun hHeld => ?_)
        clear hK K
        try simp only [Act.put]
        refine wpAnyH_ready (rs := [12]) (by kernel_rfl) (by simp) ?_
        refine AllReadyH.cons rfl (fun K hK => ?_) (AllReadyH.nil)
        refine step_store_mid rfl 36 _ _ rfl g 0 cs2.toArray (by simp [Act.eval]) (by simp [Act.eval]) HTH.out (refpool_size2 HLEN2.out) HONE2.out ?_
        refine hK.out _ _ (HS5.out _ HFN.out.mid.below) (fun hHeld => ?_)
        clear hK K
        try simp only [Act.put]
        refine wpAnyH_done (by kernel_rfl) ?_ _
        refine NoPanic.normal ?_
        clear HTH HMB1 HBD HACT HS5 HSZ2
        have ac1 := HC1.out
        have ac2 := HC2.out
        clear HC1 HC2
        go_wp2_with fail
        go_roundw
        case rel => exact ⟨k + 1, b', stepP p z, rfl, by go_num, by omega, F', A', c', HFN.out⟩
        case measure => simp [_root_.Go.RowKit.intOf]; omega
      · obtain rfl : k = n0 := by omega
        have j1 : decide ((k : Int) < (k : Int)) = false := decide_eq_false (by omega)
        have hM := hP.mid
        have HCP := Lib.hid (Copy_any hM.has)
        go_wp2_with fail
        refine (HCP.out).mono ?_
        rintro e V1 ⟨rfl, G, hG, hGs, hb1⟩
        have HAL := Lib.hid (allF_any (hM.has.below hb1))
        clear HCP
        go_wp2_with fail
        refine (HAL.out).mono ?_
        rintro e V2 ⟨bw, bm, rfl, hbw, hbm, hcw, hpm, hb2⟩
        have hC0 : F0 W0 g b wr.heap.size bw bm k8 p (owns p.fr) F G A c V2 := by
          have hb12 := below0 hb1 hb2
          have hFl := hM.has.lt
          have hgl := hM.rm.lt
          have hs1 := hb1.size
          have hGl := hG.lt
          have hsw := hM.below.size
          have hP2 := hP.more hb12
          refine ⟨hP2.mid.has, hG.below hb2, fun q hf hq => ?_, ?_, hP2.mid.rm, hP2.rg, hM.len, hP2.mid.lies, fun a ha hn => ?_, fun a ha hn => hM.offa a ha hn, hcw, hpm, hP2.mid.below⟩
          · have := hFl q hf
            have := hGs q hq
            omega
          · rintro q (hf | hq)
            · have := hFl q hf
              exact ⟨(hM.offg q hf).1, (hM.offg q hf).2, by omega, by omega⟩
            · have := hGl q hq
              have := hGs q hq
              exact ⟨by omega, by omega, by omega, by omega⟩
          · rintro (hf | hq)
            · exact hM.off a ha hn hf
            · have := hM.lies.lt hn ha
              have := hGs _ hq
              omega
        have hok := hM.has.ok
        have HOK := Lib.hid hok
        have HPL := Lib.hid hM.len
        have hmost : (owns p.fr).length ≤ 16384 := by rw [owns_len]; exact hok.most
        obtain ⟨lo, hlo⟩ : ∃ lo, lo = owns p.fr := ⟨_, rfl⟩
        rw [← hlo] at hC0 hmost
        have HLO := Lib.hid hlo
        have HMOST := Lib.hid hmost
        clear hlo hmost hok HAL hG hGs hb1 hb2 hbw hbm hcw hpm hM hP
        obtain ⟨kb, hkb⟩ : ∃ kb, kb = wr.heap.size := ⟨_, rfl⟩
        rw [← hkb] at hC0 ⊢
        clear hkb
        have hQ0 := HSS.out V2 hC0.below
        try dsimp only at hQ0
        obtain ⟨q0, q1, q2, q3, q4, _, _, _, _, _, _⟩ := hQ0
        have hrg0 : V2.rangeAt g 0 cs := hcs ▸ hC0.rg
        have hrv : rv p A k8 c = .agg cs.toArray := by rw [hcs]; rfl
        have HA1 := Lib.hid (hC0.act x (HX.out.below hC0.below))
        rw [hrv] at HA1
        have HCS := Lib.hid hcs
        have hl1 : (stepP p x).fr.length = k8 := (step_len p x).trans HPL.out
        have hl2 : (stepP p y).fr.length = k8 := (step_len p y).trans HPL.out
        have HL1 := Lib.hid hl1
        have HL2 := Lib.hid hl2
        obtain ⟨p1, hp1⟩ : ∃ p1, p1 = stepP p x := ⟨_, rfl⟩
        rw [← hp1] at HA1 HL1
        clear hC0 hcs hrv hl1 hl2 hp1
        go_wp2_with (first
          | refine wpList_load_mid rfl 36 (.tmp 9) rfl g 0 (by kernel_rfl) cs _ hrg0 Tryz.underlying36 rfl HSZ.out ?_)
        refine (HA1.out).mono ?_
        rintro e V3 ⟨ra, A1, c1, rfl, hs3, hB3, F1', hC1⟩
        obtain ⟨cs1, hcs1⟩ : ∃ cs1, cs1 = rc p1 A1 k8 c1 := ⟨_, rfl⟩
        have hlen1 : cs1.length = 65 := by rw [hcs1, rc_len]
        have HLEN1 := Lib.hid hlen1
        have HONE1 := Lib.hid (hcs1 ▸ rc_one p1 A1 k8 c1 : cs1.toArray.all (·.oneCell') = true)
        have HSZ1 := Lib.hid (show (Tryz.prog.info? 36).map (·.size) = some cs1.length from hcs1 ▸ refpool_size p1 A1 k8 c1)
        rw [show rv p1 A1 k8 c1 = .agg cs1.toArray by rw [hcs1]; rfl]
        have hC1' : F1 W0 g V3.heap.size ra kb bw bm k8 p p1 lo F1' G A c A1 c1 ((V3.alloc (.cells Tryz.zeroCells36 36)).setCells V3.heap.size 0 cs1.toArray.toList) := by rw [hcs1]; exact hC1
        have HC1 := Lib.hid hC1'
        have hth1 : (V3.alloc (.cells Tryz.zeroCells36 36)).there V3.heap.size 0 cs1.toArray.size := by
          show World.there _ _ 0 cs1.length
          rw [hlen1]
          exact (Rm.new V3).there
        have HTH1 := Lib.hid hth1
        have hQ1 := HSS.out _ hC1'.below
        try dsimp only at hQ1
        have hrg1 : ((V3.alloc (.cells Tryz.zeroCells36 36)).setCells V3.heap.size 0 cs1.toArray.toList).rangeAt g 0 cs := HCS.out ▸ hC1'.rg
        have HRG1 := Lib.hid hrg1
        have HA2 := Lib.hid (hC1'.act y (HY.out.below hC1'.below))
        rw [show rv p A k8 c = .agg cs.toArray by rw [HCS.out]; rfl] at HA2
        have HCS1 := Lib.hid hcs1
        obtain ⟨p2, hp2⟩ : ∃ p2, p2 = stepP p y := ⟨_, rfl⟩
        rw [← hp2] at HA2 HL2
        clear q0 q1 q2 q3 q4 hrg0 HA1 hC1 hC1' hs3 hB3 hcs1 hlen1 hth1 hrg1 hp2
        obtain ⟨_, _, _, _, _, q5, q6, q7, q8, q9, _⟩ := hQ1
        go_wp2_with (first
          | refine wpList_store_mid rfl 36 (.tmp 15) (.tmp 80) rfl V3.heap.size 0 cs1.toArray rfl rfl HTH1.out (refpool_size2 HLEN1.out) HONE1.out ?_
          | refine wpList_load_mid rfl 36 (.tmp 9) rfl g 0 (by kernel_rfl) cs _ HRG1.out Tryz.underlying36 rfl HSZ.out ?_)
        refine (HA2.out).mono ?_
        rintro e V5 ⟨rb, A2, c2, rfl, hs5, hC2⟩
        obtain ⟨cs2, hcs2⟩ : ∃ cs2, cs2 = rc p2 A2 k8 c2 := ⟨_, rfl⟩
        have hlen2 : cs2.length = 65 := by rw [hcs2, rc_len]
        have HLEN2 := Lib.hid hlen2
        have HONE2 := Lib.hid (hcs2 ▸ rc_one p2 A2 k8 c2 : cs2.toArray.all (·.oneCell') = true)
        have HSZ2 := Lib.hid (show (Tryz.prog.info? 36).map (·.size) = some cs2.length from hcs2 ▸ refpool_size p2 A2 k8 c2)
        rw [show rv p2 A2 k8 c2 = .agg cs2.toArray by rw [hcs2]; rfl]
        obtain ⟨g1, hg1⟩ : ∃ g1, g1 = V3.heap.size := ⟨_, rfl⟩
        rw [← hg1] at hC2 ⊢
        have hC2' : F2 W0 g g1 V5.heap.size ra rb bw bm k8 p p1 p2 lo A c A1 c1 A2 c2 ((V5.alloc (.cells Tryz.zeroCells36 36)).setCells V5.heap.size 0 cs2.toArray.toList) := by rw [hcs2]; exact hC2
        have hth2 : (V5.alloc (.cells Tryz.zeroCells36 36)).there V5.heap.size 0 cs2.toArray.size := by
          show World.there _ _ 0 cs2.length
          rw [hlen2]
          exact (Rm.new V5).there
        have HTH2 := Lib.hid hth2
        have HCS2 := Lib.hid hcs2
        clear q5 q6 q7 q8 q9 HRG1 HA2 hC2 hs5 hcs2 hlen2 hth2 HC1 HTH1 hg1
        go_wp2_with (first
          | refine wpList_store_mid rfl 36 (.tmp 18) (.tmp 89) rfl V5.heap.size 0 cs2.toArray rfl rfl HTH2.out (refpool_size2 HLEN2.out) HONE2.out ?_)
        obtain ⟨g2, hg2⟩ : ∃ g2, g2 = V5.heap.size := ⟨_, rfl⟩
        obtain ⟨V6, hV6⟩ : ∃ V6, V6 = (V5.alloc (.cells Tryz.zeroCells36 36)).setCells V5.heap.size 0 cs2.toArray.toList := ⟨_, rfl⟩
        rw [← hV6, ← hg2] at hC2'
        rw [← hV6, ← hg2]
        clear hV6 hg2 HTH2
        haveI := Classical.propDecidable (p1.fr = p2.fr ∧ SameR p1 p2)
        obtain ⟨qq, hqq⟩ : ∃ qq : Bool, qq = true ↔ p1.fr = p2.fr ∧ SameR p1 p2 := ⟨decide (p1.fr = p2.fr ∧ SameR p1 p2), decide_eq_true_iff⟩
        have hv1 : rv p1 A1 k8 c1 = .agg cs1.toArray := by rw [HCS1.out]; rfl
        have hv2 : rv p2 A2 k8 c2 = .agg cs2.toArray := by rw [HCS2.out]; rfl
        have k1 := fun W hb => hC2'.is1 HL1.out W hb
        have k2 := fun W hb => hC2'.is2 HL2.out W hb
        have k5 := fun W hb => hC2'.rows qq hqq HL1.out HL2.out HK16.out W hb
        rw [hv1] at k1 k5
        rw [hv2] at k2 k5
        have K1 := Lib.hid k1
        have K2 := Lib.hid k2
        have K3 := Lib.hid (fun W hb => hC2'.same qq hqq W hb)
        have K4 := Lib.hid (fun W hb => hC2'.same' qq hqq W hb)
        have K5 := Lib.hid k5
        have HC := Lib.hid hC2'
        have HSA := Lib.hid (fun W (hb : Below V6.heap.size V6 W) => (show W.rangeAt g1 0 cs1 ∧ W.rangeAt g2 0 cs2 ∧ Below V6.heap.size V6 W from ⟨range_keep (HCS1.out ▸ hC2'.rg1) (hb.block _ hC2'.lt1), range_keep (HCS2.out ▸ hC2'.rg2) (hb.block _ hC2'.lt2), hb⟩))
        have hdr := Lib.hid (show Below V6.heap.size V6 V6.drew from (Below.refl _ _).drew)
        have hq1 : (qq == qq) = true := by simp
        clear this hqq hv1 hv2 k1 k2 k5 hC2'
        refine wp_region_noPanic ?_
        refine (fun (HREST : ∀ W, Below V6.heap.size V6 W → (?G2 : World → Prop) W) => ?main2) ?rest2
        case main2 =>
          refine wp_region_held_drew (S := fun W => W.rangeAt g1 0 cs1 ∧ W.rangeAt g2 0 cs2 ∧ Below V6.heap.size V6 W) (by kernel_rfl) (HSA.out _ hdr.out) (fun hHeld => ?_)
          have hb0 := hdr.out
          refine wpAnyH_take (i := 0) (v := ?_) rfl (by kernel_rfl) (by kernel_rfl) (by kernel_rfl) (fun _ _ _ h => h) (Or.inl ⟨by kernel_rfl, ?_⟩) hHeld ?_
          rotate_left
          focus (intro w hSw; (try dsimp only at hSw); go_simp; try with_reducible rfl)
          simp only [Act.put]
          refine wpAnyH_ready (rs := [1]) (by kernel_rfl) (by simp) ?_
          refine AllReadyH.cons rfl (fun K hK => ?_) (AllReadyH.nil)
          go_simp
          refine (num_any _ _).mono ?_
          rintro e _ ⟨rfl, rfl⟩
          refine hK.out _ _ (HSA.out _ hb0) (fun hHeld => ?_)
          clear hK K
          try simp only [Act.put]
          refine wpAnyH_take (i := 2) (v := ?_) rfl (by kernel_rfl) (by kernel_rfl) (by kernel_rfl) (fun _ _ _ h => h) (Or.inl ⟨by kernel_rfl, ?_⟩) hHeld ?_
          rotate_left
          focus (intro w hSw; (try dsimp only at hSw); go_simp; try with_reducible rfl)
          simp only [Act.put]
          refine wpAnyH_take (i := 3) (v := ?_) rfl (by kernel_rfl) (by kernel_rfl) (by kernel_rfl) (fun _ _ _ h => h) (Or.inl ⟨by kernel_rfl, ?_⟩) hHeld ?_
          rotate_left
          focus (intro w hSw; (try dsimp only at hSw); go_simp; try with_reducible rfl)
          simp only [Act.put]
          refine wpAnyH_take (i := 4) (v := ?_) rfl (by kernel_rfl) (by kernel_rfl) (by kernel_rfl) (fun _ _ _ h => h) (Or.inl ⟨by kernel_rfl, ?_⟩) hHeld ?_
          rotate_left
          focus (intro w hSw; (try dsimp only at hSw); go_simp; try with_reducible rfl)
          simp only [Act.put]
          refine wpAnyH_take (i := 5) (v := ?_) rfl (by kernel_rfl) (by kernel_rfl) (by kernel_rfl) (fun _ _ _ h => h) (Or.inl ⟨by kernel_rfl, ?_⟩) hHeld ?_
          rotate_left
          focus (intro w hSw; (try dsimp only at hSw); go_simp; try with_reducible rfl)
          simp only [Act.put]
          refine wpAnyH_take (i := 6) (v := ?_) rfl (by kernel_rfl) (by kernel_rfl) (by kernel_rfl) (fun _ _ _ h => h) (Or.inl ⟨by kernel_rfl, ?_⟩) hHeld ?_
          rotate_left
          focus (intro w hSw; (try dsimp only at hSw); go_simp; try with_reducible rfl)
          simp only [Act.put]
          refine wpAnyH_take (i := 7) (v := ?_) rfl (by kernel_rfl) (by kernel_rfl) (by kernel_rfl) (fun _ _ _ h => h) (Or.inl ⟨by kernel_rfl, ?_⟩) hHeld ?_
          rotate_left
          focus (intro w hSw; (try dsimp only at hSw); go_simp; try with_reducible rfl)
          simp only [Act.put]
          refine wpAnyH_take (i := 8) (v := ?_) rfl (by kernel_rfl) (by kernel_rfl) (by kernel_rfl) (fun _ _ _ h => h) (Or.inl ⟨by kernel_rfl, ?_⟩) hHeld ?_
          rotate_left
          focus (intro w hSw; (try dsimp only at hSw); go_simp; try with_reducible rfl)
          simp only [Act.put]
          refine wpAnyH_take (i := 9) (v := ?_) rfl (by kernel_rfl) (by kernel_rfl) (by kernel_rfl) (fun _ _ _ h => h) (Or.inl ⟨by kernel_rfl, ?_⟩) hHeld ?_
          rotate_left
          focus (intro w hSw; (try dsimp only at hSw); go_simp; try with_reducible rfl)
          simp only [Act.put]
          refine wpAnyH_take (i := 10) (v := ?_) rfl (by kernel_rfl) (by kernel_rfl) (by kernel_rfl) (fun _ _ _ h => h) (Or.inl ⟨by kernel_rfl, ?_⟩) hHeld ?_
          rotate_left
          focus (intro w hSw; (try dsimp only at hSw); go_simp; try with_reducible rfl)
          simp only [Act.put]
          refine wpAnyH_take (i := 11) (v := ?_) rfl (by kernel_rfl) (by kernel_rfl) (by kernel_rfl) (fun _ _ _ h => h) (Or.inl ⟨by kernel_rfl, ?_⟩) hHeld ?_
          rotate_left
          focus (intro w hSw; (try dsimp only at hSw); go_simp; try with_reducible rfl)
          simp only [Act.put]
          refine wpAnyH_take (i := 12) (v := ?_) rfl (by kernel_rfl) (by kernel_rfl) (by kernel_rfl) (fun _ _ _ h => h) (Or.inl ⟨by kernel_rfl, ?_⟩) hHeld ?_
          rotate_left
          focus (intro w hSw; (try dsimp only at hSw); go_simp; try with_reducible rfl)
          simp only [Act.put]
          refine wpAnyH_take (i := 13) rfl (by kernel_rfl) (by kernel_rfl) (by kernel_rfl) (fun _ _ _ h => h) (yieldsIf_load_mid (by kernel_rfl) 36 (.tmp 15) rfl g1 0 (by kernel_rfl) cs1 _ (fun V hV => hV.1) Tryz.underlying36 rfl HSZ1.out) hHeld ?_
          simp only [Act.put]
          refine wpAnyH_ready (rs := [14]) (by kernel_rfl) (by simp) ?_
          refine AllReadyH.cons rfl (fun K hK => ?_) (AllReadyH.nil)
          go_simp
          refine (K1.out _ hb0).mono ?_
          rintro e W1 ⟨rfl, hb1⟩
          refine hK.out _ _ (HSA.out _ hb1) (fun hHeld => ?_)
          clear hK K
          try simp only [Act.put]
          refine wpAnyH_take (i := 15) (v := ?_) rfl (by kernel_rfl) (by kernel_rfl) (by kernel_rfl) (fun _ _ _ h => h) (Or.inl ⟨by kernel_rfl, ?_⟩) hHeld ?_
          rotate_left
          focus (intro w hSw; (try dsimp only at hSw); go_simp; try with_reducible rfl)
          simp only [Act.put]
          refine wpAnyH_take (i := 16) (v := ?_) rfl (by kernel_rfl) (by kernel_rfl) (by kernel_rfl) (fun _ _ _ h => h) (Or.inl ⟨by kernel_rfl, ?_⟩) hHeld ?_
          rotate_left
          focus (intro w hSw; (try dsimp only at hSw); go_simp; try with_reducible rfl)
          simp only [Act.put]
          refine wpAnyH_take (i := 17) (v := ?_) rfl (by kernel_rfl) (by kernel_rfl) (by kernel_rfl) (fun _ _ _ h => h) (Or.inl ⟨by kernel_rfl, ?_⟩) hHeld ?_
          rotate_left
          focus (intro w hSw; (try dsimp only at hSw); go_simp; try with_reducible rfl)
          simp only [Act.put]
          refine wpAnyH_take (i := 18) (v := ?_) rfl (by kernel_rfl) (by kernel_rfl) (by kernel_rfl) (fun _ _ _ h => h) (Or.inl ⟨by kernel_rfl, ?_⟩) hHeld ?_
          rotate_left
          focus (intro w hSw; (try dsimp only at hSw); go_simp; try with_reducible rfl)
          simp only [Act.put]
          refine wpAnyH_take (i := 19) rfl (by kernel_rfl) (by kernel_rfl) (by kernel_rfl) (fun _ _ _ h => h) (yieldsIf_load_mid (by kernel_rfl) 36 (.tmp 18) rfl g2 0 (by kernel_rfl) cs2 _ (fun V hV => hV.2.1) Tryz.underlying36 rfl HSZ2.out) hHeld ?_
          simp only [Act.put]
          refine wpAnyH_ready (rs := [20]) (by kernel_rfl) (by simp) ?_
          refine AllReadyH.cons rfl (fun K hK => ?_) (AllReadyH.nil)
          go_simp
          refine (K2.out _ hb1).mono ?_
          rintro e W2 ⟨rfl, hb2⟩
          refine hK.out _ _ (HSA.out _ hb2) (fun hHeld => ?_)
          clear hK K
          try simp only [Act.put]
          refine wpAnyH_take (i := 21) (v := ?_) rfl (by kernel_rfl) (by kernel_rfl) (by kernel_rfl) (fun _ _ _ h => h) (Or.inl ⟨by kernel_rfl, ?_⟩) hHeld ?_
          rotate_left
          focus (intro w hSw; (try dsimp only at hSw); go_simp; try with_reducible rfl)
          simp only [Act.put]
          refine wpAnyH_take (i := 22) (v := ?_) rfl (by kernel_rfl) (by kernel_rfl) (by kernel_rfl) (fun _ _ _ h => h) (Or.inl ⟨by kernel_rfl, ?_⟩) hHeld ?_
          rotate_left
          focus (intro w hSw; (try dsimp only at hSw); go_simp; try with_reducible rfl)
          simp only [Act.put]
          refine wpAnyH_take (i := 23) (v := ?_) rfl (by kernel_rfl) (by kernel_rfl) (by kernel_rfl) (fun _ _ _ h => h) (Or.inl ⟨by kernel_rfl, ?_⟩) hHeld ?_
          rotate_left
          focus (intro w hSw; (try dsimp only at hSw); go_simp; try with_reducible rfl)
          simp only [Act.put]
          refine wpAnyH_take (i := 24) (v := ?_) rfl (by kernel_rfl) (by kernel_rfl) (by kernel_rfl) (fun _ _ _ h => h) (Or.inl ⟨by kernel_rfl, ?_⟩) hHeld ?_
          rotate_left
          focus (intro w hSw; (try dsimp only at hSw); go_simp; try with_reducible rfl)
          simp only [Act.put]
          refine wpAnyH_take (i := 25) (v := ?_) rfl (by kernel_rfl) (by kernel_rfl) (by kernel_rfl) (fun _ _ _ h => h) (Or.inl ⟨by kernel_rfl, ?_⟩) hHeld ?_
          rotate_left
          focus (intro w hSw; (try dsimp only at hSw); go_simp; try with_reducible rfl)
          simp only [Act.put]
          refine wpAnyH_take (i := 27) rfl (by kernel_rfl) (by kernel_rfl) (by kernel_rfl) (fun _ _ _ h => h) (yieldsIf_load_mid (by kernel_rfl) 36 (.tmp 15) rfl g1 0 (by kernel_rfl) cs1 _ (fun V hV => hV.1) Tryz.underlying36 rfl HSZ1.out) hHeld ?_
          simp only [Act.put]
          refine wpAnyH_take (i := 28) rfl (by kernel_rfl) (by kernel_rfl) (by kernel_rfl) (fun _ _ _ h => h) (yieldsIf_load_mid (by kernel_rfl) 36 (.tmp 18) rfl g2 0 (by kernel_rfl) cs2 _ (fun V hV => hV.2.1) Tryz.underlying36 rfl HSZ2.out) hHeld ?_
          simp only [Act.put]
          refine wpAnyH_ready (rs := [26]) (by kernel_rfl) (by simp) ?_
          refine AllReadyH.cons rfl (fun K hK => ?_) (AllReadyH.nil)
          go_simp
          refine (K3.out _ hb2).mono ?_
          rintro e W3 ⟨rfl, hb3⟩
          refine hK.out _ _ (HSA.out _ hb3) (fun hHeld => ?_)
          clear hK K
          try simp only [Act.put]
          refine wpAnyH_ready (rs := [29]) (by kernel_rfl) (by simp) ?_
          refine AllReadyH.cons rfl (fun K hK => ?_) (AllReadyH.nil)
          go_simp
          refine (K5.out _ hb3).mono ?_
          rintro e W4 ⟨rfl, hb4⟩
          refine hK.out _ _ (HSA.out _ hb4) (fun hHeld => ?_)
          clear hK K
          try simp only [Act.put]
          refine wpAnyH_take (i := 30) (v := ?_) rfl (by kernel_rfl) (by kernel_rfl) (by kernel_rfl) (fun _ _ _ h => h) (Or.inl ⟨by kernel_rfl, ?_⟩) hHeld ?_
          rotate_left
          focus (intro w hSw; (try dsimp only at hSw); go_simp; try with_reducible rfl)
          simp only [Act.put]
          refine wpAnyH_take (i := 31) (v := ?_) rfl (by kernel_rfl) (by kernel_rfl) (by kernel_rfl) (fun _ _ _ h => h) (Or.inl ⟨by kernel_rfl, ?_⟩) hHeld ?_
          rotate_left
          focus (intro w hSw; (try dsimp only at hSw); go_simp; try with_reducible rfl)
          simp only [Act.put]
          refine wpAnyH_take (i := 32) (v := ?_) rfl (by kernel_rfl) (by kernel_rfl) (by kernel_rfl) (fun _ _ _ h => h) (Or.inl ⟨by kernel_rfl, ?_⟩) hHeld ?_
          rotate_left
          focus (intro w hSw; (try dsimp only at hSw); go_simp; try with_reducible rfl)
          simp only [Act.put]
          refine wpAnyH_take (i := 33) (v := ?_) rfl (by kernel_rfl) (by kernel_rfl) (by kernel_rfl) (fun _ _ _ h => h) (Or.inl ⟨by kernel_rfl, ?_⟩) hHeld ?_
          rotate_left
          focus (intro w hSw; (try dsimp only at hSw); go_simp; try with_reducible rfl)
          simp only [Act.put]
          refine wpAnyH_take (i := 34) (v := ?_) rfl (by kernel_rfl) (by kernel_rfl) (by kernel_rfl) (fun _ _ _ h => h) (Or.inl ⟨by kernel_rfl, ?_⟩) hHeld ?_
          rotate_left
          focus (intro w hSw; (try dsimp only at hSw); go_simp; try with_reducible rfl)
          simp only [Act.put]
          refine wpAnyH_take (i := 36) rfl (by kernel_rfl) (by kernel_rfl) (by kernel_rfl) (fun _ _ _ h => h) (yieldsIf_load_mid (by kernel_rfl) 36 (.tmp 15) rfl g1 0 (by kernel_rfl) cs1 _ (fun V hV => hV.1) Tryz.underlying36 rfl HSZ1.out) hHeld ?_
          simp only [Act.put]
          refine wpAnyH_take (i := 37) rfl (by kernel_rfl) (by kernel_rfl) (by kernel_rfl) (fun _ _ _ h => h) (yieldsIf_load_mid (by kernel_rfl) 36 (.tmp 18) rfl g2 0 (by kernel_rfl) cs2 _ (fun V hV => hV.2.1) Tryz.underlying36 rfl HSZ2.out) hHeld ?_
          simp only [Act.put]
          refine wpAnyH_ready (rs := [35]) (by kernel_rfl) (by simp) ?_
          refine AllReadyH.cons rfl (fun K hK => ?_) (AllReadyH.nil)
          go_simp
          refine (K4.out _ hb4).mono ?_
          rintro e W5 ⟨rfl, hb5⟩
          refine hK.out _ _ (HSA.out _ hb5) (fun hHeld => ?_)
          clear hK K
          try simp only [Act.put]
          refine wpAnyH_ready (rs := [38]) (by kernel_rfl) (by simp) ?_
          refine AllReadyH.cons rfl (fun K hK => ?_) (AllReadyH.nil)
          go_simp
          refine (K5.out _ hb5).mono ?_
          rintro e W6 ⟨rfl, hb6⟩
          refine hK.out _ _ (HSA.out _ hb6) (fun hHeld => ?_)
          clear hK K
          try simp only [Act.put]
          refine wpAnyH_ready (rs := [39]) (by kernel_rfl) (by simp) ?_
          refine AllReadyH.cons rfl (fun K hK => ?_) (AllReadyH.nil)
          go_simp
          refine hK.out _ _ (HSA.out _ hb6) (fun hHeld => ?_)
          clear hK K
          try simp only [Act.put]
          refine wpAnyH_ready (rs := [40]) (by kernel_rfl) (by simp) ?_
          refine AllReadyH.cons rfl (fun K hK => ?_) (AllReadyH.nil)
          go_simp
          refine hK.out _ _ (HSA.out _ hb6) (fun hHeld => ?_)
          clear hK K
          try simp only [Act.put]
          refine wpAnyH_done (by kernel_rfl) ?_ _
          refine NoPanic.normal ?_
          exact HREST W6 hb6
        case rest2 =>
          intro W7 hb7
          clear HSA hdr K1 K2 K3 K4 K5 hq1
          have hnn1 := HNN.out bw
          go_wp2_with fail
          clear hnn1
          obtain ⟨w8, hw8⟩ : ∃ w8, w8 = W7.alloc (Obj.cells #[Value.slice none 0 0] 49) := ⟨_, rfl⟩
          have hz8 : w8.heap.size = W7.heap.size + 1 := by rw [hw8]; simp
          have hb8 : Below W7.heap.size W7 w8 := by rw [hw8]; exact below1 _ _
          have hL8 : Boxed w8 W7.heap.size 49 (.slice none 0 0) := by rw [hw8]; exact Boxed.new W7 _ _
          have hb68 := below0 hb7 hb8
          have hb08 := below0 HC.out.below hb68
          have hmlt : w.heap.size + 1 < W0.heap.size := by have := HS0.out; omega
          have hM8 : Boxed w8 (w.heap.size + 1) 3 (.int .i64 (mn : Int)) := (hb08.block _ hmlt).trans HMB.out
          have hcbw : bw < V6.heap.size := lt_of_cell HC.out.box
          have hcbm : bm < V6.heap.size := HC.out.map.lt
          have h67 := hb7.size
          have h06 := HC.out.below.size
          have hit := all1_it lo bw bm 16384 w8 HMOST.out ((hb68.cell (p := ⟨bw, 1, none⟩) hcbw).trans HC.out.box) (owns_same HC.out.map (hb68.block _ hcbm))
          have hPv : ∀ k, (k = bw ∨ k = bm) → k < w8.heap.size ∧ k ≠ W7.heap.size := by
            rintro k (rfl | rfl)
            · exact ⟨by omega, by omega⟩
            · exact ⟨by omega, by omega⟩
          have H8 := Lib.hid (And.intro hz8 (And.intro hmlt (And.intro h67 h06)))
          rw [← hw8]
          clear hw8
          refine wpIn_wide.1 (wpIn_range_it (gf := 49) (lb := #[.pointer (some ⟨bw, 0, none⟩)]) rfl (enters_of Tryz.func49 (by kernel_rfl) rfl) hit (fun k hk => (hPv k hk).1) (fun _ => rfl) (fun _ _ _ _ _ h => h)
            (gatKI 3 49 51 encR 2 W7 (w.heap.size + 1) W7.heap.size w8.heap.size mn) (gatKX2 3 49 51 encR 2 W7 (w.heap.size + 1) W7.heap.size w8.heap.size mn) (gatKI.abid (by omega)) (gatKX2.abid (by omega)) ?h0
            (fun r => { tmps := #[Value.slice A0 k c0, Value.agg #[Value.int IntKind.i64 x.what, Value.int IntKind.i64 x.owner, Value.int IntKind.i64 x.n, Value.int IntKind.i64 x.at_, Value.slice x.A x.bs.length x.c, Value.int IntKind.i64 y.what, Value.int IntKind.i64 y.owner, Value.int IntKind.i64 y.n, Value.int IntKind.i64 y.at_, Value.slice y.A y.bs.length y.c], Value.int IntKind.i64 ↑mn, undef, Value.pointer (some { block := w.heap.size, off := 0 }), Value.pointer (some { block := w.heap.size + 1, off := 0 }), Value.bool false, bx b, Value.int IntKind.i64 0, Value.pointer (some { block := g, off := 0 }), Value.int IntKind.i64 0, Value.int IntKind.i64 ↑k, bx kb, Value.func (Fn.func 49) #[] #[Value.pointer (some { block := bw, off := 0 })], bx ra, Value.pointer (some { block := g1, off := 0 }), Value.bool true, bx rb, Value.pointer (some { block := g2, off := 0 }), Value.bool true, Value.pointer (some { block := W7.heap.size, off := 0 }), Value.int IntKind.i64 (r.1 : Int), Value.int IntKind.i64 (r.2 : Int), undef, v24, Value.slice A0 k c0, v26, Value.pointer (some { block := w.heap.size, off := 0 }), Value.agg #[Value.int IntKind.i64 x.what, Value.int IntKind.i64 x.owner, Value.int IntKind.i64 x.n, Value.int IntKind.i64 x.at_, Value.slice x.A x.bs.length x.c], Value.pointer (some { block := w.heap.size, off := 5 }), Value.agg #[Value.int IntKind.i64 y.what, Value.int IntKind.i64 y.owner, Value.int IntKind.i64 y.n, Value.int IntKind.i64 y.at_, Value.slice y.A y.bs.length y.c], v31, v32, Value.bool true, Value.bool false, Value.bool false, Value.int IntKind.i64 ↑mn, Value.bool false, Value.bool false, Value.bool false, Value.int IntKind.i64 ↑mn, Value.bool false, Value.bool false, undef, Value.tuple #[Value.pointer (some { block := b0, off := 0 }), Value.int IntKind.i64 0], Value.tuple #[Value.pointer (some { block := b0, off := 0 }), Value.int IntKind.i64 0], Value.pointer (some { block := b0, off := 0 }), Value.int IntKind.i64 0, Value.tuple #[Value.agg csI.toArray, Value.int IntKind.i64 0], Value.tuple #[Value.agg csI.toArray, Value.int IntKind.i64 0], Value.agg csI.toArray, Value.int IntKind.i64 0, Value.int IntKind.i64 ↑k, Value.slice A0 k c0, Value.int IntKind.i64 ↑k, Value.bool false, u56, u57, u58, u59, u60, u61, u62, u63, u64, u65, u66, u67, u68, bx b, bx kb, bx b, Value.func (Fn.func 49) #[] #[Value.pointer (some { block := bw, off := 0 })], Value.tuple #[bx ra, Value.agg cs1.toArray, Value.bool true], bx b, Value.agg cs.toArray, Value.pointer (some { block := w.heap.size, off := 0 }), Value.agg #[Value.int IntKind.i64 x.what, Value.int IntKind.i64 x.owner, Value.int IntKind.i64 x.n, Value.int IntKind.i64 x.at_, Value.slice x.A x.bs.length x.c], Value.tuple #[bx ra, Value.agg cs1.toArray, Value.bool true], bx ra, Value.agg cs1.toArray, Value.bool true, Value.tuple #[bx rb, Value.agg cs2.toArray, Value.bool true], bx kb, Value.agg cs.toArray, Value.pointer (some { block := w.heap.size, off := 5 }), Value.agg #[Value.int IntKind.i64 y.what, Value.int IntKind.i64 y.owner, Value.int IntKind.i64 y.n, Value.int IntKind.i64 y.at_, Value.slice y.A y.bs.length y.c], Value.tuple #[bx rb, Value.agg cs2.toArray, Value.bool true], bx rb, Value.agg cs2.toArray, Value.bool true, Value.int IntKind.i64 0, Value.int IntKind.i64 0, Value.bool false, Value.bool false, Value.bool true, Value.bool false, Value.bool false, Value.bool false, Value.bool true, Value.bool false, Value.bool false, Value.bool false, bx ra, Value.agg cs1.toArray, Value.bool true, Value.bool false, Value.bool false, Value.bool false, bx rb, Value.agg cs2.toArray, Value.bool true, Value.bool false, Value.bool false, Value.bool false, bx ra, bx rb, Value.bool qq, Value.agg cs1.toArray, Value.agg cs2.toArray, Value.bool qq, Value.bool false, Value.bool false, Value.bool false, bx rb, bx ra, Value.bool qq, Value.agg cs1.toArray, Value.agg cs2.toArray, Value.bool qq, Value.bool false, Value.bool false, Value.func (Fn.func 49) #[] #[Value.pointer (some { block := bw, off := 0 })], Value.bool false, Value.func (Fn.func 49) #[] #[Value.pointer (some { block := bw, off := 0 })], Value.int IntKind.i64 (r.1 : Int), Value.int IntKind.i64 (r.2 : Int), undef, undef, undef, undef, undef, undef, undef, undef, undef, undef, undef, undef, undef, undef, undef, undef, undef, undef, undef, undef, undef, undef, undef], defers := [] }) ?assign ?body ?done ?stop)
          case h0 => exact ⟨⟨_, hL8, hM8, World.ownsRow_nil _ _ _ _, fun k h => (by cases h), hb8⟩, by simp; omega, fun _ h => h.elim⟩
          case assign =>
            intro l9 r W' K hK
            simp only [encP]
            gi_wp2
            exact hK
          case body =>
            rintro l9 pre r O V hVs hO ⟨⟨v, hbx, hbm, hown, hvO, hbl⟩, hlen, hOw⟩ hx9 _
            have hn9 : pre.length ≤ 100000 := by omega
            obtain ⟨hi, hz0, hz1, hz2⟩ := HI.out
            clear hx9 hit hL8 hM8
            obtain ⟨Av, cv, rfl⟩ := own_slice hown
            have hown1 := hown.alloc (.cells #[.int .i64 (r.1 : Int), .int .i64 (r.2 : Int)] 51)
            have hbx1 := hbx.alloc (.cells #[.int .i64 (r.1 : Int), .int .i64 (r.2 : Int)] 51)
            have hbm1 := hbm.alloc (.cells #[.int .i64 (r.1 : Int), .int .i64 (r.2 : Int)] 51)
            have hce := hbx.cell
            have hce1 := hbx1.cell
            have hb1 := hbx.not_row (by decide) hown
            have hb2 : some (w.heap.size + 1) ≠ (Value.slice Av pre.length cv).ownBlock := fun e => by have := hOw _ (hvO _ e.symm); omega
            clear hbx hbm
            gi_wp2_with (gi_at_builtin; refine wpListIn_append_sees rfl (.tmp 137) (.tmp 141) 49 rfl w8.heap.size 51 i0 _ 2 16 Tryz.underlying49 hi hz0 hz1 hz2 rfl (by decide) _ pre.length (pre.flatMap encR) rfl hown1 (V.heap.size + 1) (some ⟨V.heap.size, 0, none⟩) 1 1 (encR r) rfl rfl (fun _ => ⟨_, rfl, by simp, cells_two_new _ _ _ _⟩) (by simp [encR, Value.oneCell']) (by unfold maxLen; omega) (by omega) (by simp; omega) ?_; intro v' w4 hown4 hg4 hv4; obtain ⟨g4, cap4, rfl⟩ := ownsRow_succ hown4; have hbx4 := hbx1.kept hg4 hb1; have hbm4 := hbm1.kept hg4 hb2; have hx4c := hbx4.cell; have hx4f := hbx4.frozen; have hm4c := hbm4.cell)
            all_goals
              have hg5 : (V.alloc (.cells #[.int .i64 (r.1 : Int), .int .i64 (r.2 : Int)] 51)).grownBy w4 (Value.slice Av pre.length cv).ownBlock := hg4
              have hfin := Lib.hid (gatK_round (x := r) (by omega) (by omega) (by omega) hPv hOw hvO hVs hown4 hg5 hv4 hbx4 hbm4 hbl (by simp))
            · obtain ⟨k1, k2, k3⟩ := hfin.out
              exact ⟨k1, rfl, k2, by simp; omega, k3⟩
            · obtain ⟨k1, k2, k3⟩ := hfin.out
              exact ⟨k1, k2, by simp; omega, k3⟩
          case done =>
            intro xs O Z hall hI hD
            obtain ⟨hG, hlen3, hOw⟩ := hI
            have hnO : ¬ O w8.heap.size := fun h => by have := hOw _ h; omega
            obtain ⟨v2, hLY, hMY, hownY, _, hblY⟩ := hG
            obtain ⟨Ax, cx, rfl⟩ := own_slice hownY
            have hxs : xs = (rowsN lo).take mn := got_done hall hlen3
            have hbq : Below V6.heap.size V6 Z := below0 hb7 hblY
            have hZs := hbq.size
            have hrgZ : Z.rangeAt g 0 cs := range_keep (HCS.out ▸ HC.out.rg) (hbq.block _ HC.out.lt)
            have HRG := Lib.hid hrgZ
            have hof := rrows_cap p A k8 c Z HPL.out HOK.out (HC.out.lies.below hbq)
            rw [← HLO.out, show rv p A k8 c = .agg cs.toArray by rw [HCS.out]; rfl] at hof
            have HOF := Lib.hid hof
            have hlol : (rowsN lo).length ≤ 16384 := by have := rowsN_len lo; have := idx_len lo; have := HMOST.out; omega
            have hLl := hLY.cell
            have hMl := hMY.cell
            have hsY := sees_any hownY
            have HXS := Lib.hid hxs
            have HD := Lib.hid hD
            have hZlt := (Array.getElem?_eq_some_iff.1 hD).1
            have hLlt := hLY.lt
            have hMlt := hMY.lt
            have hBZ0 := Lib.hid (below0 HB0.out (below0 HC.out.below hbq))
            have HZS := Lib.hid hblY.size
            clear hall hlen3 hLY hMY hownY hit hxs hD hL8 hM8 hblY hZs hrgZ hof
            go_wp2_with (first
              | refine wpList_load_mid rfl 36 (.tmp 9) rfl g 0 (by kernel_rfl) cs _ HRG.out Tryz.underlying36 rfl HSZ.out ?_)
            refine (HOF.out).mono ?_
            rintro e Z2 ⟨A9, c9, rfl, hcap9, hs9, hbz⟩
            have hLl2 := (hbz.cell (p := ⟨W7.heap.size, 0, none⟩) hLlt).trans hLl
            have hMl2 := (hbz.cell (p := ⟨w.heap.size + 1, 0, none⟩) hMlt).trans hMl
            obtain ⟨qn, hqn⟩ : ∃ qn, qn = (rowsN lo).length := ⟨_, rfl⟩
            rw [← hqn] at hlol hcap9
            rw [← hqn]
            obtain ⟨kk, hkk⟩ : ∃ kk, kk = min mn qn := ⟨_, rfl⟩
            have hkq : kk ≤ qn := by omega
            have hkx : xs.length = kk := by rw [HXS.out, List.length_take, hkk, hqn]
            have hmin : min (mn : Int) (qn : Int) = (kk : Int) := by omega
            have hmin2 : (if (qn : Int) < (mn : Int) then (qn : Int) else (mn : Int)) = (kk : Int) := by split <;> omega
            have hsxZ := (hsY.below hbz).more hbz.size
            have hs9t := hs9.take (kk * 2)
            rw [row_take2, show (rowsN lo).take kk = xs by rw [HXS.out, hkk, hqn]; exact (List.take_eq_take_min).symm] at hs9t
            have HR := Lib.hid (fun (W : World) (hb : Below Z2.heap.size Z2 W) => (show Calls Tryz.prog 18 #[.slice Ax kk cx, .slice A9 kk c9] W (fun e w' => e = .returned (.bool true) ∧ Below Z2.heap.size Z2 w') from
              (same_any xs xs Ax A9 cx c9 kk kk W hkx hkx (by omega) ((hsxZ.below hb).more hb.size) ((hs9t.below hb).more hb.size)).mono fun _ _ ⟨e1, q, e2⟩ => ⟨by rw [e1]; simp, e2 ▸ below_drewN hb q⟩))
            rw [hkx] at hLl2
            have hDZ := (hbz.block _ hZlt).trans HD.out
            have HDZ := Lib.hid hDZ
            have HBZ := Lib.hid (below0 hBZ0.out hbz)
            have HZ2 := Lib.hid hbz.size
            have hBlt : w8.heap.size < Z2.heap.size := by have := hbz.size; omega
            have hW2 : W7.heap.size < Z2.heap.size := by have := hbz.size; omega
            have hM2 : w.heap.size + 1 < Z2.heap.size := by have := hbz.size; omega
            have HSA := Lib.hid (fun (W : World) (hb : Below Z2.heap.size Z2 W) => (show W.cell? ⟨W7.heap.size, 0, none⟩ = some (.slice Ax kk cx) ∧ W.cell? ⟨w.heap.size + 1, 0, none⟩ = some (.int .i64 (mn : Int)) ∧ Below Z2.heap.size Z2 W from
              ⟨(hb.cell (p := ⟨W7.heap.size, 0, none⟩) hW2).trans hLl2, (hb.cell (p := ⟨w.heap.size + 1, 0, none⟩) hM2).trans hMl2, hb⟩))
            have hdr := Lib.hid (show Below Z2.heap.size Z2 Z2.drew from (Below.refl _ _).drew)
            have hWK := Lib.hid (fun (W : World) (hb : Below Z2.heap.size Z2 W) => (show Calls Tryz.prog 7 #[] W (fun e w' => e = .returned (.bool true) ∧ Below Z2.heap.size Z2 w') from (hwk.out W).mono fun _ _ ⟨e1, e2⟩ => ⟨e1, below0 hb e2⟩))
            have hcap2 : (kk : Int) ≤ (c9 : Int) := by omega
            have hcap3 : (0 : Int) ≤ (kk : Int) := by omega
            have hcap4 : kk ≤ c9 := by omega
            have HBL := Lib.hid hBlt
            clear hLl hMl hs9 hsxZ hs9t hsY hqn hkk hkx hDZ hLl2 hMl2 hbz hlol hBlt hW2 hM2 hkq hcap9
            go_wp2_with fail
            refine wp_region_noPanic ?_
            refine wp_region_held_drew (S := fun W => W.cell? ⟨W7.heap.size, 0, none⟩ = some (.slice Ax kk cx) ∧ W.cell? ⟨w.heap.size + 1, 0, none⟩ = some (.int .i64 (mn : Int)) ∧ Below Z2.heap.size Z2 W) (by kernel_rfl) (HSA.out _ hdr.out) (fun hHeld => ?_)
            have hb0 := hdr.out
            refine wpAnyH_take (i := 0) (v := ?_) rfl (by kernel_rfl) (by kernel_rfl) (by kernel_rfl) (fun _ _ _ h => h) (Or.inl ⟨by kernel_rfl, ?_⟩) hHeld ?_
            rotate_left
            focus (intro w hSw; (try dsimp only at hSw); go_simp; try with_reducible rfl)
            simp only [Act.put]
            refine wpAnyH_take (i := 1) (v := ?_) rfl (by kernel_rfl) (by kernel_rfl) (by kernel_rfl) (fun _ _ _ h => h) (Or.inl ⟨by kernel_rfl, ?_⟩) hHeld ?_
            rotate_left
            focus (intro w hSw; (try dsimp only at hSw); go_simp; try with_reducible rfl)
            simp only [Act.put]
            refine wpAnyH_take (i := 2) (v := ?_) rfl (by kernel_rfl) (by kernel_rfl) (by kernel_rfl) (fun _ _ _ h => h) (Or.inl ⟨by kernel_rfl, ?_⟩) hHeld ?_
            rotate_left
            focus (intro w hSw; (try dsimp only at hSw); go_simp; try with_reducible rfl)
            simp only [Act.put]
            refine wpAnyH_take (i := 3) (v := ?_) rfl (by kernel_rfl) (by kernel_rfl) (by kernel_rfl) (fun _ _ _ h => h) (Or.inl ⟨by kernel_rfl, ?_⟩) hHeld ?_
            rotate_left
            focus (intro w hSw; (try dsimp only at hSw); go_simp; try with_reducible rfl)
            simp only [Act.put]
            refine wpAnyH_take (i := 4) (v := ?_) rfl (by kernel_rfl) (by kernel_rfl) (by kernel_rfl) (fun _ _ _ h => h) (Or.inl ⟨by kernel_rfl, ?_⟩) hHeld ?_
            rotate_left
            focus (intro w hSw; (try dsimp only at hSw); go_simp; try with_reducible rfl)
            simp only [Act.put]
            refine wpAnyH_take (i := 5) (v := ?_) rfl (by kernel_rfl) (by kernel_rfl) (by kernel_rfl) (fun _ _ _ h => h) (Or.inl ⟨by kernel_rfl, ?_⟩) hHeld ?_
            rotate_left
            focus (intro w hSw; (try dsimp only at hSw); go_simp; try with_reducible rfl)
            simp only [Act.put]
            refine wpAnyH_take (i := 6) (v := ?_) rfl (by kernel_rfl) (by kernel_rfl) (by kernel_rfl) (fun _ _ _ h => h) (Or.inl ⟨by kernel_rfl, ?_⟩) hHeld ?_
            rotate_left
            focus (intro w hSw; (try dsimp only at hSw); go_simp; try with_reducible rfl)
            simp only [Act.put]
            refine wpAnyH_ready (rs := [7]) (by kernel_rfl) (by simp) ?_
            refine AllReadyH.cons rfl (fun K hK => ?_) (AllReadyH.nil)
            go_simp
            refine (HR.out _ hb0).mono ?_
            rintro e w20 ⟨rfl, hb20⟩
            refine hK.out _ _ (HSA.out _ hb20) (fun hHeld => ?_)
            clear hK K
            try simp only [Act.put]
            refine wpAnyH_take (i := 8) (v := ?_) rfl (by kernel_rfl) (by kernel_rfl) (by kernel_rfl) (fun _ _ _ h => h) (Or.inl ⟨by kernel_rfl, ?_⟩) hHeld ?_
            rotate_left
            focus (intro w hSw; (try dsimp only at hSw); go_simp; try with_reducible rfl)
            simp only [Act.put]
            refine wpAnyH_ready (rs := [9]) (by kernel_rfl) (by simp) ?_
            refine AllReadyH.cons rfl (fun K hK => ?_) (AllReadyH.nil)
            go_simp
            refine (hWK.out _ hb20).mono ?_
            rintro e w21 ⟨rfl, hb21⟩
            refine hK.out _ _ (HSA.out _ hb21) (fun hHeld => ?_)
            clear hK K
            try simp only [Act.put]
            refine wpAnyH_ready (rs := [10]) (by kernel_rfl) (by simp) ?_
            refine AllReadyH.cons rfl (fun K hK => ?_) (AllReadyH.nil)
            go_simp
            refine hK.out _ _ (HSA.out _ hb21) (fun hHeld => ?_)
            clear hK K
            try simp only [Act.put]
            refine wpAnyH_ready (rs := [11]) (by kernel_rfl) (by simp) ?_
            refine AllReadyH.cons rfl (fun K hK => ?_) (AllReadyH.nil)
            go_simp
            refine hK.out _ _ (HSA.out _ hb21) (fun hHeld => ?_)
            clear hK K
            try simp only [Act.put]
            refine wpAnyH_done (by kernel_rfl) ?_ _
            refine NoPanic.normal ?_
            have hDj : w21.heap[w8.heap.size]? = some (.deferred (some [])) := (hb21.block w8.heap.size HBL.out).trans HDZ.out
            have hBj : Below w.heap.size w (w21.putObj w8.heap.size (.deferred none)) := (below0 HBZ.out hb21).grown (putObj_grown w21 _ _) (by have := HBZ.out.size; have := hb21.size; omega) (fun r e => by cases e; have := H8.out; have := HS0.out; omega)
            rw [H8.out.1] at hDj hBj
            clear hb0 hb20 hb21 hdr HSA HR hWK
            go_wp2
            refine ⟨by simp, .inl ⟨_, _, rfl, run_takeDeferred hDj, ?_⟩⟩
            exact ⟨_, results_tmp (t := 6) rfl _ _ _, ⟨rfl, hBj⟩⟩
          case stop =>
            rintro c9' xs O Z hall ⟨rfl, hG, hlen3, hOw⟩ hD
            have hnO : ¬ O w8.heap.size := fun h => by have := hOw _ h; omega
            obtain ⟨v2, hLY, hMY, hownY, _, hblY⟩ := hG
            obtain ⟨Ax, cx, rfl⟩ := own_slice hownY
            have hxs : xs = (rowsN lo).take mn := got_stop hall hlen3
            have hbq : Below V6.heap.size V6 Z := below0 hb7 hblY
            have hZs := hbq.size
            have hrgZ : Z.rangeAt g 0 cs := range_keep (HCS.out ▸ HC.out.rg) (hbq.block _ HC.out.lt)
            have HRG := Lib.hid hrgZ
            have hof := rrows_cap p A k8 c Z HPL.out HOK.out (HC.out.lies.below hbq)
            rw [← HLO.out, show rv p A k8 c = .agg cs.toArray by rw [HCS.out]; rfl] at hof
            have HOF := Lib.hid hof
            have hlol : (rowsN lo).length ≤ 16384 := by have := rowsN_len lo; have := idx_len lo; have := HMOST.out; omega
            have hLl := hLY.cell
            have hMl := hMY.cell
            have hsY := sees_any hownY
            have HXS := Lib.hid hxs
            have HD := Lib.hid hD
            have hZlt := (Array.getElem?_eq_some_iff.1 hD).1
            have hLlt := hLY.lt
            have hMlt := hMY.lt
            have hBZ0 := Lib.hid (below0 HB0.out (below0 HC.out.below hbq))
            have HZS := Lib.hid hblY.size
            clear hall hlen3 hLY hMY hownY hit hxs hD hL8 hM8 hblY hZs hrgZ hof
            refine wpIn_wide.2 ?_
            go_wp2_with (first
              | refine wpList_load_mid rfl 36 (.tmp 9) rfl g 0 (by kernel_rfl) cs _ HRG.out Tryz.underlying36 rfl HSZ.out ?_)
            refine (HOF.out).mono ?_
            rintro e Z2 ⟨A9, c9, rfl, hcap9, hs9, hbz⟩
            have hLl2 := (hbz.cell (p := ⟨W7.heap.size, 0, none⟩) hLlt).trans hLl
            have hMl2 := (hbz.cell (p := ⟨w.heap.size + 1, 0, none⟩) hMlt).trans hMl
            obtain ⟨qn, hqn⟩ : ∃ qn, qn = (rowsN lo).length := ⟨_, rfl⟩
            rw [← hqn] at hlol hcap9
            rw [← hqn]
            obtain ⟨kk, hkk⟩ : ∃ kk, kk = min mn qn := ⟨_, rfl⟩
            have hkq : kk ≤ qn := by omega
            have hkx : xs.length = kk := by rw [HXS.out, List.length_take, hkk, hqn]
            have hmin : min (mn : Int) (qn : Int) = (kk : Int) := by omega
            have hmin2 : (if (qn : Int) < (mn : Int) then (qn : Int) else (mn : Int)) = (kk : Int) := by split <;> omega
            have hsxZ := (hsY.below hbz).more hbz.size
            have hs9t := hs9.take (kk * 2)
            rw [row_take2, show (rowsN lo).take kk = xs by rw [HXS.out, hkk, hqn]; exact (List.take_eq_take_min).symm] at hs9t
            have HR := Lib.hid (fun (W : World) (hb : Below Z2.heap.size Z2 W) => (show Calls Tryz.prog 18 #[.slice Ax kk cx, .slice A9 kk c9] W (fun e w' => e = .returned (.bool true) ∧ Below Z2.heap.size Z2 w') from
              (same_any xs xs Ax A9 cx c9 kk kk W hkx hkx (by omega) ((hsxZ.below hb).more hb.size) ((hs9t.below hb).more hb.size)).mono fun _ _ ⟨e1, q, e2⟩ => ⟨by rw [e1]; simp, e2 ▸ below_drewN hb q⟩))
            rw [hkx] at hLl2
            have hDZ := (hbz.block _ hZlt).trans HD.out
            have HDZ := Lib.hid hDZ
            have HBZ := Lib.hid (below0 hBZ0.out hbz)
            have HZ2 := Lib.hid hbz.size
            have hBlt : w8.heap.size < Z2.heap.size := by have := hbz.size; omega
            have hW2 : W7.heap.size < Z2.heap.size := by have := hbz.size; omega
            have hM2 : w.heap.size + 1 < Z2.heap.size := by have := hbz.size; omega
            have HSA := Lib.hid (fun (W : World) (hb : Below Z2.heap.size Z2 W) => (show W.cell? ⟨W7.heap.size, 0, none⟩ = some (.slice Ax kk cx) ∧ W.cell? ⟨w.heap.size + 1, 0, none⟩ = some (.int .i64 (mn : Int)) ∧ Below Z2.heap.size Z2 W from
              ⟨(hb.cell (p := ⟨W7.heap.size, 0, none⟩) hW2).trans hLl2, (hb.cell (p := ⟨w.heap.size + 1, 0, none⟩) hM2).trans hMl2, hb⟩))
            have hdr := Lib.hid (show Below Z2.heap.size Z2 Z2.drew from (Below.refl _ _).drew)
            have hWK := Lib.hid (fun (W : World) (hb : Below Z2.heap.size Z2 W) => (show Calls Tryz.prog 7 #[] W (fun e w' => e = .returned (.bool true) ∧ Below Z2.heap.size Z2 w') from (hwk.out W).mono fun _ _ ⟨e1, e2⟩ => ⟨e1, below0 hb e2⟩))
            have hcap2 : (kk : Int) ≤ (c9 : Int) := by omega
            have hcap3 : (0 : Int) ≤ (kk : Int) := by omega
            have hcap4 : kk ≤ c9 := by omega
            have HBL := Lib.hid hBlt
            clear hLl hMl hs9 hsxZ hs9t hsY hqn hkk hkx hDZ hLl2 hMl2 hbz hlol hBlt hW2 hM2 hkq hcap9
            go_wp2_with fail
            refine wp_region_noPanic ?_
            refine wp_region_held_drew (S := fun W => W.cell? ⟨W7.heap.size, 0, none⟩ = some (.slice Ax kk cx) ∧ W.cell? ⟨w.heap.size + 1, 0, none⟩ = some (.int .i64 (mn : Int)) ∧ Below Z2.heap.size Z2 W) (by kernel_rfl) (HSA.out _ hdr.out) (fun hHeld => ?_)
            have hb0 := hdr.out
            refine wpAnyH_take (i := 0) (v := ?_) rfl (by kernel_rfl) (by kernel_rfl) (by kernel_rfl) (fun _ _ _ h => h) (Or.inl ⟨by kernel_rfl, ?_⟩) hHeld ?_
            rotate_left
            focus (intro w hSw; (try dsimp only at hSw); go_simp; try with_reducible rfl)
            simp only [Act.put]
            refine wpAnyH_take (i := 1) (v := ?_) rfl (by kernel_rfl) (by kernel_rfl) (by kernel_rfl) (fun _ _ _ h => h) (Or.inl ⟨by kernel_rfl, ?_⟩) hHeld ?_
            rotate_left
            focus (intro w hSw; (try dsimp only at hSw); go_simp; try with_reducible rfl)
            simp only [Act.put]
            refine wpAnyH_take (i := 2) (v := ?_) rfl (by kernel_rfl) (by kernel_rfl) (by kernel_rfl) (fun _ _ _ h => h) (Or.inl ⟨by kernel_rfl, ?_⟩) hHeld ?_
            rotate_left
            focus (intro w hSw; (try dsimp only at hSw); go_simp; try with_reducible rfl)
            simp only [Act.put]
            refine wpAnyH_take (i := 3) (v := ?_) rfl (by kernel_rfl) (by kernel_rfl) (by kernel_rfl) (fun _ _ _ h => h) (Or.inl ⟨by kernel_rfl, ?_⟩) hHeld ?_
            rotate_left
            focus (intro w hSw; (try dsimp only at hSw); go_simp; try with_reducible rfl)
            simp only [Act.put]
            refine wpAnyH_take (i := 4) (v := ?_) rfl (by kernel_rfl) (by kernel_rfl) (by kernel_rfl) (fun _ _ _ h => h) (Or.inl ⟨by kernel_rfl, ?_⟩) hHeld ?_
            rotate_left
            focus (intro w hSw; (try dsimp only at hSw); go_simp; try with_reducible rfl)
            simp only [Act.put]
            refine wpAnyH_take (i := 5) (v := ?_) rfl (by kernel_rfl) (by kernel_rfl) (by kernel_rfl) (fun _ _ _ h => h) (Or.inl ⟨by kernel_rfl, ?_⟩) hHeld ?_
            rotate_left
            focus (intro w hSw; (try dsimp only at hSw); go_simp; try with_reducible rfl)
            simp only [Act.put]
            refine wpAnyH_take (i := 6) (v := ?_) rfl (by kernel_rfl) (by kernel_rfl) (by kernel_rfl) (fun _ _ _ h => h) (Or.inl ⟨by kernel_rfl, ?_⟩) hHeld ?_
            rotate_left
            focus (intro w hSw; (try dsimp only at hSw); go_simp; try with_reducible rfl)
            simp only [Act.put]
            refine wpAnyH_ready (rs := [7]) (by kernel_rfl) (by simp) ?_
            refine AllReadyH.cons rfl (fun K hK => ?_) (AllReadyH.nil)
            go_simp
            refine (HR.out _ hb0).mono ?_
            rintro e w20 ⟨rfl, hb20⟩
            refine hK.out _ _ (HSA.out _ hb20) (fun hHeld => ?_)
            clear hK K
            try simp only [Act.put]
            refine wpAnyH_take (i := 8) (v := ?_) rfl (by kernel_rfl) (by kernel_rfl) (by kernel_rfl) (fun _ _ _ h => h) (Or.inl ⟨by kernel_rfl, ?_⟩) hHeld ?_
            rotate_left
            focus (intro w hSw; (try dsimp only at hSw); go_simp; try with_reducible rfl)
            simp only [Act.put]
            refine wpAnyH_ready (rs := [9]) (by kernel_rfl) (by simp) ?_
            refine AllReadyH.cons rfl (fun K hK => ?_) (AllReadyH.nil)
            go_simp
            refine (hWK.out _ hb20).mono ?_
            rintro e w21 ⟨rfl, hb21⟩
            refine hK.out _ _ (HSA.out _ hb21) (fun hHeld => ?_)
            clear hK K
            try simp only [Act.put]
            refine wpAnyH_ready (rs := [10]) (by kernel_rfl) (by simp) ?_
            refine AllReadyH.cons rfl (fun K hK => ?_) (AllReadyH.nil)
            go_simp
            refine hK.out _ _ (HSA.out _ hb21) (fun hHeld => ?_)
            clear hK K
            try simp only [Act.put]
            refine wpAnyH_ready (rs := [11]) (by kernel_rfl) (by simp) ?_
            refine AllReadyH.cons rfl (fun K hK => ?_) (AllReadyH.nil)
            go_simp
            refine hK.out _ _ (HSA.out _ hb21) (fun hHeld => ?_)
            clear hK K
            try simp only [Act.put]
            refine wpAnyH_done (by kernel_rfl) ?_ _
            refine NoPanic.normal ?_
            have hDj : w21.heap[w8.heap.size]? = some (.deferred (some [])) := (hb21.block w8.heap.size HBL.out).trans HDZ.out
            have hBj : Below w.heap.size w (w21.putObj w8.heap.size (.deferred none)) := (below0 HBZ.out hb21).grown (putObj_grown w21 _ _) (by have := HBZ.out.size; have := hb21.size; omega) (fun r e => by cases e; have := H8.out; have := HS0.out; omega)
            rw [H8.out.1] at hDj hBj
            clear hb0 hb20 hb21 hdr HSA HR hWK
            go_wp2
            refine ⟨by simp, .inl ⟨_, _, rfl, run_takeDeferred hDj, ?_⟩⟩
            exact ⟨_, results_tmp (t := 6) rfl _ _ _, ⟨rfl, hBj⟩⟩
theorem frameCopies_any (l : List Ac) (A : Option Addr) (n c : Nat) (x y : Ac) (o : Int) (w : World) (h : Acs w l A) (hl : l.length = n) (hn : n * 56 ≤ 140737488351232) (hx : x.fits w) (hy : y.fits w) :
    Calls Tryz.prog 3 #[.slice A n c, .agg #[.int .i64 x.what, .int .i64 x.owner, .int .i64 x.n, .int .i64 x.at_, .slice x.A x.bs.length x.c, .int .i64 y.what, .int .i64 y.owner, .int .i64 y.n, .int .i64 y.at_, .slice y.A y.bs.length y.c], .int .i64 o] w fun e w' => e = .returned (.bool true) ∧ Below w.heap.size w w' := by
  cases hq : fewB (l ++ [x, y]) 32
  · exact copies_farA l A n c x y o w h hl hn hx hy hq
  · by_cases h1 : o < 1
    · exact copies_farB l A n c x y o w h hl hn hx hy hq h1
    · by_cases h9 : 9 < o
      · exact copies_farC l A n c x y o w h hl hn hx hy hq h9
      · obtain ⟨m, rfl⟩ : ∃ m : Nat, o = m := ⟨o.toNat, by omega⟩
        exact copies_main l A n c x y m w h hl hx hy hq (by omega) (by omega)
end Go.Proofs.YtmbjjbgpcacoeaaGreat
