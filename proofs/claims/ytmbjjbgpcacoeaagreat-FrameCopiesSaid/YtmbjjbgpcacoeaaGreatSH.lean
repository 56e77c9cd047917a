import Derived.Test.YtmbjjbgpcacoeaaGreatSG
namespace Go.Proofs.YtmbjjbgpcacoeaaGreat
open Go.RowKit Go.Shelf Go.Maps Go.Sort
attribute [local go_sem] Oper.semAt_some

/- FRAMECOPIES. -/
/-- an append in a region that draws, its answer in a block of its own -/
theorem step_append_sees {P : Program} {w : World} {ops : Array Oper} {o : Oper} {a : Act} {K : Act → World → Prop} {Q : Exit → Act → World → Prop} {E : Prop} (hgd : o.guard = none) (s x : Operand) (t : TypeId)
    (ho : o.op = .call { callee := .builtin .append, args := #[s, x], argTypes := #[t, t] })
    (base : Nat) (e : TypeId) (i : TypeInfo) (z : Value) (size bytes : Nat) (ht : P.underlying t = some (.slice e)) (hi : P.info? e = some i) (hz : i.zero = some z)
    (hsize : i.size = size) (hby : i.bytes = bytes) (hzs : z.cells.size = size) (hsz : 0 < size)
    (v : Value) (n : Nat) (xs : List Value) (hs : a.eval s = v) (hown : w.ownsRow base e size v n xs)
    (B : Nat) (A : Option Addr) (m c : Nat) (news : List Value) (hx : a.eval x = .slice A m c) (hl : news.length = m * size) (hr : Sees w B A news) (h1 : ∀ u ∈ news, u.oneCell' = true)
    (h63 : n + m ≤ maxLen) (hbytes : (n + m) * bytes ≤ 140737488355328) (hbase : base ≤ w.heap.size)
    (h : ∀ v' w', w'.ownsRow base e size v' (n + m) (xs ++ news) → w.grownBy w' v.ownBlock → (v'.ownBlock = v.ownBlock ∨ v'.ownBlock = some w.heap.size) → K (a.put o.dst v') w') :
    if Region.wanted o (yielded ops a.tmps) = true then Oper.wp P o a w K Q else E := by
  rw [if_pos (by simp [Region.wanted, hgd])]
  obtain ⟨v', w', hrun, h2, h3, h4⟩ := run_append_sees (P := P) w base t o.type e i z size bytes ht hi hz hsize hby hzs hsz v n xs hown B A m c news hl hr h1 h63 hbytes hbase
  unfold Oper.wp execOp
  simp only [ho, resolve, invoke, builtin, Sem.run_bind, Sem.run_pure, Result.andThen_ok, List.map_toArray, List.map_cons, List.map_nil, hs, hx, hrun]
  exact h v' w' h2 h3 h4
theorem act_info : (Tryz.prog.info? 25).map (fun i => (i.zero, i.size, i.bytes)) = some (some (.agg #[.int .i64 0, .int .i64 0, .int .i64 0, .int .i64 0, .slice none 0 0]), 5, 56) := by kernel_rfl
theorem acs_one {l : List Ac} : ∀ u ∈ l.flatMap Ac.cells, u.oneCell' = true := by
  intro u hu
  obtain ⟨x, _, hx⟩ := List.mem_flatMap.1 hu
  simp only [Ac.cells, Ac.sl, List.mem_cons, List.not_mem_nil, or_false] at hx
  rcases hx with rfl | rfl | rfl | rfl | rfl <;> rfl
theorem acs_len (l : List Ac) : (l.flatMap Ac.cells).length = l.length * 5 := by
  induction l with
  | nil => rfl
  | cons x r ih =>
    rw [List.flatMap_cons, List.length_append, ih, List.length_cons]
    show 5 + _ = _
    omega
set_option maxRecDepth 100000 in
set_option maxHeartbeats 8000000 in
theorem copies_farA (l : List Ac) (A0 : Option Addr) (n0 c0 : Nat) (x y : Ac) (many : Int) (w : World) (h : Acs w l A0) (hl : l.length = n0) (hn : n0 * 56 ≤ 140737488351232) (hx : x.fits w) (hy : y.fits w) (hq : fewB (l ++ [x, y]) 32 = false) :
    Calls Tryz.prog 3 #[.slice A0 n0 c0, .agg #[.int .i64 x.what, .int .i64 x.owner, .int .i64 x.n, .int .i64 x.at_, .slice x.A x.bs.length x.c, .int .i64 y.what, .int .i64 y.owner, .int .i64 y.n, .int .i64 y.at_, .slice y.A y.bs.length y.c], .int .i64 many] w fun e w' => e = .returned (.bool true) ∧ Below w.heap.size w w' := by
  obtain ⟨j0, hj, hj0, hj1, hj2⟩ := info_parts act_info
  have hW : ∃ W0, W0 = (w.alloc (.cells #[.int .i64 x.what, .int .i64 x.owner, .int .i64 x.n, .int .i64 x.at_, .slice x.A x.bs.length x.c, .int .i64 y.what, .int .i64 y.owner, .int .i64 y.n, .int .i64 y.at_, .slice y.A y.bs.length y.c] 26)).alloc (.cells #[.int .i64 many] 3) := ⟨_, rfl⟩
  obtain ⟨W0, hW0⟩ := hW
  have hb0 : Below w.heap.size w W0 := by rw [hW0]; exact below2 _ _ _
  have rx : Row W0 w.heap.size 26 [.int .i64 x.what, .int .i64 x.owner, .int .i64 x.n, .int .i64 x.at_, .slice x.A x.bs.length x.c, .int .i64 y.what, .int .i64 y.owner, .int .i64 y.n, .int .i64 y.at_, .slice y.A y.bs.length y.c] := by rw [hW0]; exact (Row.new w _ [.int .i64 x.what, .int .i64 x.owner, .int .i64 x.n, .int .i64 x.at_, .slice x.A x.bs.length x.c, .int .i64 y.what, .int .i64 y.owner, .int .i64 y.n, .int .i64 y.at_, .slice y.A y.bs.length y.c]).below (below1 _ _)
  have rm : Row W0 (w.heap.size + 1) 3 [.int .i64 many] := by rw [hW0]; exact Row.new_at _ _ [.int .i64 many] (by simp)
  have hs0 : W0.heap.size = w.heap.size + 1 + 1 := by rw [hW0]; simp
  have HSS := Lib.hid (fun V (hb : Below W0.heap.size W0 V) => (show (fun V : World => V.cell? ⟨w.heap.size, 0, none⟩ = some (.int .i64 x.what) ∧ V.cell? ⟨w.heap.size, 1, none⟩ = some (.int .i64 x.owner) ∧ V.cell? ⟨w.heap.size, 2, none⟩ = some (.int .i64 x.n) ∧ V.cell? ⟨w.heap.size, 3, none⟩ = some (.int .i64 x.at_) ∧ V.cell? ⟨w.heap.size, 4, none⟩ = some (.slice x.A x.bs.length x.c) ∧ V.cell? ⟨w.heap.size, 5, none⟩ = some (.int .i64 y.what) ∧ V.cell? ⟨w.heap.size, 6, none⟩ = some (.int .i64 y.owner) ∧ V.cell? ⟨w.heap.size, 7, none⟩ = some (.int .i64 y.n) ∧ V.cell? ⟨w.heap.size, 8, none⟩ = some (.int .i64 y.at_) ∧ V.cell? ⟨w.heap.size, 9, none⟩ = some (.slice y.A y.bs.length y.c) ∧ V.cell? ⟨w.heap.size + 1, 0, none⟩ = some (.int .i64 many)) V from ⟨(rx.below hb).cell 0, (rx.below hb).cell 1, (rx.below hb).cell 2, (rx.below hb).cell 3, (rx.below hb).cell 4, (rx.below hb).cell 5, (rx.below hb).cell 6, (rx.below hb).cell 7, (rx.below hb).cell 8, (rx.below hb).cell 9, (rm.below hb).cell 0⟩))
  have HS0 := Lib.hid hs0
  have HA := Lib.hid (h.below hb0)
  have HX := Lib.hid (hx.below hb0)
  have HY := Lib.hid (hy.below hb0)
  have HL := Lib.hid hl
  have HB0 := Lib.hid hb0
  have HW0 := Lib.hid hW0
  have hwk := Lib.hid (fun w => works_any w)
  obtain ⟨f, hf⟩ : ∃ f, f = fewB (l ++ [x, y]) 32 := ⟨_, rfl⟩
  have HFW := Lib.hid (fun V (A2 : Option Addr) (c2 : Nat) (hb : Below W0.heap.size W0 V) (hs : Sees V V.heap.size A2 ((l ++ [x, y]).flatMap Ac.cells)) => (show Calls Tryz.prog 6 #[.slice A2 (n0 + 2) c2, .int .i64 32] V (fun e w' => e = .returned (.bool f) ∧ V = w') from by
    have h1 := few_any (l ++ [x, y]) A2 (n0 + 2) c2 32 V ⟨hs, fun z hz => by
      rcases List.mem_append.1 hz with hz | hz
      · exact (HA.out.below hb).fits z hz
      · simp only [List.mem_cons, List.not_mem_nil, or_false] at hz
        rcases hz with rfl | rfl
        · exact HX.out.below hb
        · exact HY.out.below hb⟩ (by rw [List.length_append, HL.out]; rfl) (by omega)
    rw [← hf] at h1
    exact h1))
  have hll : (l.flatMap Ac.cells).length = n0 * 5 := by rw [acs_len, hl]
  have HSL := Lib.hid (fun V (hb : Below W0.heap.size W0 V) => (HA.out.below hb).sees)
  have HHF := Lib.hid hf
  clear h hx hy hl hb0 rx rm hs0 hW0 hf
  obtain rfl : f = false := HHF.out.trans hq
  clear hq
  go_enter Tryz.func3, Tryz.ntmps3
  go_wp2_with fail
  rw [← HW0.out]
  have hBc : Below W0.heap.size W0 W0.drew := (Below.refl _ _).drew
  refine wp_region_held_drew (S := (fun V : World => V.cell? ⟨w.heap.size, 0, none⟩ = some (.int .i64 x.what) ∧ V.cell? ⟨w.heap.size, 1, none⟩ = some (.int .i64 x.owner) ∧ V.cell? ⟨w.heap.size, 2, none⟩ = some (.int .i64 x.n) ∧ V.cell? ⟨w.heap.size, 3, none⟩ = some (.int .i64 x.at_) ∧ V.cell? ⟨w.heap.size, 4, none⟩ = some (.slice x.A x.bs.length x.c) ∧ V.cell? ⟨w.heap.size, 5, none⟩ = some (.int .i64 y.what) ∧ V.cell? ⟨w.heap.size, 6, none⟩ = some (.int .i64 y.owner) ∧ V.cell? ⟨w.heap.size, 7, none⟩ = some (.int .i64 y.n) ∧ V.cell? ⟨w.heap.size, 8, none⟩ = some (.int .i64 y.at_) ∧ V.cell? ⟨w.heap.size, 9, none⟩ = some (.slice y.A y.bs.length y.c) ∧ V.cell? ⟨w.heap.size + 1, 0, none⟩ = some (.int .i64 many))) (by kernel_rfl) (HSS.out _ hBc) (fun hHeld => ?_)
  refine wpAnyH_take (i := 1) (v := ?_) rfl (by kernel_rfl) (by kernel_rfl) (by kernel_rfl) (fun _ _ _ h => h) (Or.inl ⟨by kernel_rfl, ?_⟩) hHeld ?_
  rotate_left
  focus (intro w hSw; (try dsimp only at hSw); go_simp; try with_reducible rfl)
  simp only [Act.put]
  refine wpAnyH_take (i := 3) (v := ?_) rfl (by kernel_rfl) (by kernel_rfl) (by kernel_rfl) (fun _ _ _ h => h) (Or.inl ⟨by kernel_rfl, ?_⟩) hHeld ?_
  rotate_left
  focus (intro w hSw; (try dsimp only at hSw); go_simp; try with_reducible rfl)
  simp only [Act.put]
  refine wpAnyH_take (i := 4) (v := ?_) rfl (by kernel_rfl) (by kernel_rfl) (by kernel_rfl) (fun _ _ _ h => h) (Or.inl ⟨by kernel_rfl, ?_⟩) hHeld ?_
  rotate_left
  focus (intro w hSw; (try dsimp only at hSw); go_simp; try with_reducible rfl)
  simp only [Act.put]
  refine wpAnyH_take (i := 5) (v := ?_) rfl (by kernel_rfl) (by kernel_rfl) (by kernel_rfl) (fun _ _ _ h => h) (Or.inl ⟨by kernel_rfl, ?_⟩) hHeld ?_
  rotate_left
  focus (intro w hSw; (try dsimp only at hSw); go_simp; try with_reducible rfl)
  simp only [Act.put]
  refine wpAnyH_take (i := 6) (v := ?_) rfl (by kernel_rfl) (by kernel_rfl) (by kernel_rfl) (fun _ _ _ h => h) (Or.inl ⟨by kernel_rfl, ?_⟩) hHeld ?_
  rotate_left
  focus (intro w hSw; (try dsimp only at hSw); go_simp; try with_reducible rfl)
  simp only [Act.put]
  refine wpAnyH_ready (rs := [0, 7]) (by kernel_rfl) (by simp) ?_
  refine AllReadyH.cons rfl (fun K hK => ?_) (AllReadyH.cons rfl (fun K hK => ?_) (AllReadyH.nil))
  · go_simp
    have hown0 : ((W0.drew).alloc (.cells #[] 25)).ownsRow W0.heap.size 25 5 (.slice (some ⟨(W0.drew).heap.size, 0, none⟩) 0 0) 0 [] := World.ownsRow_lit (W0.drew) #[] 0 hBc.size (Nat.zero_le _) rfl
    replace hBc := hBc.alloc hBc.size (.cells #[] 25)
    refine hK.out _ _ (HSS.out _ hBc) (fun hHeld => ?_)
    clear hK K
    try simp only [Act.put]
    refine wpAnyH_ready (rs := [2, 7]) (by kernel_rfl) (by simp) ?_
    refine AllReadyH.cons rfl (fun K hK => ?_) (AllReadyH.cons rfl (fun K hK => ?_) (AllReadyH.nil))
    · refine step_append_sees rfl (.tmp 24) (.tmp 25) 22 rfl W0.heap.size 25 j0 _ 5 56 Tryz.underlying22 hj hj0 hj1 hj2 rfl (by decide) _ 0 [] (by simp [Act.eval]) hown0 _ A0 n0 c0 (l.flatMap Ac.cells) (by simp [Act.eval]) hll (HSL.out _ hBc) acs_one (by unfold maxLen; omega) (by omega) hBc.size ?_
      intro v26 V26 hown1 hg1 hv1
      have hBn := hBc.grown hg1 hBc.size (fun k hk => (hown0.lt k hk).1)
      replace hBc := hBn
      clear hBn
      refine hK.out _ _ (HSS.out _ hBc) (fun hHeld => ?_)
      clear hK K
      try simp only [Act.put]
      refine wpAnyH_ready (rs := [7]) (by kernel_rfl) (by simp) ?_
      refine AllReadyH.cons rfl (fun K hK => ?_) (AllReadyH.nil)
      go_simp
      have hr31 : Row ((V26).alloc (.cells #[.int .i64 x.what, .int .i64 x.owner, .int .i64 x.n, .int .i64 x.at_, .slice x.A x.bs.length x.c, .int .i64 y.what, .int .i64 y.owner, .int .i64 y.n, .int .i64 y.at_, .slice y.A y.bs.length y.c] 25)) (V26).heap.size 25 [.int .i64 x.what, .int .i64 x.owner, .int .i64 x.n, .int .i64 x.at_, .slice x.A x.bs.length x.c, .int .i64 y.what, .int .i64 y.owner, .int .i64 y.n, .int .i64 y.at_, .slice y.A y.bs.length y.c] := Row.new (V26) _ [.int .i64 x.what, .int .i64 x.owner, .int .i64 x.n, .int .i64 x.at_, .slice x.A x.bs.length x.c, .int .i64 y.what, .int .i64 y.owner, .int .i64 y.n, .int .i64 y.at_, .slice y.A y.bs.length y.c]
      replace hBc := hBc.alloc hBc.size (.cells #[.int .i64 x.what, .int .i64 x.owner, .int .i64 x.n, .int .i64 x.at_, .slice x.A x.bs.length x.c, .int .i64 y.what, .int .i64 y.owner, .int .i64 y.n, .int .i64 y.at_, .slice y.A y.bs.length y.c] 25)
      refine hK.out _ _ (HSS.out _ hBc) (fun hHeld => ?_)
      clear hK K
      try simp only [Act.put]
      replace hown1 := hown1.alloc (.cells #[.int .i64 x.what, .int .i64 x.owner, .int .i64 x.n, .int .i64 x.at_, .slice x.A x.bs.length x.c, .int .i64 y.what, .int .i64 y.owner, .int .i64 y.n, .int .i64 y.at_, .slice y.A y.bs.length y.c] 25)
      refine wpAnyH_ready (rs := [8]) (by kernel_rfl) (by simp) ?_
      refine AllReadyH.cons rfl (fun K hK => ?_) (AllReadyH.nil)
      refine step_append_sees rfl (.tmp 26) (.tmp 31) 22 rfl W0.heap.size 25 j0 _ 5 56 Tryz.underlying22 hj hj0 hj1 hj2 rfl (by decide) _ (0 + n0) ([] ++ l.flatMap Ac.cells) (by simp [Act.eval]) hown1 _ _ 2 2 [.int .i64 x.what, .int .i64 x.owner, .int .i64 x.n, .int .i64 x.at_, .slice x.A x.bs.length x.c, .int .i64 y.what, .int .i64 y.owner, .int .i64 y.n, .int .i64 y.at_, .slice y.A y.bs.length y.c] (by simp [Act.eval]) rfl hr31.sees (by intro u hu; simp only [List.mem_cons, List.not_mem_nil, or_false] at hu; rcases hu with rfl | rfl | rfl | rfl | rfl | rfl | rfl | rfl | rfl | rfl <;> rfl) (by unfold maxLen; omega) (by omega) hBc.size ?_
      intro v32 V32 hown2 hg2 hv2
      replace hBc := hBc.grown hg2 hBc.size (fun k hk => (hown1.lt k hk).1)
      obtain ⟨A32, c32, rfl⟩ := own_slice hown2
      refine hK.out _ _ (HSS.out _ hBc) (fun hHeld => ?_)
      clear hK K
      try simp only [Act.put]
      refine wpAnyH_ready (rs := [9]) (by kernel_rfl) (by simp) ?_
      refine AllReadyH.cons rfl (fun K hK => ?_) (AllReadyH.nil)
      go_simp
      refine (HFW.out _ _ _ hBc (by
        have h3 := sees_any hown2
        simpa [List.flatMap_append, Ac.cells, Ac.sl] using h3)).mono ?_
      rintro e _ ⟨rfl, rfl⟩
      refine hK.out _ _ (HSS.out _ hBc) (fun hHeld => ?_)
      clear hK K
      try simp only [Act.put]
      refine wpAnyH_take (i := 10) (v := ?_) rfl (by kernel_rfl) (by kernel_rfl) (by kernel_rfl) (fun _ _ _ h => h) (Or.inl ⟨by kernel_rfl, ?_⟩) hHeld ?_
      rotate_left
      focus (intro w hSw; (try dsimp only at hSw); go_simp; try with_reducible rfl)
      simp only [Act.put]
      refine wpAnyH_take (i := 11) (v := ?_) rfl (by kernel_rfl) (by kernel_rfl) (by kernel_rfl) (fun _ _ _ h => h) (Or.inl ⟨by kernel_rfl, ?_⟩) hHeld ?_
      rotate_left
      focus (intro w hSw; (try dsimp only at hSw); go_simp; try with_reducible rfl)
      simp only [Act.put]
      refine wpAnyH_take (i := 12) (v := undef) rfl (by kernel_rfl) (by kernel_rfl) (by kernel_rfl) (fun _ _ _ h => h) (Or.inr ⟨by kernel_rfl, rfl⟩) hHeld ?_
      simp only [Act.put]
      refine wpAnyH_take (i := 13) (v := undef) rfl (by kernel_rfl) (by kernel_rfl) (by kernel_rfl) (fun _ _ _ h => h) (Or.inr ⟨by kernel_rfl, rfl⟩) hHeld ?_
      simp only [Act.put]
      refine wpAnyH_take (i := 14) (v := ?_) rfl (by kernel_rfl) (by kernel_rfl) (by kernel_rfl) (fun _ _ _ h => h) (Or.inl ⟨by kernel_rfl, ?_⟩) hHeld ?_
      rotate_left
      focus (intro w hSw; (try dsimp only at hSw); go_simp; try with_reducible rfl)
      simp only [Act.put]
      refine wpAnyH_take (i := 15) (v := ?_) rfl (by kernel_rfl) (by kernel_rfl) (by kernel_rfl) (fun _ _ _ h => h) (Or.inl ⟨by kernel_rfl, ?_⟩) hHeld ?_
      rotate_left
      focus (intro w hSw; (try dsimp only at hSw); go_simp; try with_reducible rfl)
      simp only [Act.put]
      refine wpAnyH_take (i := 16) (v := undef) rfl (by kernel_rfl) (by kernel_rfl) (by kernel_rfl) (fun _ _ _ h => h) (Or.inr ⟨by kernel_rfl, rfl⟩) hHeld ?_
      simp only [Act.put]
      refine wpAnyH_take (i := 17) (v := undef) rfl (by kernel_rfl) (by kernel_rfl) (by kernel_rfl) (fun _ _ _ h => h) (Or.inr ⟨by kernel_rfl, rfl⟩) hHeld ?_
      simp only [Act.put]
      refine wpAnyH_ready (rs := [18]) (by kernel_rfl) (by simp) ?_
      refine AllReadyH.cons rfl (fun K hK => ?_) (AllReadyH.nil)
      go_simp
      refine hK.out _ _ (HSS.out _ hBc) (fun hHeld => ?_)
      clear hK K
      try simp only [Act.put]
      refine wpAnyH_done (by kernel_rfl) ?_ _
      have HBE := Lib.hid (below0 HB0.out hBc)
      clear hBc hown0 hown1 hown2 hr31 hg1 hg2 hv1 hv2
      go_wp2_with fail
      refine (hwk.out _).mono ?_
      rintro e V9 ⟨rfl, hb9⟩
      have HF := Lib.hid (below0 HBE.out hb9)
      clear hb9
      go_wp2_with fail
      go_ret
      exact ⟨rfl, HF.out⟩
    · go_simp
      have hr31 : Row (((W0.drew.alloc (.cells #[] 25))).alloc (.cells #[.int .i64 x.what, .int .i64 x.owner, .int .i64 x.n, .int .i64 x.at_, .slice x.A x.bs.length x.c, .int .i64 y.what, .int .i64 y.owner, .int .i64 y.n, .int .i64 y.at_, .slice y.A y.bs.length y.c] 25)) ((W0.drew.alloc (.cells #[] 25))).heap.size 25 [.int .i64 x.what, .int .i64 x.owner, .int .i64 x.n, .int .i64 x.at_, .slice x.A x.bs.length x.c, .int .i64 y.what, .int .i64 y.owner, .int .i64 y.n, .int .i64 y.at_, .slice y.A y.bs.length y.c] := Row.new ((W0.drew.alloc (.cells #[] 25))) _ [.int .i64 x.what, .int .i64 x.owner, .int .i64 x.n, .int .i64 x.at_, .slice x.A x.bs.length x.c, .int .i64 y.what, .int .i64 y.owner, .int .i64 y.n, .int .i64 y.at_, .slice y.A y.bs.length y.c]
      replace hBc := hBc.alloc hBc.size (.cells #[.int .i64 x.what, .int .i64 x.owner, .int .i64 x.n, .int .i64 x.at_, .slice x.A x.bs.length x.c, .int .i64 y.what, .int .i64 y.owner, .int .i64 y.n, .int .i64 y.at_, .slice y.A y.bs.length y.c] 25)
      refine hK.out _ _ (HSS.out _ hBc) (fun hHeld => ?_)
      clear hK K
      try simp only [Act.put]
      replace hown0 := hown0.alloc (.cells #[.int .i64 x.what, .int .i64 x.owner, .int .i64 x.n, .int .i64 x.at_, .slice x.A x.bs.length x.c, .int .i64 y.what, .int .i64 y.owner, .int .i64 y.n, .int .i64 y.at_, .slice y.A y.bs.length y.c] 25)
      refine wpAnyH_ready (rs := [2]) (by kernel_rfl) (by simp) ?_
      refine AllReadyH.cons rfl (fun K hK => ?_) (AllReadyH.nil)
      refine step_append_sees rfl (.tmp 24) (.tmp 25) 22 rfl W0.heap.size 25 j0 _ 5 56 Tryz.underlying22 hj hj0 hj1 hj2 rfl (by decide) _ 0 [] (by simp [Act.eval]) hown0 _ A0 n0 c0 (l.flatMap Ac.cells) (by simp [Act.eval]) hll (HSL.out _ hBc) acs_one (by unfold maxLen; omega) (by omega) hBc.size ?_
      intro v26 V26 hown1 hg1 hv1
      have hBn := hBc.grown hg1 hBc.size (fun k hk => (hown0.lt k hk).1)
      replace hBc := hBn
      clear hBn
      refine hK.out _ _ (HSS.out _ hBc) (fun hHeld => ?_)
      clear hK K
      try simp only [Act.put]
      have hne31 : some ((W0.drew.alloc (.cells #[] 25)).heap.size) ≠ (Value.slice (some ⟨W0.drew.heap.size, 0, none⟩) 0 0).ownBlock := fun e => by
        have e2 := Option.some.inj e
        simp at e2
      replace hr31 := hr31.same (hg1.block _ hr31.lt hne31)
      refine wpAnyH_ready (rs := [8]) (by kernel_rfl) (by simp) ?_
      refine AllReadyH.cons rfl (fun K hK => ?_) (AllReadyH.nil)
      refine step_append_sees rfl (.tmp 26) (.tmp 31) 22 rfl W0.heap.size 25 j0 _ 5 56 Tryz.underlying22 hj hj0 hj1 hj2 rfl (by decide) _ (0 + n0) ([] ++ l.flatMap Ac.cells) (by simp [Act.eval]) hown1 _ _ 2 2 [.int .i64 x.what, .int .i64 x.owner, .int .i64 x.n, .int .i64 x.at_, .slice x.A x.bs.length x.c, .int .i64 y.what, .int .i64 y.owner, .int .i64 y.n, .int .i64 y.at_, .slice y.A y.bs.length y.c] (by simp [Act.eval]) rfl hr31.sees (by intro u hu; simp only [List.mem_cons, List.not_mem_nil, or_false] at hu; rcases hu with rfl | rfl | rfl | rfl | rfl | rfl | rfl | rfl | rfl | rfl <;> rfl) (by unfold maxLen; omega) (by omega) hBc.size ?_
      intro v32 V32 hown2 hg2 hv2
      replace hBc := hBc.grown hg2 hBc.size (fun k hk => (hown1.lt k hk).1)
      obtain ⟨A32, c32, rfl⟩ := own_slice hown2
      refine hK.out _ _ (HSS.out _ hBc) (fun hHeld => ?_)
      clear hK K
      try simp only [Act.put]
      refine wpAnyH_ready (rs := [9]) (by kernel_rfl) (by simp) ?_
      refine AllReadyH.cons rfl (fun K hK => ?_) (AllReadyH.nil)
      go_simp
      refine (HFW.out _ _ _ hBc (by
        have h3 := sees_any hown2
        simpa [List.flatMap_append, Ac.cells, Ac.sl] using h3)).mono ?_
      rintro e _ ⟨rfl, rfl⟩
      refine hK.out _ _ (HSS.out _ hBc) (fun hHeld => ?_)
      clear hK K
      try simp only [Act.put]
      refine wpAnyH_take (i := 10) (v := ?_) rfl (by kernel_rfl) (by kernel_rfl) (by kernel_rfl) (fun _ _ _ h => h) (Or.inl ⟨by kernel_rfl, ?_⟩) hHeld ?_
      rotate_left
      focus (intro w hSw; (try dsimp only at hSw); go_simp; try with_reducible rfl)
      simp only [Act.put]
      refine wpAnyH_take (i := 11) (v := ?_) rfl (by kernel_rfl) (by kernel_rfl) (by kernel_rfl) (fun _ _ _ h => h) (Or.inl ⟨by kernel_rfl, ?_⟩) hHeld ?_
      rotate_left
      focus (intro w hSw; (try dsimp only at hSw); go_simp; try with_reducible rfl)
      simp only [Act.put]
      refine wpAnyH_take (i := 12) (v := undef) rfl (by kernel_rfl) (by kernel_rfl) (by kernel_rfl) (fun _ _ _ h => h) (Or.inr ⟨by kernel_rfl, rfl⟩) hHeld ?_
      simp only [Act.put]
      refine wpAnyH_take (i := 13) (v := undef) rfl (by kernel_rfl) (by kernel_rfl) (by kernel_rfl) (fun _ _ _ h => h) (Or.inr ⟨by kernel_rfl, rfl⟩) hHeld ?_
      simp only [Act.put]
      refine wpAnyH_take (i := 14) (v := ?_) rfl (by kernel_rfl) (by kernel_rfl) (by kernel_rfl) (fun _ _ _ h => h) (Or.inl ⟨by kernel_rfl, ?_⟩) hHeld ?_
      rotate_left
      focus (intro w hSw; (try dsimp only at hSw); go_simp; try with_reducible rfl)
      simp only [Act.put]
      refine wpAnyH_take (i := 15) (v := ?_) rfl (by kernel_rfl) (by kernel_rfl) (by kernel_rfl) (fun _ _ _ h => h) (Or.inl ⟨by kernel_rfl, ?_⟩) hHeld ?_
      rotate_left
      focus (intro w hSw; (try dsimp only at hSw); go_simp; try with_reducible rfl)
      simp only [Act.put]
      refine wpAnyH_take (i := 16) (v := undef) rfl (by kernel_rfl) (by kernel_rfl) (by kernel_rfl) (fun _ _ _ h => h) (Or.inr ⟨by kernel_rfl, rfl⟩) hHeld ?_
      simp only [Act.put]
      refine wpAnyH_take (i := 17) (v := undef) rfl (by kernel_rfl) (by kernel_rfl) (by kernel_rfl) (fun _ _ _ h => h) (Or.inr ⟨by kernel_rfl, rfl⟩) hHeld ?_
      simp only [Act.put]
      refine wpAnyH_ready (rs := [18]) (by kernel_rfl) (by simp) ?_
      refine AllReadyH.cons rfl (fun K hK => ?_) (AllReadyH.nil)
      go_simp
      refine hK.out _ _ (HSS.out _ hBc) (fun hHeld => ?_)
      clear hK K
      try simp only [Act.put]
      refine wpAnyH_done (by kernel_rfl) ?_ _
      have HBE := Lib.hid (below0 HB0.out hBc)
      clear hBc hown0 hown1 hown2 hr31 hg1 hg2 hv1 hv2
      go_wp2_with fail
      refine (hwk.out _).mono ?_
      rintro e V9 ⟨rfl, hb9⟩
      have HF := Lib.hid (below0 HBE.out hb9)
      clear hb9
      go_wp2_with fail
      go_ret
      exact ⟨rfl, HF.out⟩
  · go_simp
    have hr31 : Row ((W0.drew).alloc (.cells #[.int .i64 x.what, .int .i64 x.owner, .int .i64 x.n, .int .i64 x.at_, .slice x.A x.bs.length x.c, .int .i64 y.what, .int .i64 y.owner, .int .i64 y.n, .int .i64 y.at_, .slice y.A y.bs.length y.c] 25)) (W0.drew).heap.size 25 [.int .i64 x.what, .int .i64 x.owner, .int .i64 x.n, .int .i64 x.at_, .slice x.A x.bs.length x.c, .int .i64 y.what, .int .i64 y.owner, .int .i64 y.n, .int .i64 y.at_, .slice y.A y.bs.length y.c] := Row.new (W0.drew) _ [.int .i64 x.what, .int .i64 x.owner, .int .i64 x.n, .int .i64 x.at_, .slice x.A x.bs.length x.c, .int .i64 y.what, .int .i64 y.owner, .int .i64 y.n, .int .i64 y.at_, .slice y.A y.bs.length y.c]
    replace hBc := hBc.alloc hBc.size (.cells #[.int .i64 x.what, .int .i64 x.owner, .int .i64 x.n, .int .i64 x.at_, .slice x.A x.bs.length x.c, .int .i64 y.what, .int .i64 y.owner, .int .i64 y.n, .int .i64 y.at_, .slice y.A y.bs.length y.c] 25)
    refine hK.out _ _ (HSS.out _ hBc) (fun hHeld => ?_)
    clear hK K
    try simp only [Act.put]
    refine wpAnyH_ready (rs := [0]) (by kernel_rfl) (by simp) ?_
    refine AllReadyH.cons rfl (fun K hK => ?_) (AllReadyH.nil)
    go_simp
    have hown0 : (((W0.drew.alloc (.cells #[.int .i64 x.what, .int .i64 x.owner, .int .i64 x.n, .int .i64 x.at_, .slice x.A x.bs.length x.c, .int .i64 y.what, .int .i64 y.owner, .int .i64 y.n, .int .i64 y.at_, .slice y.A y.bs.length y.c] 25))).alloc (.cells #[] 25)).ownsRow W0.heap.size 25 5 (.slice (some ⟨((W0.drew.alloc (.cells #[.int .i64 x.what, .int .i64 x.owner, .int .i64 x.n, .int .i64 x.at_, .slice x.A x.bs.length x.c, .int .i64 y.what, .int .i64 y.owner, .int .i64 y.n, .int .i64 y.at_, .slice y.A y.bs.length y.c] 25))).heap.size, 0, none⟩) 0 0) 0 [] := World.ownsRow_lit ((W0.drew.alloc (.cells #[.int .i64 x.what, .int .i64 x.owner, .int .i64 x.n, .int .i64 x.at_, .slice x.A x.bs.length x.c, .int .i64 y.what, .int .i64 y.owner, .int .i64 y.n, .int .i64 y.at_, .slice y.A y.bs.length y.c] 25))) #[] 0 hBc.size (Nat.zero_le _) rfl
    replace hBc := hBc.alloc hBc.size (.cells #[] 25)
    refine hK.out _ _ (HSS.out _ hBc) (fun hHeld => ?_)
    clear hK K
    try simp only [Act.put]
    replace hr31 := hr31.below (below1 _ (.cells #[] 25))
    refine wpAnyH_ready (rs := [2]) (by kernel_rfl) (by simp) ?_
    refine AllReadyH.cons rfl (fun K hK => ?_) (AllReadyH.nil)
    refine step_append_sees rfl (.tmp 24) (.tmp 25) 22 rfl W0.heap.size 25 j0 _ 5 56 Tryz.underlying22 hj hj0 hj1 hj2 rfl (by decide) _ 0 [] (by simp [Act.eval]) hown0 _ A0 n0 c0 (l.flatMap Ac.cells) (by simp [Act.eval]) hll (HSL.out _ hBc) acs_one (by unfold maxLen; omega) (by omega) hBc.size ?_
    intro v26 V26 hown1 hg1 hv1
    have hBn := hBc.grown hg1 hBc.size (fun k hk => (hown0.lt k hk).1)
    replace hBc := hBn
    clear hBn
    refine hK.out _ _ (HSS.out _ hBc) (fun hHeld => ?_)
    clear hK K
    try simp only [Act.put]
    have hne31 : some W0.drew.heap.size ≠ (Value.slice (some ⟨(W0.drew.alloc (.cells #[.int .i64 x.what, .int .i64 x.owner, .int .i64 x.n, .int .i64 x.at_, .slice x.A x.bs.length x.c, .int .i64 y.what, .int .i64 y.owner, .int .i64 y.n, .int .i64 y.at_, .slice y.A y.bs.length y.c] 25)).heap.size, 0, none⟩) 0 0).ownBlock := fun e => by
      have e2 := Option.some.inj e
      simp at e2
    replace hr31 := hr31.same (hg1.block _ hr31.lt hne31)
    refine wpAnyH_ready (rs := [8]) (by kernel_rfl) (by simp) ?_
    refine AllReadyH.cons rfl (fun K hK => ?_) (AllReadyH.nil)
    refine step_append_sees rfl (.tmp 26) (.tmp 31) 22 rfl W0.heap.size 25 j0 _ 5 56 Tryz.underlying22 hj hj0 hj1 hj2 rfl (by decide) _ (0 + n0) ([] ++ l.flatMap Ac.cells) (by simp [Act.eval]) hown1 _ _ 2 2 [.int .i64 x.what, .int .i64 x.owner, .int .i64 x.n, .int .i64 x.at_, .slice x.A x.bs.length x.c, .int .i64 y.what, .int .i64 y.owner, .int .i64 y.n, .int .i64 y.at_, .slice y.A y.bs.length y.c] (by simp [Act.eval]) rfl hr31.sees (by intro u hu; simp only [List.mem_cons, List.not_mem_nil, or_false] at hu; rcases hu with rfl | rfl | rfl | rfl | rfl | rfl | rfl | rfl | rfl | rfl <;> rfl) (by unfold maxLen; omega) (by omega) hBc.size ?_
    intro v32 V32 hown2 hg2 hv2
    replace hBc := hBc.grown hg2 hBc.size (fun k hk => (hown1.lt k hk).1)
    obtain ⟨A32, c32, rfl⟩ := own_slice hown2
    refine hK.out _ _ (HSS.out _ hBc) (fun hHeld => ?_)
    clear hK K
    try simp only [Act.put]
    refine wpAnyH_ready (rs := [9]) (by kernel_rfl) (by simp) ?_
    refine AllReadyH.cons rfl (fun K hK => ?_) (AllReadyH.nil)
    go_simp
    refine (HFW.out _ _ _ hBc (by
      have h3 := sees_any hown2
      simpa [List.flatMap_append, Ac.cells, Ac.sl] using h3)).mono ?_
    rintro e _ ⟨rfl, rfl⟩
    refine hK.out _ _ (HSS.out _ hBc) (fun hHeld => ?_)
    clear hK K
    try simp only [Act.put]
    refine wpAnyH_take (i := 10) (v := ?_) rfl (by kernel_rfl) (by kernel_rfl) (by kernel_rfl) (fun _ _ _ h => h) (Or.inl ⟨by kernel_rfl, ?_⟩) hHeld ?_
    rotate_left
    focus (intro w hSw; (try dsimp only at hSw); go_simp; try with_reducible rfl)
    simp only [Act.put]
    refine wpAnyH_take (i := 11) (v := ?_) rfl (by kernel_rfl) (by kernel_rfl) (by kernel_rfl) (fun _ _ _ h => h) (Or.inl ⟨by kernel_rfl, ?_⟩) hHeld ?_
    rotate_left
    focus (intro w hSw; (try dsimp only at hSw); go_simp; try with_reducible rfl)
    simp only [Act.put]
    refine wpAnyH_take (i := 12) (v := undef) rfl (by kernel_rfl) (by kernel_rfl) (by kernel_rfl) (fun _ _ _ h => h) (Or.inr ⟨by kernel_rfl, rfl⟩) hHeld ?_
    simp only [Act.put]
    refine wpAnyH_take (i := 13) (v := undef) rfl (by kernel_rfl) (by kernel_rfl) (by kernel_rfl) (fun _ _ _ h => h) (Or.inr ⟨by kernel_rfl, rfl⟩) hHeld ?_
    simp only [Act.put]
    refine wpAnyH_take (i := 14) (v := ?_) rfl (by kernel_rfl) (by kernel_rfl) (by kernel_rfl) (fun _ _ _ h => h) (Or.inl ⟨by kernel_rfl, ?_⟩) hHeld ?_
    rotate_left
    focus (intro w hSw; (try dsimp only at hSw); go_simp; try with_reducible rfl)
    simp only [Act.put]
    refine wpAnyH_take (i := 15) (v := ?_) rfl (by kernel_rfl) (by kernel_rfl) (by kernel_rfl) (fun _ _ _ h => h) (Or.inl ⟨by kernel_rfl, ?_⟩) hHeld ?_
    rotate_left
    focus (intro w hSw; (try dsimp only at hSw); go_simp; try with_reducible rfl)
    simp only [Act.put]
    refine wpAnyH_take (i := 16) (v := undef) rfl (by kernel_rfl) (by kernel_rfl) (by kernel_rfl) (fun _ _ _ h => h) (Or.inr ⟨by kernel_rfl, rfl⟩) hHeld ?_
    simp only [Act.put]
    refine wpAnyH_take (i := 17) (v := undef) rfl (by kernel_rfl) (by kernel_rfl) (by kernel_rfl) (fun _ _ _ h => h) (Or.inr ⟨by kernel_rfl, rfl⟩) hHeld ?_
    simp only [Act.put]
    refine wpAnyH_ready (rs := [18]) (by kernel_rfl) (by simp) ?_
    refine AllReadyH.cons rfl (fun K hK => ?_) (AllReadyH.nil)
    go_simp
    refine hK.out _ _ (HSS.out _ hBc) (fun hHeld => ?_)
    clear hK K
    try simp only [Act.put]
    refine wpAnyH_done (by kernel_rfl) ?_ _
    have HBE := Lib.hid (below0 HB0.out hBc)
    clear hBc hown0 hown1 hown2 hr31 hg1 hg2 hv1 hv2
    go_wp2_with fail
    refine (hwk.out _).mono ?_
    rintro e V9 ⟨rfl, hb9⟩
    have HF := Lib.hid (below0 HBE.out hb9)
    clear hb9
    go_wp2_with fail
    go_ret
    exact ⟨rfl, HF.out⟩
set_option maxRecDepth 100000 in
set_option maxHeartbeats 8000000 in
theorem copies_farB (l : List Ac) (A0 : Option Addr) (n0 c0 : Nat) (x y : Ac) (many : Int) (w : World) (h : Acs w l A0) (hl : l.length = n0) (hn : n0 * 56 ≤ 140737488351232) (hx : x.fits w) (hy : y.fits w) (hq : fewB (l ++ [x, y]) 32 = true) (hm : many < 1) :
    Calls Tryz.prog 3 #[.slice A0 n0 c0, .agg #[.int .i64 x.what, .int .i64 x.owner, .int .i64 x.n, .int .i64 x.at_, .slice x.A x.bs.length x.c, .int .i64 y.what, .int .i64 y.owner, .int .i64 y.n, .int .i64 y.at_, .slice y.A y.bs.length y.c], .int .i64 many] w fun e w' => e = .returned (.bool true) ∧ Below w.heap.size w w' := by
  obtain ⟨j0, hj, hj0, hj1, hj2⟩ := info_parts act_info
  have hW : ∃ W0, W0 = (w.alloc (.cells #[.int .i64 x.what, .int .i64 x.owner, .int .i64 x.n, .int .i64 x.at_, .slice x.A x.bs.length x.c, .int .i64 y.what, .int .i64 y.owner, .int .i64 y.n, .int .i64 y.at_, .slice y.A y.bs.length y.c] 26)).alloc (.cells #[.int .i64 many] 3) := ⟨_, rfl⟩
  obtain ⟨W0, hW0⟩ := hW
  have hb0 : Below w.heap.size w W0 := by rw [hW0]; exact below2 _ _ _
  have rx : Row W0 w.heap.size 26 [.int .i64 x.what, .int .i64 x.owner, .int .i64 x.n, .int .i64 x.at_, .slice x.A x.bs.length x.c, .int .i64 y.what, .int .i64 y.owner, .int .i64 y.n, .int .i64 y.at_, .slice y.A y.bs.length y.c] := by rw [hW0]; exact (Row.new w _ [.int .i64 x.what, .int .i64 x.owner, .int .i64 x.n, .int .i64 x.at_, .slice x.A x.bs.length x.c, .int .i64 y.what, .int .i64 y.owner, .int .i64 y.n, .int .i64 y.at_, .slice y.A y.bs.length y.c]).below (below1 _ _)
  have rm : Row W0 (w.heap.size + 1) 3 [.int .i64 many] := by rw [hW0]; exact Row.new_at _ _ [.int .i64 many] (by simp)
  have hs0 : W0.heap.size = w.heap.size + 1 + 1 := by rw [hW0]; simp
  have HSS := Lib.hid (fun V (hb : Below W0.heap.size W0 V) => (show (fun V : World => V.cell? ⟨w.heap.size, 0, none⟩ = some (.int .i64 x.what) ∧ V.cell? ⟨w.heap.size, 1, none⟩ = some (.int .i64 x.owner) ∧ V.cell? ⟨w.heap.size, 2, none⟩ = some (.int .i64 x.n) ∧ V.cell? ⟨w.heap.size, 3, none⟩ = some (.int .i64 x.at_) ∧ V.cell? ⟨w.heap.size, 4, none⟩ = some (.slice x.A x.bs.length x.c) ∧ V.cell? ⟨w.heap.size, 5, none⟩ = some (.int .i64 y.what) ∧ V.cell? ⟨w.heap.size, 6, none⟩ = some (.int .i64 y.owner) ∧ V.cell? ⟨w.heap.size, 7, none⟩ = some (.int .i64 y.n) ∧ V.cell? ⟨w.heap.size, 8, none⟩ = some (.int .i64 y.at_) ∧ V.cell? ⟨w.heap.size, 9, none⟩ = some (.slice y.A y.bs.length y.c) ∧ V.cell? ⟨w.heap.size + 1, 0, none⟩ = some (.int .i64 many)) V from ⟨(rx.below hb).cell 0, (rx.below hb).cell 1, (rx.below hb).cell 2, (rx.below hb).cell 3, (rx.below hb).cell 4, (rx.below hb).cell 5, (rx.below hb).cell 6, (rx.below hb).cell 7, (rx.below hb).cell 8, (rx.below hb).cell 9, (rm.below hb).cell 0⟩))
  have HS0 := Lib.hid hs0
  have HA := Lib.hid (h.below hb0)
  have HX := Lib.hid (hx.below hb0)
  have HY := Lib.hid (hy.below hb0)
  have HL := Lib.hid hl
  have HB0 := Lib.hid hb0
  have HW0 := Lib.hid hW0
  have hwk := Lib.hid (fun w => works_any w)
  obtain ⟨f, hf⟩ : ∃ f, f = fewB (l ++ [x, y]) 32 := ⟨_, rfl⟩
  have HFW := Lib.hid (fun V (A2 : Option Addr) (c2 : Nat) (hb : Below W0.heap.size W0 V) (hs : Sees V V.heap.size A2 ((l ++ [x, y]).flatMap Ac.cells)) => (show Calls Tryz.prog 6 #[.slice A2 (n0 + 2) c2, .int .i64 32] V (fun e w' => e = .returned (.bool f) ∧ V = w') from by
    have h1 := few_any (l ++ [x, y]) A2 (n0 + 2) c2 32 V ⟨hs, fun z hz => by
      rcases List.mem_append.1 hz with hz | hz
      · exact (HA.out.below hb).fits z hz
      · simp only [List.mem_cons, List.not_mem_nil, or_false] at hz
        rcases hz with rfl | rfl
        · exact HX.out.below hb
        · exact HY.out.below hb⟩ (by rw [List.length_append, HL.out]; rfl) (by omega)
    rw [← hf] at h1
    exact h1))
  have hll : (l.flatMap Ac.cells).length = n0 * 5 := by rw [acs_len, hl]
  have HSL := Lib.hid (fun V (hb : Below W0.heap.size W0 V) => (HA.out.below hb).sees)
  have HHF := Lib.hid hf
  clear h hx hy hl hb0 rx rm hs0 hW0 hf
  obtain rfl : f = true := HHF.out.trans hq
  have e1 : decide (many < 1) = true := decide_eq_true hm
  clear hq
  go_enter Tryz.func3, Tryz.ntmps3
  go_wp2_with fail
  rw [← HW0.out]
  have hBc : Below W0.heap.size W0 W0.drew := (Below.refl _ _).drew
  refine wp_region_held_drew (S := (fun V : World => V.cell? ⟨w.heap.size, 0, none⟩ = some (.int .i64 x.what) ∧ V.cell? ⟨w.heap.size, 1, none⟩ = some (.int .i64 x.owner) ∧ V.cell? ⟨w.heap.size, 2, none⟩ = some (.int .i64 x.n) ∧ V.cell? ⟨w.heap.size, 3, none⟩ = some (.int .i64 x.at_) ∧ V.cell? ⟨w.heap.size, 4, none⟩ = some (.slice x.A x.bs.length x.c) ∧ V.cell? ⟨w.heap.size, 5, none⟩ = some (.int .i64 y.what) ∧ V.cell? ⟨w.heap.size, 6, none⟩ = some (.int .i64 y.owner) ∧ V.cell? ⟨w.heap.size, 7, none⟩ = some (.int .i64 y.n) ∧ V.cell? ⟨w.heap.size, 8, none⟩ = some (.int .i64 y.at_) ∧ V.cell? ⟨w.heap.size, 9, none⟩ = some (.slice y.A y.bs.length y.c) ∧ V.cell? ⟨w.heap.size + 1, 0, none⟩ = some (.int .i64 many))) (by kernel_rfl) (HSS.out _ hBc) (fun hHeld => ?_)
  refine wpAnyH_take (i := 1) (v := ?_) rfl (by kernel_rfl) (by kernel_rfl) (by kernel_rfl) (fun _ _ _ h => h) (Or.inl ⟨by kernel_rfl, ?_⟩) hHeld ?_
  rotate_left
  focus (intro w hSw; (try dsimp only at hSw); go_simp; try with_reducible rfl)
  simp only [Act.put]
  refine wpAnyH_take (i := 3) (v := ?_) rfl (by kernel_rfl) (by kernel_rfl) (by kernel_rfl) (fun _ _ _ h => h) (Or.inl ⟨by kernel_rfl, ?_⟩) hHeld ?_
  rotate_left
  focus (intro w hSw; (try dsimp only at hSw); go_simp; try with_reducible rfl)
  simp only [Act.put]
  refine wpAnyH_take (i := 4) (v := ?_) rfl (by kernel_rfl) (by kernel_rfl) (by kernel_rfl) (fun _ _ _ h => h) (Or.inl ⟨by kernel_rfl, ?_⟩) hHeld ?_
  rotate_left
  focus (intro w hSw; (try dsimp only at hSw); go_simp; try with_reducible rfl)
  simp only [Act.put]
  refine wpAnyH_take (i := 5) (v := ?_) rfl (by kernel_rfl) (by kernel_rfl) (by kernel_rfl) (fun _ _ _ h => h) (Or.inl ⟨by kernel_rfl, ?_⟩) hHeld ?_
  rotate_left
  focus (intro w hSw; (try dsimp only at hSw); go_simp; try with_reducible rfl)
  simp only [Act.put]
  refine wpAnyH_take (i := 6) (v := ?_) rfl (by kernel_rfl) (by kernel_rfl) (by kernel_rfl) (fun _ _ _ h => h) (Or.inl ⟨by kernel_rfl, ?_⟩) hHeld ?_
  rotate_left
  focus (intro w hSw; (try dsimp only at hSw); go_simp; try with_reducible rfl)
  simp only [Act.put]
  refine wpAnyH_ready (rs := [0, 7]) (by kernel_rfl) (by simp) ?_
  refine AllReadyH.cons rfl (fun K hK => ?_) (AllReadyH.cons rfl (fun K hK => ?_) (AllReadyH.nil))
  · go_simp
    have hown0 : ((W0.drew).alloc (.cells #[] 25)).ownsRow W0.heap.size 25 5 (.slice (some ⟨(W0.drew).heap.size, 0, none⟩) 0 0) 0 [] := World.ownsRow_lit (W0.drew) #[] 0 hBc.size (Nat.zero_le _) rfl
    replace hBc := hBc.alloc hBc.size (.cells #[] 25)
    refine hK.out _ _ (HSS.out _ hBc) (fun hHeld => ?_)
    clear hK K
    try simp only [Act.put]
    refine wpAnyH_ready (rs := [2, 7]) (by kernel_rfl) (by simp) ?_
    refine AllReadyH.cons rfl (fun K hK => ?_) (AllReadyH.cons rfl (fun K hK => ?_) (AllReadyH.nil))
    · refine step_append_sees rfl (.tmp 24) (.tmp 25) 22 rfl W0.heap.size 25 j0 _ 5 56 Tryz.underlying22 hj hj0 hj1 hj2 rfl (by decide) _ 0 [] (by simp [Act.eval]) hown0 _ A0 n0 c0 (l.flatMap Ac.cells) (by simp [Act.eval]) hll (HSL.out _ hBc) acs_one (by unfold maxLen; omega) (by omega) hBc.size ?_
      intro v26 V26 hown1 hg1 hv1
      have hBn := hBc.grown hg1 hBc.size (fun k hk => (hown0.lt k hk).1)
      replace hBc := hBn
      clear hBn
      refine hK.out _ _ (HSS.out _ hBc) (fun hHeld => ?_)
      clear hK K
      try simp only [Act.put]
      refine wpAnyH_ready (rs := [7]) (by kernel_rfl) (by simp) ?_
      refine AllReadyH.cons rfl (fun K hK => ?_) (AllReadyH.nil)
      go_simp
      have hr31 : Row ((V26).alloc (.cells #[.int .i64 x.what, .int .i64 x.owner, .int .i64 x.n, .int .i64 x.at_, .slice x.A x.bs.length x.c, .int .i64 y.what, .int .i64 y.owner, .int .i64 y.n, .int .i64 y.at_, .slice y.A y.bs.length y.c] 25)) (V26).heap.size 25 [.int .i64 x.what, .int .i64 x.owner, .int .i64 x.n, .int .i64 x.at_, .slice x.A x.bs.length x.c, .int .i64 y.what, .int .i64 y.owner, .int .i64 y.n, .int .i64 y.at_, .slice y.A y.bs.length y.c] := Row.new (V26) _ [.int .i64 x.what, .int .i64 x.owner, .int .i64 x.n, .int .i64 x.at_, .slice x.A x.bs.length x.c, .int .i64 y.what, .int .i64 y.owner, .int .i64 y.n, .int .i64 y.at_, .slice y.A y.bs.length y.c]
      replace hBc := hBc.alloc hBc.size (.cells #[.int .i64 x.what, .int .i64 x.owner, .int .i64 x.n, .int .i64 x.at_, .slice x.A x.bs.length x.c, .int .i64 y.what, .int .i64 y.owner, .int .i64 y.n, .int .i64 y.at_, .slice y.A y.bs.length y.c] 25)
      refine hK.out _ _ (HSS.out _ hBc) (fun hHeld => ?_)
      clear hK K
      try simp only [Act.put]
      replace hown1 := hown1.alloc (.cells #[.int .i64 x.what, .int .i64 x.owner, .int .i64 x.n, .int .i64 x.at_, .slice x.A x.bs.length x.c, .int .i64 y.what, .int .i64 y.owner, .int .i64 y.n, .int .i64 y.at_, .slice y.A y.bs.length y.c] 25)
      refine wpAnyH_ready (rs := [8]) (by kernel_rfl) (by simp) ?_
      refine AllReadyH.cons rfl (fun K hK => ?_) (AllReadyH.nil)
      refine step_append_sees rfl (.tmp 26) (.tmp 31) 22 rfl W0.heap.size 25 j0 _ 5 56 Tryz.underlying22 hj hj0 hj1 hj2 rfl (by decide) _ (0 + n0) ([] ++ l.flatMap Ac.cells) (by simp [Act.eval]) hown1 _ _ 2 2 [.int .i64 x.what, .int .i64 x.owner, .int .i64 x.n, .int .i64 x.at_, .slice x.A x.bs.length x.c, .int .i64 y.what, .int .i64 y.owner, .int .i64 y.n, .int .i64 y.at_, .slice y.A y.bs.length y.c] (by simp [Act.eval]) rfl hr31.sees (by intro u hu; simp only [List.mem_cons, List.not_mem_nil, or_false] at hu; rcases hu with rfl | rfl | rfl | rfl | rfl | rfl | rfl | rfl | rfl | rfl <;> rfl) (by unfold maxLen; omega) (by omega) hBc.size ?_
      intro v32 V32 hown2 hg2 hv2
      replace hBc := hBc.grown hg2 hBc.size (fun k hk => (hown1.lt k hk).1)
      obtain ⟨A32, c32, rfl⟩ := own_slice hown2
      refine hK.out _ _ (HSS.out _ hBc) (fun hHeld => ?_)
      clear hK K
      try simp only [Act.put]
      refine wpAnyH_ready (rs := [9]) (by kernel_rfl) (by simp) ?_
      refine AllReadyH.cons rfl (fun K hK => ?_) (AllReadyH.nil)
      go_simp
      refine (HFW.out _ _ _ hBc (by
        have h3 := sees_any hown2
        simpa [List.flatMap_append, Ac.cells, Ac.sl] using h3)).mono ?_
      rintro e _ ⟨rfl, rfl⟩
      refine hK.out _ _ (HSS.out _ hBc) (fun hHeld => ?_)
      clear hK K
      try simp only [Act.put]
      refine wpAnyH_take (i := 10) (v := ?_) rfl (by kernel_rfl) (by kernel_rfl) (by kernel_rfl) (fun _ _ _ h => h) (Or.inl ⟨by kernel_rfl, ?_⟩) hHeld ?_
      rotate_left
      focus (intro w hSw; (try dsimp only at hSw); go_simp; try with_reducible rfl)
      simp only [Act.put]
      refine wpAnyH_take (i := 11) (v := ?_) rfl (by kernel_rfl) (by kernel_rfl) (by kernel_rfl) (fun _ _ _ h => h) (Or.inl ⟨by kernel_rfl, ?_⟩) hHeld ?_
      rotate_left
      focus (intro w hSw; (try dsimp only at hSw); go_simp; try with_reducible rfl)
      simp only [Act.put]
      refine wpAnyH_take (i := 12) (v := ?_) rfl (by kernel_rfl) (by kernel_rfl) (by kernel_rfl) (fun _ _ _ h => h) (Or.inl ⟨by kernel_rfl, ?_⟩) hHeld ?_
      rotate_left
      focus (intro w hSw; (try dsimp only at hSw); go_simp; try with_reducible rfl)
      simp only [Act.put]
      refine wpAnyH_take (i := 13) (v := ?_) rfl (by kernel_rfl) (by kernel_rfl) (by kernel_rfl) (fun _ _ _ h => h) (Or.inl ⟨by kernel_rfl, ?_⟩) hHeld ?_
      rotate_left
      focus (intro w hSw; (try dsimp only at hSw); go_simp; try with_reducible rfl)
      simp only [Act.put]
      refine wpAnyH_take (i := 14) (v := ?_) rfl (by kernel_rfl) (by kernel_rfl) (by kernel_rfl) (fun _ _ _ h => h) (Or.inl ⟨by kernel_rfl, ?_⟩) hHeld ?_
      rotate_left
      focus (intro w hSw; (try dsimp only at hSw); go_simp; try with_reducible rfl)
      simp only [Act.put]
      refine wpAnyH_take (i := 15) (v := ?_) rfl (by kernel_rfl) (by kernel_rfl) (by kernel_rfl) (fun _ _ _ h => h) (Or.inl ⟨by kernel_rfl, ?_⟩) hHeld ?_
      rotate_left
      focus (intro w hSw; (try dsimp only at hSw); go_simp; try with_reducible rfl)
      simp only [Act.put]
      refine wpAnyH_take (i := 16) (v := undef) rfl (by kernel_rfl) (by kernel_rfl) (by kernel_rfl) (fun _ _ _ h => h) (Or.inr ⟨by kernel_rfl, rfl⟩) hHeld ?_
      simp only [Act.put]
      refine wpAnyH_take (i := 17) (v := undef) rfl (by kernel_rfl) (by kernel_rfl) (by kernel_rfl) (fun _ _ _ h => h) (Or.inr ⟨by kernel_rfl, rfl⟩) hHeld ?_
      simp only [Act.put]
      refine wpAnyH_ready (rs := [18]) (by kernel_rfl) (by simp) ?_
      refine AllReadyH.cons rfl (fun K hK => ?_) (AllReadyH.nil)
      go_simp
      refine hK.out _ _ (HSS.out _ hBc) (fun hHeld => ?_)
      clear hK K
      try simp only [Act.put]
      refine wpAnyH_done (by kernel_rfl) ?_ _
      have HBE := Lib.hid (below0 HB0.out hBc)
      clear hBc hown0 hown1 hown2 hr31 hg1 hg2 hv1 hv2
      go_wp2_with fail
      refine (hwk.out _).mono ?_
      rintro e V9 ⟨rfl, hb9⟩
      have HF := Lib.hid (below0 HBE.out hb9)
      clear hb9
      go_wp2_with fail
      go_ret
      exact ⟨rfl, HF.out⟩
    · go_simp
      have hr31 : Row (((W0.drew.alloc (.cells #[] 25))).alloc (.cells #[.int .i64 x.what, .int .i64 x.owner, .int .i64 x.n, .int .i64 x.at_, .slice x.A x.bs.length x.c, .int .i64 y.what, .int .i64 y.owner, .int .i64 y.n, .int .i64 y.at_, .slice y.A y.bs.length y.c] 25)) ((W0.drew.alloc (.cells #[] 25))).heap.size 25 [.int .i64 x.what, .int .i64 x.owner, .int .i64 x.n, .int .i64 x.at_, .slice x.A x.bs.length x.c, .int .i64 y.what, .int .i64 y.owner, .int .i64 y.n, .int .i64 y.at_, .slice y.A y.bs.length y.c] := Row.new ((W0.drew.alloc (.cells #[] 25))) _ [.int .i64 x.what, .int .i64 x.owner, .int .i64 x.n, .int .i64 x.at_, .slice x.A x.bs.length x.c, .int .i64 y.what, .int .i64 y.owner, .int .i64 y.n, .int .i64 y.at_, .slice y.A y.bs.length y.c]
      replace hBc := hBc.alloc hBc.size (.cells #[.int .i64 x.what, .int .i64 x.owner, .int .i64 x.n, .int .i64 x.at_, .slice x.A x.bs.length x.c, .int .i64 y.what, .int .i64 y.owner, .int .i64 y.n, .int .i64 y.at_, .slice y.A y.bs.length y.c] 25)
      refine hK.out _ _ (HSS.out _ hBc) (fun hHeld => ?_)
      clear hK K
      try simp only [Act.put]
      replace hown0 := hown0.alloc (.cells #[.int .i64 x.what, .int .i64 x.owner, .int .i64 x.n, .int .i64 x.at_, .slice x.A x.bs.length x.c, .int .i64 y.what, .int .i64 y.owner, .int .i64 y.n, .int .i64 y.at_, .slice y.A y.bs.length y.c] 25)
      refine wpAnyH_ready (rs := [2]) (by kernel_rfl) (by simp) ?_
      refine AllReadyH.cons rfl (fun K hK => ?_) (AllReadyH.nil)
      refine step_append_sees rfl (.tmp 24) (.tmp 25) 22 rfl W0.heap.size 25 j0 _ 5 56 Tryz.underlying22 hj hj0 hj1 hj2 rfl (by decide) _ 0 [] (by simp [Act.eval]) hown0 _ A0 n0 c0 (l.flatMap Ac.cells) (by simp [Act.eval]) hll (HSL.out _ hBc) acs_one (by unfold maxLen; omega) (by omega) hBc.size ?_
      intro v26 V26 hown1 hg1 hv1
      have hBn := hBc.grown hg1 hBc.size (fun k hk => (hown0.lt k hk).1)
      replace hBc := hBn
      clear hBn
      refine hK.out _ _ (HSS.out _ hBc) (fun hHeld => ?_)
      clear hK K
      try simp only [Act.put]
      have hne31 : some ((W0.drew.alloc (.cells #[] 25)).heap.size) ≠ (Value.slice (some ⟨W0.drew.heap.size, 0, none⟩) 0 0).ownBlock := fun e => by
        have e2 := Option.some.inj e
        simp at e2
      replace hr31 := hr31.same (hg1.block _ hr31.lt hne31)
      refine wpAnyH_ready (rs := [8]) (by kernel_rfl) (by simp) ?_
      refine AllReadyH.cons rfl (fun K hK => ?_) (AllReadyH.nil)
      refine step_append_sees rfl (.tmp 26) (.tmp 31) 22 rfl W0.heap.size 25 j0 _ 5 56 Tryz.underlying22 hj hj0 hj1 hj2 rfl (by decide) _ (0 + n0) ([] ++ l.flatMap Ac.cells) (by simp [Act.eval]) hown1 _ _ 2 2 [.int .i64 x.what, .int .i64 x.owner, .int .i64 x.n, .int .i64 x.at_, .slice x.A x.bs.length x.c, .int .i64 y.what, .int .i64 y.owner, .int .i64 y.n, .int .i64 y.at_, .slice y.A y.bs.length y.c] (by simp [Act.eval]) rfl hr31.sees (by intro u hu; simp only [List.mem_cons, List.not_mem_nil, or_false] at hu; rcases hu with rfl | rfl | rfl | rfl | rfl | rfl | rfl | rfl | rfl | rfl <;> rfl) (by unfold maxLen; omega) (by omega) hBc.size ?_
      intro v32 V32 hown2 hg2 hv2
      replace hBc := hBc.grown hg2 hBc.size (fun k hk => (hown1.lt k hk).1)
      obtain ⟨A32, c32, rfl⟩ := own_slice hown2
      refine hK.out _ _ (HSS.out _ hBc) (fun hHeld => ?_)
      clear hK K
      try simp only [Act.put]
      refine wpAnyH_ready (rs := [9]) (by kernel_rfl) (by simp) ?_
      refine AllReadyH.cons rfl (fun K hK => ?_) (AllReadyH.nil)
      go_simp
      refine (HFW.out _ _ _ hBc (by
        have h3 := sees_any hown2
        simpa [List.flatMap_append, Ac.cells, Ac.sl] using h3)).mono ?_
      rintro e _ ⟨rfl, rfl⟩
      refine hK.out _ _ (HSS.out _ hBc) (fun hHeld => ?_)
      clear hK K
      try simp only [Act.put]
      refine wpAnyH_take (i := 10) (v := ?_) rfl (by kernel_rfl) (by kernel_rfl) (by kernel_rfl) (fun _ _ _ h => h) (Or.inl ⟨by kernel_rfl, ?_⟩) hHeld ?_
      rotate_left
      focus (intro w hSw; (try dsimp only at hSw); go_simp; try with_reducible rfl)
      simp only [Act.put]
      refine wpAnyH_take (i := 11) (v := ?_) rfl (by kernel_rfl) (by kernel_rfl) (by kernel_rfl) (fun _ _ _ h => h) (Or.inl ⟨by kernel_rfl, ?_⟩) hHeld ?_
      rotate_left
      focus (intro w hSw; (try dsimp only at hSw); go_simp; try with_reducible rfl)
      simp only [Act.put]
      refine wpAnyH_take (i := 12) (v := ?_) rfl (by kernel_rfl) (by kernel_rfl) (by kernel_rfl) (fun _ _ _ h => h) (Or.inl ⟨by kernel_rfl, ?_⟩) hHeld ?_
      rotate_left
      focus (intro w hSw; (try dsimp only at hSw); go_simp; try with_reducible rfl)
      simp only [Act.put]
      refine wpAnyH_take (i := 13) (v := ?_) rfl (by kernel_rfl) (by kernel_rfl) (by kernel_rfl) (fun _ _ _ h => h) (Or.inl ⟨by kernel_rfl, ?_⟩) hHeld ?_
      rotate_left
      focus (intro w hSw; (try dsimp only at hSw); go_simp; try with_reducible rfl)
      simp only [Act.put]
      refine wpAnyH_take (i := 14) (v := ?_) rfl (by kernel_rfl) (by kernel_rfl) (by kernel_rfl) (fun _ _ _ h => h) (Or.inl ⟨by kernel_rfl, ?_⟩) hHeld ?_
      rotate_left
      focus (intro w hSw; (try dsimp only at hSw); go_simp; try with_reducible rfl)
      simp only [Act.put]
      refine wpAnyH_take (i := 15) (v := ?_) rfl (by kernel_rfl) (by kernel_rfl) (by kernel_rfl) (fun _ _ _ h => h) (Or.inl ⟨by kernel_rfl, ?_⟩) hHeld ?_
      rotate_left
      focus (intro w hSw; (try dsimp only at hSw); go_simp; try with_reducible rfl)
      simp only [Act.put]
      refine wpAnyH_take (i := 16) (v := undef) rfl (by kernel_rfl) (by kernel_rfl) (by kernel_rfl) (fun _ _ _ h => h) (Or.inr ⟨by kernel_rfl, rfl⟩) hHeld ?_
      simp only [Act.put]
      refine wpAnyH_take (i := 17) (v := undef) rfl (by kernel_rfl) (by kernel_rfl) (by kernel_rfl) (fun _ _ _ h => h) (Or.inr ⟨by kernel_rfl, rfl⟩) hHeld ?_
      simp only [Act.put]
      refine wpAnyH_ready (rs := [18]) (by kernel_rfl) (by simp) ?_
      refine AllReadyH.cons rfl (fun K hK => ?_) (AllReadyH.nil)
      go_simp
      refine hK.out _ _ (HSS.out _ hBc) (fun hHeld => ?_)
      clear hK K
      try simp only [Act.put]
      refine wpAnyH_done (by kernel_rfl) ?_ _
      have HBE := Lib.hid (below0 HB0.out hBc)
      clear hBc hown0 hown1 hown2 hr31 hg1 hg2 hv1 hv2
      go_wp2_with fail
      refine (hwk.out _).mono ?_
      rintro e V9 ⟨rfl, hb9⟩
      have HF := Lib.hid (below0 HBE.out hb9)
      clear hb9
      go_wp2_with fail
      go_ret
      exact ⟨rfl, HF.out⟩
  · go_simp
    have hr31 : Row ((W0.drew).alloc (.cells #[.int .i64 x.what, .int .i64 x.owner, .int .i64 x.n, .int .i64 x.at_, .slice x.A x.bs.length x.c, .int .i64 y.what, .int .i64 y.owner, .int .i64 y.n, .int .i64 y.at_, .slice y.A y.bs.length y.c] 25)) (W0.drew).heap.size 25 [.int .i64 x.what, .int .i64 x.owner, .int .i64 x.n, .int .i64 x.at_, .slice x.A x.bs.length x.c, .int .i64 y.what, .int .i64 y.owner, .int .i64 y.n, .int .i64 y.at_, .slice y.A y.bs.length y.c] := Row.new (W0.drew) _ [.int .i64 x.what, .int .i64 x.owner, .int .i64 x.n, .int .i64 x.at_, .slice x.A x.bs.length x.c, .int .i64 y.what, .int .i64 y.owner, .int .i64 y.n, .int .i64 y.at_, .slice y.A y.bs.length y.c]
    replace hBc := hBc.alloc hBc.size (.cells #[.int .i64 x.what, .int .i64 x.owner, .int .i64 x.n, .int .i64 x.at_, .slice x.A x.bs.length x.c, .int .i64 y.what, .int .i64 y.owner, .int .i64 y.n, .int .i64 y.at_, .slice y.A y.bs.length y.c] 25)
    refine hK.out _ _ (HSS.out _ hBc) (fun hHeld => ?_)
    clear hK K
    try simp only [Act.put]
    refine wpAnyH_ready (rs := [0]) (by kernel_rfl) (by simp) ?_
    refine AllReadyH.cons rfl (fun K hK => ?_) (AllReadyH.nil)
    go_simp
    have hown0 : (((W0.drew.alloc (.cells #[.int .i64 x.what, .int .i64 x.owner, .int .i64 x.n, .int .i64 x.at_, .slice x.A x.bs.length x.c, .int .i64 y.what, .int .i64 y.owner, .int .i64 y.n, .int .i64 y.at_, .slice y.A y.bs.length y.c] 25))).alloc (.cells #[] 25)).ownsRow W0.heap.size 25 5 (.slice (some ⟨((W0.drew.alloc (.cells #[.int .i64 x.what, .int .i64 x.owner, .int .i64 x.n, .int .i64 x.at_, .slice x.A x.bs.length x.c, .int .i64 y.what, .int .i64 y.owner, .int .i64 y.n, .int .i64 y.at_, .slice y.A y.bs.length y.c] 25))).heap.size, 0, none⟩) 0 0) 0 [] := World.ownsRow_lit ((W0.drew.alloc (.cells #[.int .i64 x.what, .int .i64 x.owner, .int .i64 x.n, .int .i64 x.at_, .slice x.A x.bs.length x.c, .int .i64 y.what, .int .i64 y.owner, .int .i64 y.n, .int .i64 y.at_, .slice y.A y.bs.length y.c] 25))) #[] 0 hBc.size (Nat.zero_le _) rfl
    replace hBc := hBc.alloc hBc.size (.cells #[] 25)
    refine hK.out _ _ (HSS.out _ hBc) (fun hHeld => ?_)
    clear hK K
    try simp only [Act.put]
    replace hr31 := hr31.below (below1 _ (.cells #[] 25))
    refine wpAnyH_ready (rs := [2]) (by kernel_rfl) (by simp) ?_
    refine AllReadyH.cons rfl (fun K hK => ?_) (AllReadyH.nil)
    refine step_append_sees rfl (.tmp 24) (.tmp 25) 22 rfl W0.heap.size 25 j0 _ 5 56 Tryz.underlying22 hj hj0 hj1 hj2 rfl (by decide) _ 0 [] (by simp [Act.eval]) hown0 _ A0 n0 c0 (l.flatMap Ac.cells) (by simp [Act.eval]) hll (HSL.out _ hBc) acs_one (by unfold maxLen; omega) (by omega) hBc.size ?_
    intro v26 V26 hown1 hg1 hv1
    have hBn := hBc.grown hg1 hBc.size (fun k hk => (hown0.lt k hk).1)
    replace hBc := hBn
    clear hBn
    refine hK.out _ _ (HSS.out _ hBc) (fun hHeld => ?_)
    clear hK K
    try simp only [Act.put]
    have hne31 : some W0.drew.heap.size ≠ (Value.slice (some ⟨(W0.drew.alloc (.cells #[.int .i64 x.what, .int .i64 x.owner, .int .i64 x.n, .int .i64 x.at_, .slice x.A x.bs.length x.c, .int .i64 y.what, .int .i64 y.owner, .int .i64 y.n, .int .i64 y.at_, .slice y.A y.bs.length y.c] 25)).heap.size, 0, none⟩) 0 0).ownBlock := fun e => by
      have e2 := Option.some.inj e
      simp at e2
    replace hr31 := hr31.same (hg1.block _ hr31.lt hne31)
    refine wpAnyH_ready (rs := [8]) (by kernel_rfl) (by simp) ?_
    refine AllReadyH.cons rfl (fun K hK => ?_) (AllReadyH.nil)
    refine step_append_sees rfl (.tmp 26) (.tmp 31) 22 rfl W0.heap.size 25 j0 _ 5 56 Tryz.underlying22 hj hj0 hj1 hj2 rfl (by decide) _ (0 + n0) ([] ++ l.flatMap Ac.cells) (by simp [Act.eval]) hown1 _ _ 2 2 [.int .i64 x.what, .int .i64 x.owner, .int .i64 x.n, .int .i64 x.at_, .slice x.A x.bs.length x.c, .int .i64 y.what, .int .i64 y.owner, .int .i64 y.n, .int .i64 y.at_, .slice y.A y.bs.length y.c] (by simp [Act.eval]) rfl hr31.sees (by intro u hu; simp only [List.mem_cons, List.not_mem_nil, or_false] at hu; rcases hu with rfl | rfl | rfl | rfl | rfl | rfl | rfl | rfl | rfl | rfl <;> rfl) (by unfold maxLen; omega) (by omega) hBc.size ?_
    intro v32 V32 hown2 hg2 hv2
    replace hBc := hBc.grown hg2 hBc.size (fun k hk => (hown1.lt k hk).1)
    obtain ⟨A32, c32, rfl⟩ := own_slice hown2
    refine hK.out _ _ (HSS.out _ hBc) (fun hHeld => ?_)
    clear hK K
    try simp only [Act.put]
    refine wpAnyH_ready (rs := [9]) (by kernel_rfl) (by simp) ?_
    refine AllReadyH.cons rfl (fun K hK => ?_) (AllReadyH.nil)
    go_simp
    refine (HFW.out _ _ _ hBc (by
      have h3 := sees_any hown2
      simpa [List.flatMap_append, Ac.cells, Ac.sl] using h3)).mono ?_
    rintro e _ ⟨rfl, rfl⟩
    refine hK.out _ _ (HSS.out _ hBc) (fun hHeld => ?_)
    clear hK K
    try simp only [Act.put]
    refine wpAnyH_take (i := 10) (v := ?_) rfl (by kernel_rfl) (by kernel_rfl) (by kernel_rfl) (fun _ _ _ h => h) (Or.inl ⟨by kernel_rfl, ?_⟩) hHeld ?_
    rotate_left
    focus (intro w hSw; (try dsimp only at hSw); go_simp; try with_reducible rfl)
    simp only [Act.put]
    refine wpAnyH_take (i := 11) (v := ?_) rfl (by kernel_rfl) (by kernel_rfl) (by kernel_rfl) (fun _ _ _ h => h) (Or.inl ⟨by kernel_rfl, ?_⟩) hHeld ?_
    rotate_left
    focus (intro w hSw; (try dsimp only at hSw); go_simp; try with_reducible rfl)
    simp only [Act.put]
    refine wpAnyH_take (i := 12) (v := ?_) rfl (by kernel_rfl) (by kernel_rfl) (by kernel_rfl) (fun _ _ _ h => h) (Or.inl ⟨by kernel_rfl, ?_⟩) hHeld ?_
    rotate_left
    focus (intro w hSw; (try dsimp only at hSw); go_simp; try with_reducible rfl)
    simp only [Act.put]
    refine wpAnyH_take (i := 13) (v := ?_) rfl (by kernel_rfl) (by kernel_rfl) (by kernel_rfl) (fun _ _ _ h => h) (Or.inl ⟨by kernel_rfl, ?_⟩) hHeld ?_
    rotate_left
    focus (intro w hSw; (try dsimp only at hSw); go_simp; try with_reducible rfl)
    simp only [Act.put]
    refine wpAnyH_take (i := 14) (v := ?_) rfl (by kernel_rfl) (by kernel_rfl) (by kernel_rfl) (fun _ _ _ h => h) (Or.inl ⟨by kernel_rfl, ?_⟩) hHeld ?_
    rotate_left
    focus (intro w hSw; (try dsimp only at hSw); go_simp; try with_reducible rfl)
    simp only [Act.put]
    refine wpAnyH_take (i := 15) (v := ?_) rfl (by kernel_rfl) (by kernel_rfl) (by kernel_rfl) (fun _ _ _ h => h) (Or.inl ⟨by kernel_rfl, ?_⟩) hHeld ?_
    rotate_left
    focus (intro w hSw; (try dsimp only at hSw); go_simp; try with_reducible rfl)
    simp only [Act.put]
    refine wpAnyH_take (i := 16) (v := undef) rfl (by kernel_rfl) (by kernel_rfl) (by kernel_rfl) (fun _ _ _ h => h) (Or.inr ⟨by kernel_rfl, rfl⟩) hHeld ?_
    simp only [Act.put]
    refine wpAnyH_take (i := 17) (v := undef) rfl (by kernel_rfl) (by kernel_rfl) (by kernel_rfl) (fun _ _ _ h => h) (Or.inr ⟨by kernel_rfl, rfl⟩) hHeld ?_
    simp only [Act.put]
    refine wpAnyH_ready (rs := [18]) (by kernel_rfl) (by simp) ?_
    refine AllReadyH.cons rfl (fun K hK => ?_) (AllReadyH.nil)
    go_simp
    refine hK.out _ _ (HSS.out _ hBc) (fun hHeld => ?_)
    clear hK K
    try simp only [Act.put]
    refine wpAnyH_done (by kernel_rfl) ?_ _
    have HBE := Lib.hid (below0 HB0.out hBc)
    clear hBc hown0 hown1 hown2 hr31 hg1 hg2 hv1 hv2
    go_wp2_with fail
    refine (hwk.out _).mono ?_
    rintro e V9 ⟨rfl, hb9⟩
    have HF := Lib.hid (below0 HBE.out hb9)
    clear hb9
    go_wp2_with fail
    go_ret
    exact ⟨rfl, HF.out⟩
set_option maxRecDepth 100000 in
set_option maxHeartbeats 8000000 in
theorem copies_farC (l : List Ac) (A0 : Option Addr) (n0 c0 : Nat) (x y : Ac) (many : Int) (w : World) (h : Acs w l A0) (hl : l.length = n0) (hn : n0 * 56 ≤ 140737488351232) (hx : x.fits w) (hy : y.fits w) (hq : fewB (l ++ [x, y]) 32 = true) (hm : 9 < many) :
    Calls Tryz.prog 3 #[.slice A0 n0 c0, .agg #[.int .i64 x.what, .int .i64 x.owner, .int .i64 x.n, .int .i64 x.at_, .slice x.A x.bs.length x.c, .int .i64 y.what, .int .i64 y.owner, .int .i64 y.n, .int .i64 y.at_, .slice y.A y.bs.length y.c], .int .i64 many] w fun e w' => e = .returned (.bool true) ∧ Below w.heap.size w w' := by
  obtain ⟨j0, hj, hj0, hj1, hj2⟩ := info_parts act_info
  have hW : ∃ W0, W0 = (w.alloc (.cells #[.int .i64 x.what, .int .i64 x.owner, .int .i64 x.n, .int .i64 x.at_, .slice x.A x.bs.length x.c, .int .i64 y.what, .int .i64 y.owner, .int .i64 y.n, .int .i64 y.at_, .slice y.A y.bs.length y.c] 26)).alloc (.cells #[.int .i64 many] 3) := ⟨_, rfl⟩
  obtain ⟨W0, hW0⟩ := hW
  have hb0 : Below w.heap.size w W0 := by rw [hW0]; exact below2 _ _ _
  have rx : Row W0 w.heap.size 26 [.int .i64 x.what, .int .i64 x.owner, .int .i64 x.n, .int .i64 x.at_, .slice x.A x.bs.length x.c, .int .i64 y.what, .int .i64 y.owner, .int .i64 y.n, .int .i64 y.at_, .slice y.A y.bs.length y.c] := by rw [hW0]; exact (Row.new w _ [.int .i64 x.what, .int .i64 x.owner, .int .i64 x.n, .int .i64 x.at_, .slice x.A x.bs.length x.c, .int .i64 y.what, .int .i64 y.owner, .int .i64 y.n, .int .i64 y.at_, .slice y.A y.bs.length y.c]).below (below1 _ _)
  have rm : Row W0 (w.heap.size + 1) 3 [.int .i64 many] := by rw [hW0]; exact Row.new_at _ _ [.int .i64 many] (by simp)
  have hs0 : W0.heap.size = w.heap.size + 1 + 1 := by rw [hW0]; simp
  have HSS := Lib.hid (fun V (hb : Below W0.heap.size W0 V) => (show (fun V : World => V.cell? ⟨w.heap.size, 0, none⟩ = some (.int .i64 x.what) ∧ V.cell? ⟨w.heap.size, 1, none⟩ = some (.int .i64 x.owner) ∧ V.cell? ⟨w.heap.size, 2, none⟩ = some (.int .i64 x.n) ∧ V.cell? ⟨w.heap.size, 3, none⟩ = some (.int .i64 x.at_) ∧ V.cell? ⟨w.heap.size, 4, none⟩ = some (.slice x.A x.bs.length x.c) ∧ V.cell? ⟨w.heap.size, 5, none⟩ = some (.int .i64 y.what) ∧ V.cell? ⟨w.heap.size, 6, none⟩ = some (.int .i64 y.owner) ∧ V.cell? ⟨w.heap.size, 7, none⟩ = some (.int .i64 y.n) ∧ V.cell? ⟨w.heap.size, 8, none⟩ = some (.int .i64 y.at_) ∧ V.cell? ⟨w.heap.size, 9, none⟩ = some (.slice y.A y.bs.length y.c) ∧ V.cell? ⟨w.heap.size + 1, 0, none⟩ = some (.int .i64 many)) V from ⟨(rx.below hb).cell 0, (rx.below hb).cell 1, (rx.below hb).cell 2, (rx.below hb).cell 3, (rx.below hb).cell 4, (rx.below hb).cell 5, (rx.below hb).cell 6, (rx.below hb).cell 7, (rx.below hb).cell 8, (rx.below hb).cell 9, (rm.below hb).cell 0⟩))
  have HS0 := Lib.hid hs0
  have HA := Lib.hid (h.below hb0)
  have HX := Lib.hid (hx.below hb0)
  have HY := Lib.hid (hy.below hb0)
  have HL := Lib.hid hl
  have HB0 := Lib.hid hb0
  have HW0 := Lib.hid hW0
  have hwk := Lib.hid (fun w => works_any w)
  obtain ⟨f, hf⟩ : ∃ f, f = fewB (l ++ [x, y]) 32 := ⟨_, rfl⟩
  have HFW := Lib.hid (fun V (A2 : Option Addr) (c2 : Nat) (hb : Below W0.heap.size W0 V) (hs : Sees V V.heap.size A2 ((l ++ [x, y]).flatMap Ac.cells)) => (show Calls Tryz.prog 6 #[.slice A2 (n0 + 2) c2, .int .i64 32] V (fun e w' => e = .returned (.bool f) ∧ V = w') from by
    have h1 := few_any (l ++ [x, y]) A2 (n0 + 2) c2 32 V ⟨hs, fun z hz => by
      rcases List.mem_append.1 hz with hz | hz
      · exact (HA.out.below hb).fits z hz
      · simp only [List.mem_cons, List.not_mem_nil, or_false] at hz
        rcases hz with rfl | rfl
        · exact HX.out.below hb
        · exact HY.out.below hb⟩ (by rw [List.length_append, HL.out]; rfl) (by omega)
    rw [← hf] at h1
    exact h1))
  have hll : (l.flatMap Ac.cells).length = n0 * 5 := by rw [acs_len, hl]
  have HSL := Lib.hid (fun V (hb : Below W0.heap.size W0 V) => (HA.out.below hb).sees)
  have HHF := Lib.hid hf
  clear h hx hy hl hb0 rx rm hs0 hW0 hf
  obtain rfl : f = true := HHF.out.trans hq
  have e1 : decide (many < 1) = false := decide_eq_false (by omega)
  have e2 : decide (9 < many) = true := decide_eq_true hm
  clear hq
  go_enter Tryz.func3, Tryz.ntmps3
  go_wp2_with fail
  rw [← HW0.out]
  have hBc : Below W0.heap.size W0 W0.drew := (Below.refl _ _).drew
  refine wp_region_held_drew (S := (fun V : World => V.cell? ⟨w.heap.size, 0, none⟩ = some (.int .i64 x.what) ∧ V.cell? ⟨w.heap.size, 1, none⟩ = some (.int .i64 x.owner) ∧ V.cell? ⟨w.heap.size, 2, none⟩ = some (.int .i64 x.n) ∧ V.cell? ⟨w.heap.size, 3, none⟩ = some (.int .i64 x.at_) ∧ V.cell? ⟨w.heap.size, 4, none⟩ = some (.slice x.A x.bs.length x.c) ∧ V.cell? ⟨w.heap.size, 5, none⟩ = some (.int .i64 y.what) ∧ V.cell? ⟨w.heap.size, 6, none⟩ = some (.int .i64 y.owner) ∧ V.cell? ⟨w.heap.size, 7, none⟩ = some (.int .i64 y.n) ∧ V.cell? ⟨w.heap.size, 8, none⟩ = some (.int .i64 y.at_) ∧ V.cell? ⟨w.heap.size, 9, none⟩ = some (.slice y.A y.bs.length y.c) ∧ V.cell? ⟨w.heap.size + 1, 0, none⟩ = some (.int .i64 many))) (by kernel_rfl) (HSS.out _ hBc) (fun hHeld => ?_)
  refine wpAnyH_take (i := 1) (v := ?_) rfl (by kernel_rfl) (by kernel_rfl) (by kernel_rfl) (fun _ _ _ h => h) (Or.inl ⟨by kernel_rfl, ?_⟩) hHeld ?_
  rotate_left
  focus (intro w hSw; (try dsimp only at hSw); go_simp; try with_reducible rfl)
  simp only [Act.put]
  refine wpAnyH_take (i := 3) (v := ?_) rfl (by kernel_rfl) (by kernel_rfl) (by kernel_rfl) (fun _ _ _ h => h) (Or.inl ⟨by kernel_rfl, ?_⟩) hHeld ?_
  rotate_left
  focus (intro w hSw; (try dsimp only at hSw); go_simp; try with_reducible rfl)
  simp only [Act.put]
  refine wpAnyH_take (i := 4) (v := ?_) rfl (by kernel_rfl) (by kernel_rfl) (by kernel_rfl) (fun _ _ _ h => h) (Or.inl ⟨by kernel_rfl, ?_⟩) hHeld ?_
  rotate_left
  focus (intro w hSw; (try dsimp only at hSw); go_simp; try with_reducible rfl)
  simp only [Act.put]
  refine wpAnyH_take (i := 5) (v := ?_) rfl (by kernel_rfl) (by kernel_rfl) (by kernel_rfl) (fun _ _ _ h => h) (Or.inl ⟨by kernel_rfl, ?_⟩) hHeld ?_
  rotate_left
  focus (intro w hSw; (try dsimp only at hSw); go_simp; try with_reducible rfl)
  simp only [Act.put]
  refine wpAnyH_take (i := 6) (v := ?_) rfl (by kernel_rfl) (by kernel_rfl) (by kernel_rfl) (fun _ _ _ h => h) (Or.inl ⟨by kernel_rfl, ?_⟩) hHeld ?_
  rotate_left
  focus (intro w hSw; (try dsimp only at hSw); go_simp; try with_reducible rfl)
  simp only [Act.put]
  refine wpAnyH_ready (rs := [0, 7]) (by kernel_rfl) (by simp) ?_
  refine AllReadyH.cons rfl (fun K hK => ?_) (AllReadyH.cons rfl (fun K hK => ?_) (AllReadyH.nil))
  · go_simp
    have hown0 : ((W0.drew).alloc (.cells #[] 25)).ownsRow W0.heap.size 25 5 (.slice (some ⟨(W0.drew).heap.size, 0, none⟩) 0 0) 0 [] := World.ownsRow_lit (W0.drew) #[] 0 hBc.size (Nat.zero_le _) rfl
    replace hBc := hBc.alloc hBc.size (.cells #[] 25)
    refine hK.out _ _ (HSS.out _ hBc) (fun hHeld => ?_)
    clear hK K
    try simp only [Act.put]
    refine wpAnyH_ready (rs := [2, 7]) (by kernel_rfl) (by simp) ?_
    refine AllReadyH.cons rfl (fun K hK => ?_) (AllReadyH.cons rfl (fun K hK => ?_) (AllReadyH.nil))
    · refine step_append_sees rfl (.tmp 24) (.tmp 25) 22 rfl W0.heap.size 25 j0 _ 5 56 Tryz.underlying22 hj hj0 hj1 hj2 rfl (by decide) _ 0 [] (by simp [Act.eval]) hown0 _ A0 n0 c0 (l.flatMap Ac.cells) (by simp [Act.eval]) hll (HSL.out _ hBc) acs_one (by unfold maxLen; omega) (by omega) hBc.size ?_
      intro v26 V26 hown1 hg1 hv1
      have hBn := hBc.grown hg1 hBc.size (fun k hk => (hown0.lt k hk).1)
      replace hBc := hBn
      clear hBn
      refine hK.out _ _ (HSS.out _ hBc) (fun hHeld => ?_)
      clear hK K
      try simp only [Act.put]
      refine wpAnyH_ready (rs := [7]) (by kernel_rfl) (by simp) ?_
      refine AllReadyH.cons rfl (fun K hK => ?_) (AllReadyH.nil)
      go_simp
      have hr31 : Row ((V26).alloc (.cells #[.int .i64 x.what, .int .i64 x.owner, .int .i64 x.n, .int .i64 x.at_, .slice x.A x.bs.length x.c, .int .i64 y.what, .int .i64 y.owner, .int .i64 y.n, .int .i64 y.at_, .slice y.A y.bs.length y.c] 25)) (V26).heap.size 25 [.int .i64 x.what, .int .i64 x.owner, .int .i64 x.n, .int .i64 x.at_, .slice x.A x.bs.length x.c, .int .i64 y.what, .int .i64 y.owner, .int .i64 y.n, .int .i64 y.at_, .slice y.A y.bs.length y.c] := Row.new (V26) _ [.int .i64 x.what, .int .i64 x.owner, .int .i64 x.n, .int .i64 x.at_, .slice x.A x.bs.length x.c, .int .i64 y.what, .int .i64 y.owner, .int .i64 y.n, .int .i64 y.at_, .slice y.A y.bs.length y.c]
      replace hBc := hBc.alloc hBc.size (.cells #[.int .i64 x.what, .int .i64 x.owner, .int .i64 x.n, .int .i64 x.at_, .slice x.A x.bs.length x.c, .int .i64 y.what, .int .i64 y.owner, .int .i64 y.n, .int .i64 y.at_, .slice y.A y.bs.length y.c] 25)
      refine hK.out _ _ (HSS.out _ hBc) (fun hHeld => ?_)
      clear hK K
      try simp only [Act.put]
      replace hown1 := hown1.alloc (.cells #[.int .i64 x.what, .int .i64 x.owner, .int .i64 x.n, .int .i64 x.at_, .slice x.A x.bs.length x.c, .int .i64 y.what, .int .i64 y.owner, .int .i64 y.n, .int .i64 y.at_, .slice y.A y.bs.length y.c] 25)
      refine wpAnyH_ready (rs := [8]) (by kernel_rfl) (by simp) ?_
      refine AllReadyH.cons rfl (fun K hK => ?_) (AllReadyH.nil)
      refine step_append_sees rfl (.tmp 26) (.tmp 31) 22 rfl W0.heap.size 25 j0 _ 5 56 Tryz.underlying22 hj hj0 hj1 hj2 rfl (by decide) _ (0 + n0) ([] ++ l.flatMap Ac.cells) (by simp [Act.eval]) hown1 _ _ 2 2 [.int .i64 x.what, .int .i64 x.owner, .int .i64 x.n, .int .i64 x.at_, .slice x.A x.bs.length x.c, .int .i64 y.what, .int .i64 y.owner, .int .i64 y.n, .int .i64 y.at_, .slice y.A y.bs.length y.c] (by simp [Act.eval]) rfl hr31.sees (by intro u hu; simp only [List.mem_cons, List.not_mem_nil, or_false] at hu; rcases hu with rfl | rfl | rfl | rfl | rfl | rfl | rfl | rfl | rfl | rfl <;> rfl) (by unfold maxLen; omega) (by omega) hBc.size ?_
      intro v32 V32 hown2 hg2 hv2
      replace hBc := hBc.grown hg2 hBc.size (fun k hk => (hown1.lt k hk).1)
      obtain ⟨A32, c32, rfl⟩ := own_slice hown2
      refine hK.out _ _ (HSS.out _ hBc) (fun hHeld => ?_)
      clear hK K
      try simp only [Act.put]
      refine wpAnyH_ready (rs := [9]) (by kernel_rfl) (by simp) ?_
      refine AllReadyH.cons rfl (fun K hK => ?_) (AllReadyH.nil)
      go_simp
      refine (HFW.out _ _ _ hBc (by
        have h3 := sees_any hown2
        simpa [List.flatMap_append, Ac.cells, Ac.sl] using h3)).mono ?_
      rintro e _ ⟨rfl, rfl⟩
      refine hK.out _ _ (HSS.out _ hBc) (fun hHeld => ?_)
      clear hK K
      try simp only [Act.put]
      refine wpAnyH_take (i := 10) (v := ?_) rfl (by kernel_rfl) (by kernel_rfl) (by kernel_rfl) (fun _ _ _ h => h) (Or.inl ⟨by kernel_rfl, ?_⟩) hHeld ?_
      rotate_left
      focus (intro w hSw; (try dsimp only at hSw); go_simp; try with_reducible rfl)
      simp only [Act.put]
      refine wpAnyH_take (i := 11) (v := ?_) rfl (by kernel_rfl) (by kernel_rfl) (by kernel_rfl) (fun _ _ _ h => h) (Or.inl ⟨by kernel_rfl, ?_⟩) hHeld ?_
      rotate_left
      focus (intro w hSw; (try dsimp only at hSw); go_simp; try with_reducible rfl)
      simp only [Act.put]
      refine wpAnyH_take (i := 12) (v := ?_) rfl (by kernel_rfl) (by kernel_rfl) (by kernel_rfl) (fun _ _ _ h => h) (Or.inl ⟨by kernel_rfl, ?_⟩) hHeld ?_
      rotate_left
      focus (intro w hSw; (try dsimp only at hSw); go_simp; try with_reducible rfl)
      simp only [Act.put]
      refine wpAnyH_take (i := 13) (v := ?_) rfl (by kernel_rfl) (by kernel_rfl) (by kernel_rfl) (fun _ _ _ h => h) (Or.inl ⟨by kernel_rfl, ?_⟩) hHeld ?_
      rotate_left
      focus (intro w hSw; (try dsimp only at hSw); go_simp; try with_reducible rfl)
      simp only [Act.put]
      refine wpAnyH_take (i := 14) (v := ?_) rfl (by kernel_rfl) (by kernel_rfl) (by kernel_rfl) (fun _ _ _ h => h) (Or.inl ⟨by kernel_rfl, ?_⟩) hHeld ?_
      rotate_left
      focus (intro w hSw; (try dsimp only at hSw); go_simp; try with_reducible rfl)
      simp only [Act.put]
      refine wpAnyH_take (i := 15) (v := ?_) rfl (by kernel_rfl) (by kernel_rfl) (by kernel_rfl) (fun _ _ _ h => h) (Or.inl ⟨by kernel_rfl, ?_⟩) hHeld ?_
      rotate_left
      focus (intro w hSw; (try dsimp only at hSw); go_simp; try with_reducible rfl)
      simp only [Act.put]
      refine wpAnyH_take (i := 16) (v := ?_) rfl (by kernel_rfl) (by kernel_rfl) (by kernel_rfl) (fun _ _ _ h => h) (Or.inl ⟨by kernel_rfl, ?_⟩) hHeld ?_
      rotate_left
      focus (intro w hSw; (try dsimp only at hSw); go_simp; try with_reducible rfl)
      simp only [Act.put]
      refine wpAnyH_take (i := 17) (v := ?_) rfl (by kernel_rfl) (by kernel_rfl) (by kernel_rfl) (fun _ _ _ h => h) (Or.inl ⟨by kernel_rfl, ?_⟩) hHeld ?_
      rotate_left
      focus (intro w hSw; (try dsimp only at hSw); go_simp; try with_reducible rfl)
      simp only [Act.put]
      refine wpAnyH_ready (rs := [18]) (by kernel_rfl) (by simp) ?_
      refine AllReadyH.cons rfl (fun K hK => ?_) (AllReadyH.nil)
      go_simp
      refine hK.out _ _ (HSS.out _ hBc) (fun hHeld => ?_)
      clear hK K
      try simp only [Act.put]
      refine wpAnyH_done (by kernel_rfl) ?_ _
      have HBE := Lib.hid (below0 HB0.out hBc)
      clear hBc hown0 hown1 hown2 hr31 hg1 hg2 hv1 hv2
      go_wp2_with fail
      refine (hwk.out _).mono ?_
      rintro e V9 ⟨rfl, hb9⟩
      have HF := Lib.hid (below0 HBE.out hb9)
      clear hb9
      go_wp2_with fail
      go_ret
      exact ⟨rfl, HF.out⟩
    · go_simp
      have hr31 : Row (((W0.drew.alloc (.cells #[] 25))).alloc (.cells #[.int .i64 x.what, .int .i64 x.owner, .int .i64 x.n, .int .i64 x.at_, .slice x.A x.bs.length x.c, .int .i64 y.what, .int .i64 y.owner, .int .i64 y.n, .int .i64 y.at_, .slice y.A y.bs.length y.c] 25)) ((W0.drew.alloc (.cells #[] 25))).heap.size 25 [.int .i64 x.what, .int .i64 x.owner, .int .i64 x.n, .int .i64 x.at_, .slice x.A x.bs.length x.c, .int .i64 y.what, .int .i64 y.owner, .int .i64 y.n, .int .i64 y.at_, .slice y.A y.bs.length y.c] := Row.new ((W0.drew.alloc (.cells #[] 25))) _ [.int .i64 x.what, .int .i64 x.owner, .int .i64 x.n, .int .i64 x.at_, .slice x.A x.bs.length x.c, .int .i64 y.what, .int .i64 y.owner, .int .i64 y.n, .int .i64 y.at_, .slice y.A y.bs.length y.c]
      replace hBc := hBc.alloc hBc.size (.cells #[.int .i64 x.what, .int .i64 x.owner, .int .i64 x.n, .int .i64 x.at_, .slice x.A x.bs.length x.c, .int .i64 y.what, .int .i64 y.owner, .int .i64 y.n, .int .i64 y.at_, .slice y.A y.bs.length y.c] 25)
      refine hK.out _ _ (HSS.out _ hBc) (fun hHeld => ?_)
      clear hK K
      try simp only [Act.put]
      replace hown0 := hown0.alloc (.cells #[.int .i64 x.what, .int .i64 x.owner, .int .i64 x.n, .int .i64 x.at_, .slice x.A x.bs.length x.c, .int .i64 y.what, .int .i64 y.owner, .int .i64 y.n, .int .i64 y.at_, .slice y.A y.bs.length y.c] 25)
      refine wpAnyH_ready (rs := [2]) (by kernel_rfl) (by simp) ?_
      refine AllReadyH.cons rfl (fun K hK => ?_) (AllReadyH.nil)
      refine step_append_sees rfl (.tmp 24) (.tmp 25) 22 rfl W0.heap.size 25 j0 _ 5 56 Tryz.underlying22 hj hj0 hj1 hj2 rfl (by decide) _ 0 [] (by simp [Act.eval]) hown0 _ A0 n0 c0 (l.flatMap Ac.cells) (by simp [Act.eval]) hll (HSL.out _ hBc) acs_one (by unfold maxLen; omega) (by omega) hBc.size ?_
      intro v26 V26 hown1 hg1 hv1
      have hBn := hBc.grown hg1 hBc.size (fun k hk => (hown0.lt k hk).1)
      replace hBc := hBn
      clear hBn
      refine hK.out _ _ (HSS.out _ hBc) (fun hHeld => ?_)
      clear hK K
      try simp only [Act.put]
      have hne31 : some ((W0.drew.alloc (.cells #[] 25)).heap.size) ≠ (Value.slice (some ⟨W0.drew.heap.size, 0, none⟩) 0 0).ownBlock := fun e => by
        have e2 := Option.some.inj e
        simp at e2
      replace hr31 := hr31.same (hg1.block _ hr31.lt hne31)
      refine wpAnyH_ready (rs := [8]) (by kernel_rfl) (by simp) ?_
      refine AllReadyH.cons rfl (fun K hK => ?_) (AllReadyH.nil)
      refine step_append_sees rfl (.tmp 26) (.tmp 31) 22 rfl W0.heap.size 25 j0 _ 5 56 Tryz.underlying22 hj hj0 hj1 hj2 rfl (by decide) _ (0 + n0) ([] ++ l.flatMap Ac.cells) (by simp [Act.eval]) hown1 _ _ 2 2 [.int .i64 x.what, .int .i64 x.owner, .int .i64 x.n, .int .i64 x.at_, .slice x.A x.bs.length x.c, .int .i64 y.what, .int .i64 y.owner, .int .i64 y.n, .int .i64 y.at_, .slice y.A y.bs.length y.c] (by simp [Act.eval]) rfl hr31.sees (by intro u hu; simp only [List.mem_cons, List.not_mem_nil, or_false] at hu; rcases hu with rfl | rfl | rfl | rfl | rfl | rfl | rfl | rfl | rfl | rfl <;> rfl) (by unfold maxLen; omega) (by omega) hBc.size ?_
      intro v32 V32 hown2 hg2 hv2
      replace hBc := hBc.grown hg2 hBc.size (fun k hk => (hown1.lt k hk).1)
      obtain ⟨A32, c32, rfl⟩ := own_slice hown2
      refine hK.out _ _ (HSS.out _ hBc) (fun hHeld => ?_)
      clear hK K
      try simp only [Act.put]
      refine wpAnyH_ready (rs := [9]) (by kernel_rfl) (by simp) ?_
      refine AllReadyH.cons rfl (fun K hK => ?_) (AllReadyH.nil)
      go_simp
      refine (HFW.out _ _ _ hBc (by
        have h3 := sees_any hown2
        simpa [List.flatMap_append, Ac.cells, Ac.sl] using h3)).mono ?_
      rintro e _ ⟨rfl, rfl⟩
      refine hK.out _ _ (HSS.out _ hBc) (fun hHeld => ?_)
      clear hK K
      try simp only [Act.put]
      refine wpAnyH_take (i := 10) (v := ?_) rfl (by kernel_rfl) (by kernel_rfl) (by kernel_rfl) (fun _ _ _ h => h) (Or.inl ⟨by kernel_rfl, ?_⟩) hHeld ?_
      rotate_left
      focus (intro w hSw; (try dsimp only at hSw); go_simp; try with_reducible rfl)
      simp only [Act.put]
      refine wpAnyH_take (i := 11) (v := ?_) rfl (by kernel_rfl) (by kernel_rfl) (by kernel_rfl) (fun _ _ _ h => h) (Or.inl ⟨by kernel_rfl, ?_⟩) hHeld ?_
      rotate_left
      focus (intro w hSw; (try dsimp only at hSw); go_simp; try with_reducible rfl)
      simp only [Act.put]
      refine wpAnyH_take (i := 12) (v := ?_) rfl (by kernel_rfl) (by kernel_rfl) (by kernel_rfl) (fun _ _ _ h => h) (Or.inl ⟨by kernel_rfl, ?_⟩) hHeld ?_
      rotate_left
      focus (intro w hSw; (try dsimp only at hSw); go_simp; try with_reducible rfl)
      simp only [Act.put]
      refine wpAnyH_take (i := 13) (v := ?_) rfl (by kernel_rfl) (by kernel_rfl) (by kernel_rfl) (fun _ _ _ h => h) (Or.inl ⟨by kernel_rfl, ?_⟩) hHeld ?_
      rotate_left
      focus (intro w hSw; (try dsimp only at hSw); go_simp; try with_reducible rfl)
      simp only [Act.put]
      refine wpAnyH_take (i := 14) (v := ?_) rfl (by kernel_rfl) (by kernel_rfl) (by kernel_rfl) (fun _ _ _ h => h) (Or.inl ⟨by kernel_rfl, ?_⟩) hHeld ?_
      rotate_left
      focus (intro w hSw; (try dsimp only at hSw); go_simp; try with_reducible rfl)
      simp only [Act.put]
      refine wpAnyH_take (i := 15) (v := ?_) rfl (by kernel_rfl) (by kernel_rfl) (by kernel_rfl) (fun _ _ _ h => h) (Or.inl ⟨by kernel_rfl, ?_⟩) hHeld ?_
      rotate_left
      focus (intro w hSw; (try dsimp only at hSw); go_simp; try with_reducible rfl)
      simp only [Act.put]
      refine wpAnyH_take (i := 16) (v := ?_) rfl (by kernel_rfl) (by kernel_rfl) (by kernel_rfl) (fun _ _ _ h => h) (Or.inl ⟨by kernel_rfl, ?_⟩) hHeld ?_
      rotate_left
      focus (intro w hSw; (try dsimp only at hSw); go_simp; try with_reducible rfl)
      simp only [Act.put]
      refine wpAnyH_take (i := 17) (v := ?_) rfl (by kernel_rfl) (by kernel_rfl) (by kernel_rfl) (fun _ _ _ h => h) (Or.inl ⟨by kernel_rfl, ?_⟩) hHeld ?_
      rotate_left
      focus (intro w hSw; (try dsimp only at hSw); go_simp; try with_reducible rfl)
      simp only [Act.put]
      refine wpAnyH_ready (rs := [18]) (by kernel_rfl) (by simp) ?_
      refine AllReadyH.cons rfl (fun K hK => ?_) (AllReadyH.nil)
      go_simp
      refine hK.out _ _ (HSS.out _ hBc) (fun hHeld => ?_)
      clear hK K
      try simp only [Act.put]
      refine wpAnyH_done (by kernel_rfl) ?_ _
      have HBE := Lib.hid (below0 HB0.out hBc)
      clear hBc hown0 hown1 hown2 hr31 hg1 hg2 hv1 hv2
      go_wp2_with fail
      refine (hwk.out _).mono ?_
      rintro e V9 ⟨rfl, hb9⟩
      have HF := Lib.hid (below0 HBE.out hb9)
      clear hb9
      go_wp2_with fail
      go_ret
      exact ⟨rfl, HF.out⟩
  · go_simp
    have hr31 : Row ((W0.drew).alloc (.cells #[.int .i64 x.what, .int .i64 x.owner, .int .i64 x.n, .int .i64 x.at_, .slice x.A x.bs.length x.c, .int .i64 y.what, .int .i64 y.owner, .int .i64 y.n, .int .i64 y.at_, .slice y.A y.bs.length y.c] 25)) (W0.drew).heap.size 25 [.int .i64 x.what, .int .i64 x.owner, .int .i64 x.n, .int .i64 x.at_, .slice x.A x.bs.length x.c, .int .i64 y.what, .int .i64 y.owner, .int .i64 y.n, .int .i64 y.at_, .slice y.A y.bs.length y.c] := Row.new (W0.drew) _ [.int .i64 x.what, .int .i64 x.owner, .int .i64 x.n, .int .i64 x.at_, .slice x.A x.bs.length x.c, .int .i64 y.what, .int .i64 y.owner, .int .i64 y.n, .int .i64 y.at_, .slice y.A y.bs.length y.c]
    replace hBc := hBc.alloc hBc.size (.cells #[.int .i64 x.what, .int .i64 x.owner, .int .i64 x.n, .int .i64 x.at_, .slice x.A x.bs.length x.c, .int .i64 y.what, .int .i64 y.owner, .int .i64 y.n, .int .i64 y.at_, .slice y.A y.bs.length y.c] 25)
    refine hK.out _ _ (HSS.out _ hBc) (fun hHeld => ?_)
    clear hK K
    try simp only [Act.put]
    refine wpAnyH_ready (rs := [0]) (by kernel_rfl) (by simp) ?_
    refine AllReadyH.cons rfl (fun K hK => ?_) (AllReadyH.nil)
    go_simp
    have hown0 : (((W0.drew.alloc (.cells #[.int .i64 x.what, .int .i64 x.owner, .int .i64 x.n, .int .i64 x.at_, .slice x.A x.bs.length x.c, .int .i64 y.what, .int .i64 y.owner, .int .i64 y.n, .int .i64 y.at_, .slice y.A y.bs.length y.c] 25))).alloc (.cells #[] 25)).ownsRow W0.heap.size 25 5 (.slice (some ⟨((W0.drew.alloc (.cells #[.int .i64 x.what, .int .i64 x.owner, .int .i64 x.n, .int .i64 x.at_, .slice x.A x.bs.length x.c, .int .i64 y.what, .int .i64 y.owner, .int .i64 y.n, .int .i64 y.at_, .slice y.A y.bs.length y.c] 25))).heap.size, 0, none⟩) 0 0) 0 [] := World.ownsRow_lit ((W0.drew.alloc (.cells #[.int .i64 x.what, .int .i64 x.owner, .int .i64 x.n, .int .i64 x.at_, .slice x.A x.bs.length x.c, .int .i64 y.what, .int .i64 y.owner, .int .i64 y.n, .int .i64 y.at_, .slice y.A y.bs.length y.c] 25))) #[] 0 hBc.size (Nat.zero_le _) rfl
    replace hBc := hBc.alloc hBc.size (.cells #[] 25)
    refine hK.out _ _ (HSS.out _ hBc) (fun hHeld => ?_)
    clear hK K
    try simp only [Act.put]
    replace hr31 := hr31.below (below1 _ (.cells #[] 25))
    refine wpAnyH_ready (rs := [2]) (by kernel_rfl) (by simp) ?_
    refine AllReadyH.cons rfl (fun K hK => ?_) (AllReadyH.nil)
    refine step_append_sees rfl (.tmp 24) (.tmp 25) 22 rfl W0.heap.size 25 j0 _ 5 56 Tryz.underlying22 hj hj0 hj1 hj2 rfl (by decide) _ 0 [] (by simp [Act.eval]) hown0 _ A0 n0 c0 (l.flatMap Ac.cells) (by simp [Act.eval]) hll (HSL.out _ hBc) acs_one (by unfold maxLen; omega) (by omega) hBc.size ?_
    intro v26 V26 hown1 hg1 hv1
    have hBn := hBc.grown hg1 hBc.size (fun k hk => (hown0.lt k hk).1)
    replace hBc := hBn
    clear hBn
    refine hK.out _ _ (HSS.out _ hBc) (fun hHeld => ?_)
    clear hK K
    try simp only [Act.put]
    have hne31 : some W0.drew.heap.size ≠ (Value.slice (some ⟨(W0.drew.alloc (.cells #[.int .i64 x.what, .int .i64 x.owner, .int .i64 x.n, .int .i64 x.at_, .slice x.A x.bs.length x.c, .int .i64 y.what, .int .i64 y.owner, .int .i64 y.n, .int .i64 y.at_, .slice y.A y.bs.length y.c] 25)).heap.size, 0, none⟩) 0 0).ownBlock := fun e => by
      have e2 := Option.some.inj e
      simp at e2
    replace hr31 := hr31.same (hg1.block _ hr31.lt hne31)
    refine wpAnyH_ready (rs := [8]) (by kernel_rfl) (by simp) ?_
    refine AllReadyH.cons rfl (fun K hK => ?_) (AllReadyH.nil)
    refine step_append_sees rfl (.tmp 26) (.tmp 31) 22 rfl W0.heap.size 25 j0 _ 5 56 Tryz.underlying22 hj hj0 hj1 hj2 rfl (by decide) _ (0 + n0) ([] ++ l.flatMap Ac.cells) (by simp [Act.eval]) hown1 _ _ 2 2 [.int .i64 x.what, .int .i64 x.owner, .int .i64 x.n, .int .i64 x.at_, .slice x.A x.bs.length x.c, .int .i64 y.what, .int .i64 y.owner, .int .i64 y.n, .int .i64 y.at_, .slice y.A y.bs.length y.c] (by simp [Act.eval]) rfl hr31.sees (by intro u hu; simp only [List.mem_cons, List.not_mem_nil, or_false] at hu; rcases hu with rfl | rfl | rfl | rfl | rfl | rfl | rfl | rfl | rfl | rfl <;> rfl) (by unfold maxLen; omega) (by omega) hBc.size ?_
    intro v32 V32 hown2 hg2 hv2
    replace hBc := hBc.grown hg2 hBc.size (fun k hk => (hown1.lt k hk).1)
    obtain ⟨A32, c32, rfl⟩ := own_slice hown2
    refine hK.out _ _ (HSS.out _ hBc) (fun hHeld => ?_)
    clear hK K
    try simp only [Act.put]
    refine wpAnyH_ready (rs := [9]) (by kernel_rfl) (by simp) ?_
    refine AllReadyH.cons rfl (fun K hK => ?_) (AllReadyH.nil)
    go_simp
    refine (HFW.out _ _ _ hBc (by
      have h3 := sees_any hown2
      simpa [List.flatMap_append, Ac.cells, Ac.sl] using h3)).mono ?_
    rintro e _ ⟨rfl, rfl⟩
    refine hK.out _ _ (HSS.out _ hBc) (fun hHeld => ?_)
    clear hK K
    try simp only [Act.put]
    refine wpAnyH_take (i := 10) (v := ?_) rfl (by kernel_rfl) (by kernel_rfl) (by kernel_rfl) (fun _ _ _ h => h) (Or.inl ⟨by kernel_rfl, ?_⟩) hHeld ?_
    rotate_left
    focus (intro w hSw; (try dsimp only at hSw); go_simp; try with_reducible rfl)
    simp only [Act.put]
    refine wpAnyH_take (i := 11) (v := ?_) rfl (by kernel_rfl) (by kernel_rfl) (by kernel_rfl) (fun _ _ _ h => h) (Or.inl ⟨by kernel_rfl, ?_⟩) hHeld ?_
    rotate_left
    focus (intro w hSw; (try dsimp only at hSw); go_simp; try with_reducible rfl)
    simp only [Act.put]
    refine wpAnyH_take (i := 12) (v := ?_) rfl (by kernel_rfl) (by kernel_rfl) (by kernel_rfl) (fun _ _ _ h => h) (Or.inl ⟨by kernel_rfl, ?_⟩) hHeld ?_
    rotate_left
    focus (intro w hSw; (try dsimp only at hSw); go_simp; try with_reducible rfl)
    simp only [Act.put]
    refine wpAnyH_take (i := 13) (v := ?_) rfl (by kernel_rfl) (by kernel_rfl) (by kernel_rfl) (fun _ _ _ h => h) (Or.inl ⟨by kernel_rfl, ?_⟩) hHeld ?_
    rotate_left
    focus (intro w hSw; (try dsimp only at hSw); go_simp; try with_reducible rfl)
    simp only [Act.put]
    refine wpAnyH_take (i := 14) (v := ?_) rfl (by kernel_rfl) (by kernel_rfl) (by kernel_rfl) (fun _ _ _ h => h) (Or.inl ⟨by kernel_rfl, ?_⟩) hHeld ?_
    rotate_left
    focus (intro w hSw; (try dsimp only at hSw); go_simp; try with_reducible rfl)
    simp only [Act.put]
    refine wpAnyH_take (i := 15) (v := ?_) rfl (by kernel_rfl) (by kernel_rfl) (by kernel_rfl) (fun _ _ _ h => h) (Or.inl ⟨by kernel_rfl, ?_⟩) hHeld ?_
    rotate_left
    focus (intro w hSw; (try dsimp only at hSw); go_simp; try with_reducible rfl)
    simp only [Act.put]
    refine wpAnyH_take (i := 16) (v := ?_) rfl (by kernel_rfl) (by kernel_rfl) (by kernel_rfl) (fun _ _ _ h => h) (Or.inl ⟨by kernel_rfl, ?_⟩) hHeld ?_
    rotate_left
    focus (intro w hSw; (try dsimp only at hSw); go_simp; try with_reducible rfl)
    simp only [Act.put]
    refine wpAnyH_take (i := 17) (v := ?_) rfl (by kernel_rfl) (by kernel_rfl) (by kernel_rfl) (fun _ _ _ h => h) (Or.inl ⟨by kernel_rfl, ?_⟩) hHeld ?_
    rotate_left
    focus (intro w hSw; (try dsimp only at hSw); go_simp; try with_reducible rfl)
    simp only [Act.put]
    refine wpAnyH_ready (rs := [18]) (by kernel_rfl) (by simp) ?_
    refine AllReadyH.cons rfl (fun K hK => ?_) (AllReadyH.nil)
    go_simp
    refine hK.out _ _ (HSS.out _ hBc) (fun hHeld => ?_)
    clear hK K
    try simp only [Act.put]
    refine wpAnyH_done (by kernel_rfl) ?_ _
    have HBE := Lib.hid (below0 HB0.out hBc)
    clear hBc hown0 hown1 hown2 hr31 hg1 hg2 hv1 hv2
    go_wp2_with fail
    refine (hwk.out _).mono ?_
    rintro e V9 ⟨rfl, hb9⟩
    have HF := Lib.hid (below0 HBE.out hb9)
    clear hb9
    go_wp2_with fail
    go_ret
    exact ⟨rfl, HF.out⟩
end Go.Proofs.YtmbjjbgpcacoeaaGreat
