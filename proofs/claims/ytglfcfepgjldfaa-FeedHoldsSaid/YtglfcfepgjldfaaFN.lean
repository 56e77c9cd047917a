import Derived.Test.YtglfcfepgjldfaaFM
import Derived.Test.YtglfcfepgjldfaaBaseIn
namespace Go.Proofs.Ytglfcfepgjldfaa.Fe
open Go.RowKit Go.Shelf
attribute [local go_sem] Oper.semAt_some

/- FEEDPLAYS: A FEED, CALL BY CALL; OF NONE, TOO. -/
theorem u8_info : (Try.prog.info? 5).map (fun i => (i.zero, i.size, i.bytes)) = some (some (.int .u8 0), 1, 1) := by kernel_rfl
theorem byt_len (l : List UInt8) : (byt l).length = l.length := by simp [byt]
theorem byt_one {l : List UInt8} : ∀ u ∈ byt l, u.oneCell' = true := by
  intro u hu
  simp only [byt, List.mem_map] at hu
  obtain ⟨b, _, rfl⟩ := hu
  rfl
theorem nil_row (w : World) : (w.alloc (.cells #[] 5)).ownsRow w.heap.size 5 1 (.slice (some ⟨w.heap.size, 0, none⟩) 0 0) 0 [] :=
  ⟨rfl, .inr ⟨_, _, _, rfl, Nat.le_refl _, World.alloc_heap_new w _, Nat.le_refl _, Nat.zero_le _, rfl, rfl⟩⟩
theorem cell_one_at (w : World) (v : Value) (t : TypeId) : ∀ (j : Nat) (u : Value), [v][j]? = some u → (w.alloc (.cells #[v] t)).cell? ((⟨w.heap.size, 0, none⟩ : Addr).add j) = some u := fun j u hu => by
  rw [add_plain, Nat.zero_add, cell_alloc_new]
  simpa using hu
theorem app77 {w w7 : World} {v : Value} {m : Nat} {ws : List UInt8} (hm : ws.length = m) (h : w7.ownsRow w.heap.size 5 1 v (m + 1) (byt ws ++ [.int .u8 77])) :
    ∃ g cap rest, v = .slice (some ⟨g, 0, none⟩) (m + 1) cap ∧ m + 1 ≤ cap ∧ w.heap.size ≤ g ∧ Row w7 g 5 (byt ws ++ .int .u8 77 :: rest) := by
  obtain ⟨_, ⟨_, h0⟩ | ⟨g, cap, cur, rfl, hb, hg, hn, _, hc, ht⟩⟩ := h
  · omega
  · refine ⟨g, cap, cur.toList.drop ((m + 1) * 1), rfl, hn, hb, ?_⟩
    have e : byt ws ++ .int .u8 77 :: cur.toList.drop ((m + 1) * 1) = cur.toList := by
      rw [show byt ws ++ .int .u8 77 :: cur.toList.drop ((m + 1) * 1) = (byt ws ++ [.int .u8 77]) ++ cur.toList.drop ((m + 1) * 1) by simp, ← ht, List.take_append_drop]
    rw [e]
    exact hg
theorem br_of {V : World} {g n : Nat} {ws : List UInt8} {rest : List Value} (hm : ws.length = n) (h : Row V g 5 (byt ws ++ .int .u8 77 :: rest)) : BR V g n := by
  subst hm
  refine ⟨_, h, fun j hj => ⟨(ws[j].toNat : Int), ?_⟩, ?_⟩
  · rw [List.getElem?_append_left (by rw [byt_len]; exact hj), byt_get hj]
  · rw [List.getElem?_append_right (by rw [byt_len]; exact Nat.le_refl _), byt_len, Nat.sub_self]
    rfl
theorem BR.cell {V : World} {g n j : Nat} (h : BR V g n) (hj : j < n) : ∃ z : Int, V.cell? ⟨g, j, none⟩ = some (.int .u8 z) ∧ V.frozen? ⟨g, j, none⟩ = false := by
  obtain ⟨cs, h1, h2, _⟩ := h
  obtain ⟨z, hz⟩ := h2 j hj
  exact ⟨z, (h1.cell j).trans hz, h1.frozen j⟩
theorem BR.c77 {V : World} {g n : Nat} (h : BR V g n) : V.cell? ⟨g, n, none⟩ = some (.int .u8 77) := by
  obtain ⟨cs, h1, _, h3⟩ := h
  exact (h1.cell n).trans h3
theorem PB.x2lt {Has : HasT} {w V : World} {g0 gw n p : Nat} {v : Value} {l : List UInt8} (h : PB Has w g0 gw n v l p V) : ∀ k, X2 g0 gw k → k < V.heap.size := fun _ hk => hk.elim (fun e => e ▸ h.row.lt) (fun e => e ▸ h.box.lt)
/-- behind act: the document's answer in a block of its own, not yet laid over what there was -/
structure TB (Has : HasT) (w : World) (g gw n : Nat) (v : Value) (l : List UInt8) (p q bo : Nat) (V : World) : Prop where
  qs : QS Has w (X2 g gw) v l q V
  row : BR V g n
  ge : w.heap.size ≤ g ∧ w.heap.size ≤ gw
  box : Row V gw 28 (fc l p)
  new : Row V bo 28 (fc l q)
  ne : bo ≠ gw
theorem row_sees {w : World} {g : Nat} {ws : List UInt8} {rest : List Value} (h : Row w g 5 (byt ws ++ rest)) : Sees w w.heap.size (some ⟨g, 0, none⟩) (byt ws) := fun _ => ⟨_, rfl, h.lt, fun j u hu => by
  rw [add_plain, Nat.zero_add, h.cell, List.getElem?_append_left (List.getElem?_eq_some_iff.1 hu).1]
  exact hu⟩
set_option maxRecDepth 100000 in
set_option maxHeartbeats 8000000 in
theorem plays_odd {Has : HasT} (H : Api Has) (HNN : ∀ (z : Bool) (w : World), Calls Try.prog 10 #[.bool z] w fun e w' => e = .returned (.bool true) ∧ Below w.heap.size w w') (bs : List UInt8) (A : Option Addr) (n ca : Nat) (acts : List Ac) (B : Option Addr) (m cb : Nat) (w : World) (hA : Sees w w.heap.size A (byt bs)) (hn : bs.length = n) (hn2 : n ≤ 200) (hB : Acs w acts B) (hm : acts.length = m) (hm6 : m ≤ 60) (hodd : m % 2 = 1) :
    Calls Try.prog 3 #[.slice A n ca, .slice B m cb] w fun e w' => e = .returned (.bool true) ∧ Below w.heap.size w w' := by
  have HW := Lib.hid (fun W => works_any H W)
  have HNO := Lib.hid (HNN true)
  have d1 : decide ((200 : Int) < (n : Int)) = false := decide_eq_false (by omega)
  have d2 : decide ((60 : Int) < (m : Int)) = false := decide_eq_false (by omega)
  have g1 : (((m : Int) % 2) == 1) = true := by rw [beq_iff_eq]; omega
  have g2 : (((m : Int).tmod 2) == 1) = true := by rw [Int.tmod_eq_emod_of_nonneg (by omega)]; exact g1
  have HAC := Lib.hid (fun i (hi : i < acts.length) => hB.at_ i hi)
  have HF := Lib.hid (fun i (hi : i < acts.length) => hB.fits _ (List.getElem_mem hi))
  have HM := Lib.hid hm
  have HAS := Lib.hid (fun V (hb : Below w.heap.size w V) => (hA.below hb).more hb.size)
  have HBY := Lib.hid (show (byt bs).length = n * 1 by rw [byt_len, hn, Nat.mul_one])
  have HBO := Lib.hid (byt_one (l := bs))
  have H77 := Lib.hid (fun w w7 v h => app77 (w := w) (w7 := w7) (v := v) hn h)
  have HNEW : Hid (∀ V g c rest, Row V g 5 (byt bs ++ rest) → Calls Try.prog 7 #[.slice (some ⟨g, 0, none⟩) n c] V fun e V' => ∃ ad F, e = .returned (.pointer (some ad)) ∧ Has V' (.pointer (some ad)) bs 0 F ∧ (∀ k, F k → V.heap.size ≤ k) ∧ Below V.heap.size V V') := Lib.hid (fun V g c rest hr => (H.new V (some ⟨g, 0, none⟩) n c bs (row_sees hr) hn (by omega)).mono fun e V' ⟨v, F, e1, e2, e3, e4⟩ => by
    obtain ⟨ad, rfl⟩ := H.ptr e2
    exact ⟨ad, F, e1, e2, e3, e4⟩)
  have HCV : Hid (∀ W, Below w.heap.size w W → (convert 22 9 (.slice A n ca)).run Try.prog W = .ok (.string (str bs)) W) := Lib.hid (fun W hb => run_conv_sees W Try.underlying22 Try.underlying5 Try.underlying9 hn ((hA.below hb).more hb.size))
  have hown := nil_row w
  have hr := Lib.hid (show Sees (w.alloc (.cells #[] 5)) (w.heap.size + 1) A (byt bs) from (hA.below (below1 w (.cells #[] 5))).more (by omega))
  have j0 : (0 : Int) ≤ (n : Int) := by omega
  have ew : IntKind.i64.wrap ((n : Int) + 1) = ((n + 1 : Nat) : Int) := by rw [wrapI _ (by omega) (by omega)]; omega
  obtain ⟨n1, hn1⟩ : ∃ n1, n1 = n + 1 := ⟨_, rfl⟩
  rw [← hn1] at ew
  have j2 : (0 : Int) ≤ (n1 : Int) := by omega
  have j3 : (n : Int) < (n1 : Int) := by omega
  have HN1 := Lib.hid hn1
  obtain ⟨xs, hxs⟩ : ∃ xs, xs = byt bs := ⟨_, rfl⟩
  have HXS := Lib.hid hxs
  rw [← hxs] at hr HBY HBO
  obtain ⟨i0, hi1, hz0, hz1, hz2⟩ := info_parts u8_info
  clear hA hB hm hn1 hxs hodd
  go_enter Try.func3, Try.ntmps3
  go_wp2_with (first
    | (at_builtin; refine wpList_append_sees rfl (.tmp 22) (.tmp 23) 22 rfl w.heap.size 5 i0 _ 1 1 Try.underlying22 hi1 hz0 hz1 hz2 rfl (by decide) _ 0 [] rfl hown (w.heap.size + 1) A n ca xs rfl HBY.out hr.out HBO.out (by unfold maxLen; omega) (by omega) (by simp) ?_; intro v6 w6 h1 h2 h3; rw [Nat.zero_add, List.nil_append] at h1; obtain ⟨A6, c6, rfl⟩ := own_slice h1; have hb6 := Lib.hid (show Below w.heap.size w w6 from (below1 w _).grown h2 (by simp) (fun k hk => (hown.lt k hk).1)); have hown6 := h1.alloc (.cells #[.int .u8 77] 5); have hs6 := hb6.out.size; have hlt6 := Lib.hid (fun k hk => (h1.lt k hk).1); clear h1 h2 h3)
    | (at_builtin; refine wpList_append_sees rfl (.tmp 24) (.tmp 25) 22 rfl w.heap.size 5 i0 _ 1 1 Try.underlying22 hi1 hz0 hz1 hz2 rfl (by decide) _ n xs rfl hown6 (w6.heap.size + 1) (some ⟨w6.heap.size, 0, none⟩) 1 1 [.int .u8 77] rfl rfl (fun _ => ⟨_, rfl, by simp, cell_one_at _ _ _⟩) (by simp [Value.oneCell']) (by unfold maxLen; omega) (by omega) (by rw [World.size_alloc]; omega) ?_; intro v7 w7 a1 a2 _; rw [HXS.out] at a1; obtain ⟨g, cap, rest, rfl, hcap, hge, hrow⟩ := H77.out _ _ _ a1; have hb7 := Lib.hid (show Below w.heap.size w w7 from (hb6.out.alloc hb6.out.size _).grown a2 (by rw [World.size_alloc]; omega) (fun k hk => hlt6.out k hk)); have HROW := Lib.hid hrow; have HGE := Lib.hid hge; have HNW := Lib.hid (HNEW.out w7 g cap (.int .u8 77 :: rest) hrow); rw [← HN1.out] at hcap; have q1 : (n : Int) ≤ (cap : Int) := (by omega); have q2 : (n1 : Int) ≤ (cap : Int) := (by omega); have q3 : decide (n ≤ cap) = true := decide_eq_true (by omega); clear a1 a2 hrow hge))
  refine HNW.out.mono ?_
  rintro e w8 ⟨ad, F, rfl, b1, b2, b3⟩
  have P8 := Lib.hid (show PS Has w g n (.pointer (some ad)) bs 0 w8 from ⟨⟨F, b1, fun k hk => ⟨Nat.le_trans hb7.out.size (b2 k hk), by have := b2 k hk; have := HROW.out.lt; omega⟩⟩, br_of hn (HROW.out.below b3), HGE.out, below0 hb7.out b3⟩)
  clear b1 b2 b3 hown hown6 hs6 hr HNW HNEW hlt6 hb6 HROW
  go_wp2_with fail
  go_loopw [7] (fun s7 wr => ∃ i : Nat, i ≤ n ∧ s7 = .int .i64 (i : Int) ∧ PS Has w g n (.pointer (some ad)) bs 0 wr) (fun s7 _ => n - (_root_.Go.RowKit.intOf s7).toNat)
  case atStart => exact ⟨0, Nat.zero_le _, rfl, P8.out⟩
  case round =>
    obtain ⟨i, hi, rfl, P⟩ := hrel
    by_cases hlt : i < n
    · obtain ⟨z, hcz, hfz⟩ := P.row.cell hlt
      have i0 : (0 : Int) ≤ (i : Int) := by omega
      have i1 : (i : Int) < (n : Int) := by omega
      have i2 : decide ((i : Int) < (n : Int)) = true := decide_eq_true i1
      have i3 : decide (i < n) = true := decide_eq_true hlt
      obtain ⟨y, hy⟩ : ∃ y, y = IntKind.u8.wrap (z + 1) := ⟨_, rfl⟩
      have hyy : IntKind.u8.wrap (z + 1) = y := hy.symm
      have HP := Lib.hid (PS.set H P hlt y)
      clear P hy
      go_wp2_with fail
      go_roundw
      case rel => exact ⟨i + 1, by omega, by go_num, HP.out⟩
      case measure => simp [_root_.Go.RowKit.intOf]; omega
    · obtain rfl : n = i := by omega
      have i2 : decide ((n : Int) < (n : Int)) = false := decide_eq_false (by omega)
      obtain ⟨w9, hw9⟩ : ∃ x : World, x = wr := ⟨_, rfl⟩
      subst hw9
      have hcv := HCV.out w9 P.below
      have P9 := Lib.hid (PS.lay H P)
      obtain ⟨wb, hwb⟩ : ∃ wb, wb = w9.alloc (.cells #[.string (str bs), .int .i64 0] 28) := ⟨_, rfl⟩
      have P9 : Hid (PB Has w g w9.heap.size n (.pointer (some ad)) bs 0 wb) := Lib.hid (by rw [hwb]; exact P9.out)
      obtain ⟨gw, hgw⟩ : ∃ gw, gw = w9.heap.size := ⟨_, rfl⟩
      rw [← hgw] at P9
      obtain ⟨SB, hSB⟩ : ∃ SB, SB = str bs := ⟨_, rfl⟩
      have HSB := Lib.hid hSB
      rw [← hSB] at hcv hwb
      clear P hSB HCV
      go_wp2_with fail
      rw [← hgw, ← hwb]
      clear hwb hcv hgw
      go_loopw [6, 9] (fun s6 s9 wr => ∃ (i p : Nat) (v : Value), i ≤ m ∧ v = s6 ∧ s9 = .int .i64 (i : Int) ∧ PB Has w g gw n v bs p wr) (fun _ s9 _ => m - (_root_.Go.RowKit.intOf s9).toNat)
      case atStart => exact ⟨0, 0, _, Nat.zero_le _, rfl, rfl, P9.out⟩
      case round =>
        obtain ⟨i, p, v, hi2, rfl, rfl, P⟩ := hrel
        by_cases hlt2 : i < m
        · have hil : i < acts.length := by rw [HM.out]; exact hlt2
          obtain ⟨ad2, rfl, _, HA2⟩ := HAC.out i hil
          have hfit := HF.out i hil
          obtain ⟨ac, hac⟩ : ∃ ac, ac = acts[i] := ⟨_, rfl⟩
          rw [← hac] at HA2 hfit
          obtain ⟨what, nn⟩ := ac
          have k0 : (0 : Int) ≤ (i : Int) := by omega
          have k1 : (i : Int) < (m : Int) := by omega
          have k2 : decide ((i : Int) < (m : Int)) = true := decide_eq_true k1
          have k3 : decide (i < m) = true := decide_eq_true hlt2
          have a0 := HA2 wr P.qs.below
          have HS0 : Hid (∀ V, Below w.heap.size w V → Row V gw 28 (fc bs p) → (fun W : World => W.cell? ⟨gw, 0, none⟩ = some (.string SB) ∧ W.cell? ⟨gw, 1, none⟩ = some (.int .i64 (p : Int)) ∧ W.cell? (ad2.add (i * 2)) = some (.int .i64 what) ∧ W.cell? ⟨(ad2.add (i * 2)).block, (ad2.add (i * 2)).off + 1, none⟩ = some (.int .i64 nn)) V) := Lib.hid (fun V hb hr => ⟨by have := hr.cell 0; rw [HSB.out]; exact this, hr.cell 1, (HA2 V hb).c0, (HA2 V hb).c1⟩)
          have HP0 := Lib.hid P
          have HPq := Lib.hid (PB.more H P (show Below wr.heap.size wr wr.drew from (Below.refl _ _).drew))
          obtain ⟨q, hq⟩ : ∃ q, q = actP bs p what nn := ⟨_, rfl⟩
          have HACT : Hid (∀ (X : Nat → Prop) (V : World), QS Has w X v bs p V → (∀ k, X k → k < V.heap.size) → Calls Try.prog 8 #[v, .agg #[.string SB, .int .i64 (p : Int)], .agg #[.int .i64 what, .int .i64 nn]] V fun e V' =>
            ∃ v', e = .returned (.tuple #[v', .agg #[.string SB, .int .i64 (q : Int)], .bool true]) ∧ QS Has w X v' bs q V' ∧ (∀ k, X k → V'.heap[k]? = V.heap[k]?) ∧ V.heap.size ≤ V'.heap.size) := Lib.hid (fun X V h hX => by
            have := QS.act H h hX ⟨what, nn⟩ hfit
            rw [HSB.out, hq]
            exact this)
          have hS0 := HS0.out wr.drew (P.qs.below.drew) P.box
          have d0 := hS0.1
          have d1 := hS0.2.1
          have d2 := hS0.2.2.1
          have d3 := hS0.2.2.2
          have HSD := Lib.hid hS0
          clear hS0 a0 hac P hfit hq
          go_wp2_with fail
          refine wp_region_noPanic ?_
          refine (fun (HREST : ∀ (bo : Nat) (v1 : Value) (W : World), Hid (TB Has w g gw n v1 bs p q bo W) → (?G : Nat → Value → World → Prop) bo v1 W) => ?main) ?rest
          case main =>
            refine wp_region_held_drew (S := fun W => W.cell? ⟨gw, 0, none⟩ = some (.string SB) ∧ W.cell? ⟨gw, 1, none⟩ = some (.int .i64 (p : Int)) ∧ W.cell? (ad2.add (i * 2)) = some (.int .i64 what) ∧ W.cell? ⟨(ad2.add (i * 2)).block, (ad2.add (i * 2)).off + 1, none⟩ = some (.int .i64 nn)) (by kernel_rfl) HSD.out (fun hHeld => ?_)
            refine wpAnyH_take (i := 0) (v := ?_) rfl (by kernel_rfl) (by kernel_rfl) (by kernel_rfl) (fun _ _ _ h => h) (Or.inl ⟨by kernel_rfl, ?_⟩) hHeld ?_
            rotate_left
            focus (intro w hSw; (try dsimp only at hSw); go_simp; try with_reducible rfl)
            try simp only [Act.put]
            refine wpAnyH_take (i := 1) (v := ?_) rfl (by kernel_rfl) (by kernel_rfl) (by kernel_rfl) (fun _ _ _ h => h) (Or.inl ⟨by kernel_rfl, ?_⟩) hHeld ?_
            rotate_left
            focus (intro w hSw; (try dsimp only at hSw); go_simp; try with_reducible rfl)
            try simp only [Act.put]
            refine wpAnyH_take (i := 2) (v := ?_) rfl (by kernel_rfl) (by kernel_rfl) (by kernel_rfl) (fun _ _ _ h => h) (Or.inl ⟨by kernel_rfl, ?_⟩) hHeld ?_
            rotate_left
            focus (intro w hSw; (try dsimp only at hSw); go_simp; try with_reducible rfl)
            try simp only [Act.put]
            refine wpAnyH_take (i := 3) (v := ?_) rfl (by kernel_rfl) (by kernel_rfl) (by kernel_rfl) (fun _ _ _ h => h) (Or.inl ⟨by kernel_rfl, ?_⟩) hHeld ?_
            rotate_left
            focus (intro w hSw; (try dsimp only at hSw); go_simp; try with_reducible rfl)
            try simp only [Act.put]
            refine wpAnyH_take (i := 4) (v := ?_) rfl (by kernel_rfl) (by kernel_rfl) (by kernel_rfl) (fun _ _ _ h => h) (Or.inl ⟨by kernel_rfl, ?_⟩) hHeld ?_
            rotate_left
            focus (intro w hSw; (try dsimp only at hSw); go_simp; try with_reducible rfl)
            try simp only [Act.put]
            refine wpAnyH_take (i := 5) (v := ?_) rfl (by kernel_rfl) (by kernel_rfl) (by kernel_rfl) (fun _ _ _ h => h) (Or.inl ⟨by kernel_rfl, ?_⟩) hHeld ?_
            rotate_left
            focus (intro w hSw; (try dsimp only at hSw); go_simp; try with_reducible rfl)
            try simp only [Act.put]
            refine wpAnyH_ready (rs := [6, 11]) (by kernel_rfl) (by simp) ?_
            refine AllReadyH.cons rfl (fun K hK => ?_) (AllReadyH.cons rfl (fun K hK => ?_) (AllReadyH.nil))
            · go_simp
              refine (HACT.out (X2 g gw) _ (HPq.out.qs) HPq.out.x2lt).mono ?_
              rintro e V1 ⟨v1, rfl, n1, n2, n3⟩
              have r1 : Row V1 gw 28 (fc bs p) := HPq.out.box.same (n2 _ (.inr rfl))
              have r2 := HPq.out.row.same (n2 _ (.inl rfl))
              have HS1 := Lib.hid (HS0.out V1 n1.below r1)
              refine hK.out _ _ HS1.out (fun hHeld => ?_)
              clear hK K
              try simp only [Act.put]
              refine wpAnyH_take (i := 7) (v := ?_) rfl (by kernel_rfl) (by kernel_rfl) (by kernel_rfl) (fun _ _ _ h => h) (Or.inl ⟨by kernel_rfl, ?_⟩) hHeld ?_
              rotate_left
              focus (intro w hSw; (try dsimp only at hSw); go_simp; try with_reducible rfl)
              try simp only [Act.put]
              refine wpAnyH_take (i := 8) (v := ?_) rfl (by kernel_rfl) (by kernel_rfl) (by kernel_rfl) (fun _ _ _ h => h) (Or.inl ⟨by kernel_rfl, ?_⟩) hHeld ?_
              rotate_left
              focus (intro w hSw; (try dsimp only at hSw); go_simp; try with_reducible rfl)
              try simp only [Act.put]
              refine wpAnyH_take (i := 9) (v := ?_) rfl (by kernel_rfl) (by kernel_rfl) (by kernel_rfl) (fun _ _ _ h => h) (Or.inl ⟨by kernel_rfl, ?_⟩) hHeld ?_
              rotate_left
              focus (intro w hSw; (try dsimp only at hSw); go_simp; try with_reducible rfl)
              try simp only [Act.put]
              refine wpAnyH_take (i := 10) (v := ?_) rfl (by kernel_rfl) (by kernel_rfl) (by kernel_rfl) (fun _ _ _ h => h) (Or.inl ⟨by kernel_rfl, ?_⟩) hHeld ?_
              rotate_left
              focus (intro w hSw; (try dsimp only at hSw); go_simp; try with_reducible rfl)
              try simp only [Act.put]
              refine wpAnyH_ready (rs := [11]) (by kernel_rfl) (by simp) ?_
              refine AllReadyH.cons rfl (fun K hK => ?_) (AllReadyH.nil)
              go_simp
              have hb2 := below1 V1 (.cells #[.string ⟨#[]⟩, .int .i64 0] 28)
              have HS2 := Lib.hid (HS0.out _ (below0 n1.below hb2) (r1.below hb2))
              refine hK.out _ _ HS2.out (fun hHeld => ?_)
              clear hK K
              try simp only [Act.put]
              refine wpAnyH_ready (rs := [12]) (by kernel_rfl) (by simp) ?_
              refine AllReadyH.cons rfl (fun K hK => ?_) (AllReadyH.nil)
              go_simp
              refine hK.out _ _ HS2.out (fun hHeld => ?_)
              clear hK K
              try simp only [Act.put]
              refine wpAnyH_ready (rs := [13]) (by kernel_rfl) (by simp) ?_
              refine AllReadyH.cons rfl (fun K hK => ?_) (AllReadyH.nil)
              go_simp
              have hb3 := below1 V1 (.cells #[.string SB, .int .i64 (q : Int)] 28)
              have HS3 := Lib.hid (HS0.out _ (below0 n1.below hb3) (r1.below hb3))
              have HTB := Lib.hid (show TB Has w g gw n v1 bs p q V1.heap.size (V1.alloc (.cells #[.string SB, .int .i64 (q : Int)] 28)) from ⟨QS.more H n1 hb3, r2.same (hb3.block _ r2.lt), HPq.out.ge, r1.below hb3, by have := Row.new V1 28 (fc bs q); rw [HSB.out]; exact this, fun e => by have := r1.lt; omega⟩)
              refine hK.out _ _ HS3.out (fun hHeld => ?_)
              clear hK K
              try simp only [Act.put]
              refine wpAnyH_ready (rs := [14]) (by kernel_rfl) (by simp) ?_
              refine AllReadyH.cons rfl (fun K hK => ?_) (AllReadyH.nil)
              go_simp
              refine hK.out _ _ HS3.out (fun hHeld => ?_)
              clear hK K
              try simp only [Act.put]
              refine wpAnyH_done (by kernel_rfl) ?_ _
              refine NoPanic.normal ?_
              obtain ⟨bo, hbo⟩ : ∃ bo, bo = V1.heap.size := ⟨_, rfl⟩
              obtain ⟨WZ, hWZ⟩ : ∃ WZ, WZ = V1.alloc (.cells #[.string SB, .int .i64 (q : Int)] 28) := ⟨_, rfl⟩
              rw [← hbo, ← hWZ] at HTB
              rw [← hbo, ← hWZ]
              exact HREST bo v1 WZ HTB

            · go_simp
              have hb2 : Below wr.heap.size wr (wr.alloc (.cells #[.string ⟨#[]⟩, .int .i64 0] 28)).drew := (below1 wr (.cells #[.string ⟨#[]⟩, .int .i64 0] 28)).drew
              have HPb := Lib.hid (PB.more H HP0.out hb2)
              have hnw : Row (wr.alloc (.cells #[.string ⟨#[]⟩, .int .i64 0] 28)).drew wr.heap.size 28 [.string ⟨#[]⟩, .int .i64 0] := (Row.new wr 28 [.string ⟨#[]⟩, .int .i64 0])
              have hq3 := QS.new H HP0.out.qs hb2
              have HS2 := Lib.hid (HS0.out _ HPb.out.qs.below HPb.out.box)
              refine hK.out _ _ HS2.out (fun hHeld => ?_)
              clear hK K
              try simp only [Act.put]
              refine wpAnyH_ready (rs := [6]) (by kernel_rfl) (by simp) ?_
              refine AllReadyH.cons rfl (fun K hK => ?_) (AllReadyH.nil)
              go_simp
              obtain ⟨V0, hV0⟩ : ∃ V0, V0 = (wr.alloc (.cells #[.string ⟨#[]⟩, .int .i64 0] 28)).drew := ⟨_, rfl⟩
              obtain ⟨bo, hbo⟩ : ∃ bo, bo = wr.heap.size := ⟨_, rfl⟩
              have hbg : gw < bo := by rw [hbo]; exact HP0.out.box.lt
              have hbr : g < bo := by rw [hbo]; exact HP0.out.row.lt
              have hbw : w.heap.size ≤ bo := by rw [hbo]; exact HP0.out.qs.below.size
              have hge := HP0.out.ge
              rw [← hbo, ← hV0] at hnw hq3
              rw [← hV0] at HPb
              rw [← hV0]
              try rw [← hbo]
              clear hbo hV0 HP0 HPq hb2
              refine (HACT.out (X3 g gw bo) V0 hq3 (fun k hk => hk.elim (fun e => e ▸ HPb.out.row.lt) (fun hk => hk.elim (fun e => e ▸ HPb.out.box.lt) (fun e => e ▸ hnw.lt)))).mono ?_
              rintro e V1 ⟨v1, rfl, n1, n2, n3⟩
              have r1 : Row V1 gw 28 (fc bs p) := HPb.out.box.same (n2 _ (.inr (.inl rfl)))
              have r2 := HPb.out.row.same (n2 _ (.inl rfl))
              have r3 := hnw.same (n2 _ (.inr (.inr rfl)))
              have HS1 := Lib.hid (HS0.out V1 n1.below r1)
              refine hK.out _ _ HS1.out (fun hHeld => ?_)
              clear hK K
              try simp only [Act.put]
              refine wpAnyH_take (i := 7) (v := ?_) rfl (by kernel_rfl) (by kernel_rfl) (by kernel_rfl) (fun _ _ _ h => h) (Or.inl ⟨by kernel_rfl, ?_⟩) hHeld ?_
              rotate_left
              focus (intro w hSw; (try dsimp only at hSw); go_simp; try with_reducible rfl)
              try simp only [Act.put]
              refine wpAnyH_take (i := 8) (v := ?_) rfl (by kernel_rfl) (by kernel_rfl) (by kernel_rfl) (fun _ _ _ h => h) (Or.inl ⟨by kernel_rfl, ?_⟩) hHeld ?_
              rotate_left
              focus (intro w hSw; (try dsimp only at hSw); go_simp; try with_reducible rfl)
              try simp only [Act.put]
              refine wpAnyH_take (i := 9) (v := ?_) rfl (by kernel_rfl) (by kernel_rfl) (by kernel_rfl) (fun _ _ _ h => h) (Or.inl ⟨by kernel_rfl, ?_⟩) hHeld ?_
              rotate_left
              focus (intro w hSw; (try dsimp only at hSw); go_simp; try with_reducible rfl)
              try simp only [Act.put]
              refine wpAnyH_take (i := 10) (v := ?_) rfl (by kernel_rfl) (by kernel_rfl) (by kernel_rfl) (fun _ _ _ h => h) (Or.inl ⟨by kernel_rfl, ?_⟩) hHeld ?_
              rotate_left
              focus (intro w hSw; (try dsimp only at hSw); go_simp; try with_reducible rfl)
              try simp only [Act.put]
              refine wpAnyH_ready (rs := [12]) (by kernel_rfl) (by simp) ?_
              refine AllReadyH.cons rfl (fun K hK => ?_) (AllReadyH.nil)
              go_simp
              refine hK.out _ _ HS1.out (fun hHeld => ?_)
              clear hK K
              try simp only [Act.put]
              have f0 := r3.frozen 0
              have f1 := r3.frozen 1
              have c0 := r3.cell 0
              have c1 := r3.cell 1
              simp only [List.getElem?_cons_zero, List.getElem?_cons_succ] at c0 c1
              refine wpAnyH_ready (rs := [13]) (by kernel_rfl) (by simp) ?_
              refine AllReadyH.cons rfl (fun K hK => ?_) (AllReadyH.nil)
              go_simp
              have hx : ∀ k, k ≠ bo → ((V1.setCell ⟨bo, 0, none⟩ (.string SB)).setCell ⟨bo, 1, none⟩ (.int .i64 (q : Int))).heap[k]? = V1.heap[k]? := fun k hk => (heap_set hk).trans (heap_set hk)
              have HTB := Lib.hid (show TB Has w g gw n v1 bs p q bo ((V1.setCell ⟨bo, 0, none⟩ (.string SB)).setCell ⟨bo, 1, none⟩ (.int .i64 (q : Int))) from ⟨QS.weak (QS.set H (QS.set H n1 (.inr (.inr rfl)) hbw _) (.inr (.inr rfl)) hbw _) (fun k hk => hk.elim .inl (fun e => .inr (.inl e))), r2.same (hx _ (by omega)), hge, r1.same (hx _ (by omega)), by have := (r3.set 0 (.string SB)).set 1 (.int .i64 (q : Int)); rw [HSB.out] at this ⊢; exact this, by omega⟩)
              have HS3 := Lib.hid (HS0.out _ HTB.out.qs.below HTB.out.box)
              refine hK.out _ _ HS3.out (fun hHeld => ?_)
              clear hK K
              try simp only [Act.put]
              refine wpAnyH_ready (rs := [14]) (by kernel_rfl) (by simp) ?_
              refine AllReadyH.cons rfl (fun K hK => ?_) (AllReadyH.nil)
              go_simp
              refine hK.out _ _ HS3.out (fun hHeld => ?_)
              clear hK K
              try simp only [Act.put]
              refine wpAnyH_done (by kernel_rfl) ?_ _
              refine NoPanic.normal ?_
              obtain ⟨WZ, hWZ⟩ : ∃ WZ, WZ = (V1.setCell ⟨bo, 0, none⟩ (.string SB)).setCell ⟨bo, 1, none⟩ (.int .i64 (q : Int)) := ⟨_, rfl⟩
              rw [← hWZ] at HTB
              rw [← hWZ]
              exact HREST bo v1 WZ HTB
          case rest =>
            intro bo v1 W HTB
            clear HACT HSD HS0 HPq
            have HS4 : Hid (∀ V, Row V bo 28 (fc bs q) → (fun W : World => W.cell? ⟨bo, 0, none⟩ = some (.string SB) ∧ W.cell? ⟨bo, 1, none⟩ = some (.int .i64 (q : Int))) V) := Lib.hid (fun V hr => ⟨by have := hr.cell 0; rw [HSB.out]; exact this, hr.cell 1⟩)
            have hg0 := HTB.out.box.lt
            have f0 := HTB.out.box.frozen 0
            have f1 := HTB.out.box.frozen 1
            have c0 : W.cell? ⟨gw, 0, none⟩ = some (.string SB) := by have := HTB.out.box.cell 0; rw [HSB.out]; exact this
            have c1 : W.cell? ⟨gw, 1, none⟩ = some (.int .i64 (p : Int)) := HTB.out.box.cell 1
            have hne : bo ≠ gw := HTB.out.ne
            have HPB := Lib.hid (lay_box H HTB.out.qs HTB.out.row HTB.out.ge HTB.out.box)
            go_wp2_with fail
            refine wp_region_noPanic ?_
            refine wp_region_held_drew (S := fun W : World => W.cell? ⟨bo, 0, none⟩ = some (.string SB) ∧ W.cell? ⟨bo, 1, none⟩ = some (.int .i64 (q : Int))) (by kernel_rfl) (HS4.out _ HTB.out.new) (fun hHeld => ?_)
            refine wpAnyH_take (i := 0) (v := ?_) rfl (by kernel_rfl) (by kernel_rfl) (by kernel_rfl) (fun _ _ _ h => h) (Or.inl ⟨by kernel_rfl, ?_⟩) hHeld ?_
            rotate_left
            focus (intro w hSw; (try dsimp only at hSw); go_simp; try with_reducible rfl)
            try simp only [Act.put]
            refine wpAnyH_take (i := 1) (v := ?_) rfl (by kernel_rfl) (by kernel_rfl) (by kernel_rfl) (fun _ _ _ h => h) (Or.inl ⟨by kernel_rfl, ?_⟩) hHeld ?_
            rotate_left
            focus (intro w hSw; (try dsimp only at hSw); go_simp; try with_reducible rfl)
            try simp only [Act.put]
            refine wpAnyH_take (i := 2) (v := ?_) rfl (by kernel_rfl) (by kernel_rfl) (by kernel_rfl) (fun _ _ _ h => h) (Or.inl ⟨by kernel_rfl, ?_⟩) hHeld ?_
            rotate_left
            focus (intro w hSw; (try dsimp only at hSw); go_simp; try with_reducible rfl)
            try simp only [Act.put]
            refine wpAnyH_ready (rs := [3]) (by kernel_rfl) (by simp) ?_
            refine AllReadyH.cons rfl (fun K hK => ?_) (AllReadyH.nil)
            go_simp
            refine hK.out _ _ (HS4.out _ (HTB.out.new.same ((heap_set hne).trans (heap_set hne)))) (fun hHeld => ?_)
            clear hK K
            refine wpAnyH_done (by kernel_rfl) ?_ _
            refine NoPanic.normal ?_
            obtain ⟨W5, hW5⟩ : ∃ W5, W5 = (W.setCell ⟨gw, 0, none⟩ (.string SB)).setCell ⟨gw, 1, none⟩ (.int .i64 (q : Int)) := ⟨_, rfl⟩
            have HPE : Hid (PB Has w g gw n v1 bs q W5) := Lib.hid (by have := HPB.out; rw [← HSB.out, ← hW5] at this; exact this)
            rw [← hW5]
            clear hW5 HPB HS4 HTB hHeld c0 c1 f0 f1 hg0 hne
            have HPE := Lib.hid (PB.more H HPE.out (show Below W5.heap.size W5 W5.drew from (Below.refl _ _).drew))
            obtain ⟨W6, hW6⟩ : ∃ W6, W6 = W5.drew := ⟨_, rfl⟩
            rw [← hW6] at HPE
            rw [← hW6]
            clear hW6
            have c0 : W6.cell? ⟨gw, 0, none⟩ = some (.string SB) := by have := HPE.out.box.cell 0; rw [HSB.out]; exact this
            have c1 : W6.cell? ⟨gw, 1, none⟩ = some (.int .i64 (q : Int)) := HPE.out.box.cell 1
            have HISS : Hid (Calls Try.prog 9 #[v1, .agg #[.string SB, .int .i64 (q : Int)]] W6 fun e w' => e = .returned (.bool true) ∧ Below W6.heap.size W6 w') := Lib.hid (by
              obtain ⟨F, h1, _⟩ := HPE.out.qs.ex
              have := is_any H v1 bs q F W6 h1
              rw [HSB.out]
              exact this)
            go_wp2_with fail
            refine HISS.out.mono ?_
            rintro e W7 ⟨rfl, hb7⟩
            have HPF := Lib.hid (PB.more H HPE.out hb7)
            clear hb7 HISS HPE c0 c1
            go_wp2_with fail
            go_roundw
            case rel => exact ⟨i + 1, q, v1, by omega, rfl, by go_num, HPF.out⟩
            case measure => simp [_root_.Go.RowKit.intOf]; omega
        · obtain rfl : m = i := by omega
          have k2 : decide ((m : Int) < (m : Int)) = false := decide_eq_false (by omega)
          have HPq := Lib.hid P
          obtain ⟨w10, hw10⟩ : ∃ x : World, x = wr := ⟨_, rfl⟩
          subst hw10
          clear P
          have hno := HNO.out w10
          go_wp2_with fail
          refine hno.mono ?_
          rintro e W1 ⟨rfl, hb1⟩
          have HPq := Lib.hid (PB.more H HPq.out hb1)
          clear hb1 hno
          have hn1 : Hid (Calls Try.prog 11 #[v, .pointer none] W1 fun e w' => e = .returned (.bool false) ∧ Below W1.heap.size W1 w') := Lib.hid (by
            obtain ⟨F, h1, _⟩ := HPq.out.qs.ex
            exact H.sameN h1)
          go_wp2_with fail
          refine hn1.out.mono ?_
          rintro e W2 ⟨rfl, hb1⟩
          have HPq := Lib.hid (PB.more H HPq.out hb1)
          clear hb1 hn1
          have hn2 : Hid (Calls Try.prog 11 #[.pointer none, v] W2 fun e w' => e = .returned (.bool false) ∧ Below W2.heap.size W2 w') := Lib.hid (by
            obtain ⟨F, h1, _⟩ := HPq.out.qs.ex
            exact H.sameN' h1)
          go_wp2_with fail
          refine hn2.out.mono ?_
          rintro e W3 ⟨rfl, hb1⟩
          have HPq := Lib.hid (PB.more H HPq.out hb1)
          clear hb1 hn2
          have c77 := HPq.out.row.c77
          go_wp2_with fail
          refine (HW.out W3).mono ?_
          rintro e W4 ⟨rfl, hb1⟩
          have HPq := Lib.hid (PB.more H HPq.out hb1)
          clear hb1 c77
          go_wp2_with fail
          go_ret
          exact ⟨rfl, HPq.out.qs.below⟩
set_option maxRecDepth 100000 in
set_option maxHeartbeats 8000000 in
theorem plays_even {Has : HasT} (H : Api Has) (HNN : ∀ (z : Bool) (w : World), Calls Try.prog 10 #[.bool z] w fun e w' => e = .returned (.bool true) ∧ Below w.heap.size w w') (bs : List UInt8) (A : Option Addr) (n ca : Nat) (acts : List Ac) (B : Option Addr) (m cb : Nat) (w : World) (hA : Sees w w.heap.size A (byt bs)) (hn : bs.length = n) (hn2 : n ≤ 200) (hB : Acs w acts B) (hm : acts.length = m) (hm6 : m ≤ 60) (hodd : m % 2 = 0) :
    Calls Try.prog 3 #[.slice A n ca, .slice B m cb] w fun e w' => e = .returned (.bool true) ∧ Below w.heap.size w w' := by
  have HW := Lib.hid (fun W => works_any H W)
  have HNO := Lib.hid (HNN false)
  have d1 : decide ((200 : Int) < (n : Int)) = false := decide_eq_false (by omega)
  have d2 : decide ((60 : Int) < (m : Int)) = false := decide_eq_false (by omega)
  have g1 : (((m : Int) % 2) == 1) = false := by rw [beq_eq_false_iff_ne]; omega
  have g2 : (((m : Int).tmod 2) == 1) = false := by rw [Int.tmod_eq_emod_of_nonneg (by omega)]; exact g1
  have HAC := Lib.hid (fun i (hi : i < acts.length) => hB.at_ i hi)
  have HF := Lib.hid (fun i (hi : i < acts.length) => hB.fits _ (List.getElem_mem hi))
  have HM := Lib.hid hm
  have HAS := Lib.hid (fun V (hb : Below w.heap.size w V) => (hA.below hb).more hb.size)
  have HBY := Lib.hid (show (byt bs).length = n * 1 by rw [byt_len, hn, Nat.mul_one])
  have HBO := Lib.hid (byt_one (l := bs))
  have H77 := Lib.hid (fun w w7 v h => app77 (w := w) (w7 := w7) (v := v) hn h)
  have HNEW : Hid (∀ V g c rest, Row V g 5 (byt bs ++ rest) → Calls Try.prog 7 #[.slice (some ⟨g, 0, none⟩) n c] V fun e V' => ∃ ad F, e = .returned (.pointer (some ad)) ∧ Has V' (.pointer (some ad)) bs 0 F ∧ (∀ k, F k → V.heap.size ≤ k) ∧ Below V.heap.size V V') := Lib.hid (fun V g c rest hr => (H.new V (some ⟨g, 0, none⟩) n c bs (row_sees hr) hn (by omega)).mono fun e V' ⟨v, F, e1, e2, e3, e4⟩ => by
    obtain ⟨ad, rfl⟩ := H.ptr e2
    exact ⟨ad, F, e1, e2, e3, e4⟩)
  have HCV : Hid (∀ W, Below w.heap.size w W → (convert 22 9 (.slice A n ca)).run Try.prog W = .ok (.string (str bs)) W) := Lib.hid (fun W hb => run_conv_sees W Try.underlying22 Try.underlying5 Try.underlying9 hn ((hA.below hb).more hb.size))
  have hown := nil_row w
  have hr := Lib.hid (show Sees (w.alloc (.cells #[] 5)) (w.heap.size + 1) A (byt bs) from (hA.below (below1 w (.cells #[] 5))).more (by omega))
  have j0 : (0 : Int) ≤ (n : Int) := by omega
  have ew : IntKind.i64.wrap ((n : Int) + 1) = ((n + 1 : Nat) : Int) := by rw [wrapI _ (by omega) (by omega)]; omega
  obtain ⟨n1, hn1⟩ : ∃ n1, n1 = n + 1 := ⟨_, rfl⟩
  rw [← hn1] at ew
  have j2 : (0 : Int) ≤ (n1 : Int) := by omega
  have j3 : (n : Int) < (n1 : Int) := by omega
  have HN1 := Lib.hid hn1
  obtain ⟨xs, hxs⟩ : ∃ xs, xs = byt bs := ⟨_, rfl⟩
  have HXS := Lib.hid hxs
  rw [← hxs] at hr HBY HBO
  obtain ⟨i0, hi1, hz0, hz1, hz2⟩ := info_parts u8_info
  clear hA hB hm hn1 hxs hodd
  go_enter Try.func3, Try.ntmps3
  go_wp2_with (first
    | (at_builtin; refine wpList_append_sees rfl (.tmp 22) (.tmp 23) 22 rfl w.heap.size 5 i0 _ 1 1 Try.underlying22 hi1 hz0 hz1 hz2 rfl (by decide) _ 0 [] rfl hown (w.heap.size + 1) A n ca xs rfl HBY.out hr.out HBO.out (by unfold maxLen; omega) (by omega) (by simp) ?_; intro v6 w6 h1 h2 h3; rw [Nat.zero_add, List.nil_append] at h1; obtain ⟨A6, c6, rfl⟩ := own_slice h1; have hb6 := Lib.hid (show Below w.heap.size w w6 from (below1 w _).grown h2 (by simp) (fun k hk => (hown.lt k hk).1)); have hown6 := h1.alloc (.cells #[.int .u8 77] 5); have hs6 := hb6.out.size; have hlt6 := Lib.hid (fun k hk => (h1.lt k hk).1); clear h1 h2 h3)
    | (at_builtin; refine wpList_append_sees rfl (.tmp 24) (.tmp 25) 22 rfl w.heap.size 5 i0 _ 1 1 Try.underlying22 hi1 hz0 hz1 hz2 rfl (by decide) _ n xs rfl hown6 (w6.heap.size + 1) (some ⟨w6.heap.size, 0, none⟩) 1 1 [.int .u8 77] rfl rfl (fun _ => ⟨_, rfl, by simp, cell_one_at _ _ _⟩) (by simp [Value.oneCell']) (by unfold maxLen; omega) (by omega) (by rw [World.size_alloc]; omega) ?_; intro v7 w7 a1 a2 _; rw [HXS.out] at a1; obtain ⟨g, cap, rest, rfl, hcap, hge, hrow⟩ := H77.out _ _ _ a1; have hb7 := Lib.hid (show Below w.heap.size w w7 from (hb6.out.alloc hb6.out.size _).grown a2 (by rw [World.size_alloc]; omega) (fun k hk => hlt6.out k hk)); have HROW := Lib.hid hrow; have HGE := Lib.hid hge; have HNW := Lib.hid (HNEW.out w7 g cap (.int .u8 77 :: rest) hrow); rw [← HN1.out] at hcap; have q1 : (n : Int) ≤ (cap : Int) := (by omega); have q2 : (n1 : Int) ≤ (cap : Int) := (by omega); have q3 : decide (n ≤ cap) = true := decide_eq_true (by omega); clear a1 a2 hrow hge))
  refine HNW.out.mono ?_
  rintro e w8 ⟨ad, F, rfl, b1, b2, b3⟩
  have P8 := Lib.hid (show PS Has w g n (.pointer (some ad)) bs 0 w8 from ⟨⟨F, b1, fun k hk => ⟨Nat.le_trans hb7.out.size (b2 k hk), by have := b2 k hk; have := HROW.out.lt; omega⟩⟩, br_of hn (HROW.out.below b3), HGE.out, below0 hb7.out b3⟩)
  clear b1 b2 b3 hown hown6 hs6 hr HNW HNEW hlt6 hb6 HROW
  go_wp2_with fail
  go_loopw [7] (fun s7 wr => ∃ i : Nat, i ≤ n ∧ s7 = .int .i64 (i : Int) ∧ PS Has w g n (.pointer (some ad)) bs 0 wr) (fun s7 _ => n - (_root_.Go.RowKit.intOf s7).toNat)
  case atStart => exact ⟨0, Nat.zero_le _, rfl, P8.out⟩
  case round =>
    obtain ⟨i, hi, rfl, P⟩ := hrel
    by_cases hlt : i < n
    · obtain ⟨z, hcz, hfz⟩ := P.row.cell hlt
      have i0 : (0 : Int) ≤ (i : Int) := by omega
      have i1 : (i : Int) < (n : Int) := by omega
      have i2 : decide ((i : Int) < (n : Int)) = true := decide_eq_true i1
      have i3 : decide (i < n) = true := decide_eq_true hlt
      obtain ⟨y, hy⟩ : ∃ y, y = IntKind.u8.wrap (z + 1) := ⟨_, rfl⟩
      have hyy : IntKind.u8.wrap (z + 1) = y := hy.symm
      have HP := Lib.hid (PS.set H P hlt y)
      clear P hy
      go_wp2_with fail
      go_roundw
      case rel => exact ⟨i + 1, by omega, by go_num, HP.out⟩
      case measure => simp [_root_.Go.RowKit.intOf]; omega
    · obtain rfl : n = i := by omega
      have i2 : decide ((n : Int) < (n : Int)) = false := decide_eq_false (by omega)
      obtain ⟨w9, hw9⟩ : ∃ x : World, x = wr := ⟨_, rfl⟩
      subst hw9
      have hcv := HCV.out w9 P.below
      have P9 := Lib.hid (PS.lay H P)
      obtain ⟨wb, hwb⟩ : ∃ wb, wb = w9.alloc (.cells #[.string (str bs), .int .i64 0] 28) := ⟨_, rfl⟩
      have P9 : Hid (PB Has w g w9.heap.size n (.pointer (some ad)) bs 0 wb) := Lib.hid (by rw [hwb]; exact P9.out)
      obtain ⟨gw, hgw⟩ : ∃ gw, gw = w9.heap.size := ⟨_, rfl⟩
      rw [← hgw] at P9
      obtain ⟨SB, hSB⟩ : ∃ SB, SB = str bs := ⟨_, rfl⟩
      have HSB := Lib.hid hSB
      rw [← hSB] at hcv hwb
      clear P hSB HCV
      go_wp2_with fail
      rw [← hgw, ← hwb]
      clear hwb hcv hgw
      go_loopw [6, 9] (fun s6 s9 wr => ∃ (i p : Nat) (v : Value), i ≤ m ∧ v = s6 ∧ s9 = .int .i64 (i : Int) ∧ PB Has w g gw n v bs p wr) (fun _ s9 _ => m - (_root_.Go.RowKit.intOf s9).toNat)
      case atStart => exact ⟨0, 0, _, Nat.zero_le _, rfl, rfl, P9.out⟩
      case round =>
        obtain ⟨i, p, v, hi2, rfl, rfl, P⟩ := hrel
        by_cases hlt2 : i < m
        · have hil : i < acts.length := by rw [HM.out]; exact hlt2
          obtain ⟨ad2, rfl, _, HA2⟩ := HAC.out i hil
          have hfit := HF.out i hil
          obtain ⟨ac, hac⟩ : ∃ ac, ac = acts[i] := ⟨_, rfl⟩
          rw [← hac] at HA2 hfit
          obtain ⟨what, nn⟩ := ac
          have k0 : (0 : Int) ≤ (i : Int) := by omega
          have k1 : (i : Int) < (m : Int) := by omega
          have k2 : decide ((i : Int) < (m : Int)) = true := decide_eq_true k1
          have k3 : decide (i < m) = true := decide_eq_true hlt2
          have a0 := HA2 wr P.qs.below
          have HS0 : Hid (∀ V, Below w.heap.size w V → Row V gw 28 (fc bs p) → (fun W : World => W.cell? ⟨gw, 0, none⟩ = some (.string SB) ∧ W.cell? ⟨gw, 1, none⟩ = some (.int .i64 (p : Int)) ∧ W.cell? (ad2.add (i * 2)) = some (.int .i64 what) ∧ W.cell? ⟨(ad2.add (i * 2)).block, (ad2.add (i * 2)).off + 1, none⟩ = some (.int .i64 nn)) V) := Lib.hid (fun V hb hr => ⟨by have := hr.cell 0; rw [HSB.out]; exact this, hr.cell 1, (HA2 V hb).c0, (HA2 V hb).c1⟩)
          have HP0 := Lib.hid P
          have HPq := Lib.hid (PB.more H P (show Below wr.heap.size wr wr.drew from (Below.refl _ _).drew))
          obtain ⟨q, hq⟩ : ∃ q, q = actP bs p what nn := ⟨_, rfl⟩
          have HACT : Hid (∀ (X : Nat → Prop) (V : World), QS Has w X v bs p V → (∀ k, X k → k < V.heap.size) → Calls Try.prog 8 #[v, .agg #[.string SB, .int .i64 (p : Int)], .agg #[.int .i64 what, .int .i64 nn]] V fun e V' =>
            ∃ v', e = .returned (.tuple #[v', .agg #[.string SB, .int .i64 (q : Int)], .bool true]) ∧ QS Has w X v' bs q V' ∧ (∀ k, X k → V'.heap[k]? = V.heap[k]?) ∧ V.heap.size ≤ V'.heap.size) := Lib.hid (fun X V h hX => by
            have := QS.act H h hX ⟨what, nn⟩ hfit
            rw [HSB.out, hq]
            exact this)
          have hS0 := HS0.out wr.drew (P.qs.below.drew) P.box
          have d0 := hS0.1
          have d1 := hS0.2.1
          have d2 := hS0.2.2.1
          have d3 := hS0.2.2.2
          have HSD := Lib.hid hS0
          clear hS0 a0 hac P hfit hq
          go_wp2_with fail
          refine wp_region_noPanic ?_
          refine (fun (HREST : ∀ (bo : Nat) (v1 : Value) (W : World), Hid (TB Has w g gw n v1 bs p q bo W) → (?G : Nat → Value → World → Prop) bo v1 W) => ?main) ?rest
          case main =>
            refine wp_region_held_drew (S := fun W => W.cell? ⟨gw, 0, none⟩ = some (.string SB) ∧ W.cell? ⟨gw, 1, none⟩ = some (.int .i64 (p : Int)) ∧ W.cell? (ad2.add (i * 2)) = some (.int .i64 what) ∧ W.cell? ⟨(ad2.add (i * 2)).block, (ad2.add (i * 2)).off + 1, none⟩ = some (.int .i64 nn)) (by kernel_rfl) HSD.out (fun hHeld => ?_)
            refine wpAnyH_take (i := 0) (v := ?_) rfl (by kernel_rfl) (by kernel_rfl) (by kernel_rfl) (fun _ _ _ h => h) (Or.inl ⟨by kernel_rfl, ?_⟩) hHeld ?_
            rotate_left
            focus (intro w hSw; (try dsimp only at hSw); go_simp; try with_reducible rfl)
            try simp only [Act.put]
            refine wpAnyH_take (i := 1) (v := ?_) rfl (by kernel_rfl) (by kernel_rfl) (by kernel_rfl) (fun _ _ _ h => h) (Or.inl ⟨by kernel_rfl, ?_⟩) hHeld ?_
            rotate_left
            focus (intro w hSw; (try dsimp only at hSw); go_simp; try with_reducible rfl)
            try simp only [Act.put]
            refine wpAnyH_take (i := 2) (v := ?_) rfl (by kernel_rfl) (by kernel_rfl) (by kernel_rfl) (fun _ _ _ h => h) (Or.inl ⟨by kernel_rfl, ?_⟩) hHeld ?_
            rotate_left
            focus (intro w hSw; (try dsimp only at hSw); go_simp; try with_reducible rfl)
            try simp only [Act.put]
            refine wpAnyH_take (i := 3) (v := ?_) rfl (by kernel_rfl) (by kernel_rfl) (by kernel_rfl) (fun _ _ _ h => h) (Or.inl ⟨by kernel_rfl, ?_⟩) hHeld ?_
            rotate_left
            focus (intro w hSw; (try dsimp only at hSw); go_simp; try with_reducible rfl)
            try simp only [Act.put]
            refine wpAnyH_take (i := 4) (v := ?_) rfl (by kernel_rfl) (by kernel_rfl) (by kernel_rfl) (fun _ _ _ h => h) (Or.inl ⟨by kernel_rfl, ?_⟩) hHeld ?_
            rotate_left
            focus (intro w hSw; (try dsimp only at hSw); go_simp; try with_reducible rfl)
            try simp only [Act.put]
            refine wpAnyH_take (i := 5) (v := ?_) rfl (by kernel_rfl) (by kernel_rfl) (by kernel_rfl) (fun _ _ _ h => h) (Or.inl ⟨by kernel_rfl, ?_⟩) hHeld ?_
            rotate_left
            focus (intro w hSw; (try dsimp only at hSw); go_simp; try with_reducible rfl)
            try simp only [Act.put]
            refine wpAnyH_ready (rs := [6, 11]) (by kernel_rfl) (by simp) ?_
            refine AllReadyH.cons rfl (fun K hK => ?_) (AllReadyH.cons rfl (fun K hK => ?_) (AllReadyH.nil))
            · go_simp
              refine (HACT.out (X2 g gw) _ (HPq.out.qs) HPq.out.x2lt).mono ?_
              rintro e V1 ⟨v1, rfl, n1, n2, n3⟩
              have r1 : Row V1 gw 28 (fc bs p) := HPq.out.box.same (n2 _ (.inr rfl))
              have r2 := HPq.out.row.same (n2 _ (.inl rfl))
              have HS1 := Lib.hid (HS0.out V1 n1.below r1)
              refine hK.out _ _ HS1.out (fun hHeld => ?_)
              clear hK K
              try simp only [Act.put]
              refine wpAnyH_take (i := 7) (v := ?_) rfl (by kernel_rfl) (by kernel_rfl) (by kernel_rfl) (fun _ _ _ h => h) (Or.inl ⟨by kernel_rfl, ?_⟩) hHeld ?_
              rotate_left
              focus (intro w hSw; (try dsimp only at hSw); go_simp; try with_reducible rfl)
              try simp only [Act.put]
              refine wpAnyH_take (i := 8) (v := ?_) rfl (by kernel_rfl) (by kernel_rfl) (by kernel_rfl) (fun _ _ _ h => h) (Or.inl ⟨by kernel_rfl, ?_⟩) hHeld ?_
              rotate_left
              focus (intro w hSw; (try dsimp only at hSw); go_simp; try with_reducible rfl)
              try simp only [Act.put]
              refine wpAnyH_take (i := 9) (v := ?_) rfl (by kernel_rfl) (by kernel_rfl) (by kernel_rfl) (fun _ _ _ h => h) (Or.inl ⟨by kernel_rfl, ?_⟩) hHeld ?_
              rotate_left
              focus (intro w hSw; (try dsimp only at hSw); go_simp; try with_reducible rfl)
              try simp only [Act.put]
              refine wpAnyH_take (i := 10) (v := ?_) rfl (by kernel_rfl) (by kernel_rfl) (by kernel_rfl) (fun _ _ _ h => h) (Or.inl ⟨by kernel_rfl, ?_⟩) hHeld ?_
              rotate_left
              focus (intro w hSw; (try dsimp only at hSw); go_simp; try with_reducible rfl)
              try simp only [Act.put]
              refine wpAnyH_ready (rs := [11]) (by kernel_rfl) (by simp) ?_
              refine AllReadyH.cons rfl (fun K hK => ?_) (AllReadyH.nil)
              go_simp
              have hb2 := below1 V1 (.cells #[.string ⟨#[]⟩, .int .i64 0] 28)
              have HS2 := Lib.hid (HS0.out _ (below0 n1.below hb2) (r1.below hb2))
              refine hK.out _ _ HS2.out (fun hHeld => ?_)
              clear hK K
              try simp only [Act.put]
              refine wpAnyH_ready (rs := [12]) (by kernel_rfl) (by simp) ?_
              refine AllReadyH.cons rfl (fun K hK => ?_) (AllReadyH.nil)
              go_simp
              refine hK.out _ _ HS2.out (fun hHeld => ?_)
              clear hK K
              try simp only [Act.put]
              refine wpAnyH_ready (rs := [13]) (by kernel_rfl) (by simp) ?_
              refine AllReadyH.cons rfl (fun K hK => ?_) (AllReadyH.nil)
              go_simp
              have hb3 := below1 V1 (.cells #[.string SB, .int .i64 (q : Int)] 28)
              have HS3 := Lib.hid (HS0.out _ (below0 n1.below hb3) (r1.below hb3))
              have HTB := Lib.hid (show TB Has w g gw n v1 bs p q V1.heap.size (V1.alloc (.cells #[.string SB, .int .i64 (q : Int)] 28)) from ⟨QS.more H n1 hb3, r2.same (hb3.block _ r2.lt), HPq.out.ge, r1.below hb3, by have := Row.new V1 28 (fc bs q); rw [HSB.out]; exact this, fun e => by have := r1.lt; omega⟩)
              refine hK.out _ _ HS3.out (fun hHeld => ?_)
              clear hK K
              try simp only [Act.put]
              refine wpAnyH_ready (rs := [14]) (by kernel_rfl) (by simp) ?_
              refine AllReadyH.cons rfl (fun K hK => ?_) (AllReadyH.nil)
              go_simp
              refine hK.out _ _ HS3.out (fun hHeld => ?_)
              clear hK K
              try simp only [Act.put]
              refine wpAnyH_done (by kernel_rfl) ?_ _
              refine NoPanic.normal ?_
              obtain ⟨bo, hbo⟩ : ∃ bo, bo = V1.heap.size := ⟨_, rfl⟩
              obtain ⟨WZ, hWZ⟩ : ∃ WZ, WZ = V1.alloc (.cells #[.string SB, .int .i64 (q : Int)] 28) := ⟨_, rfl⟩
              rw [← hbo, ← hWZ] at HTB
              rw [← hbo, ← hWZ]
              exact HREST bo v1 WZ HTB

            · go_simp
              have hb2 : Below wr.heap.size wr (wr.alloc (.cells #[.string ⟨#[]⟩, .int .i64 0] 28)).drew := (below1 wr (.cells #[.string ⟨#[]⟩, .int .i64 0] 28)).drew
              have HPb := Lib.hid (PB.more H HP0.out hb2)
              have hnw : Row (wr.alloc (.cells #[.string ⟨#[]⟩, .int .i64 0] 28)).drew wr.heap.size 28 [.string ⟨#[]⟩, .int .i64 0] := (Row.new wr 28 [.string ⟨#[]⟩, .int .i64 0])
              have hq3 := QS.new H HP0.out.qs hb2
              have HS2 := Lib.hid (HS0.out _ HPb.out.qs.below HPb.out.box)
              refine hK.out _ _ HS2.out (fun hHeld => ?_)
              clear hK K
              try simp only [Act.put]
              refine wpAnyH_ready (rs := [6]) (by kernel_rfl) (by simp) ?_
              refine AllReadyH.cons rfl (fun K hK => ?_) (AllReadyH.nil)
              go_simp
              obtain ⟨V0, hV0⟩ : ∃ V0, V0 = (wr.alloc (.cells #[.string ⟨#[]⟩, .int .i64 0] 28)).drew := ⟨_, rfl⟩
              obtain ⟨bo, hbo⟩ : ∃ bo, bo = wr.heap.size := ⟨_, rfl⟩
              have hbg : gw < bo := by rw [hbo]; exact HP0.out.box.lt
              have hbr : g < bo := by rw [hbo]; exact HP0.out.row.lt
              have hbw : w.heap.size ≤ bo := by rw [hbo]; exact HP0.out.qs.below.size
              have hge := HP0.out.ge
              rw [← hbo, ← hV0] at hnw hq3
              rw [← hV0] at HPb
              rw [← hV0]
              try rw [← hbo]
              clear hbo hV0 HP0 HPq hb2
              refine (HACT.out (X3 g gw bo) V0 hq3 (fun k hk => hk.elim (fun e => e ▸ HPb.out.row.lt) (fun hk => hk.elim (fun e => e ▸ HPb.out.box.lt) (fun e => e ▸ hnw.lt)))).mono ?_
              rintro e V1 ⟨v1, rfl, n1, n2, n3⟩
              have r1 : Row V1 gw 28 (fc bs p) := HPb.out.box.same (n2 _ (.inr (.inl rfl)))
              have r2 := HPb.out.row.same (n2 _ (.inl rfl))
              have r3 := hnw.same (n2 _ (.inr (.inr rfl)))
              have HS1 := Lib.hid (HS0.out V1 n1.below r1)
              refine hK.out _ _ HS1.out (fun hHeld => ?_)
              clear hK K
              try simp only [Act.put]
              refine wpAnyH_take (i := 7) (v := ?_) rfl (by kernel_rfl) (by kernel_rfl) (by kernel_rfl) (fun _ _ _ h => h) (Or.inl ⟨by kernel_rfl, ?_⟩) hHeld ?_
              rotate_left
              focus (intro w hSw; (try dsimp only at hSw); go_simp; try with_reducible rfl)
              try simp only [Act.put]
              refine wpAnyH_take (i := 8) (v := ?_) rfl (by kernel_rfl) (by kernel_rfl) (by kernel_rfl) (fun _ _ _ h => h) (Or.inl ⟨by kernel_rfl, ?_⟩) hHeld ?_
              rotate_left
              focus (intro w hSw; (try dsimp only at hSw); go_simp; try with_reducible rfl)
              try simp only [Act.put]
              refine wpAnyH_take (i := 9) (v := ?_) rfl (by kernel_rfl) (by kernel_rfl) (by kernel_rfl) (fun _ _ _ h => h) (Or.inl ⟨by kernel_rfl, ?_⟩) hHeld ?_
              rotate_left
              focus (intro w hSw; (try dsimp only at hSw); go_simp; try with_reducible rfl)
              try simp only [Act.put]
              refine wpAnyH_take (i := 10) (v := ?_) rfl (by kernel_rfl) (by kernel_rfl) (by kernel_rfl) (fun _ _ _ h => h) (Or.inl ⟨by kernel_rfl, ?_⟩) hHeld ?_
              rotate_left
              focus (intro w hSw; (try dsimp only at hSw); go_simp; try with_reducible rfl)
              try simp only [Act.put]
              refine wpAnyH_ready (rs := [12]) (by kernel_rfl) (by simp) ?_
              refine AllReadyH.cons rfl (fun K hK => ?_) (AllReadyH.nil)
              go_simp
              refine hK.out _ _ HS1.out (fun hHeld => ?_)
              clear hK K
              try simp only [Act.put]
              have f0 := r3.frozen 0
              have f1 := r3.frozen 1
              have c0 := r3.cell 0
              have c1 := r3.cell 1
              simp only [List.getElem?_cons_zero, List.getElem?_cons_succ] at c0 c1
              refine wpAnyH_ready (rs := [13]) (by kernel_rfl) (by simp) ?_
              refine AllReadyH.cons rfl (fun K hK => ?_) (AllReadyH.nil)
              go_simp
              have hx : ∀ k, k ≠ bo → ((V1.setCell ⟨bo, 0, none⟩ (.string SB)).setCell ⟨bo, 1, none⟩ (.int .i64 (q : Int))).heap[k]? = V1.heap[k]? := fun k hk => (heap_set hk).trans (heap_set hk)
              have HTB := Lib.hid (show TB Has w g gw n v1 bs p q bo ((V1.setCell ⟨bo, 0, none⟩ (.string SB)).setCell ⟨bo, 1, none⟩ (.int .i64 (q : Int))) from ⟨QS.weak (QS.set H (QS.set H n1 (.inr (.inr rfl)) hbw _) (.inr (.inr rfl)) hbw _) (fun k hk => hk.elim .inl (fun e => .inr (.inl e))), r2.same (hx _ (by omega)), hge, r1.same (hx _ (by omega)), by have := (r3.set 0 (.string SB)).set 1 (.int .i64 (q : Int)); rw [HSB.out] at this ⊢; exact this, by omega⟩)
              have HS3 := Lib.hid (HS0.out _ HTB.out.qs.below HTB.out.box)
              refine hK.out _ _ HS3.out (fun hHeld => ?_)
              clear hK K
              try simp only [Act.put]
              refine wpAnyH_ready (rs := [14]) (by kernel_rfl) (by simp) ?_
              refine AllReadyH.cons rfl (fun K hK => ?_) (AllReadyH.nil)
              go_simp
              refine hK.out _ _ HS3.out (fun hHeld => ?_)
              clear hK K
              try simp only [Act.put]
              refine wpAnyH_done (by kernel_rfl) ?_ _
              refine NoPanic.normal ?_
              obtain ⟨WZ, hWZ⟩ : ∃ WZ, WZ = (V1.setCell ⟨bo, 0, none⟩ (.string SB)).setCell ⟨bo, 1, none⟩ (.int .i64 (q : Int)) := ⟨_, rfl⟩
              rw [← hWZ] at HTB
              rw [← hWZ]
              exact HREST bo v1 WZ HTB
          case rest =>
            intro bo v1 W HTB
            clear HACT HSD HS0 HPq
            have HS4 : Hid (∀ V, Row V bo 28 (fc bs q) → (fun W : World => W.cell? ⟨bo, 0, none⟩ = some (.string SB) ∧ W.cell? ⟨bo, 1, none⟩ = some (.int .i64 (q : Int))) V) := Lib.hid (fun V hr => ⟨by have := hr.cell 0; rw [HSB.out]; exact this, hr.cell 1⟩)
            have hg0 := HTB.out.box.lt
            have f0 := HTB.out.box.frozen 0
            have f1 := HTB.out.box.frozen 1
            have c0 : W.cell? ⟨gw, 0, none⟩ = some (.string SB) := by have := HTB.out.box.cell 0; rw [HSB.out]; exact this
            have c1 : W.cell? ⟨gw, 1, none⟩ = some (.int .i64 (p : Int)) := HTB.out.box.cell 1
            have hne : bo ≠ gw := HTB.out.ne
            have HPB := Lib.hid (lay_box H HTB.out.qs HTB.out.row HTB.out.ge HTB.out.box)
            go_wp2_with fail
            refine wp_region_noPanic ?_
            refine wp_region_held_drew (S := fun W : World => W.cell? ⟨bo, 0, none⟩ = some (.string SB) ∧ W.cell? ⟨bo, 1, none⟩ = some (.int .i64 (q : Int))) (by kernel_rfl) (HS4.out _ HTB.out.new) (fun hHeld => ?_)
            refine wpAnyH_take (i := 0) (v := ?_) rfl (by kernel_rfl) (by kernel_rfl) (by kernel_rfl) (fun _ _ _ h => h) (Or.inl ⟨by kernel_rfl, ?_⟩) hHeld ?_
            rotate_left
            focus (intro w hSw; (try dsimp only at hSw); go_simp; try with_reducible rfl)
            try simp only [Act.put]
            refine wpAnyH_take (i := 1) (v := ?_) rfl (by kernel_rfl) (by kernel_rfl) (by kernel_rfl) (fun _ _ _ h => h) (Or.inl ⟨by kernel_rfl, ?_⟩) hHeld ?_
            rotate_left
            focus (intro w hSw; (try dsimp only at hSw); go_simp; try with_reducible rfl)
            try simp only [Act.put]
            refine wpAnyH_take (i := 2) (v := ?_) rfl (by kernel_rfl) (by kernel_rfl) (by kernel_rfl) (fun _ _ _ h => h) (Or.inl ⟨by kernel_rfl, ?_⟩) hHeld ?_
            rotate_left
            focus (intro w hSw; (try dsimp only at hSw); go_simp; try with_reducible rfl)
            try simp only [Act.put]
            refine wpAnyH_ready (rs := [3]) (by kernel_rfl) (by simp) ?_
            refine AllReadyH.cons rfl (fun K hK => ?_) (AllReadyH.nil)
            go_simp
            refine hK.out _ _ (HS4.out _ (HTB.out.new.same ((heap_set hne).trans (heap_set hne)))) (fun hHeld => ?_)
            clear hK K
            refine wpAnyH_done (by kernel_rfl) ?_ _
            refine NoPanic.normal ?_
            obtain ⟨W5, hW5⟩ : ∃ W5, W5 = (W.setCell ⟨gw, 0, none⟩ (.string SB)).setCell ⟨gw, 1, none⟩ (.int .i64 (q : Int)) := ⟨_, rfl⟩
            have HPE : Hid (PB Has w g gw n v1 bs q W5) := Lib.hid (by have := HPB.out; rw [← HSB.out, ← hW5] at this; exact this)
            rw [← hW5]
            clear hW5 HPB HS4 HTB hHeld c0 c1 f0 f1 hg0 hne
            have HPE := Lib.hid (PB.more H HPE.out (show Below W5.heap.size W5 W5.drew from (Below.refl _ _).drew))
            obtain ⟨W6, hW6⟩ : ∃ W6, W6 = W5.drew := ⟨_, rfl⟩
            rw [← hW6] at HPE
            rw [← hW6]
            clear hW6
            have c0 : W6.cell? ⟨gw, 0, none⟩ = some (.string SB) := by have := HPE.out.box.cell 0; rw [HSB.out]; exact this
            have c1 : W6.cell? ⟨gw, 1, none⟩ = some (.int .i64 (q : Int)) := HPE.out.box.cell 1
            have HISS : Hid (Calls Try.prog 9 #[v1, .agg #[.string SB, .int .i64 (q : Int)]] W6 fun e w' => e = .returned (.bool true) ∧ Below W6.heap.size W6 w') := Lib.hid (by
              obtain ⟨F, h1, _⟩ := HPE.out.qs.ex
              have := is_any H v1 bs q F W6 h1
              rw [HSB.out]
              exact this)
            go_wp2_with fail
            refine HISS.out.mono ?_
            rintro e W7 ⟨rfl, hb7⟩
            have HPF := Lib.hid (PB.more H HPE.out hb7)
            clear hb7 HISS HPE c0 c1
            go_wp2_with fail
            go_roundw
            case rel => exact ⟨i + 1, q, v1, by omega, rfl, by go_num, HPF.out⟩
            case measure => simp [_root_.Go.RowKit.intOf]; omega
        · obtain rfl : m = i := by omega
          have k2 : decide ((m : Int) < (m : Int)) = false := decide_eq_false (by omega)
          have HPq := Lib.hid P
          obtain ⟨w10, hw10⟩ : ∃ x : World, x = wr := ⟨_, rfl⟩
          subst hw10
          clear P
          have hno := HNO.out w10
          go_wp2_with fail
          refine hno.mono ?_
          rintro e W1 ⟨rfl, hb1⟩
          have HPq := Lib.hid (PB.more H HPq.out hb1)
          clear hb1 hno
          have hn1 : Hid (Calls Try.prog 11 #[v, .pointer none] W1 fun e w' => e = .returned (.bool false) ∧ Below W1.heap.size W1 w') := Lib.hid (by
            obtain ⟨F, h1, _⟩ := HPq.out.qs.ex
            exact H.sameN h1)
          go_wp2_with fail
          refine hn1.out.mono ?_
          rintro e W2 ⟨rfl, hb1⟩
          have HPq := Lib.hid (PB.more H HPq.out hb1)
          clear hb1 hn1
          have hn2 : Hid (Calls Try.prog 11 #[.pointer none, v] W2 fun e w' => e = .returned (.bool false) ∧ Below W2.heap.size W2 w') := Lib.hid (by
            obtain ⟨F, h1, _⟩ := HPq.out.qs.ex
            exact H.sameN' h1)
          go_wp2_with fail
          refine hn2.out.mono ?_
          rintro e W3 ⟨rfl, hb1⟩
          have HPq := Lib.hid (PB.more H HPq.out hb1)
          clear hb1 hn2
          have c77 := HPq.out.row.c77
          go_wp2_with fail
          refine (HW.out W3).mono ?_
          rintro e W4 ⟨rfl, hb1⟩
          have HPq := Lib.hid (PB.more H HPq.out hb1)
          clear hb1 c77
          go_wp2_with fail
          go_ret
          exact ⟨rfl, HPq.out.qs.below⟩
set_option maxRecDepth 100000 in
theorem plays_far {Has : HasT} (H : Api Has) (A : Option Addr) (n ca : Nat) (B : Option Addr) (m cb : Nat) (w : World) (h : 200 < n ∨ (n ≤ 200 ∧ 60 < m)) :
    Calls Try.prog 3 #[.slice A n ca, .slice B m cb] w fun e w' => e = .returned (.bool true) ∧ Below w.heap.size w w' := by
  have HW := Lib.hid (fun W => works_any H W)
  rcases h with h | ⟨h1, h2⟩
  · have d1 : decide ((200 : Int) < (n : Int)) = true := decide_eq_true (by omega)
    go_enter Try.func3, Try.ntmps3
    go_wp2_with fail
    refine (HW.out _).mono ?_
    rintro e W1 ⟨rfl, hb1⟩
    have HB1 := Lib.hid hb1
    clear hb1
    go_wp2_with fail
    go_ret
    exact ⟨rfl, HB1.out⟩
  · have d1 : decide ((200 : Int) < (n : Int)) = false := decide_eq_false (by omega)
    have d2 : decide ((60 : Int) < (m : Int)) = true := decide_eq_true (by omega)
    go_enter Try.func3, Try.ntmps3
    go_wp2_with fail
    refine (HW.out _).mono ?_
    rintro e W1 ⟨rfl, hb1⟩
    have HB1 := Lib.hid hb1
    clear hb1
    go_wp2_with fail
    go_ret
    exact ⟨rfl, HB1.out⟩
theorem feedPlays_any {Has : HasT} (H : Api Has) (HNN : ∀ (z : Bool) (w : World), Calls Try.prog 10 #[.bool z] w fun e w' => e = .returned (.bool true) ∧ Below w.heap.size w w') (bs : List UInt8) (A : Option Addr) (n ca : Nat) (acts : List Ac) (B : Option Addr) (m cb : Nat) (w : World) (hA : Sees w w.heap.size A (byt bs)) (hn : bs.length = n) (hB : Acs w acts B) (hm : acts.length = m) :
    Calls Try.prog 3 #[.slice A n ca, .slice B m cb] w fun e w' => e = .returned (.bool true) ∧ Below w.heap.size w w' := by
  by_cases h1 : n ≤ 200
  · by_cases h2 : m ≤ 60
    · rcases Nat.mod_two_eq_zero_or_one m with h | h
      · exact plays_even H HNN bs A n ca acts B m cb w hA hn h1 hB hm h2 h
      · exact plays_odd H HNN bs A n ca acts B m cb w hA hn h1 hB hm h2 h
    · exact plays_far H A n ca B m cb w (.inr ⟨h1, by omega⟩)
  · exact plays_far H A n ca B m cb w (.inl (by omega))
end Go.Proofs.Ytglfcfepgjldfaa.Fe
