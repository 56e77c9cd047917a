import Derived.Test.YtmocdokikcbjeaaWorks
namespace Go.Proofs.Ytmocdokikcbjeaa
open Go.RowKit Go.Shelf Go.Maps Go.Sort
attribute [local go_sem] Oper.semAt_some

/- PAGERUNS. -/

theorem row_mem {w : World} {t : TypeId} {vs : List Value} {p : Addr} {v : Value} (h : Row w p.block t vs) (hc : w.cell? p = some v) : v ∈ vs := by
  have h1 : w.heap[p.block]? = some (.cells vs.toArray t) := h
  obtain ⟨q, o, f⟩ := p
  cases f with
  | some f => simp [World.cell?, h1] at hc
  | none =>
    simp [World.cell?, h1] at hc
    exact List.mem_of_getElem? hc
theorem not_cell {w : World} {b : Nat} {t : TypeId} {vs : List Value} {p : Addr} {v : Value} (h : Row w b t vs) (hv : v ∉ vs) (hc : w.cell? p = some v) : p.block ≠ b := by
  rintro rfl
  exact hv (row_mem h hc)
theorem Rep.apart {w : World} {b bp bf : Nat} {l : Tb} (h : Rep w b l bp bf) {p : Addr} {z : Int} (hc : w.cell? p = some (.int .i64 z)) : ¬ blocks b bp bf p.block := by
  rintro (h1 | h1 | h1)
  · exact not_cell h.obj (by simp) hc h1
  · obtain ⟨es, clock, h2, _⟩ := h.pages
    rw [← h1] at h2
    simp [World.cell?, h2] at hc
  · obtain ⟨D, ⟨es, clock, h2, _⟩, _⟩ := h.frames
    rw [← h1] at h2
    simp [World.cell?, h2] at hc
/-- the document's rows lie beside the table -/
theorem RunX.lies {w0 w : World} {b : Nat} {l l' : Tb} {X : Nat → Prop} {A : Option Addr} (h : RunX w0 b l X w) (hA : Lies w A l') :
    RunX w0 b l (fun k => X k ∨ (l' ≠ [] ∧ ∃ ad, A = some ad ∧ k = ad.block)) w := by
  obtain ⟨F, ⟨bp, bf, h1, rfl⟩, h2, h3, h4⟩ := h
  refine ⟨_, ⟨bp, bf, h1, rfl⟩, fun k hk => ⟨(h2 k hk).1, ?_⟩, h3, ?_⟩
  · rintro (hx | ⟨hn, ad, rfl, rfl⟩)
    · exact (h2 k hk).2 hx
    · obtain ⟨r, t, rfl⟩ : ∃ r t, l' = r :: t := by
        cases l' with
        | nil => exact absurd rfl hn
        | cons r t => exact ⟨r, t, rfl⟩
      obtain ⟨ad', e, hr⟩ := hA.at_ 0 (by simp)
      obtain ⟨ad2, e2, _, hc⟩ := Sees.at_ (k := 0) hA (by simp [encR])
      cases e2
      have hc2 : w.cell? (ad.add 0) = some (.int .i64 r.1) := by rw [hc]; rfl
      exact h1.apart hc2 (by rw [add_block]; exact hk)
  · rintro k (hx | ⟨hn, ad, rfl, rfl⟩)
    · exact h4 k hx
    · obtain ⟨ad2, e2, hlt, hc⟩ := Sees.at_ (k := 0) hA (by
        cases l' with
        | nil => exact absurd rfl hn
        | cons r t => simp [encR])
      cases e2
      exact hlt
theorem Lies.keepX {w w' : World} {l : Tb} {A : Option Addr} (h : Lies w A l) (hk : ∀ k, (l ≠ [] ∧ ∃ ad, A = some ad ∧ k = ad.block) → w'.heap[k]? = w.heap[k]?) : Lies w' A l := fun hn => by
  obtain ⟨ad, e, hb, hc⟩ := h hn
  have hc' : ∀ j u, (l.flatMap encR)[j]? = some u → w'.cell? (ad.add j) = some u := fun j u hu => by
    refine (World.cell?_of_block ?_).trans (hc j u hu)
    rw [add_block]
    exact hk _ ⟨by rintro rfl; simp at hn, ad, e, rfl⟩
  obtain ⟨x, xs, hx⟩ : ∃ x xs, l.flatMap encR = x :: xs := by
    cases h2 : l.flatMap encR with
    | nil => exact absurd h2 hn
    | cons x xs => exact ⟨x, xs, rfl⟩
  have := lt_of_cell (hc' 0 x (by rw [hx]; rfl))
  rw [add_block] at this
  exact ⟨ad, e, this, hc'⟩
theorem RunX.store {w0 w : World} {b g : Nat} {l : Tb} {X : Nat → Prop} (h : RunX w0 b l X w) (hX : X g) (hg : w0.heap.size ≤ g) (v : Value) : RunX w0 b l X (w.setCell ⟨g, 0, none⟩ v) := by
  obtain ⟨F, h1, h2, h3, h4⟩ := h
  refine ⟨F, h1.keep fun k hk => heap_set (fun e => (h2 k hk).2 (by rw [e]; exact hX)), h2, h3.setCell hg _, fun k hk => ?_⟩
  rw [World.size_setCell]
  exact h4 k hk
theorem Lies.store {w : World} {g : Nat} {t : TypeId} {l : Tb} {A S : Option Addr} {n c : Nat} (h : Lies w A l) (hr : Row w g t [.slice S n c]) (v : Value) : Lies (w.setCell ⟨g, 0, none⟩ v) A l := by
  refine h.keepX ?_
  rintro k ⟨hn, ad, rfl, rfl⟩
  refine heap_set ?_
  obtain ⟨ad2, e2, _, hc⟩ := Sees.at_ (k := 0) h (by
    cases l with
    | nil => exact absurd rfl hn
    | cons r t => simp [encR])
  cases e2
  obtain ⟨r, t', rfl⟩ : ∃ r t', l = r :: t' := by
    cases l with
    | nil => exact absurd rfl hn
    | cons r t => exact ⟨r, t, rfl⟩
  have hc2 : w.cell? (ad.add 0) = some (.int .i64 r.1) := by rw [hc]; rfl
  have := not_cell hr (by simp) hc2
  rwa [add_block] at this
/-- both tables stand alike -/
structure Both (w : World) (b g : Nat) (wr : World) (l : Tb) (A : Option Addr) (c : Nat) : Prop where
  run : RunX w b l (fun k => k = g) wr
  row : Row wr g 29 [.slice A l.length c]
  cap : l.length ≤ c
  lies : Lies wr A l

set_option maxRecDepth 100000 in
set_option maxHeartbeats 4000000 in
theorem pageRuns_any (l : List UInt8) (A : Option Addr) (n c : Nat) (from_ many : Int) (w : World) (hl : l.length = n) (hn : n ≤ 4611686018427387904) (hA : Sees w w.heap.size A (byt l)) (hf : I64 from_) :
    Calls Try.prog 5 #[.slice A n c, .int .i64 from_, .int .i64 many] w fun e w' => e = .returned (.bool true) ∧ Below w.heap.size w w' := by
  have hwk := Lib.hid (fun w => works_any w)
  have HL := Lib.hid hl
  have HA := Lib.hid hA
  have HF := Lib.hid hf
  by_cases h40 : 40 < n
  · have e0 : decide ((40 : Int) < (n : Int)) = true := decide_eq_true (by omega)
    clear hl hn hA hf h40
    go_enter Try.func5, Try.ntmps5
    go_wp2_with fail
    refine (hwk.out _).mono ?_
    rintro e w1 ⟨rfl, hb⟩
    go_wp2_with fail
    go_ret
    exact ⟨rfl, hb⟩
  have e0 : decide ((40 : Int) < (n : Int)) = false := decide_eq_false (by omega)
  clear hl hA hf
  go_enter Try.func5, Try.ntmps5
  go_wp2_with fail
  refine (Run.new _).mono ?_
  rintro e w1 ⟨b, rfl, R1⟩
  have hB0 : Both w b w1.heap.size (w1.alloc (.cells #[.slice none 0 0] 29)) [] none 0 :=
    ⟨((RunX.of R1).add _).less fun k hk => .inr hk, Row.new w1 29 [.slice none 0 0], Nat.le_refl _, Sees.nil_⟩
  have hg0 := R1.below.size
  clear R1
  go_wp2_with fail
  obtain ⟨g, hg⟩ : ∃ g, g = w1.heap.size := ⟨_, rfl⟩
  rw [← hg] at hB0 hg0 ⊢
  obtain ⟨w2, hw2⟩ : ∃ w2, w2 = w1.alloc (.cells #[.slice none 0 0] 29) := ⟨_, rfl⟩
  rw [← hw2] at hB0 ⊢
  clear hw2 hg
  go_loopw [9] (fun t wr => ∃ k l' A' c', t = .int .i64 ((k : Nat) : Int) ∧ k ≤ n ∧ Both w b g wr l' A' c') (fun t _ => n - (_root_.Go.RowKit.intOf t).toNat)
  case atStart => exact ⟨0, [], none, 0, rfl, Nat.zero_le _, hB0⟩
  case round =>
    obtain ⟨k, l', A', c', rfl, hk, hB⟩ := hrel
    clear hB0
    by_cases hlt : k < n
    · have i0 : (0 : Int) ≤ (k : Int) := by omega
      have i1 : (k : Int) < (n : Int) := by omega
      have e1 : decide ((k : Int) < (n : Int)) = true := decide_eq_true i1
      obtain ⟨ad, rfl, hab, hby⟩ := HA.out.byte (k := k) (by rw [HL.out]; exact hlt)
      obtain ⟨x, hx⟩ : ∃ x, x = (l[k]'(by rw [HL.out]; exact hlt)).toNat := ⟨_, rfl⟩
      rw [← hx] at hby
      have hx256 : x < 256 := by rw [hx]; exact UInt8.toNat_lt _
      have hsz := hB.run.below.size
      obtain ⟨V, hV⟩ : ∃ V, V = wr.alloc (.cells #[.int .i64 1, .int .i64 0, .int .i64 (k : Int)] 34) := ⟨_, rfl⟩
      have V0 : RunX w b l' (fun k => k = g ∨ k = wr.heap.size) V := hV ▸ hB.run.add _
      have rowE : Row V wr.heap.size 34 [.int .i64 1, .int .i64 0, .int .i64 (k : Int)] := hV ▸ Row.new wr 34 [.int .i64 1, .int .i64 0, .int .i64 (k : Int)]
      have rowG : Row V g 29 [.slice A' l'.length c'] := hV ▸ hB.row.below (below1 wr _)
      have liesV : Lies V A' l' := hV ▸ hB.lies.below (below1 wr _)
      have hcap := hB.cap
      have hok := V0.ok
      obtain ⟨ge, hge⟩ : ∃ ge, ge = wr.heap.size := ⟨_, rfl⟩
      rw [← hge] at V0 rowE
      have HS := Lib.hid (fun W (hb : Below w.heap.size w W) (he : W.heap[ge]? = V.heap[ge]?) => (show W.cell? (ad.add k) = some (.int .u8 (x : Int)) ∧ W.cell? ⟨ge, 0, none⟩ = some (.int .i64 1) ∧ W.cell? ⟨ge, 1, none⟩ = some (.int .i64 0) ∧ W.cell? ⟨ge, 2, none⟩ = some (.int .i64 (k : Int)) from
        ⟨(hb.cell (by rw [add_block]; exact hab)).trans hby, (rowE.same he).cell 0, (rowE.same he).cell 1, (rowE.same he).cell 2⟩))
      have HM := Lib.hid (fun W (hb : Below V.heap.size V W) => rmap_any l' A' c' (x : Int) (1, 0, (k : Int)) W hok hcap (liesV.below hb))
      have HC := Lib.hid (fun X W (hR : RunX w b l' X W) => hR.map (x : Int) (1, 0, (k : Int)) ⟨by unfold I64; dsimp only; omega, by unfold I64; dsimp only; omega, by unfold I64; dsimp only; omega⟩)
      obtain ⟨L3, hL3⟩ : ∃ L3, L3 = mapT l' (x : Int) (1, 0, (k : Int)) := ⟨_, rfl⟩
      obtain ⟨E3, hE3⟩ : ∃ E3, E3 = mapE l' (x : Int) (1, 0, (k : Int)) := ⟨_, rfl⟩
      rw [← hL3, ← hE3] at HM HC
      rw [show enV (1, 0, (k : Int)) = .agg #[.int .i64 1, .int .i64 0, .int .i64 (k : Int)] from rfl] at HM HC
      clear hL3 hE3
      have HV := Lib.hid V0
      have HG := Lib.hid rowG
      have HK := Lib.hid (show ge < V.heap.size ∧ ge ≠ g from ⟨rowE.lt, by rintro rfl; exact absurd (rowE.symm.trans rowG) (by simp)⟩)
      have cG := rowG.cell 0
      simp only [List.getElem?_cons_zero] at cG
      have ew : IntKind.i64.wrap (x : Int) = (x : Int) := wrapI _ (by omega) (by omega)
      have hdr := Lib.hid (show Below V.heap.size V V.drew from (Below.refl _ _).drew)
      clear hB V0 rowE rowG liesV hcap hok hby hab hx hx256
      go_wp2_with fail
      rw [← hV, ← hge]
      clear hV hge
      refine wp_region_held_drew (S := fun W => W.cell? (ad.add k) = some (.int .u8 (x : Int)) ∧ W.cell? ⟨ge, 0, none⟩ = some (.int .i64 1) ∧ W.cell? ⟨ge, 1, none⟩ = some (.int .i64 0) ∧ W.cell? ⟨ge, 2, none⟩ = some (.int .i64 (k : Int))) (by kernel_rfl) ?_ (fun hHeld => ?_)
      · exact HS.out _ (below0 HV.out.below hdr.out) rfl
      refine wpAnyH_take (i := 1) (v := ?_) rfl (by kernel_rfl) (by kernel_rfl) (by kernel_rfl) (fun _ _ _ h => h) (Or.inl ⟨by rfl, ?_⟩) (by assumption) ?_
      rotate_left
      focus (intro w hSw; (try dsimp only at hSw); go_simp; try with_reducible rfl)
      simp only [Act.put]
      refine wpAnyH_take (i := 2) (v := ?_) rfl (by kernel_rfl) (by kernel_rfl) (by kernel_rfl) (fun _ _ _ h => h) (Or.inl ⟨by rfl, ?_⟩) (by assumption) ?_
      rotate_left
      focus (intro w hSw; (try dsimp only at hSw); go_simp; try with_reducible rfl)
      simp only [Act.put]
      refine wpAnyH_take (i := 3) (v := ?_) rfl (by kernel_rfl) (by kernel_rfl) (by kernel_rfl) (fun _ _ _ h => h) (Or.inl ⟨by rfl, ?_⟩) (by assumption) ?_
      rotate_left
      focus (intro w hSw; (try dsimp only at hSw); go_simp; try with_reducible rfl)
      simp only [Act.put]
      refine wpAnyH_take (i := 4) (v := ?_) rfl (by kernel_rfl) (by kernel_rfl) (by kernel_rfl) (fun _ _ _ h => h) (Or.inl ⟨by rfl, ?_⟩) (by assumption) ?_
      rotate_left
      focus (intro w hSw; (try dsimp only at hSw); go_simp; try with_reducible rfl)
      simp only [Act.put]
      refine wpAnyH_take (i := 5) (v := ?_) rfl (by kernel_rfl) (by kernel_rfl) (by kernel_rfl) (fun _ _ _ h => h) (Or.inl ⟨by rfl, ?_⟩) (by assumption) ?_
      rotate_left
      focus (intro w hSw; (try dsimp only at hSw); go_simp; try with_reducible rfl)
      simp only [Act.put]
      refine wpAnyH_take (i := 6) (v := ?_) rfl (by kernel_rfl) (by kernel_rfl) (by kernel_rfl) (fun _ _ _ h => h) (Or.inl ⟨by rfl, ?_⟩) (by assumption) ?_
      rotate_left
      focus (intro w hSw; (try dsimp only at hSw); go_simp; try with_reducible rfl)
      simp only [Act.put]
      refine wpAnyH_ready (rs := [0]) (by kernel_rfl) (by simp) ?_
      refine AllReadyH.cons rfl (fun K hK => ?_) AllReadyH.nil
      go_simp
      refine hK.out _ _ ?_ (fun hHeld => ?_)
      · exact hHeld
      clear hK K
      try simp only [Act.put]
      refine wpAnyH_ready (rs := [7]) (by kernel_rfl) (by simp) ?_
      refine AllReadyH.cons rfl (fun K hK => ?_) AllReadyH.nil
      go_simp
      refine (HM.out _ hdr.out).mono ?_
      rintro e w3 ⟨A3, c3, rfl, hc3, hL3, hb3⟩
      have cG3 : w3.cell? ⟨g, 0, none⟩ = some (.slice A' (List.length l') c') := (HG.out.below (below0 hdr.out hb3)).cell 0
      have zG3 : w3.frozen? ⟨g, 0, none⟩ = false := (HG.out.below (below0 hdr.out hb3)).frozen 0
      refine hK.out _ _ ?_ (fun hHeld => ?_)
      · exact HS.out _ (below0 HV.out.below (below0 hdr.out hb3)) ((below0 hdr.out hb3).block _ HK.out.1)
      clear hK K
      try simp only [Act.put]
      refine wpAnyH_take (i := 8) (v := ?_) rfl (by kernel_rfl) (by kernel_rfl) (by kernel_rfl) (fun _ _ _ h => h) (Or.inl ⟨by rfl, ?_⟩) (by assumption) ?_
      rotate_left
      focus (intro w hSw; (try dsimp only at hSw); go_simp; try with_reducible rfl)
      simp only [Act.put]
      refine wpAnyH_take (i := 9) (v := ?_) rfl (by kernel_rfl) (by kernel_rfl) (by kernel_rfl) (fun _ _ _ h => h) (Or.inl ⟨by rfl, ?_⟩) (by assumption) ?_
      rotate_left
      focus (intro w hSw; (try dsimp only at hSw); go_simp; try with_reducible rfl)
      simp only [Act.put]
      refine wpAnyH_take (i := 10) (v := ?_) rfl (by kernel_rfl) (by kernel_rfl) (by kernel_rfl) (fun _ _ _ h => h) (Or.inl ⟨by rfl, ?_⟩) (by assumption) ?_
      rotate_left
      focus (intro w hSw; (try dsimp only at hSw); go_simp; try with_reducible rfl)
      simp only [Act.put]
      refine wpAnyH_ready (rs := [11]) (by kernel_rfl) (by simp) ?_
      refine AllReadyH.cons rfl (fun K hK => ?_) AllReadyH.nil
      go_simp
      refine hK.out _ _ ?_ (fun hHeld => ?_)
      · exact HS.out _ ((below0 HV.out.below (below0 hdr.out hb3)).setCell hg0 _) ((heap_set HK.out.2).trans ((below0 hdr.out hb3).block _ HK.out.1))
      clear hK K
      try simp only [Act.put]
      refine wpAnyH_done (by kernel_rfl) ?_ _
      have hb3' := below0 hdr.out hb3
      have hR3 := (HV.out.more hb3').1
      have hR4 := hR3.store (.inl rfl) hg0 (.slice A3 L3.length c3)
      have lies4 := hL3.store (HG.out.below hb3') (.slice A3 L3.length c3)
      have row4 : Row (w3.setCell ⟨g, 0, none⟩ (.slice A3 L3.length c3)) g 29 [.slice A3 L3.length c3] := (HG.out.below hb3').set 0 _
      have he4 : (w3.setCell ⟨g, 0, none⟩ (.slice A3 L3.length c3)).heap[ge]? = V.heap[ge]? := (heap_set HK.out.2).trans (hb3'.block _ HK.out.1)
      have hRX := hR4.lies lies4
      obtain ⟨w4, hw4⟩ : ∃ w4, w4 = w3.setCell ⟨g, 0, none⟩ (.slice A3 L3.length c3) := ⟨_, rfl⟩
      rw [← hw4] at hRX lies4 row4 he4 ⊢
      have HR4 := Lib.hid row4
      have HL4 := Lib.hid lies4
      have HE4 := Lib.hid he4
      have HB4 := Lib.hid hRX.below
      have HC4 := Lib.hid (HC.out _ w4.drew (hRX.more (below_drewN (Below.refl _ _) 1)).1)
      clear hb3 hb3' hR3 hR4 lies4 row4 he4 hRX hw4 hL3 cG3 zG3 HC HM HV HG hdr cG
      go_wp2_with fail
      go_region_held3 (fun W => W.cell? (ad.add k) = some (.int .u8 (x : Int)) ∧ W.cell? ⟨ge, 0, none⟩ = some (.int .i64 1) ∧ W.cell? ⟨ge, 1, none⟩ = some (.int .i64 0) ∧ W.cell? ⟨ge, 2, none⟩ = some (.int .i64 (k : Int)))
        (first | exact HS.out _ HB4.out.drew HE4.out | assumption)
        (first | (go_at_call 18; refine (HC4.out).mono ?_; rintro e w5 ⟨rfl, hR5, hs5⟩; have K5 := HS.out w5 hR5.below ((hs5 _ (.inl (.inr rfl))).trans HE4.out)))
      have hB5 : Both w b g w5 L3 A3 c3 := ⟨hR5.less fun q hq => .inl (.inl hq), HR4.out.same (hs5 _ (.inl (.inl rfl))), hc3, HL4.out.keepX fun q hq => hs5 q (.inr hq)⟩
      have HB5 := Lib.hid hB5
      clear hB5 hR5 hs5 K5 HR4 HL4 HE4 HB4 HC4 HS HK
      go_wp2_with fail
      go_roundw
      case rel => exact ⟨k + 1, L3, A3, c3, by go_num, by omega, HB5.out⟩
      case measure => simp [_root_.Go.RowKit.intOf]; omega
    · obtain rfl : k = n := by omega
      have e1 : decide ((k : Int) < (k : Int)) = false := decide_eq_false (by omega)
      obtain ⟨F, ⟨bp, bf, hrep, hFe⟩, hrest⟩ := hB.run
      have H1 := Lib.hid (next_any hrep from_ many)
      have H2 := Lib.hid (fun W (hb : Below wr.heap.size wr W) => rnext_any l' A' l'.length c' from_ many W hB.run.ok rfl HF.out (hB.lies.below hb))
      have HG := Lib.hid hB.row
      have HB := Lib.hid hB.run.below
      obtain ⟨m, hm⟩ : ∃ m, m = l'.length := ⟨_, rfl⟩
      rw [← hm] at H2 HG
      obtain ⟨N, hN⟩ : ∃ N, N = nextI l' from_ many := ⟨_, rfl⟩
      rw [← hN] at H1 H2
      clear hm hN hB hlt hFe hrep hrest h40
      by_cases h1 : 0 < N
      · have d0 : decide (0 ≤ N) = true := decide_eq_true (by omega)
        rw [if_pos (by omega), d0] at H1
        have hmx : ∀ ts t w, (Builtin.max_ ts t #[.int .i64 0, .int .i64 N]).run Try.prog w = .ok (.int .i64 N) w := fun ts t w => by rw [run_max_int2, if_pos h1]
        clear h1
        go_wp2_with fail
        refine (H1.out).mono ?_
        rintro e V ⟨rfl, hbV⟩
        have cG : V.cell? ⟨g, 0, none⟩ = some (.slice A' m c') := (HG.out.below hbV).cell 0
        have H2V := Lib.hid (H2.out V hbV)
        have HBV := Lib.hid (below0 HB.out hbV)
        clear hbV H1 H2 HG HB
        go_wp2_with fail
        refine (H2V.out).mono ?_
        rintro e V2 ⟨rfl, hb2⟩
        have HB2 := Lib.hid (below0 HBV.out hb2)
        clear hb2 H2V HBV cG
        go_wp2_with (go_at_call 8; refine (hwk.out _).mono ?_; rintro e w6 ⟨rfl, hb6⟩)
        go_ret
        exact ⟨rfl, below0 HB2.out hb6⟩
      by_cases h0 : N = 0
      · subst h0
        rw [if_pos (by omega), show decide ((0 : Int) ≤ 0) = true from rfl] at H1
        clear h1
        go_wp2_with fail
        refine (H1.out).mono ?_
        rintro e V ⟨rfl, hbV⟩
        have cG : V.cell? ⟨g, 0, none⟩ = some (.slice A' m c') := (HG.out.below hbV).cell 0
        have H2V := Lib.hid (H2.out V hbV)
        have HBV := Lib.hid (below0 HB.out hbV)
        clear hbV H1 H2 HG HB
        go_wp2_with fail
        refine (H2V.out).mono ?_
        rintro e V2 ⟨rfl, hb2⟩
        have HB2 := Lib.hid (below0 HBV.out hb2)
        clear hb2 H2V HBV cG
        go_wp2_with (go_at_call 8; refine (hwk.out _).mono ?_; rintro e w6 ⟨rfl, hb6⟩)
        go_ret
        exact ⟨rfl, below0 HB2.out hb6⟩
      · have d0 : decide (0 ≤ N) = false := decide_eq_false (by omega)
        rw [if_neg (by omega), d0] at H1
        have hmx : ∀ ts t w, (Builtin.max_ ts t #[.int .i64 0, .int .i64 N]).run Try.prog w = .ok (.int .i64 0) w := fun ts t w => by rw [run_max_int2, if_neg h1]
        clear h1
        have d1 : decide (0 = N) = false := decide_eq_false (fun h => h0 h.symm)
        clear h0
        go_wp2_with fail
        refine (H1.out).mono ?_
        rintro e V ⟨rfl, hbV⟩
        have cG : V.cell? ⟨g, 0, none⟩ = some (.slice A' m c') := (HG.out.below hbV).cell 0
        have H2V := Lib.hid (H2.out V hbV)
        have HBV := Lib.hid (below0 HB.out hbV)
        clear hbV H1 H2 HG HB
        go_wp2_with fail
        refine (H2V.out).mono ?_
        rintro e V2 ⟨rfl, hb2⟩
        have HB2 := Lib.hid (below0 HBV.out hb2)
        clear hb2 H2V HBV cG
        go_wp2_with (go_at_call 8; refine (hwk.out _).mono ?_; rintro e w6 ⟨rfl, hb6⟩)
        go_ret
        exact ⟨rfl, below0 HB2.out hb6⟩
end Go.Proofs.Ytmocdokikcbjeaa
