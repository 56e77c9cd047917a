import Derived.Test.YtelhieinkdmpfaaDoorSI
namespace Go.Proofs.YtelhieinkdmpfaaDoor.Sh
open Go.RowKit Go.Shelf
attribute [local go_sem] Oper.semAt_some

/- A CALL BY BOTH. -/
set_option maxRecDepth 100000 in
set_option maxHeartbeats 2000000 in
theorem act_any {Has : HasT} (H : Api Has) (v vv : Value) (l : Ls) (F : Nat → Prop) (x : Ac) (w : World) (hT : Tb w) (h : Has w v l F) (hv : Wi w vv l) (ha : Ap vv l F) (hx : x.fits) :
    Calls Tryd.prog 24 #[v, vv, .agg x.cells.toArray] w (ActP Has w F vv (actL l x)) := by
  obtain ⟨cp, a, t⟩ := x
  obtain ⟨W0, hW0⟩ : ∃ W0, W0 = w.alloc (.cells #[.bool cp, .int .i64 a, .int .i64 t] 55) := ⟨_, rfl⟩
  have hB0 : Below w.heap.size w W0 := by rw [hW0]; exact below1 _ _
  have hrow : Row W0 w.heap.size 55 [.bool cp, .int .i64 a, .int .i64 t] := by rw [hW0]; exact Row.new w _ _
  have hal : ∀ k, F k → k < w.heap.size := H.lt h
  cases cp
  · show Calls Tryd.prog 24 #[v, vv, .agg #[.bool false, .int .i64 a, .int .i64 t]] w (ActP Has w F vv (moveL l a t))
    have HR := Lib.hid (rmove_wi l vv a t W0 (H.most h) (hv.below hB0))
    have HM := Lib.hid (fun V (hb : Below w.heap.size w V) => H.move a t (hT.below hb) (H.below h hb) hx.1 hx.2)
    have HROW := Lib.hid hrow
    have HB0 := Lib.hid hB0
    have HAL := Lib.hid hal
    have HAP : Hid (∀ (w1 : World) (vv' : Value) (F' : Nat → Prop), Wi w1 vv' (moveL l a t) → W0.heap.size ≤ w1.heap.size → (vv' = vv ∨ ∀ g, vv'.ownBlock = some g → W0.heap.size ≤ g) → (∀ k, F' k → F k ∨ w1.heap.size ≤ k) → Ap vv' (moveL l a t) F') := Lib.hid (fun w1 vv' F' hw hsz hnew hF hn g hg hf => by
      have h1 := hw.lt hn g hg
      rcases hF g hf with h2 | h2
      · rcases hnew with rfl | h3
        · exact ha (fun e => hn (by subst e; unfold moveL; split <;> rfl)) g hg h2
        · have := h3 g hg
          have := hal g h2
          have := hB0.size
          omega
      · omega)
    have c0 := hrow.cell 0
    have HW0 := Lib.hid hW0
    rw [hW0] at c0
    simp only [List.getElem?_cons_zero] at c0
    obtain ⟨mw, hmw⟩ : ∃ mw, mw = moveW l a t := ⟨_, rfl⟩
    obtain ⟨me, hme⟩ : ∃ me, me = moveE l a t := ⟨_, rfl⟩
    rw [← hmw, ← hme] at HR HM
    have e1 : (mw == mw) = true := by simp
    have e2 : (me == me) = true := by simp
    have c1 : W0.cell? ⟨w.heap.size, 1, none⟩ = some (.int .i64 a) := hrow.cell 1
    have c2 : W0.cell? ⟨w.heap.size, 2, none⟩ = some (.int .i64 t) := hrow.cell 2
    rw [hW0] at c1 c2
    have HN := Lib.hid (fun w => num_any me w)
    clear h hT hv hx hB0 hrow hal hmw hme ha hW0
    go_enter Tryd.func24, Tryd.ntmps24
    go_wp2_with fail
    rw [← HW0.out]
    refine (HR.out).mono ?_
    rintro e w1 ⟨vv', rfl, a1, a2, a3⟩
    have hr1 := HROW.out.below a2
    have c1 : w1.cell? ⟨w.heap.size, 1, none⟩ = some (.int .i64 a) := hr1.cell 1
    have c2 : w1.cell? ⟨w.heap.size, 2, none⟩ = some (.int .i64 t) := hr1.cell 2
    have HB1 := Lib.hid (below0 HB0.out a2)
    have HA1 := Lib.hid (And.intro a1 (And.intro a2.size a3))
    clear a1 a2 a3 hr1 HR
    go_wp2_with fail
    refine (HM.out _ HB1.out).mono ?_
    rintro e w2 ⟨rfl, F', n1, n2, n3⟩
    have HFIN := Lib.hid (show ActP Has w F vv (moveL l a t) (.returned (.tuple #[v, vv', .bool true])) w2 from ⟨v, vv', F', rfl, n1, HA1.out.1.keep (HAP.out w1 vv' F HA1.out.1 HA1.out.2.1 HA1.out.2.2 (fun k hk => .inl hk)) n2, HAP.out w1 vv' F' HA1.out.1 HA1.out.2.1 HA1.out.2.2 n3, (Keep.of_below HB1.out).trans n2 (fun _ _ hf => hf), fun k hk => (n3 k hk).elim .inl (fun e => .inr (by have := HB1.out.size; omega)), HA1.out.2.2.imp (fun e => e) (fun f g hg => Nat.le_trans HB0.out.size (f g hg))⟩)
    clear n1 n2 n3
    go_wp2_with fail
    refine (HN.out _).mono ?_
    rintro e w3 ⟨rfl, rfl⟩
    go_wp2_with fail
    exact bodyPost_ret (v := .tuple #[v, vv', .bool true]) (by simp [results, Tryd.results24, go_sem]) rfl HFIN.out
  · show Calls Tryd.prog 24 #[v, vv, .agg #[.bool true, .int .i64 a, .int .i64 t]] w (ActP Has w F vv l)
    have HC := Lib.hid (fun V (hb : Below w.heap.size w V) => H.copy (H.below h hb))
    have HV := Lib.hid (fun V (hb : Below w.heap.size w V) => hv.below hb)
    have HAP : Hid (∀ (V : World) (F' : Nat → Prop), Below w.heap.size w V → (∀ k, F' k → V.heap.size ≤ k) → Ap vv l F') := Lib.hid (fun V F' hb hF hn g hg hf => by
      have h1 := hF g hf
      have h2 := hv.lt hn g hg
      have h3 := hb.size
      omega)
    have c0 := hrow.cell 0
    rw [hW0] at c0
    simp only [List.getElem?_cons_zero] at c0
    have HB0 := Lib.hid hB0
    have HW0 := Lib.hid hW0
    clear h hT hv hx hB0 hrow hal ha hW0
    go_enter Tryd.func24, Tryd.ntmps24
    go_wp2_with fail
    rw [← HW0.out]
    refine (HC.out _ HB0.out).mono ?_
    rintro e w1 ⟨v', F', rfl, a1, a2, a3⟩
    have HFIN := Lib.hid (show ActP Has w F vv l (.returned (.tuple #[v', vv, .bool true])) w1 from ⟨v', vv, F', rfl, a1, HV.out _ (below0 HB0.out a3), HAP.out W0 F' HB0.out a2, Keep.of_below (below0 HB0.out a3), fun k hk => .inr (by have := a2 k hk; have := HB0.out.size; omega), .inl rfl⟩)
    clear a1 a2 a3
    go_wp2_with fail
    exact bodyPost_ret (v := .tuple #[v', vv, .bool true]) (by simp [results, Tryd.results24, go_sem]) rfl HFIN.out
end Go.Proofs.YtelhieinkdmpfaaDoor.Sh
