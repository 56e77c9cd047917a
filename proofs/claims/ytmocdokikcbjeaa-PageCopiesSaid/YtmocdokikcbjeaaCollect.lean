import Derived.Test.YtmocdokikcbjeaaAllF
import Derived.Test.YtmocdokikcbjeaaGatherK
namespace Go.Proofs.Ytmocdokikcbjeaa
open Go.RowKit Go.Shelf Go.Maps Go.Sort
attribute [local go_sem] Oper.semAt_some

/- THE LAW's LIST OF AN OWNER's PAGES. -/
def encR (x : Int × En) : List Value := [.int .i64 x.1, .int .i64 x.2.1, .int .i64 x.2.2.1, .int .i64 x.2.2.2]
theorem row_info : (Try.prog.info? 46).map (fun i => (i.zero, i.size, i.bytes)) = some (some (.agg #[.int .i64 0, .int .i64 0, .int .i64 0, .int .i64 0]), 4, 32) := by kernel_rfl
/-- rows in memory -/
def RowsP (w : World) (xs : Tb) (e : Ending) (w' : World) : Prop := ∃ A c, e = .returned (.slice A xs.length c) ∧ w'.ownsRow w.heap.size 46 4 (.slice A xs.length c) xs.length (xs.flatMap encR) ∧ Below w.heap.size w w'
theorem got_done {l xs : Tb} {many : Nat} (h : allR l xs) (hm : xs.length < many) : xs = l.take many := by
  rw [← show xs = l from h, List.take_of_length_le (by omega)]
theorem got_stop {l xs : Tb} {many : Nat} (h : someR l xs) (hm : xs.length = many) : xs = l.take many := by
  obtain ⟨post, h⟩ := h
  rw [h, ← hm, List.take_left]
theorem cells_row_new (w : World) (l : List Value) (t : TypeId) : ∀ (j : Nat) (u : Value), l[j]? = some u → (w.alloc (.cells l.toArray t)).cell? ((⟨w.heap.size, 0, none⟩ : Addr).add j) = some u := fun j u hu => by
  rw [add_plain, Nat.zero_add, cell_alloc_new]
  simpa using hu

theorem gatK_box {α : Type} {ti ts te : TypeId} {enc : α → List Value} {kk : Nat} {w V V1 W' : World} {bm bl B2 many : Nat} {Pv : Nat → Prop} {pre : List α} {O : Nat → Prop} (hb : Below V.heap.size V V1) (hVs : B2 + 2 ≤ V.heap.size) (hOw : ∀ k, O k → B2 + 2 ≤ k)
    (h : Keeps Pv B2 O (fun _ => False) V1 W' ∧ GatK ti ts te enc kk w bm bl B2 many pre (nextO O (fun _ => False) V1 W') W' ∧ ∀ k, nextO O (fun _ => False) V1 W' k → B2 + 2 ≤ k) :
    Keeps Pv B2 O (fun _ => False) V W' ∧ GatK ti ts te enc kk w bm bl B2 many pre (nextO O (fun _ => False) V W') W' ∧ ∀ k, nextO O (fun _ => False) V W' k → B2 + 2 ≤ k := by
  obtain ⟨h1, ⟨v, g1, g2, g3, g4, g5⟩, h3⟩ := h
  have hs := hb.size
  refine ⟨⟨Nat.le_trans hs h1.size, fun k hk hp => (h1.same k (by omega) hp).trans (hb.block k hk)⟩, ⟨v, g1, g2, g3, fun k hk => ?_, g5⟩, fun k hk => ?_⟩
  · rcases g4 k hk with h | h | h
    · exact .inl h
    · exact h.elim
    · exact .inr (.inr ⟨by omega, h.2⟩)
  · rcases hk with h | h | h
    · exact hOw k h
    · exact h.elim
    · omega
set_option maxRecDepth 100000 in
set_option maxHeartbeats 2000000 in
theorem all_any {b bp bf : Nat} {l0 : Tb} {w : World} (h : Rep w b l0 bp bf) (o : Int) (many : Nat) (hm1 : 1 ≤ many) (hm : many ≤ 100000) :
    Calls Try.prog 23 #[bx b, .int .i64 o, .int .i64 (many : Int)] w (RowsP w ((ofO l0 o).take many)) := by
  have hnn : ∀ bo w, (binOp .eql 42 (.func (.func 37) #[] #[.pointer (some ⟨bo, 0, none⟩)]) .nilFunc).run Try.prog w = .ok (.bool false) w := fun bo w => by kernel_rfl
  obtain ⟨i0, hi, hz0, hz1, hz2⟩ := info_parts row_info
  have HA := Lib.hid (fun V (hb : Below w.heap.size w V) => allF_any (h.below hb) o)
  have hok : Tok (ofO l0 o) := ofO_ok h.ok _
  obtain ⟨l, hl⟩ : ∃ l, l = ofO l0 o := ⟨_, rfl⟩
  rw [← hl] at HA hok ⊢
  clear hl h
  refine calls_marks Try.func23 rfl ?_
  simp only [Try.ntmps23, List.size_toArray, List.length_cons, List.length_nil, Nat.reduceAdd, Nat.reduceSub, Array.replicate_succ, Array.replicate_zero, List.push_toArray, List.append_toArray, List.nil_append, List.cons_append]
  go_wp2_with fail
  refine (HA.out _ (below2 _ _ _)).mono ?_
  rintro e w2 ⟨bw1, bm1, rfl, _, _, _, _, hb1⟩
  have hnn1 := hnn bw1 w2
  have hs2 : w.heap.size + 2 ≤ w2.heap.size := by have := hb1.size; simpa using this
  have hM2 : Boxed w2 w.heap.size 3 (.int .i64 (many : Int)) := (hb1.block _ (by simp only [World.size_alloc]; omega)).trans ((Boxed.new w _ _).alloc _)
  have hL2 : Boxed w2 (w.heap.size + 1) 27 (.slice none 0 0) := (hb1.block _ (by simp only [World.size_alloc]; omega)).trans (by have := Boxed.new (w.alloc (.cells #[.int .i64 (many : Int)] 3)) 27 (.slice none 0 0); rwa [World.size_alloc] at this)
  have hB2 : Below w.heap.size w w2 := (below2 _ _ _).trans (hb1.mono (by simp only [World.size_alloc]; omega))
  clear hb1 hnn
  go_wp2_with fail
  refine (HA.out _ hB2).mono ?_
  rintro e w3 ⟨bw, bm, rfl, hbw, hbm0, hcw, hown0, hb2⟩
  have hs3 : w.heap.size + 2 ≤ w3.heap.size := by have := hb2.size; omega
  have hM3 : Boxed w3 w.heap.size 3 (.int .i64 (many : Int)) := (hb2.block _ (by omega)).trans hM2
  have hL3 : Boxed w3 (w.heap.size + 1) 27 (.slice none 0 0) := (hb2.block _ (by omega)).trans hL2
  have hB3 : Below w.heap.size w w3 := hB2.trans (hb2.mono (by omega))
  have hit := all2_it l bw bm w3 hok hcw hown0
  have hPv : ∀ k, (k = bw ∨ k = bm) → k < w3.heap.size ∧ k ≠ w.heap.size + 1 := by
    rintro k (rfl | rfl)
    · exact ⟨lt_of_cell hcw, by omega⟩
    · exact ⟨hown0.lt, by omega⟩
  clear hM2 hL2 hB2 hb2 hcw hown0 HA
  go_wp2_with fail
  refine wpIn_wide.1 (wpIn_range_box (gf := 37) (lb := #[bx bw]) rfl (enters_of Try.func37 (by kernel_rfl) rfl) hit (fun k hk => (hPv k hk).1) (fun _ => rfl) (fun _ _ _ _ _ h => h)
    (gatKI 3 27 46 encR 4 w w.heap.size (w.heap.size + 1) w3.heap.size many) (gatKX 3 27 46 encR 4 w w.heap.size (w.heap.size + 1) w3.heap.size many) (gatKI.abid (by omega)) (gatKX.abid (by omega)) ?h0
    (fun g x => { tmps := #[bx b, .int .i64 o, .int .i64 (many : Int), undef, undef, bx w.heap.size, .slice none 0 0, bx (w.heap.size + 1), .int .i64 x.1, bx g, bx b, .int .i64 o, .func (.func 37) #[] #[bx bw1], .bool false, bx b, .int .i64 o, .func (.func 37) #[] #[bx bw], .int .i64 x.1, .agg #[.int .i64 x.2.1, .int .i64 x.2.2.1, .int .i64 x.2.2.2], undef, undef, undef, undef, undef, undef, undef, undef, undef, undef, undef], defers := [] })
    (fun x => .cells #[.int .i64 x.2.1, .int .i64 x.2.2.1, .int .i64 x.2.2.2] 34) ?assign ?body ?done ?stop)
  case h0 => exact ⟨⟨_, hL3, hM3, World.ownsRow_nil _ _ _ _, fun k h => (by cases h), hB3⟩, by simp; omega, fun _ h => h.elim⟩
  case assign =>
    intro l' x W' K hK
    simp only [encP]
    gi_wp2
    exact hK
  case body =>
    rintro l' pre x O V hVs hO ⟨⟨v, hbx, hbm, hown, hvO, hbl⟩, hlen, hOw⟩ hx _
    have hn : pre.length ≤ 100000 := by omega
    clear hx hnn1 hit hM3 hL3
    obtain ⟨Av, cv, rfl⟩ := own_slice hown
    obtain ⟨V1, hV1⟩ : ∃ V1, V1 = V.alloc (Obj.cells #[Value.int IntKind.i64 x.2.1, Value.int IntKind.i64 x.2.2.1, Value.int IntKind.i64 x.2.2.2] 34) := ⟨_, rfl⟩
    have hz1 : V1.heap.size = V.heap.size + 1 := by rw [hV1]; simp
    have hrow : Row V1 V.heap.size 34 [.int .i64 x.2.1, .int .i64 x.2.2.1, .int .i64 x.2.2.2] := by rw [hV1]; exact Row.new _ _ _
    have e2 : V1.cell? ⟨V.heap.size, 0, none⟩ = some (.int .i64 x.2.1) := hrow.cell 0
    have e3 : V1.cell? ⟨V.heap.size, 1, none⟩ = some (.int .i64 x.2.2.1) := hrow.cell 1
    have e4 : V1.cell? ⟨V.heap.size, 2, none⟩ = some (.int .i64 x.2.2.2) := hrow.cell 2
    have hownV : V1.ownsRow w3.heap.size 46 4 (.slice Av pre.length cv) pre.length (pre.flatMap encR) := by rw [hV1]; exact hown.alloc _
    have hbxV : Boxed V1 (w.heap.size + 1) 27 (.slice Av pre.length cv) := by rw [hV1]; exact hbx.alloc _
    have hbmV : Boxed V1 w.heap.size 3 (.int .i64 (many : Int)) := by rw [hV1]; exact hbm.alloc _
    have hblV : Below w.heap.size w V1 := by rw [hV1]; exact hbl.alloc hbl.size _
    have hown1 := hownV.alloc (.cells #[.int .i64 x.1, .int .i64 x.2.1, .int .i64 x.2.2.1, .int .i64 x.2.2.2] 46)
    have hbx1 := hbxV.alloc (.cells #[.int .i64 x.1, .int .i64 x.2.1, .int .i64 x.2.2.1, .int .i64 x.2.2.2] 46)
    have hbm1 := hbmV.alloc (.cells #[.int .i64 x.1, .int .i64 x.2.1, .int .i64 x.2.2.1, .int .i64 x.2.2.2] 46)
    have hce := hbxV.cell
    have hce1 := hbx1.cell
    have hb1 := hbx.not_row (by decide) hown
    have hb2 : some w.heap.size ≠ (Value.slice Av pre.length cv).ownBlock := fun e => by have := hOw _ (hvO _ e.symm); omega
    have hOw1 : ∀ k, O k → k < V.heap.size := fun k h => (hO k h).2
    have hZ := Lib.hid (And.intro hz1 (And.intro hV1 hOw1))
    rw [← hV1]
    clear hbx hbm hrow hz1 hV1 hOw1
    gi_wp2_with (gi_at_builtin; refine wpListIn_append_sees rfl (.tmp 19) (.tmp 23) 27 rfl w3.heap.size 46 i0 _ 4 32 Try.underlying27 hi hz0 hz1 hz2 rfl (by decide) _ pre.length (pre.flatMap encR) rfl hown1 (V1.heap.size + 1) (some ⟨V1.heap.size, 0, none⟩) 1 1 (encR x) rfl rfl (fun _ => ⟨_, rfl, by simp, cells_row_new _ _ _⟩) (by simp [encR, Value.oneCell']) (by unfold maxLen; omega) (by omega) (by have := hZ.out.1; simp; omega) ?_; intro v' w4 hown4 hg4 hv4; obtain ⟨g4, cap4, rfl⟩ := ownsRow_succ hown4; have hbx4 := hbx1.kept hg4 hb1; have hbm4 := hbm1.kept hg4 hb2; have hx4c := hbx4.cell; have hx4f := hbx4.frozen; have hm4c := hbm4.cell)
    all_goals
      have hg5 : (V1.alloc (.cells #[.int .i64 x.1, .int .i64 x.2.1, .int .i64 x.2.2.1, .int .i64 x.2.2.2] 46)).grownBy w4 (Value.slice Av pre.length cv).ownBlock := hg4
      have hfin := Lib.hid (gatK_box (V := V) (hZ.out.2.1 ▸ below1 V _) hVs hOw (gatK_round (x := x) (by omega) (by omega) (by omega) hPv hOw hvO (by have := hZ.out.1; omega) hown4 hg5 hv4 hbx4 hbm4 hblV (by simp)))
    · obtain ⟨k1, k2, k3⟩ := hfin.out
      exact ⟨k1, rfl, k2, by simp; omega, k3⟩
    · obtain ⟨k1, k2, k3⟩ := hfin.out
      exact ⟨k1, k2, by simp; omega, k3⟩
  case done =>
    intro xs O V hall hI hD
    have hnO : ¬ O w3.heap.size := fun h => by have := hI.2.2 _ h; omega
    obtain ⟨v, hbx, hbm, hown, hvO, hbl⟩ := hI.1
    obtain ⟨v1, hbx', _, hown', _, hbl'⟩ := GatK.abid (by omega) _ _ _ _ (some w3.heap.size) hI.1 (putObj_grown V w3.heap.size (.deferred none)) (fun r e => by cases e; exact ⟨Nat.le_refl _, hnO⟩)
    have hvv : v = v1 := by
      have h := hbx.kept (putObj_grown V w3.heap.size (.deferred none)) (by simp; omega)
      have h1 := h.cell.symm.trans hbx'.cell
      injection h1
    subst hvv
    obtain ⟨Av, cv, rfl⟩ := own_slice hown
    have hcv := hbx.cell
    have hfin := Lib.hid (show RowsP w (l.take many) (.returned (.slice Av xs.length cv)) (V.putObj w3.heap.size (.deferred none)) from by
      rw [← got_done hall hI.2.1]
      exact ⟨_, _, rfl, own_mono hown' (by omega), hbl'⟩)
    clear hall hI hbx hbm hown hvO hbl hbx' hown' hbl'
    go_wp2
    refine ⟨by simp, .inl ⟨_, _, rfl, run_takeDeferred hD, ?_⟩⟩
    exact ⟨_, results_tmp (t := 6) rfl _ _ _, hfin.out⟩
  case stop =>
    rintro c' xs O V hall ⟨rfl, hI, hlen, hOw⟩ hD
    have hnO : ¬ O w3.heap.size := fun h => by have := hOw _ h; omega
    have hI2 := hI
    obtain ⟨v, hbx, hbm, hown, hvO, hbl⟩ := hI
    obtain ⟨v1, hbx', _, hown', _, hbl'⟩ := GatK.abid (by omega) _ _ _ _ (some w3.heap.size) hI2 (putObj_grown V w3.heap.size (.deferred none)) (fun r e => by cases e; exact ⟨Nat.le_refl _, hnO⟩)
    have hvv : v = v1 := by
      have h := hbx.kept (putObj_grown V w3.heap.size (.deferred none)) (by simp; omega)
      have h1 := h.cell.symm.trans hbx'.cell
      injection h1
    subst hvv
    obtain ⟨Av, cv, rfl⟩ := own_slice hown
    have hcv := hbx.cell
    have hfin := Lib.hid (show RowsP w (l.take many) (.returned (.slice Av xs.length cv)) (V.putObj w3.heap.size (.deferred none)) from by
      rw [← got_stop hall hlen]
      exact ⟨_, _, rfl, own_mono hown' (by omega), hbl'⟩)
    clear hall hI2 hbx hbm hown hvO hbl hbx' hown' hbl' hlen
    refine wpIn_wide.2 ?_
    go_wp2
    refine ⟨by simp, .inl ⟨_, _, rfl, run_takeDeferred hD, ?_⟩⟩
    exact ⟨_, results_tmp (t := 6) rfl _ _ _, hfin.out⟩
end Go.Proofs.Ytmocdokikcbjeaa
