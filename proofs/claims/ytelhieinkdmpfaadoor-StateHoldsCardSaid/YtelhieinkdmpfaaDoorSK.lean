import Derived.Test.YtelhieinkdmpfaaDoorSJ
import Derived.Test.YtelhieinkdmpfaaDoorGather
namespace Go.Proofs.YtelhieinkdmpfaaDoor.Sh
open Go.RowKit Go.Shelf
attribute [local go_sem] Oper.semAt_some

/- THE LAW's LIST OF SLOTS. -/
abbrev encV (x : Nat) : Value := .int .i64 (x : Int)
theorem map_encV (l : List Nat) : l.map encV = izs (hz l) := by simp [izs, hz]
theorem ownsRow_succ {w : World} {B n : Nat} {v : Value} {l : List Value} (h : w.ownsRow B 3 1 v (n + 1) l) : ∃ g c, v = .slice (some ⟨g, 0, none⟩) (n + 1) c := by
  obtain ⟨_, ⟨_, h0⟩ | ⟨g, cap, cur, rfl, _⟩⟩ := h
  · omega
  · exact ⟨g, cap, rfl⟩
/-- what All gives -/
def AllP (w : World) (L : List Nat) (e : Ending) (w' : World) : Prop := ∃ gf lb Pv, e = .returned (.func (.func gf) #[] lb) ∧ (∀ (args : Array Value) (V : World), (callFunc gf args).run Tryd.prog V = .ok (.enter gf args) V) ∧
    (∀ V : World, (binOp .eql 62 (.func (.func gf) #[] lb) .nilFunc).run Tryd.prog V = .ok (.bool false) V) ∧
    It Tryd.prog gf lb encN (fun _ _ => False) (preN L) Pv (allN L) (someN L) w' ∧ (∀ k, Pv k → w.heap.size ≤ k ∧ k < w'.heap.size) ∧ Below w.heap.size w w'
set_option maxRecDepth 100000 in
set_option maxHeartbeats 4000000 in
theorem all_of (v : Value) (P : List Nat) (x : Int) (many : Nat) (w : World) (hA : ∀ V, Below w.heap.size w V → Calls Tryd.prog 28 #[v, .int .i64 x] V (AllP V P)) (hm1 : 1 ≤ many) (hm : many ≤ 5000) :
    Calls Tryd.prog 20 #[v, .int .i64 x, .int .i64 (many : Int)] w fun e w' => ∃ u, e = .returned u ∧ Wi w' u (hz (P.take many)) ∧ Below w.heap.size w w' := by
  obtain ⟨i0, hi, hz0, hz1, hz2⟩ := info_parts int_info
  have HALL := Lib.hid hA
  clear hA
  refine calls_marks Tryd.func20 rfl ?_
  simp only [Tryd.ntmps20, List.size_toArray, List.length_cons, List.length_nil, Nat.reduceAdd, Nat.reduceSub, Array.replicate_succ, Array.replicate_zero, List.push_toArray, List.append_toArray, List.nil_append, List.cons_append]
  go_wp2_with fail
  refine (HALL.out _ (below2 _ _ _)).mono ?_
  rintro e w2 ⟨gf1, lb1, _, rfl, _, hnn, _, _, hb1⟩
  have hnn1 := hnn w2
  have hs2 : w.heap.size + 2 ≤ w2.heap.size := by have := hb1.size; simpa using this
  have hM2 : Boxed w2 w.heap.size 3 (.int .i64 (many : Int)) := (hb1.block _ (by simp only [World.size_alloc]; omega)).trans ((Boxed.new w _ _).alloc _)
  have hL2 : Boxed w2 (w.heap.size + 1) 34 (.slice none 0 0) := (hb1.block _ (by simp only [World.size_alloc]; omega)).trans (by have := Boxed.new (w.alloc (.cells #[.int .i64 (many : Int)] 3)) 34 (.slice none 0 0); rwa [World.size_alloc] at this)
  have hB2 : Below w.heap.size w w2 := (below2 _ _ _).trans (hb1.mono (by simp only [World.size_alloc]; omega))
  clear hb1 hnn
  go_wp2_with fail
  refine (HALL.out w2 hB2).mono ?_
  rintro e w3 ⟨gf, lb, Pv, rfl, hent, _, hit, hpv, hb2⟩
  have hs3 : w.heap.size + 2 ≤ w3.heap.size := by have := hb2.size; omega
  have hM3 : Boxed w3 w.heap.size 3 (.int .i64 (many : Int)) := (hb2.block _ (by omega)).trans hM2
  have hL3 : Boxed w3 (w.heap.size + 1) 34 (.slice none 0 0) := (hb2.block _ (by omega)).trans hL2
  have hB3 : Below w.heap.size w w3 := hB2.trans (hb2.mono (by omega))
  have hPv : ∀ k, Pv k → k < w3.heap.size ∧ k ≠ w.heap.size + 1 := fun k hk => ⟨(hpv k hk).2, by have := (hpv k hk).1; omega⟩
  clear hM2 hL2 hB2 hb2 HALL hpv
  go_wp2_with fail
  refine wpIn_wide.1 (wpIn_range_it (gf := gf) (lb := lb) rfl hent hit (fun k hk => (hPv k hk).1) (fun _ => rfl) (fun _ _ _ _ _ h => h)
    (gatI 3 34 3 encV w w.heap.size (w.heap.size + 1) w3.heap.size many) (gatX 3 34 3 encV w w.heap.size (w.heap.size + 1) w3.heap.size many) (gatI.abid (by omega)) (gatX.abid (by omega)) ?h0
    ?a1 ?assign ?body ?done ?stop)
  case h0 => exact ⟨⟨_, hL3, hM3, World.ownsRow_nil _ _ _ _, fun k h => (by cases h), hB3⟩, by simp; omega, fun _ h => h.elim⟩
  case assign =>
    intro l' x W' K hK
    simp only [encN]
    gi_wp2
    exact hK
  case body =>
    rintro l' pre x O V hVs hO ⟨⟨v, hbx, hbm, hown, hvO, hbl⟩, hlen, hOw⟩ hx _
    have hn : pre.length ≤ 5000 := by omega
    clear hx hnn1 hit hM3 hL3 hent
    obtain ⟨Av, cv, rfl⟩ := own_slice hown
    have hown1 := hown.alloc (.cells #[.int .i64 (x : Int)] 3)
    have hbx1 := hbx.alloc (.cells #[.int .i64 (x : Int)] 3)
    have hbm1 := hbm.alloc (.cells #[.int .i64 (x : Int)] 3)
    have hce := hbx.cell
    have hce1 := hbx1.cell
    have hb1 := hbx.not_row (by decide) hown
    have hb2 : some w.heap.size ≠ (Value.slice Av pre.length cv).ownBlock := fun e => by have := hOw _ (hvO _ e.symm); omega
    clear hbx hbm
    gi_wp2_with (gi_at_builtin; refine wpListIn_append_sees rfl (.tmp 17) (.tmp 19) 34 rfl w3.heap.size 3 i0 _ 1 8 Tryd.underlying34 hi hz0 hz1 hz2 rfl (by decide) _ pre.length (pre.map encV) rfl hown1 (V.heap.size + 1) (some ⟨V.heap.size, 0, none⟩) 1 1 [.int .i64 (x : Int)] rfl rfl (fun _ => ⟨_, rfl, by simp, cell_one_at _ _ _⟩) (by simp [Value.oneCell']) (by unfold maxLen; omega) (by omega) (by simp; omega) ?_; intro v' w4 hown4 hg4 hv4; obtain ⟨g4, cap4, rfl⟩ := ownsRow_succ hown4; have hbx4 := hbx1.kept hg4 hb1; have hbm4 := hbm1.kept hg4 hb2; have hx4c := hbx4.cell; have hx4f := hbx4.frozen; have hm4c := hbm4.cell)
    all_goals
      have hg5 : (V.alloc (.cells #[.int .i64 (x : Int)] 3)).grownBy w4 (Value.slice Av pre.length cv).ownBlock := hg4
      have hfin := Lib.hid (gat_round (x := x) (by omega) (by omega) (by omega) hPv hOw hvO hVs hown4 hg5 hv4 hbx4 hbm4 hbl (by simp))
    · obtain ⟨k1, k2, k3⟩ := hfin.out
      exact ⟨k1, rfl, k2, by simp; omega, k3⟩
    · obtain ⟨k1, k2, k3⟩ := hfin.out
      exact ⟨k1, k2, by simp; omega, k3⟩
  case done =>
    intro xs O V hall hI hD
    have hnO : ¬ O w3.heap.size := fun h => by have := hI.2.2 _ h; omega
    obtain ⟨v, hbx, hbm, hown, hvO, hbl⟩ := hI.1
    obtain ⟨v1, hbx', _, hown', _, hbl'⟩ := Gat.abid (by omega) _ _ _ _ (some w3.heap.size) hI.1 (putObj_grown V w3.heap.size (.deferred none)) (fun r e => by cases e; exact ⟨Nat.le_refl _, hnO⟩)
    have hvv : v = v1 := by
      have h := hbx.kept (putObj_grown V w3.heap.size (.deferred none)) (by simp; omega)
      have h1 := h.cell.symm.trans hbx'.cell
      injection h1
    subst hvv
    obtain ⟨Av, cv, rfl⟩ := own_slice hown
    have hcv := hbx.cell
    have hfin := Lib.hid (show ∃ u, Ending.returned (Value.slice Av xs.length cv) = .returned u ∧ Wi (V.putObj w3.heap.size (.deferred none)) u (hz (P.take many)) ∧ Below w.heap.size w (V.putObj w3.heap.size (.deferred none)) from by
      have hxs : xs = P := hall
      rw [show P.take many = xs by rw [← hxs, List.take_of_length_le (by have := hI.2.1; omega)]]
      rw [map_encV] at hown'
      exact ⟨_, rfl, wi_own hown', hbl'⟩)
    clear hall hI hbx hbm hown hvO hbl hbx' hown' hbl'
    go_wp2
    refine ⟨by simp, .inl ⟨_, _, rfl, run_takeDeferred hD, ?_⟩⟩
    exact ⟨_, results_tmp (t := 6) rfl _ _ _, hfin.out⟩
  case stop =>
    rintro c' xs O V hall ⟨rfl, hI, hlen, hOw⟩ hD
    have hnO : ¬ O w3.heap.size := fun h => by have := hOw _ h; omega
    have hI2 := hI
    obtain ⟨v, hbx, hbm, hown, hvO, hbl⟩ := hI
    obtain ⟨v1, hbx', _, hown', _, hbl'⟩ := Gat.abid (by omega) _ _ _ _ (some w3.heap.size) hI2 (putObj_grown V w3.heap.size (.deferred none)) (fun r e => by cases e; exact ⟨Nat.le_refl _, hnO⟩)
    have hvv : v = v1 := by
      have h := hbx.kept (putObj_grown V w3.heap.size (.deferred none)) (by simp; omega)
      have h1 := h.cell.symm.trans hbx'.cell
      injection h1
    subst hvv
    obtain ⟨Av, cv, rfl⟩ := own_slice hown
    have hcv := hbx.cell
    have hfin := Lib.hid (show ∃ u, Ending.returned (Value.slice Av xs.length cv) = .returned u ∧ Wi (V.putObj w3.heap.size (.deferred none)) u (hz (P.take many)) ∧ Below w.heap.size w (V.putObj w3.heap.size (.deferred none)) from by
      obtain ⟨post, hp⟩ := hall
      rw [show P.take many = xs by rw [hp, ← hlen, List.take_left]]
      rw [map_encV] at hown'
      exact ⟨_, rfl, wi_own hown', hbl'⟩)
    clear hall hI2 hbx hbm hown hvO hbl hbx' hown' hbl' hlen
    refine wpIn_wide.2 ?_
    go_wp2
    refine ⟨by simp, .inl ⟨_, _, rfl, run_takeDeferred hD, ?_⟩⟩
    exact ⟨_, results_tmp (t := 6) rfl _ _ _, hfin.out⟩
theorem all_any {Has : HasT} (H : Api Has) (v : Value) (l : Ls) (F : Nat → Prop) (x : Int) (many : Nat) (w : World) (h : Has w v l F) (hx : i64 x) (hm1 : 1 ≤ many) (hm : many ≤ 5000) :
    Calls Tryd.prog 20 #[v, .int .i64 x, .int .i64 (many : Int)] w fun e w' => ∃ u, e = .returned u ∧ Wi w' u (hz ((places l x).take many)) ∧ Below w.heap.size w w' :=
  all_of v (places l x) x many w (fun _ hb => H.all x (H.below h hb) hx) hm1 hm
end Go.Proofs.YtelhieinkdmpfaaDoor.Sh
