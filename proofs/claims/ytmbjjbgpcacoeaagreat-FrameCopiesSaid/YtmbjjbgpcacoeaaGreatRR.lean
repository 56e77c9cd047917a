import Derived.Test.YtmbjjbgpcacoeaaGreatRQ
namespace Go.Proofs.YtmbjjbgpcacoeaaGreat
open Go.RowKit Go.Shelf Go.Maps Go.Sort
attribute [local go_sem] Oper.semAt_some

/- THE LAW's all, WHERE THERE IS NO POOL. -/
def AllN (w : World) (e : Ending) (w' : World) : Prop := ∃ bw, e = .returned (.func (.func 49) #[] #[.pointer (some ⟨bw, 0, none⟩)]) ∧ w.heap.size ≤ bw ∧ w'.cell? ⟨bw, 1, none⟩ = some (.map none) ∧ Below w.heap.size w w'
set_option maxRecDepth 100000 in
set_option maxHeartbeats 1000000 in
theorem allF_nil (v : Value) (w : World) (h : Non w v) : Calls Tryz.prog 12 #[v] w (AllN w) := by
  have H1 := Lib.hid (there_non v _ (h.below (below1 w (.cells Tryz.zeroCells94 94))))
  have HF := Lib.hid (show AllN w (.returned (.func (.func 49) #[] #[.pointer (some ⟨w.heap.size, 0, none⟩)])) (w.alloc (.cells Tryz.zeroCells94 94)) from
    ⟨w.heap.size, rfl, Nat.le_refl _, by
      simp only [World.cell?, World.alloc_heap_new w _]
      kernel_rfl, below1 w _⟩)
  obtain ⟨pv, rfl⟩ : ∃ pv, v = .pointer pv := by
    rcases h with rfl | ⟨b, rfl, _⟩
    · exact ⟨_, rfl⟩
    · exact ⟨_, rfl⟩
  clear h
  go_enter Tryz.func12, Tryz.ntmps12
  go_wp2_with fail
  refine (H1.out).mono ?_
  rintro e w1 ⟨rfl, rfl⟩
  go_wp2_with fail
  go_ret
  exact HF.out
set_option maxRecDepth 100000 in
set_option maxHeartbeats 2000000 in
theorem all_nil {v : Value} {w : World} (h : Non w v) (many : Nat) (hm1 : 1 ≤ many) :
    Calls Tryz.prog 57 #[v, .int .i64 (many : Int)] w (RowsP w []) := by
  have hnn : ∀ bo w, (binOp .eql 43 (.func (.func 49) #[] #[.pointer (some ⟨bo, 0, none⟩)]) .nilFunc).run Tryz.prog w = .ok (.bool false) w := fun bo w => by kernel_rfl
  have HA := Lib.hid (fun V (hb : Below w.heap.size w V) => allF_nil v V (h.below hb))
  obtain ⟨pv, rfl⟩ : ∃ pv, v = .pointer pv := by
    rcases h with rfl | ⟨b, rfl, _⟩
    · exact ⟨_, rfl⟩
    · exact ⟨_, rfl⟩
  clear h
  refine calls_marks Tryz.func57 rfl ?_
  simp only [Tryz.ntmps57, List.size_toArray, List.length_cons, List.length_nil, Nat.reduceAdd, Nat.reduceSub, Array.replicate_succ, Array.replicate_zero, List.push_toArray, List.append_toArray, List.nil_append, List.cons_append]
  go_wp2_with fail
  refine (HA.out _ (below2 _ _ _)).mono ?_
  rintro e w2 ⟨bw1, rfl, _, _, hb1⟩
  have hnn1 := hnn bw1 w2
  have hs2 : w.heap.size + 2 ≤ w2.heap.size := by have := hb1.size; simpa using this
  have hM2 : Boxed w2 w.heap.size 3 (.int .i64 (many : Int)) := (hb1.block _ (by simp only [World.size_alloc]; omega)).trans ((Boxed.new w _ _).alloc _)
  have hL2 : Boxed w2 (w.heap.size + 1) 49 (.slice none 0 0) := (hb1.block _ (by simp only [World.size_alloc]; omega)).trans (by have := Boxed.new (w.alloc (.cells #[.int .i64 (many : Int)] 3)) 49 (.slice none 0 0); rwa [World.size_alloc] at this)
  have hB2 : Below w.heap.size w w2 := (below2 _ _ _).trans (hb1.mono (by simp only [World.size_alloc]; omega))
  clear hb1 hnn
  go_wp2_with fail
  refine (HA.out _ hB2).mono ?_
  rintro e w3 ⟨bw, rfl, hbw, hcw, hb2⟩
  have hs3 : w.heap.size + 2 ≤ w3.heap.size := by have := hb2.size; omega
  have hM3 : Boxed w3 w.heap.size 3 (.int .i64 (many : Int)) := (hb2.block _ (by omega)).trans hM2
  have hL3 : Boxed w3 (w.heap.size + 1) 49 (.slice none 0 0) := (hb2.block _ (by omega)).trans hL2
  have hB3 : Below w.heap.size w w3 := hB2.trans (hb2.mono (by omega))
  have hit := all0_it bw w3 hcw
  have hPv : ∀ k, k = bw → k < w3.heap.size ∧ k ≠ w.heap.size + 1 := by
    rintro k rfl
    exact ⟨lt_of_cell hcw, by omega⟩
  clear hM2 hL2 hB2 hb2 hcw HA
  go_wp2_with fail
  refine wpIn_wide.1 (wpIn_range_it (gf := 49) (lb := #[.pointer (some ⟨bw, 0, none⟩)]) rfl (enters_of Tryz.func49 (by kernel_rfl) rfl) hit (fun k hk => (hPv k hk).1) (fun _ => rfl) (fun _ _ _ _ _ h => h)
    (gatKI 3 49 51 encR 2 w w.heap.size (w.heap.size + 1) w3.heap.size many) (gatKX 3 49 51 encR 2 w w.heap.size (w.heap.size + 1) w3.heap.size many) (gatKI.abid (by omega)) (gatKX.abid (by omega)) ?h0
    (fun x => { tmps := #[.pointer pv, .int .i64 (many : Int), undef, .pointer (some ⟨w.heap.size, 0, none⟩), .slice none 0 0, .pointer (some ⟨w.heap.size + 1, 0, none⟩), .int .i64 (x.1 : Int), .int .i64 (x.2 : Int), .pointer pv, .func (.func 49) #[] #[.pointer (some ⟨bw1, 0, none⟩)], .bool false, .pointer pv, .func (.func 49) #[] #[.pointer (some ⟨bw, 0, none⟩)], .int .i64 (x.1 : Int), .int .i64 (x.2 : Int), undef, undef, undef, undef, undef, undef, undef, undef, undef, undef, undef], defers := [] }) ?assign ?body ?done ?stop)
  case h0 => exact ⟨⟨_, hL3, hM3, World.ownsRow_nil _ _ _ _, fun k h => (by cases h), hB3⟩, by simp; omega, fun _ h => h.elim⟩
  case assign =>
    intro l' x W' K hK
    simp only [encP]
    gi_wp2
    exact hK
  case body =>
    rintro l' pre x O V hVs hO _ hx _
    exact hx.elim
  case done =>
    intro xs O V hall hI hD
    have hnO : ¬ O w3.heap.size := fun h => by have := hI.2.2 _ h; omega
    obtain ⟨v, hbx, hbm, hown, hvO, hbl⟩ := hI.1
    obtain ⟨v1, hbx', _, hown', _, hbl'⟩ := GatK.abid (by omega) _ _ _ _ (some w3.heap.size) hI.1 (putObj_grown V w3.heap.size (.deferred none)) (fun r e => by cases e; exact ⟨Nat.le_refl _, hnO⟩)
    have hvv : v = v1 := by
      have h := hbx.kept (putObj_grown V w3.heap.size (.deferred none)) (by simp; omega)
      have h1 := h.cell.symm.trans hbx'.cell
      injection h1
    subst hvv
    obtain ⟨Av, cv, rfl⟩ := own_slice hown
    have hcv := hbx.cell
    have hfin := Lib.hid (show RowsP w [] (.returned (.slice Av xs.length cv)) (V.putObj w3.heap.size (.deferred none)) from by
      have e : xs = [] := hall
      subst e
      exact ⟨_, _, rfl, own_mono hown' (by omega), hbl'⟩)
    clear hall hI hbx hbm hown hvO hbl hbx' hown' hbl'
    go_wp2
    refine ⟨by simp, .inl ⟨_, _, rfl, run_takeDeferred hD, ?_⟩⟩
    exact ⟨_, results_tmp (t := 4) rfl _ _ _, hfin.out⟩
  case stop =>
    rintro c' xs O V hall ⟨rfl, hI, hlen, hOw⟩ hD
    have hnO : ¬ O w3.heap.size := fun h => by have := hOw _ h; omega
    have hI2 := hI
    obtain ⟨v, hbx, hbm, hown, hvO, hbl⟩ := hI
    obtain ⟨v1, hbx', _, hown', _, hbl'⟩ := GatK.abid (by omega) _ _ _ _ (some w3.heap.size) hI2 (putObj_grown V w3.heap.size (.deferred none)) (fun r e => by cases e; exact ⟨Nat.le_refl _, hnO⟩)
    have hvv : v = v1 := by
      have h := hbx.kept (putObj_grown V w3.heap.size (.deferred none)) (by simp; omega)
      have h1 := h.cell.symm.trans hbx'.cell
      injection h1
    subst hvv
    obtain ⟨Av, cv, rfl⟩ := own_slice hown
    have hcv := hbx.cell
    have hfin := Lib.hid (show RowsP w [] (.returned (.slice Av xs.length cv)) (V.putObj w3.heap.size (.deferred none)) from by
      have e : xs = [] := hall
      subst e
      exact ⟨_, _, rfl, own_mono hown' (by omega), hbl'⟩)
    clear hall hI2 hbx hbm hown hvO hbl hbx' hown' hbl' hlen
    refine wpIn_wide.2 ?_
    go_wp2
    refine ⟨by simp, .inl ⟨_, _, rfl, run_takeDeferred hD, ?_⟩⟩
    exact ⟨_, results_tmp (t := 4) rfl _ _ _, hfin.out⟩
end Go.Proofs.YtmbjjbgpcacoeaaGreat
