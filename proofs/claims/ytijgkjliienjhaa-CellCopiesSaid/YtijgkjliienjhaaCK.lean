import Derived.Test.YtijgkjliienjhaaCJ
import Derived.Test.YtijgkjliienjhaaGatherK
namespace Go.Proofs.Ytijgkjliienjhaa
open Go.RowKit Go.Shelf
attribute [local go_sem] Oper.semAt_some

/- THE LAW's LIST OF THE CELLS THAT ARE NOT ZERO. -/
theorem row_info : (Try.prog.info? 61).map (fun i => (i.zero, i.size, i.bytes)) = some (some (.agg #[.int .i64 0, .int .u64 0]), 2, 16) := by kernel_rfl
/-- rows in memory -/
def RowsP (w : World) (xs : List (Nat × Nat)) (e : Ending) (w' : World) : Prop := ∃ A c, e = .returned (.slice A xs.length c) ∧ w'.ownsRow w.heap.size 61 2 (.slice A xs.length c) xs.length (xs.flatMap encR) ∧ Below w.heap.size w w'
theorem got_done {L xs : List (Nat × Nat)} {many : Nat} (h : allA L xs) (hm : xs.length < many) : xs = L.take many := by
  rw [← show xs = L from h, List.take_of_length_le (by omega)]
theorem got_stop {L xs : List (Nat × Nat)} {many : Nat} (h : someA L xs) (hm : xs.length = many) : xs = L.take many := by
  obtain ⟨post, h⟩ := h
  rw [h, ← hm, List.take_left]
theorem cells_two_new (w : World) (a b : Value) (t : TypeId) : ∀ (j : Nat) (u : Value), [a, b][j]? = some u → (w.alloc (.cells #[a, b] t)).cell? ((⟨w.heap.size, 0, none⟩ : Addr).add j) = some u := fun j u hu => by
  rw [add_plain, Nat.zero_add, cell_alloc_new]
  simpa using hu

set_option maxRecDepth 100000 in
set_option maxHeartbeats 2000000 in
theorem all_any {pv : Option Addr} {ws : List Nat} {w : World} (HA0 : ∀ V, Below w.heap.size w V → Calls Try.prog 20 #[.pointer pv] V (AllP V ws)) (hws : ws.length ≤ 1024) (many : Nat) (hm1 : 1 ≤ many) (hm : many ≤ 100000) :
    Calls Try.prog 15 #[.pointer pv, .int .i64 (many : Int)] w (RowsP w ((nz ws).take many)) := by
  have hnn : ∀ bo w, (binOp .eql 57 (.func (.func 38) #[] #[.pointer (some ⟨bo, 0, none⟩)]) .nilFunc).run Try.prog w = .ok (.bool false) w := fun bo w => by kernel_rfl
  obtain ⟨i0, hi, hz0, hz1, hz2⟩ := info_parts row_info
  have HA := Lib.hid HA0
  clear HA0
  refine calls_marks Try.func15 rfl ?_
  simp only [Try.ntmps15, List.size_toArray, List.length_cons, List.length_nil, Nat.reduceAdd, Nat.reduceSub, Array.replicate_succ, Array.replicate_zero, List.push_toArray, List.append_toArray, List.nil_append, List.cons_append]
  go_wp2_with fail
  refine (HA.out _ (below2 _ _ _)).mono ?_
  rintro e w2 ⟨A1, c1, bw1, rfl, _, _, _, _, hb1⟩
  have hnn1 := hnn bw1 w2
  have hs2 : w.heap.size + 2 ≤ w2.heap.size := by have := hb1.size; simpa using this
  have hM2 : Boxed w2 w.heap.size 3 (.int .i64 (many : Int)) := (hb1.block _ (by simp only [World.size_alloc]; omega)).trans ((Boxed.new w _ _).alloc _)
  have hL2 : Boxed w2 (w.heap.size + 1) 45 (.slice none 0 0) := (hb1.block _ (by simp only [World.size_alloc]; omega)).trans (by have := Boxed.new (w.alloc (.cells #[.int .i64 (many : Int)] 3)) 45 (.slice none 0 0); rwa [World.size_alloc] at this)
  have hB2 : Below w.heap.size w w2 := (below2 _ _ _).trans (hb1.mono (by simp only [World.size_alloc]; omega))
  clear hb1 hnn
  go_wp2_with fail
  refine (HA.out _ hB2).mono ?_
  rintro e w3 ⟨A2, c2, bw, rfl, hbw, hbm0, hcw, hown0, hb2⟩
  have hs3 : w.heap.size + 2 ≤ w3.heap.size := by have := hb2.size; omega
  have hM3 : Boxed w3 w.heap.size 3 (.int .i64 (many : Int)) := (hb2.block _ (by omega)).trans hM2
  have hL3 : Boxed w3 (w.heap.size + 1) 45 (.slice none 0 0) := (hb2.block _ (by omega)).trans hL2
  have hB3 : Below w.heap.size w w3 := hB2.trans (hb2.mono (by omega))
  have hit := all1_it ws A2 c2 bw w3 hws hcw hown0
  have hPv : ∀ k, privA bw A2 k → k < w3.heap.size ∧ k ≠ w.heap.size + 1 := by
    rintro k (rfl | h)
    · exact ⟨lt_of_cell hcw, by omega⟩
    · exact ⟨hown0.lt h, by have := hbm0 k h; omega⟩
  clear hM2 hL2 hB2 hb2 hcw hown0 HA
  go_wp2_with fail
  refine wpIn_wide.1 (wpIn_range_it (gf := 38) (lb := #[.pointer (some ⟨bw, 0, none⟩)]) rfl (enters_of Try.func38 (by kernel_rfl) rfl) hit (fun k hk => (hPv k hk).1) (fun _ => rfl) (fun _ _ _ _ _ h => h)
    (gatKI 3 45 61 encR 2 w w.heap.size (w.heap.size + 1) w3.heap.size many) (gatKX 3 45 61 encR 2 w w.heap.size (w.heap.size + 1) w3.heap.size many) (gatKI.abid (by omega)) (gatKX.abid (by omega)) ?h0
    (fun x => { tmps := #[.pointer pv, .int .i64 (many : Int), undef, .pointer (some ⟨w.heap.size, 0, none⟩), .slice none 0 0, .pointer (some ⟨w.heap.size + 1, 0, none⟩), .int .i64 (x.1 : Int), .int .u64 (x.2 : Int), .pointer pv, .func (.func 38) #[] #[.pointer (some ⟨bw1, 0, none⟩)], .bool false, .pointer pv, .func (.func 38) #[] #[.pointer (some ⟨bw, 0, none⟩)], .int .i64 (x.1 : Int), .int .u64 (x.2 : Int), undef, undef, undef, undef, undef, undef, undef, undef, undef, undef, undef], defers := [] }) ?assign ?body ?done ?stop)
  case h0 => exact ⟨⟨_, hL3, hM3, World.ownsRow_nil _ _ _ _, fun k h => (by cases h), hB3⟩, by simp; omega, fun _ h => h.elim⟩
  case assign =>
    intro l' x W' K hK
    simp only [encA]
    gi_wp2
    exact hK
  case body =>
    rintro l' pre x O V hVs hO ⟨⟨v, hbx, hbm, hown, hvO, hbl⟩, hlen, hOw⟩ hx _
    have hn : pre.length ≤ 100000 := by omega
    clear hx hnn1 hit hM3 hL3
    obtain ⟨Av, cv, rfl⟩ := own_slice hown
    have hown1 := hown.alloc (.cells #[.int .i64 (x.1 : Int), .int .u64 (x.2 : Int)] 61)
    have hbx1 := hbx.alloc (.cells #[.int .i64 (x.1 : Int), .int .u64 (x.2 : Int)] 61)
    have hbm1 := hbm.alloc (.cells #[.int .i64 (x.1 : Int), .int .u64 (x.2 : Int)] 61)
    have hce := hbx.cell
    have hce1 := hbx1.cell
    have hb1 := hbx.not_row (by decide) hown
    have hb2 : some w.heap.size ≠ (Value.slice Av pre.length cv).ownBlock := fun e => by have := hOw _ (hvO _ e.symm); omega
    clear hbx hbm
    gi_wp2_with (gi_at_builtin; refine wpListIn_append_sees rfl (.tmp 15) (.tmp 19) 45 rfl w3.heap.size 61 i0 _ 2 16 Try.underlying45 hi hz0 hz1 hz2 rfl (by decide) _ pre.length (pre.flatMap encR) rfl hown1 (V.heap.size + 1) (some ⟨V.heap.size, 0, none⟩) 1 1 (encR x) rfl rfl (fun _ => ⟨_, rfl, by simp, cells_two_new _ _ _ _⟩) (by simp [encR, Value.oneCell']) (by unfold maxLen; omega) (by omega) (by simp; omega) ?_; intro v' w4 hown4 hg4 hv4; obtain ⟨g4, cap4, rfl⟩ := ownsRow_succ hown4; have hbx4 := hbx1.kept hg4 hb1; have hbm4 := hbm1.kept hg4 hb2; have hx4c := hbx4.cell; have hx4f := hbx4.frozen; have hm4c := hbm4.cell)
    all_goals
      have hg5 : (V.alloc (.cells #[.int .i64 (x.1 : Int), .int .u64 (x.2 : Int)] 61)).grownBy w4 (Value.slice Av pre.length cv).ownBlock := hg4
      have hfin := Lib.hid (gatK_round (x := x) (by omega) (by omega) (by omega) hPv hOw hvO hVs hown4 hg5 hv4 hbx4 hbm4 hbl (by simp))
    · obtain ⟨k1, k2, k3⟩ := hfin.out
      exact ⟨k1, rfl, k2, by simp; omega, k3⟩
    · obtain ⟨k1, k2, k3⟩ := hfin.out
      exact ⟨k1, k2, by simp; omega, k3⟩
  case done =>
    intro xs O V hall hI hD
    have hnO : ¬ O w3.heap.size := fun h => by have := hI.2.2 _ h; omega
    obtain ⟨v, hbx, hbm, hown, hvO, hbl⟩ := hI.1
    obtain ⟨v1, hbx', _, hown', _, hbl'⟩ := GatK.abid (by omega) _ _ _ _ (some w3.heap.size) hI.1 (putObj_grown V w3.heap.size (.deferred none)) (fun r e => by cases e; exact ⟨Nat.le_refl _, hnO⟩)
    have hvv : v = v1 := by
      have h := hbx.kept (putObj_grown V w3.heap.size (.deferred none)) (by simp; omega)
      have h1 := h.cell.symm.trans hbx'.cell
      injection h1
    subst hvv
    obtain ⟨Av, cv, rfl⟩ := own_slice hown
    have hcv := hbx.cell
    have hfin := Lib.hid (show RowsP w ((nz ws).take many) (.returned (.slice Av xs.length cv)) (V.putObj w3.heap.size (.deferred none)) from by
      rw [← got_done hall hI.2.1]
      exact ⟨_, _, rfl, own_mono hown' (by omega), hbl'⟩)
    clear hall hI hbx hbm hown hvO hbl hbx' hown' hbl'
    go_wp2
    refine ⟨by simp, .inl ⟨_, _, rfl, run_takeDeferred hD, ?_⟩⟩
    exact ⟨_, results_tmp (t := 4) rfl _ _ _, hfin.out⟩
  case stop =>
    rintro c' xs O V hall ⟨rfl, hI, hlen, hOw⟩ hD
    have hnO : ¬ O w3.heap.size := fun h => by have := hOw _ h; omega
    have hI2 := hI
    obtain ⟨v, hbx, hbm, hown, hvO, hbl⟩ := hI
    obtain ⟨v1, hbx', _, hown', _, hbl'⟩ := GatK.abid (by omega) _ _ _ _ (some w3.heap.size) hI2 (putObj_grown V w3.heap.size (.deferred none)) (fun r e => by cases e; exact ⟨Nat.le_refl _, hnO⟩)
    have hvv : v = v1 := by
      have h := hbx.kept (putObj_grown V w3.heap.size (.deferred none)) (by simp; omega)
      have h1 := h.cell.symm.trans hbx'.cell
      injection h1
    subst hvv
    obtain ⟨Av, cv, rfl⟩ := own_slice hown
    have hcv := hbx.cell
    have hfin := Lib.hid (show RowsP w ((nz ws).take many) (.returned (.slice Av xs.length cv)) (V.putObj w3.heap.size (.deferred none)) from by
      rw [← got_stop hall hlen]
      exact ⟨_, _, rfl, own_mono hown' (by omega), hbl'⟩)
    clear hall hI2 hbx hbm hown hvO hbl hbx' hown' hbl' hlen
    refine wpIn_wide.2 ?_
    go_wp2
    refine ⟨by simp, .inl ⟨_, _, rfl, run_takeDeferred hD, ?_⟩⟩
    exact ⟨_, results_tmp (t := 4) rfl _ _ _, hfin.out⟩
theorem all_non (v : Value) (w : World) (h : Non w v) (many : Nat) (hm1 : 1 ≤ many) (hm : many ≤ 100000) : Calls Try.prog 15 #[v, .int .i64 (many : Int)] w (RowsP w []) := by
  obtain ⟨pv, rfl⟩ := h.ptr
  have := all_any (ws := []) (fun V hb => allF_non _ V (h.below hb)) (by simp) many hm1 hm
  rw [show (nz []).take many = [] by simp [nz, nzTo]] at this
  exact this
theorem all_rep (b g c : Nat) (l : Cs) (w : World) (h : Rep w b g c l) (hn : l.length ≤ 1024) (many : Nat) (hm1 : 1 ≤ many) (hm : many ≤ 100000) : Calls Try.prog 15 #[bx b, .int .i64 (many : Int)] w (RowsP w ((nz (wordsOf l)).take many)) :=
  all_any (fun V hb => allF_rep b g c l V (h.below hb) hn) (by rw [wordsOf_len]; exact hn) many hm1 hm
end Go.Proofs.Ytijgkjliienjhaa
