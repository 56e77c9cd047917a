import Derived.Test.YtmocdokikcbjeaaCollect
import Derived.Test.YtmocdokikcbjeaaCopy
import Derived.Test.YtmocdokikcbjeaaNext
namespace Go.Proofs.Ytmocdokikcbjeaa
open Go.RowKit Go.Shelf Go.Maps Go.Sort
attribute [local go_sem] Oper.semAt_some

/- ALL, WHERE THERE IS NO TABLE: NO ROWS. -/
theorem sorted_nil (g : Nat) (w : World) (hc : w.cell? ⟨g, 0, none⟩ = some (.map none)) :
    Calls Try.prog 65 #[.func (.func 72) #[] #[.pointer (some ⟨g, 0, none⟩)]] w fun e w' => ∃ A c, e = .returned (.slice A 0 c) ∧ Below w.heap.size w w' := by
  refine (callsIn_wide (n := 5)).1 ?_
  have hseq : SeqGives Fence.wide 2 Try.prog 72 #[.pointer (some ⟨g, 0, none⟩)] encZ (fun ss : List Int => ss = []) 0 w :=
    AnyZI.keys_gives_nil (ρ := keysL_ren) { keysL with } Fence.wide _ trivial rfl g w (lt_of_cell hc) hc
  refine (AnyZI.sorted_in sortedL Fence.wide 5 trivial trivial trivial trivial rfl (by omega) (sortsT _) (enters_of Try.func71 (by kernel_rfl) rfl) 72 #[.pointer (some ⟨g, 0, none⟩)] trivial (enters_of Try.func72 (by kernel_rfl) rfl) _ 0 (Nat.zero_le _) (by omega) _ hseq).mono ?_
  rintro e w' ⟨v, ss, rfl, hp, hrow, _, hb⟩
  subst hp
  obtain ⟨A, c, rfl⟩ := own_slice hrow
  exact ⟨A, c, rfl, hb⟩
set_option maxHeartbeats 2000000 in
theorem rise0_it (bb pb : Nat) (w0 : World) (hcb : w0.cell? ⟨bb, 0, none⟩ = some (bx pb)) (hcp : w0.cell? ⟨pb, 0, none⟩ = some (.map none)) :
    It Try.prog 64 #[bx bb] encP (fun _ _ => False) (fun _ _ _ => False) (fun k => k = bb ∨ k = pb) (fun xs => xs = []) (fun xs => xs = []) w0 := by
  intro l0 J Jx W hpW hsW hJ hJx hY h0
  refine (callsIn_wide (n := 1)).1 ?_
  have c1 : W.cell? ⟨bb, 0, none⟩ = some (bx pb) := (World.cell?_of_block (hpW bb (.inl rfl))).trans hcb
  have c2 : W.cell? ⟨pb, 0, none⟩ = some (.map none) := (World.cell?_of_block (hpW pb (.inr rfl))).trans hcp
  have HK := Lib.hid (fun w => keys_any none w)
  have HS := Lib.hid (show Calls Try.prog 65 #[.func (.func 72) #[] #[.pointer (some ⟨W.heap.size, 0, none⟩)]] (W.alloc (.cells #[.map none] 70)) (fun e w' => ∃ A c, e = .returned (.slice A 0 c) ∧ Below W.heap.size W w') from by
    refine (sorted_nil W.heap.size _ (cell_alloc_new _ _ _ _)).mono ?_
    rintro e w' ⟨A, c, rfl, hb⟩
    exact ⟨A, c, rfl, below0 (below1 W _) hb⟩)
  clear hY hpW
  refine callsIn_of_wp Try.func64 rfl trivial ?_ rfl
  simp only [Try.ntmps64, List.size_toArray, List.length_cons, List.length_nil, Nat.reduceAdd, Nat.reduceSub, Array.replicate_succ, Array.replicate_zero, List.push_toArray, List.append_toArray, List.nil_append, List.cons_append]
  gi_wp2_with fail
  refine ⟨trivial, (callsIn_wide.2 (HK.out _)).mono ?_⟩
  rintro e w1 ⟨rfl, rfl⟩
  gi_wp2_with fail
  refine ⟨trivial, (callsIn_wide.2 HS.out).mono ?_⟩
  rintro e w2 ⟨A, c, rfl, hb2⟩
  have hj2 : J [] (fun _ => False) w2 := hJ.below h0 hb2
  clear HS HK h0
  gi_wp2_with fail
  gi_loopw [12] (fun t wr => t = .int .i64 0 ∧ wr = w2) (fun _ _ => 0)
  case atStart => exact ⟨rfl, rfl⟩
  case round =>
    obtain ⟨rfl, rfl⟩ := hrel
    gi_wp2
    go_end0
    exact itEnd.all rfl hj2
set_option maxHeartbeats 2000000 in
theorem all0_it (bw : Nat) (w0 : World) (hcw : w0.cell? ⟨bw, 0, none⟩ = some (.map none)) :
    It Try.prog 37 #[bx bw] encP (fun _ _ => False) (fun _ _ _ => False) (fun k => k = bw) (fun xs => xs = []) (fun xs => xs = []) w0 := by
  intro l0 J Jx W hpW hsW hJ hJx hY h0
  have hWc : W.cell? ⟨bw, 0, none⟩ = some (.map none) := (World.cell?_of_block (hpW bw rfl)).trans hcw
  have hpl : bw < W.heap.size := lt_of_cell hWc
  have HRS := Lib.hid (fun w => rising_any bw w)
  refine calls_marks Try.func37 rfl ?_
  simp only [Try.ntmps37, List.size_toArray, List.length_cons, List.length_nil, Nat.reduceAdd, Nat.reduceSub, Array.replicate_succ, Array.replicate_zero, List.push_toArray, List.append_toArray, List.nil_append, List.cons_append]
  go_wp2_with fail
  go_step3
  go_wp2_with fail
  refine wp_label ?_
  go_wp2_with fail
  refine (HRS.out _).mono ?_
  rintro e w2' ⟨rfl, rfl⟩
  obtain ⟨w2, hw2⟩ : ∃ w2, w2 = (W.alloc (.cells #[.func (.yield l0) #[] #[]] 88)).alloc (.cells #[bx bw] 98) := ⟨_, rfl⟩
  have hsz2 : w2.heap.size = W.heap.size + 2 := by rw [hw2]; simp
  have hb2 : Below W.heap.size W w2 := by rw [hw2]; exact below2 _ _ _
  have hcy : w2.cell? ⟨W.heap.size, 0, none⟩ = some (.func (.yield l0) #[] #[]) := by
    rw [hw2, World.cell?_alloc_lt _ _ _ (by simp)]
    exact cell_alloc_new _ _ _ _
  have hcs2 : w2.cell? ⟨W.heap.size + 1, 0, none⟩ = some (bx bw) := by
    rw [hw2]
    exact cell_new_at _ _ _ _ (by simp)
  have hj2 : J [] (fun _ => False) w2 := hJ.below h0 hb2
  have hit := rise0_it (W.heap.size + 1) bw w2 hcs2 ((hb2.cell (p := ⟨bw, 0, none⟩) hpl).trans hWc)
  have hpl2 : ∀ k, (k = W.heap.size + 1 ∨ k = bw) → k < w2.heap.size := by
    rintro k (rfl | rfl) <;> omega
  rw [← hw2]
  clear hw2
  go_wp2_with fail
  refine wpIn_wide.1 (wpIn_range_box (gf := 64) (lb := #[bx (W.heap.size + 1)]) rfl (enters_of Try.func64 (by kernel_rfl) rfl) hit (fun k hk => hpl2 k hk) (fun _ => rfl) (fun _ _ _ _ _ h => h)
    (aI l0 J W) (aX Jx W) ?hI ?hIx ?h0
    (fun g x => { tmps := #[.func (.yield l0) #[] #[], bx bw, bx W.heap.size, .int .i64 x.1, bx g, .func (.func 64) #[] #[bx (W.heap.size + 1)], .int .i64 x.1, .agg #[.int .i64 x.2.1, .int .i64 x.2.2.1, .int .i64 x.2.2.2], undef, undef, undef, undef, undef], defers := [] })
    (fun x => .cells #[.int .i64 x.2.1, .int .i64 x.2.2.1, .int .i64 x.2.2.2] 34) ?assign ?body ?done ?stop)
  case assign =>
    intro l' x W' K hK
    simp only [encP]
    gi_wp2
    exact hK
  case h0 => exact ⟨fun _ => False, hj2, fun _ h => h.elim, fun _ h => h.elim, hcy⟩
  case hI =>
    rintro s' O' V V' row ⟨O, h2, h3, h4, h6⟩ hg hr
    have hne : ∀ k, k < w2.heap.size → some k ≠ row := fun k hk e => by have := (hr k e.symm).1; omega
    exact ⟨O, hJ _ _ _ _ row h2 hg (fun r e => ⟨by have := (hr r e).1; omega, fun h => (hr r e).2 (h3 r h)⟩), h3, h4, (World.cell?_of_block (hg.block _ (lt_of_cell h6) (hne W.heap.size (by omega)))).trans h6⟩
  case hIx =>
    rintro c' s' O' V V' row ⟨e0, O, h3, h4, hjx⟩ hg hr
    have hr' : ∀ r, row = some r → W.heap.size ≤ r ∧ ¬ O r := fun r e => ⟨by have := (hr r e).1; omega, fun h => (hr r e).2 (h3 r h)⟩
    exact ⟨e0, O, h3, h4, hJx _ _ _ _ row hjx hg hr'⟩
  case body =>
    rintro l' pre x O' V hVs hO' _ hpk _
    exact hpk.elim
  case done =>
    rintro xs O' V hall ⟨O, hj, hOO, hO5, _⟩ hD
    have Hall := Lib.hid hall
    have hjD : J xs O (V.putObj w2.heap.size (.deferred none)) := hJ _ _ _ _ _ hj (putObj_grown V _ _) (fun r e => by cases e; exact ⟨by omega, fun h => by have := hO5 _ h; omega⟩)
    clear hall
    go_wp2
    refine ⟨by simp, .inl ⟨_, _, rfl, run_takeDeferred hD, ?_⟩⟩
    exact ⟨_, results_none rfl _ _ _, itEnd.all Hall.out hjD⟩
  case stop =>
    rintro c' pre' O' V hsp ⟨rfl, O, hOO, hO5, hjx⟩ hD
    have hOD : ∀ r, some w2.heap.size = some r → W.heap.size ≤ r ∧ ¬ O r := fun r e => by cases e; exact ⟨by omega, fun h => by have := hO5 _ h; omega⟩
    have hend : Hid (itEnd (fun xs => xs = []) (fun xs => xs = []) J Jx (.returned (.tuple #[])) (V.putObj w2.heap.size (.deferred none))) := Lib.hid (itEnd.part hsp (hJx _ _ _ _ _ hjx (putObj_grown V _ _) hOD))
    clear hsp hjx
    refine wpIn_wide.2 ?_
    go_wp2
    refine ⟨by simp, .inl ⟨_, _, rfl, run_takeDeferred hD, ?_⟩⟩
    exact ⟨_, results_none rfl _ _ _, hend.out⟩

def AllN (w : World) (e : Ending) (w' : World) : Prop := ∃ bw, e = .returned (.func (.func 37) #[] #[bx bw]) ∧ w.heap.size ≤ bw ∧ w'.cell? ⟨bw, 0, none⟩ = some (.map none) ∧ Below w.heap.size w w'
set_option maxRecDepth 100000 in
set_option maxHeartbeats 1000000 in
theorem allF_nil (v : Value) (o : Int) (w : World) (h : Non w v) : Calls Try.prog 14 #[v, .int .i64 o] w (AllN w) := by
  have H1 := Lib.hid (there_non v _ (h.below (below2 w (.cells #[.int .i64 o] 3) (.cells #[.map none, .map none] 73))))
  have HF := Lib.hid (show AllN w (.returned (.func (.func 37) #[] #[bx (w.heap.size + 1)])) ((w.alloc (.cells #[.int .i64 o] 3)).alloc (.cells #[.map none, .map none] 73)) from
    ⟨w.heap.size + 1, rfl, by omega, (Row.new_at (w.alloc (.cells #[.int .i64 o] 3)) 73 [.map none, .map none] (by simp)).cell 0, below2 w _ _⟩)
  obtain ⟨pv, rfl⟩ : ∃ pv, v = .pointer pv := by
    rcases h with rfl | ⟨b, rfl, _⟩
    · exact ⟨_, rfl⟩
    · exact ⟨_, rfl⟩
  clear h
  go_enter Try.func14, Try.ntmps14
  go_wp2_with fail
  refine (H1.out).mono ?_
  rintro e w1 ⟨rfl, rfl⟩
  go_wp2_with fail
  go_ret
  exact HF.out
set_option maxRecDepth 100000 in
set_option maxHeartbeats 2000000 in
theorem all_nil {v : Value} {w : World} (h : Non w v) (o : Int) (many : Nat) (hm1 : 1 ≤ many) :
    Calls Try.prog 23 #[v, .int .i64 o, .int .i64 (many : Int)] w (RowsP w []) := by
  have hnn : ∀ bo w, (binOp .eql 42 (.func (.func 37) #[] #[.pointer (some ⟨bo, 0, none⟩)]) .nilFunc).run Try.prog w = .ok (.bool false) w := fun bo w => by kernel_rfl
  have HA := Lib.hid (fun V (hb : Below w.heap.size w V) => allF_nil v o V (h.below hb))
  obtain ⟨pv, rfl⟩ : ∃ pv, v = .pointer pv := by
    rcases h with rfl | ⟨b, rfl, _⟩
    · exact ⟨_, rfl⟩
    · exact ⟨_, rfl⟩
  clear h
  refine calls_marks Try.func23 rfl ?_
  simp only [Try.ntmps23, List.size_toArray, List.length_cons, List.length_nil, Nat.reduceAdd, Nat.reduceSub, Array.replicate_succ, Array.replicate_zero, List.push_toArray, List.append_toArray, List.nil_append, List.cons_append]
  go_wp2_with fail
  refine (HA.out _ (below2 _ _ _)).mono ?_
  rintro e w2 ⟨bw1, rfl, _, _, hb1⟩
  have hnn1 := hnn bw1 w2
  have hs2 : w.heap.size + 2 ≤ w2.heap.size := by have := hb1.size; simpa using this
  have hM2 : Boxed w2 w.heap.size 3 (.int .i64 (many : Int)) := (hb1.block _ (by simp only [World.size_alloc]; omega)).trans ((Boxed.new w _ _).alloc _)
  have hL2 : Boxed w2 (w.heap.size + 1) 27 (.slice none 0 0) := (hb1.block _ (by simp only [World.size_alloc]; omega)).trans (by have := Boxed.new (w.alloc (.cells #[.int .i64 (many : Int)] 3)) 27 (.slice none 0 0); rwa [World.size_alloc] at this)
  have hB2 : Below w.heap.size w w2 := (below2 _ _ _).trans (hb1.mono (by simp only [World.size_alloc]; omega))
  clear hb1 hnn
  go_wp2_with fail
  refine (HA.out _ hB2).mono ?_
  rintro e w3 ⟨bw, rfl, hbw, hcw, hb2⟩
  have hs3 : w.heap.size + 2 ≤ w3.heap.size := by have := hb2.size; omega
  have hM3 : Boxed w3 w.heap.size 3 (.int .i64 (many : Int)) := (hb2.block _ (by omega)).trans hM2
  have hL3 : Boxed w3 (w.heap.size + 1) 27 (.slice none 0 0) := (hb2.block _ (by omega)).trans hL2
  have hB3 : Below w.heap.size w w3 := hB2.trans (hb2.mono (by omega))
  have hit := all0_it bw w3 hcw
  have hPv : ∀ k, k = bw → k < w3.heap.size ∧ k ≠ w.heap.size + 1 := by
    rintro k rfl
    exact ⟨lt_of_cell hcw, by omega⟩
  clear hM2 hL2 hB2 hb2 hcw HA
  go_wp2_with fail
  refine wpIn_wide.1 (wpIn_range_box (gf := 37) (lb := #[bx bw]) rfl (enters_of Try.func37 (by kernel_rfl) rfl) hit (fun k hk => (hPv k hk).1) (fun _ => rfl) (fun _ _ _ _ _ h => h)
    (gatKI 3 27 46 encR 4 w w.heap.size (w.heap.size + 1) w3.heap.size many) (gatKX 3 27 46 encR 4 w w.heap.size (w.heap.size + 1) w3.heap.size many) (gatKI.abid (by omega)) (gatKX.abid (by omega)) ?h0
    (fun g x => { tmps := #[.pointer pv, .int .i64 o, .int .i64 (many : Int), undef, undef, bx w.heap.size, .slice none 0 0, bx (w.heap.size + 1), .int .i64 x.1, bx g, .pointer pv, .int .i64 o, .func (.func 37) #[] #[bx bw1], .bool false, .pointer pv, .int .i64 o, .func (.func 37) #[] #[bx bw], .int .i64 x.1, .agg #[.int .i64 x.2.1, .int .i64 x.2.2.1, .int .i64 x.2.2.2], undef, undef, undef, undef, undef, undef, undef, undef, undef, undef, undef], defers := [] })
    (fun x => .cells #[.int .i64 x.2.1, .int .i64 x.2.2.1, .int .i64 x.2.2.2] 34) ?assign ?body ?done ?stop)
  case h0 => exact ⟨⟨_, hL3, hM3, World.ownsRow_nil _ _ _ _, fun k h => (by cases h), hB3⟩, by simp; omega, fun _ h => h.elim⟩
  case assign =>
    intro l' x W' K hK
    simp only [encP]
    gi_wp2
    exact hK
  case body =>
    rintro l' pre x O V hVs hO _ hx _
    exact hx.elim
  case done =>
    intro xs O V hall hI hD
    have hnO : ¬ O w3.heap.size := fun h => by have := hI.2.2 _ h; omega
    obtain ⟨v, hbx, hbm, hown, hvO, hbl⟩ := hI.1
    obtain ⟨v1, hbx', _, hown', _, hbl'⟩ := GatK.abid (by omega) _ _ _ _ (some w3.heap.size) hI.1 (putObj_grown V w3.heap.size (.deferred none)) (fun r e => by cases e; exact ⟨Nat.le_refl _, hnO⟩)
    have hvv : v = v1 := by
      have h := hbx.kept (putObj_grown V w3.heap.size (.deferred none)) (by simp; omega)
      have h1 := h.cell.symm.trans hbx'.cell
      injection h1
    subst hvv
    obtain ⟨Av, cv, rfl⟩ := own_slice hown
    have hcv := hbx.cell
    have hfin := Lib.hid (show RowsP w [] (.returned (.slice Av xs.length cv)) (V.putObj w3.heap.size (.deferred none)) from by
      have e : xs = [] := hall
      subst e
      exact ⟨_, _, rfl, own_mono hown' (by omega), hbl'⟩)
    clear hall hI hbx hbm hown hvO hbl hbx' hown' hbl'
    go_wp2
    refine ⟨by simp, .inl ⟨_, _, rfl, run_takeDeferred hD, ?_⟩⟩
    exact ⟨_, results_tmp (t := 6) rfl _ _ _, hfin.out⟩
  case stop =>
    rintro c' xs O V hall ⟨rfl, hI, hlen, hOw⟩ hD
    have hnO : ¬ O w3.heap.size := fun h => by have := hOw _ h; omega
    have hI2 := hI
    obtain ⟨v, hbx, hbm, hown, hvO, hbl⟩ := hI
    obtain ⟨v1, hbx', _, hown', _, hbl'⟩ := GatK.abid (by omega) _ _ _ _ (some w3.heap.size) hI2 (putObj_grown V w3.heap.size (.deferred none)) (fun r e => by cases e; exact ⟨Nat.le_refl _, hnO⟩)
    have hvv : v = v1 := by
      have h := hbx.kept (putObj_grown V w3.heap.size (.deferred none)) (by simp; omega)
      have h1 := h.cell.symm.trans hbx'.cell
      injection h1
    subst hvv
    obtain ⟨Av, cv, rfl⟩ := own_slice hown
    have hcv := hbx.cell
    have hfin := Lib.hid (show RowsP w [] (.returned (.slice Av xs.length cv)) (V.putObj w3.heap.size (.deferred none)) from by
      have e : xs = [] := hall
      subst e
      exact ⟨_, _, rfl, own_mono hown' (by omega), hbl'⟩)
    clear hall hI2 hbx hbm hown hvO hbl hbx' hown' hbl' hlen
    refine wpIn_wide.2 ?_
    go_wp2
    refine ⟨by simp, .inl ⟨_, _, rfl, run_takeDeferred hD, ?_⟩⟩
    exact ⟨_, results_tmp (t := 6) rfl _ _ _, hfin.out⟩
end Go.Proofs.Ytmocdokikcbjeaa

namespace Go.Proofs.Ytmocdokikcbjeaa
open Go.RowKit Go.Shelf Go.Maps Go.Sort
attribute [local go_sem] Oper.semAt_some

/- NONE. -/
set_option maxRecDepth 100000 in
set_option maxHeartbeats 2000000 in
theorem none_any (z : Bool) (w : World) : Calls Try.prog 7 #[.bool z] w fun e w' => e = .returned (.bool true) ∧ Below w.heap.size w w' := by
  have hz : enV zeroEn = .agg #[.int .i64 0, .int .i64 0, .int .i64 0] := rfl
  cases z with
  | false =>
    have H : Hid (∀ V, Below w.heap.size w V → Non V (.pointer none)) := Lib.hid (fun V _ => .inl rfl)
    have hB : Below w.heap.size w w := Below.refl _ _
    go_enter Try.func7, Try.ntmps7
    go_wp2_with fail
    refine (unmap_nil _ 0 _ (H.out _ hB)).mono ?_
    rintro e V ⟨rfl, hb⟩
    replace hB := below0 hB hb
    clear hb
    replace hB := below0 hB (below1 _ (.cells #[.int .i64 0, .int .i64 0, .int .i64 0] 34))
    go_wp2_with fail
    refine (prot_nil _ 0 0 _ (H.out _ hB)).mono ?_
    rintro e V ⟨rfl, hb⟩
    replace hB := below0 hB hb
    clear hb
    go_wp2_with fail
    refine (get_non _ 0 _ (H.out _ hB)).mono ?_
    rintro e V ⟨rfl, hb⟩
    replace hB := below0 hB hb
    clear hb
    replace hB := below0 hB (below1 _ (.cells #[.int .i64 0, .int .i64 0, .int .i64 0] 34))
    go_wp2_with fail
    refine (free_nil _ 0 1 _ (H.out _ hB)).mono ?_
    rintro e V ⟨rfl, hb⟩
    replace hB := below0 hB hb
    clear hb
    go_wp2_with fail
    refine (next_non _ 0 1 _ (H.out _ hB)).mono ?_
    rintro e V ⟨rfl, rfl⟩
    go_wp2_with fail
    refine (num_any _ _).mono ?_
    rintro e V ⟨rfl, rfl⟩
    go_wp2_with fail
    refine (num_any _ _).mono ?_
    rintro e V ⟨rfl, rfl⟩
    go_wp2_with fail
    refine (num_any _ _).mono ?_
    rintro e V ⟨rfl, rfl⟩
    go_wp2_with fail
    refine (map_nil _ 0 (0, 0, 0) _ (H.out _ hB)).mono ?_
    rintro e V ⟨rfl, hb⟩
    replace hB := below0 hB hb
    clear hb
    go_wp2_with fail
    refine (num_any _ _).mono ?_
    rintro e V ⟨rfl, rfl⟩
    go_wp2_with fail
    refine (len_non _ _ (H.out _ hB)).mono ?_
    rintro e V ⟨rfl, rfl⟩
    go_wp2_with fail
    refine (all_nil (H.out _ hB) 1 9 (by decide)).mono ?_
    rintro e V ⟨A, c, rfl, _, hb⟩
    replace hB := below0 hB hb
    clear hb
    go_wp2_with fail
    refine (Copy_nil _ _ (H.out _ hB)).mono ?_
    rintro e V ⟨rfl, rfl⟩
    go_wp2_with fail
    refine (Same_there _ _ false false _ rfl (fun U hU => there_no (H.out _ (below0 hB hU))) (fun U _ => there_no (.inl rfl))).mono ?_
    rintro e V ⟨rfl, hb⟩
    replace hB := below0 hB hb
    clear hb
    go_wp2_with fail
    go_ret
    exact ⟨rfl, hB⟩
  | true =>
    have hc : (w.alloc (.cells #[.map none, .map none] 75)).cell? ⟨w.heap.size, 0, none⟩ = some (.map none) := (Row.new w 75 [.map none, .map none]).cell 0
    have H : Hid (∀ V, Below (w.alloc (.cells #[.map none, .map none] 75)).heap.size (w.alloc (.cells #[.map none, .map none] 75)) V → Non V (.pointer (some ⟨w.heap.size, 0, none⟩))) := Lib.hid (fun V hb => Non.below (.inr ⟨_, rfl, hc⟩) hb)
    have hB : Below (w.alloc (.cells #[.map none, .map none] 75)).heap.size (w.alloc (.cells #[.map none, .map none] 75)) (w.alloc (.cells #[.map none, .map none] 75)) := Below.refl _ _
    clear hc
    go_enter Try.func7, Try.ntmps7
    go_wp2_with fail
    refine (unmap_nil _ 0 _ (H.out _ hB)).mono ?_
    rintro e V ⟨rfl, hb⟩
    replace hB := below0 hB hb
    clear hb
    replace hB := below0 hB (below1 _ (.cells #[.int .i64 0, .int .i64 0, .int .i64 0] 34))
    go_wp2_with fail
    refine (prot_nil _ 0 0 _ (H.out _ hB)).mono ?_
    rintro e V ⟨rfl, hb⟩
    replace hB := below0 hB hb
    clear hb
    go_wp2_with fail
    refine (get_non _ 0 _ (H.out _ hB)).mono ?_
    rintro e V ⟨rfl, hb⟩
    replace hB := below0 hB hb
    clear hb
    replace hB := below0 hB (below1 _ (.cells #[.int .i64 0, .int .i64 0, .int .i64 0] 34))
    go_wp2_with fail
    refine (free_nil _ 0 1 _ (H.out _ hB)).mono ?_
    rintro e V ⟨rfl, hb⟩
    replace hB := below0 hB hb
    clear hb
    go_wp2_with fail
    refine (next_non _ 0 1 _ (H.out _ hB)).mono ?_
    rintro e V ⟨rfl, rfl⟩
    go_wp2_with fail
    refine (num_any _ _).mono ?_
    rintro e V ⟨rfl, rfl⟩
    go_wp2_with fail
    refine (num_any _ _).mono ?_
    rintro e V ⟨rfl, rfl⟩
    go_wp2_with fail
    refine (num_any _ _).mono ?_
    rintro e V ⟨rfl, rfl⟩
    go_wp2_with fail
    refine (map_nil _ 0 (0, 0, 0) _ (H.out _ hB)).mono ?_
    rintro e V ⟨rfl, hb⟩
    replace hB := below0 hB hb
    clear hb
    go_wp2_with fail
    refine (num_any _ _).mono ?_
    rintro e V ⟨rfl, rfl⟩
    go_wp2_with fail
    refine (len_non _ _ (H.out _ hB)).mono ?_
    rintro e V ⟨rfl, rfl⟩
    go_wp2_with fail
    refine (all_nil (H.out _ hB) 1 9 (by decide)).mono ?_
    rintro e V ⟨A, c, rfl, _, hb⟩
    replace hB := below0 hB hb
    clear hb
    go_wp2_with fail
    refine (Copy_nil _ _ (H.out _ hB)).mono ?_
    rintro e V ⟨rfl, rfl⟩
    go_wp2_with fail
    refine (Same_there _ _ false false _ rfl (fun U hU => there_no (H.out _ (below0 hB hU))) (fun U _ => there_no (.inl rfl))).mono ?_
    rintro e V ⟨rfl, hb⟩
    replace hB := below0 hB hb
    clear hb
    go_wp2_with fail
    go_ret
    exact ⟨rfl, below0 (below1 w _) hB⟩
end Go.Proofs.Ytmocdokikcbjeaa
