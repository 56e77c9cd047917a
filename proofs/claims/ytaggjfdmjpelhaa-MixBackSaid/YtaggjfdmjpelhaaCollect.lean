import Derived.Test.YtaggjfdmjpelhaaStream
import Derived.Test.YtaggjfdmjpelhaaGather
namespace Go.Proofs.Ytaggjfdmjpelhaa
open Go.RowKit Go.Shelf
attribute [local go_sem] Oper.semAt_some

/- THE LAW'S LIST OF WORDS. -/

def encW (key n : Nat) : Value := .int .u64 (mixN key n : Int)
/-- the words that there are, many of them at the most -/
def mixL (key : Nat) (many : Int) (most : Nat) : List Nat := (List.range (min many.toNat most)).map (mixN key)
theorem mixL_len (key : Nat) (many : Int) (most : Nat) : (mixL key many most).length = min many.toNat most := by simp [mixL]
theorem wds_mix (key : Nat) (xs : List Nat) : xs.map (encW key) = wds (xs.map (mixN key)) := by simp [wds, encW, Function.comp_def]
theorem got_done {key : Nat} {many : Int} {xs : List Nat} {most : Nat} (h : allM many xs) (hm : xs.length < most) : xs.map (mixN key) = mixL key many most := by
  unfold allM at h
  have hl : xs.length = many.toNat := by rw [h]; simp
  rw [mixL, h, Nat.min_eq_left (by omega)]
theorem got_stop {key : Nat} {many : Int} {xs : List Nat} {most : Nat} (h : someM many xs) (hm : xs.length = most) : xs.map (mixN key) = mixL key many most := by
  obtain ⟨h1, h2⟩ := h
  rw [mixL, h1, Nat.min_eq_right (by omega), hm]
/-- a list that a call made -/
def OneW (w : World) (l : List Nat) (e : Ending) (w' : World) : Prop := ∃ A c, e = .returned (.slice A l.length c) ∧ Sees w' w'.heap.size A (wds l) ∧ Below w.heap.size w w'

theorem streamP_any (k : Nat) (many : Int) (w : World) : Calls Try.prog 35 #[.int .u64 (k : Int), .int .i64 many] w fun e w' =>
    ∃ bk bm, e = .returned (.func (.func 39) #[] #[.pointer (some ⟨bm, 0, none⟩), .pointer (some ⟨bk, 0, none⟩)]) ∧ w.heap.size ≤ bk ∧ w.heap.size ≤ bm ∧
      Row w' bk 23 [.int .u64 (k : Int)] ∧ Row w' bm 3 [.int .i64 many] ∧ Below w.heap.size w w' := by
  refine (streamF_any k many w).mono ?_
  rintro e w' ⟨rfl, rfl⟩
  exact ⟨w.heap.size, w.heap.size + 1, rfl, Nat.le_refl _, Nat.le_succ _, (Row.new w _ _).below (below1 _ _), Row.new_at _ _ _ (by simp), below2 _ _ _⟩

set_option maxHeartbeats 2000000 in
theorem streamL_any (key many : Nat) (all_ : Int) (w : World) (hkey : key < 18446744073709551616) (ha : all_ ≤ 9223372036854775807) (hm1 : 1 ≤ many) (hm : many ≤ 5000) :
    Calls Try.prog 20 #[.int .u64 (key : Int), .int .i64 all_, .int .i64 (many : Int)] w (OneW w (mixL key all_ many)) := by
  have hnn : ∀ bo bp w, (binOp .eql 61 (.func (.func 39) #[] #[.pointer (some ⟨bo, 0, none⟩), .pointer (some ⟨bp, 0, none⟩)]) .nilFunc).run Try.prog w = .ok (.bool false) w := fun bo bp w => by kernel_rfl
  obtain ⟨i0, hi, hz0, hz1, hz2⟩ := info_parts word_info
  refine calls_marks Try.func20 rfl ?_
  simp only [Try.ntmps20, List.size_toArray, List.length_cons, List.length_nil, Nat.reduceAdd, Nat.reduceSub, Array.replicate_succ, Array.replicate_zero, List.push_toArray, List.append_toArray, List.nil_append, List.cons_append]
  go_wp2_with fail
  refine (streamP_any key all_ _).mono ?_
  rintro e w2 ⟨bk1, bm1, rfl, _, _, _, _, hb1⟩
  have hnn1 := hnn bm1 bk1 w2
  have hs2 : w.heap.size + 2 ≤ w2.heap.size := by have := hb1.size; simpa using this
  have hM2 : Boxed w2 w.heap.size 3 (.int .i64 (many : Int)) := (hb1.block _ (by simp only [World.size_alloc]; omega)).trans ((Boxed.new w _ _).alloc _)
  have hL2 : Boxed w2 (w.heap.size + 1) 36 (.slice none 0 0) := (hb1.block _ (by simp only [World.size_alloc]; omega)).trans (by have := Boxed.new (w.alloc (.cells #[.int .i64 (many : Int)] 3)) 36 (.slice none 0 0); rwa [World.size_alloc] at this)
  have hB2 : Below w.heap.size w w2 := (below2 _ _ _).trans (hb1.mono (by simp only [World.size_alloc]; omega))
  clear hb1 hnn
  go_wp2_with fail
  refine (streamP_any key all_ w2).mono ?_
  rintro e w3 ⟨bk, bm, rfl, hbk, hbm, hrk, hrm, hb2⟩
  have hs3 : w.heap.size + 2 ≤ w3.heap.size := by have := hb2.size; omega
  have hM3 : Boxed w3 w.heap.size 3 (.int .i64 (many : Int)) := (hb2.block _ (by omega)).trans hM2
  have hL3 : Boxed w3 (w.heap.size + 1) 36 (.slice none 0 0) := (hb2.block _ (by omega)).trans hL2
  have hB3 : Below w.heap.size w w3 := hB2.trans (hb2.mono (by omega))
  have hit := stream1_it key bk bm all_ w3 hkey ha hrk hrm
  have hPv : ∀ k, (k = bk ∨ k = bm) → k < w3.heap.size ∧ k ≠ w.heap.size + 1 := by
    rintro k (rfl | rfl)
    · exact ⟨hrk.lt, by omega⟩
    · exact ⟨hrm.lt, by omega⟩
  clear hM2 hL2 hB2 hb2 hrk hrm hbk hbm
  go_wp2_with fail
  refine wpIn_wide.1 (wpIn_range_it (gf := 39) (lb := #[.pointer (some ⟨bm, 0, none⟩), .pointer (some ⟨bk, 0, none⟩)]) rfl (enters_of Try.func39 (by kernel_rfl) rfl) hit (fun k hk => (hPv k hk).1) (fun _ => rfl) (fun _ _ _ _ _ h => h)
    (gatI 3 36 23 (encW key) w w.heap.size (w.heap.size + 1) w3.heap.size many) (gatX 3 36 23 (encW key) w w.heap.size (w.heap.size + 1) w3.heap.size many) (gatI.abid (by omega)) (gatX.abid (by omega)) ?h0
    (fun x => { tmps := #[.int .u64 (key : Int), .int .i64 all_, .int .i64 (many : Int), undef, undef, .pointer (some ⟨w.heap.size, 0, none⟩), .slice none 0 0, .pointer (some ⟨w.heap.size + 1, 0, none⟩), (.int .u64 (mixN key x : Int)), .int .u64 (key : Int), .int .i64 all_, .func (.func 39) #[] #[.pointer (some ⟨bm1, 0, none⟩), .pointer (some ⟨bk1, 0, none⟩)], .bool false, .int .u64 (key : Int), .int .i64 all_, .func (.func 39) #[] #[.pointer (some ⟨bm, 0, none⟩), .pointer (some ⟨bk, 0, none⟩)], (.int .u64 (mixN key x : Int)), undef, undef, undef, undef, undef, undef, undef, undef, undef], defers := [] }) ?assign ?body ?done ?stop)
  case h0 => exact ⟨⟨_, hL3, hM3, World.ownsRow_nil _ _ _ _, fun k h => (by cases h), hB3⟩, by simp; omega, fun _ h => h.elim⟩
  case assign =>
    intro l' x W' K hK
    simp only [encM]
    gi_wp2
    exact hK
  case body =>
    rintro l' pre x O V hVs hO ⟨⟨v, hbx, hbm, hown, hvO, hbl⟩, hlen, hOw⟩ hx _
    have hn : pre.length ≤ 5000 := by omega
    clear hx hnn1 hit hM3 hL3
    obtain ⟨Av, cv, rfl⟩ := own_slice hown
    have hown1 := hown.alloc (.cells #[(.int .u64 (mixN key x : Int))] 23)
    have hbx1 := hbx.alloc (.cells #[(.int .u64 (mixN key x : Int))] 23)
    have hbm1 := hbm.alloc (.cells #[(.int .u64 (mixN key x : Int))] 23)
    have hce := hbx.cell
    have hce1 := hbx1.cell
    have hb1 := hbx.not_row (by decide) hown
    have hb2 : some w.heap.size ≠ (Value.slice Av pre.length cv).ownBlock := fun e => by have := hOw _ (hvO _ e.symm); omega
    clear hbx hbm
    gi_wp2_with (gi_at_builtin; refine wpListIn_append_sees rfl (.tmp 17) (.tmp 19) 36 rfl w3.heap.size 23 i0 _ 1 8 Try.underlying36 hi hz0 hz1 hz2 rfl (by decide) _ pre.length (pre.map (encW key)) rfl hown1 (V.heap.size + 1) (some ⟨V.heap.size, 0, none⟩) 1 1 [(.int .u64 (mixN key x : Int))] rfl rfl (fun _ => ⟨_, rfl, by simp, cell_one_new _ _ _⟩) (by simp [Value.oneCell']) (by unfold maxLen; omega) (by omega) (by simp; omega) ?_; intro v' w4 hown4 hg4 hv4; obtain ⟨g4, cap4, rfl⟩ := ownsRow_succ hown4; have hbx4 := hbx1.kept hg4 hb1; have hbm4 := hbm1.kept hg4 hb2; have hx4c := hbx4.cell; have hx4f := hbx4.frozen; have hm4c := hbm4.cell)
    all_goals
      have hg5 : (V.alloc (.cells #[(.int .u64 (mixN key x : Int))] 23)).grownBy w4 (Value.slice Av pre.length cv).ownBlock := hg4
      have hfin := Lib.hid (gat_round (x := x) (enc := encW key) (by omega) (by omega) (by omega) hPv hOw hvO hVs hown4 hg5 hv4 hbx4 hbm4 hbl (by simp))
    · obtain ⟨k1, k2, k3⟩ := hfin.out
      exact ⟨k1, rfl, k2, by simp; omega, k3⟩
    · obtain ⟨k1, k2, k3⟩ := hfin.out
      exact ⟨k1, k2, by simp; omega, k3⟩
  case done =>
    intro xs O V hall hI hD
    have hnO : ¬ O w3.heap.size := fun h => by have := hI.2.2 _ h; omega
    obtain ⟨v, hbx, hbm, hown, hvO, hbl⟩ := hI.1
    obtain ⟨v1, hbx', _, hown', _, hbl'⟩ := Gat.abid (by omega) _ _ _ _ (some w3.heap.size) hI.1 (putObj_grown V w3.heap.size (.deferred none)) (fun r e => by cases e; exact ⟨Nat.le_refl _, hnO⟩)
    have hvv : v = v1 := by
      have h := hbx.kept (putObj_grown V w3.heap.size (.deferred none)) (by simp; omega)
      have h1 := h.cell.symm.trans hbx'.cell
      injection h1
    subst hvv
    obtain ⟨Av, cv, rfl⟩ := own_slice hown
    have hcv := hbx.cell
    have hfin := Lib.hid (show OneW w (mixL key all_ many) (.returned (.slice Av xs.length cv)) (V.putObj w3.heap.size (.deferred none)) from by
      rw [← got_done hall hI.2.1]
      exact ⟨Av, cv, by rw [List.length_map], by rw [← wds_mix]; exact Sees.of_own hown', hbl'⟩)
    clear hall hI hbx hbm hown hvO hbl hbx' hown' hbl'
    go_wp2
    refine ⟨by simp, .inl ⟨_, _, rfl, run_takeDeferred hD, ?_⟩⟩
    exact ⟨_, results_tmp (t := 6) rfl _ _ _, hfin.out⟩
  case stop =>
    rintro c' xs O V hall ⟨rfl, hI, hlen, hOw⟩ hD
    have hnO : ¬ O w3.heap.size := fun h => by have := hOw _ h; omega
    have hI2 := hI
    obtain ⟨v, hbx, hbm, hown, hvO, hbl⟩ := hI
    obtain ⟨v1, hbx', _, hown', _, hbl'⟩ := Gat.abid (by omega) _ _ _ _ (some w3.heap.size) hI2 (putObj_grown V w3.heap.size (.deferred none)) (fun r e => by cases e; exact ⟨Nat.le_refl _, hnO⟩)
    have hvv : v = v1 := by
      have h := hbx.kept (putObj_grown V w3.heap.size (.deferred none)) (by simp; omega)
      have h1 := h.cell.symm.trans hbx'.cell
      injection h1
    subst hvv
    obtain ⟨Av, cv, rfl⟩ := own_slice hown
    have hcv := hbx.cell
    have hfin := Lib.hid (show OneW w (mixL key all_ many) (.returned (.slice Av xs.length cv)) (V.putObj w3.heap.size (.deferred none)) from by
      rw [← got_stop hall hlen]
      exact ⟨Av, cv, by rw [List.length_map], by rw [← wds_mix]; exact Sees.of_own hown', hbl'⟩)
    clear hall hI2 hbx hbm hown hvO hbl hbx' hown' hbl' hlen
    refine wpIn_wide.2 ?_
    go_wp2
    refine ⟨by simp, .inl ⟨_, _, rfl, run_takeDeferred hD, ?_⟩⟩
    exact ⟨_, results_tmp (t := 6) rfl _ _ _, hfin.out⟩
end Go.Proofs.Ytaggjfdmjpelhaa
