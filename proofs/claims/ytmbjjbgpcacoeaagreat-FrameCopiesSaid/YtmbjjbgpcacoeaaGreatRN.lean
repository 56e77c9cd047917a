import Derived.Test.YtmbjjbgpcacoeaaGreatRM
namespace Go.Proofs.YtmbjjbgpcacoeaaGreat
open Go.RowKit Go.Shelf Go.Maps Go.Sort
attribute [local go_sem] Oper.semAt_some

/- COPY. -/
set_option maxHeartbeats 1000000 in
theorem cloneI_any {w : World} {v : Value} {n : Nat} {xs : List Value} {g : Option Nat} (h : Own w 3 1 v n xs g) (hn : n ≤ 16384) (h1 : ∀ u ∈ xs, u.oneCell' = true) :
    Calls Tryz.prog 48 #[v] w fun e w' => ∃ v' g', e = .returned v' ∧ Own w' 3 1 v' n xs g' ∧ Below w.heap.size w w' ∧ ∀ b, g' = some b → w.heap.size ≤ b := by
  obtain ⟨A, c, rfl, _⟩ := h.form
  rcases A with _ | A
  · have hxs : xs = [] ∧ n = 0 := by
      rcases h with ⟨_, h2, h3, _⟩ | ⟨b, cap, cur, _, h2, _⟩
      · exact ⟨h3, h2⟩
      · cases h2
    obtain ⟨rfl, rfl⟩ := hxs
    have q := fun w => run_eql_slice_none (P := Tryz.prog) w 96 3 none 0 c Tryz.underlying96
    clear h
    go_enter Tryz.func48, Tryz.ntmps48
    go_wp2
    go_ret
    exact ⟨_, none, rfl, Own.nil _ _ _, Below.refl _ _, fun b e => by cases e⟩
  · obtain ⟨i0, hi, hz0, hz1, hz2⟩ := info_parts int_info
    have hr1 := Lib.hid ((own_sees h).1.alloc (Nat.le_refl _) (.cells #[] 3))
    have hown : Hid ((w.alloc (.cells #[] 3)).ownsRow w.heap.size 3 1 (.slice (some ⟨w.heap.size, 0, none⟩) 0 0) 0 []) := Lib.hid (World.ownsRow_made w #[] 0 (Nat.le_refl _) (Nat.zero_le _) rfl)
    have hfin := Lib.hid (fun (w' : World) (hg : (w.alloc (.cells #[] 3)).grownBy w' (some w.heap.size)) => (show Below w.heap.size w w' from
      (below1 w (.cells #[] 3)).grown hg (by simp) (fun r e => by cases e; exact Nat.le_refl _)))
    have q := fun w => run_eql_slice_none (P := Tryz.prog) w 96 3 (some A) n c Tryz.underlying96
    have HL := Lib.hid h.len
    have H1 := Lib.hid h1
    have HZ := Lib.hid (show (Value.int .i64 0).cells.size = 1 from rfl)
    clear h h1
    go_enter Tryz.func48, Tryz.ntmps48
    go_wp2_with (at_builtin; refine wpList_append_sees rfl _ _ 96 rfl w.heap.size 3 i0 _ 1 8 Tryz.underlying96 hi hz0 hz1 hz2 HZ.out (by decide) _ 0 [] rfl hown.out w.heap.size (some A) n c xs rfl HL.out hr1.out H1.out (by unfold maxLen; omega) (by omega) (by simp) ?_; intro v' w' hrow hg hgg)
    go_ret
    rw [Nat.zero_add, List.nil_append] at hrow
    exact ⟨v', v'.ownBlock, rfl, Own.of_row hrow, hfin.out _ hg, fun b e => (hrow.lt b e).1⟩
set_option maxHeartbeats 1000000 in
theorem cloneS_any {w : World} {v : Value} {n : Nat} {xs : List Value} {g : Option Nat} (h : Own w 110 256 v n xs g) (hn : n ≤ 16384) (h1 : ∀ u ∈ xs, u.oneCell' = true) :
    Calls Tryz.prog 47 #[v] w fun e w' => ∃ v' g', e = .returned v' ∧ Own w' 110 256 v' n xs g' ∧ Below w.heap.size w w' ∧ ∀ b, g' = some b → w.heap.size ≤ b := by
  obtain ⟨A, c, rfl, _⟩ := h.form
  rcases A with _ | A
  · have hxs : xs = [] ∧ n = 0 := by
      rcases h with ⟨_, h2, h3, _⟩ | ⟨b, cap, cur, _, h2, _⟩
      · exact ⟨h3, h2⟩
      · cases h2
    obtain ⟨rfl, rfl⟩ := hxs
    have q := fun w => run_eql_slice_none (P := Tryz.prog) w 95 110 none 0 c Tryz.underlying95
    clear h
    go_enter Tryz.func47, Tryz.ntmps47
    go_wp2
    go_ret
    exact ⟨_, none, rfl, Own.nil _ _ _, Below.refl _ _, fun b e => by cases e⟩
  · obtain ⟨i0, hi, hz0, hz1, hz2⟩ := info_parts space_info
    have hr1 := Lib.hid ((own_sees h).1.alloc (Nat.le_refl _) (.cells #[] 110))
    have hown : Hid ((w.alloc (.cells #[] 110)).ownsRow w.heap.size 110 256 (.slice (some ⟨w.heap.size, 0, none⟩) 0 0) 0 []) := Lib.hid (World.ownsRow_made w #[] 0 (Nat.le_refl _) (Nat.zero_le _) rfl)
    have hfin := Lib.hid (fun (w' : World) (hg : (w.alloc (.cells #[] 110)).grownBy w' (some w.heap.size)) => (show Below w.heap.size w w' from
      (below1 w (.cells #[] 110)).grown hg (by simp) (fun r e => by cases e; exact Nat.le_refl _)))
    have q := fun w => run_eql_slice_none (P := Tryz.prog) w 95 110 (some A) n c Tryz.underlying95
    have HL := Lib.hid h.len
    have H1 := Lib.hid h1
    have HZ := Lib.hid (show (Value.agg (zero256.map bv).toArray).cells.size = 256 from zero_len)
    clear h h1
    go_enter Tryz.func47, Tryz.ntmps47
    go_wp2_with (at_builtin; refine wpList_append_sees rfl _ _ 95 rfl w.heap.size 110 i0 _ 256 256 Tryz.underlying95 hi hz0 hz1 hz2 HZ.out (by decide) _ 0 [] rfl hown.out w.heap.size (some A) n c xs rfl HL.out hr1.out H1.out (by unfold maxLen; omega) (by omega) (by simp) ?_; intro v' w' hrow hg hgg)
    go_ret
    rw [Nat.zero_add, List.nil_append] at hrow
    exact ⟨v', v'.ownBlock, rfl, Own.of_row hrow, hfin.out _ hg, fun b e => (hrow.lt b e).1⟩
theorem fl_one (fb : List (List UInt8)) : ∀ u ∈ fl fb, u.oneCell' = true := by
  intro u hu
  obtain ⟨bs, _, hx⟩ := List.mem_flatMap.1 hu
  obtain ⟨x, _, rfl⟩ := List.mem_map.1 hx
  rfl
theorem poolL_len {p : Pl} (h : p.ok) (bm : Nat) (fv sv : Value) : (poolL p.fr.length bm p.left fv sv).length = 68 := by
  unfold poolL
  simp [h.l64]
theorem pool_size {p : Pl} (h : p.ok) (bm : Nat) (fv sv : Value) : (Tryz.prog.info? 98).map (·.size) = some (poolL p.fr.length bm p.left fv sv).length := by
  rw [poolL_len h]
  kernel_rfl
theorem over_whole {l vs : List Value} (hl : l.length = vs.length) : over l 0 vs = vs := by
  refine List.ext_getElem? fun j => ?_
  rw [over_get _ _ _ _ (by omega)]
  split
  · simp
  · rw [List.getElem?_eq_none (by omega), List.getElem?_eq_none (by omega)]
theorem row_whole {V : World} {b : Nat} {t : TypeId} {l vs : List Value} (h : Row V b t l) (hl : l.length = vs.length) : Row (V.setCells b 0 vs) b t vs := by
  have h1 := row_setCells h vs 0
  rwa [over_whole hl] at h1
end Go.Proofs.YtmbjjbgpcacoeaaGreat
