import Derived.Test.YtijgkjliienjhaaCN
import Derived.Test.YtijgkjliienjhaaCH
namespace Go.Proofs.Ytijgkjliienjhaa
open Go.RowKit Go.Shelf
attribute [local go_sem] Oper.semAt_some

/- A CALL BY BOTH. -/
abbrev acV (what at_ : Int) (src dst : Nat) : Value := .agg #[.int .i64 what, .int .i64 at_, .int .u64 (src : Int), .int .u64 (dst : Int)]
def actL (l : Cs) (what at_ : Int) (src dst : Nat) : Cs := if what = 0 then storeL l at_ dst else if what = 1 then swapL l at_ src dst else l
theorem actL_len (l : Cs) (what at_ : Int) (src dst : Nat) : (actL l what at_ src dst).length = l.length := by
  unfold actL
  split
  · exact storeL_len _ _ _
  · split
    · exact swapL_len _ _ _ _
    · rfl
theorem storeL_ok {m : Nat} {l : Cs} (h : Ok m l) (z : Int) {n : Nat} (hn : n < 18446744073709551616) : Ok (m + 1) (storeL l z n) := by
  unfold storeL
  split
  · exact h.putn _ _ hn
  · exact h.mono (by omega)
theorem swapL_ok {m : Nat} {l : Cs} (h : Ok m l) (z : Int) (x : Nat) {n : Nat} (hn : n < 18446744073709551616) : Ok (m + 1) (swapL l z x n) := by
  unfold swapL
  split
  · exact h.putn _ _ hn
  · exact h.mono (by omega)
theorem actL_ok {m : Nat} {l : Cs} (h : Ok m l) (what at_ : Int) (src : Nat) {dst : Nat} (hn : dst < 18446744073709551616) : Ok (m + 1) (actL l what at_ src dst) := by
  unfold actL
  split
  · exact storeL_ok h _ hn
  · split
    · exact swapL_ok h _ _ hn
    · exact h.mono (by omega)
theorem Wt.same {w w' : World} {v : Value} {g : Nat} {l : Cs} (h : Wt w v g l) (hb : w'.heap[g]? = w.heap[g]?) : Wt w' v g l := by
  obtain ⟨c, h1, h2⟩ := h
  exact ⟨c, h1, h2.same hb⟩
theorem Wt.lt {w : World} {v : Value} {g : Nat} {l : Cs} (h : Wt w v g l) : g < w.heap.size := by
  obtain ⟨c, h1, h2⟩ := h
  exact h2.lt
theorem Wt.ne {w : World} {v : Value} {gv b g c : Nat} {l l' : Cs} (h : Wt w v gv l) (hr : Rep w b g c l') : gv ≠ g := by
  obtain ⟨_, h1, h2⟩ := h
  exact hr.row.ne' h2 (by decide)
theorem Wt.keep {w w' : World} {v : Value} {gv b g c : Nat} {l l' : Cs} (h : Wt w v gv l) (hr : Rep w b g c l') (hk : Keep (· = g) w w') : Wt w' v gv l := h.same (hk.block _ h.lt (h.ne hr))
/-- behind a call: the cells (or a copy of them), the document's list, both as the call leaves them -/
def ActP (W : World) (b g gv : Nat) (l' : Cs) (e : Ending) (W' : World) : Prop :=
  ∃ b' g' c' v' gv', e = .returned (.tuple #[bx b', v', .bool true]) ∧ Rep W' b' g' c' l' ∧ Wt W' v' gv' l' ∧ Keep (· = g) W W' ∧ (b' = b ∧ g' = g ∨ W.heap.size ≤ b' ∧ W.heap.size ≤ g') ∧ (gv' = gv ∨ W.heap.size ≤ gv')
/-- what is known of a world between two steps of the call -/
structure Mid (W : World) (b g gv c cv : Nat) (what at_ : Int) (src dst : Nat) (l lw : Cs) (V : World) : Prop where
  rep : Rep V b g c l
  wt : Wt V (.slice (some ⟨gv, 0, none⟩) lw.length cv) gv lw
  keep : Keep (· = g) W V
  size : W.heap.size < V.heap.size
  gl : g < W.heap.size
  box : Row V W.heap.size 52 [.int .i64 what, .int .i64 at_, .int .u64 (src : Int), .int .u64 (dst : Int)]
section
variable {W V V' : World} {b g gv c cv : Nat} {what at_ : Int} {src dst : Nat} {l lw l' : Cs}
theorem Mid.start (h : Rep W b g c l) (hv : Wt W (.slice (some ⟨gv, 0, none⟩) lw.length cv) gv lw) : Mid W b g gv c cv what at_ src dst l lw (W.alloc (.cells #[.int .i64 what, .int .i64 at_, .int .u64 (src : Int), .int .u64 (dst : Int)] 52)) :=
  ⟨h.below (below1 _ _), hv.below (below1 _ _), Keep.of_below (below1 _ _), by simp, h.row.lt, Row.new W _ [.int .i64 what, .int .i64 at_, .int .u64 (src : Int), .int .u64 (dst : Int)]⟩
theorem Mid.step (h : Mid W b g gv c cv what at_ src dst l lw V) (hr : Rep V' b g c l') (hk : Keep (· = g) V V') : Mid W b g gv c cv what at_ src dst l' lw V' :=
  ⟨hr, h.wt.keep h.rep hk, h.keep.trans hk (fun _ _ e => e), Nat.lt_of_lt_of_le h.size hk.size, h.gl, hk.row h.box (fun e => by have := h.gl; omega)⟩
theorem Mid.more (h : Mid W b g gv c cv what at_ src dst l lw V) (hb : Below V.heap.size V V') : Mid W b g gv c cv what at_ src dst l lw V' := h.step (h.rep.below hb) (Keep.of_below hb)
theorem Mid.done (h : Mid W b g gv c cv what at_ src dst l l V) : ActP W b g gv l (.returned (.tuple #[bx b, .slice (some ⟨gv, 0, none⟩) l.length cv, .bool true])) V :=
  ⟨b, g, c, _, gv, rfl, h.rep, h.wt, h.keep, .inl ⟨rfl, rfl⟩, .inl rfl⟩
theorem Mid.done2 (h : Mid W b g gv c cv what at_ src dst l lw V) {v' : Value} {g' : Nat} (hv : Wt V' v' g' l) (hg : V.heap.size ≤ g') (hb : Below V.heap.size V V') : ActP W b g gv l (.returned (.tuple #[bx b, v', .bool true])) V' :=
  ⟨b, g, c, _, g', rfl, h.rep.below hb, hv, h.keep.trans (Keep.of_below hb) (fun _ _ e => e), .inl ⟨rfl, rfl⟩, .inr (by have := h.size; omega)⟩
theorem Mid.done3 (h : Mid W b g gv c cv what at_ src dst l l V) {b' g' c' : Nat} (hr : Rep V' b' g' c' l) (h1 : V.heap.size ≤ b') (h2 : V.heap.size ≤ g') (hb : Below V.heap.size V V') : ActP W b g gv l (.returned (.tuple #[bx b', .slice (some ⟨gv, 0, none⟩) l.length cv, .bool true])) V' :=
  ⟨b', g', c', _, gv, rfl, hr, h.wt.below hb, h.keep.trans (Keep.of_below hb) (fun _ _ e => e), .inr ⟨by have := h.size; omega, by have := h.size; omega⟩, .inl rfl⟩
theorem Mid.drewN (h : Mid W b g gv c cv what at_ src dst l lw V) (q : Nat) : Mid W b g gv c cv what at_ src dst l lw (V.drewN q) := ⟨h.rep.same rfl rfl, h.wt.same rfl, h.keep.drewN q, h.size, h.gl, h.box⟩
end
set_option maxRecDepth 100000 in
set_option maxHeartbeats 2000000 in
theorem act_store_in (b g gv c cv m : Nat) (l : Cs) (k : Nat) (hk : k < l.length) (src dst : Nat) (W : World) (h : Rep W b g c l) (hv : Wt W (.slice (some ⟨gv, 0, none⟩) l.length cv) gv l) (hok : Ok m l) (hm : m < 1000000) :
    Calls Try.prog 18 #[bx b, .slice (some ⟨gv, 0, none⟩) l.length cv, acV 0 (k : Int) src dst] W (ActP W b g gv (put l k dst)) := by
  have M0 := Lib.hid (Mid.start (what := 0) (at_ := (k : Int)) (src := src) (dst := dst) h hv)
  obtain ⟨W1, hW1⟩ : ∃ W1, W1 = W.alloc (.cells #[.int .i64 0, .int .i64 (k : Int), .int .u64 (src : Int), .int .u64 (dst : Int)] 52) := ⟨_, rfl⟩
  rw [← hW1] at M0
  have HW1 := Lib.hid hW1
  clear hW1
  have M1 := M0.out
  have b0 := M1.box.cell 0
  have b1 := M1.box.cell 1
  have b2 := M1.box.cell 2
  have b3 := M1.box.cell 3
  simp only [List.getElem?_cons_zero, List.getElem?_cons_succ] at b0 b1 b2 b3
  have hn := Lib.hid (fun n w => num_any n w)
  have H1 := Lib.hid (rthere_in (some ⟨gv, 0, none⟩) l.length cv k W1 hk)
  have H2 := Lib.hid ((store_in b g c k m l dst W1 M1.rep hk hok hm).mono (fun e V ⟨e1, r1, k1⟩ => And.intro e1 (M0.out.step r1 k1)))
  have H3 := Lib.hid (fun V (hM : Mid W b g gv c cv 0 (k : Int) src dst (put l k dst) l V) => (show Calls Try.prog 36 #[.slice (some ⟨gv, 0, none⟩) l.length cv, .int .i64 (k : Int), .int .u64 (dst : Int)] V (fun e V' => ∃ g' c', e = .returned (.slice (some ⟨g', 0, none⟩) l.length c') ∧ ActP W b g gv (put l k dst) (.returned (.tuple #[bx b, .slice (some ⟨g', 0, none⟩) l.length c', .bool true])) V') from by
    obtain ⟨cv', e, hlst⟩ := hM.wt
    refine (rstore_any gv cv k dst m l V hlst hk hok hm).mono ?_
    rintro e V' ⟨v', g', rfl, hg, ⟨c', rfl, hl⟩, hb⟩
    rw [put_len]
    refine ⟨g', c', rfl, ?_⟩
    have := hM.done2 (v' := .slice (some ⟨g', 0, none⟩) (put l k dst).length c') ⟨c', rfl, hl⟩ hg hb
    rw [put_len] at this
    exact this))
  obtain ⟨N, hN⟩ : ∃ N, N = l.length := ⟨_, rfl⟩
  obtain ⟨L2, hL2⟩ : ∃ L2, L2 = put l k dst := ⟨_, rfl⟩
  rw [← hN] at H1 H3 hk ⊢
  rw [← hL2] at H2 H3
  have HL2 := Lib.hid hL2
  rw [← hL2]
  clear h hv hok hN hL2
  rw [HW1.out] at b0 b1 b2 b3
  clear M1
  go_enter Try.func18, Try.ntmps18
  go_wp2_with fail
  rw [← HW1.out]
  refine H1.out.mono ?_
  rintro e w1 ⟨rfl, rfl⟩
  have M2 := M0.out
  have b0 := M2.box.cell 0
  have b1 := M2.box.cell 1
  have b2 := M2.box.cell 2
  have b3 := M2.box.cell 3
  simp only [List.getElem?_cons_zero, List.getElem?_cons_succ] at b0 b1 b2 b3
  go_wp2_with fail
  refine H2.out.mono ?_
  rintro e w2 ⟨rfl, M3⟩
  have HM3 := Lib.hid M3
  clear b0 b1 b2 b3 M2
  have b0 := M3.box.cell 0
  have b1 := M3.box.cell 1
  have b2 := M3.box.cell 2
  have b3 := M3.box.cell 3
  simp only [List.getElem?_cons_zero, List.getElem?_cons_succ] at b0 b1 b2 b3
  clear M3
  go_wp2_with fail
  refine (H3.out _ HM3.out).mono ?_
  rintro e w3 ⟨g', c', rfl, hfin⟩
  have hfin := Lib.hid hfin
  go_wp2_with fail
  refine (hn.out _ _).mono ?_
  rintro e u ⟨rfl, rfl⟩
  go_wp2_with fail
  exact bodyPost_ret (v := .tuple #[_, _, .bool true]) (by simp [results, Try.results18, go_sem]; try exact ⟨rfl, rfl⟩) rfl hfin.out
set_option maxRecDepth 100000 in
set_option maxHeartbeats 2000000 in
theorem act_store_out (b g gv c cv : Nat) (l : Cs) (z : Int) (hz : z < 0 ∨ (l.length : Int) ≤ z) (src dst : Nat) (W : World) (h : Rep W b g c l) (hv : Wt W (.slice (some ⟨gv, 0, none⟩) l.length cv) gv l) :
    Calls Try.prog 18 #[bx b, .slice (some ⟨gv, 0, none⟩) l.length cv, acV 0 z src dst] W (ActP W b g gv (l)) := by
  have M0 := Lib.hid (Mid.start (what := 0) (at_ := z) (src := src) (dst := dst) h hv)
  obtain ⟨W1, hW1⟩ : ∃ W1, W1 = W.alloc (.cells #[.int .i64 0, .int .i64 z, .int .u64 (src : Int), .int .u64 (dst : Int)] 52) := ⟨_, rfl⟩
  rw [← hW1] at M0
  have HW1 := Lib.hid hW1
  clear hW1
  have M1 := M0.out
  have b0 := M1.box.cell 0
  have b1 := M1.box.cell 1
  have b2 := M1.box.cell 2
  have b3 := M1.box.cell 3
  simp only [List.getElem?_cons_zero, List.getElem?_cons_succ] at b0 b1 b2 b3
  have hn := Lib.hid (fun n w => num_any n w)
  have H1 := Lib.hid (rthere_out (some ⟨gv, 0, none⟩) l.length cv z W1 hz)
  have H2 := Lib.hid ((store_out b g c l z dst W1 M1.rep hz).mono (fun e V ⟨e1, r1⟩ => And.intro e1 (M0.out.more r1)))
  have HD := Lib.hid (fun V (h : Mid W b g gv c cv 0 z src dst l l V) => h.done)
  obtain ⟨N, hN⟩ : ∃ N, N = l.length := ⟨_, rfl⟩
  rw [← hN] at HD H1 ⊢
  clear h hv hN hz
  rw [HW1.out] at b0 b1 b2 b3
  clear M1
  go_enter Try.func18, Try.ntmps18
  go_wp2_with fail
  rw [← HW1.out]
  refine H1.out.mono ?_
  rintro e w1 ⟨rfl, rfl⟩
  have M2 := M0.out
  have b0 := M2.box.cell 0
  have b1 := M2.box.cell 1
  have b2 := M2.box.cell 2
  have b3 := M2.box.cell 3
  simp only [List.getElem?_cons_zero, List.getElem?_cons_succ] at b0 b1 b2 b3
  clear M2
  go_wp2_with fail
  refine H2.out.mono ?_
  rintro e w2 ⟨rfl, M3⟩
  have hfin := Lib.hid (HD.out _ M3)
  clear M3 b0 b1 b2 b3
  go_wp2_with fail
  refine (hn.out _ _).mono ?_
  rintro e u ⟨rfl, rfl⟩
  go_wp2_with fail
  exact bodyPost_ret (v := .tuple #[_, _, .bool true]) (by simp [results, Try.results18, go_sem]; try exact ⟨rfl, rfl⟩) rfl hfin.out
set_option maxRecDepth 100000 in
set_option maxHeartbeats 2000000 in
theorem act_swap_out (b g gv c cv : Nat) (l : Cs) (z : Int) (hz : z < 0 ∨ (l.length : Int) ≤ z) (src dst : Nat) (W : World) (h : Rep W b g c l) (hv : Wt W (.slice (some ⟨gv, 0, none⟩) l.length cv) gv l) :
    Calls Try.prog 18 #[bx b, .slice (some ⟨gv, 0, none⟩) l.length cv, acV 1 z src dst] W (ActP W b g gv (l)) := by
  have M0 := Lib.hid (Mid.start (what := 1) (at_ := z) (src := src) (dst := dst) h hv)
  obtain ⟨W1, hW1⟩ : ∃ W1, W1 = W.alloc (.cells #[.int .i64 1, .int .i64 z, .int .u64 (src : Int), .int .u64 (dst : Int)] 52) := ⟨_, rfl⟩
  rw [← hW1] at M0
  have HW1 := Lib.hid hW1
  clear hW1
  have M1 := M0.out
  have b0 := M1.box.cell 0
  have b1 := M1.box.cell 1
  have b2 := M1.box.cell 2
  have b3 := M1.box.cell 3
  simp only [List.getElem?_cons_zero, List.getElem?_cons_succ] at b0 b1 b2 b3
  have hn := Lib.hid (fun n w => num_any n w)
  have H1 := Lib.hid (rthere_out (some ⟨gv, 0, none⟩) l.length cv z W1 hz)
  have H2 := Lib.hid ((swap_out b g c l z src dst W1 M1.rep hz).mono (fun e V ⟨e1, r1⟩ => And.intro e1 (M0.out.more r1)))
  have HD := Lib.hid (fun V (h : Mid W b g gv c cv 1 z src dst l l V) => h.done)
  obtain ⟨N, hN⟩ : ∃ N, N = l.length := ⟨_, rfl⟩
  rw [← hN] at HD H1 ⊢
  clear h hv hN hz
  rw [HW1.out] at b0 b1 b2 b3
  clear M1
  go_enter Try.func18, Try.ntmps18
  go_wp2_with fail
  rw [← HW1.out]
  refine H1.out.mono ?_
  rintro e w1 ⟨rfl, rfl⟩
  have M2 := M0.out
  have b0 := M2.box.cell 0
  have b1 := M2.box.cell 1
  have b2 := M2.box.cell 2
  have b3 := M2.box.cell 3
  simp only [List.getElem?_cons_zero, List.getElem?_cons_succ] at b0 b1 b2 b3
  clear M2
  go_wp2_with fail
  refine H2.out.mono ?_
  rintro e w2 ⟨rfl, M3⟩
  have HM3 := Lib.hid M3
  clear M3 b0 b1 b2 b3
  go_wp2_with fail
  go_quiet (fail)
  go_wp2_with fail
  refine (hn.out _ _).mono ?_
  rintro e u ⟨rfl, rfl⟩
  have hfin := Lib.hid (fun q => HD.out _ (HM3.out.drewN q))
  go_wp2_with fail
  exact bodyPost_ret (v := .tuple #[_, _, .bool true]) (by simp [results, Try.results18, go_sem]; try exact ⟨rfl, rfl⟩) rfl (hfin.out _)
set_option maxRecDepth 100000 in
set_option maxHeartbeats 2000000 in
theorem act_load_out (b g gv c cv : Nat) (l : Cs) (z : Int) (hz : z < 0 ∨ (l.length : Int) ≤ z) (src dst : Nat) (W : World) (h : Rep W b g c l) (hv : Wt W (.slice (some ⟨gv, 0, none⟩) l.length cv) gv l) :
    Calls Try.prog 18 #[bx b, .slice (some ⟨gv, 0, none⟩) l.length cv, acV 2 z src dst] W (ActP W b g gv (l)) := by
  have M0 := Lib.hid (Mid.start (what := 2) (at_ := z) (src := src) (dst := dst) h hv)
  obtain ⟨W1, hW1⟩ : ∃ W1, W1 = W.alloc (.cells #[.int .i64 2, .int .i64 z, .int .u64 (src : Int), .int .u64 (dst : Int)] 52) := ⟨_, rfl⟩
  rw [← hW1] at M0
  have HW1 := Lib.hid hW1
  clear hW1
  have M1 := M0.out
  have b0 := M1.box.cell 0
  have b1 := M1.box.cell 1
  have b2 := M1.box.cell 2
  have b3 := M1.box.cell 3
  simp only [List.getElem?_cons_zero, List.getElem?_cons_succ] at b0 b1 b2 b3
  have hn := Lib.hid (fun n w => num_any n w)
  have H1 := Lib.hid (rthere_out (some ⟨gv, 0, none⟩) l.length cv z W1 hz)
  have H2 := Lib.hid ((load_out b g c l z W1 M1.rep hz))
  have H3 := Lib.hid ((count_out b g c l z W1 M1.rep hz))
  have HD := Lib.hid (fun V (h : Mid W b g gv c cv 2 z src dst l l V) => h.done)
  obtain ⟨N, hN⟩ : ∃ N, N = l.length := ⟨_, rfl⟩
  rw [← hN] at HD H1 ⊢
  clear h hv hN hz
  rw [HW1.out] at b0 b1 b2 b3
  clear M1
  go_enter Try.func18, Try.ntmps18
  go_wp2_with fail
  rw [← HW1.out]
  refine H1.out.mono ?_
  rintro e w1 ⟨rfl, rfl⟩
  have M2 := M0.out
  have b0 := M2.box.cell 0
  have b1 := M2.box.cell 1
  have b2 := M2.box.cell 2
  have b3 := M2.box.cell 3
  simp only [List.getElem?_cons_zero, List.getElem?_cons_succ] at b0 b1 b2 b3
  clear M2
  go_wp2_with fail
  refine H2.out.mono ?_
  rintro e w2 ⟨rfl, rfl⟩
  go_wp2_with fail
  refine H3.out.mono ?_
  rintro e w3 ⟨rfl, rfl⟩
  go_wp2_with fail
  refine (hn.out _ _).mono ?_
  rintro e u ⟨rfl, rfl⟩
  go_wp2_with fail
  refine (hn.out _ _).mono ?_
  rintro e u2 ⟨rfl, rfl⟩
  have hfin := Lib.hid (HD.out _ M0.out)
  go_wp2_with fail
  exact bodyPost_ret (v := .tuple #[_, _, .bool true]) (by simp [results, Try.results18, go_sem]; try exact ⟨rfl, rfl⟩) rfl hfin.out
set_option maxRecDepth 100000 in
set_option maxHeartbeats 2000000 in
theorem act_swap_yes (b g gv c cv m : Nat) (l : Cs) (k : Nat) (hk : k < l.length) (src dst : Nat) (W : World) (h : Rep W b g c l) (hv : Wt W (.slice (some ⟨gv, 0, none⟩) l.length cv) gv l) (hok : Ok m l) (hm : m < 1000000) (hx : l[k].1 = src) :
    Calls Try.prog 18 #[bx b, .slice (some ⟨gv, 0, none⟩) l.length cv, acV 1 (k : Int) src dst] W (ActP W b g gv (put l k dst)) := by
  have M0 := Lib.hid (Mid.start (what := 1) (at_ := (k : Int)) (src := src) (dst := dst) h hv)
  obtain ⟨W1, hW1⟩ : ∃ W1, W1 = W.alloc (.cells #[.int .i64 1, .int .i64 (k : Int), .int .u64 (src : Int), .int .u64 (dst : Int)] 52) := ⟨_, rfl⟩
  rw [← hW1] at M0
  have HW1 := Lib.hid hW1
  clear hW1
  have M1 := M0.out
  have b0 := M1.box.cell 0
  have b1 := M1.box.cell 1
  have b2 := M1.box.cell 2
  have b3 := M1.box.cell 3
  simp only [List.getElem?_cons_zero, List.getElem?_cons_succ] at b0 b1 b2 b3
  have hn := Lib.hid (fun n w => num_any n w)
  have H1 := Lib.hid (rthere_in (some ⟨gv, 0, none⟩) l.length cv k W1 hk)
  have hkk := Lib.hid hk
  have H2 := Lib.hid ((swap_yes b g c k m l src dst W1 M1.rep hk hx hok hm).mono (fun e V ⟨e1, r1, k1⟩ => And.intro e1 (M0.out.step r1 k1)))
  have H3 := Lib.hid (fun V (hM : Mid W b g gv c cv 1 (k : Int) src dst (put l k dst) l V) => (show Calls Try.prog 36 #[.slice (some ⟨gv, 0, none⟩) l.length cv, .int .i64 (k : Int), .int .u64 (dst : Int)] V (fun e V' => ∃ g' c', e = .returned (.slice (some ⟨g', 0, none⟩) l.length c') ∧ ActP W b g gv (put l k dst) (.returned (.tuple #[bx b, .slice (some ⟨g', 0, none⟩) l.length c', .bool true])) V') from by
    obtain ⟨cv', e, hlst⟩ := hM.wt
    refine (rstore_any gv cv k dst m l V hlst hk hok hm).mono ?_
    rintro e V' ⟨v', g', rfl, hg, ⟨c', rfl, hl⟩, hb⟩
    rw [put_len]
    refine ⟨g', c', rfl, ?_⟩
    have := hM.done2 (v' := .slice (some ⟨g', 0, none⟩) (put l k dst).length c') ⟨c', rfl, hl⟩ hg hb
    rw [put_len] at this
    exact this))
  obtain ⟨N, hN⟩ : ∃ N, N = l.length := ⟨_, rfl⟩
  obtain ⟨L2, hL2⟩ : ∃ L2, L2 = put l k dst := ⟨_, rfl⟩
  rw [← hN] at H1 H3 hk ⊢
  rw [← hL2] at H2 H3 ⊢
  have HX := Lib.hid hx
  have e1 : ((src : Int) == (src : Int)) = true := by simp
  have HNN := Lib.hid hN
  clear h hv hok hN hL2 hx
  have i0 : (0 : Int) ≤ (k : Int) := by omega
  have i1 : (k : Int) < (N : Int) := by omega
  rw [HW1.out] at b0 b1 b2 b3
  clear M1
  go_enter Try.func18, Try.ntmps18
  go_wp2_with fail
  rw [← HW1.out]
  refine H1.out.mono ?_
  rintro e w1 ⟨rfl, rfl⟩
  have M2 := M0.out
  have b0 := M2.box.cell 0
  have b1 := M2.box.cell 1
  have b2 := M2.box.cell 2
  have b3 := M2.box.cell 3
  simp only [List.getElem?_cons_zero, List.getElem?_cons_succ] at b0 b1 b2 b3
  clear M2
  go_wp2_with fail
  refine H2.out.mono ?_
  rintro e w2 ⟨rfl, M3⟩
  clear b0 b1 b2 b3
  have b0 := M3.box.cell 0
  have b1 := M3.box.cell 1
  have b2 := M3.box.cell 2
  have b3 := M3.box.cell 3
  simp only [List.getElem?_cons_zero, List.getElem?_cons_succ] at b0 b1 b2 b3
  obtain ⟨cv2, ev2, hlst2⟩ := M3.wt
  have d0 := hlst2.c0 hkk.out
  have d1 := hlst2.c1 hkk.out
  clear ev2 hlst2
  rw [HX.out] at d0
  have HM3 := Lib.hid M3
  clear M3 d1
  go_wp2_with fail
  go_quiet (fail)
  go_wp2_with fail
  refine (H3.out _ (HM3.out.drewN _)).mono ?_
  rintro e w3 ⟨g', c', rfl, hfin⟩
  have hfin := Lib.hid hfin
  go_wp2_with fail
  refine (hn.out _ _).mono ?_
  rintro e u ⟨rfl, rfl⟩
  go_wp2_with fail
  exact bodyPost_ret (v := .tuple #[_, _, .bool true]) (by simp [results, Try.results18, go_sem]; try exact ⟨rfl, rfl⟩) rfl hfin.out
set_option maxRecDepth 100000 in
set_option maxHeartbeats 2000000 in
theorem act_swap_no (b g gv c cv : Nat) (l : Cs) (k : Nat) (hk : k < l.length) (src dst : Nat) (W : World) (h : Rep W b g c l) (hv : Wt W (.slice (some ⟨gv, 0, none⟩) l.length cv) gv l) (hx : l[k].1 ≠ src) :
    Calls Try.prog 18 #[bx b, .slice (some ⟨gv, 0, none⟩) l.length cv, acV 1 (k : Int) src dst] W (ActP W b g gv (l)) := by
  have M0 := Lib.hid (Mid.start (what := 1) (at_ := (k : Int)) (src := src) (dst := dst) h hv)
  obtain ⟨W1, hW1⟩ : ∃ W1, W1 = W.alloc (.cells #[.int .i64 1, .int .i64 (k : Int), .int .u64 (src : Int), .int .u64 (dst : Int)] 52) := ⟨_, rfl⟩
  rw [← hW1] at M0
  have HW1 := Lib.hid hW1
  clear hW1
  have M1 := M0.out
  have b0 := M1.box.cell 0
  have b1 := M1.box.cell 1
  have b2 := M1.box.cell 2
  have b3 := M1.box.cell 3
  simp only [List.getElem?_cons_zero, List.getElem?_cons_succ] at b0 b1 b2 b3
  have hn := Lib.hid (fun n w => num_any n w)
  have H1 := Lib.hid (rthere_in (some ⟨gv, 0, none⟩) l.length cv k W1 hk)
  have hkk := Lib.hid hk
  have H2 := Lib.hid ((swap_no b g c k l src dst W1 M1.rep hk hx).mono (fun e V ⟨e1, r1⟩ => And.intro e1 (M0.out.more r1)))
  have HD := Lib.hid (fun V (h : Mid W b g gv c cv 1 (k : Int) src dst l l V) => h.done)
  obtain ⟨N, hN⟩ : ∃ N, N = l.length := ⟨_, rfl⟩
  rw [← hN] at HD H1 ⊢
  rw [← hN] at hk
  have e1 : ((l[k]'hkk.out).1 == src) = false := beq_eq_false_iff_ne.2 hx
  have e2 : (((l[k]'hkk.out).1 : Int) == (src : Int)) = false := beq_eq_false_iff_ne.2 (by omega)
  clear h hv hN hx e1
  have i0 : (0 : Int) ≤ (k : Int) := by omega
  have i1 : (k : Int) < (N : Int) := by omega
  rw [HW1.out] at b0 b1 b2 b3
  clear M1
  go_enter Try.func18, Try.ntmps18
  go_wp2_with fail
  rw [← HW1.out]
  refine H1.out.mono ?_
  rintro e w1 ⟨rfl, rfl⟩
  have M2 := M0.out
  have b0 := M2.box.cell 0
  have b1 := M2.box.cell 1
  have b2 := M2.box.cell 2
  have b3 := M2.box.cell 3
  simp only [List.getElem?_cons_zero, List.getElem?_cons_succ] at b0 b1 b2 b3
  clear M2
  go_wp2_with fail
  refine H2.out.mono ?_
  rintro e w2 ⟨rfl, M3⟩
  clear b0 b1 b2 b3
  have b0 := M3.box.cell 0
  have b1 := M3.box.cell 1
  have b2 := M3.box.cell 2
  have b3 := M3.box.cell 3
  simp only [List.getElem?_cons_zero, List.getElem?_cons_succ] at b0 b1 b2 b3
  obtain ⟨cv2, ev2, hlst2⟩ := M3.wt
  have d0 := hlst2.c0 hkk.out
  have d1 := hlst2.c1 hkk.out
  clear ev2 hlst2
  obtain ⟨x, hx⟩ : ∃ x, x = (l[k]'hkk.out).1 := ⟨_, rfl⟩
  rw [← hx] at d0 e2
  have HM3 := Lib.hid M3
  clear M3 d1 hx
  go_wp2_with fail
  go_quiet (fail)
  go_wp2_with fail
  refine (hn.out _ _).mono ?_
  rintro e u ⟨rfl, rfl⟩
  have hfin := Lib.hid (fun q => HD.out _ (HM3.out.drewN q))
  go_wp2_with fail
  exact bodyPost_ret (v := .tuple #[_, _, .bool true]) (by simp [results, Try.results18, go_sem]; try exact ⟨rfl, rfl⟩) rfl (hfin.out _)
set_option maxRecDepth 100000 in
set_option maxHeartbeats 2000000 in
theorem act_load_in (b g gv c cv : Nat) (l : Cs) (k : Nat) (hk : k < l.length) (src dst : Nat) (W : World) (h : Rep W b g c l) (hv : Wt W (.slice (some ⟨gv, 0, none⟩) l.length cv) gv l) :
    Calls Try.prog 18 #[bx b, .slice (some ⟨gv, 0, none⟩) l.length cv, acV 2 (k : Int) src dst] W (ActP W b g gv (l)) := by
  have M0 := Lib.hid (Mid.start (what := 2) (at_ := (k : Int)) (src := src) (dst := dst) h hv)
  obtain ⟨W1, hW1⟩ : ∃ W1, W1 = W.alloc (.cells #[.int .i64 2, .int .i64 (k : Int), .int .u64 (src : Int), .int .u64 (dst : Int)] 52) := ⟨_, rfl⟩
  rw [← hW1] at M0
  have HW1 := Lib.hid hW1
  clear hW1
  have M1 := M0.out
  have b0 := M1.box.cell 0
  have b1 := M1.box.cell 1
  have b2 := M1.box.cell 2
  have b3 := M1.box.cell 3
  simp only [List.getElem?_cons_zero, List.getElem?_cons_succ] at b0 b1 b2 b3
  have hn := Lib.hid (fun n w => num_any n w)
  have H1 := Lib.hid (rthere_in (some ⟨gv, 0, none⟩) l.length cv k W1 hk)
  have hkk := Lib.hid hk
  have H2 := Lib.hid (load_in b g c k l W1 M1.rep hk)
  have H3 := Lib.hid (count_in b g c k l W1 M1.rep hk)
  obtain ⟨cv2, ev2, hlst2⟩ := M1.wt
  have d0 := hlst2.c0 hk
  have d1 := hlst2.c1 hk
  clear ev2 hlst2
  generalize hx : (l[k]'hk).1 = x at d0 H2
  generalize hy : (l[k]'hk).2 = y at d1 H3
  have HD := Lib.hid (fun V (h : Mid W b g gv c cv 2 (k : Int) src dst l l V) => h.done)
  obtain ⟨N, hN⟩ : ∃ N, N = l.length := ⟨_, rfl⟩
  rw [← hN] at HD H1 hk ⊢
  have e1 : ((x : Int) == (x : Int)) = true := by simp
  have e2 : ((y : Int) == (y : Int)) = true := by simp
  have D0 := Lib.hid d0
  have D1 := Lib.hid d1
  clear h hv hN hx hy d0 d1
  have i0 : (0 : Int) ≤ (k : Int) := by omega
  have i1 : (k : Int) < (N : Int) := by omega
  rw [HW1.out] at b0 b1 b2 b3
  clear M1
  go_enter Try.func18, Try.ntmps18
  go_wp2_with fail
  rw [← HW1.out]
  refine H1.out.mono ?_
  rintro e w1 ⟨rfl, rfl⟩
  have M2 := M0.out
  have b0 := M2.box.cell 0
  have b1 := M2.box.cell 1
  have b2 := M2.box.cell 2
  have b3 := M2.box.cell 3
  simp only [List.getElem?_cons_zero, List.getElem?_cons_succ] at b0 b1 b2 b3
  have d0 := D0.out
  have d1 := D1.out
  clear M2
  go_wp2_with fail
  refine H2.out.mono ?_
  rintro e w2 ⟨rfl, rfl⟩
  go_wp2_with fail
  refine H3.out.mono ?_
  rintro e w3 ⟨rfl, rfl⟩
  go_wp2_with fail
  refine (hn.out _ _).mono ?_
  rintro e u ⟨rfl, rfl⟩
  go_wp2_with fail
  refine (hn.out _ _).mono ?_
  rintro e u2 ⟨rfl, rfl⟩
  have hfin := Lib.hid (HD.out _ M0.out)
  go_wp2_with fail
  exact bodyPost_ret (v := .tuple #[_, _, .bool true]) (by simp [results, Try.results18, go_sem]; try exact ⟨rfl, rfl⟩) rfl hfin.out
set_option maxRecDepth 100000 in
set_option maxHeartbeats 2000000 in
theorem act_copy_in (b g gv c cv m : Nat) (l : Cs) (k : Nat) (hk : k < l.length) (what : Int) (h0 : what ≠ 0) (h1 : what ≠ 1) (h2 : what ≠ 2) (src dst : Nat) (W : World) (h : Rep W b g c l) (hv : Wt W (.slice (some ⟨gv, 0, none⟩) l.length cv) gv l) (hok : Ok m l) :
    Calls Try.prog 18 #[bx b, .slice (some ⟨gv, 0, none⟩) l.length cv, acV what (k : Int) src dst] W (ActP W b g gv (l)) := by
  have M0 := Lib.hid (Mid.start (what := what) (at_ := (k : Int)) (src := src) (dst := dst) h hv)
  obtain ⟨W1, hW1⟩ : ∃ W1, W1 = W.alloc (.cells #[.int .i64 what, .int .i64 (k : Int), .int .u64 (src : Int), .int .u64 (dst : Int)] 52) := ⟨_, rfl⟩
  rw [← hW1] at M0
  have HW1 := Lib.hid hW1
  clear hW1
  have M1 := M0.out
  have b0 := M1.box.cell 0
  have b1 := M1.box.cell 1
  have b2 := M1.box.cell 2
  have b3 := M1.box.cell 3
  simp only [List.getElem?_cons_zero, List.getElem?_cons_succ] at b0 b1 b2 b3
  have hn := Lib.hid (fun n w => num_any n w)
  have H1 := Lib.hid (rthere_in (some ⟨gv, 0, none⟩) l.length cv k W1 hk)
  have H2 := Lib.hid ((copy_rep b g c l W1 M1.rep hok.most).mono (fun (e : Ending) V ⟨b', g', c', e1, a1, a2, a3, a4⟩ => (show ∃ b', e = Ending.returned (bx b') ∧ ActP W b g gv l (.returned (.tuple #[bx b', .slice (some ⟨gv, 0, none⟩) l.length cv, .bool true])) V from ⟨b', e1, M0.out.done3 a3 a1 a2 a4⟩)))
  obtain ⟨N, hN⟩ : ∃ N, N = l.length := ⟨_, rfl⟩
  rw [← hN] at H1 H2 ⊢
  have e0 : (what == (0 : Int)) = false := beq_eq_false_iff_ne.2 h0
  have e1 : (what == (1 : Int)) = false := beq_eq_false_iff_ne.2 h1
  have e2 : (what == (2 : Int)) = false := beq_eq_false_iff_ne.2 h2
  clear h hv hok hN h0 h1 h2 hk
  rw [HW1.out] at b0 b1 b2 b3
  clear M1
  go_enter Try.func18, Try.ntmps18
  go_wp2_with fail
  rw [← HW1.out]
  refine H1.out.mono ?_
  rintro e w1 ⟨rfl, rfl⟩
  have M2 := M0.out
  have b0 := M2.box.cell 0
  have b1 := M2.box.cell 1
  have b2 := M2.box.cell 2
  have b3 := M2.box.cell 3
  simp only [List.getElem?_cons_zero, List.getElem?_cons_succ] at b0 b1 b2 b3
  clear M2
  go_wp2_with fail
  refine H2.out.mono ?_
  rintro e w2 ⟨b', rfl, hfin⟩
  have hfin := Lib.hid hfin
  clear b0 b1 b2 b3
  go_wp2_with fail
  exact bodyPost_ret (v := .tuple #[_, _, .bool true]) (by simp [results, Try.results18, go_sem]; try exact ⟨rfl, rfl⟩) rfl hfin.out
set_option maxRecDepth 100000 in
set_option maxHeartbeats 2000000 in
theorem act_copy_out (b g gv c cv m : Nat) (l : Cs) (z : Int) (hz : z < 0 ∨ (l.length : Int) ≤ z) (what : Int) (h0 : what ≠ 0) (h1 : what ≠ 1) (h2 : what ≠ 2) (src dst : Nat) (W : World) (h : Rep W b g c l) (hv : Wt W (.slice (some ⟨gv, 0, none⟩) l.length cv) gv l) (hok : Ok m l) :
    Calls Try.prog 18 #[bx b, .slice (some ⟨gv, 0, none⟩) l.length cv, acV what z src dst] W (ActP W b g gv (l)) := by
  have M0 := Lib.hid (Mid.start (what := what) (at_ := z) (src := src) (dst := dst) h hv)
  obtain ⟨W1, hW1⟩ : ∃ W1, W1 = W.alloc (.cells #[.int .i64 what, .int .i64 z, .int .u64 (src : Int), .int .u64 (dst : Int)] 52) := ⟨_, rfl⟩
  rw [← hW1] at M0
  have HW1 := Lib.hid hW1
  clear hW1
  have M1 := M0.out
  have b0 := M1.box.cell 0
  have b1 := M1.box.cell 1
  have b2 := M1.box.cell 2
  have b3 := M1.box.cell 3
  simp only [List.getElem?_cons_zero, List.getElem?_cons_succ] at b0 b1 b2 b3
  have hn := Lib.hid (fun n w => num_any n w)
  have H1 := Lib.hid (rthere_out (some ⟨gv, 0, none⟩) l.length cv z W1 hz)
  have H2 := Lib.hid ((copy_rep b g c l W1 M1.rep hok.most).mono (fun (e : Ending) V ⟨b', g', c', e1, a1, a2, a3, a4⟩ => (show ∃ b', e = Ending.returned (bx b') ∧ ActP W b g gv l (.returned (.tuple #[bx b', .slice (some ⟨gv, 0, none⟩) l.length cv, .bool true])) V from ⟨b', e1, M0.out.done3 a3 a1 a2 a4⟩)))
  obtain ⟨N, hN⟩ : ∃ N, N = l.length := ⟨_, rfl⟩
  rw [← hN] at H1 H2 ⊢
  have e0 : (what == (0 : Int)) = false := beq_eq_false_iff_ne.2 h0
  have e1 : (what == (1 : Int)) = false := beq_eq_false_iff_ne.2 h1
  have e2 : (what == (2 : Int)) = false := beq_eq_false_iff_ne.2 h2
  clear h hv hok hN h0 h1 h2 hz
  rw [HW1.out] at b0 b1 b2 b3
  clear M1
  go_enter Try.func18, Try.ntmps18
  go_wp2_with fail
  rw [← HW1.out]
  refine H1.out.mono ?_
  rintro e w1 ⟨rfl, rfl⟩
  have M2 := M0.out
  have b0 := M2.box.cell 0
  have b1 := M2.box.cell 1
  have b2 := M2.box.cell 2
  have b3 := M2.box.cell 3
  simp only [List.getElem?_cons_zero, List.getElem?_cons_succ] at b0 b1 b2 b3
  clear M2
  go_wp2_with fail
  refine H2.out.mono ?_
  rintro e w2 ⟨b', rfl, hfin⟩
  have hfin := Lib.hid hfin
  clear b0 b1 b2 b3
  go_wp2_with fail
  exact bodyPost_ret (v := .tuple #[_, _, .bool true]) (by simp [results, Try.results18, go_sem]; try exact ⟨rfl, rfl⟩) rfl hfin.out
theorem act_any (b g gv m : Nat) (c : Nat) (l : Cs) (v : Value) (x : Ac) (W : World) (h : Rep W b g c l) (hv : Wt W v gv l) (hok : Ok m l) (hm : m < 1000000) :
    Calls Try.prog 18 #[bx b, v, .agg x.cells.toArray] W (ActP W b g gv (actL l x.what x.at_ x.src x.dst)) := by
  obtain ⟨what, at_, src, dst⟩ := x
  obtain ⟨cv, rfl, hlst⟩ := hv
  have hv : Wt W (.slice (some ⟨gv, 0, none⟩) l.length cv) gv l := ⟨cv, rfl, hlst⟩
  show Calls _ _ #[bx b, _, acV what at_ src dst] W (ActP W b g gv (actL l what at_ src dst))
  cases hq : inL l at_
  · have hz := inL_no hq
    by_cases h0 : what = 0
    · subst h0
      rw [show actL l 0 at_ src dst = l by simp [actL, storeL, hq]]
      exact act_store_out b g gv c cv l at_ hz src dst W h hv
    · by_cases h1 : what = 1
      · subst h1
        rw [show actL l 1 at_ src dst = l by simp [actL, swapL, swapQ, hq]]
        exact act_swap_out b g gv c cv l at_ hz src dst W h hv
      · rw [show actL l what at_ src dst = l by simp [actL, h0, h1]]
        by_cases h2 : what = 2
        · subst h2
          exact act_load_out b g gv c cv l at_ hz src dst W h hv
        · exact act_copy_out b g gv c cv m l at_ hz what h0 h1 h2 src dst W h hv hok
  · obtain ⟨k, rfl, hk⟩ := inL_nat hq
    by_cases h0 : what = 0
    · subst h0
      rw [show actL l 0 (k : Int) src dst = put l k dst by simp [actL, storeL, hq]]
      exact act_store_in b g gv c cv m l k hk src dst W h hv hok hm
    · by_cases h1 : what = 1
      · subst h1
        by_cases hx : l[k].1 = src
        · rw [show actL l 1 (k : Int) src dst = put l k dst by simp [actL, swapL, swapQ, hq, hk, hx]]
          exact act_swap_yes b g gv c cv m l k hk src dst W h hv hok hm hx
        · rw [show actL l 1 (k : Int) src dst = l by simp [actL, swapL, swapQ, hk, hx]]
          exact act_swap_no b g gv c cv l k hk src dst W h hv hx
      · rw [show actL l what (k : Int) src dst = l by simp [actL, h0, h1]]
        by_cases h2 : what = 2
        · subst h2
          exact act_load_in b g gv c cv l k hk src dst W h hv
        · exact act_copy_in b g gv c cv m l k hk what h0 h1 h2 src dst W h hv hok
end Go.Proofs.Ytijgkjliienjhaa
