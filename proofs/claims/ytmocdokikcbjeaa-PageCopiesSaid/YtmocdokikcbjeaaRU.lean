import Derived.Test.YtmocdokikcbjeaaSl
namespace Go.Proofs.Ytmocdokikcbjeaa
open Go.RowKit Go.Shelf Go.Maps Go.Sort
attribute [local go_sem] Oper.semAt_some

/- THE DOCUMENT's UNMAP. -/
theorem del_at {l : Tb} {p : Int} {k : Nat} (hs : l.Pairwise (fun a b => a.1 < b.1)) (hk : k < l.length) (h : l[k].1 = p) : del l p = l.take k ++ l.drop (k + 1) := by
  have e : l = l.take k ++ l[k] :: l.drop (k + 1) := by
    rw [List.getElem_cons_drop]
    exact (List.take_append_drop k l).symm
  have h1 : ∀ r ∈ l.take k, r.1 ≠ p := fun r hr he => by
    have hs2 := hs
    rw [e, List.pairwise_append] at hs2
    have := hs2.2.2 r hr l[k] List.mem_cons_self
    omega
  have h2 : ∀ r ∈ l.drop (k + 1), r.1 ≠ p := fun r hr he => by
    have hs2 := hs
    rw [e, List.pairwise_append] at hs2
    have := (List.pairwise_cons.1 hs2.2.1).1 r hr
    omega
  unfold del
  have e2 : l.filter (fun r => !(r.1 == p)) = (l.take k ++ l[k] :: l.drop (k + 1)).filter (fun r => !(r.1 == p)) := by rw [← e]
  rw [e2, List.filter_append, List.filter_cons_of_neg (by simpa using h), List.filter_eq_self.2 (fun r hr => by simpa using h1 r hr), List.filter_eq_self.2 (fun r hr => by simpa using h2 r hr)]
theorem cell_block {W V : World} {m : Nat} (h : ∀ q, q ≤ m → W.heap[q]? = V.heap[q]?) (a : Addr) (ha : a.block ≤ m) : W.cell? a = V.cell? a := World.cell?_of_block (h _ ha)
/-- the blocks that Unmap lays first -/
structure UnW (w : World) (A : Option Addr) (n c : Nat) (V : World) : Prop where
  below : Below w.heap.size w V
  s : w.heap.size + 3 ≤ V.heap.size
  t : Row V w.heap.size 29 [.slice A n c]
  r : Row V (w.heap.size + 1) 29 [.slice none 0 0]
  e : Row V (w.heap.size + 2) 34 [.int .i64 0, .int .i64 0, .int .i64 0]
theorem UnW.more {w V V' : World} {A : Option Addr} {n c : Nat} (h : UnW w A n c V) (hb : Below V.heap.size V V') : UnW w A n c V' :=
  ⟨below0 h.below hb, Nat.le_trans h.s hb.size, h.t.below hb, h.r.below hb, h.e.below hb⟩
theorem UnW.new (w : World) (A : Option Addr) (n c : Nat) : UnW w A n c (((w.alloc (.cells #[.slice A n c] 29)).alloc (.cells #[.slice none 0 0] 29)).alloc (.cells #[.int .i64 0, .int .i64 0, .int .i64 0] 34)) :=
  ⟨below3 _ _ _ _, by simp, ((Row.new w _ _).below (below1 _ _)).below (below1 _ _), (Row.new_at _ _ _ (by simp)).below (below1 _ _), Row.new_at _ _ _ (by simp)⟩
structure UnC (w : World) (A : Option Addr) (n c : Nat) (V : World) : Prop where
  t0 : V.cell? ⟨w.heap.size, 0, none⟩ = some (.slice A n c)
  r0 : V.cell? ⟨w.heap.size + 1, 0, none⟩ = some (.slice none 0 0)
  z0 : V.frozen? ⟨w.heap.size + 1, 0, none⟩ = false
  e0 : V.cell? ⟨w.heap.size + 1 + 1, 0, none⟩ = some (.int .i64 0)
  e1 : V.cell? ⟨w.heap.size + 1 + 1, 1, none⟩ = some (.int .i64 0)
  e2 : V.cell? ⟨w.heap.size + 1 + 1, 2, none⟩ = some (.int .i64 0)
  y0 : V.frozen? ⟨w.heap.size + 1 + 1, 0, none⟩ = false
  y1 : V.frozen? ⟨w.heap.size + 1 + 1, 1, none⟩ = false
  y2 : V.frozen? ⟨w.heap.size + 1 + 1, 2, none⟩ = false
theorem UnW.c {w V : World} {A : Option Addr} {n c : Nat} (h : UnW w A n c V) : UnC w A n c V :=
  ⟨h.t.cell 0, h.r.cell 0, h.r.frozen 0, h.e.cell 0, h.e.cell 1, h.e.cell 2, h.e.frozen 0, h.e.frozen 1, h.e.frozen 2⟩
/-- the world behind the stores into the answer -/
def unSt (w V : World) (v : Value) (a b c : Int) : World := (((V.setCell ⟨w.heap.size + 1, 0, none⟩ v).setCell ⟨w.heap.size + 1 + 1, 0, none⟩ (.int .i64 a)).setCell ⟨w.heap.size + 1 + 1, 1, none⟩ (.int .i64 b)).setCell ⟨w.heap.size + 1 + 1, 2, none⟩ (.int .i64 c)
theorem unSt_heap (w V : World) (v : Value) (a b c : Int) (k : Nat) (h1 : k ≠ w.heap.size + 1) (h2 : k ≠ w.heap.size + 1 + 1) : (unSt w V v a b c).heap[k]? = V.heap[k]? := by
  unfold unSt
  rw [heap_set h2, heap_set h2, heap_set h2, heap_set h1]
theorem UnW.fin {w V : World} {A : Option Addr} {n c : Nat} (h : UnW w A n c V) (v : Value) (x1 x2 x3 : Int) : (loadVar 29 ⟨w.heap.size + 1, 0, none⟩).run Try.prog (unSt w V v x1 x2 x3) = .ok (.agg #[v]) (unSt w V v x1 x2 x3) ∧
    (loadVar 34 ⟨w.heap.size + 1 + 1, 0, none⟩).run Try.prog (unSt w V v x1 x2 x3) = .ok (enV (x1, x2, x3)) (unSt w V v x1 x2 x3) ∧ Below w.heap.size w (unSt w V v x1 x2 x3) := by
  have hr1 : Row (V.setCell ⟨w.heap.size + 1, 0, none⟩ v) (w.heap.size + 1) 29 [v] := h.r.set 0 v
  have he1 : Row (V.setCell ⟨w.heap.size + 1, 0, none⟩ v) (w.heap.size + 1 + 1) 34 [.int .i64 0, .int .i64 0, .int .i64 0] := h.e.same (heap_set (by omega))
  refine ⟨load_tb ?_, ?_, ?_⟩
  · have : Row (unSt w V v x1 x2 x3) (w.heap.size + 1) 29 [v] := hr1.same (by unfold unSt; rw [heap_set (by omega), heap_set (by omega), heap_set (by omega)])
    exact this.cell 0
  · exact set3_ld he1 x1 x2 x3
  · exact (((h.below.setCell (show w.heap.size ≤ w.heap.size + 1 by omega) _).setCell (show w.heap.size ≤ w.heap.size + 1 + 1 by omega) _).setCell (show w.heap.size ≤ w.heap.size + 1 + 1 by omega) _).setCell (show w.heap.size ≤ w.heap.size + 1 + 1 by omega) _
theorem res_cells {fn : Func} {p q t : Tmp} {ty ty2 : TypeId} (h : fn.results = #[.cell p ty, .cell q ty2, .tmp t]) {tmps : Array Value} {P : Program} {w : World} {a b : Addr} (ha : tmps.getD p undef = .pointer (some a)) (hb : tmps.getD q undef = .pointer (some b)) {v u : Value} (hv : (loadVar ty a).run P w = .ok v w) (hu : (loadVar ty2 b).run P w = .ok u w) :
    (results fn tmps).run P w = .ok (.tuple #[v, u, tmps.getD t undef]) w := by
  have h1 : (results fn tmps).run P w = ((asAddr (tmps.getD p undef)).run P w).andThen fun a w₁ => ((loadVar ty a).run P w₁).andThen fun v w₂ => ((asAddr (tmps.getD q undef)).run P w₂).andThen fun b w₃ => ((loadVar ty2 b).run P w₃).andThen fun u w₄ => .ok (.tuple #[v, u, tmps.getD t undef]) w₄ := by
    simp only [results, h]
    simp [Sem.run_bind, Result.andThen]
  rw [h1, ha]
  show ((loadVar ty a).run P w).andThen _ = _
  rw [hv]
  show ((asAddr (tmps.getD q undef)).run P w).andThen _ = _
  rw [hb]
  show ((loadVar ty2 b).run P w).andThen _ = _
  rw [hu]
  rfl
theorem un_first (w : World) (v u : Value) : (loadVar 29 ⟨w.heap.size + 1, 0, none⟩).run Try.prog (((w.alloc (.cells #[u] 29)).alloc (.cells #[v] 29)).alloc (.cells #[.int .i64 0, .int .i64 0, .int .i64 0] 34)) = .ok (.agg #[v]) (((w.alloc (.cells #[u] 29)).alloc (.cells #[v] 29)).alloc (.cells #[.int .i64 0, .int .i64 0, .int .i64 0] 34)) ∧
    (loadVar 34 ⟨w.heap.size + 1 + 1, 0, none⟩).run Try.prog (((w.alloc (.cells #[u] 29)).alloc (.cells #[v] 29)).alloc (.cells #[.int .i64 0, .int .i64 0, .int .i64 0] 34)) = .ok (enV (0, 0, 0)) (((w.alloc (.cells #[u] 29)).alloc (.cells #[v] 29)).alloc (.cells #[.int .i64 0, .int .i64 0, .int .i64 0] 34)) := by
  refine ⟨load_tb ?_, ?_⟩
  · exact (World.cell?_alloc_lt _ _ _ (by simp)).trans (cell_new_at _ _ _ _ (by simp))
  · have := load_en1 ((w.alloc (.cells #[u] 29)).alloc (.cells #[v] 29)) 0 0 0
    rw [World.size_alloc, World.size_alloc] at this
    exact this
set_option maxRecDepth 100000 in
set_option maxHeartbeats 4000000 in
theorem runmap_any (l : Tb) (A : Option Addr) (c : Nat) (p : Int) (w : World) (hok : Tok l) (hcap : l.length ≤ c) (hA : Lies w A l) :
    Calls Try.prog 29 #[.agg #[.slice A l.length c], .int .i64 p] w (RefP w (unmapT l p) [enV (unmapX l p), .int .i64 (unmapE l p : Int)]) := by
  obtain ⟨i0, hi0, hz0, hz1, hz2⟩ := info_parts row_info
  have HM := Lib.hid hok.len
  obtain ⟨w1, hw1⟩ : ∃ w1, w1 = ((w.alloc (.cells #[.slice A l.length c] 29)).alloc (.cells #[.slice none 0 0] 29)).alloc (.cells #[.int .i64 0, .int .i64 0, .int .i64 0] 34) := ⟨_, rfl⟩
  have m1 : UnW w A l.length c w1 := hw1 ▸ UnW.new w A l.length c
  have HT := Lib.hid (fun V (hV : UnW w A l.length c V) => rat_any l A l.length c p V rfl hok.len (hA.below hV.below))
  have HOLD := Lib.hid (fun V (hV : UnW w A l.length c V) (E : Nat) (h1 : unmapE l p = E) (h2 : E ≠ 0) => (show (loadVar 29 ⟨w.heap.size + 1, 0, none⟩).run Try.prog (unSt w V (.slice A l.length c) 0 0 0) = .ok (.agg #[.slice A l.length c]) (unSt w V (.slice A l.length c) 0 0 0) ∧
      (loadVar 34 ⟨w.heap.size + 1 + 1, 0, none⟩).run Try.prog (unSt w V (.slice A l.length c) 0 0 0) = .ok (enV (0, 0, 0)) (unSt w V (.slice A l.length c) 0 0 0) ∧
      RefP w (unmapT l p) [enV (unmapX l p), .int .i64 (unmapE l p : Int)] (.returned (.tuple #[.agg #[.slice A l.length c], enV (0, 0, 0), .int .i64 (E : Int)])) (unSt w V (.slice A l.length c) 0 0 0) from by
    have hT : unmapT l p = l := by unfold unmapT; rw [if_neg (by rw [h1]; exact h2)]
    have hX : unmapX l p = (0, 0, 0) := by unfold unmapX; rw [if_neg (by rw [h1]; exact h2)]; rfl
    obtain ⟨f1, f2, f3⟩ := hV.fin (.slice A l.length c) 0 0 0
    refine ⟨f1, f2, ?_⟩
    rw [hT, hX, h1]
    exact ⟨A, c, rfl, hcap, hA.below f3, f3⟩))
  have HEQ : Hid (unmapE l p = if pageB p = false then 4 else if (look l p).isSome = false then 5 else 0) := Lib.hid rfl
  have HA := Lib.hid hA
  have HX := Lib.hid hw1
  have HM1 := Lib.hid m1
  have HOK := Lib.hid hok
  have HCAP := Lib.hid hcap
  obtain ⟨t0, r0, z0, e0, e1, e2, y0, y1, y2⟩ := m1.c
  clear hw1 m1 hok hA hcap
  have g0 := t0
  have g1 := r0
  have g2 := z0
  rw [HX.out] at g0 g1 g2
  go_enter Try.func29, Try.ntmps29
  by_cases hp0 : p < 0
  · have d0 : decide (p < 0) = true := decide_eq_true hp0
    have K := Lib.hid (un_first w (.slice A l.length c) (.slice A l.length c))
    have KR := Lib.hid (show RefP w (unmapT l p) [enV (unmapX l p), .int .i64 (unmapE l p : Int)] (.returned (.tuple #[.agg #[.slice A l.length c], enV (0, 0, 0), .int .i64 4])) (((w.alloc (.cells #[.slice A l.length c] 29)).alloc (.cells #[.slice A l.length c] 29)).alloc (.cells #[.int .i64 0, .int .i64 0, .int .i64 0] 34)) from by
      have h1 : unmapE l p = 4 := by rw [HEQ.out, if_pos (by unfold pageB; rw [decide_eq_false (by omega)]; rfl)]
      have hT : unmapT l p = l := by unfold unmapT; rw [if_neg (by rw [h1]; decide)]
      have hX : unmapX l p = (0, 0, 0) := by unfold unmapX; rw [if_neg (by rw [h1]; decide)]; rfl
      rw [hT, hX, h1]
      exact ⟨A, c, rfl, HCAP.out, HA.out.below (below3 _ _ _ _), below3 _ _ _ _⟩)
    clear hp0
    go_wp2_with fail
    exact bodyPost_ret (res_cells Try.results29 rfl rfl K.out.1 K.out.2) rfl KR.out
  have d0 : decide (p < 0) = false := decide_eq_false hp0
  by_cases hp1 : 65536 ≤ p
  · have d1 : decide (65536 ≤ p) = true := decide_eq_true hp1
    have K := Lib.hid (un_first w (.slice A l.length c) (.slice A l.length c))
    have KR := Lib.hid (show RefP w (unmapT l p) [enV (unmapX l p), .int .i64 (unmapE l p : Int)] (.returned (.tuple #[.agg #[.slice A l.length c], enV (0, 0, 0), .int .i64 4])) (((w.alloc (.cells #[.slice A l.length c] 29)).alloc (.cells #[.slice A l.length c] 29)).alloc (.cells #[.int .i64 0, .int .i64 0, .int .i64 0] 34)) from by
      have h1 : unmapE l p = 4 := by rw [HEQ.out, if_pos (by unfold pageB; rw [decide_eq_false (p := p < 65536) (by omega), Bool.and_false])]
      have hT : unmapT l p = l := by unfold unmapT; rw [if_neg (by rw [h1]; decide)]
      have hX : unmapX l p = (0, 0, 0) := by unfold unmapX; rw [if_neg (by rw [h1]; decide)]; rfl
      rw [hT, hX, h1]
      exact ⟨A, c, rfl, HCAP.out, HA.out.below (below3 _ _ _ _), below3 _ _ _ _⟩)
    clear hp0 hp1
    go_wp2_with fail
    exact bodyPost_ret (res_cells Try.results29 rfl rfl K.out.1 K.out.2) rfl KR.out
  have d1 : decide (65536 ≤ p) = false := decide_eq_false hp1
  have HPG := Lib.hid (show pageB p = true from pageB_iff.2 ⟨by omega, by omega⟩)
  clear hp0 hp1
  go_wp2_with fail
  rw [← HX.out]
  refine (HT.out w1 HM1.out).mono ?_
  rintro e w3 ⟨rfl, hb3⟩
  have M3 := Lib.hid (HM1.out.more hb3)
  clear t0 r0 z0 e0 e1 e2 y0 y1 y2 g0 g1 g2 hb3
  obtain ⟨t0, r0, z0, e0, e1, e2, y0, y1, y2⟩ := M3.out.c
  rcases at_look (l := l) (z := p) with ⟨h1, h2⟩ | ⟨k, hk, h1, h2, h3⟩
  · have d2 : decide ((-1 : Int) < 0) = true := rfl
    obtain ⟨k1, k2, k3⟩ := HOLD.out w3 M3.out 5 (by rw [HEQ.out, if_neg (by rw [HPG.out]; decide), if_pos (by rw [h2]; rfl)]) (by decide)
    have K1 := Lib.hid k1
    have K2 := Lib.hid k2
    have K3 := Lib.hid k3
    rw [h1]
    clear k1 k2 k3 h1 h2
    go_wp2_with fail
    exact bodyPost_ret (res_cells Try.results29 rfl rfl K1.out K2.out) rfl K3.out
  · have d2 : decide ((k : Int) < 0) = false := decide_eq_false (by omega)
    have hE0 : unmapE l p = 0 := by rw [HEQ.out, if_neg (by rw [HPG.out]; decide), if_neg (by rw [h3]; simp)]
    have hT : unmapT l p = l.take k ++ l.drop (k + 1) := by unfold unmapT; rw [if_pos hE0, del_at HOK.out.sorted hk h2]
    have hX : unmapX l p = l[k].2 := by unfold unmapX; rw [if_pos hE0, h3]; rfl
    have hLies := HA.out.below M3.out.below
    obtain ⟨ad, hAd, _⟩ := hLies.at_ k hk
    subst hAd
    have hadb : ad.block < w.heap.size := by
      obtain ⟨ad2, e2, h5, _⟩ := HA.out (by
        intro e
        have := row_get l k 0 hk (by omega)
        rw [e] at this
        simp [encR] at this)
      obtain rfl := Option.some.inj e2
      exact h5
    have hmx := HM.out
    have hcx := HCAP.out
    have hL1 : Sees ((w3.alloc (.cells #[] 46)).drew) w3.heap.size (some ad) (l.flatMap encR) := ((show Lies w3 (some ad) l from hLies).alloc (Nat.le_refl _) _).drew
    have hown0 : ((w3.alloc (.cells #[] 46)).drew).ownsRow w3.heap.size 46 4 (.slice (some ⟨w3.heap.size, 0, none⟩) 0 0) 0 [] := World.ownsRow_made w3 #[] 0 (Nat.le_refl _) (Nat.zero_le _) rfl
    obtain ⟨v1, w4, hrun1, hown1, hg1, hv1⟩ := run_append_sees (P := Try.prog) ((w3.alloc (.cells #[] 46)).drew) w3.heap.size 27 27 46 i0 _ 4 32 Try.underlying27 hi0 hz0 hz1 hz2 rfl (by decide) _ 0 [] hown0 w3.heap.size (some ad) k c ((l.take k).flatMap encR) (by rw [row_len, List.length_take, Nat.min_eq_left (by omega)]) (sees_to hL1 k) row_one (by unfold maxLen; omega) (by omega) (by simp)
    have hb4 : Below w3.heap.size w3 w4 := (((Below.refl _ w3).alloc (Nat.le_refl _) _).drew).grown hg1 (by simp) (fun r e => (hown0.lt r e).1)
    have hL4 : Sees w4 w4.heap.size (some ad) (l.flatMap encR) := Lies.below hLies hb4
    obtain ⟨v2, w5, hrun2, hown2, hg2, hv2⟩ := run_append_sees (P := Try.prog) w4 w3.heap.size 27 27 46 i0 _ 4 32 Try.underlying27 hi0 hz0 hz1 hz2 rfl (by decide) v1 (0 + k) _ hown1 w4.heap.size (fromA ad c k) (l.length - (k + 1)) (c - (k + 1)) ((l.drop (k + 1)).flatMap encR) (by rw [row_len, List.length_drop]) (sees_from hL4 c k hcx) row_one (by unfold maxLen; omega) (by omega) hb4.size
    have hb5 : Below w3.heap.size w3 w5 := hb4.grown hg2 hb4.size (fun r e => (hown1.lt r e).1)
    obtain ⟨Av, cv, rfl⟩ := own_slice hown2
    have hlen : (l.take k ++ l.drop (k + 1)).length = k + (l.length - (k + 1)) := by rw [List.length_append, List.length_take, List.length_drop]; omega
    have hown3 : w5.ownsRow w3.heap.size 46 4 (.slice Av (k + (l.length - (k + 1))) cv) (k + (l.length - (k + 1))) ((l.take k ++ l.drop (k + 1)).flatMap encR) := by
      have := hown2
      rw [List.nil_append, ← List.flatMap_append, Nat.zero_add] at this
      exact this
    have M5 := M3.out.more hb5
    have hrow5 : RowAt w5 ad k l[k] := by
      obtain ⟨ad', e, hr⟩ := (HA.out.below M5.below).at_ k hk
      obtain rfl := Option.some.inj e
      exact hr
    have HFIN := Lib.hid (fun (V : World) (hV : UnW w (some ad) l.length c V) (hh : ∀ q, w3.heap.size ≤ q → V.heap[q]? = w5.heap[q]?) => (show (loadVar 29 ⟨w.heap.size + 1, 0, none⟩).run Try.prog (unSt w V (.slice Av (k + (l.length - (k + 1))) cv) l[k].2.1 l[k].2.2.1 l[k].2.2.2) = .ok (.agg #[.slice Av (k + (l.length - (k + 1))) cv]) (unSt w V (.slice Av (k + (l.length - (k + 1))) cv) l[k].2.1 l[k].2.2.1 l[k].2.2.2) ∧
        (loadVar 34 ⟨w.heap.size + 1 + 1, 0, none⟩).run Try.prog (unSt w V (.slice Av (k + (l.length - (k + 1))) cv) l[k].2.1 l[k].2.2.1 l[k].2.2.2) = .ok (enV (l[k].2.1, l[k].2.2.1, l[k].2.2.2)) (unSt w V (.slice Av (k + (l.length - (k + 1))) cv) l[k].2.1 l[k].2.2.1 l[k].2.2.2) ∧
        RefP w (unmapT l p) [enV (unmapX l p), .int .i64 (unmapE l p : Int)] (.returned (.tuple #[.agg #[.slice Av (k + (l.length - (k + 1))) cv], enV (l[k].2.1, l[k].2.2.1, l[k].2.2.2), .int .i64 0])) (unSt w V (.slice Av (k + (l.length - (k + 1))) cv) l[k].2.1 l[k].2.2.1 l[k].2.2.2) from by
      obtain ⟨f1, f2, f3⟩ := hV.fin (.slice Av (k + (l.length - (k + 1))) cv) l[k].2.1 l[k].2.2.1 l[k].2.2.2
      refine ⟨f1, f2, ?_⟩
      rw [hT, hX, hE0]
      refine ⟨Av, cv, by rw [hlen]; rfl, by rw [hlen]; exact own_cap' hown3, ?_, f3⟩
      refine sees_of (own_keep hown3 fun q hq => ?_)
      have hq2 := (hown3.lt q hq).1
      have := M3.out.s
      rw [unSt_heap _ _ _ _ _ _ _ (by omega) (by omega), hh q hq2]))
    rw [Nat.zero_add] at hrun2
    have hsl1 : ∀ V, _ := fun V => slice_to ad l.length c k V (by omega)
    have hsl2 : ∀ V, _ := fun V => slice_from ad l.length c k V (by omega)
    have ew : IntKind.i64.wrap ((k : Int) + 1) = (k : Int) + 1 := wrapI _ (by omega) (by omega)
    obtain ⟨B2, hB2⟩ : ∃ B2, B2 = fromA ad c k := ⟨_, rfl⟩
    rw [← hB2] at hrun2 hsl2
    have HM5 := Lib.hid M5
    have HR5 := Lib.hid hrow5
    have HS1 := Lib.hid M3.out.c.t0
    have HS0 := Lib.hid (M3.out.more (((Below.refl _ w3).alloc (Nat.le_refl _) (.cells #[] 46)).drew)).c.t0
    have HS2 := Lib.hid M5.c.t0
    have HS4 := Lib.hid (M3.out.more hb4).c.t0
    have mixed : Try.prog.follows .mixedOrders = true := by kernel_rfl
    rw [h1]
    clear hE0 hT hX hLies hmx hcx hL1 hown0 hown1 hg1 hv1 hb4 hL4 hown2 hg2 hv2 hb5 hlen hown3 M5 hrow5 hB2 h1 h2 h3
    go_wp2_with fail
    refine wp_region_held_drew (S := fun W => W.cell? ⟨w.heap.size, 0, none⟩ = some (.slice (some ad) l.length c)) (by kernel_rfl) ?_ (fun hHeld => ?_)
    · exact HS1.out
    refine wpAnyH_take (i := 1) (v := ?_) rfl (by kernel_rfl) (by kernel_rfl) (by kernel_rfl) (fun _ _ _ h => h) (Or.inl ⟨by rfl, ?_⟩) (by assumption) ?_
    rotate_left
    focus (intro w hSw; (try dsimp only at hSw); go_simp; try with_reducible rfl)
    simp only [Act.put]
    refine wpAnyH_take (i := 2) (v := ?_) rfl (by kernel_rfl) (by kernel_rfl) (by kernel_rfl) (fun _ _ _ h => h) (Or.inl ⟨by rfl, ?_⟩) (by assumption) ?_
    rotate_left
    focus (intro w hSw; (try dsimp only at hSw); go_simp; try with_reducible rfl)
    simp only [Act.put]
    refine wpAnyH_take (i := 3) (v := ?_) rfl (by kernel_rfl) (by kernel_rfl) (by kernel_rfl) (fun _ _ _ h => h) (Or.inl ⟨by rfl, ?_⟩) (by assumption) ?_
    rotate_left
    focus (intro w hSw; (try dsimp only at hSw); go_simp; try with_reducible rfl)
    simp only [Act.put]
    refine wpAnyH_take (i := 4) (v := ?_) rfl (by kernel_rfl) (by kernel_rfl) (by kernel_rfl) (fun _ _ _ h => h) (Or.inl ⟨by rfl, ?_⟩) (by assumption) ?_
    rotate_left
    focus (intro w hSw; (try dsimp only at hSw); go_simp; try with_reducible rfl)
    simp only [Act.put]
    refine wpAnyH_take (i := 6) (v := ?_) rfl (by kernel_rfl) (by kernel_rfl) (by kernel_rfl) (fun _ _ _ h => h) (Or.inl ⟨by rfl, ?_⟩) (by assumption) ?_
    rotate_left
    focus (intro w hSw; (try dsimp only at hSw); go_simp; try with_reducible rfl)
    simp only [Act.put]
    refine wpAnyH_take (i := 7) (v := ?_) rfl (by kernel_rfl) (by kernel_rfl) (by kernel_rfl) (fun _ _ _ h => h) (Or.inl ⟨by rfl, ?_⟩) (by assumption) ?_
    rotate_left
    focus (intro w hSw; (try dsimp only at hSw); go_simp; try with_reducible rfl)
    simp only [Act.put]
    refine wpAnyH_take (i := 8) (v := ?_) rfl (by kernel_rfl) (by kernel_rfl) (by kernel_rfl) (fun _ _ _ h => h) (Or.inl ⟨by rfl, ?_⟩) (by assumption) ?_
    rotate_left
    focus (intro w hSw; (try dsimp only at hSw); go_simp; try with_reducible rfl)
    simp only [Act.put]
    refine wpAnyH_take (i := 9) (v := ?_) rfl (by kernel_rfl) (by kernel_rfl) (by kernel_rfl) (fun _ _ _ h => h) (Or.inl ⟨by rfl, ?_⟩) (by assumption) ?_
    rotate_left
    focus (intro w hSw; (try dsimp only at hSw); go_simp; try with_reducible rfl)
    simp only [Act.put]
    refine wpAnyH_take (i := 10) (v := ?_) rfl (by kernel_rfl) (by kernel_rfl) (by kernel_rfl) (fun _ _ _ h => h) (Or.inl ⟨by rfl, ?_⟩) (by assumption) ?_
    rotate_left
    focus (intro w hSw; (try dsimp only at hSw); go_simp; try with_reducible rfl)
    simp only [Act.put]
    refine wpAnyH_ready (rs := [0]) (by kernel_rfl) (by simp) ?_
    refine AllReadyH.cons rfl (fun K hK => ?_) AllReadyH.nil
    go_simp
    refine hK.out _ _ ?_ (fun hHeld => ?_)
    · exact HS0.out
    clear hK K
    try simp only [Act.put]
    refine wpAnyH_ready (rs := [5]) (by kernel_rfl) (by simp) ?_
    refine AllReadyH.cons rfl (fun K hK => ?_) AllReadyH.nil
    rw [if_pos (by kernel_rfl)]
    refine op_append (.tmp 24) (.tmp 28) 27 rfl _ _ _ _ _ rfl rfl hrun1 ?_
    refine hK.out _ _ HS4.out (fun hHeld => ?_)
    clear hK K
    try simp only [Act.put]
    refine wpAnyH_ready (rs := [11]) (by kernel_rfl) (by simp) ?_
    refine AllReadyH.cons rfl (fun K hK => ?_) AllReadyH.nil
    rw [if_pos (by kernel_rfl)]
    refine op_append (.tmp 29) (.tmp 34) 27 rfl _ _ _ _ _ rfl rfl hrun2 ?_
    refine hK.out _ _ HS2.out (fun hHeld => ?_)
    clear hK K
    try simp only [Act.put]
    refine wpAnyH_ready (rs := [12]) (by kernel_rfl) (by simp) ?_
    refine AllReadyH.cons rfl (fun K hK => ?_) AllReadyH.nil
    go_simp
    refine hK.out _ _ ?_ (fun hHeld => ?_)
    · exact HS2.out
    clear hK K
    try simp only [Act.put]
    refine wpAnyH_done (by kernel_rfl) ?_ _
    go_wp2_with fail
    clear t0 r0 z0 e0 e1 e2 y0 y1 y2
    obtain ⟨t0, r0, z0, e0, e1, e2, y0, y1, y2⟩ := HM5.out.c
    have HSG := Lib.hid (fun (W : World) (hW : ∀ q, q ≤ w.heap.size → W.heap[q]? = w5.heap[q]?) => (show W.cell? ⟨w.heap.size, 0, none⟩ = some (.slice (some ad) l.length c) ∧ W.cell? ⟨(ad.add (k * 4)).block, (ad.add (k * 4)).off + 1, none⟩ = some (.int .i64 l[k].2.1) ∧ W.cell? ⟨(ad.add (k * 4)).block, (ad.add (k * 4)).off + 2, none⟩ = some (.int .i64 l[k].2.2.1) ∧ W.cell? ⟨(ad.add (k * 4)).block, (ad.add (k * 4)).off + 3, none⟩ = some (.int .i64 l[k].2.2.2) from by
      have hbk : (ad.add (k * 4)).block ≤ w.heap.size := by rw [add_block]; exact Nat.le_of_lt hadb
      exact ⟨(World.cell?_of_block (hW _ (Nat.le_refl _))).trans HS2.out, (cell_block hW ⟨(ad.add (k * 4)).block, (ad.add (k * 4)).off + 1, none⟩ hbk).trans HR5.out.c1, (cell_block hW ⟨(ad.add (k * 4)).block, (ad.add (k * 4)).off + 2, none⟩ hbk).trans HR5.out.c2, (cell_block hW ⟨(ad.add (k * 4)).block, (ad.add (k * 4)).off + 3, none⟩ hbk).trans HR5.out.c3⟩))
    refine wp_region_held_drew (S := fun W => W.cell? ⟨w.heap.size, 0, none⟩ = some (.slice (some ad) l.length c) ∧ W.cell? ⟨(ad.add (k * 4)).block, (ad.add (k * 4)).off + 1, none⟩ = some (.int .i64 l[k].2.1) ∧ W.cell? ⟨(ad.add (k * 4)).block, (ad.add (k * 4)).off + 2, none⟩ = some (.int .i64 l[k].2.2.1) ∧ W.cell? ⟨(ad.add (k * 4)).block, (ad.add (k * 4)).off + 3, none⟩ = some (.int .i64 l[k].2.2.2)) (by kernel_rfl) ?_ (fun hHeld => ?_)
    · exact HSG.out _ (fun q _ => rfl)
    refine wpAnyH_take (i := 0) (v := ?_) rfl (by kernel_rfl) (by kernel_rfl) (by kernel_rfl) (fun _ _ _ h => h) (Or.inl ⟨by rfl, ?_⟩) (by assumption) ?_
    rotate_left
    focus (intro w hSw; (try dsimp only at hSw); go_simp; try with_reducible rfl)
    simp only [Act.put]
    refine wpAnyH_take (i := 1) (v := ?_) rfl (by kernel_rfl) (by kernel_rfl) (by kernel_rfl) (fun _ _ _ h => h) (Or.inl ⟨by rfl, ?_⟩) (by assumption) ?_
    rotate_left
    focus (intro w hSw; (try dsimp only at hSw); go_simp; try with_reducible rfl)
    simp only [Act.put]
    refine wpAnyH_take (i := 2) (v := ?_) rfl (by kernel_rfl) (by kernel_rfl) (by kernel_rfl) (fun _ _ _ h => h) (Or.inl ⟨by rfl, ?_⟩) (by assumption) ?_
    rotate_left
    focus (intro w hSw; (try dsimp only at hSw); go_simp; try with_reducible rfl)
    simp only [Act.put]
    refine wpAnyH_take (i := 3) (v := ?_) rfl (by kernel_rfl) (by kernel_rfl) (by kernel_rfl) (fun _ _ _ h => h) (Or.inl ⟨by rfl, ?_⟩) (by assumption) ?_
    rotate_left
    focus (intro w hSw; (try dsimp only at hSw); go_simp; try with_reducible rfl)
    simp only [Act.put]
    refine wpAnyH_take (i := 4) (v := ?_) rfl (by kernel_rfl) (by kernel_rfl) (by kernel_rfl) (fun _ _ _ h => h) (Or.inl ⟨by rfl, ?_⟩) (by assumption) ?_
    rotate_left
    focus (intro w hSw; (try dsimp only at hSw); go_simp; try with_reducible rfl)
    simp only [Act.put]
    refine wpAnyH_take (i := 5) (v := ?_) rfl (by kernel_rfl) (by kernel_rfl) (by kernel_rfl) (fun _ _ _ h => h) (Or.inl ⟨by rfl, ?_⟩) (by assumption) ?_
    rotate_left
    focus (intro w hSw; (try dsimp only at hSw); go_simp; try with_reducible rfl)
    simp only [Act.put]
    refine wpAnyH_take (i := 6) (v := ?_) rfl (by kernel_rfl) (by kernel_rfl) (by kernel_rfl) (fun _ _ _ h => h) (Or.inl ⟨by rfl, ?_⟩) (by assumption) ?_
    rotate_left
    focus (intro w hSw; (try dsimp only at hSw); go_simp; try with_reducible rfl)
    simp only [Act.put]
    refine wpAnyH_take (i := 7) (v := ?_) rfl (by kernel_rfl) (by kernel_rfl) (by kernel_rfl) (fun _ _ _ h => h) (Or.inl ⟨by rfl, ?_⟩) (by assumption) ?_
    rotate_left
    focus (intro w hSw; (try dsimp only at hSw); go_simp; try with_reducible rfl)
    simp only [Act.put]
    refine wpAnyH_ready (rs := [8]) (by kernel_rfl) (by simp) ?_
    refine AllReadyH.cons rfl (fun K hK => ?_) AllReadyH.nil
    go_simp
    refine hK.out _ _ ?_ (fun hHeld => ?_)
    · exact HSG.out _ (fun q hq => heap_set (by simp; omega))
    clear hK K
    try simp only [Act.put]
    refine wpAnyH_ready (rs := [9]) (by kernel_rfl) (by simp) ?_
    refine AllReadyH.cons rfl (fun K hK => ?_) AllReadyH.nil
    go_simp
    refine hK.out _ _ ?_ (fun hHeld => ?_)
    · exact HSG.out _ (fun q hq => (heap_set (by simp; omega)).trans ((heap_set (by simp; omega)).trans ((heap_set (by simp; omega)).trans (heap_set (by simp; omega)))))
    clear hK K
    try simp only [Act.put]
    refine wpAnyH_ready (rs := [10]) (by kernel_rfl) (by simp) ?_
    refine AllReadyH.cons rfl (fun K hK => ?_) AllReadyH.nil
    go_simp
    refine hK.out _ _ ?_ (fun hHeld => ?_)
    · exact HSG.out _ (fun q hq => (heap_set (by simp; omega)).trans ((heap_set (by simp; omega)).trans ((heap_set (by simp; omega)).trans (heap_set (by simp; omega)))))
    clear hK K
    try simp only [Act.put]
    refine wpAnyH_done (by kernel_rfl) ?_ _
    obtain ⟨F1, F2, F3⟩ := HFIN.out w5.drew (HM5.out.more (Below.refl _ w5).drew) (fun _ _ => rfl)
    have K1 := Lib.hid F1
    have K2 := Lib.hid F2
    have K3 := Lib.hid F3
    clear F1 F2 F3
    go_wp2_with fail
    exact bodyPost_ret (res_cells Try.results29 rfl rfl K1.out K2.out) rfl K3.out
end Go.Proofs.Ytmocdokikcbjeaa
