import Derived.Test.YtodbaahnmmfgiaaNB
namespace Go.Proofs.Ytodbaahnmmfgiaa.Lk
open Go.RowKit Go.Shelf
attribute [local go_sem] Oper.semAt_some

/- MAY A THREAD TRY A LOCK? QUESTIONS OVER BOXES. -/
theorem open_any {w : World} {bl b g c : Nat} {cs : Ce.Cs} {l : Ls} (h : LRep w bl b g c cs l) (t : Int) (k : Nat) :
    Calls Try.prog 52 #[rk b, .int .i64 t, .int .i64 (k : Int)] w fun e w' => e = .returned (.bool (!highB l t k)) ∧ Below w.heap.size w w' := by
  have hl := h.most
  obtain ⟨w1, hw1⟩ : ∃ w1, w1 = ((w.alloc (.cells #[bx b] 64)).alloc (.cells #[.int .i64 t] 3)).alloc (.cells #[.int .i64 (k : Int)] 3) := ⟨_, rfl⟩
  have hb1 : Below w.heap.size w w1 := by rw [hw1]; exact below3 _ _ _ _
  have hc1 : w1.cell? ⟨w.heap.size + 1, 0, none⟩ = some (.int .i64 t) := by rw [hw1]; exact (World.cell?_alloc_lt _ _ _ (by simp)).trans (cell_new_at _ _ _ _ (by simp))
  have hc2 : w1.cell? ⟨w.heap.size + 2, 0, none⟩ = some (.int .i64 (k : Int)) := by rw [hw1]; exact cell_new_at _ _ _ _ (by simp)
  have hcr : w1.cell? ⟨w.heap.size, 0, none⟩ = some (bx b) := by rw [hw1]; exact (World.cell?_alloc_lt _ _ _ (by simp; omega)).trans ((World.cell?_alloc_lt _ _ _ (by simp)).trans (cell_alloc_new _ _ _ _))
  have ho1 := Lib.hid (owned_any (h.below hb1))
  have HF := Lib.hid (fun (w2 : World) lb Pv (hit : It Try.prog 66 lb encP (fun _ _ => False) (preA (prs l)) Pv (allA (prs l)) (someA (prs l)) w2) (hpv : ∀ k, Pv k → w1.heap.size ≤ k ∧ k < w2.heap.size) (hb : Below w1.heap.size w1 w2) =>
    (show Calls Try.prog 68 #[.func (.func 66) #[] lb, .func (.func 69) #[] #[bx (w.heap.size + 1), bx (w.heap.size + 2)]] w2 (fun e w' => ∃ (A : Option Addr) (n c : Nat), e = .returned (.slice A n c) ∧ ((n : Int) == 0) = (!highB l t k) ∧ Below w.heap.size w w') from
      (such_any hl hit (fun k hk => (hpv k hk).2) 69 #[bx (w.heap.size + 1), bx (w.heap.size + 2)] (fun x => x.2 == t && decide ((k : Int) ≤ (x.1 : Int))) (enters_of Try.func69 (by kernel_rfl) rfl)
        (fun x V hV => open1_any x t (k : Int) _ _ V ((hV.cell (p := ⟨w.heap.size + 1, 0, none⟩) (by have := lt_of_cell hc1; have := hb.size; simp only at *; omega)).trans ((hb.cell (p := ⟨w.heap.size + 1, 0, none⟩) (lt_of_cell hc1)).trans hc1)) ((hV.cell (p := ⟨w.heap.size + 2, 0, none⟩) (by have := lt_of_cell hc2; have := hb.size; simp only at *; omega)).trans ((hb.cell (p := ⟨w.heap.size + 2, 0, none⟩) (lt_of_cell hc2)).trans hc2)))).mono
        fun e w' ⟨u, e1, ⟨A, c, e2, _⟩, e3⟩ => by
          refine ⟨A, _, c, by rw [e1, e2], ?_, below0 hb1 (below0 hb e3)⟩
          rw [hz_len]
          have := open_gath (l := l) t k
          cases hh : highB l t k with
          | false => exact beq_iff_eq.2 (this.2 hh)
          | true => exact beq_eq_false_iff_ne.2 (fun e => by have := this.1 e; rw [hh] at this; cases this)))
  clear h hl
  obtain ⟨q, hq⟩ : ∃ q, q = !highB l t k := ⟨_, rfl⟩
  rw [← hq] at HF ⊢
  clear hq
  go_enter Try.func52, Try.ntmps52
  go_wp2_with fail
  rw [← hw1]
  clear hw1
  refine ho1.out.mono ?_
  rintro e w2 ⟨lb, Pv, rfl, h1, h2, h3⟩
  have HS := Lib.hid (HF.out w2 lb Pv h1 h2 h3)
  clear h1 h2 h3 HF ho1
  go_wp2_with fail
  refine HS.out.mono ?_
  rintro e w3 ⟨A, n, c, rfl, h1, h2⟩
  clear HS
  go_wp2_with fail
  go_ret
  exact ⟨rfl, h2⟩

/-! boxes -/
def boxW (w : World) : List (Value × TypeId) → World
  | [] => w
  | x :: r => boxW (w.alloc (.cells #[x.1] x.2)) r
/-- each box holds its thing -/
structure Boxes (w : World) (l : List Value) (V : World) : Prop where
  below : Below w.heap.size w V
  cell : ∀ k v, l[k]? = some v → V.cell? ⟨w.heap.size + k, 0, none⟩ = some v
  size : w.heap.size + l.length ≤ V.heap.size
theorem box_size : ∀ (l : List (Value × TypeId)) (w : World), (boxW w l).heap.size = w.heap.size + l.length
  | [], w => rfl
  | x :: r, w => by rw [boxW, box_size r]; simp; omega
theorem box_below : ∀ (l : List (Value × TypeId)) (w V : World), Below w.heap.size w V → Below w.heap.size w (boxW V l)
  | [], w, V, h => h
  | x :: r, w, V, h => by rw [boxW]; exact box_below r w _ (h.alloc h.size _)
theorem box_keep : ∀ (l : List (Value × TypeId)) (V : World) (p : Addr), p.block < V.heap.size → (boxW V l).cell? p = V.cell? p
  | [], V, p, h => rfl
  | x :: r, V, p, h => by
    rw [boxW, box_keep r _ p (by simp; omega)]
    exact World.cell?_alloc_lt _ _ _ h
theorem box_cell : ∀ (l : List (Value × TypeId)) (w : World) (k : Nat) (x : Value × TypeId), l[k]? = some x → (boxW w l).cell? ⟨w.heap.size + k, 0, none⟩ = some x.1
  | [], w, k, x, h => by simp at h
  | y :: r, w, 0, x, h => by
    simp at h
    subst h
    rw [boxW, box_keep r _ _ (by simp)]
    exact cell_alloc_new _ _ _ _
  | y :: r, w, k + 1, x, h => by
    have := box_cell r (w.alloc (.cells #[y.1] y.2)) k x (by simpa using h)
    rw [World.size_alloc] at this
    rw [boxW, show w.heap.size + (k + 1) = w.heap.size + 1 + k by omega]
    exact this
def askW (w : World) (l : List (Value × TypeId)) (qs : List Ask) : World := (boxW w l).alloc (.cells (askCells qs).toArray 82)
theorem Boxes.more {w V V' : World} {l : List Value} (h : Boxes w l V) (hb : Below V.heap.size V V') : Boxes w l V' :=
  ⟨below0 h.below hb, fun k v hk => (hb.cell (p := ⟨w.heap.size + k, 0, none⟩) (by have := (List.getElem?_eq_some_iff.1 hk).1; have := h.size; show w.heap.size + k < _; omega)).trans (h.cell k v hk), Nat.le_trans h.size hb.size⟩
theorem Boxes.keep {w V V' : World} {l : List Value} {F : Nat → Prop} (h : Boxes w l V) (hb : Keep F V V') (hF : ∀ k, F k → k < w.heap.size) (k : Nat) (v : Value) (hk : l[k]? = some v) : V'.cell? ⟨w.heap.size + k, 0, none⟩ = some v :=
  (hb.cell (p := ⟨w.heap.size + k, 0, none⟩) (by have := (List.getElem?_eq_some_iff.1 hk).1; have := h.size; show w.heap.size + k < _; omega) (fun hf => by have h1 := hF _ hf; simp only at h1; omega)).trans (h.cell k v hk)
theorem askW_boxes (w : World) (l : List (Value × TypeId)) (qs : List Ask) : Boxes w (l.map Prod.fst) (askW w l qs) ∧ Row (askW w l qs) (w.heap.size + l.length) 82 (askCells qs) ∧ (askW w l qs).heap.size = w.heap.size + l.length + 1 := by
  have hs := box_size l w
  refine ⟨⟨(box_below l w w (Below.refl _ _)).alloc (by omega) _, fun k v hk => ?_, by simp [askW, hs]⟩, Row.new_at _ _ _ hs, by simp [askW, hs]⟩
  rw [List.getElem?_map, Option.map_eq_some_iff] at hk
  obtain ⟨x, hx, rfl⟩ := hk
  refine (World.cell?_alloc_lt _ _ _ ?_).trans (box_cell l w k x hx)
  have := (List.getElem?_eq_some_iff.1 hx).1
  show w.heap.size + k < _
  omega
theorem asked_box {w : World} (l : List (Value × TypeId)) (qs : List Ask) (n c s : Nat) (hs : s = w.heap.size + l.length) (hn : qs.length = n) (hm : n ≤ 100)
    (HQ : ∀ k (hk : k < qs.length), (∀ j (hj : j < qs.length), j < k → qs[j].ans = true) → (∀ args V, (callFunc qs[k].cf args).run Try.prog V = .ok (.enter qs[k].cf args) V) ∧
      ∀ V, Boxes w (l.map Prod.fst) V → Calls Try.prog qs[k].cf (qs[k].first ++ qs[k].cap) V fun e V' => e = .returned (.bool qs[k].ans) ∧ Below V.heap.size V V') :
    Calls Try.prog 36 #[.slice (some ⟨s, 0, none⟩) n c] (askW w l qs) fun e w' => e = .returned (.int .i64 (askE qs)) ∧ Boxes w (l.map Prod.fst) w' ∧ s < w'.heap.size := by
  obtain ⟨h1, h2, h3⟩ := askW_boxes w l qs
  subst hs
  refine (asked_any qs (w.heap.size + l.length) n c _ hn hm h2 fun k hk hall => ⟨(HQ k hk hall).1, fun V hV => (HQ k hk hall).2 V (h1.more hV)⟩).mono fun e w' ⟨e1, e2⟩ => ⟨e1, h1.more e2, ?_⟩
  have := e2.size
  omega

/-! the questions -/
theorem try1_any (g : Nat) (z : Int) (w : World) (hc : w.cell? ⟨g, 0, none⟩ = some (.int .i64 z)) : Calls Try.prog 48 #[bx g] w fun e w' => e = .returned (.bool (threadB z)) ∧ Below w.heap.size w w' := by
  have h1 := Lib.hid (fun w => known_any z w)
  obtain ⟨q, hq⟩ : ∃ q, q = threadB z := ⟨_, rfl⟩
  rw [← hq] at h1 ⊢
  clear hq
  go_enter Try.func48, Try.ntmps48
  go_wp2_with fail
  refine (h1.out _).mono ?_
  rintro e w1 ⟨rfl, rfl⟩
  go_wp2
  go_ret
  exact ⟨rfl, Below.refl _ _⟩
theorem free1_any (g : Nat) (z : Int) (w : World) (hc : w.cell? ⟨g, 0, none⟩ = some (.int .i64 z)) : Calls Try.prog 55 #[bx g] w fun e w' => e = .returned (.bool (threadB z)) ∧ Below w.heap.size w w' := by
  have h1 := Lib.hid (fun w => known_any z w)
  obtain ⟨q, hq⟩ : ∃ q, q = threadB z := ⟨_, rfl⟩
  rw [← hq] at h1 ⊢
  clear hq
  go_enter Try.func55, Try.ntmps55
  go_wp2_with fail
  refine (h1.out _).mono ?_
  rintro e w1 ⟨rfl, rfl⟩
  go_wp2
  go_ret
  exact ⟨rfl, Below.refl _ _⟩
theorem drop1_any (g : Nat) (z : Int) (w : World) (hc : w.cell? ⟨g, 0, none⟩ = some (.int .i64 z)) : Calls Try.prog 57 #[bx g] w fun e w' => e = .returned (.bool (threadB z)) ∧ Below w.heap.size w w' := by
  have h1 := Lib.hid (fun w => known_any z w)
  obtain ⟨q, hq⟩ : ∃ q, q = threadB z := ⟨_, rfl⟩
  rw [← hq] at h1 ⊢
  clear hq
  go_enter Try.func57, Try.ntmps57
  go_wp2_with fail
  refine (h1.out _).mono ?_
  rintro e w1 ⟨rfl, rfl⟩
  go_wp2
  go_ret
  exact ⟨rfl, Below.refl _ _⟩
set_option maxHeartbeats 1000000 in
theorem try2_any {w : World} {bl b g c : Nat} {cs : Ce.Cs} {l : Ls} (h : LRep w bl b g c cs l) (gl gr : Nat) (r : Int) (hp : w.cell? ⟨gl, 0, none⟩ = some (bx bl)) (hr : w.cell? ⟨gr, 0, none⟩ = some (.int .i64 r)) :
    Calls Try.prog 49 #[bx gl, bx gr] w fun e w' => e = .returned (.bool (decide (0 ≤ r ∧ r < (l.length : Int)))) ∧ Below w.heap.size w w' := by
  have hh := Lib.hid (fun V (hb : Below w.heap.size w V) => (show Calls Try.prog 50 #[rk b, .int .i64 r] V (fun e w' => e = .returned (.bool (decide (0 ≤ r ∧ r < (l.length : Int)))) ∧ Below w.heap.size w w') from
    (has_any (h.below hb) r).mono fun e w' ⟨e1, e2⟩ => ⟨e1, below0 hb e2⟩))
  have hcl := h.cel
  have lp := lt_of_cell hp
  have lcl := lt_of_cell hcl
  have lr := lt_of_cell hr
  obtain ⟨q, hq⟩ : ∃ q, q = (decide (0 ≤ r ∧ r < (l.length : Int))) := ⟨_, rfl⟩
  rw [← hq] at hh ⊢
  have HSA := Lib.hid (fun W (hB : Below w.heap.size w W) => (show W.cell? ⟨gl, 0, none⟩ = some (bx bl) ∧ W.cell? ⟨bl, 0, none⟩ = some (bx b) ∧ W.cell? ⟨gr, 0, none⟩ = some (.int .i64 r) ∧ Below w.heap.size w W from
    ⟨(hB.cell (p := ⟨gl, 0, none⟩) lp).trans hp, (hB.cell (p := ⟨bl, 0, none⟩) lcl).trans hcl, (hB.cell (p := ⟨gr, 0, none⟩) lr).trans hr, hB⟩))
  have hdr := Lib.hid (show Below w.heap.size w w.drew from (Below.refl _ _).drew)
  clear hq h hcl
  go_enter Try.func49, Try.ntmps49
  go_wp2_with fail
  go_region_held3 (fun W => W.cell? ⟨gl, 0, none⟩ = some (bx bl) ∧ W.cell? ⟨bl, 0, none⟩ = some (bx b) ∧ W.cell? ⟨gr, 0, none⟩ = some (.int .i64 r) ∧ Below w.heap.size w W)
    (first | exact HSA.out _ hdr.out | exact HSA.out _ (by assumption) | (go_split_ands; exact HSA.out _ (by assumption)))
    (first | (go_at_call 50; refine (hh.out _ (by go_split_ands; assumption)).mono ?_; rintro e w2 ⟨rfl, hb2⟩))
  go_wp2
  go_ret
  exact ⟨rfl, hb2⟩
set_option maxHeartbeats 1000000 in
theorem free2_any {w : World} {bl b g c : Nat} {cs : Ce.Cs} {l : Ls} (h : LRep w bl b g c cs l) (gl gr : Nat) (r : Int) (hp : w.cell? ⟨gl, 0, none⟩ = some (bx bl)) (hr : w.cell? ⟨gr, 0, none⟩ = some (.int .i64 r)) :
    Calls Try.prog 56 #[bx gl, bx gr] w fun e w' => e = .returned (.bool (decide (0 ≤ r ∧ r < (l.length : Int)))) ∧ Below w.heap.size w w' := by
  have hh := Lib.hid (fun V (hb : Below w.heap.size w V) => (show Calls Try.prog 50 #[rk b, .int .i64 r] V (fun e w' => e = .returned (.bool (decide (0 ≤ r ∧ r < (l.length : Int)))) ∧ Below w.heap.size w w') from
    (has_any (h.below hb) r).mono fun e w' ⟨e1, e2⟩ => ⟨e1, below0 hb e2⟩))
  have hcl := h.cel
  have lp := lt_of_cell hp
  have lcl := lt_of_cell hcl
  have lr := lt_of_cell hr
  obtain ⟨q, hq⟩ : ∃ q, q = (decide (0 ≤ r ∧ r < (l.length : Int))) := ⟨_, rfl⟩
  rw [← hq] at hh ⊢
  have HSA := Lib.hid (fun W (hB : Below w.heap.size w W) => (show W.cell? ⟨gl, 0, none⟩ = some (bx bl) ∧ W.cell? ⟨bl, 0, none⟩ = some (bx b) ∧ W.cell? ⟨gr, 0, none⟩ = some (.int .i64 r) ∧ Below w.heap.size w W from
    ⟨(hB.cell (p := ⟨gl, 0, none⟩) lp).trans hp, (hB.cell (p := ⟨bl, 0, none⟩) lcl).trans hcl, (hB.cell (p := ⟨gr, 0, none⟩) lr).trans hr, hB⟩))
  have hdr := Lib.hid (show Below w.heap.size w w.drew from (Below.refl _ _).drew)
  clear hq h hcl
  go_enter Try.func56, Try.ntmps56
  go_wp2_with fail
  go_region_held3 (fun W => W.cell? ⟨gl, 0, none⟩ = some (bx bl) ∧ W.cell? ⟨bl, 0, none⟩ = some (bx b) ∧ W.cell? ⟨gr, 0, none⟩ = some (.int .i64 r) ∧ Below w.heap.size w W)
    (first | exact HSA.out _ hdr.out | exact HSA.out _ (by assumption) | (go_split_ands; exact HSA.out _ (by assumption)))
    (first | (go_at_call 50; refine (hh.out _ (by go_split_ands; assumption)).mono ?_; rintro e w2 ⟨rfl, hb2⟩))
  go_wp2
  go_ret
  exact ⟨rfl, hb2⟩
set_option maxHeartbeats 1000000 in
theorem try3_any {w : World} {bl b g c : Nat} {cs : Ce.Cs} {l : Ls} (h : LRep w bl b g c cs l) (gl gt gr : Nat) (t : Int) (k : Nat) (hp : w.cell? ⟨gl, 0, none⟩ = some (bx bl)) (ht : w.cell? ⟨gt, 0, none⟩ = some (.int .i64 t)) (hr : w.cell? ⟨gr, 0, none⟩ = some (.int .i64 (k : Int))) :
    Calls Try.prog 51 #[bx gl, bx gt, bx gr] w fun e w' => e = .returned (.bool (!highB l t k)) ∧ Below w.heap.size w w' := by
  have hh := Lib.hid (fun V (hb : Below w.heap.size w V) => (show Calls Try.prog 52 #[rk b, .int .i64 t, .int .i64 (k : Int)] V (fun e w' => e = .returned (.bool (!highB l t k)) ∧ Below w.heap.size w w') from
    (open_any (h.below hb) t k).mono fun e w' ⟨e1, e2⟩ => ⟨e1, below0 hb e2⟩))
  have hcl := h.cel
  have lp := lt_of_cell hp
  have lcl := lt_of_cell hcl
  have lt := lt_of_cell ht
  have lr := lt_of_cell hr
  obtain ⟨q, hq⟩ : ∃ q, q = (!highB l t k) := ⟨_, rfl⟩
  rw [← hq] at hh ⊢
  have HSA := Lib.hid (fun W (hB : Below w.heap.size w W) => (show W.cell? ⟨gl, 0, none⟩ = some (bx bl) ∧ W.cell? ⟨bl, 0, none⟩ = some (bx b) ∧ W.cell? ⟨gt, 0, none⟩ = some (.int .i64 t) ∧ W.cell? ⟨gr, 0, none⟩ = some (.int .i64 (k : Int)) ∧ Below w.heap.size w W from
    ⟨(hB.cell (p := ⟨gl, 0, none⟩) lp).trans hp, (hB.cell (p := ⟨bl, 0, none⟩) lcl).trans hcl, (hB.cell (p := ⟨gt, 0, none⟩) lt).trans ht, (hB.cell (p := ⟨gr, 0, none⟩) lr).trans hr, hB⟩))
  have hdr := Lib.hid (show Below w.heap.size w w.drew from (Below.refl _ _).drew)
  clear hq h hcl
  go_enter Try.func51, Try.ntmps51
  go_wp2_with fail
  go_region_held3 (fun W => W.cell? ⟨gl, 0, none⟩ = some (bx bl) ∧ W.cell? ⟨bl, 0, none⟩ = some (bx b) ∧ W.cell? ⟨gt, 0, none⟩ = some (.int .i64 t) ∧ W.cell? ⟨gr, 0, none⟩ = some (.int .i64 (k : Int)) ∧ Below w.heap.size w W)
    (first | exact HSA.out _ hdr.out | exact HSA.out _ (by assumption) | (go_split_ands; exact HSA.out _ (by assumption)))
    (first | (go_at_call 52; refine (hh.out _ (by go_split_ands; assumption)).mono ?_; rintro e w2 ⟨rfl, hb2⟩))
  go_wp2
  go_ret
  exact ⟨rfl, hb2⟩
end Go.Proofs.Ytodbaahnmmfgiaa.Lk

namespace Go.Proofs.Ytodbaahnmmfgiaa.Lk
open Go.RowKit Go.Shelf
attribute [local go_sem] Oper.semAt_some

/- NEW; TRY. -/
def blk (bl b g k : Nat) : Prop := k = bl ∨ k = b ∨ k = g
def HasL : HasT := fun w v l F => ∃ bl b g c cs, v = bx bl ∧ LRep w bl b g c cs l ∧ F = blk bl b g
theorem wz_m1 : wz (-1) = 0 := rfl
theorem LRep.put {w w' : World} {bl b g c k : Nat} {cs : Ce.Cs} {l : Ls} (h : LRep w bl b g c cs l) {n : Int} (hn : -1 ≤ n ∧ n < 4) (hr : Ce.Rep w' b g c (Ce.put cs k (wz n))) (hk : Keep (· = g) w w') : LRep w' bl b g c (Ce.put cs k (wz n)) (l.set k n) := by
  refine ⟨h.obj.same (hk.block _ h.obj.lt (h.rep.row.ne h.obj (by decide))), hr, ?_, fun z hz => ?_, by rw [List.length_set]; exact h.most⟩
  · unfold Ce.put
    rw [List.map_set, List.map_set, h.ws]
  · rcases List.mem_or_eq_of_mem_set hz with h1 | h1
    · exact h.th z h1
    · rw [h1]
      exact hn
theorem wz_inj {x y : Int} (hx : -1 ≤ x) (hy : -1 ≤ y) (h : wz x = wz y) : x = y := by
  have h1 := wz_eq hx
  have h2 := wz_eq hy
  omega
def SwP (w : World) (bl b g c : Nat) (q : Bool) (l' : Ls) (e : Ending) (w' : World) : Prop := e = .returned (.tuple #[.bool q, .int .i64 0]) ∧ (∃ cs', LRep w' bl b g c cs' l') ∧ Keep (· = g) w w'
theorem swap_lock {w : World} {bl b g c k : Nat} {cs : Ce.Cs} {l : Ls} (h : LRep w bl b g c cs l) (hk : k < l.length) {x n : Int} (hx : -1 ≤ x ∧ x < 4) (hn : -1 ≤ n ∧ n < 4) :
    Calls Try.prog 53 #[bx b, .int .i64 (k : Int), .int .u64 (wz x : Int), .int .u64 (wz n : Int)] w (SwP w bl b g c (decide (l[k] = x)) (if l[k] = x then l.set k n else l)) := by
  have hkc : k < cs.length := by rw [h.len]; exact hk
  have hz := h.th _ (List.getElem_mem hk)
  by_cases he : l[k] = x
  · rw [decide_eq_true he, if_pos he]
    exact (Ce.swap_yes b g c k cs (wz x) (wz n) w h.rep hkc (by rw [h.word hkc hk, he])).mono fun e w' ⟨e1, e2, e3⟩ => ⟨e1, ⟨_, h.put hn e2 e3⟩, e3⟩
  · rw [decide_eq_false he, if_neg he]
    exact (Ce.swap_no b g c k cs (wz x) (wz n) w h.rep hkc (fun e => he (wz_inj hz.1 hx.1 (by rw [← e, h.word hkc hk])))).mono fun e w' ⟨e1, e2⟩ => ⟨e1, ⟨_, h.below e2⟩, Keep.of_below e2⟩
theorem nx_fin {w w1 w' : World} {bl b g c : Nat} {cs : Ce.Cs} {l' : Ls} (hb : Below w.heap.size w w1) (hk : Keep (· = g) w1 w') (h : LRep w' bl b g c cs l') : Nx HasL w (bx bl) l' (blk bl b g) w' :=
  ⟨_, ⟨bl, b, g, c, cs, rfl, h, rfl⟩, (Keep.of_below hb).trans hk (fun _ _ e => .inr (.inr e)), fun _ h => .inl h⟩
theorem nx_same {w w' : World} {bl b g c : Nat} {cs : Ce.Cs} {l : Ls} (h : LRep w bl b g c cs l) (hb : Below w.heap.size w w') : Nx HasL w (bx bl) l (blk bl b g) w' :=
  ⟨_, ⟨bl, b, g, c, cs, rfl, h.below hb, rfl⟩, Keep.of_below hb, fun _ h => .inl h⟩
theorem zeros_frees (n : Nat) : (Ce.zeros n).map Prod.fst = (frees n).map wz := by
  unfold Ce.zeros frees
  rw [List.map_replicate, List.map_replicate]
  rfl
theorem lnew_ok (w : World) (n : Nat) (hn : n ≤ 64) : Calls Try.prog 8 #[.int .i64 (n : Int)] w fun e w' => ∃ v F, e = .returned (.tuple #[v, .int .i64 0]) ∧ HasL w' v (frees n) F ∧ (∀ k, F k → w.heap.size ≤ k) ∧ Below w.heap.size w w' := by
  have h1 := Lib.hid (Ce.new_ok n w (by omega))
  have HF := Lib.hid (fun w1 b g c (hb : w.heap.size ≤ b) (hg : w.heap.size ≤ g) (hr : Ce.Rep w1 b g c (Ce.zeros n)) (hB : Below w.heap.size w w1) =>
    (show ∃ v F, Ending.returned (.tuple #[bx w1.heap.size, .int .i64 0]) = .returned (.tuple #[v, .int .i64 0]) ∧ HasL (w1.alloc (.cells #[bx b] 66)) v (frees n) F ∧ (∀ k, F k → w.heap.size ≤ k) ∧ Below w.heap.size w (w1.alloc (.cells #[bx b] 66)) from
      ⟨_, _, rfl, ⟨w1.heap.size, b, g, c, _, rfl, ⟨Row.new _ _ _, hr.below (below1 _ _), zeros_frees n, fun z hz => by rw [List.eq_of_mem_replicate hz]; omega, by rw [frees_len]; exact hn⟩, rfl⟩, fun k hk => by
        rcases hk with rfl | rfl | rfl
        · exact hB.size
        · exact hb
        · exact hg, below0 hB (below1 _ _)⟩))
  have e2 : decide ((64 : Int) < (n : Int)) = false := decide_eq_false (by omega)
  go_enter Try.func8, Try.ntmps8
  go_wp2_with fail
  refine wp_scope_jump 1 fun R hR hJm => ?_
  go_wp2_with fail
  refine h1.out.mono ?_
  rintro e w1 ⟨b, g, c, rfl, a1, a2, a3, a4⟩
  have hfin := Lib.hid (HF.out w1 b g c a1 a2 a3 a4)
  clear a1 a2 a3 a4 HF h1
  go_wp2_with fail
  refine hR.out _ _ _ _ (by simp) ?_
  go_ret2
  exact hfin.out
theorem lnew_no (w : World) (z : Int) (hz : z < 0 ∨ 64 < z) : Calls Try.prog 8 #[.int .i64 z] w fun e w' => e = .returned (.tuple #[.pointer none, .int .i64 2]) ∧ Below w.heap.size w w' := by
  by_cases h : z < 0 ∨ 1024 < z
  · have h1 := Lib.hid (Ce.new_no z w h)
    clear h hz
    go_enter Try.func8, Try.ntmps8
    go_wp2_with fail
    refine wp_scope_jump 1 fun R hR hJm => ?_
    go_wp2_with fail
    refine h1.out.mono ?_
    rintro e w1 ⟨rfl, rfl⟩
    clear h1
    go_wp2_with fail
    refine wp_goto (hJm.out _ _ _ _ _ rfl ?_)
    go_wp2_with fail
    refine hR.out _ _ _ _ (by simp) ?_
    go_ret2
    exact ⟨rfl, Below.refl _ _⟩
  · obtain ⟨n, rfl⟩ := Int.eq_ofNat_of_zero_le (show 0 ≤ z by omega)
    have e2 : decide ((64 : Int) < (n : Int)) = true := decide_eq_true (by omega)
    have h1 := Lib.hid (Ce.new_ok n w (by omega))
    clear h hz
    go_enter Try.func8, Try.ntmps8
    go_wp2_with fail
    refine wp_scope_jump 1 fun R hR hJm => ?_
    go_wp2_with fail
    refine h1.out.mono ?_
    rintro e w1 ⟨b, g, c, rfl, a1, a2, a3, a4⟩
    have hfin := Lib.hid a4
    clear a1 a2 a3 a4 h1
    go_wp2_with fail
    refine wp_goto (hJm.out _ _ _ _ _ rfl ?_)
    go_wp2_with fail
    refine hR.out _ _ _ _ (by simp) ?_
    go_ret2
    exact ⟨rfl, hfin.out⟩

/-! Try -/
def tryA (v : Value) (s : Nat) (a1 a2 a3 a4 : Bool) : List Ask :=
  [⟨32, #[v], #[], 1, a1⟩, ⟨48, #[], #[bx (s + 1)], 2, a2⟩, ⟨49, #[], #[bx s, bx (s + 2)], 4, a3⟩, ⟨51, #[], #[bx s, bx (s + 1), bx (s + 2)], 220, a4⟩]
def tryB (v : Value) (t r : Int) : List (Value × TypeId) := [(v, 24), (.int .i64 t, 3), (.int .i64 r, 3)]
theorem try_nonA (v : Value) (t r : Int) (w : World) (h : NonL w v) : Calls Try.prog 36 #[.slice (some ⟨w.heap.size + 3, 0, none⟩) 4 4] (askW w (tryB v t r) (tryA v w.heap.size true true true true)) fun e w' => e = .returned (.int .i64 1) ∧ Boxes w [v, .int .i64 t, .int .i64 r] w' := by
  refine (asked_box (tryB v t r) (tryA v w.heap.size false true true true) 4 4 _ rfl rfl (by omega) fun k hk hall => ?_).mono fun e w' ⟨e1, e2, _⟩ => ⟨e1, e2⟩
  rcases k with _ | k
  · refine ⟨enters_of Try.func32 (by kernel_rfl) rfl, fun V hV => ?_⟩
    exact (lthere_non v V (h.below hV.below)).mono fun e w' ⟨e1, e2⟩ => ⟨e1, e2 ▸ Below.refl _ _⟩
  · exact absurd (hall 0 (by simp [tryA]) (by omega)) (by simp [tryA])
theorem try_askedA {bl b g c : Nat} {cs : Ce.Cs} {l : Ls} {w : World} (h : LRep w bl b g c cs l) (t r : Int) :
    Calls Try.prog 36 #[.slice (some ⟨w.heap.size + 3, 0, none⟩) 4 4] (askW w (tryB (bx bl) t r) (tryA (bx bl) w.heap.size true true true true)) fun e w' => e = .returned (.int .i64 (asksE l t r)) ∧ Boxes w [bx bl, .int .i64 t, .int .i64 r] w' := by
  obtain ⟨a2, ha2⟩ : ∃ a2, a2 = threadB t := ⟨_, rfl⟩
  obtain ⟨a3, ha3⟩ : ∃ a3, a3 = decide (0 ≤ r ∧ r < (l.length : Int)) := ⟨_, rfl⟩
  obtain ⟨a4, ha4⟩ : ∃ a4, a4 = !highB l t r.toNat := ⟨_, rfl⟩
  have hE : askE (tryA (bx bl) w.heap.size true a2 a3 a4) = asksE l t r := by
    unfold asksE
    rw [← ha2]
    cases a2
    · rfl
    · rw [if_neg (by simp)]
      by_cases h3 : 0 ≤ r ∧ r < (l.length : Int)
      · rw [decide_eq_true h3] at ha3
        subst ha3
        rw [if_neg (by omega)]
        cases hh : highB l t r.toNat <;> rw [hh] at ha4 <;> subst ha4 <;> rfl
      · rw [decide_eq_false h3] at ha3
        subst ha3
        rw [if_pos (by omega)]
        rfl
  refine (asked_box (tryB (bx bl) t r) (tryA (bx bl) w.heap.size true a2 a3 a4) 4 4 _ rfl rfl (by omega) fun k hk hall => ?_).mono fun e w' ⟨e1, e2, _⟩ => ⟨by rw [e1, hE], e2⟩
  rcases k with _ | _ | _ | _ | k
  · refine ⟨enters_of Try.func32 (by kernel_rfl) rfl, fun V hV => ?_⟩
    exact (lthere_at bl _ V (h.below hV.below).cel).mono fun e w' ⟨e1, e2⟩ => ⟨e1, e2 ▸ Below.refl _ _⟩
  · refine ⟨enters_of Try.func48 (by kernel_rfl) rfl, fun V hV => ?_⟩
    have := try1_any (w.heap.size + 1) t V (hV.cell 1 _ rfl)
    rw [← ha2] at this
    exact this
  · refine ⟨enters_of Try.func49 (by kernel_rfl) rfl, fun V hV => ?_⟩
    have := try2_any (h.below hV.below) w.heap.size (w.heap.size + 2) r (hV.cell 0 _ rfl) (hV.cell 2 _ rfl)
    rw [← ha3] at this
    exact this
  · have t3 : a3 = true := hall 2 (by simp [tryA]) (by omega)
    rw [ha3] at t3
    have t3 := of_decide_eq_true t3
    obtain ⟨k, rfl⟩ := Int.eq_ofNat_of_zero_le t3.1
    rw [Int.toNat_natCast] at ha4
    refine ⟨enters_of Try.func51 (by kernel_rfl) rfl, fun V hV => ?_⟩
    have := try3_any (h.below hV.below) w.heap.size (w.heap.size + 1) (w.heap.size + 2) t k (hV.cell 0 _ rfl) (hV.cell 1 _ rfl) (hV.cell 2 _ rfl)
    rw [← ha4] at this
    exact this
  · simp [tryA] at hk
    omega
set_option maxHeartbeats 1000000 in
theorem try_nil (v : Value) (t r : Int) (w : World) (h : NonL w v) : Calls Try.prog 20 #[v, .int .i64 t, .int .i64 r] w fun e w' => e = .returned (.tuple #[.bool false, .int .i64 1]) ∧ Below w.heap.size w w' := by
  have h1 := Lib.hid (try_nonA v t r w h)
  obtain ⟨pv, rfl⟩ := h.ptr
  clear h
  go_enter Try.func20, Try.ntmps20
  go_wp2_with fail
  refine wp_scope_jump 1 fun R hR hJm => ?_
  go_wp2_with fail
  refine (h1.out).mono ?_
  rintro e w1 ⟨rfl, hB⟩
  have HB := Lib.hid hB.below
  clear hB h1
  go_wp2_with fail
  refine wp_goto (hJm.out _ _ _ _ _ rfl ?_)
  go_wp2_with fail
  refine hR.out _ _ _ _ (by simp) ?_
  go_ret2
  exact ⟨rfl, HB.out⟩
set_option maxHeartbeats 1000000 in
theorem try_no {bl b g c : Nat} {cs : Ce.Cs} {l : Ls} {w : World} (h : LRep w bl b g c cs l) (t r : Int) (hE : asksE l t r ≠ 0) :
    Calls Try.prog 20 #[bx bl, .int .i64 t, .int .i64 r] w fun e w' => e = .returned (.tuple #[.bool false, .int .i64 (asksE l t r)]) ∧ Nx HasL w (bx bl) l (blk bl b g) w' := by
  have h1 := Lib.hid (try_askedA h t r)
  have HN := Lib.hid (fun w' hb => nx_same (w' := w') h hb)
  obtain ⟨E, hE2⟩ : ∃ E, E = asksE l t r := ⟨_, rfl⟩
  rw [← hE2] at h1 hE ⊢
  have e0 : (E == 0) = false := beq_eq_false_iff_ne.2 hE
  have e1 : ¬ (E = 0) := hE
  clear hE2 h hE
  go_enter Try.func20, Try.ntmps20
  go_wp2_with fail
  refine wp_scope_jump 1 fun R hR hJm => ?_
  go_wp2_with fail
  refine (h1.out).mono ?_
  rintro e w1 ⟨rfl, hB⟩
  have HB := Lib.hid (HN.out _ hB.below)
  clear hB h1 HN
  go_wp2_with fail
  refine wp_goto (hJm.out _ _ _ _ _ rfl ?_)
  go_wp2_with fail
  refine hR.out _ _ _ _ (by simp) ?_
  go_ret2
  exact ⟨rfl, HB.out⟩
end Go.Proofs.Ytodbaahnmmfgiaa.Lk

namespace Go.Proofs.Ytodbaahnmmfgiaa.Lk
open Go.RowKit Go.Shelf
attribute [local go_sem] Oper.semAt_some

/- TRY THAT MAY TRY. -/
set_option maxHeartbeats 2000000 in
theorem try_yes {bl b g c k : Nat} {cs : Ce.Cs} {l : Ls} {w : World} (h : LRep w bl b g c cs l) (t : Int) (hk : k < l.length) (ht : 0 ≤ t ∧ t < 4) (hE : asksE l t (k : Int) = 0) :
    Calls Try.prog 20 #[bx bl, .int .i64 t, .int .i64 (k : Int)] w fun e w' => e = .returned (.tuple #[.bool (decide (l[k] = -1)), .int .i64 0]) ∧ Nx HasL w (bx bl) (if l[k] = -1 then l.set k t else l) (blk bl b g) w' := by
  have h1 := Lib.hid (try_askedA h t (k : Int))
  rw [hE] at h1
  have HM := Lib.hid (fun W => mark_any t W ht.1 ht.2)
  have HS := Lib.hid (fun w1 (hB : Boxes w [bx bl, .int .i64 t, .int .i64 (k : Int)] w1) => (show w1.cell? ⟨w.heap.size, 0, none⟩ = some (bx bl) ∧ w1.cell? ⟨bl, 0, none⟩ = some (bx b) ∧ w1.cell? ⟨w.heap.size + 1, 0, none⟩ = some (.int .i64 t) ∧ w1.cell? ⟨w.heap.size + 2, 0, none⟩ = some (.int .i64 (k : Int)) from
    ⟨hB.cell 0 _ rfl, (h.below hB.below).cel, hB.cell 1 _ rfl, hB.cell 2 _ rfl⟩))
  have HSW : ∀ V, Below w.heap.size w V → Calls Try.prog 53 #[bx b, .int .i64 (k : Int), .int .u64 0, .int .u64 (wz t : Int)] V (SwP V bl b g c (decide (l[k] = -1)) (if l[k] = -1 then l.set k t else l)) := fun V hb => by
    have hsw := swap_lock (h.below hb) hk (x := -1) (n := t) (by omega) (by omega)
    rw [wz_m1] at hsw
    exact hsw
  have HC := Lib.hid (fun w1 (hB : Boxes w [bx bl, .int .i64 t, .int .i64 (k : Int)] w1) V (hb : Below w1.heap.size w1 V) => (show Calls Try.prog 53 #[bx b, .int .i64 (k : Int), .int .u64 0, .int .u64 (wz t : Int)] V (fun e' w' => e' = .returned (.tuple #[.bool (decide (l[k] = -1)), .int .i64 0]) ∧ (w'.cell? ⟨w.heap.size, 0, none⟩ = some (bx bl) ∧ w'.cell? ⟨bl, 0, none⟩ = some (bx b) ∧ w'.cell? ⟨w.heap.size + 1, 0, none⟩ = some (.int .i64 t) ∧ w'.cell? ⟨w.heap.size + 2, 0, none⟩ = some (.int .i64 (k : Int))) ∧
      Nx HasL w (bx bl) (if l[k] = -1 then l.set k t else l) (blk bl b g) w') from
    (HSW V (below0 hB.below hb)).mono fun e' w' ⟨e1, ⟨cs', e2⟩, e3⟩ => by
      have hgl := h.rep.row.lt
      have hk2 := fun j v hj => (hB.more hb).keep (F := (· = g)) e3 (fun k hk => by rw [hk]; exact hgl) j v hj
      exact ⟨e1, ⟨hk2 0 _ rfl, e2.cel, hk2 1 _ rfl, hk2 2 _ rfl⟩, nx_fin (below0 hB.below hb) e3 e2⟩))
  obtain ⟨q, hq⟩ : ∃ q, q = decide (l[k] = -1) := ⟨_, rfl⟩
  obtain ⟨L, hL⟩ : ∃ L, L = if l[k] = -1 then l.set k t else l := ⟨_, rfl⟩
  rw [← hq, ← hL] at HC ⊢
  obtain ⟨x, hx⟩ : ∃ x, x = wz t := ⟨_, rfl⟩
  rw [← hx] at HC HM
  clear hq hL hx h hE ht hk HSW
  go_enter Try.func20, Try.ntmps20
  go_wp2_with fail
  refine wp_scope_jump 1 fun R hR hJm => ?_
  go_wp2_with fail
  refine (h1.out).mono ?_
  rintro e w1 ⟨rfl, hB⟩
  have H0 := Lib.hid (HS.out w1 hB)
  have H1 := Lib.hid (HC.out w1 hB)
  have hdr := Lib.hid (show Below w1.heap.size w1 w1.drew from (Below.refl _ _).drew)
  clear hB h1 HS HC
  go_wp2_with fail
  go_region_held3 (fun W => W.cell? ⟨w.heap.size, 0, none⟩ = some (bx bl) ∧ W.cell? ⟨bl, 0, none⟩ = some (bx b) ∧ W.cell? ⟨w.heap.size + 1, 0, none⟩ = some (.int .i64 t) ∧ W.cell? ⟨w.heap.size + 2, 0, none⟩ = some (.int .i64 (k : Int)))
    (first | exact H0.out | exact hS2 | assumption)
    (first | (go_at_call 54; refine (HM.out _).mono ?_; rintro e w2 ⟨rfl, rfl⟩) | (go_at_call 53; refine (H1.out _ hdr.out).mono ?_; rintro e w2 ⟨rfl, hS2, hN⟩))
  go_wp2_with fail
  refine hR.out _ _ _ _ (by simp) ?_
  go_ret2
  exact ⟨rfl, hN⟩
end Go.Proofs.Ytodbaahnmmfgiaa.Lk

namespace Go.Proofs.Ytodbaahnmmfgiaa.Lk
open Go.RowKit Go.Shelf
attribute [local go_sem] Oper.semAt_some

/- TRY, WHOLE; FREE. -/
theorem threadB_in {t : Int} (h : threadB t = true) : 0 ≤ t ∧ t < 4 := of_decide_eq_true h
theorem ltry_any {w : World} {v : Value} {l : Ls} {F : Nat → Prop} (t r : Int) (h : HasL w v l F) : Calls Try.prog 20 #[v, .int .i64 t, .int .i64 r] w fun e w' => e = .returned (.tuple #[.bool (tryQ l t r), .int .i64 (asksE l t r)]) ∧ Nx HasL w v (tryL l t r) F w' := by
  obtain ⟨bl, b, g, c, cs, rfl, h, rfl⟩ := h
  by_cases hE : asksE l t r = 0
  · obtain ⟨k, rfl, hk, ht⟩ := asks_in hE
    have hgd : l.getD ((k : Nat) : Int).toNat (-1) = l[k] := by simp [hk]
    have hz := h.th _ (List.getElem_mem hk)
    have hq : tryQ l t (k : Int) = decide (l[k] = -1) := by
      unfold tryQ
      rw [hE, hgd]
      show decide (l[k] < 0) = _
      by_cases e : l[k] = -1
      · rw [decide_eq_true e, decide_eq_true (by omega)]
      · rw [decide_eq_false e, decide_eq_false (by omega)]
    have hL : tryL l t (k : Int) = if l[k] = -1 then l.set k t else l := by
      unfold tryL withL
      rw [hq, Int.toNat_natCast]
      by_cases e : l[k] = -1 <;> simp [e]
    rw [hq, hL, hE]
    exact try_yes h t hk (threadB_in ht) hE
  · have hq : tryQ l t r = false := by
      unfold tryQ
      rw [beq_eq_false_iff_ne.2 hE, Bool.false_and]
    have hL : tryL l t r = l := by
      unfold tryL
      rw [hq]
      rfl
    rw [hq, hL]
    exact try_no h t r hE

/-! Free -/
def freeA (v : Value) (s : Nat) (a1 a2 a3 : Bool) : List Ask :=
  [⟨32, #[v], #[], 1, a1⟩, ⟨55, #[], #[bx (s + 1)], 2, a2⟩, ⟨56, #[], #[bx s, bx (s + 2)], 4, a3⟩]
theorem free_nonA (v : Value) (t r : Int) (w : World) (h : NonL w v) : Calls Try.prog 36 #[.slice (some ⟨w.heap.size + 3, 0, none⟩) 3 3] (askW w (tryB v t r) (freeA v w.heap.size true true true)) fun e w' => e = .returned (.int .i64 1) ∧ Boxes w [v, .int .i64 t, .int .i64 r] w' := by
  refine (asked_box (tryB v t r) (freeA v w.heap.size false true true) 3 3 _ rfl rfl (by omega) fun k hk hall => ?_).mono fun e w' ⟨e1, e2, _⟩ => ⟨e1, e2⟩
  rcases k with _ | k
  · refine ⟨enters_of Try.func32 (by kernel_rfl) rfl, fun V hV => ?_⟩
    exact (lthere_non v V (h.below hV.below)).mono fun e w' ⟨e1, e2⟩ => ⟨e1, e2 ▸ Below.refl _ _⟩
  · exact absurd (hall 0 (by simp [freeA]) (by omega)) (by simp [freeA])
def freeE1 (l : Ls) (t r : Int) : Int := if threadB t = false then 2 else if r < 0 ∨ (l.length : Int) ≤ r then 4 else 0
theorem free_askedA {bl b g c : Nat} {cs : Ce.Cs} {l : Ls} {w : World} (h : LRep w bl b g c cs l) (t r : Int) :
    Calls Try.prog 36 #[.slice (some ⟨w.heap.size + 3, 0, none⟩) 3 3] (askW w (tryB (bx bl) t r) (freeA (bx bl) w.heap.size true true true)) fun e w' => e = .returned (.int .i64 (freeE1 l t r)) ∧ Boxes w [bx bl, .int .i64 t, .int .i64 r] w' := by
  obtain ⟨a2, ha2⟩ : ∃ a2, a2 = threadB t := ⟨_, rfl⟩
  obtain ⟨a3, ha3⟩ : ∃ a3, a3 = decide (0 ≤ r ∧ r < (l.length : Int)) := ⟨_, rfl⟩
  have hE : askE (freeA (bx bl) w.heap.size true a2 a3) = freeE1 l t r := by
    unfold freeE1
    rw [← ha2]
    cases a2
    · rfl
    · rw [if_neg (by simp)]
      by_cases h3 : 0 ≤ r ∧ r < (l.length : Int)
      · rw [decide_eq_true h3] at ha3
        subst ha3
        rw [if_neg (by omega)]
        rfl
      · rw [decide_eq_false h3] at ha3
        subst ha3
        rw [if_pos (by omega)]
        rfl
  refine (asked_box (tryB (bx bl) t r) (freeA (bx bl) w.heap.size true a2 a3) 3 3 _ rfl rfl (by omega) fun k hk hall => ?_).mono fun e w' ⟨e1, e2, _⟩ => ⟨by rw [e1, hE], e2⟩
  rcases k with _ | _ | _ | k
  · refine ⟨enters_of Try.func32 (by kernel_rfl) rfl, fun V hV => ?_⟩
    exact (lthere_at bl _ V (h.below hV.below).cel).mono fun e w' ⟨e1, e2⟩ => ⟨e1, e2 ▸ Below.refl _ _⟩
  · refine ⟨enters_of Try.func55 (by kernel_rfl) rfl, fun V hV => ?_⟩
    have := free1_any (w.heap.size + 1) t V (hV.cell 1 _ rfl)
    rw [← ha2] at this
    exact this
  · refine ⟨enters_of Try.func56 (by kernel_rfl) rfl, fun V hV => ?_⟩
    have := free2_any (h.below hV.below) w.heap.size (w.heap.size + 2) r (hV.cell 0 _ rfl) (hV.cell 2 _ rfl)
    rw [← ha3] at this
    exact this
  · simp [freeA] at hk
    omega
set_option maxHeartbeats 1000000 in
theorem free_nil (v : Value) (t r : Int) (w : World) (h : NonL w v) : Calls Try.prog 21 #[v, .int .i64 t, .int .i64 r] w fun e w' => e = .returned (.int .i64 1) ∧ Below w.heap.size w w' := by
  have h1 := Lib.hid (free_nonA v t r w h)
  obtain ⟨pv, rfl⟩ := h.ptr
  clear h
  go_enter Try.func21, Try.ntmps21
  go_wp2_with fail
  refine wp_scope_jump 1 fun R hR hJm => ?_
  go_wp2_with fail
  refine (h1.out).mono ?_
  rintro e w1 ⟨rfl, hB⟩
  have HB := Lib.hid hB.below
  clear hB h1
  go_wp2_with fail
  refine wp_goto (hJm.out _ _ _ _ _ rfl ?_)
  go_wp2_with fail
  refine hR.out _ _ _ _ (by simp) ?_
  go_ret
  exact ⟨rfl, HB.out⟩
set_option maxHeartbeats 1000000 in
theorem free_no {bl b g c : Nat} {cs : Ce.Cs} {l : Ls} {w : World} (h : LRep w bl b g c cs l) (t r : Int) (hE : freeE1 l t r ≠ 0) :
    Calls Try.prog 21 #[bx bl, .int .i64 t, .int .i64 r] w fun e w' => e = .returned (.int .i64 (freeE1 l t r)) ∧ Nx HasL w (bx bl) l (blk bl b g) w' := by
  have h1 := Lib.hid (free_askedA h t r)
  have HN := Lib.hid (fun w' hb => nx_same (w' := w') h hb)
  obtain ⟨E, hE2⟩ : ∃ E, E = freeE1 l t r := ⟨_, rfl⟩
  rw [← hE2] at h1 hE ⊢
  have e0 : (E == 0) = false := beq_eq_false_iff_ne.2 hE
  have e1 : ¬ (E = 0) := hE
  clear hE2 h hE
  go_enter Try.func21, Try.ntmps21
  go_wp2_with fail
  refine wp_scope_jump 1 fun R hR hJm => ?_
  go_wp2_with fail
  refine (h1.out).mono ?_
  rintro e w1 ⟨rfl, hB⟩
  have HB := Lib.hid (HN.out _ hB.below)
  clear hB h1 HN
  go_wp2_with fail
  refine wp_goto (hJm.out _ _ _ _ _ rfl ?_)
  go_wp2_with fail
  refine hR.out _ _ _ _ (by simp) ?_
  go_ret
  exact ⟨rfl, HB.out⟩
set_option maxHeartbeats 2000000 in
theorem free_in {bl b g c k : Nat} {cs : Ce.Cs} {l : Ls} {w : World} (h : LRep w bl b g c cs l) (t : Int) (hk : k < l.length) (ht : 0 ≤ t ∧ t < 4) (hE : freeE1 l t (k : Int) = 0) :
    Calls Try.prog 21 #[bx bl, .int .i64 t, .int .i64 (k : Int)] w fun e w' => e = .returned (.int .i64 (if l[k] = t then 0 else 221)) ∧ Nx HasL w (bx bl) (if l[k] = t then l.set k (-1) else l) (blk bl b g) w' := by
  have h1 := Lib.hid (free_askedA h t (k : Int))
  rw [hE] at h1
  have HM := Lib.hid (fun W => mark_any t W ht.1 ht.2)
  have HS := Lib.hid (fun w1 (hB : Boxes w [bx bl, .int .i64 t, .int .i64 (k : Int)] w1) => (show w1.cell? ⟨w.heap.size, 0, none⟩ = some (bx bl) ∧ w1.cell? ⟨bl, 0, none⟩ = some (bx b) ∧ w1.cell? ⟨w.heap.size + 1, 0, none⟩ = some (.int .i64 t) ∧ w1.cell? ⟨w.heap.size + 2, 0, none⟩ = some (.int .i64 (k : Int)) from
    ⟨hB.cell 0 _ rfl, (h.below hB.below).cel, hB.cell 1 _ rfl, hB.cell 2 _ rfl⟩))
  have HSW : ∀ V, Below w.heap.size w V → Calls Try.prog 53 #[bx b, .int .i64 (k : Int), .int .u64 (wz t : Int), .int .u64 0] V (SwP V bl b g c (decide (l[k] = t)) (if l[k] = t then l.set k (-1) else l)) := fun V hb => by
    have hsw := swap_lock (h.below hb) hk (x := t) (n := -1) (by omega) (by omega)
    rw [wz_m1] at hsw
    exact hsw
  have HC := Lib.hid (fun w1 (hB : Boxes w [bx bl, .int .i64 t, .int .i64 (k : Int)] w1) V (hb : Below w1.heap.size w1 V) => (show Calls Try.prog 53 #[bx b, .int .i64 (k : Int), .int .u64 (wz t : Int), .int .u64 0] V (fun e' w' => e' = .returned (.tuple #[.bool (decide (l[k] = t)), .int .i64 0]) ∧ (w'.cell? ⟨w.heap.size, 0, none⟩ = some (bx bl) ∧ w'.cell? ⟨bl, 0, none⟩ = some (bx b) ∧ w'.cell? ⟨w.heap.size + 1, 0, none⟩ = some (.int .i64 t) ∧ w'.cell? ⟨w.heap.size + 2, 0, none⟩ = some (.int .i64 (k : Int))) ∧
      Nx HasL w (bx bl) (if l[k] = t then l.set k (-1) else l) (blk bl b g) w') from
    (HSW V (below0 hB.below hb)).mono fun e' w' ⟨e1, ⟨cs', e2⟩, e3⟩ => by
      have hgl := h.rep.row.lt
      have hk2 := fun j v hj => (hB.more hb).keep (F := (· = g)) e3 (fun k hk => by rw [hk]; exact hgl) j v hj
      exact ⟨e1, ⟨hk2 0 _ rfl, e2.cel, hk2 1 _ rfl, hk2 2 _ rfl⟩, nx_fin (below0 hB.below hb) e3 e2⟩))
  have hr : (if l[k] = t then (0 : Int) else 221) = if decide (l[k] = t) = true then 0 else 221 := by by_cases e : l[k] = t <;> simp [e]
  rw [hr]
  obtain ⟨q, hq⟩ : ∃ q, q = decide (l[k] = t) := ⟨_, rfl⟩
  obtain ⟨L, hL⟩ : ∃ L, L = if l[k] = t then l.set k (-1) else l := ⟨_, rfl⟩
  rw [← hq, ← hL] at HC ⊢
  obtain ⟨x, hx⟩ : ∃ x, x = wz t := ⟨_, rfl⟩
  rw [← hx] at HC HM
  clear hq hL hx h hE ht hk HSW hr
  go_enter Try.func21, Try.ntmps21
  go_wp2_with fail
  refine wp_scope_jump 1 fun R hR hJm => ?_
  go_wp2_with fail
  refine (h1.out).mono ?_
  rintro e w1 ⟨rfl, hB⟩
  have H0 := Lib.hid (HS.out w1 hB)
  have H1 := Lib.hid (HC.out w1 hB)
  have hdr := Lib.hid (show Below w1.heap.size w1 w1.drew from (Below.refl _ _).drew)
  clear hB h1 HS HC
  go_wp2_with fail
  go_region_held3 (fun W => W.cell? ⟨w.heap.size, 0, none⟩ = some (bx bl) ∧ W.cell? ⟨bl, 0, none⟩ = some (bx b) ∧ W.cell? ⟨w.heap.size + 1, 0, none⟩ = some (.int .i64 t) ∧ W.cell? ⟨w.heap.size + 2, 0, none⟩ = some (.int .i64 (k : Int)))
    (first | exact H0.out | exact hS2 | assumption)
    (first | (go_at_call 54; refine (HM.out _).mono ?_; rintro e w2 ⟨rfl, rfl⟩) | (go_at_call 53; refine (H1.out _ hdr.out).mono ?_; rintro e w2 ⟨rfl, hS2, hN⟩))
  cases q
  · go_wp2_with fail
    refine wp_label ?_
    go_wp2_with fail
    refine hR.out _ _ _ _ (by simp) ?_
    go_ret
    exact ⟨rfl, hN⟩
  · go_wp2_with fail
    refine wp_label ?_
    go_wp2_with fail
    refine hR.out _ _ _ _ (by simp) ?_
    go_ret
    exact ⟨rfl, hN⟩
theorem lfree_any {w : World} {v : Value} {l : Ls} {F : Nat → Prop} (t r : Int) (h : HasL w v l F) : Calls Try.prog 21 #[v, .int .i64 t, .int .i64 r] w fun e w' => e = .returned (.int .i64 (freeE l t r)) ∧ Nx HasL w v (freeL l t r) F w' := by
  obtain ⟨bl, b, g, c, cs, rfl, h, rfl⟩ := h
  by_cases hE : freeE1 l t r = 0
  · have hE2 := hE
    unfold freeE1 at hE2
    cases ht : threadB t with
    | false => rw [ht, if_pos rfl] at hE2; cases hE2
    | true =>
      by_cases hr : r < 0 ∨ (l.length : Int) ≤ r
      · rw [ht, if_neg (by simp), if_pos hr] at hE2
        cases hE2
      · obtain ⟨k, rfl⟩ := Int.eq_ofNat_of_zero_le (show 0 ≤ r by omega)
        have hk : k < l.length := by omega
        have hgd : l.getD ((k : Nat) : Int).toNat (-1) = l[k] := by simp [hk]
        have hq : freeE l t (k : Int) = if l[k] = t then 0 else 221 := by
          unfold freeE
          rw [ht, if_neg (by simp), if_neg hr, hgd]
          by_cases e : l[k] = t <;> simp [e]
        have hL : freeL l t (k : Int) = if l[k] = t then l.set k (-1) else l := by
          unfold freeL withL
          rw [hq, Int.toNat_natCast]
          by_cases e : l[k] = t <;> simp [e]
        rw [hq, hL]
        exact free_in h t hk (threadB_in ht) hE
  · have hq : freeE l t r = freeE1 l t r := by
      unfold freeE freeE1
      unfold freeE1 at hE
      split
      · rfl
      · split
        · rfl
        · rename_i h1 h2
          rw [if_neg h1, if_neg h2] at hE
          exact absurd rfl hE
    have hL : freeL l t r = l := by
      unfold freeL
      rw [hq, if_neg hE]
    rw [hq, hL]
    exact free_no h t r hE
end Go.Proofs.Ytodbaahnmmfgiaa.Lk
