import Derived.Test.YtnbehncbjbkjpaaLeast3
namespace Go.Proofs.Ytnbehncbjbkjpaa
open Go.RowKit Go.Shelf Go.Maps Go.Sort
attribute [local go_sem] Oper.semAt_some

/- QUESTIONS OVER BOXES. -/

def boxW (w : World) : List (Value × TypeId) → World
  | [] => w
  | x :: r => boxW (w.alloc (.cells #[x.1] x.2)) r
/-- each box holds its thing -/
structure Boxes (w : World) (l : List Value) (V : World) : Prop where
  below : Below w.heap.size w V
  cell : ∀ k v, l[k]? = some v → V.cell? ⟨w.heap.size + k, 0, none⟩ = some v
  size : w.heap.size + l.length ≤ V.heap.size
theorem box_size : ∀ (l : List (Value × TypeId)) (w : World), (boxW w l).heap.size = w.heap.size + l.length
  | [], w => rfl
  | x :: r, w => by rw [boxW, box_size r]; simp; omega
theorem box_below : ∀ (l : List (Value × TypeId)) (w V : World), Below w.heap.size w V → Below w.heap.size w (boxW V l)
  | [], w, V, h => h
  | x :: r, w, V, h => by rw [boxW]; exact box_below r w _ (h.alloc h.size _)
theorem box_keep : ∀ (l : List (Value × TypeId)) (V : World) (p : Addr), p.block < V.heap.size → (boxW V l).cell? p = V.cell? p
  | [], V, p, h => rfl
  | x :: r, V, p, h => by
    rw [boxW, box_keep r _ p (by simp; omega)]
    exact World.cell?_alloc_lt _ _ _ h
theorem box_cell : ∀ (l : List (Value × TypeId)) (w : World) (k : Nat) (x : Value × TypeId), l[k]? = some x → (boxW w l).cell? ⟨w.heap.size + k, 0, none⟩ = some x.1
  | [], w, k, x, h => by simp at h
  | y :: r, w, 0, x, h => by
    simp at h
    subst h
    rw [boxW, box_keep r _ _ (by simp)]
    exact cell_alloc_new _ _ _ _
  | y :: r, w, k + 1, x, h => by
    have := box_cell r (w.alloc (.cells #[y.1] y.2)) k x (by simpa using h)
    rw [World.size_alloc] at this
    rw [boxW, show w.heap.size + (k + 1) = w.heap.size + 1 + k by omega]
    exact this
def askW (w : World) (l : List (Value × TypeId)) (qs : List Ask) : World := (boxW w l).alloc (.cells (askCells qs).toArray 53)
theorem Boxes.more {w V V' : World} {l : List Value} (h : Boxes w l V) (hb : Below V.heap.size V V') : Boxes w l V' :=
  ⟨below0 h.below hb, fun k v hk => (hb.cell (p := ⟨w.heap.size + k, 0, none⟩) (by have := (List.getElem?_eq_some_iff.1 hk).1; have := h.size; show w.heap.size + k < _; omega)).trans (h.cell k v hk), Nat.le_trans h.size hb.size⟩
theorem Boxes.keep {w V V' : World} {l : List Value} {F : Nat → Prop} (h : Boxes w l V) (hb : Keep F V V') (hF : ∀ k, F k → k < w.heap.size) (k : Nat) (v : Value) (hk : l[k]? = some v) : V'.cell? ⟨w.heap.size + k, 0, none⟩ = some v :=
  (hb.cell (p := ⟨w.heap.size + k, 0, none⟩) (by have := (List.getElem?_eq_some_iff.1 hk).1; have := h.size; show w.heap.size + k < _; omega) (fun hf => by have h1 := hF _ hf; simp only at h1; omega)).trans (h.cell k v hk)
theorem askW_boxes (w : World) (l : List (Value × TypeId)) (qs : List Ask) : Boxes w (l.map Prod.fst) (askW w l qs) ∧ Row (askW w l qs) (w.heap.size + l.length) 53 (askCells qs) ∧ (askW w l qs).heap.size = w.heap.size + l.length + 1 := by
  have hs := box_size l w
  refine ⟨⟨(box_below l w w (Below.refl _ _)).alloc (by omega) _, fun k v hk => ?_, by simp [askW, hs]⟩, Row.new_at _ _ _ hs, by simp [askW, hs]⟩
  rw [List.getElem?_map, Option.map_eq_some_iff] at hk
  obtain ⟨x, hx, rfl⟩ := hk
  refine (World.cell?_alloc_lt _ _ _ ?_).trans (box_cell l w k x hx)
  have := (List.getElem?_eq_some_iff.1 hx).1
  show w.heap.size + k < _
  omega
theorem asked_box {w : World} (l : List (Value × TypeId)) (qs : List Ask) (n c s : Nat) (hs : s = w.heap.size + l.length) (hn : qs.length = n) (hm : n ≤ 100)
    (HQ : ∀ k (hk : k < qs.length), (∀ j (hj : j < qs.length), j < k → qs[j].ans = true) → (∀ args V, (callFunc qs[k].cf args).run Try.prog V = .ok (.enter qs[k].cf args) V) ∧
      ∀ V, Boxes w (l.map Prod.fst) V → Calls Try.prog qs[k].cf (qs[k].first ++ qs[k].cap) V fun e V' => e = .returned (.bool qs[k].ans) ∧ Below V.heap.size V V') :
    Calls Try.prog 17 #[.slice (some ⟨s, 0, none⟩) n c] (askW w l qs) fun e w' => e = .returned (.int .i64 (askE qs)) ∧ Boxes w (l.map Prod.fst) w' ∧ s < w'.heap.size := by
  obtain ⟨h1, h2, h3⟩ := askW_boxes w l qs
  subst hs
  refine (asked_any qs (w.heap.size + l.length) n c _ hn hm h2 fun k hk hall => ⟨(HQ k hk hall).1, fun V hV => (HQ k hk hall).2 V (h1.more hV)⟩).mono fun e w' ⟨e1, e2⟩ => ⟨e1, h1.more e2, ?_⟩
  have := e2.size
  omega
theorem Boxes.rep {w V : World} {l : List Value} {b bm : Nat} {p : Pl} {fv sv : Value} {fb : List (List UInt8)} {gf gs : Option Nat} (h : Boxes w l V) (hr : Rep w b p bm fv sv fb gf gs) : Rep V b p bm fv sv fb gf gs := hr.below h.below

/-- the map tightly bounded -/
theorem owns_tight {k : TypeId} {R : Value → Option (DataW Unit × List MemPlace)} {w : World} {b n m : Nat} {D : DataW Unit} (h : w.ownsMap Try.prog k R b n D) (hm : Maps.size D ≤ m) : w.ownsMap Try.prog k R b m D := by
  obtain ⟨es, clock, h1, h2, h3, rfl⟩ := h
  refine ⟨es, clock, h1, h2, ?_, rfl⟩
  simpa [Maps.size, length_sorted] using hm

/-- a store into what is left -/
theorem Mid.set_left {w : World} {b bm : Nat} {p : Pl} {fv sv : Value} {fb : List (List UInt8)} {sp : List Nat} {gf gs : Option Nat} (h : Mid w b p bm fv sv fb sp gf gs) (hne : bm ≠ b ∧ gf ≠ some b ∧ gs ≠ some b) (hl : p.left.length = 64) (o v : Nat) (ho : o < 64) :
    Mid (w.setCell ⟨b, 2 + o, none⟩ (.int .i64 (v : Int))) b { p with left := p.left.set o v } bm fv sv fb sp gf gs := by
  have hk : ∀ k, k ≠ b → (w.setCell ⟨b, 2 + o, none⟩ (.int .i64 (v : Int))).heap[k]? = w.heap[k]? := fun k hk => heap_set hk
  refine ⟨?_, owns_same h.map (hk _ hne.1), h.frm.keep fun g e => hk _ (fun e2 => hne.2.1 (e2 ▸ e)), h.spr.keep fun g e => hk _ (fun e2 => hne.2.2 (e2 ▸ e))⟩
  have := h.obj.set (2 + o) (.int .i64 (v : Int))
  rw [poolL_left _ _ _ _ _ _ _ hl ho] at this
  exact this
theorem Rep.mid {w : World} {b bm : Nat} {p : Pl} {fv sv : Value} {fb : List (List UInt8)} {gf gs : Option Nat} (h : Rep w b p bm fv sv fb gf gs) : Mid w b p bm fv sv fb (spareOf p.fr fb.length) gf gs := ⟨h.obj, h.map, h.frm, h.spr⟩
theorem Mid.ne {w : World} {b bm : Nat} {p : Pl} {fv sv : Value} {fb : List (List UInt8)} {sp : List Nat} {gf gs : Option Nat} (h : Mid w b p bm fv sv fb sp gf gs) : bm ≠ b ∧ gf ≠ some b ∧ gf ≠ some bm ∧ gs ≠ some b ∧ gs ≠ some bm ∧ ∀ k, gf = some k → gs ≠ some k := by
  obtain ⟨es, clock, hm, _⟩ := h.map
  refine ⟨fun e => ?_, fun e => ?_, fun e => ?_, fun e => ?_, fun e => ?_, fun k e e' => ?_⟩
  · rw [e] at hm
    cases h.obj.symm.trans hm
  · obtain ⟨cur, hc⟩ := h.frm.cells_ty e
    have := h.obj.symm.trans hc
    injection this with this
    injection this with _ h2
    exact absurd h2 (by decide)
  · obtain ⟨cur, hc⟩ := h.frm.cells_ty e
    have := hm.symm.trans hc
    cases this
  · obtain ⟨cur, hc⟩ := h.spr.cells_ty e
    have := h.obj.symm.trans hc
    injection this with this
    injection this with _ h2
    exact absurd h2 (by decide)
  · obtain ⟨cur, hc⟩ := h.spr.cells_ty e
    have := hm.symm.trans hc
    cases this
  · obtain ⟨cur, hc⟩ := h.frm.cells_ty e
    obtain ⟨cur', hc'⟩ := h.spr.cells_ty e'
    have := hc.symm.trans hc'
    injection this with this
    injection this with _ h2
    exact absurd h2 (by decide)
theorem Mid.cl {w : World} {b bm : Nat} {p : Pl} {fv sv : Value} {fb : List (List UInt8)} {sp : List Nat} {gf gs : Option Nat} (h : Mid w b p bm fv sv fb sp gf gs) (hok : p.ok) {o : Nat} (ho : o < 64) : w.cell? ⟨b, 2 + o, none⟩ = some (.int .i64 (leftN p o : Int)) := by
  rw [h.obj.cell, poolL, show 2 + o = o + 1 + 1 by omega, List.getElem?_cons_succ, List.getElem?_cons_succ, List.getElem?_append_left (by rw [List.length_map, hok.l64]; exact ho), List.getElem?_map, hok.left_get ho]
  rfl
theorem Mid.lt {w : World} {b bm : Nat} {p : Pl} {fv sv : Value} {fb : List (List UInt8)} {sp : List Nat} {gf gs : Option Nat} (h : Mid w b p bm fv sv fb sp gf gs) : ∀ k, blocks b bm gf gs k → k < w.heap.size := by
  rintro k (rfl | rfl | e | e)
  · exact h.obj.lt
  · exact h.map.lt
  · exact h.frm.lt k e
  · exact h.spr.lt k e
/-- the map turned in its own block -/
theorem Mid.turn {w w' : World} {b bm : Nat} {p : Pl} {fv sv : Value} {fb : List (List UInt8)} {sp : List Nat} {gf gs : Option Nat} (h : Mid w b p bm fv sv fb sp gf gs) (hg : w.grownBy w' (some bm)) (fr : List Fr) (hl : fr.length = p.fr.length)
    (hown : w'.ownsMap Try.prog 3 (plainElem Try.prog 3) bm 16384 (mapD (owns fr))) : Mid w' b { p with fr := fr } bm fv sv fb sp gf gs := by
  obtain ⟨n1, n2, n3, n4, n5, n6⟩ := h.ne
  have hk : ∀ k, k < w.heap.size → k ≠ bm → w'.heap[k]? = w.heap[k]? := fun k hk hne => hg.block k hk (fun e => hne (Option.some.inj e))
  refine ⟨?_, hown, h.frm.keep fun g e => hk g (h.frm.lt g e) (fun e2 => n3 (e2 ▸ e)), h.spr.keep fun g e => hk g (h.spr.lt g e) (fun e2 => n5 (e2 ▸ e))⟩
  show Row w' b 60 (poolL fr.length bm p.left fv sv)
  rw [hl]
  exact h.obj.same (hk b h.obj.lt (fun e => n1 e.symm))

set_option maxHeartbeats 1000000 in
theorem enter_any {w : World} {b bm : Nat} {p : Pl} {fv sv : Value} {fb : List (List UInt8)} {sp : List Nat} {gf gs : Option Nat} (h : Mid w b p bm fv sv fb sp gf gs) (hok : p.ok) (i o : Nat) (bs : List UInt8) (hi : i < p.fr.length) (ho : o < 64) (hp : 0 < leftN p o) :
    Calls Try.prog 30 #[bx b, .int .i64 (i : Int), .int .i64 (o : Int)] w fun e w' => (∃ v, e = .returned v) ∧ Mid w' b { fr := p.fr.set i (some (o, bs)), left := p.left.set o (leftN p o - 1) } bm fv sv fb sp gf gs ∧ Keep (blocks b bm gf gs) w w' := by
  have hmost := hok.most
  have hown := h.map
  have hml := hown.lt
  have c1 : w.cell? ⟨b, 1, none⟩ = some (.map (some bm)) := h.obj.cell 1
  have hz : (mapD (owns p.fr)).put (.int .i64 (i : Int)) (.lit (.int .i64 (o : Int))) = mapD (owns (p.fr.set i (some (o, bs)))) := by
    rw [mapD_put _ _ _ (by rw [owns_len]; exact hi), owns_set]
    rfl
  have hkey := keyZ (a := (i : Int)) (by omega) (by omega)
  have hval : plainElem (H := Unit) Try.prog 3 (.int .i64 (o : Int)) = some (.lit (.int .i64 (o : Int)), []) := plainElem_int Try.underlying3 (wf_i64 (by omega) (by omega))
  have HM := Lib.hid (fun (w1 : World) (hown1 : w1.ownsMap Try.prog 3 (plainElem Try.prog 3) bm (16384 + 1) ((mapD (owns p.fr)).put (.int .i64 (i : Int)) (.lit (.int .i64 (o : Int))))) (hg1 : w.grownBy w1 (some bm)) =>
    (show w1.cell? ⟨b, 2 + o, none⟩ = some (.int .i64 (leftN p o : Int)) ∧ w1.frozen? ⟨b, 2 + o, none⟩ = false ∧ (Mid ((w1.drew).setCell ⟨b, 2 + o, none⟩ (.int .i64 ((leftN p o - 1 : Nat) : Int))) b { fr := p.fr.set i (some (o, bs)), left := p.left.set o (leftN p o - 1) } bm fv sv fb sp gf gs ∧ Keep (blocks b bm gf gs) w ((w1.drew).setCell ⟨b, 2 + o, none⟩ (.int .i64 ((leftN p o - 1 : Nat) : Int)))) from by
      have h1 := h.turn hg1 (p.fr.set i (some (o, bs))) (by simp) (by
        rw [hz] at hown1
        refine owns_tight hown1 ?_
        rw [mapD_size, owns_used]
        exact Nat.le_trans (used_len _) (by rw [List.length_set]; exact hmost))
      obtain ⟨n1, n2, n3, n4, n5, n6⟩ := h.ne
      have hc := h.cl hok ho
      have hkb := hg1.block b h.obj.lt (fun e => n1 (Option.some.inj e).symm)
      refine ⟨(World.cell?_of_block hkb).trans hc, h1.obj.frozen _, ?_, ?_⟩
      · exact Mid.set_left (w := w1.drew) (show Mid w1.drew b _ bm fv sv fb sp gf gs from ⟨h1.obj, h1.map, h1.frm, h1.spr⟩) ⟨n1, n2, n4⟩ hok.l64 o (leftN p o - 1) ho
      · exact (((Keep.refl w).grown hg1 (fun r e => by cases e; exact .inr (.inr (.inl rfl)))).drewN 1).set _ (.inl (.inl rfl))))
  have hle := left_le p hok o
  obtain ⟨x, hx⟩ : ∃ x, x = leftN p o := ⟨_, rfl⟩
  rw [← hx] at HM hp hle ⊢
  have hw : IntKind.i64.wrap ((x : Int) - 1) = ((x - 1 : Nat) : Int) := by rw [wrapI _ (by omega) (by omega)]; omega
  obtain ⟨y, hy⟩ : ∃ y, y = x - 1 := ⟨_, rfl⟩
  rw [← hy] at HM hw ⊢
  have i0 : (0 : Int) ≤ (o : Int) := by omega
  have i1 : (o : Int) < 64 := by omega
  have mixed : Try.prog.follows .mixedOrders = true := by kernel_rfl
  obtain ⟨D, hD⟩ : ∃ D, D = mapD (owns p.fr) := ⟨_, rfl⟩
  rw [← hD] at hown HM
  clear hD hx hy hz h hok hle hmost hp hi ho hml
  go_enter Try.func30, Try.ntmps30
  go_wp2_with (at_mapUpdate; refine wpList_mapUpdate_own _ rfl _ _ _ 35 rfl 3 3 law Try.underlying35 _ bm 16384 D rfl hown (by decide) _ _ _ rfl rfl hkey _ _ hval ?_; intro w1 hown1 hg1; obtain ⟨d1, f1, hfin⟩ := HM.out w1 hown1 hg1; have HF := Lib.hid hfin; clear hfin hown1 hg1)
  go_region
  go_end0
  exact ⟨⟨_, rfl⟩, HF.out⟩
end Go.Proofs.Ytnbehncbjbkjpaa
