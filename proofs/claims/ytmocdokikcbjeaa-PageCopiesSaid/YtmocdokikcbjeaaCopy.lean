import Derived.Test.YtmocdokikcbjeaaEqual
import Derived.BigQuiet
namespace Go.Proofs.Ytmocdokikcbjeaa
open Go.RowKit Go.Shelf Go.Maps Go.Sort
attribute [local go_sem] Oper.semAt_some

/- COPY; SAME. -/
theorem clonep_any (bm : Nat) (l : Tb) (w : World) (h : PMap w bm l) : Calls Try.prog 62 #[.map (some bm)] w fun e w' => e = .returned (.map (some w.heap.size)) ∧ PMap w' w.heap.size l ∧ Below w.heap.size w w' :=
  (AnyW.maps_Clone_owns cloneP 3 _ bm 65536 (mapP l) w h).mono fun _ _ ⟨e1, e2, _, e3⟩ => ⟨e1, e2, e3⟩
theorem clonef_any (bm : Nat) (l : Tb) (w : World) (h : FMap w bm l) : Calls Try.prog 63 #[.map (some bm)] w fun e w' => e = .returned (.map (some w.heap.size)) ∧ FMap w' w.heap.size l ∧ Below w.heap.size w w' := by
  obtain ⟨D, h1, h2⟩ := h
  exact (AnyW.maps_Clone_owns cloneF 3 _ bm 65536 D w h1).mono fun _ _ ⟨e1, e2, _, e3⟩ => ⟨e1, ⟨D, e2, h2⟩, e3⟩
theorem load_two {W : World} {b : Nat} {x y : Value} {t : TypeId} (h : Row W b t [x, y]) : (loadVar 73 ⟨b, 0, none⟩).run Try.prog W = .ok (.agg #[x, y]) W :=
  run_loadVar_mid _ b 0 _ [x, y] _ (fun j v hj => by rw [Nat.zero_add]; exact (h.cell j).trans hj) Try.underlying73 rfl (by kernel_rfl)
/-- a world on the way: the answer's room stands -/
structure CP (w V : World) : Prop where
  below : Below w.heap.size w V
  row : Row V w.heap.size 73 [.map none, .map none]
theorem CP.more {w V V' : World} (h : CP w V) (hb : Below V.heap.size V V') : CP w V' := ⟨below0 h.below hb, h.row.below hb⟩
def Two (w : World) (l : Tb) (p f : Nat) (w' : World) : Prop := PMap w' p l ∧ FMap w' f l ∧ p ≠ f ∧ w.heap.size ≤ p ∧ w.heap.size ≤ f ∧ Below w.heap.size w w'
set_option maxHeartbeats 2000000 in
theorem copied_any {b bp bf : Nat} {l : Tb} {w : World} (h : Rep w b l bp bf) : Calls Try.prog 34 #[bx b] w fun e w' => ∃ p f, e = .returned (.agg #[.map (some p), .map (some f)]) ∧ Two w l p f w' := by
  obtain ⟨w1, hw1⟩ : ∃ w1, w1 = w.alloc (.cells #[.map none, .map none] 73) := ⟨_, rfl⟩
  have h0 : CP w w1 := ⟨hw1 ▸ below1 w _, hw1 ▸ Row.new w _ _⟩
  have HD : Hid (CP w w1.drew) := Lib.hid ⟨h0.below.drew, h0.row⟩
  have HSA := Lib.hid (fun (V : World) (hV : CP w V) => (show V.cell? ⟨b, 0, none⟩ = some (.map (some bp)) ∧ V.cell? ⟨b, 1, none⟩ = some (.map (some bf)) from ⟨(h.below hV.below).c0, (h.below hV.below).c1⟩))
  have HP := Lib.hid (fun (V : World) (hV : CP w V) => (show Calls Try.prog 62 #[.map (some bp)] V (fun e w' => e = .returned (.map (some V.heap.size)) ∧ CP w w' ∧ PMap w' V.heap.size l ∧ Below V.heap.size V w' ∧ V.heap.size < w'.heap.size) from
    (clonep_any bp l V (h.below hV.below).pages).mono fun _ _ ⟨e1, e2, e3⟩ => ⟨e1, hV.more e3, e2, e3, e2.lt⟩))
  have HF := Lib.hid (fun (V : World) (hV : CP w V) => (show Calls Try.prog 63 #[.map (some bf)] V (fun e w' => e = .returned (.map (some V.heap.size)) ∧ CP w w' ∧ FMap w' V.heap.size l ∧ Below V.heap.size V w' ∧ V.heap.size < w'.heap.size) from
    (clonef_any bf l V (h.below hV.below).frames).mono fun _ _ ⟨e1, e2, e3⟩ => ⟨e1, hV.more e3, e2, e3, e2.lt⟩))
  have hbl := h.obj.lt
  have HST := Lib.hid (fun (V : World) (x y : Value) (hV : CP w V) => (show ((V.setCell ⟨w.heap.size, 0, none⟩ x).setCell ⟨w.heap.size, 1, none⟩ y).cell? ⟨b, 0, none⟩ = some (.map (some bp)) ∧ ((V.setCell ⟨w.heap.size, 0, none⟩ x).setCell ⟨w.heap.size, 1, none⟩ y).cell? ⟨b, 1, none⟩ = some (.map (some bf)) from by
    have e : ((V.setCell ⟨w.heap.size, 0, none⟩ x).setCell ⟨w.heap.size, 1, none⟩ y).heap[b]? = V.heap[b]? := by rw [heap_set (by omega), heap_set (by omega)]
    exact ⟨(World.cell?_of_block e).trans (HSA.out V hV).1, (World.cell?_of_block e).trans (HSA.out V hV).2⟩))
  have HC := Lib.hid (fun (V : World) (hV : CP w V) => (show (V.cell? ⟨w.heap.size, 0, none⟩ = some (.map none) ∧ V.cell? ⟨w.heap.size, 1, none⟩ = some (.map none)) ∧ (V.frozen? ⟨w.heap.size, 0, none⟩ = false ∧ V.frozen? ⟨w.heap.size, 1, none⟩ = false) from ⟨⟨hV.row.cell 0, hV.row.cell 1⟩, hV.row.frozen 0, hV.row.frozen 1⟩))
  have HW := Lib.hid hw1
  have HS1 := Lib.hid (show w.heap.size < w1.heap.size by rw [hw1]; simp)
  have mixed : Try.prog.follows .mixedOrders = true := by kernel_rfl
  clear h hw1 h0
  go_enter Try.func34, Try.ntmps34
  go_wp2_with fail
  rw [← HW.out]
  go_region_held3 (fun W => W.cell? ⟨b, 0, none⟩ = some (.map (some bp)) ∧ W.cell? ⟨b, 1, none⟩ = some (.map (some bf)))
    (first | exact HSA.out _ HD.out | exact HSA.out _ hcp2 | exact HSA.out _ hcp | exact HST.out _ _ _ hcp2)
    (first
      | (go_at_call 62; first | (refine (HP.out _ hcp).mono ?_; rintro e w3 ⟨rfl, hcp2, hp, hbp, hsp⟩; obtain ⟨⟨k0, k1⟩, z0, z1⟩ := HC.out _ hcp2) | (refine (HP.out _ HD.out).mono ?_; rintro e w2 ⟨rfl, hcp, hp, hbp, hsp⟩))
      | (go_at_call 63; first | (refine (HF.out _ hcp).mono ?_; rintro e w3 ⟨rfl, hcp2, hf, hbf, hsf⟩; obtain ⟨⟨k0, k1⟩, z0, z1⟩ := HC.out _ hcp2) | (refine (HF.out _ HD.out).mono ?_; rintro e w2 ⟨rfl, hcp, hf, hbf, hsf⟩)))
  have hs1 := HS1.out
  have hsp' : w1.heap.size < w2.heap.size := hsp
  have hTW := Lib.hid (show Two w l w1.heap.size w2.heap.size ((w3.setCell ⟨w.heap.size, 0, none⟩ (.map (some w1.heap.size))).setCell ⟨w.heap.size, 1, none⟩ (.map (some w2.heap.size))) from by
    have e : ∀ k, k ≠ w.heap.size → ((w3.setCell ⟨w.heap.size, 0, none⟩ (.map (some w1.heap.size))).setCell ⟨w.heap.size, 1, none⟩ (.map (some w2.heap.size))).heap[k]? = w3.heap[k]? := fun k hk => by rw [heap_set hk, heap_set hk]
    refine ⟨?_, ?_, by omega, by omega, by omega, (hcp2.below.setCell (Nat.le_refl _) _).setCell (Nat.le_refl _) _⟩
    · exact owns_same (owns_same (show PMap w2 w1.heap.size l from hp) (hbf.block _ hsp')) (e _ (by omega))
    · exact hf.same (e _ (by omega)))
  have hR := (hcp2.row.set 0 (.map (some w1.heap.size))).set 1 (.map (some w2.heap.size))
  go_wp2
  exact bodyPost_ret (res_cell1 Try.results34 rfl (load_two hR)) rfl ⟨_, _, rfl, hTW.out⟩
set_option maxHeartbeats 1000000 in
theorem Copy_nil (v : Value) (w : World) (h : Non w v) : Calls Try.prog 13 #[v] w fun e w' => e = .returned (.pointer none) ∧ w = w' := by
  have h1 := Lib.hid (there_non v w h)
  obtain ⟨pv, rfl⟩ : ∃ pv, v = .pointer pv := by
    rcases h with rfl | ⟨b, rfl, _⟩
    · exact ⟨_, rfl⟩
    · exact ⟨_, rfl⟩
  clear h
  go_enter Try.func13, Try.ntmps13
  go_wp2_with fail
  refine h1.out.mono ?_
  rintro e w1 ⟨rfl, rfl⟩
  go_wp2_with fail
  go_ret
  exact ⟨rfl, rfl⟩
set_option maxHeartbeats 1000000 in
theorem Copy_any {b bp bf : Nat} {l : Tb} {w : World} (h : Rep w b l bp bf) : Calls Try.prog 13 #[bx b] w fun e w' => ∃ c F, e = .returned (bx c) ∧ Has w' c l F ∧ (∀ k, F k → w.heap.size ≤ k) ∧ Below w.heap.size w w' := by
  have h1 := Lib.hid (there_map b bp w h.c0)
  have h2 := Lib.hid (copied_any h)
  have HX := Lib.hid (fun (p f : Nat) (w1 : World) (ht : Two w l p f w1) => (show ∃ c F, Ending.returned (bx w1.heap.size) = .returned (bx c) ∧ Has (w1.alloc (.cells #[.map (some p), .map (some f)] 75)) c l F ∧ (∀ k, F k → w.heap.size ≤ k) ∧ Below w.heap.size w (w1.alloc (.cells #[.map (some p), .map (some f)] 75)) from by
    obtain ⟨t1, t2, t3, t4, t5, t6⟩ := ht
    refine ⟨_, _, rfl, ⟨p, f, ⟨h.ok, Row.new _ _ _, owns_same t1 (Below.heap_alloc _ _ _ t1.lt), t2.same (Below.heap_alloc _ _ _ t2.lt), t3⟩, rfl⟩, ?_, t6.alloc t6.size _⟩
    rintro k (rfl | rfl | rfl)
    · exact t6.size
    · exact t4
    · exact t5))
  clear h
  go_enter Try.func13, Try.ntmps13
  go_wp2_with fail
  refine h1.out.mono ?_
  rintro e w1 ⟨rfl, rfl⟩
  go_wp2_with fail
  refine h2.out.mono ?_
  rintro e w1 ⟨p, f, rfl, ht⟩
  have HY := Lib.hid (HX.out p f w1 ht)
  clear ht
  go_wp2_with fail
  go_ret
  exact HY.out
/-- is there a table? -/
def There (v : Value) (q : Bool) (w : World) : Prop := (∃ pv, v = .pointer pv) ∧ Calls Try.prog 32 #[v] w fun e w' => e = .returned (.bool q) ∧ w = w'
theorem there_no {v : Value} {w : World} (h : Non w v) : There v false w := by
  refine ⟨?_, there_non v w h⟩
  rcases h with rfl | ⟨b, rfl, _⟩
  · exact ⟨_, rfl⟩
  · exact ⟨_, rfl⟩
theorem there_yes {b bp bf : Nat} {l : Tb} {w : World} (h : Rep w b l bp bf) : There (bx b) true w := ⟨⟨_, rfl⟩, there_map b bp w h.c0⟩
set_option maxHeartbeats 1000000 in
theorem Same_there (u v : Value) (p q : Bool) (w : World) (hpq : (p && q) = false) (hu : ∀ V, Below w.heap.size w V → There u p V) (hv : ∀ V, Below w.heap.size w V → There v q V) :
    Calls Try.prog 12 #[u, v] w fun e w' => e = .returned (.bool (p == q)) ∧ Below w.heap.size w w' := by
  obtain ⟨pu, rfl⟩ := (hu w (Below.refl _ _)).1
  obtain ⟨pv, rfl⟩ := (hv w (Below.refl _ _)).1
  have HU := Lib.hid (hu w (Below.refl _ _)).2
  have HV := Lib.hid (hv w (Below.refl _ _)).2
  clear hu hv
  go_enter Try.func12, Try.ntmps12
  cases p with
  | false =>
    go_wp2_with fail
    refine HU.out.mono ?_
    rintro e w2 ⟨rfl, rfl⟩
    go_wp2_with fail
    refine HU.out.mono ?_
    rintro e w2 ⟨rfl, rfl⟩
    go_wp2_with fail
    refine HV.out.mono ?_
    rintro e w2 ⟨rfl, rfl⟩
    go_wp2_with fail
    go_ret
    exact ⟨by cases q <;> rfl, Below.refl _ _⟩
  | true =>
    cases q with
    | true => exact absurd hpq (by decide)
    | false =>
      go_wp2_with fail
      refine HU.out.mono ?_
      rintro e w2 ⟨rfl, rfl⟩
      go_wp2_with fail
      refine HV.out.mono ?_
      rintro e w2 ⟨rfl, rfl⟩
      go_wp2_with fail
      refine HU.out.mono ?_
      rintro e w2 ⟨rfl, rfl⟩
      go_wp2_with fail
      refine HV.out.mono ?_
      rintro e w2 ⟨rfl, rfl⟩
      go_wp2_with fail
      go_ret
      exact ⟨rfl, Below.refl _ _⟩
set_option maxHeartbeats 1000000 in
theorem Same_any {b1 p1 f1 b2 p2 f2 : Nat} {l1 l2 : Tb} {w : World} (h1 : Rep w b1 l1 p1 f1) (h2 : Rep w b2 l2 p2 f2) :
    Calls Try.prog 12 #[bx b1, bx b2] w fun e w' => e = .returned (.bool (decide (l1 = l2))) ∧ Below w.heap.size w w' := by
  have HU := Lib.hid (there_map b1 p1 w h1.c0)
  have HV := Lib.hid (there_map b2 p2 w h2.c0)
  have hdr := Lib.hid (show Below w.heap.size w w.drew from (Below.refl _ _).drew)
  have HSA := Lib.hid (fun W (hB : Below w.heap.size w W) => (show W.cell? ⟨b1, 0, none⟩ = some (.map (some p1)) ∧ W.cell? ⟨b2, 0, none⟩ = some (.map (some p2)) ∧ Below w.heap.size w W from ⟨(h1.below hB).c0, (h2.below hB).c0, hB⟩))
  have HE := Lib.hid (fun V (hB : Below w.heap.size w V) => (show Calls Try.prog 33 #[.map (some p1), .map (some p2)] V (fun e w' => e = .returned (.bool (decide (l1 = l2))) ∧ Below w.heap.size w w') from
    (equal_any h1.ok h2.ok (h1.below hB).pages (h2.below hB).pages).mono fun _ _ ⟨e1, e2⟩ => ⟨e1, below0 hB e2⟩))
  obtain ⟨q, hq⟩ : ∃ q, q = decide (l1 = l2) := ⟨_, rfl⟩
  rw [← hq] at HE ⊢
  clear h1 h2 hq
  go_enter Try.func12, Try.ntmps12
  go_wp2_with fail
  refine HU.out.mono ?_
  rintro e w2 ⟨rfl, rfl⟩
  go_wp2_with fail
  refine HV.out.mono ?_
  rintro e w2 ⟨rfl, rfl⟩
  go_wp2_with fail
  go_region_held3 (fun W => W.cell? ⟨b1, 0, none⟩ = some (.map (some p1)) ∧ W.cell? ⟨b2, 0, none⟩ = some (.map (some p2)) ∧ Below w.heap.size w W)
    (first | exact HSA.out _ hdr.out | exact HSA.out _ (by assumption))
    (first | (go_at_call 33; refine (HE.out _ hdr.out).mono ?_; rintro e w2 ⟨rfl, hb2⟩))
  go_wp2
  go_ret
  exact ⟨rfl, hb2⟩
end Go.Proofs.Ytmocdokikcbjeaa
