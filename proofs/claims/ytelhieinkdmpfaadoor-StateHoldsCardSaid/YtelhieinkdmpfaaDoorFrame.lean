import Derived.Test.YtelhieinkdmpfaaDoorCards
import Derived.Test.YtelhieinkdmpfaaDoorTie
import Derived.Test.YtelhieinkdmpfaaDoorSV
import Derived.Test.YtelhieinkdmpfaaDoorRow
namespace Go.Proofs.YtelhieinkdmpfaaDoor
open Go.ChangeShapes Go.WideShapes Go.ChangeAt Go.RowKit

/- THE FRAME OF ROWS THAT LIST THE TWO TABLES OF STATE. -/
theorem laidOut : laidOutB Tryd.prog = true := by kernel_rfl
theorem ownKnob_none : ownKnob Tryd.prog.godebug = none := by kernel_rfl
theorem cellsBool : Tryd.prog.cellsOf 4 = 1 := by kernel_rfl
theorem cellsStr : Tryd.prog.cellsOf 9 = 1 := by kernel_rfl
theorem cells5 : Tryd.prog.cellsOf 70 = 5 := by kernel_rfl
theorem cells55 : Tryd.prog.cellsOf 71 = 25 := by kernel_rfl
theorem cells5s : Tryd.prog.cellsOf 72 = 5 := by kernel_rfl
theorem gBec : Tryd.prog.globalNamed "pinfold/state.becomes" = some 0 := by kernel_rfl
theorem gNam : Tryd.prog.globalNamed "pinfold/state.names" = some 1 := by kernel_rfl
theorem tBec : (Tryd.prog.globals[0]?).map (·.type) = some 71 := by kernel_rfl
theorem tNam : (Tryd.prog.globals[1]?).map (·.type) = some 72 := by kernel_rfl
section
variable {H : Type} {enc : TypeId × Value → H} {P : Program} {w : World} {base : Nat} {sp : Nat → Bool} {held : Bool} {fuel n : Nat} {t e : TypeId} {cs : List Value} {ds : List (DataW H)} {p : List MemPlace}
theorem arr_parts (ht : P.underlying t = some (.array n e)) (h : DataW.trod enc P w base sp held fuel t cs = some (.agg ds, p)) :
    ∃ m, cs.length = P.cellsOf t ∧ ds.length = n ∧ ∀ i (hi : i < ds.length), ∃ q, DataW.trod enc P w base sp held m e ((cs.drop (i * P.cellsOf e)).take (P.cellsOf e)) = some (ds[i], q) := by
  obtain ⟨xs, m, _, hx, hc, hl, hi⟩ := DataW.trod_array ht h
  injection hx with h1 h2
  injection h1 with h1
  subst h1
  refine ⟨m, hc, by rw [List.length_map]; exact hl, fun i h => ?_⟩
  rw [List.length_map] at h
  refine ⟨xs[i].2, ?_⟩
  rw [hi i (by omega), List.getElem?_eq_getElem h, List.getElem_map]
theorem bools_of {bs : List Bool} (ht : P.underlying t = some (.array n e)) (he : P.underlying e = some .bool) (hce : P.cellsOf e = 1) (hct : P.cellsOf t = n)
    (h : DataW.trod enc P w base sp held fuel t cs = some (.agg (bs.map fun b => .lit (.bool b)), p)) : cs = bs.map Value.bool := by
  obtain ⟨m, h1, h2, h3⟩ := arr_parts ht h
  rw [List.length_map] at h2
  refine List.ext_getElem (by rw [List.length_map]; omega) fun i hi hj => ?_
  rw [List.length_map] at hj
  obtain ⟨q, hq⟩ := h3 i (by rw [List.length_map]; exact hj)
  rw [hce, Nat.mul_one, List.getElem_map] at hq
  obtain ⟨b, e1, e2⟩ := DataW.trod_bool he hq
  injection e2 with e2 _
  injection e2 with e2
  injection e2 with e2
  have e3 := congrArg (·[0]?) e1
  simp only [List.getElem?_take, List.getElem?_drop, Nat.add_zero, List.getElem?_cons_zero, Nat.zero_lt_one, if_true] at e3
  rw [List.getElem?_eq_getElem hi] at e3
  rw [List.getElem_map, Option.some.inj e3, e2]
theorem strs_of {ss : List (List UInt8)} (ht : P.underlying t = some (.array n e)) (he : P.underlying e = some .string) (hce : P.cellsOf e = 1) (hct : P.cellsOf t = n)
    (h : DataW.trod enc P w base sp held fuel t cs = some (.agg (ss.map fun b => .lit (.string b)), p)) : cs = ss.map fun b => Value.string ⟨b.toArray⟩ := by
  obtain ⟨m, h1, h2, h3⟩ := arr_parts ht h
  rw [List.length_map] at h2
  refine List.ext_getElem (by rw [List.length_map]; omega) fun i hi hj => ?_
  rw [List.length_map] at hj
  obtain ⟨q, hq⟩ := h3 i (by rw [List.length_map]; exact hj)
  rw [hce, Nat.mul_one, List.getElem_map] at hq
  obtain ⟨b, e1, e2, _⟩ := DataW.trod_string he hq
  injection e2 with e2 _
  injection e2 with e2
  injection e2 with e2
  have e3 := congrArg (·[0]?) e1
  simp only [List.getElem?_take, List.getElem?_drop, Nat.add_zero, List.getElem?_cons_zero, Nat.zero_lt_one, if_true] at e3
  rw [List.getElem?_eq_getElem hi] at e3
  rw [List.getElem_map, Option.some.inj e3, e2]
theorem chunk {α : Type} (cs : List α) (k s : Nat) : cs.drop k = (cs.drop k).take s ++ cs.drop (k + s) := by
  rw [← List.drop_drop, List.take_append_drop]
theorem rows_of {r0 r1 r2 r3 r4 : List Bool} {u : TypeId} (ht : P.underlying t = some (.array 5 u)) (hu : P.underlying u = some (.array 5 e)) (he : P.underlying e = some .bool) (hce : P.cellsOf e = 1) (hcu : P.cellsOf u = 5) (hct : P.cellsOf t = 25)
    (h : DataW.trod enc P w base sp held fuel t cs = some (.agg ([r0, r1, r2, r3, r4].map fun r => .agg (r.map fun b => .lit (.bool b))), p)) : cs = (r0 ++ (r1 ++ (r2 ++ (r3 ++ r4)))).map Value.bool := by
  obtain ⟨m, h1, _, h3⟩ := arr_parts ht h
  rw [hcu] at h3
  have g : ∀ i (r : List Bool) (hi : i < 5), [r0, r1, r2, r3, r4][i] = r → (cs.drop (i * 5)).take 5 = r.map Value.bool := fun i r hi e1 => by
    obtain ⟨q, hq⟩ := h3 i (by simpa using hi)
    rw [List.getElem_map, e1] at hq
    exact bools_of hu he hce hcu hq
  have e0 := g 0 r0 (by omega) rfl
  have e1 := g 1 r1 (by omega) rfl
  have e2 := g 2 r2 (by omega) rfl
  have e3 := g 3 r3 (by omega) rfl
  have e4 := g 4 r4 (by omega) rfl
  have c0 := chunk cs 0 5
  have c1 := chunk cs 5 5
  have c2 := chunk cs 10 5
  have c3 := chunk cs 15 5
  have c4 := chunk cs 20 5
  rw [List.drop_of_length_le (by omega : cs.length ≤ 20 + 5), List.append_nil] at c4
  simp only [Nat.zero_mul, Nat.one_mul, Nat.reduceMul, Nat.reduceAdd] at e0 e1 e2 e3 e4 c0 c1 c2 c3 c4
  rw [e0, c1, e1, c2, e2, c3, e3, c4, e4, List.drop_zero] at c0
  rw [c0]
  simp only [List.map_append]
end
/-- a block's cells are laid -/
def layCells (h : Array Obj) (g : Nat) (cs : Array Value) : Array Obj := h.modify g fun
  | .cells _ t frozen => .cells cs t frozen
  | o => o
/-- the settled world, the tables as their initialisers lay them -/
noncomputable def laidWorld (os : Os) : World :=
  { World.holding Tryd.prog os ⟨#[], #[], []⟩ with heap := layCells (layCells (World.holding Tryd.prog os ⟨#[], #[], []⟩).heap 0 Sh.becCells) 1 Sh.namCells }
theorem var_block {P : Program} {w : World} {name : String} {g : Nat} {cs : Array Value} (hg : P.globalNamed name = some g) (h : w.var? P name = some cs) : ∃ t fr, w.heap[g]? = some (.cells cs t fr) := by
  unfold World.var? at h
  rw [hg] at h
  simp only [Option.bind_some] at h
  split at h
  · rename_i cs' t fr hh
    simp only [Option.some.injEq] at h
    subst h
    exact ⟨t, fr, hh⟩
  · cases h
abbrev Tab (w : World) : Prop := Sh.Tb w
theorem tab_of {W : World} (h : laidMetH Tryd.prog [("pinfold/state.becomes", Rows.laid_pinfold_state_becomes), ("pinfold/state.names", Rows.laid_pinfold_state_names)] W) : Sh.Tb W := by
  have h : laidMet Tryd.prog [("pinfold/state.becomes", Rows.laid_pinfold_state_becomes), ("pinfold/state.names", Rows.laid_pinfold_state_names)] W := h
  obtain ⟨ps, ⟨g, t, cs, fuel, p, q, hg, ht, hv, hd, ⟨g2, t2, cs2, fuel2, p2, q2, hg2, ht2, hv2, hd2, _, _⟩, _⟩, _⟩ := h
  obtain rfl := Option.some.inj (gBec.symm.trans hg)
  obtain rfl := Option.some.inj (tBec.symm.trans ht)
  obtain rfl := Option.some.inj (gNam.symm.trans hg2)
  obtain rfl := Option.some.inj (tNam.symm.trans ht2)
  have a1 := rows_of (r0 := [false, true, false, false, false]) (r1 := [true, false, true, false, false]) (r2 := [false, false, false, true, true]) (r3 := [true, false, false, false, true]) (r4 := [false, false, false, false, false])
    Tryd.underlying71 Tryd.underlying70 Tryd.underlying4 cellsBool cells5 cells55 hd
  have a2 := strs_of (ss := [[102, 114, 101, 101], [107, 101, 112, 116], [108, 105, 118, 101], [104, 101, 108, 100], [103, 111, 110, 101]])
    Tryd.underlying72 Tryd.underlying9 cellsStr cells5s hd2
  obtain ⟨u, fr, hb⟩ := var_block gBec hv
  obtain ⟨u2, fr2, hb2⟩ := var_block gNam hv2
  refine ⟨⟨u, fr, ?_⟩, ⟨u2, fr2, ?_⟩⟩
  · rw [hb, ← Array.toArray_toList (xs := cs), a1]
    rfl
  · rw [hb2, ← Array.toArray_toList (xs := cs2), a2]
    rfl
end Go.Proofs.YtelhieinkdmpfaaDoor
