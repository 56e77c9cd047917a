import Derived.Test.YtmbjjbgpcacoeaaGreatSC
import Derived.Shelf.SlMaps.Equal
namespace Go.Proofs.YtmbjjbgpcacoeaaGreat
open Go.Shelf

/- THE LIBRARY's CONTRACTS LAID AT THIS PROGRAM. -/

def equalL_ren : Go.Shelf.Ren := ⟨fun | 6 => 121 | n => n, fun | 23 => 92 | 24 => 92 | 26 => 3 | 27 => 3 | 4 => 4 | 3 => 3 | 0 => 0 | 36 => 113 | n => n, fun | n => n⟩
theorem equalL : Go.Proofs.SlLaysEq.n6 Tryz.prog equalL_ren := {
  mixed := by kernel_rfl
  f6 := ⟨Tryz.f121.name, by decide, Tryz.func121.trans (congrArg some (by kernel_rfl))⟩
  t0 := Tryz.underlying0
  a0 := Tryz.isAgg0
  z0 := Tryz.sizeOf0
  v0 := Tryz.zeroValue0
  t3 := Tryz.underlying3
  a3 := Tryz.isAgg3
  z3 := Tryz.sizeOf3
  v3 := Tryz.zeroValue3
  t4 := Tryz.underlying4
  a4 := Tryz.isAgg4
  z4 := Tryz.sizeOf4
  v4 := Tryz.zeroValue4
  t23 := Tryz.underlying92
  a23 := Tryz.isAgg92
  z23 := Tryz.sizeOf92
  v23 := Tryz.zeroValue92
  t24 := Tryz.underlying92
  a24 := Tryz.isAgg92
  z24 := Tryz.sizeOf92
  v24 := Tryz.zeroValue92
  a26 := Tryz.isAgg3
  z26 := Tryz.sizeOf3
  a27 := Tryz.isAgg3
  z27 := Tryz.sizeOf3
  t36 := Tryz.underlying113
  a36 := Tryz.isAgg113
  z36 := Tryz.sizeOf113 }
open Go.RowKit Go.Maps Go.Sort
/- ARE TWO MAPS OF OWNERS THE SAME? -/
def eqd (a b : DataW Unit) : Bool := match a, b with | .lit (.int _ x), .lit (.int _ y) => x == y | _, _ => false
set_option maxRecDepth 100000 in
theorem elem_inv {x : Value} {y : DataW Unit × List MemPlace} (h : plainElem Tryz.prog 3 x = some y) : ∃ a, x = .int .i64 a ∧ y = (.lit (.int .i64 a), []) := by
  unfold plainElem at h
  rw [Tryz.underlying3] at h
  cases x <;> simp only at h <;> try cases h
  rename_i q a
  split at h
  · rename_i h1
    obtain ⟨rfl, _⟩ := h1
    cases h
    exact ⟨a, rfl, rfl⟩
  · cases h
theorem sub_count : ∀ (l1 l2 : List (Option Nat)), l1.length = l2.length → (∀ (i o : Nat), l1[i]? = some (some o) → l2[i]? = some (some o)) → l1.countP Option.isSome ≤ l2.countP Option.isSome ∧ (l1.countP Option.isSome = l2.countP Option.isSome → l1 = l2)
  | [], [], _, _ => ⟨Nat.le_refl _, fun _ => rfl⟩
  | [], _ :: _, h, _ => by simp at h
  | _ :: _, [], h, _ => by simp at h
  | a :: r1, b :: r2, h, hs => by
    obtain ⟨h1, h2⟩ := sub_count r1 r2 (by simpa using h) (fun i o hi => by simpa using hs (i + 1) o (by simpa using hi))
    rw [List.countP_cons, List.countP_cons]
    cases a with
    | none =>
      cases b with
      | none => exact ⟨by simpa using h1, fun e => by rw [h2 (by simpa using e)]⟩
      | some y => exact ⟨by simp; omega, fun e => by simp at e; omega⟩
    | some x =>
      have := hs 0 x (by simp)
      simp at this
      subst this
      exact ⟨by simpa using h1, fun e => by rw [h2 (by simpa using e)]⟩
theorem ents_mem : ∀ (s : Nat) (l : List (Option Nat)) (x : Lit × DataW Unit), x ∈ entsF s l → ∃ (i o : Nat), x = (.int .i64 ((s + i : Nat) : Int), .lit (.int .i64 (o : Int))) ∧ l[i]? = some (some o)
  | _, [], x, h => by cases h
  | s, none :: r, x, h => by
    obtain ⟨i, o, h1, h2⟩ := ents_mem (s + 1) r x h
    exact ⟨i + 1, o, by rw [h1, show s + 1 + i = s + (i + 1) by omega], by simpa using h2⟩
  | s, some y :: r, x, h => by
    rcases List.mem_cons.1 h with h | h
    · exact ⟨0, y, h, rfl⟩
    · obtain ⟨i, o, h1, h2⟩ := ents_mem (s + 1) r x h
      exact ⟨i + 1, o, by rw [h1, show s + 1 + i = s + (i + 1) by omega], by simpa using h2⟩
theorem eqF_iff (l1 l2 : List (Option Nat)) (hl : l1.length = l2.length) : Lib.equalFuncD eqd (mapD l1) (mapD l2) = true ↔ l1 = l2 := by
  unfold Lib.equalFuncD
  rw [Bool.and_eq_true, decide_eq_true_iff, mapD_size, mapD_size, List.all_eq_true]
  constructor
  · rintro ⟨h1, h2⟩
    refine (sub_count l1 l2 hl fun i o hi => ?_).2 h1
    have hat : ownAt l1 (i : Int) = some o := by
      unfold ownAt
      rw [if_neg (by omega), Int.toNat_natCast, hi]
      rfl
    have hf := mapD_find l1 (i : Int)
    rw [hat] at hf
    have hmem := List.mem_of_find?_eq_some hf
    have h3 := h2 _ hmem
    unfold Lib.goodD at h3
    rw [Bool.and_eq_true, mapD_has, mapD_at] at h3
    obtain ⟨h4, h5⟩ := h3
    cases hx : ownAt l2 (i : Int) with
    | none => rw [hx] at h4; cases h4
    | some y =>
      rw [hx] at h5
      have h6 : ((o : Int) == (y : Int)) = true := h5
      have h7 : o = y := by have := eq_of_beq h6; omega
      subst h7
      unfold ownAt at hx
      rw [if_neg (by omega), Int.toNat_natCast] at hx
      cases hy : l2[i]? with
      | none => rw [hy] at hx; cases hx
      | some z => rw [hy] at hx; exact congrArg some hx
  · rintro rfl
    refine ⟨rfl, fun x hx => ?_⟩
    have hx2 : x ∈ entsF 0 l1 := hx
    obtain ⟨i, o, rfl, hi⟩ := ents_mem 0 l1 x hx2
    rw [Nat.zero_add]
    have hat : ownAt l1 (i : Int) = some o := by
      unfold ownAt
      rw [if_neg (by omega), Int.toNat_natCast, hi]
      rfl
    unfold Lib.goodD
    rw [Bool.and_eq_true, mapD_has, mapD_at, hat]
    exact ⟨rfl, by show ((o : Int) == (o : Int)) = true; simp⟩
theorem equal_any (b1 b2 n1 n2 : Nat) (l1 l2 : List (Option Nat)) (w : World) (hl : l1.length = l2.length) (h1 : w.ownsMap Tryz.prog 3 (plainElem Tryz.prog 3) b1 n1 (mapD l1)) (h2 : w.ownsMap Tryz.prog 3 (plainElem Tryz.prog 3) b2 n2 (mapD l2)) :
    Calls Tryz.prog 121 #[.map (some b1), .map (some b2)] w fun e w' => e = .returned (.bool (decide (l1 = l2))) ∧ Below w.heap.size w w' := by
  refine (AnyEq.maps_Equal equalL law (plainElem Tryz.prog 3) (plainElem Tryz.prog 3) eqd b1 b2 n1 n2 (mapD l1) (mapD l2) w h1 h2 (.int .i64 0) zeroE (.lit (.int .i64 0)) [] (by kernel_rfl) ?_).mono ?_
  · intro W x y xd yd xp yp hx hy
    obtain ⟨a, rfl, e1⟩ := elem_inv hx
    obtain ⟨b, rfl, e2⟩ := elem_inv hy
    cases e1
    cases e2
    refine ⟨?_, fun _ _ => ?_⟩
    · simp [binOp, Op.intCmp, eqd, bne]
    · simp [eqGuard]
  · rintro e w' ⟨rfl, hg⟩
    refine ⟨?_, (Below.refl _ _).grown hg (Nat.le_refl _) (fun r e => by cases e)⟩
    rw [show Lib.equalFuncD eqd (mapD l1) (mapD l2) = decide (l1 = l2) by rw [Bool.eq_iff_iff, eqF_iff l1 l2 hl, decide_eq_true_iff]]
end Go.Proofs.YtmbjjbgpcacoeaaGreat
