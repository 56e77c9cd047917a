import Derived.Test.YtnbehncbjbkjpaaSpareP
namespace Go.Proofs.Ytnbehncbjbkjpaa
open Go.RowKit Go.Shelf Go.Maps Go.Sort

/- A NUMBER PUT BETWEEN OTHERS. -/

theorem iv_one (xs : List Nat) : ∀ u ∈ xs.map iv, u.oneCell' = true := fun u hu => by
  obtain ⟨x, _, rfl⟩ := List.mem_map.1 hu
  rfl
def InsP (w : World) (g : Option Nat) (n : Nat) (ys : List Nat) (e : Ending) (w' : World) : Prop :=
  ∃ v' g', e = .returned v' ∧ Own w' 3 1 v' (n + 1) (ys.map iv) g' ∧ (g' = g ∨ g' = some w.heap.size) ∧ Keep (fun k => g = some k) w w'
theorem drew_setCells2 (b : Nat) : ∀ (vs : List Value) (o : Nat) (w : World), (w.setCells b o vs).drew = w.drew.setCells b o vs
  | [], _, _ => rfl
  | _ :: r, _, _ => drew_setCells2 b r _ _
theorem row_setCells {w : World} {b : Nat} {t : TypeId} {l : List Value} (h : Row w b t l) (vs : List Value) (o : Nat) : Row (w.setCells b o vs) b t (over l o vs) := setCells_cells vs o w l h
theorem ins_over {l : List Value} {xs : List Nat} {at_ n : Nat} (i : Nat) (hl : l.take n = xs.map iv) (hn : xs.length = n) (hat : at_ ≤ n) (hln : n + 1 ≤ l.length) :
    (over (over l (0 + (at_ + 1)) ((xs.map iv).drop at_)) (0 + at_) [iv i]).take (n + 1) = (xs.take at_ ++ i :: xs.drop at_).map iv := by
  have hxl : ((xs.map iv).drop at_).length = n - at_ := by simp; omega
  refine List.ext_getElem? fun j => ?_
  rw [List.getElem?_take]
  by_cases hj : j < n + 1
  · rw [if_pos hj, over_get _ _ _ _ (by rw [over_len]; simp; omega), over_get _ _ _ _ (by omega), hxl]
    simp only [List.length_singleton, Nat.zero_add]
    by_cases h1 : at_ ≤ j ∧ j < at_ + 1
    · obtain rfl : j = at_ := by omega
      rw [if_pos h1, Nat.sub_self, List.getElem?_map, List.getElem?_append_right (by simp; omega), List.length_take, Nat.min_eq_left (by omega), Nat.sub_self]
      rfl
    · rw [if_neg h1]
      by_cases h2 : at_ + 1 ≤ j ∧ j < at_ + 1 + (n - at_)
      · rw [if_pos h2, List.getElem?_map, List.getElem?_append_right (by simp; omega), List.length_take, Nat.min_eq_left (by omega), show j - at_ = (j - (at_ + 1)) + 1 by omega, List.getElem?_cons_succ, List.getElem?_drop, List.getElem?_drop, List.getElem?_map]
      · have h3 : j < at_ := by omega
        rw [if_neg h2, List.getElem?_map, List.getElem?_append_left (by simp; omega), List.getElem?_take, if_pos h3]
        have := congrArg (fun q => q[j]?) hl
        simp only [List.getElem?_take, if_pos (show j < n by omega), List.getElem?_map] at this
        exact this
  · rw [if_neg hj, List.getElem?_map, List.getElem?_eq_none (by simp; omega)]
    rfl
theorem ins_over2 {l : List Value} {xs : List Nat} {at_ n : Nat} (i : Nat) (hl : l.take at_ = (xs.map iv).take at_) (hn : xs.length = n) (hat : at_ ≤ n) (hln : n + 1 ≤ l.length) :
    (over (over l at_ [iv i]) (at_ + 1) ((xs.map iv).drop at_)).take (n + 1) = (xs.take at_ ++ i :: xs.drop at_).map iv := by
  have hxl : ((xs.map iv).drop at_).length = n - at_ := by simp; omega
  refine List.ext_getElem? fun j => ?_
  rw [List.getElem?_take]
  by_cases hj : j < n + 1
  · rw [if_pos hj, over_get _ _ _ _ (by rw [over_len]; omega), over_get _ _ _ _ (by simp; omega), hxl]
    simp only [List.length_singleton]
    by_cases h2 : at_ + 1 ≤ j ∧ j < at_ + 1 + (n - at_)
    · rw [if_pos h2, List.getElem?_map, List.getElem?_append_right (by simp; omega), List.length_take, Nat.min_eq_left (by omega), show j - at_ = (j - (at_ + 1)) + 1 by omega, List.getElem?_cons_succ, List.getElem?_drop, List.getElem?_drop, List.getElem?_map]
    · rw [if_neg h2]
      by_cases h1 : at_ ≤ j ∧ j < at_ + 1
      · obtain rfl : j = at_ := by omega
        rw [if_pos h1, Nat.sub_self, List.getElem?_map, List.getElem?_append_right (by simp; omega), List.length_take, Nat.min_eq_left (by omega), Nat.sub_self]
        rfl
      · have h3 : j < at_ := by omega
        rw [if_neg h1, List.getElem?_map, List.getElem?_append_left (by simp; omega), List.getElem?_take, if_pos h3]
        have := congrArg (fun q => q[j]?) hl
        simp only [List.getElem?_take, if_pos h3, List.getElem?_map] at this
        exact this
  · rw [if_neg hj, List.getElem?_map, List.getElem?_eq_none (by simp; omega)]
    rfl
theorem ins_len {xs : List Nat} {at_ n : Nat} (i : Nat) (hn : xs.length = n) (hat : at_ ≤ n) : ((xs.take at_ ++ i :: xs.drop at_).map iv).length = (n + 1) * 1 := by simp; omega

set_option maxRecDepth 10000 in
theorem insert_own (xs : List Nat) (i at_ n vb : Nat) (v : Value) (g : Option Nat) (w : World) (h : Own w 3 1 v n (xs.map iv) g) (hat : at_ ≤ n) (hn : n ≤ 16384) (hvb : Row w vb 3 [iv i]) (hg : g ≠ some vb) :
    Calls Try.prog 38 #[v, .int .i64 (at_ : Int), .slice (some ⟨vb, 0, none⟩) 1 1] w (InsP w g n (xs.take at_ ++ i :: xs.drop at_)) := by
  have hlen : xs.length = n := by have := h.len; rw [List.length_map, Nat.mul_one] at this; exact this
  have hvs : ∀ (j : Nat) v, [iv i][j]? = some v → w.cell? ⟨vb, 0 + j, none⟩ = some v := fun j u hu => by rw [hvb.cell, Nat.zero_add]; exact hu
  have h1v : ∀ u ∈ [iv i], u.oneCell' = true := fun u hu => by rw [List.mem_singleton.1 hu]; rfl
  have hi1 := ins_len i hlen hat
  -- without room at the end
  have hgrow : ∀ (A : Option Addr) (c : Nat), at_ = n → v = .slice A n c → n ≤ c → c < n + 1 → (A = none → n = 0) → (∀ a, A = some a → ∀ (j : Nat) u, (xs.map iv)[j]? = some u → w.cell? (a.add j) = some u) →
      Calls Try.prog 38 #[v, .int .i64 (at_ : Int), .slice (some ⟨vb, 0, none⟩) 1 1] w (InsP w g n (xs.take at_ ++ i :: xs.drop at_)) := by
    rintro A c rfl rfl hc1 hc2 hA hcs
    refine (Any2.slices_Insert_int_end_grow insertL A at_ c vb 0 1 1 (xs.map iv) [iv i] w (by omega) hc1 hc2 (by omega) (by rw [List.length_map, hlen]) rfl hA hcs hvs h1v).mono ?_
    rintro e w' ⟨rfl, rfl⟩
    have hcap := grownCap_ge w (at_ + 1) c 3
    refine ⟨_, some w.heap.size, rfl, .inr ⟨w.heap.size, grownCap w (at_ + 1) c 3, _, rfl, rfl, World.alloc_heap_new w.drew _, hcap, grownCap_le_maxLen _ _ _ _ (by unfold maxLen; omega), ?_, hi1, ?_⟩, .inr rfl, ((Keep.refl w).drewN 1).alloc _⟩
    · simp [Builtin.zeroCells, Value.cells, hlen]
      exact Nat.add_sub_cancel' hcap
    · simp only [Nat.mul_one]
      rw [List.take_of_length_le (l := xs) (by omega), List.drop_of_length_le (l := xs) (by omega)]
      have ht : ∀ Z : List Value, (xs.map iv ++ iv i :: Z).take (at_ + 1) = xs.map iv ++ [iv i] := fun Z => by rw [show xs.map iv ++ iv i :: Z = (xs.map iv ++ [iv i]) ++ Z by simp, List.take_left' (by simp [hlen])]
      simpa using ht _
  rcases h with ⟨rfl, rfl, he, A, rfl⟩ | ⟨b, cap, cur, rfl, rfl, h3, h4, h5, h6, h7, h8⟩
  · obtain rfl : xs = [] := List.eq_nil_of_length_eq_zero hlen
    exact hgrow A 0 (by omega) rfl (Nat.le_refl _) (by omega) (fun _ => rfl) (fun _ _ j u hu => by simp at hu)
  · have hbv : vb ≠ b := fun e => hg (by rw [e])
    have hrow : Row w b 3 cur.toList := by unfold Row; rw [Array.toArray_toList]; exact h3
    have hcl : cur.toList.length = cap := by simpa using h6
    have hcs : ∀ (j : Nat) u, (xs.map iv)[j]? = some u → w.cell? ⟨b, 0 + j, none⟩ = some u := fun j u hu => by
      have hj : j < n := by have := (List.getElem?_eq_some_iff.1 hu).1; rw [List.length_map] at this; omega
      rw [hrow.cell, Nat.zero_add]
      rw [← h8, List.getElem?_take, if_pos (by omega)] at hu
      exact hu
    rcases Nat.lt_or_ge n cap with hr | hr
    · rcases Nat.eq_or_lt_of_le hat with rfl | hlt
      · refine (Any2.slices_Insert_int_end_room insertL b 0 at_ cap vb 0 1 1 [iv i] w (by omega) (by omega) (by unfold maxLen at h5; omega) rfl (fun j hj => ?_) (fun j _ => hrow.frozen _) hvs h1v).mono ?_
        · rw [hrow.cell, List.getElem?_eq_getElem (by omega)]
          rfl
        rintro e w' ⟨rfl, rfl⟩
        have ho := ins_over (l := cur.toList) (xs := xs) (at_ := at_) i (by rw [← h8, Nat.mul_one]) hlen (Nat.le_refl _) (by omega)
        rw [List.drop_of_length_le (l := xs.map iv) (by rw [List.length_map]; omega)] at ho
        refine ⟨_, some b, rfl, .inr ⟨b, cap, _, rfl, rfl, row_setCells hrow [iv i] (0 + at_), by omega, h5, ?_, hi1, ?_⟩, .inl rfl, setCells_keep (F := fun k => some b = some k) rfl _ _ _ (Keep.refl w)⟩
        · rw [List.size_toArray, over_len, hcl, Nat.mul_one]
        · rw [Nat.mul_one]
          exact ho
      · refine (Any2.slices_Insert_int_shift insertL b 0 n cap at_ vb 0 1 1 (xs.map iv) [iv i] w hlt (by omega) (by omega) (by unfold maxLen at h5; omega) hbv (by rw [List.length_map, hlen]) rfl hcs (fun j hj => ?_) (fun j _ => hrow.frozen _) hvs (iv_one xs) h1v
          3 3 1 cap ?_ ?_ (by omega) (hvb.frozen _) (hvb.frozen _)).mono ?_
        · rw [hrow.cell, List.getElem?_eq_getElem (by omega)]
          rfl
        · unfold World.shape?
          rw [show w.heap[vb]? = _ from hvb]
          rfl
        · unfold World.shape?
          rw [h3]
          simp only []
          rw [h6, Nat.mul_one]
        rintro e w' ⟨rfl, rfl⟩
        have ho := ins_over (l := cur.toList) (xs := xs) (at_ := at_) i (by rw [← h8, Nat.mul_one]) hlen hat (by omega)
        refine ⟨_, some b, rfl, .inr ⟨b, cap, _, rfl, rfl, row_setCells (row_setCells (w := w.drew) hrow _ _) [iv i] (0 + at_), by omega, h5, ?_, hi1, ?_⟩, .inl rfl, setCells_keep (F := fun k => some b = some k) rfl _ _ _ (setCells_keep (F := fun k => some b = some k) rfl _ _ _ ((Keep.refl w).drewN 1))⟩
        · rw [List.size_toArray, over_len, over_len, hcl, Nat.mul_one]
        · rw [Nat.mul_one]
          exact ho
    · rcases Nat.eq_or_lt_of_le hat with hat' | hlt
      · exact hgrow (some ⟨b, 0, none⟩) cap hat' rfl h4 (by omega) (fun h => by cases h) (fun a ha j u hu => by
          injection ha with ha
          rw [← ha, add_plain]
          exact hcs j u hu)
      · refine (Any2.slices_Insert_int_grow insertL b 0 n cap at_ vb 0 1 1 (xs.map iv) [iv i] w hlt (by omega) h4 (by omega) (by omega) (by rw [List.length_map, hlen]) rfl hcs hvs (iv_one xs) h1v).mono ?_
        rintro e w' ⟨rfl, rfl⟩
        have hcap : n + 1 ≤ grownCap w (n + 1) cap 3 := grownCap_ge w (n + 1) cap 3
        have hGm := grownCap_le_maxLen w (n + 1) cap 3 (by unfold maxLen; omega)
        obtain ⟨ROW, hROW⟩ : ∃ ROW : List Value, ROW = (((xs.map iv).take at_).toArray ++ Builtin.zeroCells (Value.int .i64 0).cells (n + 1 - at_) ++ Builtin.zeroCells (Value.int .i64 0).cells (grownCap w (n + 1) cap 3 - (n + 1))).toList := ⟨_, rfl⟩
        have hRl : ROW.length = grownCap w (n + 1) cap 3 := by
          rw [hROW]
          simp [Builtin.zeroCells, Value.cells, hlen]
          omega
        have hRt : ROW.take at_ = (xs.map iv).take at_ := by
          rw [hROW, Array.toList_append, Array.toList_append, List.append_assoc, List.take_append_of_le_length (by simp; omega)]
          simp only [List.take_take, Nat.min_self]
        have hnew : Row (w.alloc (.cells ROW.toArray 3)) w.heap.size 3 ROW := Row.new _ _ _
        have hw1 : Row (((w.alloc (.cells ROW.toArray 3)).drew.setCells w.heap.size at_ [iv i]).drew) w.heap.size 3 (over ROW at_ [iv i]) := row_setCells (w := (w.alloc (.cells ROW.toArray 3)).drew) hnew [iv i] at_
        have hw2 := row_setCells hw1 ((xs.map iv).drop at_) (at_ + 1)
        have ho := ins_over2 (l := ROW) (xs := xs) (at_ := at_) i hRt hlen hat (by omega)
        have hK : Keep (fun k => some b = some k) w ((((w.alloc (.cells ROW.toArray 3)).drew.setCells w.heap.size at_ [iv i]).drew).setCells w.heap.size (at_ + 1) ((xs.map iv).drop at_)) := by
          have k1 : ∀ (vs : List Value) (o : Nat) (V : World), Keep (fun k => some b = some k) w V → Keep (fun k => some b = some k) w (V.setCells w.heap.size o vs) := by
            intro vs
            induction vs with
            | nil => intro o V hV; exact hV
            | cons v r ih => intro o V hV; exact ih _ _ (hV.set _ (.inr (Nat.le_refl _)))
          exact k1 _ _ _ ((k1 _ _ _ (((Keep.refl w).alloc _).drewN 1)).drewN 1)
        have hfin : InsP w (some b) n (xs.take at_ ++ i :: xs.drop at_) (.returned (.slice (some ⟨w.heap.size, 0, none⟩) (n + 1) (grownCap w (n + 1) cap 3))) ((((w.alloc (.cells ROW.toArray 3)).drew.setCells w.heap.size at_ [iv i]).drew).setCells w.heap.size (at_ + 1) ((xs.map iv).drop at_)) := by
          refine ⟨_, some w.heap.size, rfl, .inr ⟨w.heap.size, grownCap w (n + 1) cap 3, _, rfl, rfl, hw2, hcap, hGm, ?_, hi1, ?_⟩, .inr rfl, hK⟩
          · rw [List.size_toArray, over_len, over_len, hRl, Nat.mul_one]
          · rw [Nat.mul_one]
            exact ho
        rw [hROW, Array.toArray_toList] at hfin
        exact hfin
end Go.Proofs.Ytnbehncbjbkjpaa
