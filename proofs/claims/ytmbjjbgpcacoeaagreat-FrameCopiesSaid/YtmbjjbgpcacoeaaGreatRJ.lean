import Derived.Test.YtmbjjbgpcacoeaaGreatRI
namespace Go.Proofs.YtmbjjbgpcacoeaaGreat
open Go.RowKit Go.Shelf Go.Maps Go.Sort

/- THE DOCUMENT's ROWS. -/
def rowAt (l : List (Option Nat)) (i : Nat) : List (Nat × Nat) := match (l[i]?).getD none with | some o => [(i, o)] | none => []
def rowsTo (l : List (Option Nat)) : Nat → List (Nat × Nat)
  | 0 => []
  | i + 1 => rowsTo l i ++ rowAt l i
theorem idx_snoc : ∀ (s : Nat) (l : List (Option Nat)) (x : Option Nat), idxF s (l ++ [x]) = idxF s l ++ (match x with | some _ => [s + l.length] | none => [])
  | s, [], none => rfl
  | s, [], some o => rfl
  | s, none :: r, x => by
    show idxF (s + 1) (r ++ [x]) = idxF (s + 1) r ++ _
    rw [idx_snoc (s + 1) r x, List.length_cons, show s + 1 + r.length = s + (r.length + 1) by omega]
  | s, some o :: r, x => by
    show s :: idxF (s + 1) (r ++ [x]) = (s :: idxF (s + 1) r) ++ _
    rw [idx_snoc (s + 1) r x, List.length_cons, show s + 1 + r.length = s + (r.length + 1) by omega]
    rfl
theorem rowsTo_eq (l : List (Option Nat)) : ∀ i, i ≤ l.length → rowsTo l i = (idxF 0 (l.take i)).map fun j : Nat => (j, ownN l (j : Int))
  | 0, _ => rfl
  | i + 1, h => by
    have hi : i < l.length := by omega
    rw [rowsTo, rowsTo_eq l i (by omega), List.take_succ_eq_append_getElem hi, idx_snoc, List.map_append]
    congr 1
    have e : (l[i]?).getD none = l[i] := by rw [List.getElem?_eq_getElem hi]; rfl
    have e2 : ownAt l (i : Int) = l[i] := by
      unfold ownAt
      rw [if_neg (by omega), Int.toNat_natCast, e]
    unfold rowAt
    rw [e]
    cases hx : l[i] with
    | none => rfl
    | some o =>
      have e3 : ownN l ((0 + (l.take i).length : Nat) : Int) = o := by
        rw [Nat.zero_add, List.length_take, Nat.min_eq_left (by omega)]
        unfold ownN
        rw [e2, hx]
        rfl
      simp only [List.map_cons, List.map_nil]
      rw [e3, Nat.zero_add, List.length_take, Nat.min_eq_left (by omega)]
theorem rowsTo_all (l : List (Option Nat)) : rowsTo l l.length = rowsN l := by
  rw [rowsTo_eq l _ (Nat.le_refl _), List.take_length]
  rfl
theorem rowsTo_len (l : List (Option Nat)) : ∀ i, (rowsTo l i).length ≤ i
  | 0 => Nat.le_refl _
  | i + 1 => by
    have h1 := rowsTo_len l i
    have h2 : (rowAt l i).length ≤ 1 := by
      unfold rowAt
      split <;> simp
    rw [rowsTo, List.length_append]
    omega
def RowsI (w1 : World) (l : List (Option Nat)) (s3 s4 : Value) (wr : World) : Prop :=
  ∃ (i : Nat) (A : Option Addr) (c : Nat) (gg : Option Nat), i ≤ l.length ∧ s4 = .int .i64 (i : Int) ∧ s3 = .slice A (rowsTo l i).length c ∧ Own wr 51 2 (.slice A (rowsTo l i).length c) (rowsTo l i).length ((rowsTo l i).flatMap encR) gg ∧ Below w1.heap.size w1 wr ∧ ∀ b, gg = some b → w1.heap.size ≤ b
theorem rowsI_step {w1 wr w4 : World} {l : List (Option Nat)} {i o m : Nat} {A' : Option Addr} {c' : Nat} {gg g' : Option Nat} (hi : i < l.length) (hx : l[i] = some o) (hm : m = (rowsTo l i).length) (hb : Below w1.heap.size w1 wr) (hg : ∀ b, gg = some b → w1.heap.size ≤ b) (ob : Obj)
    (ho : Own w4 51 2 (.slice A' (m + 1) c') (m + 1) ((rowsTo l i).flatMap encR ++ encR (i, o)) g') (hgr : (wr.alloc ob).grownBy w4 gg) (hgg : g' = gg ∨ g' = some (wr.alloc ob).heap.size) : RowsI w1 l (.slice A' (m + 1) c') (.int .i64 ((i : Int) + 1)) w4 := by
  have e : rowsTo l (i + 1) = rowsTo l i ++ [(i, o)] := by
    rw [rowsTo]
    unfold rowAt
    rw [List.getElem?_eq_getElem hi, hx]
    rfl
  have el : (rowsTo l (i + 1)).length = m + 1 := by rw [e, List.length_append, hm]; rfl
  refine ⟨i + 1, A', c', g', by omega, by go_num, by rw [el], ?_, (hb.alloc hb.size ob).grown hgr (by rw [World.size_alloc]; have := hb.size; omega) hg, fun b hb2 => ?_⟩
  · rw [el, e, List.flatMap_append]
    simpa using ho
  · rcases hgg with h | h
    · exact hg b (h ▸ hb2)
    · rw [h] at hb2
      injection hb2 with hb2
      rw [World.size_alloc] at hb2
      have := hb.size
      omega
theorem rowsI_same {w1 wr : World} {l : List (Option Nat)} {i m : Nat} {A : Option Addr} {c : Nat} {gg : Option Nat} (hi : i < l.length) (hx : l[i] = none) (hm : m = (rowsTo l i).length) (hb : Below w1.heap.size w1 wr) (hg : ∀ b, gg = some b → w1.heap.size ≤ b) (ho : Own wr 51 2 (.slice A m c) m ((rowsTo l i).flatMap encR) gg) : RowsI w1 l (.slice A m c) (.int .i64 ((i : Int) + 1)) wr := by
  have e : rowsTo l (i + 1) = rowsTo l i := by
    rw [rowsTo]
    unfold rowAt
    rw [List.getElem?_eq_getElem hi, hx]
    simp
  subst hm
  exact ⟨i + 1, A, c, gg, by omega, by go_num, by rw [e], by rw [e]; exact ho, hb, hg⟩
set_option maxRecDepth 100000 in
set_option maxHeartbeats 1000000 in
theorem rrows_cap (p : Pl) (A : Option Addr) (n c : Nat) (w : World) (hl : p.fr.length = n) (hok : p.ok) (hA : Lies w A p.fr) :
    Calls Tryz.prog 17 #[rv p A n c] w fun e w' => ∃ A' c', e = .returned (.slice A' (rowsN (owns p.fr)).length c') ∧ (rowsN (owns p.fr)).length ≤ c' ∧ Sees w' w'.heap.size A' ((rowsN (owns p.fr)).flatMap encR) ∧ Below w.heap.size w w' := by
  obtain ⟨i0, hi0, hz0, hz1, hz2⟩ := info_parts row_info
  obtain ⟨cs, hcs⟩ : ∃ cs, cs = rc p A n c := ⟨_, rfl⟩
  obtain ⟨w1, hw1⟩ : ∃ w1, w1 = w.alloc (.cells cs.toArray 36) := ⟨_, rfl⟩
  have hb1 : Below w.heap.size w w1 := hw1 ▸ below1 w _
  have hbx : Box w1 w.heap.size p A n c := by rw [hw1, hcs]; exact Box.new w p A n c
  have hll : (owns p.fr).length = n := by rw [owns_len, hl]
  have HST : Hid (RowsI w1 (owns p.fr) (.slice none 0 0) (.int .i64 0) (w.alloc (.cells cs.toArray 36))) := Lib.hid ⟨0, none, 0, none, Nat.zero_le _, rfl, rfl, Own.nil _ _ _, hw1 ▸ Below.refl _ _, fun b e => by cases e⟩
  have HL := Lib.hid hl
  have HLL := Lib.hid hll
  have HA := Lib.hid (hA.below hb1)
  have HBX := Lib.hid hbx
  have HN := Lib.hid (hl ▸ hok.most : n ≤ 16384)
  have HB1 := Lib.hid hb1
  have HOF : Hid (∀ i (hi : i < p.fr.length), (owns p.fr)[i]'(by rw [owns_len]; exact hi) = ownO p.fr[i]) := Lib.hid (fun i hi => by simp [owns])
  rw [show rv p A n c = .agg cs.toArray by rw [hcs]; rfl]
  clear hcs hw1 hb1 hbx hll hl hok hA
  go_enter Tryz.func17, Tryz.ntmps17
  go_wp2_with fail
  go_loopw [3, 4] (fun s3 s4 wr => RowsI w1 (owns p.fr) s3 s4 wr) (fun _ s4 _ => n - (_root_.Go.RowKit.intOf s4).toNat)
  case atStart => exact HST.out
  case round =>
    obtain ⟨i, A1, c1, gg, hi, rfl, rfl, ho, hb, hg⟩ := hrel
    have hN := HN.out
    rw [HLL.out] at hi
    have hx0 := (HBX.out.below hb).c0
    have hm0 := rowsTo_len (owns p.fr) i
    obtain ⟨m, hm⟩ : ∃ m, m = (rowsTo (owns p.fr) i).length := ⟨_, rfl⟩
    rw [← hm] at ho hm0 ⊢
    by_cases hlt : i < n
    · have hil : i < p.fr.length := by rw [HL.out]; exact hlt
      have hil2 : i < (owns p.fr).length := by rw [HLL.out]; exact hlt
      have hof := HOF.out i hil
      obtain ⟨ad, rfl, k1, _⟩ := (HA.out.below hb).at_ i hil
      have j0 : (0 : Int) ≤ (i : Int) := by omega
      have j1 : (i : Int) < (n : Int) := by omega
      have j2 : decide ((i : Int) < (n : Int)) = true := decide_eq_true j1
      have j3 : decide (i < n) = true := decide_eq_true hlt
      have i3 : i < 16384 := by omega
      cases hx : p.fr[i] with
      | none =>
        rw [hx] at k1 hof
        have k1' : wr.cell? (ad.add (i * 2)) = some (.int .i64 (-1)) := k1
        have HNI := Lib.hid (rowsI_same hil2 hof hm hb hg ho)
        have e1 : decide ((0 : Int) ≤ -1) = false := by decide
        clear k1 hof hx hm hb hg ho hN
        go_wp2
        go_roundw
        case rel => exact HNI.out
        case measure => simp [_root_.Go.RowKit.intOf]; omega
      | some y =>
        obtain ⟨o, bs⟩ := y
        rw [hx] at k1 hof
        have k1' : wr.cell? (ad.add (i * 2)) = some (.int .i64 (o : Int)) := k1
        have e1 : decide ((0 : Int) ≤ (o : Int)) = true := decide_eq_true (by omega)
        have ho' : Own (wr.alloc (.cells #[.int .i64 (i : Int), .int .i64 (o : Int)] 51)) 51 2 (.slice A1 m c1) m _ gg := ho.keep fun b e => Below.heap_alloc _ _ _ (ho.lt b e)
        obtain ⟨v', w4, g', hrun, ho4, hgr, hgg, _⟩ := ho'.append 49 49 i0 _ 16 Tryz.underlying49 hi0 hz0 hz1 hz2 rfl (by decide) ⟨wr.heap.size, 0, none⟩ 1 [.int .i64 (i : Int), .int .i64 (o : Int)] rfl (cells_two_new wr _ _ _) (by intro u hu; simp at hu; rcases hu with rfl | rfl <;> rfl) (by unfold maxLen; omega) (by omega)
        obtain ⟨A', c', rfl, _⟩ := ho4.form
        have HNI := Lib.hid (rowsI_step hil2 hof hm hb hg _ ho4 hgr hgg)
        clear k1 hof hx hm hb hg ho ho' ho4 hgr hgg hN
        go_wp2_with (at_builtin; refine wpList_append_eq _ rfl (.tmp 19) (.tmp 28) 49 49 rfl (Value.slice A1 m c1) (Value.slice (some (⟨wr.heap.size, 0, none⟩ : Addr)) 1 1) rfl rfl _ _ hrun ?_)
        go_roundw
        case rel => exact HNI.out
        case measure => simp [_root_.Go.RowKit.intOf]; omega
    · obtain rfl : i = n := by omega
      have he : rowsTo (owns p.fr) i = rowsN (owns p.fr) := by rw [← HLL.out]; exact rowsTo_all _
      rw [he] at ho hm
      have hcap : m ≤ c1 := by
        obtain ⟨A9, c9, e9, h9, _⟩ := ho.form
        injection e9 with _ _ e9
        subst e9
        exact h9
      have HF := Lib.hid (show m ≤ c1 ∧ Sees wr wr.heap.size A1 ((rowsN (owns p.fr)).flatMap encR) ∧ Below w.heap.size w wr from ⟨hcap, (own_sees ho).1, below0 HB1.out hb⟩)
      have HM := Lib.hid hm
      clear he ho hm hb hg hN hcap
      go_wp2
      go_ret
      exact ⟨A1, c1, by rw [← HM.out]; rfl, by rw [← HM.out]; exact HF.out.1, HF.out.2⟩
theorem rrows_any (p : Pl) (A : Option Addr) (n c : Nat) (w : World) (hl : p.fr.length = n) (hok : p.ok) (hA : Lies w A p.fr) :
    Calls Tryz.prog 17 #[rv p A n c] w fun e w' => ∃ A' c', e = .returned (.slice A' (rowsN (owns p.fr)).length c') ∧ Sees w' w'.heap.size A' ((rowsN (owns p.fr)).flatMap encR) ∧ Below w.heap.size w w' :=
  (rrows_cap p A n c w hl hok hA).mono fun _ _ ⟨A', c', h1, _, h3⟩ => ⟨A', c', h1, h3⟩
end Go.Proofs.YtmbjjbgpcacoeaaGreat
