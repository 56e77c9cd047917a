import Derived.Test.YtnbehncbjbkjpaaVals
import Derived.Test.YtnbehncbjbkjpaaRangeBox
namespace Go.Proofs.Ytnbehncbjbkjpaa
open Go.RowKit Go.Shelf Go.Maps Go.Sort
attribute [local go_sem] Oper.semAt_some

/- HOW MANY FRAMES AN OWNER HAS. -/

theorem Keep.grown {F : Nat → Prop} {w V V' : World} {row : Option Nat} (h : Keep F w V) (hg : V.grownBy V' row) (hr : ∀ r, row = some r → w.heap.size ≤ r ∨ F r) : Keep F w V' :=
  ⟨hg.os.trans h.os, hg.tape.trans h.tape, hg.output.trans h.output, Nat.le_trans h.size hg.size, fun k hk hf => (hg.block k (Nat.lt_of_lt_of_le hk h.size) (fun e => by
    rcases hr k e.symm with h1 | h1
    · omega
    · exact hf h1)).trans (h.block k hk hf)⟩

theorem values_any (m : Option Nat) (w : World) : Calls Try.prog 43 #[.map m] w fun e w' =>
    e = .returned (.func (.func 53) #[] #[.pointer (some ⟨w.heap.size, 0, none⟩)]) ∧ w.alloc (.cells #[.map m] 35) = w' := by
  go_enter Try.func43, Try.ntmps43
  go_wp2
  go_ret
  exact ⟨rfl, rfl⟩
theorem has1_any (x : Int) (t k : Nat) (w : World) (hc : w.cell? ⟨t, 0, none⟩ = some (.int .i64 (k : Int))) : Calls Try.prog 44 #[.int .i64 x, .pointer (some ⟨t, 0, none⟩)] w fun e w' => e = .returned (.bool (x == (k : Int))) ∧ w = w' := by
  have h1 : (x == (k : Int)) = decide (x = (k : Int)) := rfl
  rw [h1]
  go_enter Try.func44, Try.ntmps44
  go_wp2
  go_ret
  exact ⟨by simp, rfl⟩

section
variable (w : World) (t k : Nat)
/-- what holds between two of the owners -/
def cI (pre : List Int) (_ : Nat → Prop) (V : World) : Prop :=
  Boxed V w.heap.size 32 (.func (.func 44) #[] #[.pointer (some ⟨t, 0, none⟩)]) ∧ Boxed V (w.heap.size + 1) 3 (.int .i64 (pre.countP (fun x => x == (k : Int)) : Nat)) ∧ Below w.heap.size w V
end
theorem cI.abid {w : World} {t k B : Nat} (hB : w.heap.size + 2 ≤ B) : Abid B (cI w t k) := by
  rintro s O V V' row ⟨h1, h2, h3⟩ hg hr
  have hne : ∀ k, k < B → some k ≠ row := fun k hk e => by have := (hr k e.symm).1; omega
  exact ⟨h1.kept hg (hne _ (by omega)), h2.kept hg (hne _ (by omega)), h3.grown hg h3.size (fun r e => by have := (hr r e).1; omega)⟩

set_option maxHeartbeats 2000000 in
theorem counted_any (l : List (Option Nat)) (g bm nn t k : Nat) (w : World) (hl : l.length ≤ 16384) (hc : w.cell? ⟨g, 0, none⟩ = some (.map (some bm))) (hown : w.ownsMap Try.prog 3 (plainElem Try.prog 3) bm nn (mapD l)) (hk : w.cell? ⟨t, 0, none⟩ = some (.int .i64 (k : Int))) :
    Calls Try.prog 42 #[.func (.func 53) #[] #[.pointer (some ⟨g, 0, none⟩)], .func (.func 44) #[] #[.pointer (some ⟨t, 0, none⟩)]] w fun e w' =>
      e = .returned (.int .i64 (l.countP (fun x => x == some k) : Nat)) ∧ Below w.heap.size w w' := by
  have hgl := lt_of_cell hc
  have htl := lt_of_cell hk
  simp only at hgl htl
  have hbl := hown.lt
  have HL := Lib.hid hl
  refine calls_marks Try.func42 rfl ?_
  simp only [Try.ntmps42, List.size_toArray, List.length_cons, List.length_nil, Nat.reduceAdd, Nat.reduceSub, Array.replicate_succ, Array.replicate_zero, List.push_toArray, List.append_toArray, List.nil_append, List.cons_append]
  go_wp2_with fail
  obtain ⟨w2, hw2⟩ : ∃ w2, w2 = (w.alloc (Obj.cells #[Value.func (Fn.func 44) #[] #[Value.pointer (some ⟨t, 0, none⟩)]] 32)).alloc (Obj.cells #[Value.int IntKind.i64 0] 3) := ⟨_, rfl⟩
  have hs2 : w2.heap.size = w.heap.size + 2 := by rw [hw2]; simp
  have hB2 : Below w.heap.size w w2 := by rw [hw2]; exact below2 _ _ _
  have hX1 : Boxed w2 w.heap.size 32 (.func (.func 44) #[] #[.pointer (some ⟨t, 0, none⟩)]) := by rw [hw2]; exact (Boxed.new w _ _).alloc _
  have hX2 : Boxed w2 (w.heap.size + 1) 3 (.int .i64 0) := by
    have h := Boxed.new (w.alloc (Obj.cells #[Value.func (Fn.func 44) #[] #[Value.pointer (some ⟨t, 0, none⟩)]] 32)) 3 (.int .i64 0)
    rw [World.size_alloc] at h
    rw [hw2]
    exact h
  have hit := vals1_it l g bm nn w2 ((hB2.cell (p := ⟨g, 0, none⟩) hgl).trans hc) (owns_same hown (hB2.block _ hbl))
  have hk2 : Hid (∀ V, Below w.heap.size w V → V.cell? ⟨t, 0, none⟩ = some (.int .i64 (k : Int))) := Lib.hid fun V hb => (hb.cell (p := ⟨t, 0, none⟩) htl).trans hk
  rw [← hw2]
  clear hw2 hc hown hk hl
  refine wpIn_wide.1 (wpIn_range_it (gf := 53) (lb := #[.pointer (some ⟨g, 0, none⟩)]) rfl (enters_of Try.func53 (by kernel_rfl) rfl) hit (fun k hk => by rcases hk with rfl | rfl <;> omega) (fun _ => rfl) (fun _ _ _ _ _ h => h)
    (cI w t k) (fun _ _ _ _ => False) (cI.abid (by omega)) (fun _ _ _ _ _ _ h _ _ => h) ⟨hX1, hX2, hB2⟩
    (fun x => { tmps := #[.func (.func 53) #[] #[.pointer (some ⟨g, 0, none⟩)], .func (.func 44) #[] #[.pointer (some ⟨t, 0, none⟩)], undef, .pointer (some ⟨w.heap.size, 0, none⟩), .int .i64 0, .pointer (some ⟨w.heap.size + 1, 0, none⟩), .int .i64 x, .func (.func 53) #[] #[.pointer (some ⟨g, 0, none⟩)], .int .i64 x, undef, undef, undef, undef, undef, undef], defers := [] }) ?assign ?body ?done ?stop)
  case assign =>
    intro l' x W' K hK
    simp only []
    gi_wp2
    exact hK
  case body =>
    rintro l' pre x O V hVs hO ⟨hx1, hx2, hbl3⟩ hpr _
    have hh := Lib.hid (fun V hb => has1_any x t k V (hk2.out V hb))
    have e1 := hx1.cell
    obtain ⟨q, hq⟩ : ∃ q, (x == (k : Int)) = q := ⟨_, rfl⟩
    rw [hq] at hh
    have hn : (pre ++ [x]).countP (fun x => x == (k : Int)) = pre.countP (fun x => x == (k : Int)) + (if q = true then 1 else 0) := by
      rw [List.countP_append, List.countP_singleton, hq]
    have HN := Lib.hid hn
    obtain ⟨n, hn0⟩ : ∃ n, n = pre.countP (fun x => x == (k : Int)) := ⟨_, rfl⟩
    rw [← hn0] at hx2 HN
    clear hn hit hX1 hX2
    have hnb : n < 16384 := by
      have h1 : n ≤ pre.length := by rw [hn0]; exact List.countP_le_length
      have h2 : l.countP Option.isSome ≤ l.length := List.countP_le_length
      have := HL.out
      omega
    have hwr : IntKind.i64.wrap ((n : Int) + 1) = ((n + 1 : Nat) : Int) := by rw [wrapI _ (by omega) (by omega)]; rfl
    clear hn0 hpr hq
    cases q
    · gi_wp2_with fail
      refine ⟨trivial, rfl, CallsIn.inRound l' ((callsIn_wide.2 (hh.out _ hbl3)).mono ?_)⟩
      rintro e w1 ⟨rfl, rfl⟩
      have hfin := Lib.hid (show Keeps (fun k => k = g ∨ k = bm) w2.heap.size O (fun _ => False) V V ∧ cI w t k (pre ++ [x]) (nextO O (fun _ => False) V V) V from
        ⟨Keeps.refl _, hx1, by rw [HN.out]; exact hx2, hbl3⟩)
      gi_wp2
      exact hfin.out
    · gi_wp2_with fail
      refine ⟨trivial, rfl, CallsIn.inRound l' ((callsIn_wide.2 (hh.out _ hbl3)).mono ?_)⟩
      rintro e w1 ⟨rfl, rfl⟩
      have i0 := hx2.cell
      have i1 := hx2.frozen
      obtain ⟨W', hW'⟩ : ∃ W', W' = V.setCell ⟨w.heap.size + 1, 0, none⟩ (.int .i64 ((n + 1 : Nat) : Int)) := ⟨_, rfl⟩
      have hfin := Lib.hid (show Keeps (fun k => k = g ∨ k = bm) w2.heap.size O (fun _ => False) V W' ∧ cI w t k (pre ++ [x]) (nextO O (fun _ => False) V W') W' from by
        have hws : W'.heap.size = V.heap.size := by rw [hW']; simp [World.setCell]
        have hoth : ∀ k, k ≠ w.heap.size + 1 → W'.heap[k]? = V.heap[k]? := fun k h1 => by rw [hW', heap_set h1]
        refine ⟨⟨by omega, fun k _ hp => hoth k ?_⟩, (hoth _ (by omega)).trans hx1, ?_, by rw [hW']; exact hbl3.setCell (by simp) _⟩
        · rcases hp with (rfl | rfl) | ⟨h, _⟩ <;> omega
        · rw [HN.out]
          show Boxed W' (w.heap.size + 1) 3 (.int .i64 ((n + 1 : Nat) : Int))
          rw [hW']
          exact hx2.set _)
      rw [hW'] at hfin
      clear hW'
      gi_wp2
      exact hfin.out
  case done =>
    rintro xs O V hall ⟨hx1, hx2, hbl3⟩ hD
    rw [hall k] at hx2
    have j0 := hx2.cell
    have hfin := Lib.hid (show Below w.heap.size w (V.putObj w2.heap.size (.deferred none)) from hbl3.grown (putObj_grown V _ _) hbl3.size (fun r e => by cases e; omega))
    clear hit hX1 hX2 hx1 hx2 hbl3
    go_wp2
    refine ⟨by simp, .inl ⟨_, _, rfl, run_takeDeferred hD, ?_⟩⟩
    exact ⟨_, results_tmp (t := 4) rfl _ _ _, rfl, hfin.out⟩
  case stop =>
    rintro c' pre' O V hall h hD
    exact h.elim

theorem isO_own (k : Nat) (x : Fr) : (ownO x == some k) = isO k x := by
  cases x with
  | none => rfl
  | some p => simp [ownO, isO]
theorem owns_taken (fr : List Fr) (k : Nat) : (owns fr).countP (fun x => x == some k) = taken fr k := by
  unfold owns taken
  rw [List.countP_map]
  exact List.countP_congr fun x _ => by simp [isO_own]

theorem has_map (b bm nn o : Nat) (fr : List Fr) (w : World) (hl : fr.length ≤ 16384) (hc : w.cell? ⟨b, 1, none⟩ = some (.map (some bm))) (hown : w.ownsMap Try.prog 3 (plainElem Try.prog 3) bm nn (mapD (owns fr))) :
    Calls Try.prog 23 #[.pointer (some ⟨b, 0, none⟩), .int .i64 (o : Int)] w fun e w' => e = .returned (.int .i64 (taken fr o : Int)) ∧ Below w.heap.size w w' := by
  have hbl := lt_of_cell hc
  simp only at hbl
  have hml := hown.lt
  have h1 := Lib.hid (fun m w => values_any m w)
  have h2 := Lib.hid (fun V (hb : Below w.heap.size w V) (g t : Nat) h h2 => counted_any (owns fr) g bm nn t o V (by rw [owns_len]; exact hl) h (owns_same hown (hb.block _ hml)) h2)
  rw [owns_taken] at h2
  have hc2 : ∀ ob, (w.alloc ob).cell? ⟨b, 1, none⟩ = some (.map (some bm)) := fun ob => (World.cell?_alloc_lt _ _ _ hbl).trans hc
  obtain ⟨n, hn⟩ : ∃ n, n = taken fr o := ⟨_, rfl⟩
  rw [← hn] at h2 ⊢
  have hB := Lib.hid (below2 w (.cells #[.int .i64 (o : Int)] 3) (.cells #[.map (some bm)] 35))
  clear hn hown hc
  go_enter Try.func23, Try.ntmps23
  go_wp2_with fail
  refine (h1.out _ _).mono ?_
  rintro e w1 ⟨rfl, rfl⟩
  go_wp2_with fail
  refine (h2.out _ hB.out (w.heap.size + 1) w.heap.size ?_ ?_).mono ?_
  · have := Row.cell (Row.new (w.alloc (.cells #[.int .i64 (o : Int)] 3)) 35 [.map (some bm)]) 0
    rw [World.size_alloc] at this
    exact this
  · exact (World.cell?_alloc_lt _ _ _ (by simp)).trans (cell_alloc_new _ _ _ _)
  rintro e w2 ⟨rfl, hb2⟩
  have hfin := Lib.hid (show Below w.heap.size w w2 from hB.out.trans (hb2.mono (by simp; omega)))
  clear hb2 h2
  go_wp2
  go_ret
  exact ⟨rfl, hfin.out⟩
end Go.Proofs.Ytnbehncbjbkjpaa
