import Derived.Test.YtnbehncbjbkjpaaRun
namespace Go.Proofs.Ytnbehncbjbkjpaa
open Go.RowKit Go.Shelf Go.Maps Go.Sort
attribute [local go_sem] Oper.semAt_some

/- THE FRAMES THAT ARE SOMEBODY's, RISING. -/

theorem sortsT (m : Nat) : AnyZI.SortsIn Try.prog sortedL_ren Fence.wide m :=
  ⟨fun blk off cap ss W hH hblk hsz => callsIn_wide.2 (AnyM.slices_Sort_int sortL blk off cap ss W hH hblk hsz), fun p cap W => callsIn_wide.2 (AnyM.slices_Sort_int_none sortL p cap W)⟩
theorem keys_any (mb : Option Nat) (w : World) : Calls Try.prog 58 #[.map mb] w fun e w' => e = .returned (.func (.func 62) #[] #[.pointer (some ⟨w.heap.size, 0, none⟩)]) ∧ w' = w.alloc (.cells #[.map mb] 35) :=
  (callsIn_wide (n := 1)).1 (AnyZI.keys_in keysL Fence.wide 1 trivial rfl mb w)
theorem sort_eq {xs : List Nat} {ss : List Int} (hs : xs.Pairwise (· < ·)) (hp : ss.Perm (xs.map (fun n : Nat => (n : Int)))) : ss.mergeSort (fun x y => decide (x ≤ y)) = xs.map (fun n : Nat => (n : Int)) := by
  refine List.Perm.eq_of_pairwise (le := fun a b : Int => a ≤ b) (fun a b _ _ h1 h2 => Int.le_antisymm h1 h2) ?_ ?_ ((List.mergeSort_perm ss _).trans hp)
  · have := List.pairwise_mergeSort (le := fun x y : Int => decide (x ≤ y)) (by intro a b c h1 h2; simp at *; omega) (by intro a b; simp; omega) ss
    exact this.imp (fun h => by simpa using h)
  · rw [List.pairwise_map]
    exact hs.imp (fun h => by omega)
theorem sorted_any (l : List (Option Nat)) (g bm nn : Nat) (w : World) (hl : l.length ≤ 16384) (hc : w.cell? ⟨g, 0, none⟩ = some (.map (some bm))) (hown : w.ownsMap Try.prog 3 (plainElem Try.prog 3) bm nn (mapD l)) :
    Calls Try.prog 57 #[.func (.func 62) #[] #[.pointer (some ⟨g, 0, none⟩)]] w fun e w' => ∃ v, e = .returned v ∧ w'.ownsRow w.heap.size 3 1 v (idxF 0 l).length ((idxF 0 l).map iv) ∧ Below w.heap.size w w' := by
  have hsz : Maps.size (mapD l) ≤ 16384 := by rw [mapD_size]; exact Nat.le_trans List.countP_le_length hl
  refine (callsIn_wide (n := 5)).1 ?_
  have hseq : SeqGives Fence.wide 2 Try.prog 62 #[.pointer (some ⟨g, 0, none⟩)] encZ (fun ss => ss.Perm (intKeys (mapD l))) (Maps.size (mapD l)) w :=
    AnyZI.keys_gives (ρ := keysL_ren) { keysL with } Fence.wide _ trivial rfl (by omega) g bm nn (mapD l) w (lt_of_cell hc) hc hown
  refine (AnyZI.sorted_in sortedL Fence.wide 5 trivial trivial trivial trivial rfl (by omega) (sortsT _) (enters_of Try.func61 (by kernel_rfl) rfl) 62 #[.pointer (some ⟨g, 0, none⟩)] trivial (enters_of Try.func62 (by kernel_rfl) rfl) _ _ (by unfold maxLen; omega) (by omega) _ hseq).mono ?_
  rintro e w' ⟨v, ss, rfl, hp, hrow, _, hb⟩
  rw [mapD_keys] at hp
  have hlen : ss.length = (idxF 0 l).length := by have := hp.length_eq; rw [List.length_map] at this; exact this
  rw [sort_eq (idx_sorted 0 l) hp, hlen, List.map_map] at hrow
  exact ⟨v, rfl, hrow, hb⟩

/-! the rows -/
def rowsN (l : List (Option Nat)) : List (Nat × Nat) := (idxF 0 l).map fun i => (i, ownN l (i : Int))
def encP (x : Nat × Nat) : Array Value := #[.int .i64 (x.1 : Int), .int .i64 (x.2 : Int)]
def preR (l : List (Option Nat)) (pre : List (Nat × Nat)) (x : Nat × Nat) (_ : World) : Prop := ∃ post, rowsN l = pre ++ x :: post
def allR (l : List (Option Nat)) (xs : List (Nat × Nat)) : Prop := xs = rowsN l
def someR (l : List (Option Nat)) (xs : List (Nat × Nat)) : Prop := ∃ post, rowsN l = xs ++ post
theorem rowsN_len (l : List (Option Nat)) : (rowsN l).length = (idxF 0 l).length := by simp [rowsN]
theorem idx_len (l : List (Option Nat)) : (idxF 0 l).length ≤ l.length := by
  have := congrArg List.length (mapD_keys l)
  have h2 : (intKeys (mapD l)).length = Maps.size (mapD l) := by simp [intKeys, Maps.size, mapD]
  rw [List.length_map] at this
  rw [← this, h2, mapD_size]
  exact List.countP_le_length
theorem preR_at {l : List (Option Nat)} {k : Nat} (h : k < (rowsN l).length) (w : World) : preR l ((rowsN l).take k) (rowsN l)[k] w := ⟨(rowsN l).drop (k + 1), by
  rw [List.getElem_cons_drop]
  exact (List.take_append_drop k _).symm⟩
theorem someR_at {l : List (Option Nat)} {k : Nat} : someR l ((rowsN l).take k) := ⟨(rowsN l).drop k, (List.take_append_drop k _).symm⟩
theorem idx_own {l : List (Option Nat)} {i : Nat} (h : i ∈ idxF 0 l) : ∃ o, ownAt l (i : Int) = some o := by
  obtain ⟨_, o, ho⟩ := (idx_mem 0 l i).1 h
  refine ⟨o, ?_⟩
  unfold ownAt
  rw [if_neg (by omega), Int.toNat_natCast, show i = i - 0 by omega, ho]
  rfl

set_option maxHeartbeats 2000000 in
theorem rise1_it (l : List (Option Nat)) (bb pb bm nn : Nat) (w0 : World) (hl : l.length ≤ 16384) (hcb : w0.cell? ⟨bb, 0, none⟩ = some (bx pb)) (hcp : w0.cell? ⟨pb, 1, none⟩ = some (.map (some bm))) (hown : w0.ownsMap Try.prog 3 (plainElem Try.prog 3) bm nn (mapD l)) :
    It Try.prog 56 #[bx bb] encP (fun _ _ => False) (preR l) (fun k => k = bb ∨ k = pb ∨ k = bm) (allR l) (someR l) w0 := by
  intro l0 J Jx W hpW hsW hJ hJx hY h0
  refine (callsIn_wide (n := 1)).1 ?_
  have c1 : W.cell? ⟨bb, 0, none⟩ = some (bx pb) := (World.cell?_of_block (hpW bb (.inl rfl))).trans hcb
  have c2 : W.cell? ⟨pb, 1, none⟩ = some (.map (some bm)) := (World.cell?_of_block (hpW pb (.inr (.inl rfl)))).trans hcp
  have hown1 := owns_same hown (hpW bm (.inr (.inr rfl)))
  have l1 := lt_of_cell c1
  have l2 := lt_of_cell c2
  simp only at l1 l2
  have l3 := hown1.lt
  have HK := Lib.hid (fun w => keys_any (some bm) w)
  have HS := Lib.hid (show Calls Try.prog 57 #[.func (.func 62) #[] #[.pointer (some ⟨W.heap.size, 0, none⟩)]] (W.alloc (.cells #[.map (some bm)] 35)) (fun e w' => ∃ A c, e = .returned (.slice A (idxF 0 l).length c) ∧ w'.ownsRow (W.heap.size + 1) 3 1 (.slice A (idxF 0 l).length c) (idxF 0 l).length ((idxF 0 l).map iv) ∧ Below W.heap.size W w' ∧ W.heap.size < w'.heap.size) from by
    refine (sorted_any l W.heap.size bm nn _ hl (cell_alloc_new _ _ _ _) (owns_same hown1 (Below.heap_alloc _ _ _ l3))).mono ?_
    rintro e w' ⟨v, rfl, hrow, hb⟩
    obtain ⟨A, c, rfl⟩ := own_slice hrow
    rw [World.size_alloc] at hrow hb
    exact ⟨A, c, rfl, hrow, (below1 W _).trans (hb.mono (by omega)), by have := hb.size; rw [World.size_alloc] at this; omega⟩)
  have HLK := Lib.hid (fun (V : World) (hV : V.heap[bm]? = W.heap[bm]?) (i : Nat) (hi : i ∈ idxF 0 l) => (show (Instr.lookup 35 (.map (some bm)) (.int .i64 (i : Int)) false).run Try.prog V = .ok (.int .i64 (ownN l (i : Int) : Int)) V from by
    obtain ⟨o, ho⟩ := idx_own hi
    have hle := (idx_ge 0 l i hi).2
    rw [lookup_at (owns_same hown1 hV) (by omega) ho]
    unfold ownN
    rw [ho]
    rfl))
  have HL := Lib.hid (idx_len l)
  have hRl := rowsN_len l
  have HR := Lib.hid (fun k (hk : k < (idxF 0 l).length) => (show (rowsN l)[k]'(by rw [hRl]; exact hk) = ((idxF 0 l)[k], ownN l ((idxF 0 l)[k] : Int)) from by simp [rowsN]))
  have HT := Lib.hid (fun k (hk : k < (idxF 0 l).length) => (show (rowsN l).take (k + 1) = (rowsN l).take k ++ [(rowsN l)[k]'(by rw [hRl]; exact hk)] from List.take_succ_eq_append_getElem (by rw [hRl]; exact hk)))
  have HRL := Lib.hid hRl
  obtain ⟨n, hn⟩ : ∃ n, n = (idxF 0 l).length := ⟨_, rfl⟩
  rw [← hn] at HS HL
  have HN := Lib.hid hn
  have HLL := Lib.hid hl
  clear hn hcb hcp hown hown1 hl hpW
  refine callsIn_of_wp Try.func56 rfl trivial ?_ rfl
  simp only [Try.ntmps56, List.size_toArray, List.length_cons, List.length_nil, Nat.reduceAdd, Nat.reduceSub, Array.replicate_succ, Array.replicate_zero, List.push_toArray, List.append_toArray, List.nil_append, List.cons_append]
  gi_wp2_with fail
  refine ⟨trivial, (callsIn_wide.2 (HK.out _)).mono ?_⟩
  rintro e w1 ⟨rfl, rfl⟩
  gi_wp2_with fail
  refine ⟨trivial, (callsIn_wide.2 HS.out).mono ?_⟩
  rintro e w2 ⟨A, c, rfl, hrow, hb2, hs2⟩
  have hj2 : J [] (fun _ => False) w2 := hJ.below h0 hb2
  have HROW := Lib.hid hrow
  have d1 : w2.cell? ⟨bb, 0, none⟩ = some (bx pb) := (hb2.cell (p := ⟨bb, 0, none⟩) l1).trans c1
  have d2 : w2.cell? ⟨pb, 1, none⟩ = some (.map (some bm)) := (hb2.cell (p := ⟨pb, 1, none⟩) l2).trans c2
  have d3 := hb2.block _ l3
  clear hrow HS HK h0
  have HG := Lib.hid (fun (hn0 : 0 < n) => (show ∃ g, A = some ⟨g, 0, none⟩ ∧ W.heap.size ≤ g ∧ g < w2.heap.size ∧ ∀ (j x : Nat), (idxF 0 l)[j]? = some x → w2.cell? ⟨g, j, none⟩ = some (.int .i64 (x : Int)) from by
    have ho := Own.of_row HROW.out
    obtain ⟨g, c', cur, hg, hv, _⟩ := ho.block hn0
    injection hv with hv1 hv2 hv3
    have hlt := HROW.out.lt g hg
    refine ⟨g, hv1, by omega, hlt.2, fun j x hx => ?_⟩
    have hj : j < n := by have := (List.getElem?_eq_some_iff.1 hx).1; rw [← HN.out] at this; exact this
    rw [ho.cell hg j (by omega), List.getElem?_map, hx]
    rfl))
  clear HROW
  gi_wp2_with fail
  gi_loopw [12] (fun t wr => ∃ (k : Nat) (O : Nat → Prop), t = .int .i64 (k : Int) ∧ k ≤ n ∧ J ((rowsN l).take k) O wr ∧ w2.heap.size ≤ wr.heap.size ∧ (∀ b, O b → w2.heap.size ≤ b ∧ b < wr.heap.size) ∧ Hid (∀ q, q < w2.heap.size → (q = bb ∨ q = pb ∨ q = bm ∨ W.heap.size ≤ q) → wr.heap[q]? = w2.heap[q]?)) (fun t _ => n - (_root_.Go.RowKit.intOf t).toNat)
  case atStart => exact ⟨0, fun _ => False, rfl, Nat.zero_le _, hj2, Nat.le_refl _, fun b (h : False) => h.elim, Lib.hid fun _ _ _ => rfl⟩
  case round =>
    obtain ⟨k, O, rfl, hk, hj, hws, hO, HQ⟩ := hrel
    have hnb : n ≤ 16384 := Nat.le_trans HL.out HLL.out
    by_cases hlt : k < n
    · obtain ⟨g, rfl, hg1, hg2, hgc⟩ := HG.out (by omega)
      have hki : k < (idxF 0 l).length := by rw [← HN.out]; exact hlt
      have c0 : wr.cell? ⟨g, k, none⟩ = some (.int .i64 ((idxF 0 l)[k] : Int)) := (World.cell?_of_block (HQ.out g hg2 (.inr (.inr (.inr hg1))))).trans (hgc k _ (List.getElem?_eq_getElem hki))
      have e1 : wr.cell? ⟨bb, 0, none⟩ = some (bx pb) := (World.cell?_of_block (HQ.out bb (by omega) (.inl rfl))).trans d1
      have e2 : wr.cell? ⟨pb, 1, none⟩ = some (.map (some bm)) := (World.cell?_of_block (HQ.out pb (by omega) (.inr (.inl rfl)))).trans d2
      have hlk := HLK.out wr ((HQ.out bm (by omega) (.inr (.inr (.inl rfl)))).trans d3) _ (List.getElem_mem hki)
      have hx := HR.out k hki
      have htk := HT.out k hki
      rw [hx] at htk
      have hpre := preR_at (l := l) (k := k) (by rw [HRL.out]; exact hki) wr
      rw [hx] at hpre
      have HTK := Lib.hid htk
      obtain ⟨fn, tmps, assign, body, hy, hR⟩ := hY _ _ O wr (by omega) (fun b h => by have := hO b h; omega) hj hpre (fun b (h : False) => h.elim)
      simp only [encP] at hy
      have i0 : (0 : Int) ≤ (k : Int) := by omega
      have i1 : (k : Int) < (n : Int) := by omega
      have e0 : decide ((k : Int) < (n : Int)) = true := decide_eq_true i1
      obtain ⟨i, hi⟩ : ∃ i, i = (idxF 0 l)[k] := ⟨_, rfl⟩
      rw [← hi] at c0 hlk hy hR HTK
      obtain ⟨o, ho⟩ : ∃ o, o = ownN l (i : Int) := ⟨_, rfl⟩
      rw [← ho] at hlk hy hR HTK
      clear htk hpre hx hi ho hj hgc
      gi_wp2_with fail
      refine hR.mono ?_
      rintro e W' ⟨hk', (⟨rfl, hj'⟩ | ⟨rfl, hjx⟩)⟩
      · have hO4 := nextO_bound (M := fun _ => False) hO hws hk'.size
        have hws4 := Nat.le_trans hws hk'.size
        have HQ4 : Hid (∀ q, q < w2.heap.size → (q = bb ∨ q = pb ∨ q = bm ∨ W.heap.size ≤ q) → W'.heap[q]? = w2.heap[q]?) := Lib.hid fun q hq hp => (hk'.same q (by omega) (by
          rcases hp with h | h | h | h
          · exact .inl (.inl h)
          · exact .inl (.inr (.inl h))
          · exact .inl (.inr (.inr h))
          · exact .inr ⟨h, fun ho => by have := (hO q ho).1; omega, fun h => h⟩)).trans (HQ.out q hq hp)
        clear HQ hO hk' hws
        gi_wp2
        go_roundw
        case rel => exact ⟨k + 1, _, by go_num, by omega, by rw [HTK.out]; exact hj', hws4, hO4, HQ4⟩
        case measure => simp [_root_.Go.RowKit.intOf]; omega
      · gi_wp2
        refine bodyPost_ret (results_none rfl _ _ _) rfl ?_
        refine itEnd.part ?_ hjx
        rw [← HTK.out]
        exact someR_at
    · obtain rfl : k = n := by omega
      gi_wp2
      go_end0
      refine itEnd.all ?_ hj
      show (rowsN l).take k = rowsN l
      rw [List.take_of_length_le (by rw [HRL.out, ← HN.out]; exact Nat.le_refl _)]
end Go.Proofs.Ytnbehncbjbkjpaa
