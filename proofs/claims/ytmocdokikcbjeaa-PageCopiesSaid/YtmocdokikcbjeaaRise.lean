import Derived.Test.YtmocdokikcbjeaaSuch
namespace Go.Proofs.Ytmocdokikcbjeaa
open Go.RowKit Go.Shelf Go.Maps Go.Sort
attribute [local go_sem] Oper.semAt_some

/- THE PAGES THAT ARE MAPPED, RISING, EACH WITH ITS ENTRY. -/
theorem sortsT (m : Nat) : AnyZI.SortsIn Try.prog sortedL_ren Fence.wide m :=
  ⟨fun blk off cap ss W hH hblk hsz => callsIn_wide.2 (AnyM.slices_Sort_int sortL blk off cap ss W hH hblk hsz), fun p cap W => callsIn_wide.2 (AnyM.slices_Sort_int_none sortL p cap W)⟩
theorem keys_any (mb : Option Nat) (w : World) : Calls Try.prog 66 #[.map mb] w fun e w' => e = .returned (.func (.func 72) #[] #[.pointer (some ⟨w.heap.size, 0, none⟩)]) ∧ w' = w.alloc (.cells #[.map mb] 70) :=
  (callsIn_wide (n := 1)).1 (AnyZI.keys_in keysL Fence.wide 1 trivial rfl mb w)
theorem sort_eq {xs ss : List Int} (hs : xs.Pairwise (· < ·)) (hp : ss.Perm xs) : ss.mergeSort (fun x y => decide (x ≤ y)) = xs := by
  refine List.Perm.eq_of_pairwise (le := fun a b : Int => a ≤ b) (fun a b _ _ h1 h2 => Int.le_antisymm h1 h2) ?_ ?_ ((List.mergeSort_perm ss _).trans hp)
  · have := List.pairwise_mergeSort (le := fun x y : Int => decide (x ≤ y)) (by intro a b c h1 h2; simp at *; omega) (by intro a b; simp; omega) ss
    exact this.imp (fun h => by simpa using h)
  · exact hs.imp (fun h => by omega)
def zv (z : Int) : Value := .int .i64 z
theorem sorted_any (l : Tb) (g bp : Nat) (w : World) (hok : Tok l) (hc : w.cell? ⟨g, 0, none⟩ = some (.map (some bp))) (hown : PMap w bp l) :
    Calls Try.prog 65 #[.func (.func 72) #[] #[.pointer (some ⟨g, 0, none⟩)]] w fun e w' => ∃ v, e = .returned v ∧ w'.ownsRow w.heap.size 3 1 v l.length (l.map fun r => zv r.1) ∧ Below w.heap.size w w' := by
  have hsz : Maps.size (mapP l) ≤ 65536 := by rw [mapP_size]; exact hok.len
  refine (callsIn_wide (n := 5)).1 ?_
  have hseq : SeqGives Fence.wide 2 Try.prog 72 #[.pointer (some ⟨g, 0, none⟩)] encZ (fun ss => ss.Perm (intKeys (mapP l))) (Maps.size (mapP l)) w :=
    AnyZI.keys_gives (ρ := keysL_ren) { keysL with } Fence.wide _ trivial rfl (by omega) g bp 65536 (mapP l) w (lt_of_cell hc) hc hown
  refine (AnyZI.sorted_in sortedL Fence.wide 5 trivial trivial trivial trivial rfl (by omega) (sortsT _) (enters_of Try.func71 (by kernel_rfl) rfl) 72 #[.pointer (some ⟨g, 0, none⟩)] trivial (enters_of Try.func72 (by kernel_rfl) rfl) _ _ (by unfold maxLen; omega) (by omega) _ hseq).mono ?_
  rintro e w' ⟨v, ss, rfl, hp, hrow, _, hb⟩
  rw [mapP_keys] at hp
  have hlen : ss.length = l.length := by have := hp.length_eq; rw [List.length_map] at this; exact this
  have hso : (l.map Prod.fst).Pairwise (· < ·) := by
    rw [List.pairwise_map]
    exact hok.sorted
  rw [sort_eq hso hp, hlen, List.map_map] at hrow
  exact ⟨v, rfl, hrow, hb⟩

/-! the rows -/
def encP (x : Int × En) : Array Value := #[.int .i64 x.1, .agg #[.int .i64 x.2.1, .int .i64 x.2.2.1, .int .i64 x.2.2.2]]
def preR (l : Tb) (pre : Tb) (x : Int × En) (_ : World) : Prop := ∃ post, l = pre ++ x :: post
def allR (l : Tb) (xs : Tb) : Prop := xs = l
def someR (l : Tb) (xs : Tb) : Prop := ∃ post, l = xs ++ post
theorem preR_at {l : Tb} {k : Nat} (h : k < l.length) (w : World) : preR l (l.take k) l[k] w := ⟨l.drop (k + 1), by
  rw [List.getElem_cons_drop]
  exact (List.take_append_drop k _).symm⟩
theorem someR_at {l : Tb} {k : Nat} : someR l (l.take k) := ⟨l.drop k, (List.take_append_drop k _).symm⟩

set_option maxHeartbeats 2000000 in
theorem rise1_it (l : Tb) (bb pb bm : Nat) (w0 : World) (hok : Tok l) (hcb : w0.cell? ⟨bb, 0, none⟩ = some (bx pb)) (hcp : w0.cell? ⟨pb, 0, none⟩ = some (.map (some bm))) (hown : PMap w0 bm l) :
    It Try.prog 64 #[bx bb] encP (fun _ _ => False) (preR l) (fun k => k = bb ∨ k = pb ∨ k = bm) (allR l) (someR l) w0 := by
  intro l0 J Jx W hpW hsW hJ hJx hY h0
  refine (callsIn_wide (n := 1)).1 ?_
  have c1 : W.cell? ⟨bb, 0, none⟩ = some (bx pb) := (World.cell?_of_block (hpW bb (.inl rfl))).trans hcb
  have c2 : W.cell? ⟨pb, 0, none⟩ = some (.map (some bm)) := (World.cell?_of_block (hpW pb (.inr (.inl rfl)))).trans hcp
  have hown1 := owns_same hown (hpW bm (.inr (.inr rfl)))
  have l1 := lt_of_cell c1
  have l2 := lt_of_cell c2
  simp only at l1 l2
  have l3 := hown1.lt
  have HK := Lib.hid (fun w => keys_any (some bm) w)
  have HS := Lib.hid (show Calls Try.prog 65 #[.func (.func 72) #[] #[.pointer (some ⟨W.heap.size, 0, none⟩)]] (W.alloc (.cells #[.map (some bm)] 70)) (fun e w' => ∃ A c, e = .returned (.slice A l.length c) ∧ w'.ownsRow (W.heap.size + 1) 3 1 (.slice A l.length c) l.length (l.map fun r => zv r.1) ∧ Below W.heap.size W w' ∧ W.heap.size < w'.heap.size) from by
    refine (sorted_any l W.heap.size bm _ hok (cell_alloc_new _ _ _ _) (owns_same hown1 (Below.heap_alloc _ _ _ l3))).mono ?_
    rintro e w' ⟨v, rfl, hrow, hb⟩
    obtain ⟨A, c, rfl⟩ := own_slice hrow
    rw [World.size_alloc] at hrow hb
    exact ⟨A, c, rfl, hrow, (below1 W _).trans (hb.mono (by omega)), by have := hb.size; rw [World.size_alloc] at this; omega⟩)
  have HLK := Lib.hid (fun (V : World) (hV : V.heap[bm]? = W.heap[bm]?) (r : Int × En) (hr : r ∈ l) => lookup_at (owns_same hown1 hV) (page64 (hok.page r hr)) ((look_mem hok.sorted).2 hr))
  have HL := Lib.hid hok.len
  obtain ⟨n, hn⟩ : ∃ n, n = l.length := ⟨_, rfl⟩
  rw [← hn] at HS HL
  have HN := Lib.hid hn
  clear hn hcb hcp hown hown1 hok hpW
  refine callsIn_of_wp Try.func64 rfl trivial ?_ rfl
  simp only [Try.ntmps64, List.size_toArray, List.length_cons, List.length_nil, Nat.reduceAdd, Nat.reduceSub, Array.replicate_succ, Array.replicate_zero, List.push_toArray, List.append_toArray, List.nil_append, List.cons_append]
  gi_wp2_with fail
  refine ⟨trivial, (callsIn_wide.2 (HK.out _)).mono ?_⟩
  rintro e w1 ⟨rfl, rfl⟩
  gi_wp2_with fail
  refine ⟨trivial, (callsIn_wide.2 HS.out).mono ?_⟩
  rintro e w2 ⟨A, c, rfl, hrow, hb2, hs2⟩
  have hj2 : J [] (fun _ => False) w2 := hJ.below h0 hb2
  have HROW := Lib.hid hrow
  have d1 : w2.cell? ⟨bb, 0, none⟩ = some (bx pb) := (hb2.cell (p := ⟨bb, 0, none⟩) l1).trans c1
  have d2 : w2.cell? ⟨pb, 0, none⟩ = some (.map (some bm)) := (hb2.cell (p := ⟨pb, 0, none⟩) l2).trans c2
  have d3 := hb2.block _ l3
  clear hrow HS HK h0
  have HG := Lib.hid (fun (hn0 : 0 < n) => (show ∃ g, A = some ⟨g, 0, none⟩ ∧ W.heap.size ≤ g ∧ g < w2.heap.size ∧ ∀ (j : Nat) (x : Int × En), l[j]? = some x → w2.cell? ⟨g, j, none⟩ = some (.int .i64 x.1) from by
    obtain ⟨g, cap, hv, hg1, hg2⟩ := HROW.out.form hn0
    injection hv with hv1 hv2 hv3
    subst hv1
    refine ⟨g, rfl, by omega, hg2, fun j x hx => ?_⟩
    have h1 := HROW.out.cells (g := g) rfl j (zv x.1) (by rw [List.getElem?_map, hx]; rfl)
    rw [add_plain, Nat.zero_add] at h1
    exact h1))
  clear HROW
  gi_wp2_with fail
  gi_loopw [12] (fun t wr => ∃ (k : Nat) (O : Nat → Prop), t = .int .i64 (k : Int) ∧ k ≤ n ∧ J (l.take k) O wr ∧ w2.heap.size ≤ wr.heap.size ∧ (∀ b, O b → w2.heap.size ≤ b ∧ b < wr.heap.size) ∧ Hid (∀ q, q < w2.heap.size → (q = bb ∨ q = pb ∨ q = bm ∨ W.heap.size ≤ q) → wr.heap[q]? = w2.heap[q]?)) (fun t _ => n - (_root_.Go.RowKit.intOf t).toNat)
  case atStart => exact ⟨0, fun _ => False, rfl, Nat.zero_le _, hj2, Nat.le_refl _, fun b (h : False) => h.elim, Lib.hid fun _ _ _ => rfl⟩
  case round =>
    obtain ⟨k, O, rfl, hk, hj, hws, hO, HQ⟩ := hrel
    have hnb : n ≤ 65536 := HL.out
    by_cases hlt : k < n
    · obtain ⟨g, rfl, hg1, hg2, hgc⟩ := HG.out (by omega)
      have hki : k < l.length := by rw [← HN.out]; exact hlt
      have c0 : wr.cell? ⟨g, k, none⟩ = some (.int .i64 l[k].1) := (World.cell?_of_block (HQ.out g hg2 (.inr (.inr (.inr hg1))))).trans (hgc k _ (List.getElem?_eq_getElem hki))
      have e1 : wr.cell? ⟨bb, 0, none⟩ = some (bx pb) := (World.cell?_of_block (HQ.out bb (by omega) (.inl rfl))).trans d1
      have e2 : wr.cell? ⟨pb, 0, none⟩ = some (.map (some bm)) := (World.cell?_of_block (HQ.out pb (by omega) (.inr (.inl rfl)))).trans d2
      have hlk := HLK.out wr ((HQ.out bm (by omega) (.inr (.inr (.inl rfl)))).trans d3) _ (List.getElem_mem hki)
      have htk : l.take (k + 1) = l.take k ++ [l[k]] := List.take_succ_eq_append_getElem hki
      have hpre := preR_at (l := l) (k := k) hki wr
      have HTK := Lib.hid htk
      obtain ⟨fn, tmps, assign, body, hy, hR⟩ := hY _ _ O wr (by omega) (fun b h => by have := hO b h; omega) hj hpre (fun b (h : False) => h.elim)
      simp only [encP] at hy
      have i0 : (0 : Int) ≤ (k : Int) := by omega
      have i1 : (k : Int) < (n : Int) := by omega
      have e0 : decide ((k : Int) < (n : Int)) = true := decide_eq_true i1
      obtain ⟨i, hi⟩ : ∃ i, i = l[k] := ⟨_, rfl⟩
      rw [← hi] at c0 hlk hy hR HTK
      obtain ⟨i1', x1, x2, x3⟩ := i
      simp only at c0 hlk hy hR HTK
      clear htk hpre hi hj hgc
      gi_wp2_with fail
      refine hR.mono ?_
      rintro e W' ⟨hk', (⟨rfl, hj'⟩ | ⟨rfl, hjx⟩)⟩
      · have hO4 := nextO_bound (M := fun _ => False) hO hws hk'.size
        have hws4 := Nat.le_trans hws hk'.size
        have HQ4 : Hid (∀ q, q < w2.heap.size → (q = bb ∨ q = pb ∨ q = bm ∨ W.heap.size ≤ q) → W'.heap[q]? = w2.heap[q]?) := Lib.hid fun q hq hp => (hk'.same q (by omega) (by
          rcases hp with h | h | h | h
          · exact .inl (.inl h)
          · exact .inl (.inr (.inl h))
          · exact .inl (.inr (.inr h))
          · exact .inr ⟨h, fun ho => by have := (hO q ho).1; omega, fun h => h⟩)).trans (HQ.out q hq hp)
        clear HQ hO hk' hws
        gi_wp2
        go_roundw
        case rel => exact ⟨k + 1, _, by go_num, by omega, by rw [HTK.out]; exact hj', hws4, hO4, HQ4⟩
        case measure => simp [_root_.Go.RowKit.intOf]; omega
      · gi_wp2
        refine bodyPost_ret (results_none rfl _ _ _) rfl ?_
        refine itEnd.part ?_ hjx
        rw [← HTK.out]
        exact someR_at
    · obtain rfl : k = n := by omega
      gi_wp2
      go_end0
      refine itEnd.all ?_ hj
      show l.take k = l
      rw [List.take_of_length_le (by rw [← HN.out]; exact Nat.le_refl _)]
theorem rising_any (pb : Nat) (w : World) : Calls Try.prog 38 #[bx pb] w fun e w' =>
    e = .returned (.func (.func 64) #[] #[bx w.heap.size]) ∧ w.alloc (.cells #[bx pb] 98) = w' := by
  go_enter Try.func38, Try.ntmps38
  go_wp2
  go_ret
  exact ⟨rfl, rfl⟩
end Go.Proofs.Ytmocdokikcbjeaa
