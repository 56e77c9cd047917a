import Derived.Test.YtmbjjbgpcacoeaaGreatRH
namespace Go.Proofs.YtmbjjbgpcacoeaaGreat
open Go.RowKit Go.Shelf Go.Maps Go.Sort

/- THE DOCUMENT's POOL: NEW. -/
def z64 : List Value := List.replicate 64 (.int .i64 0)
theorem pzero_cells : Tryz.zeroCells36 = (Value.slice none 0 0 :: z64).toArray := by kernel_rfl
theorem z64_len : z64.length = 64 := List.length_replicate
theorem z64_one : ∀ u ∈ z64, u.oneCell' = true := by
  intro u hu
  rw [List.eq_of_mem_replicate hu]
  rfl
theorem new_res (n : Nat) : resV (newP n) = z64 := by
  have h : ∀ k, resN (newP n) k = 0 := fun k => by
    have h1 : leftN (newP n) k = 0 := by
      unfold leftN newP
      show ((List.replicate 64 0)[k]?).getD 0 = 0
      rw [List.getElem?_replicate]
      split <;> rfl
    have h2 : taken (newP n).fr k = 0 := by
      unfold taken newP
      rw [List.countP_eq_zero]
      intro x hx
      rw [List.eq_of_mem_replicate hx]
      simp [isO]
    unfold resN
    omega
  unfold resV z64
  rw [show (fun k => iv (resN (newP n) k)) = fun _ => Value.int .i64 0 by funext k; rw [h k]; rfl, List.map_const', List.length_range]
def newE (z : Int) : Nat := if z < 0 ∨ 16384 < z then 2 else 0
def NewP (w : World) (z : Int) (e : Ending) (w' : World) : Prop :=
  (newE z = 0 → ∃ A c, e = .returned (.tuple #[rv (newP z.toNat) A z.toNat c, .int .i64 0]) ∧ Lies w' A (newP z.toNat).fr ∧ ∀ a, A = some a → (newP z.toNat).fr ≠ [] → w.heap.size ≤ a.block) ∧
    (newE z ≠ 0 → ∃ R : List Value, R.length = 64 ∧ (∀ u ∈ R, u.oneCell' = true) ∧ e = .returned (.tuple #[.agg (Value.slice none 0 0 :: R).toArray, .int .i64 2])) ∧ Below w.heap.size w w'
set_option maxRecDepth 100000 in
set_option maxHeartbeats 1000000 in
theorem rnew_no (z : Int) (w : World) (h : z < 0 ∨ 16384 < z) : Calls Tryz.prog 9 #[.int .i64 z] w (NewP w z) := by
  have hE : newE z = 2 := by unfold newE; rw [if_pos h]
  have hzs : Tryz.zeroCells36.size = 65 := by kernel_rfl
  have hzl : Tryz.zeroCells36.toList = Value.slice none 0 0 :: z64 := by rw [pzero_cells]
  have HT : Hid ((w.alloc (.cells Tryz.zeroCells36 36)).there w.heap.size 0 Tryz.zeroCells36.size) := Lib.hid (by rw [hzs]; exact (Rm.new w).there)
  have HSZ : Hid ((Tryz.prog.info? 36).map (·.size) = some Tryz.zeroCells36.size) := Lib.hid (by kernel_rfl)
  have HO : Hid (Tryz.zeroCells36.all (·.oneCell') = true) := Lib.hid (by kernel_rfl)
  have HLD := Lib.hid (stored_load (v := .slice none 0 0) z64_len (Rm.new w))
  have HB := Lib.hid (below_setCells (Nat.le_refl _) (Value.slice none 0 0 :: z64) 0 _ (below1 w (.cells Tryz.zeroCells36 36)))
  have HP := Lib.hid (fun e (w' : World) (he : e = Ending.returned (.tuple #[.agg (Value.slice none 0 0 :: z64).toArray, .int .i64 2])) (hb : Below w.heap.size w w') => (show NewP w z e w' from ⟨fun h => (by rw [hE] at h; cases h), fun _ => ⟨z64, z64_len, z64_one, he⟩, hb⟩))
  have HZL := Lib.hid hzl
  clear hzs hzl hE
  by_cases h1 : z < 0
  · have d1 : decide (z < 0) = true := decide_eq_true h1
    clear h h1
    go_enter Tryz.func9, Tryz.ntmps9
    go_wp2_with (first
      | refine wpList_store_mid rfl 36 (.tmp 2) (.tmp 12) rfl w.heap.size 0 Tryz.zeroCells36 rfl rfl HT.out HSZ.out HO.out ?_)
    rw [HZL.out]
    exact bodyPost_ret (res_cell2 Tryz.results9 rfl HLD.out) rfl (HP.out _ _ rfl HB.out)
  · have d1 : decide (z < 0) = false := decide_eq_false h1
    have d2 : decide (16384 < z) = true := decide_eq_true (by omega)
    clear h h1
    go_enter Tryz.func9, Tryz.ntmps9
    go_wp2_with (first
      | refine wpList_store_mid rfl 36 (.tmp 2) (.tmp 12) rfl w.heap.size 0 Tryz.zeroCells36 rfl rfl HT.out HSZ.out HO.out ?_)
    rw [HZL.out]
    exact bodyPost_ret (res_cell2 Tryz.results9 rfl HLD.out) rfl (HP.out _ _ rfl HB.out)
theorem enc_replicate (i : Nat) : (List.replicate (i + 1) (none : Fr)).flatMap encFr = (List.replicate i (none : Fr)).flatMap encFr ++ [.int .i64 (-1), .string ⟨#[]⟩] := by
  rw [List.replicate_succ', List.flatMap_append]
  rfl
def NewI (w : World) (n : Nat) (s5 : Value) (wr : World) : Prop :=
  ∃ (i : Nat) (A : Option Addr) (c : Nat) (gg : Option Nat), i ≤ n ∧ s5 = .int .i64 (i : Int) ∧ Own wr 100 2 (.slice A i c) i ((List.replicate i (none : Fr)).flatMap encFr) gg ∧ Row wr (w.heap.size + 1) 36 (.slice A i c :: z64) ∧ Rm wr w.heap.size ∧ Below w.heap.size w wr ∧ ∀ b, gg = some b → w.heap.size + 2 ≤ b
theorem newI_step {w wr w4 : World} {n i : Nat} {A A' : Option Addr} {c c' : Nat} {gg g' : Option Nat} (hi : i < n) (hr : Row wr (w.heap.size + 1) 36 (.slice A i c :: z64)) (hm : Rm wr w.heap.size) (hb : Below w.heap.size w wr) (hg : ∀ b, gg = some b → w.heap.size + 2 ≤ b) (ob : Obj)
    (ho : Own w4 100 2 (.slice A' (i + 1) c') (i + 1) ((List.replicate i (none : Fr)).flatMap encFr ++ [.int .i64 (-1), .string ⟨#[]⟩]) g') (hgr : (wr.alloc ob).grownBy w4 gg) (hgg : g' = gg ∨ g' = some (wr.alloc ob).heap.size) :
    Row w4 (w.heap.size + 1) 36 (.slice A i c :: z64) ∧ NewI w n (.int .i64 ((i : Int) + 1)) (w4.setCell ⟨w.heap.size + 1, 0, none⟩ (.slice A' (i + 1) c')) := by
  have hlt := hr.lt
  have hbk : ∀ b, b < w.heap.size + 2 → w4.heap[b]? = wr.heap[b]? := fun b hb2 => (hgr.block b (by rw [World.size_alloc]; omega) (fun e => by have := hg b e.symm; omega)).trans (Below.heap_alloc _ _ _ (by omega))
  have q4 : Row w4 (w.heap.size + 1) 36 (.slice A i c :: z64) := hr.same (hbk _ (by omega))
  have hg2 : ∀ b, g' = some b → w.heap.size + 2 ≤ b := fun b e => by
    rcases hgg with h | h
    · exact hg b (h ▸ e)
    · rw [h] at e
      injection e with e
      rw [World.size_alloc] at e
      omega
  refine ⟨q4, i + 1, A', c', g', by omega, by go_num, ?_, q4.set 0 _, ?_, ?_, hg2⟩
  · rw [enc_replicate]
    exact ho.keep fun b e => heap_set (by have := hg2 b e; omega)
  · exact hm.same ((heap_set (by omega)).trans (hbk _ (by omega)))
  · exact ((hb.alloc hb.size ob).grown hgr (by rw [World.size_alloc]; omega) (fun r e => by have := hg r e; omega)).setCell (Nat.le_succ _) _
theorem own_sees {w : World} {A : Option Addr} {n c : Nat} {t : TypeId} {k : Nat} {xs : List Value} {gg : Option Nat} (h : Own w t k (.slice A n c) n xs gg) : Sees w w.heap.size A xs ∧ (xs ≠ [] → ∃ b, gg = some b ∧ A = some ⟨b, 0, none⟩) := by
  have h1 : xs ≠ [] → ∃ b, gg = some b ∧ A = some ⟨b, 0, none⟩ := fun hn => by
    have h0 : 0 < n := by
      rcases Nat.eq_zero_or_pos n with h0 | h0
      · have := h.len
        rw [h0, Nat.zero_mul] at this
        exact absurd (List.eq_nil_of_length_eq_zero this) hn
      · exact h0
    obtain ⟨b, c', cur, e1, e2, _⟩ := h.block h0
    injection e2 with e2 _ _
    exact ⟨b, e1, e2⟩
  refine ⟨fun hn => ?_, h1⟩
  obtain ⟨b, e1, e2⟩ := h1 hn
  refine ⟨_, e2, h.lt b e1, fun j u hu => ?_⟩
  rw [add_plain, Nat.zero_add, h.cell e1 j (by rw [← h.len]; exact (List.getElem?_eq_some_iff.1 hu).1)]
  exact hu
set_option maxRecDepth 100000 in
set_option maxHeartbeats 1000000 in
theorem rnew_yes (n : Nat) (w : World) (h : n ≤ 16384) : Calls Tryz.prog 9 #[.int .i64 (n : Int)] w (NewP w (n : Int)) := by
  have hE : newE (n : Int) = 0 := by unfold newE; rw [if_neg (by omega)]
  obtain ⟨i0, hi0, hz0, hz1, hz2⟩ := info_parts frame_info
  have d1 : decide ((n : Int) < 0) = false := decide_eq_false (by omega)
  have d2 : decide ((16384 : Int) < (n : Int)) = false := decide_eq_false (by omega)
  have HST : Hid (NewI w n (.int .i64 0) ((w.alloc (.cells Tryz.zeroCells36 36)).alloc (.cells Tryz.zeroCells36 36))) := Lib.hid (by
    refine ⟨0, none, 0, none, Nat.zero_le _, rfl, Own.nil _ _ _, ?_, (Rm.new w).below (below1 _ _), below2 w _ _, fun b e => (by cases e)⟩
    have := Row.new (w.alloc (.cells Tryz.zeroCells36 36)) 36 (Value.slice none 0 0 :: z64)
    rw [World.size_alloc, ← pzero_cells] at this
    exact this)
  have HP : Hid (∀ e (w' : World), (∃ A c, e = Ending.returned (.tuple #[.agg (Value.slice A n c :: z64).toArray, .int .i64 0]) ∧ Lies w' A (List.replicate n none) ∧ (0 < n → ∀ a, A = some a → w.heap.size ≤ a.block)) → Below w.heap.size w w' → NewP w (n : Int) e w') := Lib.hid (fun e w' ⟨A, c, he, hA, hB⟩ hb => ⟨fun _ => ⟨A, c, by rw [he, Int.toNat_natCast]; unfold rv rc; rw [new_res], hA, fun a ha hn => hB (Nat.pos_of_ne_zero fun h0 => hn (by rw [Int.toNat_natCast, h0]; rfl)) a ha⟩, fun h => absurd hE h, hb⟩)
  have HN := Lib.hid h
  clear h hE
  go_enter Tryz.func9, Tryz.ntmps9
  go_wp2_with fail
  go_loopw [5] (fun s5 wr => NewI w n s5 wr) (fun s5 _ => n - (_root_.Go.RowKit.intOf s5).toNat)
  case atStart => exact HST.out
  case round =>
    obtain ⟨i, A, c, gg, hi, rfl, ho, hr, hm, hb, hg⟩ := hrel
    have c0 : wr.cell? ⟨w.heap.size + 1, 0, none⟩ = some (.slice A i c) := hr.cell 0
    by_cases hlt : i < n
    · have hN := HN.out
      have j2 : decide ((i : Int) < (n : Int)) = true := decide_eq_true (by omega)
      have j3 : decide (i < n) = true := decide_eq_true hlt
      have i3 : i < 16384 := by omega
      have ho' : Own (wr.alloc (.cells #[.int .i64 (-1), .string ⟨#[]⟩] 100)) 100 2 (.slice A i c) i _ gg := ho.keep fun b e => Below.heap_alloc _ _ _ (ho.lt b e)
      obtain ⟨v', w4, g', hrun, ho4, hgr, hgg, _⟩ := ho'.append 33 33 i0 _ 24 Tryz.underlying33 hi0 hz0 hz1 hz2 rfl (by decide) ⟨wr.heap.size, 0, none⟩ 1 [.int .i64 (-1), .string ⟨#[]⟩] rfl (cells_two_new wr _ _ _) (by intro u hu; simp at hu; rcases hu with rfl | rfl <;> rfl) (by unfold maxLen; omega) (by omega)
      obtain ⟨A', c', rfl, _⟩ := ho4.form
      obtain ⟨q4, hni⟩ := newI_step (w := w) (n := n) hlt hr hm hb hg _ ho4 hgr hgg
      have HNI := Lib.hid hni
      have p0 : w4.cell? ⟨w.heap.size + 1, 0, none⟩ = some (.slice A i c) := q4.cell 0
      have p1 := q4.frozen 0
      clear ho' ho4 hgr hgg q4 hni ho hr hm hb hg hN
      go_wp2_with (at_builtin; refine wpList_append_eq _ rfl (.tmp 19) (.tmp 21) 33 33 rfl (Value.slice A i c) (Value.slice (some (⟨wr.heap.size, 0, none⟩ : Addr)) 1 1) rfl rfl _ _ hrun ?_)
      go_roundw
      case rel => exact HNI.out
      case measure => simp [_root_.Go.RowKit.intOf]; omega
    · obtain rfl : i = n := by omega
      obtain ⟨hs, hsb⟩ := own_sees ho
      have HR := Lib.hid (row_range hr)
      have HT := Lib.hid hm.there
      have HLD := Lib.hid (stored_load (v := .slice A i c) z64_len hm)
      have HF := Lib.hid (show Lies (wr.setCells w.heap.size 0 (Value.slice A i c :: z64)) A (List.replicate i none) ∧ Below w.heap.size w (wr.setCells w.heap.size 0 (Value.slice A i c :: z64)) ∧ (0 < i → ∀ a, A = some a → w.heap.size ≤ a.block) from ⟨fun hn => by
        obtain ⟨b, e1, e2⟩ := hsb hn
        have := hg b e1
        exact lies_setCells hs (fun a e => by rw [e2] at e; cases e; show b ≠ w.heap.size; omega) _ _ hn, below_setCells (Nat.le_refl _) _ _ _ hb, fun h0 a ha => by
        obtain ⟨b, e1, e2⟩ := hsb (by
          obtain ⟨j, rfl⟩ : ∃ j, i = j + 1 := ⟨i - 1, by omega⟩
          simp [List.replicate_succ, encFr])
        have := hg b e1
        rw [e2] at ha
        cases ha
        show w.heap.size ≤ b
        omega⟩)
      have HSZ := Lib.hid (refpool_size2 (show (Value.slice A i c :: z64).length = 65 by rw [List.length_cons, z64_len]))
      have HO := Lib.hid (cells_one (v := .slice A i c) (R := z64) rfl z64_one)
      clear ho hr hm hb hg hs hsb
      go_wp2_with (first
        | refine wpList_load_mid rfl 36 (.tmp 4) rfl (w.heap.size + 1) 0 rfl (Value.slice A i c :: z64) _ HR.out Tryz.underlying36 rfl HSZ.out ?_
        | refine wpList_store_mid rfl 36 (.tmp 2) (.tmp 24) rfl w.heap.size 0 (Value.slice A i c :: z64).toArray rfl rfl HT.out HSZ.out HO.out ?_)
      exact bodyPost_ret (res_cell2 Tryz.results9 rfl HLD.out) rfl (HP.out _ _ ⟨A, c, rfl, HF.out.1, HF.out.2.2⟩ HF.out.2.1)
end Go.Proofs.YtmbjjbgpcacoeaaGreat
