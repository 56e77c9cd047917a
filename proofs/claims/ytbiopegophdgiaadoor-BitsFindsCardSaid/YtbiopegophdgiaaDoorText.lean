import Derived.Test.YtbiopegophdgiaaDoorCopy
namespace Go.Proofs.YtbiopegophdgiaaDoor
open Go.RowKit Go.Shelf
attribute [local go_sem] Oper.semAt_some

/- TEXT, PARSE. -/

def bitc (b : Bool) : UInt8 := if b then 49 else 48
/-- the text of marks -/
def txb (l : List Bool) : List UInt8 := l.map bitc
theorem txb_len (l : List Bool) : (txb l).length = l.length := by simp [txb]
theorem txb_inj {a b : List Bool} (h : txb a = txb b) : a = b := by
  unfold txb at h
  exact List.map_inj_right (f := bitc) (by intro x y; cases x <;> cases y <;> simp [bitc]) |>.1 h

/-- the cells of a text, so far as it is made -/
def tcs (l : List Bool) (k : Nat) : List Value := byt (txb (l.take k)) ++ List.replicate (l.length - k) (.int .u8 0)
theorem tcs_len (l : List Bool) (k : Nat) (h : k ≤ l.length) : (tcs l k).length = l.length := by simp [tcs, byt, txb]; omega
theorem tcs_set (l : List Bool) (k : Nat) (h : k < l.length) : (tcs l k).set k (.int .u8 ((bitc l[k]).toNat : Int)) = tcs l (k + 1) := by
  apply List.ext_getElem?
  intro j
  have hl1 := tcs_len l k (by omega)
  have hkl : (byt (txb (l.take k))).length = k := by simp [byt, txb]; omega
  have hkl1 : (byt (txb (l.take (k + 1)))).length = k + 1 := by simp [byt, txb]; omega
  by_cases e : j = k
  · subst e
    rw [List.getElem?_set_self (by rw [hl1]; exact h), tcs, List.getElem?_append_left (by omega)]
    simp [byt, txb, h]
  · rw [List.getElem?_set_ne (Ne.symm e), tcs, tcs]
    by_cases hlt : j < k
    · rw [List.getElem?_append_left (by omega), List.getElem?_append_left (by omega)]
      simp [byt, txb, List.getElem?_take]
      rw [if_pos hlt, if_pos (by omega)]
    · rw [List.getElem?_append_right (by omega), List.getElem?_append_right (by omega), hkl, hkl1, List.getElem?_replicate, List.getElem?_replicate]
      by_cases hj : j < l.length
      · rw [if_pos (by omega), if_pos (by omega)]
      · rw [if_neg (by omega), if_neg (by omega)]
theorem set_set (l : List Value) (k : Nat) (a b : Value) : (l.set k a).set k b = l.set k b := by simp
theorem byte_info : (Tryd.prog.info? 5).map (fun i => (i.zero, i.size, i.bytes)) = some (some (.int .u8 0), 1, 1) := by kernel_rfl
theorem make_u8 (n : Nat) (hn : n ≤ 140737488351232) (W : World) : (Instr.makeSlice 65 (.int .i64 (n : Int)) (.int .i64 (n : Int))).run Tryd.prog W = .ok (.slice (some ⟨W.heap.size, 0, none⟩) n n) (W.alloc (.cells (List.replicate n (Value.int .u8 0)).toArray 5)) := by
  obtain ⟨i0, hi, hz0, hz1, hz2⟩ := info_parts byte_info
  have h := make_one (P := Tryd.prog) Tryd.underlying65 hi hz0 hz1 rfl n n (Nat.le_refl _) (by rw [hz2]; omega) (by omega) W
  exact h

set_option maxHeartbeats 1000000 in
theorem text_any (m : Value) (l : List Bool) (w : World) (h : Mk w m l) : Calls Tryd.prog 19 #[m] w fun e w' => e = .returned (.string (str (txb l))) ∧ Below w.heap.size w w' := by
  have hm := h.most
  have h1 := Lib.hid (len_any m l w h)
  have hmk := make_u8 l.length (by omega)
  obtain ⟨n, hn⟩ : ∃ n, n = l.length := ⟨_, rfl⟩
  rw [← hn] at h1 hm hmk
  have HN := Lib.hid hn
  have HM := Lib.hid h
  clear hn h
  go_enter Tryd.func19, Tryd.ntmps19
  go_wp2_with fail
  refine (h1.out).mono ?_
  rintro e w1 ⟨rfl, rfl⟩
  go_wp2_with fail
  clear hmk
  have hr0 : Row (w.alloc (.cells (List.replicate n (Value.int .u8 0)).toArray 5)) w.heap.size 5 (tcs l 0) := by
    have h := Row.new w 5 (List.replicate n (Value.int .u8 0))
    rw [show tcs l 0 = List.replicate n (Value.int .u8 0) by simp [tcs, txb, byt, ← HN.out]]
    exact h
  go_loopw [10] (fun i wr => ∃ k : Nat, k ≤ n ∧ i = .int .i64 k ∧ Row wr w.heap.size 5 (tcs l k) ∧ Below w.heap.size w wr) (fun i _ => n - (intOf i).toNat)
  case atStart => exact ⟨0, Nat.zero_le _, rfl, hr0, below1 _ _⟩
  case round =>
    obtain ⟨k, hk, rfl, hr, hB⟩ := hrel
    by_cases hlt : k < n
    · have hkl : k < l.length := by rw [← HN.out]; exact hlt
      have hcell : ∃ u, wr.cell? ⟨w.heap.size, k, none⟩ = some u := ⟨_, (hr.cell k).trans (List.getElem?_eq_getElem (by rw [tcs_len l k (by omega)]; exact hkl))⟩
      obtain ⟨u, hu⟩ := hcell
      have hfz := hr.frozen k
      have hr1 := hr.set k (.int .u8 48)
      have hB1 := hB.setCell (p := ⟨w.heap.size, k, none⟩) (Nat.le_refl _) (.int .u8 48)
      have hh := Lib.hid (has_any m l (k : Int) _ (HM.out.below hB1))
      have hgb : getB l (k : Int) = l[k] := by
        unfold getB
        rw [if_neg (by omega), Int.toNat_natCast, List.getElem?_eq_getElem hkl]
        rfl
      rw [hgb] at hh
      have hnx := Lib.hid (tcs_set l k hkl)
      obtain ⟨c, hc⟩ : ∃ c, c = l[k] := ⟨_, rfl⟩
      rw [← hc] at hh hnx
      clear hc hgb hr hB hkl
      go_wp2_with fail
      refine (hh.out).mono ?_
      rintro e w2 ⟨rfl, hb2⟩
      have hr2 := hr1.below hb2
      have hB2 := below0 hB1 hb2
      have hc2 := hr2.cell k
      rw [List.getElem?_set_self (by
        have := hr1.cell k
        rw [World.cell?_setCell_same _ _ _ hu] at this
        exact (List.getElem?_eq_some_iff.1 this.symm).1 |> fun h => by simpa using h)] at hc2
      have hf2 := hr2.frozen k
      have HR2 := Lib.hid hr2
      have HB2 := Lib.hid hB2
      clear hr1 hB1 hb2 hr2 hB2 hu hfz
      cases c
      · go_wp2_with fail
        go_roundw
        case rel => exact ⟨k + 1, by omega, by go_num, by rw [← hnx.out]; exact HR2.out, HB2.out⟩
        case measure => simp [intOf]; omega
      · go_wp2_with fail
        go_roundw
        case rel =>
          refine ⟨k + 1, by omega, by go_num, ?_, HB2.out.setCell (Nat.le_refl _) _⟩
          have h3 := HR2.out.set k (.int .u8 49)
          rw [set_set] at h3
          rw [← hnx.out]
          exact h3
        case measure => simp [intOf]; omega
    · obtain rfl : k = n := by omega
      have hs : Sees wr wr.heap.size (some ⟨w.heap.size, 0, none⟩) (byt (txb l)) := by
        have h := hr.sees
        rw [show tcs l k = byt (txb l) by rw [HN.out, tcs, List.take_length, Nat.sub_self]; simp] at h
        exact h
      have hcv := run_conv_sees (P := Tryd.prog) wr Tryd.underlying65 Tryd.underlying5 Tryd.underlying9 (c := k) ((txb_len l).trans HN.out.symm) hs
      clear hr hs
      go_wp2_with fail
      go_ret
      exact ⟨rfl, hB⟩
end Go.Proofs.YtbiopegophdgiaaDoor
