import Derived.Test.YtbiopegophdgiaaDoorMark
namespace Go.Proofs.YtbiopegophdgiaaDoor
open Go.RowKit Go.Shelf
attribute [local go_sem] Oper.semAt_some

/- WORDS OF THOSE THAT ARE SUCH. -/

theorem own_row {W : World} {base g k : Nat} {e : TypeId} {xs : List Value} (h : W.ownsRow base e 1 (.slice (some ⟨g, 0, none⟩) k k) k xs) : Row W g e xs := by
  obtain ⟨_, ⟨hv, _⟩ | ⟨g', c', cur, hv, _, hh, _, _, hs, ht⟩⟩ := h
  · cases hv
  · simp only [Value.slice.injEq, Option.some.injEq, Addr.mk.injEq, and_true, true_and] at hv
    obtain ⟨rfl, rfl⟩ := hv
    rw [List.take_of_length_le (by simp [hs])] at ht
    show W.heap[g]? = _
    rw [hh, ← ht]

theorem and_words (is : Bool) (l : List Bool) (i x : Nat) (hx : x = val (chunk l i)) : bits BinOp.and .u64 ((flip is x : Nat) : Int) ((mask l.length i : Nat) : Int) = ((val (chunk (such is l) i) : Nat) : Int) := by
  subst hx
  rw [bits_and_u64_nat _ _ (flip_lt is (chunk_lt l i)) (mask_lt _ _), flip_mask]

theorem xor_max (x : Nat) (hx : x < 18446744073709551616) : bits BinOp.xor .u64 IntKind.u64.max (x : Int) = ((flip false x : Nat) : Int) := by
  have e : IntKind.u64.max = ((18446744073709551615 : Nat) : Int) := by decide
  rw [e, bits_xor_u64_nat _ _ (by omega) hx]
  congr 1
  show _ = 18446744073709551615 - x
  apply Nat.eq_of_testBit_eq
  intro j
  have e1 : 18446744073709551615 - x = 2 ^ 64 - (x + 1) := by omega
  rw [e1, Nat.testBit_xor, Nat.testBit_two_pow_sub_succ (lt_two_pow64 hx), show 18446744073709551615 = 2 ^ 64 - 1 from rfl, Nat.testBit_two_pow_sub_one]
  by_cases h : j < 64
  · simp [h]
  · rw [Nat.testBit_lt_two_pow (x := x) (i := j) (Nat.lt_of_lt_of_le (lt_two_pow64 hx) (Nat.pow_le_pow_right (by omega) (by omega)))]
    simp [h]

set_option maxHeartbeats 400000 in
theorem such1_any (is : Bool) (l : List Bool) (i x bi bm b : Nat) (w : World) (hl : l.length ≤ 4096) (hi : 64 * i < l.length) (hx : x = val (chunk l i))
    (hci : w.cell? ⟨bi, 0, none⟩ = some (.bool is)) (hcm : w.cell? ⟨bm, 0, none⟩ = some (.pointer (some ⟨b, 0, none⟩))) (hcn : w.cell? ⟨b, 0, none⟩ = some (.int .i64 (l.length : Int))) :
    Calls Tryd.prog 52 #[.int .i64 (i : Int), .int .u64 (x : Int), .pointer (some ⟨bi, 0, none⟩), .pointer (some ⟨bm, 0, none⟩)] w fun e w' =>
      e = .returned (.int .u64 ((val (chunk (such is l) i) : Nat) : Int)) ∧ w = w' := by
  have hb := Lib.hid (and_words is l i x hx)
  have hx0 : x < 18446744073709551616 := by rw [hx]; exact chunk_lt l i
  have hf := Lib.hid (fun w => real_any l.length i w hl hi)
  obtain ⟨r, hr⟩ : ∃ r, r = val (chunk (such is l) i) := ⟨_, rfl⟩
  obtain ⟨mk, hmk⟩ : ∃ mk, mk = mask l.length i := ⟨_, rfl⟩
  rw [← hr] at hb ⊢
  rw [← hmk] at hb hf
  clear hr hmk hx
  cases is
  · have hn : bits BinOp.xor .u64 IntKind.u64.max (x : Int) = ((flip false x : Nat) : Int) := xor_max x hx0
    obtain ⟨y, hy⟩ : ∃ y, y = flip false x := ⟨_, rfl⟩
    rw [← hy] at hn hb
    clear hy
    go_enter Tryd.func52, Tryd.ntmps52
    go_wp2_with fail
    refine (hf.out _).mono ?_
    rintro e w1 ⟨rfl, rfl⟩
    go_wp2
    go_ret
    exact ⟨ret_val (by rw [← hb.out]; rfl), rfl⟩
  · rw [show flip true x = x from rfl] at hb
    go_enter Tryd.func52, Tryd.ntmps52
    go_wp2_with fail
    refine (hf.out _).mono ?_
    rintro e w1 ⟨rfl, rfl⟩
    go_wp2
    go_ret
    exact ⟨ret_val (by rw [← hb.out]; rfl), rfl⟩

set_option maxHeartbeats 1000000 in
theorem turned_any (is : Bool) (l : List Bool) (bi bm b g : Nat) (w : World) (hl : l.length ≤ 4096)
    (hci : w.cell? ⟨bi, 0, none⟩ = some (.bool is)) (hcm : w.cell? ⟨bm, 0, none⟩ = some (.pointer (some ⟨b, 0, none⟩))) (hcn : w.cell? ⟨b, 0, none⟩ = some (.int .i64 (l.length : Int)))
    (hr : Row w g 73 (wds (words l))) :
    Calls Tryd.prog 51 #[.func (.func 52) #[] #[.pointer (some ⟨bi, 0, none⟩), .pointer (some ⟨bm, 0, none⟩)], .slice (some ⟨g, 0, none⟩) (nw l.length) (nw l.length)] w fun e w' =>
      e = .returned (.slice (some ⟨w.heap.size, 0, none⟩) (nw l.length) (nw l.length)) ∧ Row w' w.heap.size 73 (wds (words (such is l))) ∧ Below w.heap.size w w' := by
  obtain ⟨i0, hi, hz0, hz1, hz2⟩ := info_parts word_info
  have hbi := lt_of_cell hci
  have hbm := lt_of_cell hcm
  have hbn := lt_of_cell hcn
  simp only at hbi hbm hbn
  have hgl := hr.lt
  obtain ⟨K, hK⟩ : ∃ K, K = nw l.length := ⟨_, rfl⟩
  have hwl : (words l).length = K := by rw [words_len, hK]
  have hsl : (words (such is l)).length = K := by rw [words_len, such_len, hK]
  have hK64 : K ≤ 64 := by rw [hK]; unfold nw; omega
  have hmk : ∀ W : World, (Instr.makeSlice 32 (.int .i64 0) (.int .i64 (K : Int))).run Tryd.prog W = .ok (.slice (some ⟨W.heap.size, 0, none⟩) 0 K) (W.alloc (.cells (wds (List.replicate K 0)).toArray 73)) := fun W => by
    have h := make_one (P := Tryd.prog) Tryd.underlying32 hi hz0 hz1 rfl 0 K (Nat.zero_le _) (by rw [hz2]; omega) (by omega) W
    rw [← wds_zero] at h
    exact h
  rw [← hK]
  have HK := Lib.hid hK
  have HWL := Lib.hid hwl
  have HSL := Lib.hid hsl
  clear hK hwl hsl
  go_enter Tryd.func51, Tryd.ntmps51
  go_wp2_with fail
  clear hmk
  go_loopw [5, 13] (fun v i wr => ∃ k : Nat, k ≤ K ∧ i = .int .i64 k ∧ v = .slice (some ⟨w.heap.size, 0, none⟩) k K ∧ wr.ownsRow w.heap.size 73 1 v k (wds ((words (such is l)).take k)) ∧ Below w.heap.size w wr ∧ w.heap.size < wr.heap.size) (fun _ i _ => K - (intOf i).toNat)
  case atStart =>
    refine ⟨0, Nat.zero_le _, rfl, rfl, ?_, below1 _ _, by simp⟩
    exact World.ownsRow_made w _ K (Nat.le_refl _) (by unfold maxLen; omega) (by simp [wds])
  case round =>
    obtain ⟨k, hk, rfl, rfl, hown, hB, hws⟩ := hrel
    by_cases hlt : k < K
    · have hkl : k < nw l.length := by rw [← HK.out]; exact hlt
      have hin : 64 * k < l.length := by unfold nw at hkl; omega
      have hcell : wr.cell? ⟨g, k, none⟩ = some (.int .u64 ((val (chunk l k) : Nat) : Int)) := by
        rw [hB.cell (p := ⟨g, k, none⟩) hgl, hr.cell k]
        exact wds_get _ (words_get l hkl)
      obtain ⟨x, hx⟩ : ∃ x, x = val (chunk l k) := ⟨_, rfl⟩
      rw [← hx] at hcell
      have hci1 := (hB.cell (p := ⟨bi, 0, none⟩) hbi).trans hci
      have hcm1 := (hB.cell (p := ⟨bm, 0, none⟩) hbm).trans hcm
      have hcn1 := (hB.cell (p := ⟨b, 0, none⟩) hbn).trans hcn
      have hc := Lib.hid (such1_any is l k x bi bm b wr hl hin hx hci1 hcm1 hcn1)
      have hnext := Lib.hid (show wds ((words (such is l)).take (k + 1)) = wds ((words (such is l)).take k) ++ [.int .u64 ((val (chunk (such is l) k) : Nat) : Int)] from by
        rw [List.take_add_one, words_get (such is l) (by rw [such_len]; exact hkl), wds_append]; rfl)
      obtain ⟨y, hy⟩ : ∃ y, y = val (chunk (such is l) k) := ⟨_, rfl⟩
      rw [← hy] at hc hnext
      clear hx hy hci1 hcm1 hcn1 hkl hin
      go_wp2_with fail
      refine (hc.out).mono ?_
      rintro e w1 ⟨rfl, rfl⟩
      have hown1 := hown.alloc (.cells #[.int .u64 (y : Int)] 73)
      go_wp2_with (at_builtin; refine wpList_append_fits _ rfl (.tmp 18) (.tmp 23) 32 rfl w.heap.size 73 i0 1 Tryd.underlying32 hi hz1 w.heap.size k K _ rfl hown1 ⟨wr.heap.size, 0, none⟩ 1 1 [.int .u64 (y : Int)] rfl rfl (cell_one_new _ _ _) (by simp [Value.oneCell']) (by omega) ?_; intro w4 hown4 hg4)
      go_roundw
      case rel =>
        refine ⟨k + 1, by omega, by go_num, rfl, by rw [hnext.out]; exact hown4, (hB.alloc hB.size _).grown hg4 ?_ ?_, ?_⟩
        · simp; have := hB.size; omega
        · intro r e; cases e; exact Nat.le_refl _
        · have := hg4.size; simp at this; omega
      case measure => simp [intOf]; omega
    · obtain rfl : k = K := by omega
      go_wp2
      go_ret
      rw [List.take_of_length_le (by rw [HSL.out]; exact Nat.le_refl _)] at hown
      exact ⟨rfl, own_row hown, hB⟩

/-- words that a call made, or nil's -/
def Wds (w : World) (v : Value) (l : List Bool) : Prop := ∃ A c, v = .slice A (nw l.length) c ∧ Sees w w.heap.size A (wds (words l))
theorem Wds.nil_ (w : World) : Wds w (.slice none 0 0) [] := ⟨none, 0, rfl, Sees.nil_⟩
theorem Wds.row {w : World} {g : Nat} {l : List Bool} {c : Nat} (h : Row w g 73 (wds (words l))) : Wds w (.slice (some ⟨g, 0, none⟩) (nw l.length) c) l := ⟨_, _, rfl, h.sees⟩
theorem Wds.below {w w' : World} {v : Value} {l : List Bool} (h : Wds w v l) (hb : Below w.heap.size w w') : Wds w' v l := by
  obtain ⟨A, c, h1, h2⟩ := h
  exact ⟨A, c, h1, (h2.below hb).more hb.size⟩

/-- the marks that a pointer shows: which places there are, which of them are marked -/
structure Rep (w : World) (b g : Nat) (l : List Bool) : Prop where
  obj : Row w b 34 [.int .i64 (l.length : Int), .slice (some ⟨g, 0, none⟩) (nw l.length) (nw l.length), .bool true]
  row : Row w g 73 (wds (words l))
  most : l.length ≤ 4096
theorem Rep.ne {w : World} {b g : Nat} {l : List Bool} (h : Rep w b g l) : b ≠ g := by
  rintro rfl
  have h1 : some _ = some _ := h.obj.symm.trans h.row
  simp at h1
theorem Rep.same {w w' : World} {b g : Nat} {l : List Bool} (h : Rep w b g l) (hb : w'.heap[b]? = w.heap[b]?) (hg : w'.heap[g]? = w.heap[g]?) : Rep w' b g l := ⟨h.obj.same hb, h.row.same hg, h.most⟩
theorem Rep.below {w w' : World} {b g : Nat} {l : List Bool} (h : Rep w b g l) (hb : Below w.heap.size w w') : Rep w' b g l := ⟨h.obj.below hb, h.row.below hb, h.most⟩
theorem Rep.keep {w w' : World} {b g : Nat} {l : List Bool} {F : Nat → Prop} (h : Rep w b g l) (hk : Keep F w w') (hb : ¬ F b) (hg : ¬ F g) : Rep w' b g l := ⟨hk.row h.obj hb, hk.row h.row hg, h.most⟩

theorem such_none (is : Bool) (m : Value) (w : World) (h : Non w m) : Calls Tryd.prog 39 #[m, .bool is] w fun e w' => e = .returned (.slice none 0 0) ∧ Below w.heap.size w w' := by
  have hN : Non ((w.alloc (.cells #[m] 24)).alloc (.cells #[.bool is] 4)) m := by
    rcases h with rfl | ⟨b, rfl, hr⟩
    · exact .inl rfl
    · exact .inr ⟨b, rfl, hr.below (below2 _ _ _)⟩
  have h2 := Lib.hid (none_any _ _ hN)
  clear hN
  rcases h with rfl | ⟨b, rfl, hr⟩
  · go_enter Tryd.func39, Tryd.ntmps39
    go_wp2_with fail
    refine (h2.out).mono ?_
    rintro e w1 ⟨rfl, rfl⟩
    go_wp2
    go_ret
    exact ⟨rfl, below2 _ _ _⟩
  · go_enter Tryd.func39, Tryd.ntmps39
    go_wp2_with fail
    refine (h2.out).mono ?_
    rintro e w1 ⟨rfl, rfl⟩
    go_wp2
    go_ret
    exact ⟨rfl, below2 _ _ _⟩
theorem such_any (is : Bool) (l : List Bool) (b g : Nat) (w : World) (h : Rep w b g l) : Calls Tryd.prog 39 #[.pointer (some ⟨b, 0, none⟩), .bool is] w fun e w' =>
    ∃ g', e = .returned (.slice (some ⟨g', 0, none⟩) (nw l.length) (nw l.length)) ∧ w.heap.size ≤ g' ∧ Row w' g' 73 (wds (words (such is l))) ∧ Below w.heap.size w w' := by
  obtain ⟨W, hW⟩ : ∃ W, W = (w.alloc (.cells #[.pointer (some ⟨b, 0, none⟩)] 24)).alloc (.cells #[.bool is] 4) := ⟨_, rfl⟩
  have hB : Below w.heap.size w W := by rw [hW]; exact below2 _ _ _
  have hR : Rep W b g l := h.below hB
  have hs : W.heap.size = w.heap.size + 2 := by rw [hW]; simp
  have hci : W.cell? ⟨w.heap.size + 1, 0, none⟩ = some (.bool is) := by rw [hW]; exact cell_new_at _ _ _ _ (by simp)
  have hcm : W.cell? ⟨w.heap.size, 0, none⟩ = some (.pointer (some ⟨b, 0, none⟩)) := by
    rw [hW, World.cell?_alloc_lt _ _ _ (by simp)]; exact cell_alloc_new _ _ _ _
  have h1 := Lib.hid (none_not W b _ (hR.obj.cell 0) (hR.obj.cell 2))
  have h2 := Lib.hid (turned_any is l (w.heap.size + 1) w.heap.size b g W hR.most hci hcm (hR.obj.cell 0) hR.row)
  have hc1 : W.cell? ⟨b, 1, none⟩ = some (.slice (some ⟨g, 0, none⟩) (nw l.length) (nw l.length)) := hR.obj.cell 1
  have hc0 : W.cell? ⟨b, 0, none⟩ = some (.int .i64 (l.length : Int)) := hR.obj.cell 0
  have HB := Lib.hid hB
  have HS := Lib.hid hs
  clear hB hs hR h hci
  go_enter Tryd.func39, Tryd.ntmps39
  go_wp2_with fail
  rw [← hW]
  clear hW
  refine (h1.out).mono ?_
  rintro e w1 ⟨rfl, rfl⟩
  go_wp2_with fail
  refine (h2.out).mono ?_
  rintro e w1 ⟨rfl, hr1, hb1⟩
  go_wp2
  go_ret
  exact ⟨W.heap.size, rfl, by rw [HS.out]; omega, hr1, HB.out.trans (hb1.mono HB.out.size)⟩
end Go.Proofs.YtbiopegophdgiaaDoor
