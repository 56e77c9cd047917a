import Derived.Test.YtbiopegophdgiaaDoorCount
namespace Go.Proofs.YtbiopegophdgiaaDoor
open Go.RowKit Go.Shelf
attribute [local go_sem] Oper.semAt_some

/- NEW, SET. -/

theorem chunk_other (l : List Bool) (k i : Nat) (b : Bool) (h : i ≠ k / 64) : chunk (l.set k b) i = chunk l i := by
  apply List.ext_getElem?
  intro j
  rw [chunk_get, chunk_get]
  by_cases hj : j < 64
  · rw [if_pos hj, if_pos hj, List.getElem?_set_ne (by omega)]
  · rw [if_neg hj, if_neg hj]
theorem words_set (l : List Bool) (k : Nat) (b : Bool) : words (l.set k b) = (words l).set (k / 64) (val (chunk (l.set k b) (k / 64))) := by
  apply List.ext_getElem?
  intro i
  have hl : (l.set k b).length = l.length := by simp
  by_cases hi : i < nw l.length
  · rw [words_get _ (by rw [hl]; exact hi)]
    by_cases h : i = k / 64
    · subst h
      rw [List.getElem?_set_self (by rw [words_len]; exact hi)]
    · rw [List.getElem?_set_ne (Ne.symm h), words_get _ hi, chunk_other l k i b h]
  · rw [List.getElem?_eq_none (by rw [words_len, hl]; omega), List.getElem?_eq_none (by rw [List.length_set, words_len]; omega)]
theorem xor_set (l : List Bool) (k : Nat) (hk : k < l.length) (b : Bool) (hb : l[k] ≠ b) : val (chunk (l.set k b) (k / 64)) = val (chunk l (k / 64)) ^^^ 2 ^ (k % 64) := by
  apply Nat.eq_of_testBit_eq
  intro j
  rw [Nat.testBit_xor, val_bit, val_bit, chunk_get, chunk_get, Nat.testBit_two_pow]
  have hm : k % 64 < 64 := Nat.mod_lt _ (by omega)
  by_cases hj : j < 64
  · rw [if_pos hj, if_pos hj]
    by_cases h : k % 64 = j
    · have e : 64 * (k / 64) + j = k := by omega
      rw [e, List.getElem?_set_self hk, List.getElem?_eq_getElem hk, decide_eq_true h]
      revert hb
      cases l[k] <;> cases b <;> simp
    · rw [List.getElem?_set_ne (by omega), decide_eq_false h, Bool.xor_false]
  · rw [if_neg hj, if_neg hj, decide_eq_false (by omega)]
    rfl
theorem wds_set (l : List Nat) (i n : Nat) : (wds l).set i (.int .u64 (n : Int)) = wds (l.set i n) := by simp [wds, List.map_set]

theorem new_no (n : Int) (w : World) (h : n < 0 ∨ 4096 < n) : Calls Tryd.prog 9 #[.int .i64 n] w fun e w' => e = .returned (.tuple #[.pointer none, .int .i64 2]) ∧ w = w' := by
  have h1 := Lib.hid (fun w => extent_no n w h)
  clear h
  go_enter Tryd.func9, Tryd.ntmps9
  go_wp2_with fail
  refine wp_scope_jump 1 fun R hR hJm => ?_
  go_wp2_with fail
  refine (h1.out _).mono ?_
  rintro e w1 ⟨rfl, rfl⟩
  go_wp2_with fail
  refine wp_goto (hJm.out _ _ _ _ _ rfl ?_)
  go_wp2_with fail
  refine hR.out _ _ _ _ (by simp) ?_
  go_ret2
  exact ⟨rfl, rfl⟩
def NewP (w : World) (l : List Bool) (e : Ending) (w' : World) : Prop :=
  ∃ b g, e = .returned (.tuple #[.pointer (some ⟨b, 0, none⟩), .int .i64 0]) ∧ w.heap.size ≤ b ∧ w.heap.size ≤ g ∧ Rep w' b g l ∧ Below w.heap.size w w'
theorem rep_new {w1 : World} {l : List Bool} {g : Nat} (hg : Row w1 g 73 (wds (words l))) (hm : l.length ≤ 4096) {n k : Nat} (hn : n = l.length) (hk : k = nw l.length) : Rep (w1.alloc (.cells #[.int .i64 (n : Int), .slice (some ⟨g, 0, none⟩) k k, .bool true] 34)) w1.heap.size g l := by
  subst hn hk
  exact ⟨Row.new w1 _ _, hg.below (below1 _ _), hm⟩
theorem new_ok (n : Nat) (w : World) (h : n ≤ 4096) : Calls Tryd.prog 9 #[.int .i64 (n : Int)] w (NewP w (List.replicate n false)) := by
  have h1 := Lib.hid (fun w => extent_ok n w h)
  have h2 := Lib.hid (fun w => list_any n w h)
  obtain ⟨k, hk⟩ : ∃ k, k = nw n := ⟨_, rfl⟩
  rw [← hk] at h2
  have hfin := Lib.hid (show NewP w (List.replicate n false) (.returned (.tuple #[.pointer (some ⟨w.heap.size + 1, 0, none⟩), .int .i64 0])) ((w.alloc (.cells (wds (List.replicate k 0)).toArray 73)).alloc (.cells #[.int .i64 (n : Int), .slice (some ⟨w.heap.size, 0, none⟩) k k, .bool true] 34)) from by
    refine ⟨_, w.heap.size, rfl, by omega, Nat.le_refl _, ?_, below2 _ _ _⟩
    have hr := rep_new (w1 := w.alloc (.cells (wds (List.replicate k 0)).toArray 73)) (l := List.replicate n false) (g := w.heap.size) (by rw [words_false, ← hk]; exact Row.new w _ _) (by simpa using h) (n := n) (k := k) (by simp) (by rw [List.length_replicate]; exact hk)
    rw [World.size_alloc] at hr
    exact hr)
  clear h hk
  go_enter Tryd.func9, Tryd.ntmps9
  go_wp2_with fail
  refine wp_scope_jump 1 fun R hR hJm => ?_
  go_wp2_with fail
  refine (h1.out _).mono ?_
  rintro e w1 ⟨rfl, rfl⟩
  go_wp2_with fail
  refine (h2.out _).mono ?_
  rintro e w1 ⟨rfl, rfl⟩
  go_wp2_with fail
  refine hR.out _ _ _ _ (by simp) ?_
  go_ret2
  exact hfin.out

/-- is a place marked? -/
def getB (l : List Bool) (at_ : Int) : Bool := if at_ < 0 then false else (l[at_.toNat]?).getD false
theorem has_any (m : Value) (l : List Bool) (at_ : Int) (w : World) (h : Mk w m l) : Calls Tryd.prog 15 #[m, .int .i64 at_] w fun e w' => e = .returned (.bool (getB l at_)) ∧ Below w.heap.size w w' := by
  rcases h with ⟨h, rfl⟩ | ⟨b, g, rfl, h⟩
  · have e : getB [] at_ = false := by unfold getB; split <;> simp
    rw [e]
    exact has_none m at_ w h
  · by_cases ha : at_ < 0 ∨ (l.length : Int) ≤ at_
    · have e : getB l at_ = false := by
        unfold getB
        split
        · rfl
        · rw [List.getElem?_eq_none (by omega)]; rfl
      rw [e]
      exact has_out b g l at_ w h ha
    · obtain ⟨k, rfl⟩ : ∃ k : Nat, at_ = k := ⟨at_.toNat, by omega⟩
      have e : getB l (k : Int) = (l[k]?).getD false := by
        unfold getB
        rw [if_neg (by omega), Int.toNat_natCast]
      rw [e]
      exact has_in b g l k w h (by omega)

theorem set_non (m : Value) (at_ : Int) (is : Bool) (w : World) (h : Non w m) : Calls Tryd.prog 11 #[m, .int .i64 at_, .bool is] w fun e w' => e = .returned (.tuple #[.bool false, .int .i64 1]) ∧ Below w.heap.size w w' := by
  go_enter Tryd.func11, Tryd.ntmps11
  go_wp2_with fail
  refine wp_scope_jump 1 fun R hR hJm => ?_
  go_wp2_with fail
  refine (placeOf_any _ _).mono ?_
  rintro e w1 ⟨⟨p, q, rfl⟩, hb1⟩
  have h1 := h.below hb1
  go_wp2_with fail
  refine (has_none m at_ _ h1).mono ?_
  rintro e w2 ⟨rfl, hb2⟩
  have hB2 := below0 hb1 hb2
  have h2 := Lib.hid (none_any _ m ((h1.below hb2).below (below1 w2 (.cells #[.int .i64 p, .int .i64 q] 71))))
  clear h1 hb1 hb2 h
  go_wp2_with fail
  refine (h2.out).mono ?_
  rintro e w3 ⟨rfl, rfl⟩
  go_wp2_with fail
  refine wp_goto (hJm.out _ _ _ _ _ rfl ?_)
  go_wp2_with fail
  refine hR.out _ _ _ _ (by simp) ?_
  go_ret2
  exact ⟨rfl, hB2.alloc hB2.size _⟩
theorem set_out (b g : Nat) (l : List Bool) (at_ : Int) (is : Bool) (w : World) (h : Rep w b g l) (ha : at_ < 0 ∨ (l.length : Int) ≤ at_) : Calls Tryd.prog 11 #[.pointer (some ⟨b, 0, none⟩), .int .i64 at_, .bool is] w fun e w' => e = .returned (.tuple #[.bool false, .int .i64 4]) ∧ Below w.heap.size w w' := by
  have hh := Lib.hid (fun w => holds_out l.length at_ w ha)
  have HA := Lib.hid ha
  clear ha
  go_enter Tryd.func11, Tryd.ntmps11
  go_wp2_with fail
  refine wp_scope_jump 1 fun R hR hJm => ?_
  go_wp2_with fail
  refine (placeOf_any _ _).mono ?_
  rintro e w1 ⟨⟨p, q, rfl⟩, hb1⟩
  have h1 := h.below hb1
  go_wp2_with fail
  refine (has_out b g l at_ _ h1 HA.out).mono ?_
  rintro e w2 ⟨rfl, hb2⟩
  have hB2 := below0 hb1 hb2
  have h3 := ((h1.below hb2).below (below1 w2 (.cells #[.int .i64 p, .int .i64 q] 71)))
  have h2 := Lib.hid (none_not _ b _ (h3.obj.cell 0) (h3.obj.cell 2))
  have hc0 : (w2.alloc (.cells #[.int .i64 p, .int .i64 q] 71)).cell? ⟨b, 0, none⟩ = some (.int .i64 (l.length : Int)) := h3.obj.cell 0
  clear h1 hb1 hb2 h h3
  go_wp2_with fail
  refine (h2.out).mono ?_
  rintro e w3 ⟨rfl, rfl⟩
  go_wp2_with fail
  refine (hh.out _).mono ?_
  rintro e w3 ⟨rfl, rfl⟩
  go_wp2_with fail
  refine wp_goto (hJm.out _ _ _ _ _ rfl ?_)
  go_wp2_with fail
  refine hR.out _ _ _ _ (by simp) ?_
  go_ret2
  exact ⟨rfl, hB2.alloc hB2.size _⟩

theorem rep_set {w : World} {b g k y : Nat} {l : List Bool} {is : Bool} (h : Rep w b g l) (hy : y = val (chunk (l.set k is) (k / 64))) : Rep (w.setCell ⟨g, k / 64, none⟩ (.int .u64 (y : Int))) b g (l.set k is) := by
  have hr := h.row.set (k / 64) (.int .u64 (y : Int))
  rw [wds_set, hy, ← words_set] at hr
  have hl : (l.set k is).length = l.length := by simp
  refine ⟨?_, by rw [hy]; exact hr, by rw [hl]; exact h.most⟩
  rw [hl]
  exact h.obj.same (heap_set h.ne)
theorem was_same {l : List Bool} {k : Nat} {is : Bool} (hk : k < l.length) (h : (l[k]?).getD false = is) : l.set k is = l := by
  rw [List.getElem?_eq_getElem hk] at h
  rw [← show l[k] = is from h]
  simp

def SetP (w : World) (b g : Nat) (l : List Bool) (k : Nat) (is : Bool) (e : Ending) (w' : World) : Prop :=
  e = .returned (.tuple #[.bool ((l[k]?).getD false), .int .i64 0]) ∧ Rep w' b g (l.set k is) ∧ Keep (· = g) w w'

set_option maxHeartbeats 2000000 in
theorem set_in (b g : Nat) (l : List Bool) (k : Nat) (is : Bool) (w : World) (h : Rep w b g l) (hk : k < l.length) : Calls Tryd.prog 11 #[.pointer (some ⟨b, 0, none⟩), .int .i64 (k : Int), .bool is] w (SetP w b g l k is) := by
  have hm := h.most
  have hgw := h.row.lt
  have hh := Lib.hid (fun w => holds_in l.length k w hk)
  have hpl := Lib.hid (fun w => placeOf_in k w (by omega))
  have HK := Lib.hid hk
  obtain ⟨p, hp⟩ : ∃ p, p = k / 64 := ⟨_, rfl⟩
  obtain ⟨q, hq⟩ : ∃ q, q = k % 64 := ⟨_, rfl⟩
  have hq64 : q < 64 := by rw [hq]; exact Nat.mod_lt _ (by omega)
  rw [← hp, ← hq] at hpl
  have HP := Lib.hid hp
  have HQ := Lib.hid hq
  have h4 := Lib.hid (fun w => bit_any (p : Int) q w hq64)
  obtain ⟨r, hr⟩ : ∃ r, r = 2 ^ q := ⟨_, rfl⟩
  have hr64 : r < 18446744073709551616 := by rw [hr]; exact pow64 hq64
  rw [← hr] at h4
  have HR := Lib.hid hr
  clear hk hp hq hr
  go_enter Tryd.func11, Tryd.ntmps11
  go_wp2_with fail
  refine wp_scope_jump 1 fun R hR hJm => ?_
  go_wp2_with fail
  refine (hpl.out _).mono ?_
  rintro e w1 ⟨rfl, hb1⟩
  have h1 := h.below hb1
  go_wp2_with fail
  refine (has_in b g l k _ h1 HK.out).mono ?_
  rintro e w2 ⟨rfl, hb2⟩
  obtain ⟨was, hw⟩ : ∃ was, was = (l[k]?).getD false := ⟨_, rfl⟩
  rw [← hw]
  have HW := Lib.hid hw
  clear hw
  have hB2 := below0 hb1 hb2
  obtain ⟨w3, hw3⟩ : ∃ w3, w3 = w2.alloc (.cells #[.int .i64 (p : Int), .int .i64 (q : Int)] 71) := ⟨_, rfl⟩
  have hB3 : Below w.heap.size w w3 := by rw [hw3]; exact hB2.alloc hB2.size _
  have h3 : Rep w3 b g l := h.below hB3
  have hep : w3.cell? ⟨w2.heap.size, 0, none⟩ = some (.int .i64 (p : Int)) := by rw [hw3]; exact cell_alloc_new _ _ _ _
  have heq : w3.cell? ⟨w2.heap.size, 1, none⟩ = some (.int .i64 (q : Int)) := by rw [hw3]; exact cell_alloc_new _ _ _ _
  have hz3 : w3.heap.size = w2.heap.size + 1 := by rw [hw3]; simp
  have hgz2 : g < w2.heap.size := Nat.lt_of_lt_of_le hgw hB2.size
  have h2 := Lib.hid (none_not w3 b _ (h3.obj.cell 0) (h3.obj.cell 2))
  have hc0 : w3.cell? ⟨b, 0, none⟩ = some (.int .i64 (l.length : Int)) := h3.obj.cell 0
  go_wp2_with fail
  rw [← hw3]
  clear hw3 h1 hb1 hb2 hB2 h
  refine (h2.out).mono ?_
  rintro e w4 ⟨rfl, rfl⟩
  go_wp2_with fail
  refine (hh.out _).mono ?_
  rintro e w4 ⟨rfl, rfl⟩
  by_cases hne : was = is
  · subst hne
    have hfin := Lib.hid (show SetP w b g l k was (.returned (.tuple #[.bool was, .int .i64 0])) w3 from by
      refine ⟨by rw [HW.out], ?_, Keep.of_below hB3⟩
      rw [was_same HK.out HW.out.symm]
      exact h3)
    go_wp2_with fail
    refine hR.out _ _ _ _ (by simp) ?_
    go_ret2
    exact hfin.out
  · have hbb : (was == is) = false := by simpa using hne
    obtain ⟨n, hn⟩ : ∃ n, n = nw l.length := ⟨_, rfl⟩
    have hkn : p < n := by rw [hn, HP.out]; have := HK.out; unfold nw; omega
    have hn64 : n ≤ 64 := by rw [hn]; unfold nw; omega
    have hc1 : w3.cell? ⟨b, 1, none⟩ = some (.slice (some ⟨g, 0, none⟩) n n) := by rw [hn]; exact h3.obj.cell 1
    have hcg : w3.cell? ⟨g, p, none⟩ = some (.int .u64 ((val (chunk l (k / 64)) : Nat) : Int)) := by
      rw [h3.row.cell p, HP.out]
      exact wds_get _ (words_get l (by rw [← hn, ← HP.out]; exact hkn))
    have hfg : w3.frozen? ⟨g, p, none⟩ = false := h3.row.frozen p
    obtain ⟨x, hx⟩ : ∃ x, x = val (chunk l (k / 64)) := ⟨_, rfl⟩
    rw [← hx] at hcg
    obtain ⟨y, hy⟩ : ∃ y, y = val (chunk (l.set k is) (k / 64)) := ⟨_, rfl⟩
    have hxor : bits BinOp.xor .u64 (x : Int) (r : Int) = (y : Int) := by
      rw [bits_xor_u64_nat _ _ (by rw [hx]; exact chunk_lt _ _) hr64, hy, xor_set l k HK.out is ?_, hx, HR.out, HQ.out]
      have := HW.out
      rw [List.getElem?_eq_getElem HK.out] at this
      intro h
      exact hne (this.trans h)
    have hfin := Lib.hid (show SetP w b g l k is (.returned (.tuple #[.bool was, .int .i64 0])) (((w3.setCell ⟨g, p, none⟩ (.int .u64 (y : Int))).alloc (.cells #[.int .i64 (p : Int), .int .i64 (q : Int)] 71)).drew) from by
      refine ⟨by rw [HW.out], ?_, (((Keep.of_below (F := (· = g)) hB3).set (b := g) _ (.inl rfl)).alloc _).drewN 1⟩
      have h4 := rep_set (is := is) h3 hy
      rw [← HP.out] at h4
      exact (h4.below (below1 _ _)).same rfl rfl)
    have hbl := h3.obj.lt
    have hgl := h3.row.lt
    have hgn : ¬ g = w2.heap.size := by omega
    have h0p : (0 : Int) ≤ (p : Int) := by omega
    have h1p : (p : Int) < (n : Int) := by omega
    have hzp : w2.heap.size < w3.heap.size := by omega
    have hfa : ∀ o, (w3.alloc o).frozen? ⟨g, p, none⟩ = false := fun o => (World.frozen?_of_block (Below.heap_alloc _ _ _ hgl)).trans hfg
    clear hn hx hy hne h2
    go_wp2_with fail
    have hbg1 : ¬ b = g := h3.ne
    have hbg2 : ¬ g = b := fun e => h3.ne e.symm
    have hgz : g < w2.heap.size + 1 := by omega
    have hga : ∀ o, (w3.alloc o).cell? ⟨g, p, none⟩ = some (.int .u64 (x : Int)) := fun o => (World.cell?_alloc_lt _ _ _ hgl).trans hcg
    have hba : ∀ o, (w3.alloc o).cell? ⟨b, 1, none⟩ = some (.slice (some ⟨g, 0, none⟩) n n) := fun o => (World.cell?_alloc_lt _ _ _ hbl).trans hc1
    have hp0 : ∀ o, (w3.alloc o).cell? ⟨w2.heap.size, 0, none⟩ = some (.int .i64 (p : Int)) := fun o => (World.cell?_alloc_lt _ _ _ hzp).trans hep
    have hp1 : ∀ o, (w3.alloc o).cell? ⟨w2.heap.size, 1, none⟩ = some (.int .i64 (q : Int)) := fun o => (World.cell?_alloc_lt _ _ _ hzp).trans heq
    have hg2 : ¬ g = w2.heap.size := hgn
    have hg3 : ¬ w2.heap.size = g := fun e => hgn e.symm
    clear h3 hgn
    have hs1 : ∀ (d o' : Nat) (v u : Value) {ob : Obj} (_ : d < w3.heap.size) (_ : ¬ g = d) (_ : w3.cell? ⟨d, o', none⟩ = some u), ((w3.setCell ⟨g, p, none⟩ v).alloc ob).cell? ⟨d, o', none⟩ = some u := fun d o' v u ob hd hn hc =>
      (World.cell?_alloc_lt _ _ _ (by rw [World.size_setCell]; exact hd)).trans ((World.cell?_setCell_other _ _ _ _ (fun e => hn (congrArg Addr.block e))).trans hc)
    refine wp_region_noPanic ?_
    refine wp_region_held_drew (S := fun W => W.cell? ⟨b, 1, none⟩ = some (.slice (some ⟨g, 0, none⟩) n n) ∧ W.cell? ⟨w2.heap.size, 0, none⟩ = some (.int .i64 (p : Int)) ∧ W.cell? ⟨w2.heap.size, 1, none⟩ = some (.int .i64 (q : Int))) (by kernel_rfl) ⟨hc1, hep, heq⟩ (fun hHeld => ?_)
    refine wpAnyH_take (i := 0) (v := ?_) rfl (by kernel_rfl) (by kernel_rfl) (by kernel_rfl) (fun _ _ _ h => h) (Or.inl ⟨by kernel_rfl, ?_⟩) hHeld ?_
    rotate_left
    focus (intro w hSw; (try dsimp only at hSw); go_simp; try with_reducible rfl)
    refine wpAnyH_take (i := 1) (v := ?_) rfl (by kernel_rfl) (by kernel_rfl) (by kernel_rfl) (fun _ _ _ h => h) (Or.inl ⟨by kernel_rfl, ?_⟩) hHeld ?_
    rotate_left
    focus (intro w hSw; (try dsimp only at hSw); go_simp; try with_reducible rfl)
    refine wpAnyH_take (i := 2) (v := ?_) rfl (by kernel_rfl) (by kernel_rfl) (by kernel_rfl) (fun _ _ _ h => h) (Or.inl ⟨by kernel_rfl, ?_⟩) hHeld ?_
    rotate_left
    focus (intro w hSw; (try dsimp only at hSw); go_simp; try with_reducible rfl)
    refine wpAnyH_take (i := 3) (v := ?_) rfl (by kernel_rfl) (by kernel_rfl) (by kernel_rfl) (fun _ _ _ h => h) (Or.inl ⟨by kernel_rfl, ?_⟩) hHeld ?_
    rotate_left
    focus (intro w hSw; (try dsimp only at hSw); go_simp; try with_reducible rfl)
    refine wpAnyH_take (i := 4) (v := ?_) rfl (by kernel_rfl) (by kernel_rfl) (by kernel_rfl) (fun _ _ _ h => h) (Or.inl ⟨by kernel_rfl, ?_⟩) hHeld ?_
    rotate_left
    focus (intro w hSw; (try dsimp only at hSw); go_simp; try with_reducible rfl)
    refine wpAnyH_take (i := 5) (v := ?_) rfl (by kernel_rfl) (by kernel_rfl) (by kernel_rfl) (fun _ _ _ h => h) (Or.inl ⟨by kernel_rfl, ?_⟩) hHeld ?_
    rotate_left
    focus (intro w hSw; (try dsimp only at hSw); go_simp; try with_reducible rfl)
    refine wpAnyH_take (i := 6) (v := ?_) rfl (by kernel_rfl) (by kernel_rfl) (by kernel_rfl) (fun _ _ _ h => h) (Or.inl ⟨by kernel_rfl, ?_⟩) hHeld ?_
    rotate_left
    focus (intro w hSw; (try dsimp only at hSw); go_simp; try with_reducible rfl)
    refine wpAnyH_take (i := 8) (v := ?_) rfl (by kernel_rfl) (by kernel_rfl) (by kernel_rfl) (fun _ _ _ h => h) (Or.inl ⟨by kernel_rfl, ?_⟩) hHeld ?_
    rotate_left
    focus (intro w hSw; (try dsimp only at hSw); go_simp; try with_reducible rfl)
    refine wpAnyH_ready (rs := [7, 9]) (by kernel_rfl) (by simp) ?_
    refine AllReadyH.cons rfl (fun K hK => ?_) (AllReadyH.cons rfl (fun K hK => ?_) AllReadyH.nil)
    · go_simp
      refine hK.out _ _ ⟨hc1, hep, heq⟩ (fun hHeld => ?_)
      clear hK K
      refine wpAnyH_ready (rs := [9]) (by kernel_rfl) (by simp) ?_
      refine AllReadyH.cons rfl (fun K hK => ?_) AllReadyH.nil
      go_simp
      refine (h4.out _).mono ?_
      rintro e w' ⟨rfl, rfl⟩
      refine hK.out _ _ ⟨hba _, hp0 _, hp1 _⟩ (fun hHeld => ?_)
      clear hK K
      refine wpAnyH_take (i := 10) (v := ?_) rfl (by kernel_rfl) (by kernel_rfl) (by kernel_rfl) (fun _ _ _ h => h) (Or.inl ⟨by kernel_rfl, ?_⟩) hHeld ?_
      rotate_left
      focus (intro w hSw; (try dsimp only at hSw); go_simp; try with_reducible rfl)
      refine wpAnyH_take (i := 11) (v := ?_) rfl (by kernel_rfl) (by kernel_rfl) (by kernel_rfl) (fun _ _ _ h => h) (Or.inl ⟨by kernel_rfl, ?_⟩) hHeld ?_
      rotate_left
      focus (intro w hSw; (try dsimp only at hSw); go_simp; try with_reducible rfl)
      refine wpAnyH_ready (rs := [12]) (by kernel_rfl) (by simp) ?_
      refine AllReadyH.cons rfl (fun K hK => ?_) AllReadyH.nil
      go_simp
      refine hK.out _ _ ⟨hs1 _ _ _ _ hbl hbg2 hc1, hs1 _ _ _ _ hzp hg2 hep, hs1 _ _ _ _ hzp hg2 heq⟩ (fun _ => ?_)
      clear hK K
      refine wpAnyH_done (by kernel_rfl) ?_ _
      refine NoPanic.normal ?_
      go_wp2_with fail
      refine hR.out _ _ _ _ (by simp) ?_
      go_ret2
      exact hfin.out
    · go_simp
      refine (h4.out _).mono ?_
      rintro e w' ⟨rfl, rfl⟩
      refine hK.out _ _ ⟨hba _, hp0 _, hp1 _⟩ (fun hHeld => ?_)
      clear hK K
      refine wpAnyH_ready (rs := [7]) (by kernel_rfl) (by simp) ?_
      refine AllReadyH.cons rfl (fun K hK => ?_) AllReadyH.nil
      go_simp
      refine hK.out _ _ ⟨hba _, hp0 _, hp1 _⟩ (fun hHeld => ?_)
      clear hK K
      refine wpAnyH_take (i := 10) (v := ?_) rfl (by kernel_rfl) (by kernel_rfl) (by kernel_rfl) (fun _ _ _ h => h) (Or.inl ⟨by kernel_rfl, ?_⟩) hHeld ?_
      rotate_left
      focus (intro w hSw; (try dsimp only at hSw); go_simp; try with_reducible rfl)
      refine wpAnyH_take (i := 11) (v := ?_) rfl (by kernel_rfl) (by kernel_rfl) (by kernel_rfl) (fun _ _ _ h => h) (Or.inl ⟨by kernel_rfl, ?_⟩) hHeld ?_
      rotate_left
      focus (intro w hSw; (try dsimp only at hSw); go_simp; try with_reducible rfl)
      refine wpAnyH_ready (rs := [12]) (by kernel_rfl) (by simp) ?_
      refine AllReadyH.cons rfl (fun K hK => ?_) AllReadyH.nil
      go_simp
      refine hK.out _ _ ⟨hs1 _ _ _ _ hbl hbg2 hc1, hs1 _ _ _ _ hzp hg2 hep, hs1 _ _ _ _ hzp hg2 heq⟩ (fun _ => ?_)
      clear hK K
      refine wpAnyH_done (by kernel_rfl) ?_ _
      refine NoPanic.normal ?_
      go_wp2_with fail
      refine hR.out _ _ _ _ (by simp) ?_
      go_ret2
      exact hfin.out
end Go.Proofs.YtbiopegophdgiaaDoor
