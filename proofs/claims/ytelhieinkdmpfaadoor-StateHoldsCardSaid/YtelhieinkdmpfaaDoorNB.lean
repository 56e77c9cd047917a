import Derived.Test.YtelhieinkdmpfaaDoorNA
namespace Go.Proofs.YtelhieinkdmpfaaDoor.Sh
open Go.RowKit Go.Shelf
attribute [local go_sem] Oper.semAt_some

/- THE CODE's NEW, GET, MOVE, LEN, COPY. -/
theorem st_info : (Tryd.prog.info? 23).map (fun i => (i.zero, i.size, i.bytes)) = some (some (.int .i64 0), 1, 8) := by kernel_rfl
def NewP (w : World) (l : Ls) (e : Ending) (w' : World) : Prop := ∃ b g c rest, e = .returned (.tuple #[pb b, .int .i64 0]) ∧ SRep w' b g c l rest ∧ w.heap.size ≤ b ∧ w.heap.size ≤ g ∧ Below w.heap.size w w'
theorem new_ok (w : World) (n : Nat) (h : n ≤ 256) : Calls Tryd.prog 13 #[.int .i64 (n : Int)] w (NewP w (zs n)) := by
  obtain ⟨i0, hi, hz0, hz1, hz2⟩ := info_parts st_info
  have h1 : decide ((n : Int) < 0) = false := decide_eq_false (by omega)
  have h2 : decide ((256 : Int) < (n : Int)) = false := decide_eq_false (by omega)
  have hm := make_one (P := Tryd.prog) Tryd.underlying38 hi hz0 hz1 rfl n n (Nat.le_refl _) (by rw [hz2]; omega) (by omega) w
  obtain ⟨W1, hW1⟩ : ∃ W1, W1 = w.alloc (.cells (List.replicate n (.int .i64 0)).toArray 23) := ⟨_, rfl⟩
  have hr : Row W1 w.heap.size 23 (izs (zs n) ++ []) := by
    rw [hW1, List.append_nil, show izs (zs n) = List.replicate n (.int .i64 0) by unfold izs zs; rw [List.map_replicate]]
    exact Row.new w 23 _
  have hb : Below w.heap.size w W1 := by rw [hW1]; exact below1 _ _
  have HF := Lib.hid (show NewP w (zs n) (.returned (.tuple #[pb W1.heap.size, .int .i64 0])) (W1.alloc (.cells #[.slice (some ⟨w.heap.size, 0, none⟩) n n] 40)) from
    ⟨_, w.heap.size, n, [], rfl, ⟨by rw [zs_len]; exact Row.new W1 40 [.slice (some ⟨w.heap.size, 0, none⟩) n n], hr.below (below1 _ _), by rw [zs_len]; exact Nat.le_refl _, by rw [zs_len]; exact h, zs_sts n⟩, hb.size, Nat.le_refl _, hb.alloc hb.size _⟩)
  rw [← hW1] at hm
  clear hi hz0 hz1 hz2 hW1 hr hb
  go_enter Tryd.func13, Tryd.ntmps13
  go_wp2_with fail
  refine wp_scope_jump 1 fun R hR hJm => ?_
  go_wp2_with fail
  refine hR.out _ _ _ _ (by simp) ?_
  go_ret2
  exact HF.out
theorem new_no (w : World) (z : Int) (h : z < 0 ∨ 256 < z) : Calls Tryd.prog 13 #[.int .i64 z] w fun e w' => e = .returned (.tuple #[.pointer none, .int .i64 2]) ∧ Below w.heap.size w w' := by
  by_cases h0 : z < 0
  · have h1 : decide (z < 0) = true := decide_eq_true h0
    clear h
    go_enter Tryd.func13, Tryd.ntmps13
    go_wp2_with fail
    refine wp_scope_jump 1 fun R hR hJm => ?_
    go_wp2_with fail
    refine wp_goto (hJm.out _ _ _ _ _ rfl ?_)
    go_wp2_with fail
    refine hR.out _ _ _ _ (by simp) ?_
    go_ret2
    exact ⟨rfl, Below.refl _ _⟩
  · have h1 : decide (z < 0) = false := decide_eq_false h0
    have h2 : decide (256 < z) = true := decide_eq_true (by omega)
    clear h h0
    go_enter Tryd.func13, Tryd.ntmps13
    go_wp2_with fail
    refine wp_scope_jump 1 fun R hR hJm => ?_
    go_wp2_with fail
    refine wp_goto (hJm.out _ _ _ _ _ rfl ?_)
    go_wp2_with fail
    refine hR.out _ _ _ _ (by simp) ?_
    go_ret2
    exact ⟨rfl, Below.refl _ _⟩
section
variable {w : World} {v : Value} {l : Ls} {F G : Nat → Prop}
theorem sget (z : Int) (h : HasS w v l F) : Calls Tryd.prog 16 #[v, .int .i64 z] w fun e w' => e = .returned (.tuple #[.int .i64 (getV l z), .bool (inB l z)]) ∧ Below w.heap.size w w' := by
  obtain ⟨b, g, c, rest, rfl, h, rfl⟩ := h
  have hc0 := h.c0
  have h1 := Lib.hid (there_at b _ _ _ w hc0)
  have h2 := Lib.hid (has_any (some ⟨g, 0, none⟩) l.length c z w)
  cases hin : inB l z
  · have e1 : decide (0 ≤ z ∧ z < (l.length : Int)) = false := hin
    have hv : getV l z = 0 := by unfold getV; rw [hin]; rfl
    rw [e1] at h2
    rw [hv]
    obtain ⟨n, hn⟩ : ∃ n, n = l.length := ⟨_, rfl⟩
    rw [← hn] at hc0 h2
    clear e1 hv hin hn h
    go_enter Tryd.func16, Tryd.ntmps16
    go_wp2_with fail
    refine h1.out.mono ?_
    rintro e w1 ⟨rfl, rfl⟩
    go_wp2_with fail
    refine h2.out.mono ?_
    rintro e w1 ⟨rfl, rfl⟩
    go_wp2_with fail
    go_ret2
    exact ⟨rfl, Below.refl _ _⟩
  · have e1 : decide (0 ≤ z ∧ z < (l.length : Int)) = true := hin
    have e2 := of_decide_eq_true e1
    have hk : z.toNat < l.length := by omega
    have hv : getV l z = l[z.toNat] := by unfold getV; rw [hin, if_pos rfl, getD_get hk]
    have hc1 : w.cell? ⟨g, z.toNat, none⟩ = some (.int .i64 l[z.toNat]) := by
      rw [h.row.cell, List.getElem?_append_left (by rw [izs_len]; exact hk)]
      exact izs_get l hk
    obtain ⟨x, hx⟩ : ∃ x, x = l[z.toNat] := ⟨_, rfl⟩
    rw [← hx] at hv hc1
    rw [e1] at h2
    rw [hv]
    clear hx
    obtain ⟨k, rfl⟩ : ∃ k : Nat, z = k := ⟨z.toNat, by omega⟩
    rw [Int.toNat_natCast] at hc1
    obtain ⟨n, hn⟩ : ∃ n, n = l.length := ⟨_, rfl⟩
    rw [← hn] at hc0 h2 e2
    have j0 : (0 : Int) ≤ (k : Int) := by omega
    have j1 : (k : Int) < (n : Int) := by omega
    clear e1 e2 hk hv hin hn h
    go_enter Tryd.func16, Tryd.ntmps16
    go_wp2_with fail
    refine h1.out.mono ?_
    rintro e w1 ⟨rfl, rfl⟩
    go_wp2_with fail
    refine h2.out.mono ?_
    rintro e w1 ⟨rfl, rfl⟩
    go_wp2_with fail
    go_ret2
    exact ⟨rfl, Below.refl _ _⟩
theorem get_non (z : Int) (h : NonS w v G) : Calls Tryd.prog 16 #[v, .int .i64 z] w fun e w' => e = .returned (.tuple #[.int .i64 0, .bool false]) ∧ Below w.heap.size w w' := by
  have h1 := Lib.hid (there_non v G w h)
  obtain ⟨pv, rfl⟩ := h.ptr
  clear h
  go_enter Tryd.func16, Tryd.ntmps16
  go_wp2_with fail
  refine h1.out.mono ?_
  rintro e w1 ⟨rfl, rfl⟩
  go_wp2_with fail
  go_ret2
  exact ⟨rfl, Below.refl _ _⟩
theorem slen (h : HasS w v l F) : Calls Tryd.prog 18 #[v] w fun e w' => e = .returned (.int .i64 (l.length : Int)) ∧ Below w.heap.size w w' := by
  obtain ⟨b, g, c, rest, rfl, h, rfl⟩ := h
  have h1 := Lib.hid (slots_at b _ _ _ w h.c0)
  obtain ⟨n, hn⟩ : ∃ n, n = l.length := ⟨_, rfl⟩
  rw [← hn] at h1 ⊢
  clear hn h
  go_enter Tryd.func18, Tryd.ntmps18
  go_wp2_with fail
  refine h1.out.mono ?_
  rintro e w1 ⟨rfl, rfl⟩
  go_wp2_with fail
  go_ret
  exact ⟨rfl, Below.refl _ _⟩
theorem len_non (h : NonS w v G) : Calls Tryd.prog 18 #[v] w fun e w' => e = .returned (.int .i64 0) ∧ Below w.heap.size w w' := by
  have h1 := Lib.hid (slots_non v G w h)
  clear h
  go_enter Tryd.func18, Tryd.ntmps18
  go_wp2_with fail
  refine h1.out.mono ?_
  rintro e w1 ⟨rfl, rfl⟩
  go_wp2_with fail
  go_ret
  exact ⟨rfl, Below.refl _ _⟩
end
/-- what an append of a list onto an empty one gives -/
theorem app_st {w w4 : World} {v' : Value} {n : Nat} {l : Ls} (h1 : w4.ownsRow w.heap.size 23 1 v' n (izs l)) (h2 : (w.alloc (.cells #[] 23)).grownBy w4 (some w.heap.size)) (h3 : v'.ownBlock = some w.heap.size ∨ v'.ownBlock = some (w.heap.size + 1)) :
    ∃ g c rest, v' = .slice (some ⟨g, 0, none⟩) n c ∧ n ≤ c ∧ w.heap.size ≤ g ∧ Row w4 g 23 (izs l ++ rest) ∧ Below w.heap.size w w4 := by
  have hb : Below w.heap.size w w4 := (below1 w _).grown h2 (by simp) (fun k hk => by injection hk with hk; omega)
  obtain ⟨_, ⟨rfl, _⟩ | ⟨g, cap, cur, rfl, hg0, hg, hn, _, hc, ht⟩⟩ := h1
  · rcases h3 with h | h <;> cases h
  · refine ⟨g, cap, cur.toList.drop (n * 1), rfl, hn, hg0, ?_, hb⟩
    rw [← ht, List.take_append_drop]
    exact hg
def CloneP (w : World) (l : Ls) (e : Ending) (w' : World) : Prop := ∃ g c rest, e = .returned (.slice (some ⟨g, 0, none⟩) l.length c) ∧ l.length ≤ c ∧ w.heap.size ≤ g ∧ Row w' g 23 (izs l ++ rest) ∧ Below w.heap.size w w'
set_option maxHeartbeats 1000000 in
theorem clone_any (ad : Addr) (n c : Nat) (l : Ls) (w : World) (hl : l.length = n) (hn : n ≤ 300) (h : Sees w w.heap.size (some ad) (izs l)) :
    Calls Tryd.prog 38 #[.slice (some ad) n c] w (CloneP w l) := by
  obtain ⟨i0, hi, hz0, hz1, hz2⟩ := info_parts st_info
  have hr := Lib.hid ((h.alloc (Nat.le_refl _) (.cells #[] 23)).more (show w.heap.size ≤ w.heap.size + 1 by omega))
  have hown : (w.alloc (.cells #[] 23)).ownsRow w.heap.size 23 1 (.slice (some ⟨w.heap.size, 0, none⟩) 0 0) 0 [] :=
    ⟨rfl, .inr ⟨_, _, _, rfl, Nat.le_refl _, World.alloc_heap_new w _, Nat.le_refl _, Nat.zero_le _, rfl, rfl⟩⟩
  have HF := Lib.hid (fun w4 v' h1 h2 h3 => app_st (w := w) (w4 := w4) (v' := v') (n := n) (l := l) h1 h2 h3)
  have HL := Lib.hid (show (izs l).length = n * 1 by rw [izs_len, hl, Nat.mul_one])
  have HO := Lib.hid (izs_one (l := l))
  have hnn : ∀ W, (binOp .eql 38 (.slice (some ad) n c) (.slice none 0 0)).run Tryd.prog W = .ok (.bool false) W := fun W => by
    simp only [binOp]
    simp [run_equal_slice_nil W _ _ _ _ _ Tryd.underlying38]
  have HG : Hid (∀ e w', (∃ g c rest, e = .returned (.slice (some ⟨g, 0, none⟩) n c) ∧ n ≤ c ∧ w.heap.size ≤ g ∧ Row w' g 23 (izs l ++ rest) ∧ Below w.heap.size w w') → CloneP w l e w') := Lib.hid (fun _ _ h => by rw [← hl] at h; exact h)
  obtain ⟨ys, hys⟩ : ∃ ys, ys = izs l := ⟨_, rfl⟩
  rw [← hys] at hr HF HL HO HG
  clear h hl hys
  go_enter Tryd.func38, Tryd.ntmps38
  go_wp2_with (at_builtin; refine wpList_append_sees rfl (.tmp 5) (.tmp 6) 38 rfl w.heap.size 23 i0 _ 1 8 Tryd.underlying38 hi hz0 hz1 hz2 rfl (by decide) _ 0 [] rfl hown (w.heap.size + 1) (some ad) n c ys rfl HL.out hr.out HO.out (by unfold maxLen; omega) (by omega) (by simp) ?_; intro v' w4 h1 h2 h3; rw [Nat.zero_add, List.nil_append] at h1; have hfin := HF.out w4 v' h1 h2 (by rw [World.size_alloc] at h3; exact h3); obtain ⟨g', c', rest', rfl, hc', hg', hl', hb'⟩ := hfin; have hfin := Lib.hid (HG.out _ w4 ⟨g', c', rest', rfl, hc', hg', hl', hb'⟩); clear h1 h2 h3 hc' hg' hl' hb')
  go_ret
  exact hfin.out
section
variable {w : World} {v : Value} {l : Ls} {F G : Nat → Prop}
theorem scopy (h : HasS w v l F) : Calls Tryd.prog 22 #[v] w fun e w' => ∃ v' F', e = .returned v' ∧ HasS w' v' l F' ∧ (∀ k, F' k → w.heap.size ≤ k) ∧ Below w.heap.size w w' := by
  obtain ⟨b, g, c, rest, rfl, h, rfl⟩ := h
  have hc0 := h.c0
  have h1 := Lib.hid (there_at b _ _ _ w hc0)
  have h2 := Lib.hid (clone_any ⟨g, 0, none⟩ l.length c l w rfl (by have := h.most; omega) h.sees)
  have HF : Hid (∀ W g' c' rest', l.length ≤ c' → w.heap.size ≤ g' → Row W g' 23 (izs l ++ rest') → Below w.heap.size w W → HasS (W.alloc (.cells #[.slice (some ⟨g', 0, none⟩) l.length c'] 40)) (pb W.heap.size) l (fun k => k = W.heap.size ∨ k = g')) := Lib.hid (fun W g' c' rest' a1 _ a3 _ =>
    ⟨_, g', c', rest', rfl, ⟨Row.new W 40 [.slice (some ⟨g', 0, none⟩) l.length c'], a3.below (below1 _ _), a1, h.most, h.sts⟩, rfl⟩)
  have HS := Lib.hid (show CloneP w l = CloneP w l from rfl)
  obtain ⟨n, hn⟩ : ∃ n, n = l.length := ⟨_, rfl⟩
  have HC : Hid (∀ e W, CloneP w l e W → ∃ g c rest, e = .returned (.slice (some ⟨g, 0, none⟩) n c) ∧ n ≤ c ∧ w.heap.size ≤ g ∧ Row W g 23 (izs l ++ rest) ∧ Below w.heap.size w W) := Lib.hid (fun e W h => by rw [hn]; exact h)
  rw [← hn] at h2 hc0 HF
  clear hn h HS
  go_enter Tryd.func22, Tryd.ntmps22
  go_wp2_with fail
  refine h1.out.mono ?_
  rintro e w1 ⟨rfl, rfl⟩
  go_wp2_with fail
  refine h2.out.mono ?_
  intro e w1 hcl
  obtain ⟨g', c', rest', rfl, a1, a2, a3, a4⟩ := HC.out _ _ hcl
  have HFIN := Lib.hid (And.intro (HF.out w1 g' c' rest' a1 a2 a3 a4) (And.intro a2 a4))
  clear hcl a1 a2 a3 a4 HC HF h2
  go_wp2_with fail
  go_ret
  have hs := HFIN.out.2.2.size
  exact ⟨_, _, rfl, HFIN.out.1, fun k hk => by rcases hk with rfl | rfl; exact hs; exact HFIN.out.2.1, HFIN.out.2.2.alloc hs _⟩
theorem copy_non (h : NonS w v G) : Calls Tryd.prog 22 #[v] w fun e w' => e = .returned (.pointer none) ∧ Below w.heap.size w w' := by
  have h1 := Lib.hid (there_non v G w h)
  obtain ⟨pv, rfl⟩ := h.ptr
  clear h
  go_enter Tryd.func22, Tryd.ntmps22
  go_wp2_with fail
  refine h1.out.mono ?_
  rintro e w1 ⟨rfl, rfl⟩
  go_wp2_with fail
  go_ret
  exact ⟨rfl, Below.refl _ _⟩
end
end Go.Proofs.YtelhieinkdmpfaaDoor.Sh
