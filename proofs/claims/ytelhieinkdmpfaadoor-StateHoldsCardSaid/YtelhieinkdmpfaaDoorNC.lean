import Derived.Test.YtelhieinkdmpfaaDoorNB
namespace Go.Proofs.YtelhieinkdmpfaaDoor.Sh
open Go.RowKit Go.Shelf
attribute [local go_sem] Oper.semAt_some

/- THE CODE's MOVE. -/
theorem move_non {w : World} {v : Value} {G : Nat → Prop} (a t : Int) (h : NonS w v G) : Calls Tryd.prog 15 #[v, .int .i64 a, .int .i64 t] w fun e w' => e = .returned (.tuple #[.int .i64 0, .int .i64 1]) ∧ Below w.heap.size w w' := by
  have h1 := Lib.hid (there_non v G w h)
  obtain ⟨pv, rfl⟩ := h.ptr
  clear h
  go_enter Tryd.func15, Tryd.ntmps15
  go_wp2_with fail
  refine wp_scope_jump 1 fun R hR hJm => ?_
  go_wp2_with fail
  refine h1.out.mono ?_
  rintro e w1 ⟨rfl, rfl⟩
  go_wp2_with fail
  refine wp_goto (hJm.out _ _ _ _ _ rfl ?_)
  go_wp2_with fail
  refine hR.out _ _ _ _ (by simp) ?_
  go_ret2
  exact ⟨rfl, Below.refl _ _⟩
section
variable {w : World} {b g c : Nat} {l : Ls} {rest : List Value}
theorem move_arg (a t : Int) (h : SRep w b g c l rest) (ht : stB t = false) : Calls Tryd.prog 15 #[pb b, .int .i64 a, .int .i64 t] w fun e w' => e = .returned (.tuple #[.int .i64 0, .int .i64 2]) ∧ Below w.heap.size w w' := by
  have h1 := Lib.hid (there_at b _ _ _ w h.c0)
  have h2 := Lib.hid (known_one t w)
  rw [ht] at h2
  clear h ht
  go_enter Tryd.func15, Tryd.ntmps15
  go_wp2_with fail
  refine wp_scope_jump 1 fun R hR hJm => ?_
  go_wp2_with fail
  refine h1.out.mono ?_
  rintro e w1 ⟨rfl, rfl⟩
  go_wp2_with fail
  refine h2.out.mono ?_
  rintro e w2 ⟨rfl, rfl⟩
  go_wp2_with fail
  refine wp_goto (hJm.out _ _ _ _ _ rfl ?_)
  go_wp2_with fail
  refine hR.out _ _ _ _ (by simp) ?_
  go_ret2
  exact ⟨rfl, below1 _ _⟩
theorem move_range (a t : Int) (h : SRep w b g c l rest) (ht : stB t = true) (ha : a < 0 ∨ (l.length : Int) ≤ a) : Calls Tryd.prog 15 #[pb b, .int .i64 a, .int .i64 t] w fun e w' => e = .returned (.tuple #[.int .i64 0, .int .i64 4]) ∧ Below w.heap.size w w' := by
  have hb1 := below1 w (.cells #[.int .i64 t] 23)
  obtain ⟨W1, hW1⟩ : ∃ W1, W1 = w.alloc (.cells #[.int .i64 t] 23) := ⟨_, rfl⟩
  have hc0 := (h.below hb1).c0
  have h1 := Lib.hid (there_at b _ _ _ w h.c0)
  have h2 := Lib.hid (known_one t w)
  rw [ht] at h2
  rw [← hW1] at h2 hc0 hb1
  have HB1 := Lib.hid hb1
  have h3 := Lib.hid (has_any (some ⟨g, 0, none⟩) l.length c a W1)
  rw [show decide (0 ≤ a ∧ a < (l.length : Int)) = false from decide_eq_false (by omega)] at h3
  obtain ⟨n, hn⟩ : ∃ n, n = l.length := ⟨_, rfl⟩
  rw [← hn] at hc0 h3
  have HW1 := Lib.hid hW1
  clear h ht ha hn hb1 hW1
  go_enter Tryd.func15, Tryd.ntmps15
  go_wp2_with fail
  refine wp_scope_jump 1 fun R hR hJm => ?_
  go_wp2_with fail
  refine h1.out.mono ?_
  rintro e w1 ⟨rfl, rfl⟩
  go_wp2_with fail
  rw [← HW1.out]
  refine h2.out.mono ?_
  rintro e w2 ⟨rfl, rfl⟩
  go_wp2_with fail
  refine h3.out.mono ?_
  rintro e w3 ⟨rfl, rfl⟩
  go_wp2_with fail
  refine wp_goto (hJm.out _ _ _ _ _ rfl ?_)
  go_wp2_with fail
  refine hR.out _ _ _ _ (by simp) ?_
  go_ret2
  exact ⟨rfl, HB1.out⟩
theorem move_may (k : Nat) (t : Int) (hT : Tb w) (h : SRep w b g c l rest) (ht : stB t = true) (hk : k < l.length) (hm : mayB l[k] t = false) : Calls Tryd.prog 15 #[pb b, .int .i64 (k : Int), .int .i64 t] w fun e w' => e = .returned (.tuple #[.int .i64 0, .int .i64 240]) ∧ Below w.heap.size w w' := by
  have hb1 := below1 w (.cells #[.int .i64 t] 23)
  obtain ⟨W1, hW1⟩ : ∃ W1, W1 = w.alloc (.cells #[.int .i64 t] 23) := ⟨_, rfl⟩
  have hc0 := (h.below hb1).c0
  have h1 := Lib.hid (there_at b _ _ _ w h.c0)
  have h2 := Lib.hid (known_one t w)
  rw [ht] at h2
  rw [← hW1] at h2 hc0 hb1
  have HB1 := Lib.hid hb1
  have hcx : W1.cell? ⟨g, k, none⟩ = some (.int .i64 l[k]) := by
    rw [(h.below hb1).row.cell, List.getElem?_append_left (by rw [izs_len]; exact hk)]
    exact izs_get l hk
  have hT1 := hT.below hb1
  have h3 := Lib.hid (has_any (some ⟨g, 0, none⟩) l.length c k W1)
  rw [show decide (0 ≤ (k : Int) ∧ (k : Int) < (l.length : Int)) = true from decide_eq_true (by omega)] at h3
  have h4 := Lib.hid (may_any l[k] t W1 hT1)
  rw [ht, Bool.true_and, hm] at h4
  obtain ⟨x, hx⟩ : ∃ x, x = l[k] := ⟨_, rfl⟩
  rw [← hx] at hcx h4
  obtain ⟨n, hn⟩ : ∃ n, n = l.length := ⟨_, rfl⟩
  rw [← hn] at hc0 h3 hk
  have j0 : (0 : Int) ≤ (k : Int) := by omega
  have j1 : (k : Int) < (n : Int) := by omega
  have HW1 := Lib.hid hW1
  clear h ht hn hb1 hW1 hx hm hT hT1 hk
  go_enter Tryd.func15, Tryd.ntmps15
  go_wp2_with fail
  refine wp_scope_jump 1 fun R hR hJm => ?_
  go_wp2_with fail
  refine h1.out.mono ?_
  rintro e w1 ⟨rfl, rfl⟩
  go_wp2_with fail
  rw [← HW1.out]
  refine h2.out.mono ?_
  rintro e w2 ⟨rfl, rfl⟩
  go_wp2_with fail
  refine h3.out.mono ?_
  rintro e w3 ⟨rfl, rfl⟩
  go_wp2_with fail
  refine h4.out.mono ?_
  rintro e w3 ⟨rfl, hb2⟩
  have HB2 := Lib.hid hb2
  clear hb2
  go_wp2_with fail
  refine wp_goto (hJm.out _ _ _ _ _ rfl ?_)
  go_wp2_with fail
  refine hR.out _ _ _ _ (by simp) ?_
  go_ret2
  exact ⟨rfl, below0 HB1.out HB2.out⟩
set_option maxHeartbeats 1000000 in
theorem move_done (k : Nat) (t : Int) (hT : Tb w) (h : SRep w b g c l rest) (ht : stB t = true) (hk : k < l.length) (hm : mayB l[k] t = true) : Calls Tryd.prog 15 #[pb b, .int .i64 (k : Int), .int .i64 t] w fun e w' => e = .returned (.tuple #[.int .i64 l[k], .int .i64 0]) ∧ Nx HasS w (pb b) (l.set k t) (fun j => j = b ∨ j = g) w' := by
  have hb1 := below1 w (.cells #[.int .i64 t] 23)
  obtain ⟨W1, hW1⟩ : ∃ W1, W1 = w.alloc (.cells #[.int .i64 t] 23) := ⟨_, rfl⟩
  have hc0 := (h.below hb1).c0
  have h1 := Lib.hid (there_at b _ _ _ w h.c0)
  have h2 := Lib.hid (known_one t w)
  rw [ht] at h2
  rw [← hW1] at h2 hc0 hb1
  have HB1 := Lib.hid hb1
  have hcx : W1.cell? ⟨g, k, none⟩ = some (.int .i64 l[k]) := by
    rw [(h.below hb1).row.cell, List.getElem?_append_left (by rw [izs_len]; exact hk)]
    exact izs_get l hk
  have hT1 := hT.below hb1
  have h3 := Lib.hid (has_any (some ⟨g, 0, none⟩) l.length c k W1)
  rw [show decide (0 ≤ (k : Int) ∧ (k : Int) < (l.length : Int)) = true from decide_eq_true (by omega)] at h3
  have h4 := Lib.hid (may_any l[k] t W1 hT1)
  rw [ht, Bool.true_and, hm] at h4
  have HS := Lib.hid (fun W (hb : Below W1.heap.size W1 W) => (show W.cell? ⟨b, 0, none⟩ = some (.slice (some ⟨g, 0, none⟩) l.length c) ∧ (∃ u, W.cell? ⟨g, k, none⟩ = some u) ∧ W.frozen? ⟨g, k, none⟩ = false from by
    have h' := (h.below hb1).below hb
    refine ⟨h'.c0, ⟨.int .i64 l[k], ?_⟩, h'.row.frozen k⟩
    rw [h'.row.cell, List.getElem?_append_left (by rw [izs_len]; exact hk)]
    exact izs_get l hk))
  have HF := Lib.hid (fun W (hb : Below W1.heap.size W1 W) => (show Nx HasS w (pb b) (l.set k t) (fun j => j = b ∨ j = g) (W.setCell ⟨g, k, none⟩ (.int .i64 t)) from by
    have h' := (h.below hb1).below hb
    have hbb : Below w.heap.size w W := below0 hb1 hb
    refine ⟨_, ⟨b, g, c, rest, rfl, ⟨?_, ?_, by rw [List.length_set]; exact h'.le, by rw [List.length_set]; exact h'.most, fun z hz => ?_⟩, rfl⟩, (Keep.of_below hbb).set _ (.inl (.inr rfl)), fun j hj => .inl hj⟩
    · rw [List.length_set]
      exact h'.obj.same (heap_set h'.ne)
    · have := h'.row.set k (.int .i64 t)
      rw [List.set_append_left _ _ (by rw [izs_len]; exact hk), izs_set] at this
      exact this
    · rcases List.mem_or_eq_of_mem_set hz with hz | rfl
      · exact h.sts z hz
      · exact stB_iff.1 ht))
  obtain ⟨x, hx⟩ : ∃ x, x = l[k] := ⟨_, rfl⟩
  rw [← hx] at hcx h4 ⊢
  obtain ⟨l2, hl2⟩ : ∃ l2, l2 = l.set k t := ⟨_, rfl⟩
  rw [← hl2] at HF ⊢
  obtain ⟨n, hn⟩ : ∃ n, n = l.length := ⟨_, rfl⟩
  rw [← hn] at hc0 h3 hk HS
  have j0 : (0 : Int) ≤ (k : Int) := by omega
  have j1 : (k : Int) < (n : Int) := by omega
  have HW1 := Lib.hid hW1
  clear h ht hn hb1 hW1 hx hm hT hT1 hk hl2
  go_enter Tryd.func15, Tryd.ntmps15
  go_wp2_with fail
  refine wp_scope_jump 1 fun R hR hJm => ?_
  go_wp2_with fail
  refine h1.out.mono ?_
  rintro e w1 ⟨rfl, rfl⟩
  go_wp2_with fail
  rw [← HW1.out]
  refine h2.out.mono ?_
  rintro e w2 ⟨rfl, rfl⟩
  go_wp2_with fail
  refine h3.out.mono ?_
  rintro e w3 ⟨rfl, rfl⟩
  go_wp2_with fail
  refine h4.out.mono ?_
  rintro e w3 ⟨rfl, hb2⟩
  have HB2 := Lib.hid hb2
  clear hb2
  obtain ⟨d0, ⟨u, d1⟩, d2⟩ := HS.out w3 HB2.out
  have HFIN := Lib.hid (HF.out w3 HB2.out)
  go_wp2_with fail
  refine hR.out _ _ _ _ (by simp) ?_
  go_ret2
  exact ⟨rfl, HFIN.out⟩
end
theorem nx_low {w w' : World} {v : Value} {l : Ls} {F : Nat → Prop} (h : HasS w v l F) (hb : Below w.heap.size w w') : Nx HasS w v l F w' := by
  obtain ⟨b, g, c, rest, rfl, h, rfl⟩ := h
  exact ⟨_, ⟨b, g, c, rest, rfl, h.below hb, rfl⟩, Keep.of_below hb, fun _ hk => .inl hk⟩
theorem smove {w : World} {v : Value} {l : Ls} {F : Nat → Prop} (a t : Int) (hT : Tb w) (h : HasS w v l F) : Calls Tryd.prog 15 #[v, .int .i64 a, .int .i64 t] w fun e w' => e = .returned (.tuple #[.int .i64 (moveW l a t), .int .i64 (moveE l a t)]) ∧ Nx HasS w v (moveL l a t) F w' := by
  have h0 := h
  obtain ⟨b, g, c, rest, rfl, h, rfl⟩ := h
  by_cases hE : moveE l a t = 0
  · obtain ⟨ht, k, rfl, hk, hm⟩ := moveE_ok hE
    rw [show moveW l k t = l[k] by unfold moveW; rw [if_pos hE, Int.toNat_natCast, getD_get hk], show moveL l k t = l.set k t by unfold moveL; rw [if_pos hE, Int.toNat_natCast], hE]
    exact move_done k t hT h ht hk hm
  · rw [show moveW l a t = 0 by unfold moveW; rw [if_neg hE], show moveL l a t = l by unfold moveL; rw [if_neg hE]]
    cases ht : stB t
    · rw [show moveE l a t = 2 by unfold moveE; rw [if_pos ht]]
      exact (move_arg a t h ht).mono fun _ _ ⟨e, hb⟩ => ⟨e, nx_low h0 hb⟩
    · by_cases ha : a < 0 ∨ (l.length : Int) ≤ a
      · rw [show moveE l a t = 4 by unfold moveE; rw [if_neg (by rw [ht]; decide), if_pos ha]]
        exact (move_range a t h ht ha).mono fun _ _ ⟨e, hb⟩ => ⟨e, nx_low h0 hb⟩
      · obtain ⟨k, rfl⟩ : ∃ k : Nat, a = k := ⟨a.toNat, by omega⟩
        have hk : k < l.length := by omega
        have hx : moveE l k t = if mayB l[k] t = false then 240 else 0 := by
          unfold moveE
          rw [if_neg (by rw [ht]; decide), if_neg (by omega), Int.toNat_natCast, getD_get hk]
        cases hm : mayB l[k] t
        · rw [hx, if_pos hm]
          exact (move_may k t hT h ht hk hm).mono fun _ _ ⟨e, hb⟩ => ⟨e, nx_low h0 hb⟩
        · rw [hm, if_neg (by decide)] at hx
          exact absurd hx hE
end Go.Proofs.YtelhieinkdmpfaaDoor.Sh
