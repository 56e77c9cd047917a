import Derived.Test.YtmbjjbgpcacoeaaGreatRL
import Derived.BigQuiet
namespace Go.Proofs.YtmbjjbgpcacoeaaGreat
open Go.RowKit Go.Shelf Go.Maps Go.Sort

/- COPY AND SAME, WHERE THERE IS NO POOL. -/
set_option maxHeartbeats 1000000 in
theorem Copy_nil (v : Value) (w : World) (h : Non w v) : Calls Tryz.prog 11 #[v] w fun e w' => e = .returned (.pointer none) ∧ w = w' := by
  have h1 := Lib.hid (there_non v w h)
  obtain ⟨pv, rfl⟩ : ∃ pv, v = .pointer pv := by
    rcases h with rfl | ⟨b, rfl, _⟩
    · exact ⟨_, rfl⟩
    · exact ⟨_, rfl⟩
  clear h
  go_enter Tryz.func11, Tryz.ntmps11
  go_wp2_with fail
  refine h1.out.mono ?_
  rintro e w1 ⟨rfl, rfl⟩
  go_wp2_with fail
  go_ret
  exact ⟨rfl, rfl⟩
/-- is there a pool? -/
def There (v : Value) (q : Bool) (w : World) : Prop := (∃ pv, v = .pointer pv) ∧ Calls Tryz.prog 45 #[v] w fun e w' => e = .returned (.bool q) ∧ w = w'
theorem there_no {v : Value} {w : World} (h : Non w v) : There v false w := by
  refine ⟨?_, there_non v w h⟩
  rcases h with rfl | ⟨b, rfl, _⟩
  · exact ⟨_, rfl⟩
  · exact ⟨_, rfl⟩
theorem there_yes {b : Nat} {p : Pl} {F : Nat → Prop} {w : World} (h : Has w b p F) : There (bx b) true w := by
  obtain ⟨bm, fv, sv, fb, gf, gs, hr, _⟩ := h
  exact ⟨⟨_, rfl⟩, there_map b bm w hr.c1⟩
set_option maxHeartbeats 1000000 in
theorem Same_there (u v : Value) (p q : Bool) (w : World) (hpq : (p && q) = false) (hu : ∀ V, Below w.heap.size w V → There u p V) (hv : ∀ V, Below w.heap.size w V → There v q V) :
    Calls Tryz.prog 15 #[u, v] w fun e w' => e = .returned (.bool (p == q)) ∧ Below w.heap.size w w' := by
  obtain ⟨pu, rfl⟩ := (hu w (Below.refl _ _)).1
  obtain ⟨pv, rfl⟩ := (hv w (Below.refl _ _)).1
  have HU := Lib.hid (fun V hb => (hu V hb).2)
  have HV := Lib.hid (fun V hb => (hv V hb).2)
  obtain ⟨w1, hw1⟩ : ∃ w1, w1 = (w.alloc (.cells #[.pointer pu] 29)).alloc (.cells #[.pointer pv] 29) := ⟨_, rfl⟩
  have hb1 : Below w.heap.size w w1 := hw1 ▸ below2 w _ _
  have c0 : w1.cell? ⟨w.heap.size, 0, none⟩ = some (.pointer pu) := by rw [hw1, World.cell?_alloc_lt _ _ _ (by rw [World.size_alloc]; exact Nat.lt_succ_self _)]; exact (Row.new w _ [.pointer pu]).cell 0
  have c1 : w1.cell? ⟨w.heap.size + 1, 0, none⟩ = some (.pointer pv) := by
    have := (Row.new (w.alloc (.cells #[.pointer pu] 29)) 29 [.pointer pv]).cell 0
    rw [World.size_alloc] at this
    rw [hw1]
    exact this
  have k0 := c0
  have k1 := c1
  rw [hw1] at k0 k1
  have HU1 := Lib.hid (HU.out w1 hb1)
  have HV1 := Lib.hid (HV.out w1 hb1)
  have HUN : Hid (∀ m, Calls Tryz.prog 45 #[.pointer pu] (w1.drewN m) fun e w' => e = .returned (.bool p) ∧ ∃ j, w' = w1.drewN j) := Lib.hid (fun m => (HU.out (w1.drewN m) (below_drewN hb1 m)).mono fun _ _ ⟨e1, e2⟩ => ⟨e1, m, e2.symm⟩)
  have HVN : Hid (∀ m, Calls Tryz.prog 45 #[.pointer pv] (w1.drewN m) fun e w' => e = .returned (.bool q) ∧ ∃ j, w' = w1.drewN j) := Lib.hid (fun m => (HV.out (w1.drewN m) (below_drewN hb1 m)).mono fun _ _ ⟨e1, e2⟩ => ⟨e1, m, e2.symm⟩)
  have HB := Lib.hid (fun m => below_drewN hb1 m)
  have HW := Lib.hid hw1
  clear hu hv hb1 HU HV hw1
  go_enter Tryz.func15, Tryz.ntmps15
  go_wp2_with fail
  refine wp_scope_jump 0 fun R hR hJm => ?_
  rw [← HW.out]
  go_wp2_with fail
  refine HU1.out.mono ?_
  rintro e w2 ⟨rfl, rfl⟩
  cases p with
  | false =>
    go_wp2_with fail
    go_quiet ((first | (go_at_call 45; with_reducible exact HUN.out _) | (go_at_call 45; with_reducible exact HVN.out _)))
    go_wp2_with fail
    refine hR.out _ _ _ _ (by simp) ?_
    go_ret
    exact ⟨by cases q <;> rfl, HB.out _⟩
  | true =>
    cases q with
    | true => exact absurd hpq (by decide)
    | false =>
      go_wp2_with fail
      refine HV1.out.mono ?_
      rintro e w2 ⟨rfl, rfl⟩
      go_wp2_with fail
      go_quiet ((first | (go_at_call 45; with_reducible exact HUN.out _) | (go_at_call 45; with_reducible exact HVN.out _)))
      go_wp2_with fail
      refine hR.out _ _ _ _ (by simp) ?_
      go_ret
      exact ⟨rfl, HB.out _⟩
end Go.Proofs.YtmbjjbgpcacoeaaGreat
