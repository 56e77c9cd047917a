import Derived.Test.YtkfljominljliaaGreatVa
namespace Go.Proofs.YtkfljominljliaaGreat.Vm
open Go.RowKit Go.Shelf Go.Maps Go.Sort
attribute [local go_sem] Oper.semAt_some

/- A MEMORY: A TABLE AND A POOL; ITS SMALL CALLS. -/

structure MRep (w : World) (b t q : Nat) (l : Pg.Tb) (p : Pl) (F1 F2 : Nat → Prop) : Prop where
  obj : Row w b 53 [bx t, bx q]
  tab : Pg.Has w t l F1
  pool : Has w q p F2
  apart : ∀ k, F1 k → ¬ F2 k
  b1 : ¬ F1 b
  b2 : ¬ F2 b
section
variable {w w' : World} {b t q : Nat} {l : Pg.Tb} {p : Pl} {F1 F2 : Nat → Prop}
theorem MRep.c0 (h : MRep w b t q l p F1 F2) : w.cell? ⟨b, 0, none⟩ = some (bx t) := h.obj.cell 0
theorem MRep.c1 (h : MRep w b t q l p F1 F2) : w.cell? ⟨b, 1, none⟩ = some (bx q) := h.obj.cell 1
theorem MRep.below (h : MRep w b t q l p F1 F2) (hb : Below w.heap.size w w') : MRep w' b t q l p F1 F2 :=
  ⟨h.obj.below hb, h.tab.below hb, h.pool.below hb, h.apart, h.b1, h.b2⟩
end

def ownsB (o : Int) : Bool := decide (-1 ≤ o) && decide (o < 64)
theorem owns_any (o : Int) (w : World) : Calls Tryz.prog 21 #[.int .i64 o] w fun e w' => e = .returned (.bool (ownsB o)) ∧ w = w' := by
  unfold ownsB
  go_enter Tryz.func21, Tryz.ntmps21
  by_cases h0 : -1 ≤ o
  · have e0 : decide (-1 ≤ o) = true := decide_eq_true h0
    obtain ⟨q, hq⟩ : ∃ q, q = decide (o < 64) := ⟨_, rfl⟩
    rw [← hq]
    go_wp2
    go_ret
    exact ⟨by simp [hq, h0], rfl⟩
  · have e0 : decide (-1 ≤ o) = false := decide_eq_false h0
    go_wp2
    go_ret
    exact ⟨by simp, rfl⟩
theorem pays_any (o : Int) (w : World) : Calls Tryz.prog 22 #[.int .i64 o] w fun e w' => e = .returned (.bool (ownerB o)) ∧ w = w' := by
  unfold ownerB
  go_enter Tryz.func22, Tryz.ntmps22
  by_cases h0 : 0 ≤ o
  · have e0 : decide (0 ≤ o) = true := decide_eq_true h0
    obtain ⟨q, hq⟩ : ∃ q, q = decide (o < 64) := ⟨_, rfl⟩
    rw [← hq]
    go_wp2
    go_ret
    exact ⟨by simp [hq, h0], rfl⟩
  · have e0 : decide (0 ≤ o) = false := decide_eq_false h0
    go_wp2
    go_ret
    exact ⟨by simp, rfl⟩
theorem allowed_any (o : Int) (w : World) : Calls Tryz.prog 23 #[.int .i64 o] w fun e w' => e = .returned (.bool (Pg.mayB o)) ∧ w = w' := by
  unfold Pg.mayB
  go_enter Tryz.func23, Tryz.ntmps23
  by_cases h0 : 0 ≤ o
  · have e0 : decide (0 ≤ o) = true := decide_eq_true h0
    obtain ⟨q, hq⟩ : ∃ q, q = decide (o ≤ 2) := ⟨_, rfl⟩
    rw [← hq]
    go_wp2
    go_ret
    exact ⟨by simp [hq, h0], rfl⟩
  · have e0 : decide (0 ≤ o) = false := decide_eq_false h0
    go_wp2
    go_ret
    exact ⟨by simp, rfl⟩
theorem known_any (z : Int) (w : World) : Calls Tryz.prog 25 #[.int .i64 z] w fun e w' => e = .returned (.bool (Pg.pageB z)) ∧ w = w' := by
  unfold Pg.pageB
  go_enter Tryz.func25, Tryz.ntmps25
  by_cases h0 : 0 ≤ z
  · have e0 : decide (0 ≤ z) = true := decide_eq_true h0
    obtain ⟨q, hq⟩ : ∃ q, q = decide (z < 65536) := ⟨_, rfl⟩
    rw [← hq]
    go_wp2
    go_ret
    exact ⟨by simp [hq, h0], rfl⟩
  · have e0 : decide (0 ≤ z) = false := decide_eq_false h0
    go_wp2
    go_ret
    exact ⟨by simp, rfl⟩
theorem num_any (n : Int) (w : World) : Calls Tryz.prog 7 #[.int .i64 n] w fun e w' => e = .returned (.int .i64 n) ∧ w = w' := by
  go_enter Tryz.func7, Tryz.ntmps7
  go_wp2
  go_ret
  exact ⟨rfl, rfl⟩
theorem there_any (b q : Nat) (w : World) (hc : w.cell? ⟨b, 1, none⟩ = some (bx q)) : Calls Tryz.prog 19 #[bx b] w fun e w' => e = .returned (.bool true) ∧ w = w' := by
  go_enter Tryz.func19, Tryz.ntmps19
  go_wp2
  go_ret
  exact ⟨rfl, rfl⟩
theorem frames_any (b q : Nat) (w : World) (hc : w.cell? ⟨b, 1, none⟩ = some (bx q)) : Calls Tryz.prog 16 #[bx b] w fun e w' => e = .returned (bx q) ∧ w = w' := by
  have h1 := Lib.hid (there_any b q w hc)
  go_enter Tryz.func16, Tryz.ntmps16
  go_wp2_with fail
  refine h1.out.mono ?_
  rintro e _ ⟨rfl, rfl⟩
  go_wp2
  go_ret
  exact ⟨rfl, rfl⟩
theorem entries_any (b t q : Nat) (w : World) (h0 : w.cell? ⟨b, 0, none⟩ = some (bx t)) (hc : w.cell? ⟨b, 1, none⟩ = some (bx q)) : Calls Tryz.prog 30 #[bx b] w fun e w' => e = .returned (bx t) ∧ w = w' := by
  have h1 := Lib.hid (there_any b q w hc)
  go_enter Tryz.func30, Tryz.ntmps30
  go_wp2_with fail
  refine h1.out.mono ?_
  rintro e _ ⟨rfl, rfl⟩
  go_wp2
  go_ret
  exact ⟨rfl, rfl⟩
/-- Get of a table that is there -/
theorem get_any {w : World} {t : Nat} {l : Pg.Tb} {F : Nat → Prop} (h : Pg.Has w t l F) (z : Int) (hz : Pg.I64 z) : Calls Tryz.prog 47 #[bx t, .int .i64 z] w fun e w' => e = .returned (.tuple #[Pg.enV (Pg.getX l z), .bool (Pg.look l z).isSome]) ∧ Below w.heap.size w w' := by
  obtain ⟨bp, bf, hr, _⟩ := h
  exact Pg.get_any hr z hz
theorem mapped_any {w : World} {t : Nat} {l : Pg.Tb} {F : Nat → Prop} (h : Pg.Has w t l F) (z : Int) (hz : Pg.I64 z) : Calls Tryz.prog 27 #[.agg #[bx t], .int .i64 z] w fun e w' => e = .returned (.bool (Pg.look l z).isSome) ∧ Below w.heap.size w w' := by
  have hb := Lib.hid (below1 w (.cells #[bx t] 51))
  have h1 := Lib.hid (get_any (h.below hb.out) z hz)
  obtain ⟨s, hs⟩ : ∃ s, s = (Pg.look l z).isSome := ⟨_, rfl⟩
  obtain ⟨⟨a1, a2, a3⟩, ha⟩ : ∃ a, a = Pg.getX l z := ⟨_, rfl⟩
  rw [← hs, ← ha] at h1
  rw [← hs]
  clear hs ha h
  go_enter Tryz.func27, Tryz.ntmps27
  go_wp2_with fail
  refine h1.out.mono ?_
  rintro e w1 ⟨rfl, hb1⟩
  have HB := Lib.hid (below0 hb.out hb1)
  clear hb1
  simp only [Pg.enV, Pg.enC]
  go_wp2_with fail
  go_ret
  exact ⟨rfl, HB.out.alloc HB.out.size _⟩
theorem framed_any {w : World} {t : Nat} {l : Pg.Tb} {F : Nat → Prop} (h : Pg.Has w t l F) (z : Int) (hz : Pg.I64 z) : Calls Tryz.prog 80 #[.agg #[bx t], .int .i64 z] w fun e w' => e = .returned (.int .i64 (Pg.getX l z).2.2) ∧ Below w.heap.size w w' := by
  have hb := Lib.hid (below1 w (.cells #[bx t] 51))
  have h1 := Lib.hid (get_any (h.below hb.out) z hz)
  obtain ⟨s, hs⟩ : ∃ s, s = (Pg.look l z).isSome := ⟨_, rfl⟩
  obtain ⟨⟨a1, a2, a3⟩, ha⟩ : ∃ a, a = Pg.getX l z := ⟨_, rfl⟩
  rw [← hs, ← ha] at h1
  rw [← ha]
  clear hs ha h
  simp only
  go_enter Tryz.func80, Tryz.ntmps80
  go_wp2_with fail
  refine h1.out.mono ?_
  rintro e w1 ⟨rfl, hb1⟩
  have HB := Lib.hid (below0 hb.out hb1)
  clear hb1
  simp only [Pg.enV, Pg.enC]
  go_wp2_with fail
  go_ret
  exact ⟨rfl, HB.out.alloc HB.out.size _⟩
/-- an owner's page, where he may do that -/
def grantB (l : Pg.Tb) (z o m : Int) : Bool := match Pg.look l z with
  | some e => (e.1 != -1) && (e.1 == o) && decide (m ≤ e.2.1)
  | none => false
theorem grants_any {w : World} {t : Nat} {l : Pg.Tb} {F : Nat → Prop} (h : Pg.Has w t l F) (z : Int) (hz : Pg.I64 z) (o m : Int) : Calls Tryz.prog 76 #[.agg #[bx t], .int .i64 z, .int .i64 o, .int .i64 m] w fun e w' => e = .returned (.bool (grantB l z o m)) ∧ Below w.heap.size w w' := by
  have hb := Lib.hid (below1 w (.cells #[bx t] 51))
  have h1 := Lib.hid (get_any (h.below hb.out) z hz)
  unfold grantB
  unfold Pg.getX at h1
  clear h
  cases hl : Pg.look l z with
  | none =>
    rw [hl] at h1
    simp only [Option.getD_none, Option.isSome_none, Pg.enV, Pg.enC, Pg.zeroEn] at h1
    clear hl
    go_enter Tryz.func76, Tryz.ntmps76
    go_wp2_with fail
    refine h1.out.mono ?_
    rintro e w1 ⟨rfl, hb1⟩
    have HF := Lib.hid ((below0 hb.out hb1).alloc (below0 hb.out hb1).size (.cells #[.int .i64 0, .int .i64 0, .int .i64 0] 64))
    clear hb1 h1
    go_wp2_with fail
    go_ret
    exact ⟨rfl, HF.out⟩
  | some e =>
    obtain ⟨a1, a2, a3⟩ := e
    rw [hl] at h1
    simp only [Option.getD_some, Option.isSome_some, Pg.enV, Pg.enC] at h1
    clear hl
    simp only
    obtain ⟨q1, k1⟩ : ∃ q1, q1 = (a1 == -1) := ⟨_, rfl⟩
    obtain ⟨q2, k2⟩ : ∃ q2, q2 = (a1 == o) := ⟨_, rfl⟩
    obtain ⟨r, hr⟩ : ∃ r, r = decide (m ≤ a2) := ⟨_, rfl⟩
    have hne : (a1 != -1) = !q1 := by rw [k1]; rfl
    rw [← hr, ← k2, hne]
    have k2' := k2.symm
    have hr' := hr.symm
    clear k1 k2 hr
    go_enter Tryz.func76, Tryz.ntmps76
    go_wp2_with fail
    refine h1.out.mono ?_
    rintro e w1 ⟨rfl, hb1⟩
    have HF := Lib.hid ((below0 hb.out hb1).alloc (below0 hb.out hb1).size (.cells #[.int .i64 a1, .int .i64 a2, .int .i64 a3] 64))
    clear hb1 h1
    cases q1
    · have n1 : (a1 != -1) = true := hne
      clear hne
      cases q2
      · clear hr'
        go_wp2_with fail
        go_ret
        exact ⟨rfl, HF.out⟩
      · go_wp2_with fail
        go_ret
        exact ⟨by simp, HF.out⟩
    · have n1 : (a1 != -1) = false := hne
      clear hne
      clear k2' hr'
      go_wp2_with fail
      go_ret
      exact ⟨rfl, HF.out⟩
end Go.Proofs.YtkfljominljliaaGreat.Vm
