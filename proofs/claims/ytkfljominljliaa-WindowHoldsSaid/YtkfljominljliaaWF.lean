import Derived.Test.YtkfljominljliaaWB
import Derived.Test.YtkfljominljliaaWC
import Derived.Test.YtkfljominljliaaWD
import Derived.Test.YtkfljominljliaaWE
namespace Go.Proofs.Ytkfljominljliaa
open Go.RowKit Go.Shelf

theorem holds_yy (a b : Nat) (w : World) (ha : a < 65536) (hb : b < 65536) : Calls Try.prog 7 #[.int .i64 (a : Int), .int .i64 (b : Int)] w fun e w' => e = .returned (.bool true) ∧ Below w.heap.size w w' := by
  obtain ⟨y0, y1, y2, y3, pb⟩ : ∃ y0 y1 y2 y3, plc b = (y0, y1, y2, y3) := ⟨_, _, _, _, rfl⟩
  have h5 := plc_five b
  rcases plc_five a with pa | ⟨s, hs, h1, h2, pa⟩ | ⟨s, c, hs, hc, h1, h2, pa⟩ | ⟨s, hs, h1, h2, pa⟩ | ⟨s, hs, h1, h2, pa⟩
  · by_cases q0 : y0 = 0
    · subst q0
      have e9 : plc b = (0, 0, 0, 0) := by
        rcases h5 with h | ⟨t, _, _, _, h⟩ | ⟨t, d, _, _, _, _, h⟩ | ⟨t, _, _, _, h⟩ | ⟨t, _, _, _, h⟩ <;> rw [h] at pb <;> simp only [Prod.mk.injEq] at pb <;> first | exact h | omega
      exact holdsK0e a b w ha hb pa e9
    · exact holdsK0a a b y0 y1 y2 y3 w ha hb pa pb q0
  · obtain ⟨p, hp⟩ : ∃ p, p = a - (64 * s + 1) := ⟨_, rfl⟩
    rw [← hp] at pa
    have hv : 64 * s + 1 + p = a := by omega
    by_cases q0 : y0 = 1
    · subst q0
      have q2 : y2 = 0 := by
        rcases h5 with h | ⟨t, _, _, _, h⟩ | ⟨t, d, _, _, _, _, h⟩ | ⟨t, _, _, _, h⟩ | ⟨t, _, _, _, h⟩ <;> rw [h] at pb <;> simp only [Prod.mk.injEq] at pb <;> omega
      subst q2
      by_cases q1 : y1 = s
      · subst q1
        by_cases q3 : y3 = p
        · subst q3
          obtain rfl : a = b := plc_inj (pa.trans pb.symm) (by rw [pa]; simp)
          exact holdsK1e a _ _ w ha hs hv pa
        · exact holdsK1d a b _ p y3 w ha hb hs hv pa pb q3
      · exact holdsK1b a b s p y1 0 y3 w ha hb hs hv pa pb q1
    · exact holdsK1a a b s p y0 y1 y2 y3 w ha hb hs hv pa pb q0
  · obtain ⟨p, hp⟩ : ∃ p, p = a - (4096 * s + 4097 + 17 * c) := ⟨_, rfl⟩
    rw [← hp] at pa
    have hv : 4096 * s + 4097 + 17 * c + p = a := by omega
    by_cases q0 : y0 = 2
    · subst q0
      by_cases q1 : y1 = s
      · subst q1
        by_cases q2 : y2 = c
        · subst q2
          by_cases q3 : y3 = p
          · subst q3
            obtain rfl : a = b := plc_inj (pa.trans pb.symm) (by rw [pa]; simp)
            exact holdsK2e a _ _ _ w ha hs hc hv pa
          · exact holdsK2d a b _ _ p y3 w ha hb hs hc hv pa pb q3
        · exact holdsK2c a b _ c p y2 y3 w ha hb hs hc hv pa pb q2
      · exact holdsK2b a b s c p y1 y2 y3 w ha hb hs hc hv pa pb q1
    · exact holdsK2a a b s c p y0 y1 y2 y3 w ha hb hs hc hv pa pb q0
  · obtain ⟨p, hp⟩ : ∃ p, p = a - (4096 * s + 4096) := ⟨_, rfl⟩
    rw [← hp] at pa
    have hv : 4096 * s + 4096 + p = a := by omega
    by_cases q0 : y0 = 3
    · subst q0
      have q2 : y2 = 0 := by
        rcases h5 with h | ⟨t, _, _, _, h⟩ | ⟨t, d, _, _, _, _, h⟩ | ⟨t, _, _, _, h⟩ | ⟨t, _, _, _, h⟩ <;> rw [h] at pb <;> simp only [Prod.mk.injEq] at pb <;> omega
      subst q2
      by_cases q1 : y1 = s
      · subst q1
        by_cases q3 : y3 = p
        · subst q3
          obtain rfl : a = b := plc_inj (pa.trans pb.symm) (by rw [pa]; simp)
          exact holdsK3e a _ _ w ha hs hv pa
        · exact holdsK3d a b _ p y3 w ha hb hs hv pa pb q3
      · exact holdsK3b a b s p y1 0 y3 w ha hb hs hv pa pb q1
    · exact holdsK3a a b s p y0 y1 y2 y3 w ha hb hs hv pa pb q0
  · obtain ⟨p, hp⟩ : ∃ p, p = a - (4096 * s + 4096) := ⟨_, rfl⟩
    rw [← hp] at pa
    have hv : 4096 * s + 4096 + p = a := by omega
    by_cases q0 : y0 = 4
    · subst q0
      have q2 : y2 = 0 := by
        rcases h5 with h | ⟨t, _, _, _, h⟩ | ⟨t, d, _, _, _, _, h⟩ | ⟨t, _, _, _, h⟩ | ⟨t, _, _, _, h⟩ <;> rw [h] at pb <;> simp only [Prod.mk.injEq] at pb <;> omega
      subst q2
      by_cases q1 : y1 = s
      · subst q1
        by_cases q3 : y3 = p
        · subst q3
          obtain rfl : a = b := plc_inj (pa.trans pb.symm) (by rw [pa]; simp)
          exact holdsK4e a _ _ w ha hs hv pa
        · exact holdsK4d a b _ p y3 w ha hb hs hv pa pb q3
      · exact holdsK4b a b s p y1 0 y3 w ha hb hs hv pa pb q1
    · exact holdsK4a a b s p y0 y1 y2 y3 w ha hb hs hv pa pb q0
theorem windowHolds_any (a b : Int) (w : World) : Calls Try.prog 7 #[.int .i64 a, .int .i64 b] w fun e w' => e = .returned (.bool true) ∧ Below w.heap.size w w' := by
  rcases h : isB a 65536 with _ | _
  · rcases h2 : isB b 65536 with _ | _
    · exact holds_nn a b ⟨h, h2⟩ w
    · obtain ⟨k, rfl, hk⟩ := isB_nat (b := 65536) h2
      exact holds_ny a k ⟨h, hk⟩ w
  · obtain ⟨k, rfl, hk⟩ := isB_nat (b := 65536) h
    rcases h2 : isB b 65536 with _ | _
    · exact holds_yn k b ⟨hk, h2⟩ w
    · obtain ⟨m, rfl, hm⟩ := isB_nat (b := 65536) h2
      exact holds_yy k m w hk hm
end Go.Proofs.Ytkfljominljliaa
