import Derived.Test.YtbiopegophdgiaaDoorPop
namespace Go.Proofs.YtbiopegophdgiaaDoor

/-- a number that is split at a byte -/
theorem split_add (a b : Nat) (ha : a < 256) : (a + 256 * b) % 256 = a ∧ (a + 256 * b) / 256 = b := by omega
theorem eight1 {c0 c1 c2 c3 c4 c5 c6 c7 : Nat} (l0 : c0 ≤ 8) (l1 : c1 ≤ 8) (l2 : c2 ≤ 8) (l3 : c3 ≤ 8) (l4 : c4 ≤ 8) (l5 : c5 ≤ 8) (l6 : c6 ≤ 8) (l7 : c7 ≤ 8) (y : Nat)
    (hY : y = c0 + 256 * (c1 + 256 * (c2 + 256 * (c3 + 256 * (c4 + 256 * (c5 + 256 * (c6 + 256 * c7))))))) :
    y + y / 256 < 18446744073709551616 ∧ (y + y / 256) + (y + y / 256) / 65536 < 18446744073709551616 ∧
    ((y + y / 256) + (y + y / 256) / 65536) + ((y + y / 256) + (y + y / 256) / 65536) / 4294967296 < 18446744073709551616 ∧
    (((y + y / 256) + (y + y / 256) / 65536) + ((y + y / 256) + (y + y / 256) / 65536) / 4294967296) % 128 = c0 + c1 + c2 + c3 + c4 + c5 + c6 + c7 := by
  have e1 : y / 256 = c1 + 256 * (c2 + 256 * (c3 + 256 * (c4 + 256 * (c5 + 256 * (c6 + 256 * c7))))) := by rw [hY]; exact (split_add _ _ (by omega)).2
  rw [e1, hY]
  clear e1 hY
  obtain ⟨z, hz⟩ : ∃ z, z = c0 + 256 * (c1 + 256 * (c2 + 256 * (c3 + 256 * (c4 + 256 * (c5 + 256 * (c6 + 256 * c7)))))) + (c1 + 256 * (c2 + 256 * (c3 + 256 * (c4 + 256 * (c5 + 256 * (c6 + 256 * c7)))))) := ⟨_, rfl⟩
  rw [← hz]
  have hz' : z = (c0 + c1) + 256 * ((c1 + c2) + 256 * ((c2 + c3) + 256 * ((c3 + c4) + 256 * ((c4 + c5) + 256 * ((c5 + c6) + 256 * ((c6 + c7) + 256 * c7)))))) := by omega
  clear hz
  have hz1 : z / 256 = (c1 + c2) + 256 * ((c2 + c3) + 256 * ((c3 + c4) + 256 * ((c4 + c5) + 256 * ((c5 + c6) + 256 * ((c6 + c7) + 256 * c7))))) := by rw [hz']; exact (split_add _ _ (by omega)).2
  have hz2 : z / 256 / 256 = (c2 + c3) + 256 * ((c3 + c4) + 256 * ((c4 + c5) + 256 * ((c5 + c6) + 256 * ((c6 + c7) + 256 * c7)))) := by rw [hz1]; exact (split_add _ _ (by omega)).2
  rw [Nat.div_div_eq_div_mul] at hz2
  have hz3 : z < 18446744073709551616 := by omega
  rw [show (65536 : Nat) = 256 * 256 from rfl, hz2]
  obtain ⟨v, hv⟩ : ∃ v, v = z + ((c2 + c3) + 256 * ((c3 + c4) + 256 * ((c4 + c5) + 256 * ((c5 + c6) + 256 * ((c6 + c7) + 256 * c7))))) := ⟨_, rfl⟩
  rw [← hv]
  have hv' : v = (c0 + c1 + c2 + c3) + 256 * ((c1 + c2 + c3 + c4) + 256 * ((c2 + c3 + c4 + c5) + 256 * ((c3 + c4 + c5 + c6) + 256 * ((c4 + c5 + c6 + c7) + 256 * ((c5 + c6 + c7) + 256 * ((c6 + c7) + 256 * c7)))))) := by omega
  clear hv hz1 hz2 hz'
  have hv1 : v / 256 = (c1 + c2 + c3 + c4) + 256 * ((c2 + c3 + c4 + c5) + 256 * ((c3 + c4 + c5 + c6) + 256 * ((c4 + c5 + c6 + c7) + 256 * ((c5 + c6 + c7) + 256 * ((c6 + c7) + 256 * c7))))) := by rw [hv']; exact (split_add _ _ (by omega)).2
  have hv2 : v / 256 / 256 = (c2 + c3 + c4 + c5) + 256 * ((c3 + c4 + c5 + c6) + 256 * ((c4 + c5 + c6 + c7) + 256 * ((c5 + c6 + c7) + 256 * ((c6 + c7) + 256 * c7)))) := by rw [hv1]; exact (split_add _ _ (by omega)).2
  have hv3 : v / 256 / 256 / 256 = (c3 + c4 + c5 + c6) + 256 * ((c4 + c5 + c6 + c7) + 256 * ((c5 + c6 + c7) + 256 * ((c6 + c7) + 256 * c7))) := by rw [hv2]; exact (split_add _ _ (by omega)).2
  have hv4 : v / 256 / 256 / 256 / 256 = (c4 + c5 + c6 + c7) + 256 * ((c5 + c6 + c7) + 256 * ((c6 + c7) + 256 * c7)) := by rw [hv3]; exact (split_add _ _ (by omega)).2
  rw [Nat.div_div_eq_div_mul, Nat.div_div_eq_div_mul, Nat.div_div_eq_div_mul] at hv4
  clear hv1 hv2 hv3
  rw [show (4294967296 : Nat) = 256 * 256 * 256 * 256 from rfl, hv4]
  obtain ⟨r, hr⟩ : ∃ r, r = (c1 + c2 + c3 + c4) + 256 * ((c2 + c3 + c4 + c5) + 256 * ((c3 + c4 + c5 + c6) + 256 * ((c4 + c5 + c6 + c7) + 256 * ((c5 + c6 + c7) + 256 * ((c6 + c7) + 256 * c7))))) := ⟨_, rfl⟩
  obtain ⟨u, hu⟩ : ∃ u, u = (c5 + c6 + c7) + 256 * ((c6 + c7) + 256 * c7) := ⟨_, rfl⟩
  have hr2 : r < 72057594037927935 := by omega
  have hu2 : u < 16777216 := by omega
  rw [← hr] at hv'
  rw [← hu]
  clear hr hu
  refine ⟨hz3, by omega, by omega, by omega⟩
theorem eight {y P : Nat} (hy : y < 18446744073709551616) (hs : dsum 8 8 y = P) (hl : dle 8 8 8 y) :
    P ≤ 64 ∧ y + y / 256 < 18446744073709551616 ∧ (y + y / 256) + (y + y / 256) / 65536 < 18446744073709551616 ∧
    ((y + y / 256) + (y + y / 256) / 65536) + ((y + y / 256) + (y + y / 256) / 65536) / 4294967296 < 18446744073709551616 ∧
    (((y + y / 256) + (y + y / 256) / 65536) + ((y + y / 256) + (y + y / 256) / 65536) / 4294967296) % 128 = P := by
  obtain ⟨l0, l1, l2, l3, l4, l5, l6, l7, _⟩ := hl
  simp only [dsum, Nat.add_zero, Nat.reducePow] at hs l0 l1 l2 l3 l4 l5 l6 l7
  have h7 : y / 256 / 256 / 256 / 256 / 256 / 256 / 256 < 256 := by omega
  have hY : y = y % 256 + 256 * (y / 256 % 256 + 256 * (y / 256 / 256 % 256 + 256 * (y / 256 / 256 / 256 % 256 + 256 * (y / 256 / 256 / 256 / 256 % 256 + 256 * (y / 256 / 256 / 256 / 256 / 256 % 256 + 256 * (y / 256 / 256 / 256 / 256 / 256 / 256 % 256 + 256 * (y / 256 / 256 / 256 / 256 / 256 / 256 / 256 % 256))))))) := by
    rw [Nat.mod_eq_of_lt h7]
    simp only [Nat.mod_add_div]
  obtain ⟨a, b, c, d⟩ := eight1 l0 l1 l2 l3 l4 l5 l6 l7 y hY
  exact ⟨by omega, a, b, c, by rw [d]; omega⟩
end Go.Proofs.YtbiopegophdgiaaDoor
