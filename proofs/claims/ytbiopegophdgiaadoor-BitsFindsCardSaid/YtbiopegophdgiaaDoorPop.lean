import Derived.Test.YtbiopegophdgiaaDoorNum
namespace Go.Proofs.YtbiopegophdgiaaDoor

/-- the digits of x of k bits each, added up: the lowest j of them -/
def dsum (k : Nat) : Nat → Nat → Nat
  | 0, _ => 0
  | j + 1, x => x % 2 ^ k + dsum k j (x / 2 ^ k)
/-- are they at most D? -/
def dle (k D : Nat) : Nat → Nat → Prop
  | 0, _ => True
  | j + 1, x => x % 2 ^ k ≤ D ∧ dle k D j (x / 2 ^ k)
/-- k bits of each 2k, j times -/
def mk (k : Nat) : Nat → Nat
  | 0 => 0
  | j + 1 => (2 ^ k - 1) + 2 ^ (2 * k) * mk k j

theorem and_split (m a b c d : Nat) (ha : a < 2 ^ m) (hc : c < 2 ^ m) : (2 ^ m * b + a) &&& (2 ^ m * d + c) = 2 ^ m * (b &&& d) + (a &&& c) := by
  have hac : a &&& c < 2 ^ m := Nat.and_lt_two_pow _ hc
  apply Nat.eq_of_testBit_eq
  intro i
  rw [Nat.testBit_and, Nat.testBit_two_pow_mul_add _ ha, Nat.testBit_two_pow_mul_add _ hc, Nat.testBit_two_pow_mul_add _ hac]
  by_cases h : i < m
  · simp [h]
  · simp [h]

theorem pow_le2 (k : Nat) : 2 ^ k ≤ 2 ^ (2 * k) := Nat.pow_le_pow_right (by omega) (by omega)

theorem and_mk (k j x : Nat) : x &&& mk k (j + 1) = x % 2 ^ k + 2 ^ (2 * k) * (x / 2 ^ (2 * k) &&& mk k j) := by
  have hp : 0 < 2 ^ (2 * k) := Nat.pow_pos (by omega)
  have hk : 0 < 2 ^ k := Nat.pow_pos (by omega)
  have h2 := pow_le2 k
  have hx : x = 2 ^ (2 * k) * (x / 2 ^ (2 * k)) + x % 2 ^ (2 * k) := (Nat.div_add_mod x _).symm
  have h := and_split (2 * k) (x % 2 ^ (2 * k)) (x / 2 ^ (2 * k)) (2 ^ k - 1) (mk k j) (Nat.mod_lt _ hp) (by omega)
  rw [← hx] at h
  rw [mk, Nat.add_comm (2 ^ k - 1), h, Nat.and_two_pow_sub_one_eq_mod, Nat.mod_mod_of_dvd _ (Nat.pow_dvd_pow 2 (by omega)), Nat.add_comm]

theorem two_pow_two (k : Nat) : 2 ^ (2 * k) = 2 ^ k * 2 ^ k := by rw [Nat.two_mul, Nat.pow_add]

/-- one round: digits of k bits to digits of 2k bits -/
def fold (k j x : Nat) : Nat := (x / 2 ^ k &&& mk k j) + (x &&& mk k j)
theorem fold_succ (k j x : Nat) : fold k (j + 1) x = ((x / 2 ^ k) % 2 ^ k + x % 2 ^ k) + 2 ^ (2 * k) * fold k j (x / 2 ^ (2 * k)) := by
  unfold fold
  rw [and_mk, and_mk, Nat.div_div_eq_div_mul, Nat.div_div_eq_div_mul, Nat.mul_comm (2 ^ k) (2 ^ (2 * k)), Nat.mul_add]
  omega
theorem fold_low {k D a b : Nat} (hk : 1 ≤ k) (hD : 2 * D < 2 ^ (2 * k)) (h1 : a ≤ D) (h2 : b ≤ D) (y : Nat) :
    (a + b + 2 ^ (2 * k) * y) % 2 ^ (2 * k) = a + b ∧ (a + b + 2 ^ (2 * k) * y) / 2 ^ (2 * k) = y := by
  have _ := hk
  have hp : 0 < 2 ^ (2 * k) := Nat.pow_pos (by omega)
  exact ⟨by rw [Nat.add_mul_mod_self_left, Nat.mod_eq_of_lt (by omega)], by rw [Nat.add_mul_div_left _ _ hp, Nat.div_eq_of_lt (by omega), Nat.zero_add]⟩

theorem fold_sum {k D : Nat} (hk : 1 ≤ k) (hD : 2 * D < 2 ^ (2 * k)) : ∀ (j x : Nat), dle k D (2 * j) x → dsum (2 * k) j (fold k j x) = dsum k (2 * j) x ∧ dle (2 * k) (2 * D) j (fold k j x)
  | 0, _, _ => ⟨rfl, trivial⟩
  | j + 1, x, h => by
    obtain ⟨h1, h2, h3⟩ : x % 2 ^ k ≤ D ∧ (x / 2 ^ k) % 2 ^ k ≤ D ∧ dle k D (2 * j) (x / 2 ^ k / 2 ^ k) := h
    rw [Nat.div_div_eq_div_mul, ← two_pow_two] at h3
    obtain ⟨e1, e2⟩ := fold_low hk hD h2 h1 (fold k j (x / 2 ^ (2 * k)))
    obtain ⟨i1, i2⟩ := fold_sum hk hD j _ h3
    show (fold k (j + 1) x % 2 ^ (2 * k) + dsum (2 * k) j (fold k (j + 1) x / 2 ^ (2 * k)) = x % 2 ^ k + ((x / 2 ^ k) % 2 ^ k + dsum k (2 * j) (x / 2 ^ k / 2 ^ k))) ∧ (fold k (j + 1) x % 2 ^ (2 * k) ≤ 2 * D ∧ dle (2 * k) (2 * D) j (fold k (j + 1) x / 2 ^ (2 * k)))
    rw [fold_succ, e1, e2, i1, Nat.div_div_eq_div_mul (m := x), ← two_pow_two]
    exact ⟨by omega, by omega, i2⟩

/-- the third round: the sum first, where no digit grows above its four bits -/
def fold3 (j x : Nat) : Nat := (x / 16 + x) &&& mk 4 j
theorem fold3_eq : ∀ (j x : Nat), dle 4 4 (2 * j) x → fold3 j x = fold 4 j x
  | 0, _, _ => by simp [fold3, fold, mk]
  | j + 1, x, h => by
    obtain ⟨h1, h2, h3⟩ : x % 2 ^ 4 ≤ 4 ∧ (x / 2 ^ 4) % 2 ^ 4 ≤ 4 ∧ dle 4 4 (2 * j) (x / 2 ^ 4 / 2 ^ 4) := h
    have ih := fold3_eq j _ h3
    have h4 : (x / 2 ^ 4 / 2 ^ 4) % 2 ^ 4 ≤ 4 ∨ j = 0 := by
      cases j with
      | zero => exact .inr rfl
      | succ j => exact .inl h3.1
    have e3 : x / 2 ^ 4 / 2 ^ 4 = x / 256 := Nat.div_div_eq_div_mul x 16 16
    rw [e3] at ih h4
    clear h3 e3
    rw [fold_succ]
    unfold fold3 at ih ⊢
    rw [and_mk]
    simp only [Nat.reducePow, Nat.reduceMul] at h1 h2 h4 ⊢
    have e1 : (x / 16 + x) % 16 = x / 16 % 16 + x % 16 := by omega
    rw [e1]
    rcases h4 with h4 | rfl
    · have e4 : x / 16 + x = (x % 16 + x / 16 % 16 + 16 * (x / 16 % 16 + x / 256 % 16)) + 256 * (x / 256 / 16 + x / 256) := by omega
      have e2 : (x / 16 + x) / 256 = x / 256 / 16 + x / 256 := by
        rw [e4, Nat.add_mul_div_left _ _ (by omega), Nat.div_eq_of_lt (by omega), Nat.zero_add]
      rw [e2, ih]
    · simp [mk, fold]

/-- one is the sum just of a power of two -/
theorem dsum_zero : ∀ (j x : Nat), dsum 1 j x = 0 → x < 2 ^ j → x = 0
  | 0, x, _, h => by simpa using h
  | j + 1, x, h, hx => by
    have h1 : x % 2 + dsum 1 j (x / 2) = 0 := h
    have := dsum_zero j (x / 2) (by omega) (by rw [Nat.pow_succ] at hx; omega)
    omega
theorem dsum_of_zero : ∀ (j : Nat), dsum 1 j 0 = 0
  | 0 => rfl
  | j + 1 => by
    show 0 % 2 ^ 1 + dsum 1 j (0 / 2 ^ 1) = 0
    simpa using dsum_of_zero j
theorem dsum_one : ∀ (j x : Nat), x < 2 ^ j → (dsum 1 j x = 1 ↔ ∃ k, k < j ∧ x = 2 ^ k)
  | 0, x, h => by
    simp [dsum]
  | j + 1, x, hx => by
    have h2 : x / 2 < 2 ^ j := by rw [Nat.pow_succ] at hx; omega
    have ih := dsum_one j (x / 2) h2
    have hd : dsum 1 (j + 1) x = x % 2 + dsum 1 j (x / 2) := rfl
    rw [hd]
    constructor
    · intro h
      by_cases hm : x % 2 = 0
      · obtain ⟨k, hk, hk2⟩ := ih.1 (by omega)
        exact ⟨k + 1, by omega, by rw [Nat.pow_succ]; omega⟩
      · have := dsum_zero j (x / 2) (by omega) h2
        exact ⟨0, by omega, by simp; omega⟩
    · rintro ⟨k, hk, rfl⟩
      cases k with
      | zero =>
        have := dsum_of_zero j
        simpa using this
      | succ k =>
        have e1 : 2 ^ (k + 1) % 2 = 0 := by rw [Nat.pow_succ]; omega
        have e2 : 2 ^ (k + 1) / 2 = 2 ^ k := by rw [Nat.pow_succ]; omega
        rw [e1, e2, Nat.zero_add]
        rw [e2] at ih
        exact ih.2 ⟨k, by omega, rfl⟩
theorem dle_bits : ∀ (j x : Nat), dle 1 1 j x
  | 0, _ => trivial
  | j + 1, x => ⟨by have : x % 2 ^ 1 < 2 := Nat.mod_lt _ (by omega); omega, dle_bits j _⟩

end Go.Proofs.YtbiopegophdgiaaDoor
