import Derived.Test.YtbiopegophdgiaaDoorVal
namespace Go.Proofs.YtbiopegophdgiaaDoor

/- A WORD'S PLACES, ONE BY ONE: plain mathematics. -/

theorem odd_and (m : Nat) : (2 * m + 1) &&& (2 * m) = 2 * m := by
  have h := and_split 1 1 m 0 m (by omega) (by omega)
  simpa using h
theorem and_pred (q m : Nat) : (2 ^ q * (2 * m + 1)) &&& (2 ^ q * (2 * m + 1) - 1) = 2 ^ (q + 1) * m := by
  have hp : 0 < 2 ^ q := Nat.pow_pos (by omega)
  have h := and_split q 0 (2 * m + 1) (2 ^ q - 1) (2 * m) hp (by omega)
  simp only [odd_and, Nat.zero_and, Nat.add_zero] at h
  have e : 2 ^ q * (2 * m) + (2 ^ q - 1) = 2 ^ q * (2 * m + 1) - 1 := by rw [Nat.mul_add, Nat.mul_one]; omega
  rw [e] at h
  rw [h, Nat.pow_succ, Nat.mul_assoc]

theorem step_word (c : List Bool) (j o x : Nat) (hc : c.length ≤ 64) (hx : x = 2 ^ j * val (c.drop j)) (h0 : x ≠ 0) :
    ∃ q, j ≤ q ∧ q < 64 ∧ x = 2 ^ q * (2 * val (c.drop (q + 1)) + 1) ∧ idxs o (c.take (q + 1)) = idxs o (c.take j) ++ [o + q] ∧ ∃ post, idxs o c = idxs o (c.take j) ++ (o + q) :: post := by
  have hv : val (c.drop j) ≠ 0 := by intro h; rw [h, Nat.mul_zero] at hx; exact h0 hx
  obtain ⟨r, rest, e⟩ := val_first _ hv
  have hj : j ≤ c.length := by
    apply Nat.le_of_not_lt
    intro hlt
    rw [List.drop_eq_nil_of_le (by omega)] at e
    simp at e
  have hc2 : c = c.take j ++ (List.replicate r false ++ true :: rest) := by rw [← e, List.take_append_drop]
  have hl : c.length = j + r + 1 + rest.length := by
    have := congrArg List.length hc2
    simp [Nat.min_eq_left hj] at this
    omega
  have hd : c.drop (j + r + 1) = rest := by
    have h1 : c.drop (j + (r + 1)) = (c.drop j).drop (r + 1) := by rw [List.drop_drop]
    rw [Nat.add_assoc, h1, e, List.drop_append]
    simp
  have ht : c.take (j + r + 1) = c.take j ++ (List.replicate r false ++ [true]) := by
    rw [Nat.add_assoc, List.take_add, e, List.take_append]
    simp
  have htl : (c.take j).length = j := by simp [hj]
  refine ⟨j + r, by omega, by omega, ?_, ?_, ?_⟩
  · rw [hx, e, val_at, hd, ← Nat.mul_assoc, ← Nat.pow_add]
  · rw [ht]
    have h := idxs_step o r (c.take j) []
    rw [htl] at h
    rw [h, Nat.add_assoc]
    rfl
  · refine ⟨idxs (o + j + r + 1) rest, ?_⟩
    have h := idxs_step o r (c.take j) rest
    rw [← hc2, htl] at h
    rw [h, Nat.add_assoc o j r]
theorem last_word (c : List Bool) (j o : Nat) (h : 2 ^ j * val (c.drop j) = 0) : idxs o c = idxs o (c.take j) := by
  have hp : 0 < 2 ^ j := Nat.pow_pos (by omega)
  have hv : val (c.drop j) = 0 := by
    rcases Nat.mul_eq_zero.1 h with h | h
    · omega
    · exact h
  have e := val_zero _ hv
  conv => lhs; rw [← List.take_append_drop j c, e, idxs_append, idxs_false, List.append_nil]

/-- how places part at a word -/
theorem idxs_word (l : List Bool) (k : Nat) (hk : 64 * k ≤ l.length) : ∃ post, idxs 0 l = idxs 0 (l.take (64 * k)) ++ idxs (64 * k) (chunk l k) ++ post := by
  refine ⟨idxs (64 * k + (chunk l k).length) (l.drop (64 * (k + 1))), ?_⟩
  have h1 : l = l.take (64 * k) ++ (chunk l k ++ l.drop (64 * (k + 1))) := by
    rw [← List.append_assoc, ← take_word, List.take_append_drop]
  have hl : (l.take (64 * k)).length = 64 * k := by simp [hk]
  conv => lhs; rw [h1, idxs_append, idxs_append, hl, Nat.zero_add]
  rw [List.append_assoc]
theorem idxs_next (l : List Bool) (k : Nat) (hk : 64 * k ≤ l.length) : idxs 0 (l.take (64 * (k + 1))) = idxs 0 (l.take (64 * k)) ++ idxs (64 * k) (chunk l k) := by
  rw [take_word, idxs_append, Nat.zero_add]
  have hl : (l.take (64 * k)).length = 64 * k := by simp [hk]
  rw [hl]
/-- may x come behind pre? -/
def preP (l : List Bool) (pre : List Nat) (x : Nat) : Prop := ∃ post, idxs 0 l = pre ++ x :: post
def someP (l : List Bool) (pre : List Nat) : Prop := ∃ post, idxs 0 l = pre ++ post
theorem preP.some {l : List Bool} {pre : List Nat} {x : Nat} (h : preP l pre x) : someP l (pre ++ [x]) := by
  obtain ⟨post, h⟩ := h
  exact ⟨post, by rw [h]; simp⟩
theorem preP.lt {l : List Bool} {pre : List Nat} {x : Nat} (h : preP l pre x) : x < l.length := by
  obtain ⟨post, h⟩ := h
  have := idxs_lt 0 l x (by rw [h]; simp)
  omega
theorem word_pre (l : List Bool) (k j x : Nat) (hk : 64 * k ≤ l.length) (hx : x = 2 ^ j * val ((chunk l k).drop j)) (h0 : x ≠ 0) :
    ∃ q, q < 64 ∧ x = 2 ^ q * (2 * val ((chunk l k).drop (q + 1)) + 1) ∧ preP l (idxs 0 (l.take (64 * k)) ++ idxs (64 * k) ((chunk l k).take j)) (64 * k + q) ∧
      idxs 0 (l.take (64 * k)) ++ idxs (64 * k) ((chunk l k).take (q + 1)) = (idxs 0 (l.take (64 * k)) ++ idxs (64 * k) ((chunk l k).take j)) ++ [64 * k + q] := by
  obtain ⟨q, _, h2, h3, h4, post, h5⟩ := step_word (chunk l k) j (64 * k) x (chunk_len l k) hx h0
  obtain ⟨p2, h6⟩ := idxs_word l k hk
  refine ⟨q, h2, h3, ⟨post ++ p2, ?_⟩, ?_⟩
  · rw [h6, h5]; simp
  · rw [h4]; simp
theorem word_last (l : List Bool) (k j : Nat) (hk : 64 * k ≤ l.length) (h0 : 2 ^ j * val ((chunk l k).drop j) = 0) :
    idxs 0 (l.take (64 * k)) ++ idxs (64 * k) ((chunk l k).take j) = idxs 0 (l.take (64 * (k + 1))) := by
  rw [idxs_next l k hk, last_word _ j _ h0]
end Go.Proofs.YtbiopegophdgiaaDoor
