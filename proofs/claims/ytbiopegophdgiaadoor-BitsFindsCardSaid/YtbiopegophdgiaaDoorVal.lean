import Derived.Test.YtbiopegophdgiaaDoorPower
namespace Go.Proofs.YtbiopegophdgiaaDoor

/- MARKS AS LISTS OF TRUTHS: words of 64, positions, counts. No function of the program. -/

/-- the number whose lowest bit is the first truth -/
def val : List Bool → Nat
  | [] => 0
  | b :: l => (if b then 1 else 0) + 2 * val l
theorem val_lt : ∀ l : List Bool, val l < 2 ^ l.length
  | [] => by simp [val]
  | b :: l => by
    have := val_lt l
    rw [val, List.length_cons, Nat.pow_succ]
    split <;> omega
theorem val_bit : ∀ (l : List Bool) (j : Nat), (val l).testBit j = (l[j]?).getD false
  | [], j => by simp [val]
  | b :: l, 0 => by
    rw [Nat.testBit_zero, val]
    cases b <;> simp <;> omega
  | b :: l, j + 1 => by
    rw [Nat.testBit_succ, val, List.getElem?_cons_succ, ← val_bit l j]
    congr 1
    split <;> omega
theorem val_false (n : Nat) : val (List.replicate n false) = 0 := by
  induction n with
  | zero => rfl
  | succ n ih => rw [List.replicate_succ, val, ih]; rfl
theorem val_append : ∀ a b : List Bool, val (a ++ b) = val a + 2 ^ a.length * val b
  | [], b => by simp [val]
  | x :: a, b => by
    rw [List.cons_append, val, val, val_append a b, List.length_cons, Nat.pow_succ, Nat.mul_add, ← Nat.mul_assoc, Nat.mul_comm 2 (2 ^ a.length)]
    omega
theorem val_inj : ∀ {a b : List Bool}, a.length = b.length → val a = val b → a = b
  | [], [], _, _ => rfl
  | [], _ :: _, h, _ => by simp at h
  | _ :: _, [], h, _ => by simp at h
  | x :: a, y :: b, h, hv => by
    simp only [val] at hv
    have h1 : val a = val b := by cases x <;> cases y <;> simp at hv <;> omega
    have h2 : x = y := by cases x <;> cases y <;> simp at hv ⊢ <;> omega
    rw [h2, val_inj (by simpa using h) h1]
/-- a list that is not all false: the first true -/
theorem val_first : ∀ l : List Bool, val l ≠ 0 → ∃ r rest, l = List.replicate r false ++ true :: rest
  | [], h => absurd rfl h
  | true :: l, _ => ⟨0, l, rfl⟩
  | false :: l, h => by
    obtain ⟨r, rest, e⟩ := val_first l (by intro h0; exact h (by simp [val, h0]))
    exact ⟨r + 1, rest, by rw [e]; rfl⟩
theorem val_zero : ∀ l : List Bool, val l = 0 → l = List.replicate l.length false
  | [], _ => rfl
  | true :: l, h => by simp [val] at h
  | false :: l, h => by
    have : val l = 0 := by simp [val] at h; omega
    rw [List.length_cons, List.replicate_succ, ← val_zero l this]
theorem val_at (r : Nat) (rest : List Bool) : val (List.replicate r false ++ true :: rest) = 2 ^ r * (2 * val rest + 1) := by
  rw [val_append, val_false, List.length_replicate, val]
  simp [Nat.add_comm]

/-- the places of the true ones, from o on -/
def idxs : Nat → List Bool → List Nat
  | _, [] => []
  | o, b :: l => if b then o :: idxs (o + 1) l else idxs (o + 1) l
theorem idxs_append : ∀ (o : Nat) (a b : List Bool), idxs o (a ++ b) = idxs o a ++ idxs (o + a.length) b
  | o, [], b => by simp [idxs]
  | o, x :: a, b => by
    rw [List.cons_append, idxs, idxs, idxs_append (o + 1) a b, List.length_cons, Nat.add_right_comm, Nat.add_assoc o]
    split <;> rfl
theorem idxs_false (o n : Nat) : idxs o (List.replicate n false) = [] := by
  induction n generalizing o with
  | zero => rfl
  | succ n ih => rw [List.replicate_succ, idxs, ih]; rfl
theorem idxs_lt : ∀ (o : Nat) (l : List Bool) (x : Nat), x ∈ idxs o l → o ≤ x ∧ x < o + l.length
  | o, [], x, h => by simp [idxs] at h
  | o, b :: l, x, h => by
    rw [idxs] at h
    have key : x ∈ idxs (o + 1) l → o ≤ x ∧ x < o + (b :: l).length := fun h => by
      have := idxs_lt (o + 1) l x h
      rw [List.length_cons]; omega
    split at h
    · rcases List.mem_cons.1 h with rfl | h
      · rw [List.length_cons]; omega
      · exact key h
    · exact key h
theorem idxs_len : ∀ (o : Nat) (l : List Bool), (idxs o l).length = l.count true
  | _, [] => rfl
  | o, b :: l => by
    rw [idxs]
    cases b <;> simp [idxs_len (o + 1) l]
theorem idxs_step (o r : Nat) (a rest : List Bool) : idxs o (a ++ (List.replicate r false ++ true :: rest)) = idxs o a ++ (o + a.length + r) :: idxs (o + a.length + r + 1) rest := by
  rw [idxs_append, idxs_append, idxs_false, List.nil_append, List.length_replicate, idxs]
  simp

theorem count_dsum : ∀ (n : Nat) (l : List Bool), l.length ≤ n → dsum 1 n (val l) = l.count true
  | 0, l, h => by
    obtain rfl : l = [] := List.eq_nil_of_length_eq_zero (by omega)
    rfl
  | n + 1, [], _ => by
    have : ∀ m, dsum 1 m 0 = 0 := fun m => by
      induction m with
      | zero => rfl
      | succ m ih => rw [dsum]; simp [ih]
    rw [val, this]; rfl
  | n + 1, b :: l, h => by
    have e2 : val (b :: l) % 2 ^ 1 = if b then 1 else 0 := by rw [val]; cases b <;> simp <;> omega
    have e3 : val (b :: l) / 2 ^ 1 = val l := by rw [val]; cases b <;> simp <;> omega
    rw [dsum, e2, e3, count_dsum n l (by simpa using h), List.count_cons]
    cases b <;> simp [Nat.add_comm]
theorem pop_val (l : List Bool) (h : l.length ≤ 64) : pop (val l) = l.count true := count_dsum 64 l h

/-- how many words places take -/
def nw (n : Nat) : Nat := (n + 63) / 64
/-- the i-th 64 places -/
def chunk (l : List Bool) (i : Nat) : List Bool := (l.drop (64 * i)).take 64
/-- the words of places -/
def words (l : List Bool) : List Nat := (List.range (nw l.length)).map fun i => val (chunk l i)
theorem words_len (l : List Bool) : (words l).length = nw l.length := by simp [words]
theorem words_get (l : List Bool) {i : Nat} (h : i < nw l.length) : (words l)[i]? = some (val (chunk l i)) := by
  simp [words, h]
theorem chunk_len (l : List Bool) (i : Nat) : (chunk l i).length ≤ 64 := by simp [chunk]; omega
theorem chunk_len' (l : List Bool) (i : Nat) : (chunk l i).length = min 64 (l.length - 64 * i) := by simp [chunk]
theorem chunk_lt (l : List Bool) (i : Nat) : val (chunk l i) < 18446744073709551616 := by
  have h1 := val_lt (chunk l i)
  have h2 : 2 ^ (chunk l i).length ≤ 2 ^ 64 := Nat.pow_le_pow_right (by omega) (chunk_len l i)
  omega
theorem chunk_get (l : List Bool) (i j : Nat) : (chunk l i)[j]? = if j < 64 then l[64 * i + j]? else none := by
  simp only [chunk, List.getElem?_take, List.getElem?_drop]
theorem take_word (l : List Bool) (k : Nat) : l.take (64 * (k + 1)) = l.take (64 * k) ++ chunk l k := by
  rw [Nat.mul_add, Nat.mul_one, List.take_add]; rfl
theorem words_false (n : Nat) : words (List.replicate n false) = List.replicate (nw n) 0 := by
  apply List.ext_getElem? 
  intro i
  by_cases h : i < nw n
  · rw [words_get _ (by simpa using h), List.getElem?_replicate, if_pos h]
    have : chunk (List.replicate n false) i = List.replicate (min 64 (n - 64 * i)) false := by
      simp [chunk]
    rw [this, val_false]
  · rw [List.getElem?_eq_none (by rw [words_len]; simpa using h), List.getElem?_replicate, if_neg h]
theorem words_inj {a b : List Bool} (hl : a.length = b.length) (h : words a = words b) : a = b := by
  apply List.ext_getElem?
  intro j
  by_cases hj : j < a.length
  · have hi : j / 64 < nw a.length := by unfold nw; omega
    have h1 := words_get a hi
    rw [h, words_get b (by rw [← hl]; exact hi)] at h1
    injection h1 with h1
    have hc : chunk b (j / 64) = chunk a (j / 64) := val_inj (by rw [chunk_len', chunk_len', hl]) h1
    have ea := chunk_get a (j / 64) (j % 64)
    have eb := chunk_get b (j / 64) (j % 64)
    rw [if_pos (Nat.mod_lt _ (by omega)), Nat.div_add_mod] at ea eb
    rw [← ea, ← eb, hc]
  · rw [List.getElem?_eq_none (by omega), List.getElem?_eq_none (by omega)]

/-- those that are such -/
def such (is : Bool) (l : List Bool) : List Bool := l.map (· == is)
theorem such_len (is : Bool) (l : List Bool) : (such is l).length = l.length := by simp [such]
theorem such_true (l : List Bool) : such true l = l := by
  unfold such
  conv => rhs; rw [← List.map_id l]
  congr 1
  funext b
  cases b <;> rfl
theorem such_get (is : Bool) (l : List Bool) (j : Nat) : (such is l)[j]? = (l[j]?).map (· == is) := by simp [such]
theorem such_chunk (is : Bool) (l : List Bool) (i : Nat) : chunk (such is l) i = such is (chunk l i) := by
  simp [such, chunk, List.map_drop, List.map_take]

theorem lt_two_pow64 {x : Nat} (h : x < 18446744073709551616) : x < 2 ^ 64 := h
/-- the bits that are places -/
def mask (n i : Nat) : Nat := 2 ^ min 64 (n - 64 * i) - 1
theorem mask_lt (n i : Nat) : mask n i < 18446744073709551616 := by
  have : 2 ^ min 64 (n - 64 * i) ≤ 2 ^ 64 := Nat.pow_le_pow_right (by omega) (Nat.min_le_left _ _)
  have : 0 < 2 ^ min 64 (n - 64 * i) := Nat.pow_pos (by omega)
  unfold mask; omega
/-- a word that is turned or not, less what is no place -/
def flip (is : Bool) (w : Nat) : Nat := if is then w else 18446744073709551615 - w
theorem flip_lt (is : Bool) {w : Nat} (h : w < 18446744073709551616) : flip is w < 18446744073709551616 := by unfold flip; split <;> omega
theorem flip_mask (is : Bool) (l : List Bool) (i : Nat) : flip is (val (chunk l i)) &&& mask l.length i = val (chunk (such is l) i) := by
  apply Nat.eq_of_testBit_eq
  intro j
  rw [Nat.testBit_and, mask, Nat.testBit_two_pow_sub_one, val_bit, such_chunk, such_get]
  by_cases hj : j < min 64 (l.length - 64 * i)
  · have hjl : j < (chunk l i).length := by rw [chunk_len']; exact hj
    rw [decide_eq_true hj, Bool.and_true, List.getElem?_eq_getElem hjl]
    have hb := val_bit (chunk l i) j
    rw [List.getElem?_eq_getElem hjl] at hb
    have hlt := chunk_lt l i
    cases is
    · have e : flip false (val (chunk l i)) = 2 ^ 64 - (val (chunk l i) + 1) := by show 18446744073709551615 - _ = _; omega
      rw [e, Nat.testBit_two_pow_sub_succ (lt_two_pow64 hlt), hb, decide_eq_true (by omega)]
      simp
    · show (val (chunk l i)).testBit j = _
      rw [hb]; simp
  · have hjl : (chunk l i).length ≤ j := by rw [chunk_len']; omega
    rw [decide_eq_false hj, Bool.and_false, List.getElem?_eq_none hjl]
    rfl
end Go.Proofs.YtbiopegophdgiaaDoor
