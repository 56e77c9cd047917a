import Derived.Test.YtfmbfojlopibnaaDoorBase
namespace Go.Proofs.YtfmbfojlopibnaaDoor

/- HALVES STIRRED, WORDS MIXED: plain mathematics. No function of the program. -/

def rot (k x : Nat) : Nat := (x * 2 ^ k) % 4294967296 ||| x / 2 ^ (32 - k)
def stirN (half by_ : Nat) : Nat :=
  rot 13 ((((half + by_) % 4294967296 ^^^ rot 7 ((half + by_) % 4294967296)) * 5 + 12345) % 4294967296)
def rnum (key n : Nat) : Nat := ((if n % 2 = 1 then key / 4294967296 else key % 4294967296) + n * 2654435769) % 4294967296
def mixedN (h : Nat × Nat) (b : Nat) : Nat × Nat := (h.2, h.1 ^^^ stirN h.2 b)
def undoneN (h : Nat × Nat) (b : Nat) : Nat × Nat := (h.2 ^^^ stirN h.1 b, h.1)
def halvesN (w : Nat) : Nat × Nat := (w / 4294967296, w % 4294967296)
def wholeN (h : Nat × Nat) : Nat := h.1 * 4294967296 + h.2
/-- what rounds make, one by one -/
def goes (f : Nat × Nat → Nat → Nat × Nat) (key : Nat) (rs : List Nat) (h : Nat × Nat) : Nat × Nat := rs.foldl (fun h n => f h (rnum key n)) h
def ups : List Nat := [0, 1, 2, 3, 4, 5, 6, 7]
def downs : List Nat := [7, 6, 5, 4, 3, 2, 1, 0]
def mixN (key word : Nat) : Nat := wholeN (goes mixedN key ups (halvesN word))
def undoN (key word : Nat) : Nat := wholeN (goes undoneN key downs (halvesN word))
def stepF (a x : Nat) : Nat := mixN x a ^^^ x
def foldN (l : List Nat) : Nat := l.foldl stepF 0

theorem rot_lt (k x : Nat) (hx : x < 4294967296) : rot k x < 4294967296 := by
  unfold rot
  exact Nat.or_lt_two_pow (n := 32) (Nat.mod_lt _ (by decide)) (Nat.lt_of_le_of_lt (Nat.div_le_self _ _) hx)
theorem stirN_lt (a b : Nat) : stirN a b < 4294967296 := rot_lt _ _ (Nat.mod_lt _ (by decide))
theorem rnum_lt (key n : Nat) : rnum key n < 4294967296 := Nat.mod_lt _ (by decide)
theorem xor_lt32 {a b : Nat} (ha : a < 4294967296) (hb : b < 4294967296) : a ^^^ b < 4294967296 := Nat.xor_lt_two_pow (n := 32) ha hb
theorem xor_lt64 {a b : Nat} (ha : a < 18446744073709551616) (hb : b < 18446744073709551616) : a ^^^ b < 18446744073709551616 := Nat.xor_lt_two_pow (n := 64) ha hb

/-- both are halves -/
def Half (h : Nat × Nat) : Prop := h.1 < 4294967296 ∧ h.2 < 4294967296
theorem mixed_half {h : Nat × Nat} (hh : Half h) (b : Nat) : Half (mixedN h b) := ⟨hh.2, xor_lt32 hh.1 (stirN_lt _ _)⟩
theorem undone_half {h : Nat × Nat} (hh : Half h) (b : Nat) : Half (undoneN h b) := ⟨xor_lt32 hh.2 (stirN_lt _ _), hh.1⟩
theorem halves_half {w : Nat} (h : w < 18446744073709551616) : Half (halvesN w) := ⟨by simp only [halvesN]; omega, Nat.mod_lt _ (by decide)⟩
theorem whole_lt {h : Nat × Nat} (hh : Half h) : wholeN h < 18446744073709551616 := by
  have h1 := hh.1
  have h2 := hh.2
  unfold wholeN
  omega
theorem whole_halves (w : Nat) : wholeN (halvesN w) = w := by
  unfold wholeN halvesN
  omega
theorem halves_whole {h : Nat × Nat} (hh : Half h) : halvesN (wholeN h) = h := by
  have h1 := hh.1
  have h2 := hh.2
  unfold wholeN halvesN
  refine Prod.ext ?_ ?_
  · simp only; omega
  · simp only; omega
theorem undone_mixed (h : Nat × Nat) (b : Nat) : undoneN (mixedN h b) b = h := by
  refine Prod.ext ?_ rfl
  simp only [undoneN, mixedN, Nat.xor_assoc, Nat.xor_self, Nat.xor_zero]
theorem mixed_undone (h : Nat × Nat) (b : Nat) : mixedN (undoneN h b) b = h := by
  refine Prod.ext rfl ?_
  simp only [undoneN, mixedN, Nat.xor_assoc, Nat.xor_self, Nat.xor_zero]
theorem goes_half {f : Nat × Nat → Nat → Nat × Nat} (hf : ∀ h b, Half h → Half (f h b)) (key : Nat) : ∀ (rs : List Nat) {h : Nat × Nat}, Half h → Half (goes f key rs h)
  | [], _, hh => hh
  | _ :: rs, _, hh => goes_half hf key rs (hf _ _ hh)
theorem goes_append (f : Nat × Nat → Nat → Nat × Nat) (key : Nat) (a b : List Nat) (h : Nat × Nat) : goes f key (a ++ b) h = goes f key b (goes f key a h) := List.foldl_append
theorem goes_one (f : Nat × Nat → Nat → Nat × Nat) (key : Nat) (a : List Nat) (n : Nat) (h : Nat × Nat) : goes f key (a ++ [n]) h = f (goes f key a h) (rnum key n) := goes_append f key a [n] h
theorem goes_back {f g : Nat × Nat → Nat → Nat × Nat} (hfg : ∀ h b, g (f h b) b = h) (key : Nat) : ∀ (rs : List Nat) (h : Nat × Nat), goes g key rs.reverse (goes f key rs h) = h
  | [], _ => rfl
  | n :: rs, h => by
    rw [List.reverse_cons, goes_one, show goes f key (n :: rs) h = goes f key rs (f h (rnum key n)) from rfl, goes_back hfg key rs, hfg]
theorem mixN_half {key word : Nat} (h : word < 18446744073709551616) : Half (goes mixedN key ups (halvesN word)) := goes_half (fun _ b hh => mixed_half hh b) key ups (halves_half h)
theorem undoN_half {key word : Nat} (h : word < 18446744073709551616) : Half (goes undoneN key downs (halvesN word)) := goes_half (fun _ b hh => undone_half hh b) key downs (halves_half h)
theorem mixN_lt {key word : Nat} (h : word < 18446744073709551616) : mixN key word < 18446744073709551616 := whole_lt (mixN_half h)
theorem undoN_lt {key word : Nat} (h : word < 18446744073709551616) : undoN key word < 18446744073709551616 := whole_lt (undoN_half h)
theorem undo_mix {key word : Nat} (h : word < 18446744073709551616) : undoN key (mixN key word) = word := by
  unfold undoN mixN
  rw [halves_whole (mixN_half h), show downs = ups.reverse from rfl, goes_back undone_mixed, whole_halves]
theorem mix_undo {key word : Nat} (h : word < 18446744073709551616) : mixN key (undoN key word) = word := by
  unfold undoN mixN
  rw [halves_whole (undoN_half h), show ups = downs.reverse from rfl, goes_back mixed_undone, whole_halves]
theorem mix_inj {key a b : Nat} (ha : a < 18446744073709551616) (hb : b < 18446744073709551616) : mixN key a = mixN key b ↔ a = b := by
  refine ⟨fun h => ?_, fun h => by rw [h]⟩
  rw [← undo_mix (key := key) ha, h, undo_mix hb]
theorem foldl_one (f : Nat → Nat → Nat) (a : Nat) (l : List Nat) (x : Nat) : (l ++ [x]).foldl f a = f (l.foldl f a) x := by simp
theorem foldN_one (l : List Nat) (x : Nat) : foldN (l ++ [x]) = stepF (foldN l) x := foldl_one _ _ _ _
theorem foldN_lt : ∀ {l : List Nat}, (∀ x ∈ l, x < 18446744073709551616) → foldN l < 18446744073709551616 := by
  intro l h
  have key : ∀ (l : List Nat) (a : Nat), (∀ x ∈ l, x < 18446744073709551616) → a < 18446744073709551616 → l.foldl stepF a < 18446744073709551616 := by
    intro l
    induction l with
    | nil => intro a _ ha; exact ha
    | cons x l ih => intro a h ha; exact ih (stepF a x) (fun y hy => h y (by simp [hy])) (xor_lt64 (mixN_lt ha) (h x (by simp)))
  exact key l 0 h (by decide)
theorem xor_inj {a b c : Nat} : a ^^^ c = b ^^^ c ↔ a = b := by
  refine ⟨fun h => ?_, fun h => by rw [h]⟩
  have h2 : (a ^^^ c) ^^^ c = (b ^^^ c) ^^^ c := by rw [h]
  simpa [Nat.xor_assoc] using h2
theorem fold_more {l m : List Nat} {x : Nat} (hl : ∀ y ∈ l, y < 18446744073709551616) (hm : ∀ y ∈ m, y < 18446744073709551616) : foldN (l ++ [x]) = foldN (m ++ [x]) ↔ foldN l = foldN m := by
  rw [foldN_one, foldN_one, stepF, stepF, xor_inj, mix_inj (foldN_lt hl) (foldN_lt hm)]
end Go.Proofs.YtfmbfojlopibnaaDoor
