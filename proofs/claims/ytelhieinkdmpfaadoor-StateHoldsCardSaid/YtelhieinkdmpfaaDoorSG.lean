import Derived.Test.YtelhieinkdmpfaaDoorSF
namespace Go.Proofs.YtelhieinkdmpfaaDoor.Sh
open Go.RowKit Go.Shelf
attribute [local go_sem] Oper.semAt_some

/- THE DOCUMENT's PARSE. -/
theorem unletter_st {b : UInt8} {z : Int} (h : unletter b = some z) : 0 ≤ z ∧ z ≤ 4 ∧ letter z = b := by
  unfold unletter at h
  split at h
  · cases h; rename_i e; subst e; decide
  split at h
  · cases h; rename_i e; subst e; decide
  split at h
  · cases h; rename_i e; subst e; decide
  split at h
  · cases h; rename_i e; subst e; decide
  split at h
  · cases h; rename_i e; subst e; decide
  · cases h
theorem untext_none {b : UInt8} (hb : unletter b = none) : ∀ {l : List UInt8}, b ∈ l → untext l = none
  | x :: r, h => by
    rcases List.mem_cons.1 h with rfl | h
    · simp [untext, hb]
    · simp only [untext, untext_none hb h]
      cases unletter x <;> rfl
theorem untext_snoc {b : UInt8} {z : Int} (hb : unletter b = some z) : ∀ {l : List UInt8} {o : Ls}, untext l = some o → untext (l ++ [b]) = some (o ++ [z])
  | [], o, h => by
    cases h
    simp [untext, hb]
  | x :: r, o, h => by
    unfold untext at h
    cases hx : unletter x with
    | none => rw [hx] at h; cases h
    | some y =>
      cases hr : untext r with
      | none => rw [hx, hr] at h; cases h
      | some s =>
        rw [hx, hr] at h
        cases h
        show (match unletter x, untext (r ++ [b]) with
          | some z, some l => some (z :: l)
          | _, _ => none) = _
        rw [hx, untext_snoc hb hr]
        rfl
theorem untext_sts : ∀ {l : List UInt8} {o : Ls}, untext l = some o → Sts o ∧ o.length = l.length ∧ text o = l
  | [], o, h => by
    cases h
    exact ⟨fun z hz => absurd hz (by simp), rfl, rfl⟩
  | x :: r, o, h => by
    unfold untext at h
    cases hx : unletter x with
    | none => rw [hx] at h; cases h
    | some y =>
      cases hr : untext r with
      | none => rw [hx, hr] at h; cases h
      | some s =>
        rw [hx, hr] at h
        cases h
        obtain ⟨h1, h2, h3⟩ := untext_sts hr
        have h4 := unletter_st hx
        refine ⟨fun z hz => ?_, by simp [h2], ?_⟩
        · rcases List.mem_cons.1 hz with rfl | hz
          · exact ⟨h4.1, h4.2.1⟩
          · exact h1 z hz
        · show letter y :: text s = _
          rw [h3, h4.2.2]
theorem untext_text : ∀ {o : Ls}, Sts o → untext (text o) = some o
  | [], _ => rfl
  | z :: r, h => by
    have hz := h z (by simp)
    have h1 : unletter (letter z) = some z := by
      obtain rfl | rfl | rfl | rfl | rfl : z = 0 ∨ z = 1 ∨ z = 2 ∨ z = 3 ∨ z = 4 := by omega
      all_goals rfl
    show (match unletter (letter z), untext (text r) with
      | some z, some l => some (z :: l)
      | _, _ => none) = _
    rw [h1, untext_text (fun y hy => h y (by simp [hy]))]
/-- what was found among the first letters -/
def fnd (b : UInt8) (k : Nat) : Int := match unletter b with
  | some z => if z < (k : Int) then z else -1
  | none => -1
theorem fnd_zero (b : UInt8) : fnd b 0 = -1 := by
  unfold fnd
  cases h : unletter b with
  | none => rfl
  | some z =>
    have := unletter_st h
    simp only
    rw [if_neg (by omega)]
theorem unletter_eq {b : UInt8} {k : Nat} (hk : k < 5) : b = letter k ↔ unletter b = some (k : Int) := by
  constructor
  · rintro rfl
    obtain rfl | rfl | rfl | rfl | rfl : k = 0 ∨ k = 1 ∨ k = 2 ∨ k = 3 ∨ k = 4 := by omega
    all_goals rfl
  · intro h
    exact (unletter_st h).2.2.symm
theorem fnd_hit {b : UInt8} {k : Nat} (hk : k < 5) (h : b = letter k) : fnd b (k + 1) = k := by
  unfold fnd
  rw [(unletter_eq hk).1 h]
  simp only
  rw [if_pos (by omega)]
theorem fnd_miss {b : UInt8} {k : Nat} (hk : k < 5) (h : b ≠ letter k) : fnd b (k + 1) = fnd b k := by
  unfold fnd
  cases hb : unletter b with
  | none => rfl
  | some z =>
    have h1 : z ≠ k := fun e => h ((unletter_eq hk).2 (by rw [hb, e]))
    simp only
    by_cases h2 : z < (k : Int)
    · rw [if_pos h2, if_pos (by omega)]
    · rw [if_neg h2, if_neg (by omega)]
theorem fnd_all (b : UInt8) : fnd b 5 = (unletter b).getD (-1) := by
  unfold fnd
  cases hb : unletter b with
  | none => rfl
  | some z =>
    have := unletter_st hb
    simp only
    rw [if_pos (by omega)]
    rfl
def RP (w : World) (o : Option Ls) (e : Ending) (w' : World) : Prop := (∃ v, e = .returned (.tuple #[v, .int .i64 (if o = none then 241 else 0)]) ∧ Wi w' v (o.getD []) ∧ ∀ g, v.ownBlock = some g → w.heap.size ≤ g) ∧ Below w.heap.size w w'
theorem rparse_long (s : ByteArray) (w : World) (h : 256 < s.size) : Calls Tryd.prog 27 #[.string s] w fun e w' => e = .returned (.tuple #[.slice none 0 0, .int .i64 241]) ∧ w = w' := by
  have h1 : decide (256 < s.size) = true := decide_eq_true h
  have h2 : decide ((256 : Int) < (s.size : Int)) = true := decide_eq_true (by omega)
  clear h
  go_enter Tryd.func27, Tryd.ntmps27
  go_wp2_with fail
  go_ret2
  exact ⟨rfl, rfl⟩
end Go.Proofs.YtelhieinkdmpfaaDoor.Sh
