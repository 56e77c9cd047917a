import Derived.Test.YtelhieinkdmpfaaDoorSP
namespace Go.Proofs.YtelhieinkdmpfaaDoor.Sh
open Go.RowKit Go.Shelf
attribute [local go_sem] Oper.semAt_some

/- THE COUNTS ARE TOGETHER ALL SLOTS; WHAT A MOVE TELLS. -/
def sumTo (l : Ls) (i : Nat) : Nat → Nat
  | 0 => 0
  | x + 1 => sumTo l i x + (placesTo l (x : Int) i).length
theorem sumTo_zero (l : Ls) : ∀ x, sumTo l 0 x = 0
  | 0 => rfl
  | x + 1 => by
    rw [sumTo, sumTo_zero l x]
    rfl
theorem sumTo_step (l : Ls) (i : Nat) (h0 : 0 ≤ l.getD i 0) : ∀ x : Nat, sumTo l (i + 1) x = sumTo l i x + (if l.getD i 0 < (x : Int) then 1 else 0)
  | 0 => by
    rw [if_neg (by omega)]
    rfl
  | x + 1 => by
    rw [sumTo, sumTo, sumTo_step l i h0 x, placesTo_step, List.length_append]
    by_cases h1 : l.getD i 0 = (x : Int)
    · rw [if_pos h1, if_neg (by omega), if_pos (by omega)]
      simp
      omega
    · rw [if_neg h1]
      by_cases h2 : l.getD i 0 < (x : Int)
      · rw [if_pos h2, if_pos (by omega)]
        simp
        omega
      · rw [if_neg h2, if_neg (by omega)]
        simp
theorem sumTo_all {l : Ls} (h : Sts l) : ∀ i, i ≤ l.length → sumTo l i 5 = i
  | 0, _ => sumTo_zero l 5
  | i + 1, hi => by
    have h1 := h l[i] (List.getElem_mem hi)
    rw [sumTo_step l i (by rw [getD_get hi]; omega), sumTo_all h i (by omega), getD_get hi, if_pos (by omega)]
theorem sumTo_le {l : Ls} (h : Sts l) (x : Nat) (hx : x ≤ 5) : sumTo l l.length x ≤ l.length := by
  have h5 := sumTo_all h l.length (Nat.le_refl _)
  have mono : ∀ d, sumTo l l.length x ≤ sumTo l l.length (x + d) := fun d => by
    induction d with
    | zero => exact Nat.le_refl _
    | succ d ih => exact Nat.le_trans ih (by rw [show x + (d + 1) = (x + d) + 1 by omega, sumTo]; omega)
  have := mono (5 - x)
  rw [show x + (5 - x) = 5 by omega, h5] at this
  exact this
/-- what a move that is done tells -/
theorem move_tells {l : Ls} {a t : Int} (h : moveE l a t = 0) : inB l a = true ∧ getV l a = moveW l a t ∧ getV (moveL l a t) a = t ∧ (moveW l a t == 4) = false ∧
    (((t == 2) = true ∧ (moveW l a t != 1) = false ∧ (moveW l a t == 2) = false) ∨ ((t == 2) = false ∧ (moveW l a t == 2) = true ∧ (t == 0) = false) ∨ ((t == 2) = false ∧ (moveW l a t == 2) = false)) := by
  obtain ⟨_, k, rfl, hk, hm⟩ := moveE_ok h
  have e1 := getV_in hk
  have e2 : moveW l k t = l[k] := by unfold moveW; rw [if_pos h, Int.toNat_natCast, getD_get hk]
  have e3 : moveL l k t = l.set k t := by unfold moveL; rw [if_pos h, Int.toNat_natCast]
  have hk2 : k < (l.set k t).length := by simpa using hk
  have e4 : getV (l.set k t) (k : Int) = t := by
    rw [(getV_in hk2).1]
    simp
  rw [e2, e3]
  refine ⟨e1.2, e1.1, e4, ?_⟩
  obtain ⟨x, hx⟩ : ∃ x, x = l[k] := ⟨_, rfl⟩
  rw [← hx] at hm ⊢
  clear hx e1 e2 e3 e4
  unfold mayB at hm
  split at hm
  · rename_i hx
    subst hx
    have : t = 1 := by simpa using hm
    subst this
    decide
  split at hm
  · rename_i hx
    subst hx
    have : t = 0 ∨ t = 2 := by simpa using hm
    rcases this with rfl | rfl <;> decide
  split at hm
  · rename_i hx
    subst hx
    have : t = 3 ∨ t = 4 := by simpa using hm
    rcases this with rfl | rfl <;> decide
  split at hm
  · rename_i hx
    subst hx
    have : t = 0 ∨ t = 4 := by simpa using hm
    rcases this with rfl | rfl <;> decide
  · cases hm
theorem move_stays {l : Ls} {a t : Int} (h : moveE l a t ≠ 0) : moveL l a t = l := by unfold moveL; rw [if_neg h]
section
variable {Has : HasT} (H : Api Has) {w V V' : World} {v : Value} {l l' : Ls}
include H
theorem Run.get (h : Run Has w v l V) (z x : Int) (b : Bool) (hz : i64 z) (hx : getV l z = x) (hb : inB l z = b) : Calls Tryd.prog 16 #[v, .int .i64 z] V fun e V' => e = .returned (.tuple #[.int .i64 x, .bool b]) ∧ Run Has w v l V' := by
  have h0 := h
  obtain ⟨F, h1, h2, h3⟩ := h
  exact (H.get z h1 hz).mono fun e V' ⟨e1, hb1⟩ => ⟨by rw [e1, hx, hb], Run.more H h0 hb1⟩
theorem Run.parse (h : Run Has w v l V) (T : ByteArray) (ht : str (Sh.text l) = T) : Calls Tryd.prog 26 #[.string T] V fun e V' => ∃ u, e = .returned (.tuple #[u, .int .i64 0]) ∧ Run Has w v l V' ∧ ∃ F, Has V' u l F := by
  have h0 := h
  obtain ⟨F, h1, h2, h3⟩ := h
  subst ht
  refine (H.parse _ l V ?_ ?_).mono fun e V' ⟨u, F', e1, e2, e3, e4⟩ => ⟨u, e1, Run.more H h0 e4, F', e2⟩
  · show (Sh.text l).toArray.size ≤ 256
    simp only [List.size_toArray, text_len]
    exact H.most h1
  · show untext (Sh.text l).toArray.toList = _
    exact untext_text (H.sts h1)
theorem Run.same (h : Run Has w v l V) {u : Value} (hu : ∃ F, Has V u l F) : Calls Tryd.prog 23 #[v, u] V fun e V' => e = .returned (.bool true) ∧ Run Has w v l V' := by
  have h0 := h
  obtain ⟨F, h1, h2, h3⟩ := h
  obtain ⟨F', hu⟩ := hu
  exact (H.same h1 hu).mono fun e V' ⟨e1, hb1⟩ => ⟨by rw [e1, decide_eq_true rfl], Run.more H h0 hb1⟩
theorem Run.sts (h : Run Has w v l V) : Sts l := by
  obtain ⟨F, h1, h2, h3⟩ := h
  exact H.sts h1
end
end Go.Proofs.YtelhieinkdmpfaaDoor.Sh
