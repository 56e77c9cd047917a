import Derived.Test.YtmocdokikcbjeaaRN
namespace Go.Proofs.Ytmocdokikcbjeaa
open Go.RowKit Go.Shelf Go.Maps Go.Sort

/- PIECES OF A LIST OF ROWS. -/
theorem add_zero (ad : Addr) : ad.add 0 = ad := by
  unfold Addr.add
  rw [if_pos rfl]
theorem slice_to (ad : Addr) (n c k : Nat) (V : World) (hk : k ≤ c) : (Instr.slice 27 (.slice (some ad) n c) none (some (.int .i64 (k : Int))) none).run Try.prog V = .ok (.slice (some ad) k c) V := by
  have h1 := run_underlying (w := V) Try.underlying27
  have h2 := Try.sizeOf46 V
  by_cases hc : c = 0
  · subst hc
    obtain rfl : k = 0 := by omega
    simp [Instr.slice, Instr.sliceBounds, Instr.sliceBound, asIntOf, h1, h2, Result.andThen]
  · simp [Instr.slice, Instr.sliceBounds, Instr.sliceBound, asIntOf, h1, h2, hk, Result.andThen, add_zero]
def fromA (ad : Addr) (c k : Nat) : Option Addr := if c = k + 1 then some ad else some (ad.add ((k + 1) * 4))
theorem slice_from (ad : Addr) (n c k : Nat) (V : World) (hk : k + 1 ≤ n) : (Instr.slice 27 (.slice (some ad) n c) (some (.int .i64 ((k : Int) + 1))) none none).run Try.prog V = .ok (.slice (fromA ad c k) (n - (k + 1)) (c - (k + 1))) V := by
  have h1 := run_underlying (w := V) Try.underlying27
  have h2 := Try.sizeOf46 V
  have h3 : (0 : Int) ≤ (k : Int) + 1 ∧ (k : Int) + 1 ≤ (n : Int) := by omega
  have h4 : ((k : Int) + 1).toNat = k + 1 := by omega
  unfold fromA
  by_cases hc : c = k + 1
  · simp [Instr.slice, Instr.sliceBounds, Instr.sliceBound, asIntOf, h1, h2, h3, h4, Result.andThen, hc]
  · simp [Instr.slice, Instr.sliceBounds, Instr.sliceBound, asIntOf, h1, h2, h3, h4, Result.andThen, hc]
theorem flat_take (l : Tb) (k : Nat) : (l.flatMap encR).take (k * 4) = (l.take k).flatMap encR := by
  induction l generalizing k with
  | nil => simp
  | cons x t ih =>
    cases k with
    | zero => simp
    | succ k =>
      rw [List.flatMap_cons, List.take_succ_cons, List.flatMap_cons, ← ih k, show (k + 1) * 4 = (encR x).length + k * 4 by show _ = 4 + k * 4; omega, List.take_length_add_append]
theorem flat_drop (l : Tb) (k : Nat) : (l.flatMap encR).drop (k * 4) = (l.drop k).flatMap encR := by
  induction l generalizing k with
  | nil => simp
  | cons x t ih =>
    cases k with
    | zero => simp
    | succ k =>
      rw [List.flatMap_cons, List.drop_succ_cons, ← ih k, show (k + 1) * 4 = (encR x).length + k * 4 by show _ = 4 + k * 4; omega, List.drop_length_add_append]
theorem sees_to {w : World} {B : Nat} {ad : Addr} {l : Tb} (h : Sees w B (some ad) (l.flatMap encR)) (k : Nat) : Sees w B (some ad) ((l.take k).flatMap encR) := by
  rw [← flat_take]
  exact h.take _
theorem sees_from {w : World} {B : Nat} {ad : Addr} {l : Tb} (h : Sees w B (some ad) (l.flatMap encR)) (c k : Nat) (hc : l.length ≤ c) : Sees w B (fromA ad c k) ((l.drop (k + 1)).flatMap encR) := fun hn => by
  have hlt : k + 1 < l.length := by
    rcases Nat.lt_or_ge (k + 1) l.length with h | h
    · exact h
    · rw [List.drop_eq_nil_of_le h] at hn
      exact absurd rfl hn
  obtain ⟨ad', e, hb, hcc⟩ := h (by
    intro e
    have := row_len l
    rw [e] at this
    simp at this
    omega)
  obtain rfl := Option.some.inj e
  unfold fromA
  rw [if_neg (by omega)]
  refine ⟨_, rfl, ?_, fun j u hu => ?_⟩
  · unfold Addr.add
    split
    · exact hb
    · exact hb
  · rw [← flat_drop, List.getElem?_drop] at hu
    have := hcc _ _ hu
    rw [Addr.add_add]
    exact this
/-- an append inside a region -/
theorem op_append {P : Program} {o : Oper} {a : Act} {w w' : World} {K : Act → World → Prop} {Q : Exit → Act → World → Prop} (s x : Operand) (t : TypeId)
    (ho : o.op = .call { callee := .builtin .append, args := #[s, x], argTypes := #[t, t] }) (v v' : Value) (A : Option Addr) (m c : Nat) (hs : a.eval s = v) (hx : a.eval x = .slice A m c)
    (hrun : (Builtin.append_ #[t, t] o.type #[v, .slice A m c]).run P w = .ok v' w') (hK : K (a.put o.dst v') w') : Oper.wp P o a w K Q := by
  unfold Oper.wp execOp
  simp only [ho, resolve, invoke, builtin, Sem.run_bind, Sem.run_pure, Result.andThen_ok, List.map_toArray, List.map_cons, List.map_nil, hs, hx, hrun]
  exact hK
end Go.Proofs.Ytmocdokikcbjeaa
