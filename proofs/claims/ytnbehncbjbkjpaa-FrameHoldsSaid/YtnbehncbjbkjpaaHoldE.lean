import Derived.Test.YtnbehncbjbkjpaaHold
namespace Go.Proofs.Ytnbehncbjbkjpaa
open Go.RowKit Go.Shelf Go.Maps Go.Sort

/- FRAMEHOLDS: THE END. -/

theorem flat_rows : ∀ (xs : List (Nat × Nat)) (k j : Nat) (hk : k < xs.length), j < 2 → (xs.flatMap encR)[k * 2 + j]? = (encR xs[k])[j]?
  | [], k, _, h, _ => by simp at h
  | x :: r, 0, j, _, hj => by
    rw [List.flatMap_cons, Nat.zero_mul, Nat.zero_add, List.getElem?_append_left (by show j < 2; exact hj)]
    rfl
  | x :: r, k + 1, j, h, hj => by
    have := flat_rows r k j (by simpa using h) hj
    rw [List.flatMap_cons, List.getElem?_append_right (by show 2 ≤ _; omega), show (k + 1) * 2 + j - (encR x).length = k * 2 + j by show (k + 1) * 2 + j - 2 = _; omega]
    exact this
/-- what the law does behind its calls -/
def EndP (w : World) (mw : Nat) (e : Ending) (V : World) : Prop :=
  ∃ A c m, e = .returned (.slice A m c) ∧ m ≤ 10 ∧ Below w.heap.size w V ∧ (∀ ty, (Builtin.len_ #[35] ty #[.map (some mw)]).run Try.prog V = .ok (.int .i64 (m : Int)) V) ∧
    ∀ k, k < m → ∃ g f o, A = some ⟨g, 0, none⟩ ∧ V.cell? ⟨g, k * 2, none⟩ = some (.int .i64 (f : Int)) ∧ V.cell? ⟨g, k * 2 + 1, none⟩ = some (.int .i64 (o : Int)) ∧
      (Instr.lookup 35 (.map (some mw)) (.int .i64 (f : Int)) true).run Try.prog V = .ok (.tuple #[.int .i64 (o : Int), .bool true]) V
theorem end_any {w wr : World} {b mw : Nat} (h : Rel w b mw wr) : Calls Try.prog 16 #[bx b, .int .i64 20] wr (EndP w mw) := by
  obtain ⟨P, h1, h2, h3, h4⟩ := h
  have hlen : (rowsN (owns P.fr)).length ≤ 10 := by
    rw [rowsN_len]
    have := idx_len (owns P.fr)
    rw [owns_len] at this
    omega
  refine (h2.all 20 (by omega) (by omega)).mono ?_
  rw [List.take_of_length_le (by omega)]
  rintro e V ⟨A, c, rfl, hrow, hb⟩
  have hm : MapOf V mw (owns P.fr) := owns_same h3 (hb.block _ h3.lt)
  refine ⟨A, c, _, rfl, hlen, below0 h2.below hb, fun ty => ?_, fun k hk => ?_⟩
  · rw [hm.len Try.underlying35 ty, mapD_size, rowsN_len, ← mapD_size]
    have := congrArg List.length (mapD_keys (owns P.fr))
    have h5 : (intKeys (mapD (owns P.fr))).length = Maps.size (mapD (owns P.fr)) := by simp [intKeys, Maps.size, mapD]
    rw [List.length_map, h5] at this
    rw [this]
  · have ho := Own.of_row hrow
    obtain ⟨g, c', cur, hg, hv, _⟩ := ho.block (by omega)
    injection hv with hv1 hv2 hv3
    have hk2 : k < (idxF 0 (owns P.fr)).length := by rw [rowsN_len] at hk; exact hk
    have hx : (rowsN (owns P.fr))[k] = ((idxF 0 (owns P.fr))[k], ownN (owns P.fr) ((idxF 0 (owns P.fr))[k] : Int)) := by simp [rowsN]
    have h0 := flat_rows (rowsN (owns P.fr)) k 0 hk (by omega)
    have h1' := flat_rows (rowsN (owns P.fr)) k 1 hk (by omega)
    rw [hx] at h0 h1'
    have hi := List.getElem_mem hk2
    have hr := (idx_ge 0 _ _ hi).2
    rw [owns_len] at hr
    obtain ⟨o, hown⟩ := idx_own hi
    have hlk := lookup2_at hm (i := ((idxF 0 (owns P.fr))[k] : Int)) (by omega) (by omega)
    rw [hown] at hlk
    refine ⟨g, _, _, hv1, ?_, ?_, hlk⟩
    · rw [ho.cell hg _ (by omega)]
      exact h0
    · rw [ho.cell hg _ (by omega)]
      exact h1'
end Go.Proofs.Ytnbehncbjbkjpaa
