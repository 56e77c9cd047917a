import Derived.Test.YtodbaahnmmfgiaaLH
import Derived.Test.YtodbaahnmmfgiaaRangeBox
namespace Go.Proofs.Ytodbaahnmmfgiaa.Lk
open Go.RowKit Go.Shelf
attribute [local go_sem] Oper.semAt_some

/- THE LAW's LIST OF WHOSE EACH LOCK IS. -/
def prAt (l : Ls) (i : Nat) : List (Nat × Int) := if l.getD i (-1) < 0 then [] else [(i, l.getD i (-1))]
def prTo (l : Ls) : Nat → List (Nat × Int)
  | 0 => []
  | i + 1 => prTo l i ++ prAt l i
def prs (l : Ls) : List (Nat × Int) := prTo l l.length
theorem prTo_len (l : Ls) : ∀ i, (prTo l i).length ≤ i
  | 0 => Nat.le_refl _
  | i + 1 => by
    have h1 := prTo_len l i
    have h2 : (prAt l i).length ≤ 1 := by
      unfold prAt
      split <;> simp
    rw [prTo, List.length_append]
    omega
theorem prTo_mem (l : Ls) : ∀ i, ∀ x ∈ prTo l i, x.1 < i ∧ 0 ≤ x.2 ∧ x.2 = l.getD x.1 (-1)
  | 0, x, h => by cases h
  | i + 1, x, h => by
    rw [prTo, List.mem_append] at h
    rcases h with h | h
    · have := prTo_mem l i x h
      exact ⟨by omega, this.2⟩
    · unfold prAt at h
      split at h
      · cases h
      · rename_i h0
        obtain rfl := List.mem_singleton.1 h
        exact ⟨Nat.lt_succ_self _, by simp only; omega, rfl⟩
def setAll (b : Ls) (ps : List (Nat × Int)) : Ls := ps.foldl (fun a p => a.set p.1 p.2) b
theorem setAll_snoc (b : Ls) (ps : List (Nat × Int)) (x : Nat × Int) : setAll b (ps ++ [x]) = (setAll b ps).set x.1 x.2 := by simp [setAll, List.foldl_append]
theorem setAll_len (ps : List (Nat × Int)) : ∀ b : Ls, (setAll b ps).length = b.length := by
  induction ps with
  | nil => exact fun _ => rfl
  | cons x r ih =>
    intro b
    show (setAll (b.set x.1 x.2) r).length = _
    rw [ih, List.length_set]
theorem setAll_to {l : Ls} (h : Ths l) : ∀ i, i ≤ l.length → setAll (frees l.length) (prTo l i) = l.take i ++ frees (l.length - i)
  | 0, _ => by simp [prTo, setAll]
  | i + 1, hi => by
    have ih := setAll_to h i (by omega)
    have hil : i < l.length := by omega
    have hgd : l.getD i (-1) = l[i] := by simp [hil]
    have hz := h _ (List.getElem_mem hil)
    have hf : frees (l.length - i) = (-1) :: frees (l.length - (i + 1)) := by
      unfold frees
      rw [show l.length - i = (l.length - (i + 1)) + 1 by omega, List.replicate_succ]
    have htk : (l.take i).length = i := by rw [List.length_take]; omega
    rw [prTo]
    unfold prAt
    rw [hgd]
    by_cases h0 : l[i] < 0
    · rw [if_pos h0, List.append_nil, ih, hf, List.take_succ_eq_append_getElem hil, show l[i] = -1 by omega, List.append_assoc]
      rfl
    · rw [if_neg h0, setAll_snoc, ih, hf, List.take_succ_eq_append_getElem hil, List.append_assoc]
      simp only
      rw [List.set_append_right _ _ (by rw [htk]; exact Nat.le_refl _), htk, Nat.sub_self]
      rfl
theorem setAll_end {l : Ls} (h : Ths l) : setAll (frees l.length) (prs l) = l := by
  have := setAll_to h l.length (Nat.le_refl _)
  rw [List.take_length, Nat.sub_self] at this
  unfold prs
  rw [this]
  simp [frees]
def encP (x : Nat × Int) : Array Value := #[.int .i64 (x.1 : Int), .int .i64 x.2]
def preA (L pre : List (Nat × Int)) (x : Nat × Int) (_ : World) : Prop := ∃ post, L = pre ++ x :: post
def allA (L xs : List (Nat × Int)) : Prop := xs = L
def someA (L xs : List (Nat × Int)) : Prop := ∃ post, L = xs ++ post
/-- what the laws ask of All besides -/
structure ApiA (Has : HasT) (gf : Nat) : Prop where
  api : Api Has
  ent : ∀ (args : Array Value) (V : World), (callFunc gf args).run Try.prog V = .ok (.enter gf args) V
  nn : ∀ (lb : Array Value) (V : World), (binOp .eql 48 (.func (.func gf) #[] lb) .nilFunc).run Try.prog V = .ok (.bool false) V
  all : ∀ {w v l F}, Has w v l F → Calls Try.prog 19 #[v] w fun e w' => ∃ lb Pv, e = .returned (.func (.func gf) #[] lb) ∧ It Try.prog gf lb encP (fun _ _ => False) (preA (prs l)) Pv (allA (prs l)) (someA (prs l)) w' ∧ (∀ k, Pv k → w.heap.size ≤ k ∧ k < w'.heap.size) ∧ Below w.heap.size w w'
/-- what holds between two rounds of 'all' -/
def AI (w : World) (s b7 b9 g B2 : Nat) (many most : Int) (u : Value) (L0 : Ls) (pre : List (Nat × Int)) (O : Nat → Prop) (V : World) : Prop :=
  s + 2 < B2 ∧ b7 < B2 ∧ b9 < B2 ∧ (L0 ≠ [] → g < B2) ∧ Boxed V s 3 (.int .i64 many) ∧ Boxed V (s + 1) 3 (.int .i64 most) ∧ Boxed V (s + 2) 28 (.slice none 0 0) ∧ Boxed V b7 28 u ∧ Boxed V b9 3 (.int .i64 (pre.length : Int)) ∧
    (L0 ≠ [] → ∃ rest, Row V g 3 (izs (setAll L0 pre) ++ rest)) ∧ Below w.heap.size w V ∧ w.heap.size ≤ B2 ∧ ∀ k, O k → B2 + 2 ≤ k
theorem AI.abid {w : World} {s b7 b9 g B2 : Nat} {many most : Int} {u : Value} {L0 : Ls} : Abid B2 (AI w s b7 b9 g B2 many most u L0) := by
  rintro pre O V V' row ⟨h1, h2, h3, h4, h5, h6, h7, h8, h9, h10, h11, h12⟩ hg hr
  have hne : ∀ k, k < B2 → some k ≠ row := fun k hk e => by have := (hr k e.symm).1; omega
  refine ⟨h1, h2, h3, h4, h5.kept hg (hne _ (by omega)), h6.kept hg (hne _ (by omega)), h7.kept hg (hne _ (by omega)), h8.kept hg (hne _ h2), h9.kept hg (hne _ h3), fun hn => ?_, h11.grown hg h11.size (fun k e => by have := (hr k e).1; omega), h12⟩
  obtain ⟨rest, hrow⟩ := h10 hn
  exact ⟨rest, hrow.same (hg.block _ hrow.lt (hne _ (h4 hn)))⟩
end Go.Proofs.Ytodbaahnmmfgiaa.Lk
