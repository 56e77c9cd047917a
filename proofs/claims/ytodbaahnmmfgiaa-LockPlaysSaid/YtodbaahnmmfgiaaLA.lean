import Derived.Test.YtodbaahnmmfgiaaGen
import Derived.Test.YtodbaahnmmfgiaaBaseIn
import Derived.Laws.Entries
import Derived.BigQuiet
namespace Go.Proofs.Ytodbaahnmmfgiaa.Lk
open Go.RowKit Go.Shelf
attribute [local go_sem] Oper.semAt_some

/- THE DOCUMENT's LOCKS: A LIST OF THREADS (-1: FREE). -/
abbrev Ls := List Int
def izs (l : Ls) : List Value := l.map fun z => .int .i64 z
theorem izs_len (l : Ls) : (izs l).length = l.length := by simp [izs]
theorem izs_get (l : Ls) {k : Nat} (h : k < l.length) : (izs l)[k]? = some (.int .i64 l[k]) := by simp [izs, h]
theorem izs_app (a b : Ls) : izs (a ++ b) = izs a ++ izs b := by simp [izs]
theorem izs_set (l : Ls) (k : Nat) (z : Int) : (izs l).set k (.int .i64 z) = izs (l.set k z) := by simp [izs, List.map_set]
theorem izs_one {l : Ls} : ∀ u ∈ izs l, u.oneCell' = true := by
  intro u hu
  simp only [izs, List.mem_map] at hu
  obtain ⟨b, _, rfl⟩ := hu
  rfl
theorem int_info : (Try.prog.info? 3).map (fun i => (i.zero, i.size, i.bytes)) = some (some (.int .i64 0), 1, 8) := by kernel_rfl

/-- a list of numbers in memory, in a block of its own if it has any -/
def Wi (w : World) (v : Value) (l : Ls) : Prop := ∃ A c, v = .slice A l.length c ∧ l.length ≤ c ∧ (l ≠ [] → ∃ g rest, A = some ⟨g, 0, none⟩ ∧ Row w g 3 (izs l ++ rest))
section
variable {w w' : World} {v : Value} {l : Ls}
theorem Wi.nil_ (w : World) : Wi w (.slice none 0 0) [] := ⟨none, 0, rfl, Nat.le_refl _, fun h => absurd rfl h⟩
theorem Wi.same (h : Wi w v l) (hk : ∀ g cs, Row w g 3 cs → w'.heap[g]? = w.heap[g]?) : Wi w' v l := by
  obtain ⟨A, c, e, hc, h⟩ := h
  refine ⟨A, c, e, hc, fun hn => ?_⟩
  obtain ⟨g, rest, e2, hr⟩ := h hn
  exact ⟨g, rest, e2, hr.same (hk g _ hr)⟩
theorem Wi.below (h : Wi w v l) (hb : Below w.heap.size w w') : Wi w' v l := h.same fun _ _ hr => hb.block _ hr.lt
theorem Wi.sees (h : Wi w v l) : ∃ A c, v = .slice A l.length c ∧ l.length ≤ c ∧ Sees w w.heap.size A (izs l) := by
  obtain ⟨A, c, e, hc, h⟩ := h
  refine ⟨A, c, e, hc, fun hn => ?_⟩
  obtain ⟨g, rest, e2, hr⟩ := h (fun e => hn (by rw [e]; rfl))
  exact ⟨_, e2, hr.lt, fun j u hu => by
    rw [add_plain, Nat.zero_add, hr.cell, List.getElem?_append_left (List.getElem?_eq_some_iff.1 hu).1]
    exact hu⟩
end
theorem wi_own {w : World} {B n : Nat} {v : Value} {l : Ls} (h : w.ownsRow B 3 1 v n (izs l)) : Wi w v l := by
  obtain ⟨h1, ⟨rfl, h0⟩ | ⟨g, cap, cur, rfl, hb, hg, hn, _, hc, ht⟩⟩ := h
  · subst h0
    rw [izs_len] at h1
    obtain rfl : l = [] := List.eq_nil_of_length_eq_zero (by omega)
    exact Wi.nil_ w
  · rw [izs_len] at h1
    refine ⟨_, cap, by rw [h1, Nat.mul_one], by omega, fun _ => ⟨g, cur.toList.drop (n * 1), rfl, ?_⟩⟩
    rw [← ht, List.take_append_drop]
    exact hg
/-- a number of a list that is seen -/
theorem sees_int {w : World} {B : Nat} {A : Option Addr} {l : Ls} (h : Sees w B A (izs l)) {k : Nat} (hk : k < l.length) : ∃ ad, A = some ad ∧ ad.block < B ∧ w.cell? (ad.add k) = some (.int .i64 l[k]) := by
  obtain ⟨ad, e, hb, hc⟩ := h.at_ (k := k) (by rw [izs_len]; exact hk)
  have e1 := izs_get l hk
  rw [List.getElem?_eq_getElem (by rw [izs_len]; exact hk)] at e1
  rw [Option.some.inj e1] at hc
  exact ⟨ad, e, hb, hc⟩

/-! plainly -/
def threadB (t : Int) : Bool := decide (0 ≤ t ∧ t < 4)
/-- what a thread has among the first ones -/
def heldTo (l : Ls) (t : Int) (i : Nat) : List Nat := (List.range i).filter fun j => decide (l.getD j (-1) = t)
def held (l : Ls) (t : Int) : List Nat := if 0 ≤ t then heldTo l t l.length else []
def hz (l : List Nat) : Ls := l.map fun n : Nat => (n : Int)
theorem hz_len (l : List Nat) : (hz l).length = l.length := by simp [hz]
theorem heldTo_step (l : Ls) (t : Int) (i : Nat) : heldTo l t (i + 1) = heldTo l t i ++ (if l.getD i (-1) = t then [i] else []) := by
  unfold heldTo
  rw [List.range_succ, List.filter_append]
  show _ ++ (match decide (l.getD i (-1) = t) with | true => [i] | false => []) = _
  by_cases h : l.getD i (-1) = t
  · rw [if_pos h, decide_eq_true h]
  · rw [if_neg h, decide_eq_false h]
theorem heldTo_len (l : Ls) (t : Int) (i : Nat) : (heldTo l t i).length ≤ i := by
  unfold heldTo
  exact Nat.le_trans (List.length_filter_le _ _) (by simp)
theorem held_len (l : Ls) (t : Int) : (held l t).length ≤ l.length := by
  unfold held
  split
  · exact heldTo_len l t _
  · simp
theorem held_mem {l : Ls} {t : Int} {k : Nat} : k ∈ held l t ↔ 0 ≤ t ∧ ∃ h : k < l.length, l[k] = t := by
  unfold held
  split
  · rename_i h0
    unfold heldTo
    rw [List.mem_filter, List.mem_range]
    constructor
    · rintro ⟨hk, hd⟩
      exact ⟨h0, hk, by simpa [hk] using hd⟩
    · rintro ⟨_, hk, hd⟩
      exact ⟨hk, by simp [hk, hd]⟩
  · rename_i h0
    simp [h0]
theorem held_sorted (l : Ls) (t : Int) : (held l t).Pairwise (· < ·) := by
  unfold held
  split
  · exact List.Pairwise.filter _ List.pairwise_lt_range
  · exact List.Pairwise.nil
/-- has a thread one of that rank, or of a greater one? -/
def highB (l : Ls) (t : Int) (k : Nat) : Bool := (held l t).any fun j => decide (k ≤ j)
/-- what is wrong with a try -/
def asksE (l : Ls) (t r : Int) : Int := if threadB t = false then 2 else if r < 0 ∨ (l.length : Int) ≤ r then 4 else if highB l t r.toNat then 220 else 0
def withL (l : Ls) (k : Nat) (t : Int) : Ls := l.set k t
def tryQ (l : Ls) (t r : Int) : Bool := asksE l t r == 0 && decide (l.getD r.toNat (-1) < 0)
def tryL (l : Ls) (t r : Int) : Ls := if tryQ l t r then withL l r.toNat t else l
def freeE (l : Ls) (t r : Int) : Int := if threadB t = false then 2 else if r < 0 ∨ (l.length : Int) ≤ r then 4 else if l.getD r.toNat (-1) ≠ t then 221 else 0
def freeL (l : Ls) (t r : Int) : Ls := if freeE l t r = 0 then withL l r.toNat (-1) else l
def dropTo (l : Ls) (hs : List Nat) : Ls := hs.foldl (fun a k => withL a k (-1)) l
def dropL (l : Ls) (t : Int) : Ls := dropTo l (held l t)
theorem withL_len (l : Ls) (k : Nat) (t : Int) : (withL l k t).length = l.length := by simp [withL]
theorem tryL_len (l : Ls) (t r : Int) : (tryL l t r).length = l.length := by unfold tryL; split <;> simp [withL_len]
theorem freeL_len (l : Ls) (t r : Int) : (freeL l t r).length = l.length := by unfold freeL; split <;> simp [withL_len]
theorem dropTo_len (hs : List Nat) : ∀ l : Ls, (dropTo l hs).length = l.length := by
  induction hs with
  | nil => exact fun _ => rfl
  | cons k r ih =>
    intro l
    show (dropTo (withL l k (-1)) r).length = _
    rw [ih, withL_len]
theorem dropTo_snoc (l : Ls) (hs : List Nat) (k : Nat) : dropTo l (hs ++ [k]) = withL (dropTo l hs) k (-1) := by simp [dropTo, List.foldl_append]
theorem dropL_len (l : Ls) (t : Int) : (dropL l t).length = l.length := dropTo_len _ _
/-- the last of a rising list is its greatest -/
theorem last_any {hs : List Nat} (hp : hs.Pairwise (· < ·)) (hn : 0 < hs.length) (k : Nat) : (hs.any fun j => decide (k ≤ j)) = decide (k ≤ hs[hs.length - 1]) := by
  rw [Bool.eq_iff_iff, List.any_eq_true, decide_eq_true_eq]
  constructor
  · rintro ⟨j, hj, h⟩
    have h := of_decide_eq_true h
    obtain ⟨i, hi, rfl⟩ := List.getElem_of_mem hj
    by_cases e : i = hs.length - 1
    · subst e
      exact h
    · have := List.pairwise_iff_getElem.1 hp i (hs.length - 1) hi (by omega) (by omega)
      omega
  · intro h
    exact ⟨_, List.getElem_mem _, decide_eq_true h⟩
end Go.Proofs.Ytodbaahnmmfgiaa.Lk
