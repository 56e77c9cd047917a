import Derived.Test.YtelhieinkdmpfaaDoorGen
import Derived.Test.YtelhieinkdmpfaaDoorBaseIn
import Derived.Test.YtelhieinkdmpfaaDoorStr
import Derived.Laws.Entries
import Derived.BigQuiet
namespace Go.Proofs.YtelhieinkdmpfaaDoor.Sh
open Go.RowKit Go.Shelf
attribute [local go_sem] Oper.semAt_some

/- THE DOCUMENT's SHEETS: A LIST OF STATES. -/
abbrev Ls := List Int
def izs (l : Ls) : List Value := l.map fun z => .int .i64 z
theorem izs_len (l : Ls) : (izs l).length = l.length := by simp [izs]
theorem izs_get (l : Ls) {k : Nat} (h : k < l.length) : (izs l)[k]? = some (.int .i64 l[k]) := by simp [izs, h]
theorem izs_app (a b : Ls) : izs (a ++ b) = izs a ++ izs b := by simp [izs]
theorem izs_set (l : Ls) (k : Nat) (z : Int) : (izs l).set k (.int .i64 z) = izs (l.set k z) := by simp [izs, List.map_set]
theorem izs_one {l : Ls} : ∀ u ∈ izs l, u.oneCell' = true := by
  intro u hu
  simp only [izs, List.mem_map] at hu
  obtain ⟨b, _, rfl⟩ := hu
  rfl
theorem int_info : (Tryd.prog.info? 3).map (fun i => (i.zero, i.size, i.bytes)) = some (some (.int .i64 0), 1, 8) := by kernel_rfl

/-- a list of numbers in memory, in a block of its own if it has any -/
def Wi (w : World) (v : Value) (l : Ls) : Prop := ∃ A c, v = .slice A l.length c ∧ l.length ≤ c ∧ (l ≠ [] → ∃ g rest, A = some ⟨g, 0, none⟩ ∧ Row w g 3 (izs l ++ rest))
section
variable {w w' : World} {v : Value} {l : Ls}
theorem Wi.nil_ (w : World) : Wi w (.slice none 0 0) [] := ⟨none, 0, rfl, Nat.le_refl _, fun h => absurd rfl h⟩
theorem Wi.same (h : Wi w v l) (hk : ∀ g cs, Row w g 3 cs → w'.heap[g]? = w.heap[g]?) : Wi w' v l := by
  obtain ⟨A, c, e, hc, h⟩ := h
  refine ⟨A, c, e, hc, fun hn => ?_⟩
  obtain ⟨g, rest, e2, hr⟩ := h hn
  exact ⟨g, rest, e2, hr.same (hk g _ hr)⟩
theorem Wi.below (h : Wi w v l) (hb : Below w.heap.size w w') : Wi w' v l := h.same fun _ _ hr => hb.block _ hr.lt
theorem Wi.sees (h : Wi w v l) : ∃ A c, v = .slice A l.length c ∧ l.length ≤ c ∧ Sees w w.heap.size A (izs l) := by
  obtain ⟨A, c, e, hc, h⟩ := h
  refine ⟨A, c, e, hc, fun hn => ?_⟩
  obtain ⟨g, rest, e2, hr⟩ := h (fun e => hn (by rw [e]; rfl))
  exact ⟨_, e2, hr.lt, fun j u hu => by
    rw [add_plain, Nat.zero_add, hr.cell, List.getElem?_append_left (List.getElem?_eq_some_iff.1 hu).1]
    exact hu⟩
end
theorem wi_own {w : World} {B n : Nat} {v : Value} {l : Ls} (h : w.ownsRow B 3 1 v n (izs l)) : Wi w v l := by
  obtain ⟨h1, ⟨rfl, h0⟩ | ⟨g, cap, cur, rfl, hb, hg, hn, _, hc, ht⟩⟩ := h
  · subst h0
    rw [izs_len] at h1
    obtain rfl : l = [] := List.eq_nil_of_length_eq_zero (by omega)
    exact Wi.nil_ w
  · rw [izs_len] at h1
    refine ⟨_, cap, by rw [h1, Nat.mul_one], by omega, fun _ => ⟨g, cur.toList.drop (n * 1), rfl, ?_⟩⟩
    rw [← ht, List.take_append_drop]
    exact hg
/-- a number of a list that is seen -/
theorem sees_int {w : World} {B : Nat} {A : Option Addr} {l : Ls} (h : Sees w B A (izs l)) {k : Nat} (hk : k < l.length) : ∃ ad, A = some ad ∧ ad.block < B ∧ w.cell? (ad.add k) = some (.int .i64 l[k]) := by
  obtain ⟨ad, e, hb, hc⟩ := h.at_ (k := k) (by rw [izs_len]; exact hk)
  have e1 := izs_get l hk
  rw [List.getElem?_eq_getElem (by rw [izs_len]; exact hk)] at e1
  rw [Option.some.inj e1] at hc
  exact ⟨ad, e, hb, hc⟩

/-- a list that is gathered number by number, in a block of its own -/
def GI (w : World) (v : Value) (n : Nat) (l : Ls) (wr : World) : Prop := ∃ A c, v = .slice A n c ∧ wr.ownsRow w.heap.size 3 1 (.slice A n c) n (izs l) ∧ Below w.heap.size w wr
theorem gi_step {w wr w4 : World} {v' : Value} {n : Nat} {l : Ls} {z : Int} {A : Option Addr} {c : Nat} {ob : Obj} (ho0 : wr.ownsRow w.heap.size 3 1 (.slice A n c) n (izs l)) (hb : Below w.heap.size w wr)
    (ho : w4.ownsRow w.heap.size 3 1 v' (n + 1) (izs l ++ [.int .i64 z])) (hg : (wr.alloc ob).grownBy w4 (Value.slice A n c).ownBlock) : ∃ A' c', v' = .slice A' (n + 1) c' ∧ GI w (.slice A' (n + 1) c') (n + 1) (l ++ [z]) w4 := by
  obtain ⟨A', c', rfl⟩ := own_slice ho
  refine ⟨A', c', rfl, A', c', rfl, ?_, ?_⟩
  · rw [izs_app]
    exact ho
  · exact (hb.alloc hb.size ob).grown hg (by rw [World.size_alloc]; have := hb.size; omega) (fun k hk => (ho0.lt k hk).1)
theorem gi_wi {w wr : World} {v : Value} {n : Nat} {l : Ls} (h : GI w v n l wr) : Wi wr v l ∧ Below w.heap.size w wr := by
  obtain ⟨A, c, rfl, ho, hb⟩ := h
  exact ⟨wi_own ho, hb⟩
theorem gi_nil (w : World) : GI w (.slice none 0 0) 0 [] w := ⟨none, 0, rfl, World.ownsRow_nil _ _ _ _, Below.refl _ _⟩
theorem cell_one_at (w : World) (v : Value) (t : TypeId) : ∀ (j : Nat) (u : Value), [v][j]? = some u → (w.alloc (.cells #[v] t)).cell? ((⟨w.heap.size, 0, none⟩ : Addr).add j) = some u := fun j u hu => by
  rw [add_plain, Nat.zero_add, cell_alloc_new]
  simpa using hu
theorem nil_row (w : World) : (w.alloc (.cells #[] 3)).ownsRow w.heap.size 3 1 (.slice (some ⟨w.heap.size, 0, none⟩) 0 0) 0 [] :=
  ⟨rfl, .inr ⟨_, _, _, rfl, Nat.le_refl _, World.alloc_heap_new w _, Nat.le_refl _, Nat.zero_le _, rfl, rfl⟩⟩
/-- what an append of a list onto an empty one gives -/
theorem app_fin {w w4 : World} {v' : Value} {n : Nat} {l : Ls} (h1 : w4.ownsRow w.heap.size 3 1 v' n (izs l)) (h2 : (w.alloc (.cells #[] 3)).grownBy w4 (some w.heap.size)) (h3 : v'.ownBlock = some w.heap.size ∨ v'.ownBlock = some (w.heap.size + 1)) :
    ∃ g c rest, v' = .slice (some ⟨g, 0, none⟩) n c ∧ n ≤ c ∧ w.heap.size ≤ g ∧ Row w4 g 3 (izs l ++ rest) ∧ Below w.heap.size w w4 := by
  have hb : Below w.heap.size w w4 := (below1 w _).grown h2 (by simp) (fun k hk => by injection hk with hk; omega)
  obtain ⟨_, ⟨rfl, _⟩ | ⟨g, cap, cur, rfl, hg0, hg, hn, _, hc, ht⟩⟩ := h1
  · rcases h3 with h | h <;> cases h
  · refine ⟨g, cap, cur.toList.drop (n * 1), rfl, hn, hg0, ?_, hb⟩
    rw [← ht, List.take_append_drop]
    exact hg
/-! plainly -/
def stB (z : Int) : Bool := decide (0 ≤ z ∧ z ≤ 4)
def mayB (a b : Int) : Bool := if a = 0 then b == 1 else if a = 1 then b == 0 || b == 2 else if a = 2 then b == 3 || b == 4 else if a = 3 then b == 0 || b == 4 else false
def nameB (z : Int) : ByteArray := if z = 0 then ⟨#[102, 114, 101, 101]⟩ else if z = 1 then ⟨#[107, 101, 112, 116]⟩ else if z = 2 then ⟨#[108, 105, 118, 101]⟩ else if z = 3 then ⟨#[104, 101, 108, 100]⟩ else if z = 4 then ⟨#[103, 111, 110, 101]⟩ else ⟨#[]⟩
def moveE (l : Ls) (at_ to : Int) : Int := if stB to = false then 2 else if at_ < 0 ∨ (l.length : Int) ≤ at_ then 4 else if mayB (l.getD at_.toNat 0) to = false then 240 else 0
def moveL (l : Ls) (at_ to : Int) : Ls := if moveE l at_ to = 0 then l.set at_.toNat to else l
def moveW (l : Ls) (at_ to : Int) : Int := if moveE l at_ to = 0 then l.getD at_.toNat 0 else 0
theorem moveL_len (l : Ls) (a t : Int) : (moveL l a t).length = l.length := by unfold moveL; split <;> simp
/-- all of a list are states -/
def Sts (l : Ls) : Prop := ∀ z ∈ l, 0 ≤ z ∧ z ≤ 4
theorem stB_iff {z : Int} : stB z = true ↔ 0 ≤ z ∧ z ≤ 4 := by simp [stB]
theorem moveE_st {l : Ls} {a t : Int} (h : moveE l a t = 0) : 0 ≤ t ∧ t ≤ 4 := by
  unfold moveE at h
  split at h
  · cases h
  · rename_i h1
    exact stB_iff.1 (by simpa using h1)
theorem Sts.move {l : Ls} (h : Sts l) (a t : Int) : Sts (moveL l a t) := by
  unfold moveL
  split
  · rename_i h1
    intro z hz
    rcases List.mem_or_eq_of_mem_set hz with hz | rfl
    · exact h z hz
    · exact moveE_st h1
  · exact h
/-- the first slots that are that -/
def placesTo (l : Ls) (x : Int) (i : Nat) : List Nat := (List.range i).filter fun j => decide (l.getD j 0 = x)
def places (l : Ls) (x : Int) : List Nat := placesTo l x l.length
def hz (l : List Nat) : Ls := l.map fun n : Nat => (n : Int)
theorem hz_len (l : List Nat) : (hz l).length = l.length := by simp [hz]
theorem placesTo_step (l : Ls) (x : Int) (i : Nat) : placesTo l x (i + 1) = placesTo l x i ++ (if l.getD i 0 = x then [i] else []) := by
  unfold placesTo
  rw [List.range_succ, List.filter_append]
  show _ ++ (match decide (l.getD i 0 = x) with | true => [i] | false => []) = _
  by_cases h : l.getD i 0 = x
  · rw [if_pos h, decide_eq_true h]
  · rw [if_neg h, decide_eq_false h]
theorem placesTo_len (l : Ls) (x : Int) (i : Nat) : (placesTo l x i).length ≤ i := by
  unfold placesTo
  exact Nat.le_trans (List.length_filter_le _ _) (by simp)
theorem places_len (l : Ls) (x : Int) : (places l x).length ≤ l.length := placesTo_len l x _
theorem places_none {l : Ls} (h : Sts l) {x : Int} (hx : ¬ (0 ≤ x ∧ x ≤ 4)) : places l x = [] := by
  unfold places placesTo
  rw [List.filter_eq_nil_iff]
  intro j hj
  rw [List.mem_range] at hj
  have h1 := h l[j] (List.getElem_mem hj)
  simp only [List.getD, List.getElem?_eq_getElem hj, Option.getD_some, decide_eq_true_eq]
  intro e
  exact hx (e ▸ h1)
/-- the bytes of states -/
def letter (z : Int) : UInt8 := if z = 0 then 102 else if z = 1 then 107 else if z = 2 then 108 else if z = 3 then 104 else 103
def text (l : Ls) : List UInt8 := l.map letter
theorem text_len (l : Ls) : (text l).length = l.length := by simp [text]
theorem text_app (a b : Ls) : text (a ++ b) = text a ++ text b := by simp [text]
theorem letter_inj {a b : Int} (ha : 0 ≤ a ∧ a ≤ 4) (hb : 0 ≤ b ∧ b ≤ 4) (h : letter a = letter b) : a = b := by
  have : a = 0 ∨ a = 1 ∨ a = 2 ∨ a = 3 ∨ a = 4 := by omega
  have : b = 0 ∨ b = 1 ∨ b = 2 ∨ b = 3 ∨ b = 4 := by omega
  revert h
  rcases ‹a = 0 ∨ _› with rfl | rfl | rfl | rfl | rfl <;> rcases ‹b = 0 ∨ _› with rfl | rfl | rfl | rfl | rfl <;> decide
theorem text_inj : ∀ {a b : Ls}, Sts a → Sts b → text a = text b → a = b
  | [], [], _, _, _ => rfl
  | [], _ :: _, _, _, h => by cases h
  | _ :: _, [], _, _, h => by cases h
  | x :: r, y :: s, h1, h2, h => by
    have h3 : letter x :: text r = letter y :: text s := h
    injection h3 with h4 h5
    rw [letter_inj (h1 x (by simp)) (h2 y (by simp)) h4, text_inj (fun z hz => h1 z (by simp [hz])) (fun z hz => h2 z (by simp [hz])) h5]
/-- the state of a byte -/
def unletter (b : UInt8) : Option Int := if b = 102 then some 0 else if b = 107 then some 1 else if b = 108 then some 2 else if b = 104 then some 3 else if b = 103 then some 4 else none
def untext : List UInt8 → Option Ls
  | [] => some []
  | b :: r => match unletter b, untext r with
    | some z, some l => some (z :: l)
    | _, _ => none
end Go.Proofs.YtelhieinkdmpfaaDoor.Sh
