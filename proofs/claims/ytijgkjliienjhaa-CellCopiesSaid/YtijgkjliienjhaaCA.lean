import Derived.Test.YtijgkjliienjhaaGen
import Derived.Test.YtijgkjliienjhaaMake
import Derived.Laws.Entries
import Derived.Laws.Cover3
namespace Go.Proofs.Ytijgkjliienjhaa
open Go.RowKit Go.Shelf
attribute [local go_sem] Oper.semAt_some

/- CELLS: A LIST OF WORDS, EACH WITH HOW OFTEN IT WAS WRITTEN; HOW THEY LIE IN MEMORY. -/

abbrev Cs := List (Nat × Nat)
def encC (x : Nat × Nat) : List Value := [.int .u64 (x.1 : Int), .int .i64 (x.2 : Int)]
def cls (l : Cs) : List Value := l.flatMap encC
theorem cls_len (l : Cs) : (cls l).length = l.length * 2 := by
  induction l with
  | nil => rfl
  | cons x r ih => rw [cls, List.flatMap_cons, List.length_append, show (r.flatMap encC).length = r.length * 2 from ih, show (encC x).length = 2 from rfl, List.length_cons]; omega
theorem cls_app (a b : Cs) : cls (a ++ b) = cls a ++ cls b := List.flatMap_append
theorem cls_get : ∀ (l : Cs) (k : Nat) (h : k < l.length), (cls l)[k * 2]? = some (.int .u64 (l[k].1 : Int)) ∧ (cls l)[k * 2 + 1]? = some (.int .i64 (l[k].2 : Int))
  | x :: r, 0, _ => ⟨rfl, rfl⟩
  | x :: r, k + 1, h => by
    have := cls_get r k (by simpa using h)
    rw [show (k + 1) * 2 = k * 2 + 1 + 1 by omega]
    exact this
theorem cls_set : ∀ (l : Cs) (k : Nat) (x y : Nat), k < l.length → ((cls l).set (k * 2) (.int .u64 (x : Int))).set (k * 2 + 1) (.int .i64 (y : Int)) = cls (l.set k (x, y))
  | z :: r, 0, x, y, _ => rfl
  | z :: r, k + 1, x, y, h => by
    have := cls_set r k x y (by simpa using h)
    rw [show (k + 1) * 2 = k * 2 + 1 + 1 by omega, List.set_cons_succ]
    show _ :: _ :: (((cls r).set (k * 2) _).set (k * 2 + 1) _) = _ :: _ :: cls (r.set k (x, y))
    rw [this]
/-- a cell that is written -/
def put (l : Cs) (k n : Nat) : Cs := l.set k (n, (l.getD k (0, 0)).2 + 1)
theorem put_len (l : Cs) (k n : Nat) : (put l k n).length = l.length := by simp [put]
theorem put_at {l : Cs} {k : Nat} (h : k < l.length) (n : Nat) : put l k n = l.set k (n, l[k].2 + 1) := by simp [put, h]
structure Ok (m : Nat) (l : Cs) : Prop where
  most : l.length ≤ 1024
  small : ∀ x ∈ l, x.1 < 18446744073709551616 ∧ x.2 ≤ m
theorem Ok.mono {m m' : Nat} {l : Cs} (h : Ok m l) (hm : m ≤ m') : Ok m' l := ⟨h.most, fun x hx => ⟨(h.small x hx).1, by have := (h.small x hx).2; omega⟩⟩
theorem Ok.putn {m : Nat} {l : Cs} (h : Ok m l) (k n : Nat) (hn : n < 18446744073709551616) : Ok (m + 1) (put l k n) := by
  refine ⟨by rw [put_len]; exact h.most, fun x hx => ?_⟩
  by_cases hk : k < l.length
  · rw [put_at hk] at hx
    rcases List.mem_or_eq_of_mem_set hx with h1 | h1
    · have := h.small x h1
      exact ⟨this.1, by omega⟩
    · subst h1
      have := (h.small _ (List.getElem_mem hk)).2
      exact ⟨hn, by simp only; omega⟩
  · rw [show put l k n = l by unfold put; rw [List.set_eq_of_length_le (by omega)]] at hx
    have := h.small x hx
    exact ⟨this.1, by omega⟩

/-- a row of things whose first ones are these cells -/
def Lst (t : TypeId) (w : World) (g : Nat) (l : Cs) : Prop := ∃ rest, Row w g t (cls l ++ rest)
section
variable {t t' : TypeId} {w w' : World} {g k : Nat} {l : Cs}
theorem Lst.lt (h : Lst t w g l) : g < w.heap.size := by
  obtain ⟨r, h⟩ := h
  exact h.lt
theorem Lst.same (h : Lst t w g l) (hb : w'.heap[g]? = w.heap[g]?) : Lst t w' g l := by
  obtain ⟨r, h⟩ := h
  exact ⟨r, h.same hb⟩
theorem Lst.below (h : Lst t w g l) (hb : Below w.heap.size w w') : Lst t w' g l := h.same (hb.block _ h.lt)
theorem Lst.c0 (h : Lst t w g l) (hk : k < l.length) : w.cell? ⟨g, k * 2, none⟩ = some (.int .u64 (l[k].1 : Int)) := by
  obtain ⟨r, h⟩ := h
  rw [h.cell, List.getElem?_append_left (by rw [cls_len]; omega)]
  exact (cls_get l k hk).1
theorem Lst.c1 (h : Lst t w g l) (hk : k < l.length) : w.cell? ⟨g, k * 2 + 1, none⟩ = some (.int .i64 (l[k].2 : Int)) := by
  obtain ⟨r, h⟩ := h
  rw [h.cell, List.getElem?_append_left (by rw [cls_len]; omega)]
  exact (cls_get l k hk).2
theorem Lst.frozen (h : Lst t w g l) (o : Nat) : w.frozen? ⟨g, o, none⟩ = false := by
  obtain ⟨r, h⟩ := h
  exact h.frozen o
theorem Lst.sees (h : Lst t w g l) : Sees w w.heap.size (some ⟨g, 0, none⟩) (cls l) := fun _ => ⟨_, rfl, h.lt, fun j u hu => by
  obtain ⟨r, h⟩ := h
  rw [add_plain, Nat.zero_add, h.cell, List.getElem?_append_left (List.getElem?_eq_some_iff.1 hu).1]
  exact hu⟩
theorem Lst.set (h : Lst t w g l) (hk : k < l.length) (x y : Nat) : Lst t ((w.setCell ⟨g, k * 2, none⟩ (.int .u64 (x : Int))).setCell ⟨g, k * 2 + 1, none⟩ (.int .i64 (y : Int))) g (l.set k (x, y)) := by
  obtain ⟨r, h⟩ := h
  refine ⟨r, ?_⟩
  have h1 := (h.set (k * 2) (.int .u64 (x : Int))).set (k * 2 + 1) (.int .i64 (y : Int))
  rw [List.set_append_left _ _ (by rw [cls_len]; omega), List.set_append_left _ _ (by rw [List.length_set, cls_len]; omega), cls_set l k x y hk] at h1
  exact h1
theorem Lst.ne (h : Lst t w g l) {b : Nat} {cs : List Value} (hr : Row w b t' cs) (ht : t ≠ t') : b ≠ g := by
  rintro rfl
  obtain ⟨r, h⟩ := h
  have := hr.symm.trans h
  injection this with this
  injection this with _ e
  exact ht e.symm
theorem Lst.ne' (h : Lst t w g l) {b : Nat} {l' : Cs} (hr : Lst t' w b l') (ht : t ≠ t') : b ≠ g := by
  obtain ⟨r, hr⟩ := hr
  exact h.ne hr ht
end

abbrev bx (b : Nat) : Value := .pointer (some ⟨b, 0, none⟩)
structure Rep (w : World) (b g c : Nat) (l : Cs) : Prop where
  obj : Row w b 34 [.slice (some ⟨g, 0, none⟩) l.length c]
  row : Lst 70 w g l
section
variable {w w' : World} {b g c : Nat} {l : Cs}
theorem Rep.cel (h : Rep w b g c l) : w.cell? ⟨b, 0, none⟩ = some (.slice (some ⟨g, 0, none⟩) l.length c) := h.obj.cell 0
theorem Rep.ne (h : Rep w b g c l) : b ≠ g := h.row.ne h.obj (by decide)
theorem Rep.same (h : Rep w b g c l) (h1 : w'.heap[b]? = w.heap[b]?) (h2 : w'.heap[g]? = w.heap[g]?) : Rep w' b g c l := ⟨h.obj.same h1, h.row.same h2⟩
theorem Rep.below (h : Rep w b g c l) (hb : Below w.heap.size w w') : Rep w' b g c l := h.same (hb.block _ h.obj.lt) (hb.block _ h.row.lt)
theorem Rep.putn (h : Rep w b g c l) {k : Nat} (hk : k < l.length) (n : Nat) : Rep ((w.setCell ⟨g, k * 2, none⟩ (.int .u64 (n : Int))).setCell ⟨g, k * 2 + 1, none⟩ (.int .i64 ((l[k].2 + 1 : Nat) : Int))) b g c (put l k n) := by
  have hne := h.ne
  refine ⟨?_, ?_⟩
  · rw [put_len]
    exact h.obj.same ((heap_set hne).trans (heap_set hne))
  · rw [put_at hk]
    exact h.row.set hk n _
end
/-- no cells: nil, or what no call made -/
def Non (w : World) (v : Value) : Prop := v = .pointer none ∨ ∃ b, v = bx b ∧ w.cell? ⟨b, 0, none⟩ = some (.slice none 0 0)
theorem Non.below {w w' : World} {v : Value} (h : Non w v) (hb : Below w.heap.size w w') : Non w' v := by
  rcases h with h | ⟨b, h1, h2⟩
  · exact .inl h
  · exact .inr ⟨b, h1, (hb.cell (p := ⟨b, 0, none⟩) (lt_of_cell h2)).trans h2⟩
theorem Non.ptr {w : World} {v : Value} (h : Non w v) : ∃ pv, v = .pointer pv := by
  rcases h with rfl | ⟨b, rfl, _⟩
  · exact ⟨_, rfl⟩
  · exact ⟨_, rfl⟩

theorem there_non (v : Value) (w : World) (h : Non w v) : Calls Try.prog 32 #[v] w fun e w' => e = .returned (.bool false) ∧ w = w' := by
  rcases h with rfl | ⟨b, rfl, hc⟩
  · go_enter Try.func32, Try.ntmps32
    go_wp2_with fail
    go_ret
    exact ⟨rfl, rfl⟩
  · go_enter Try.func32, Try.ntmps32
    go_wp2_with fail
    go_ret
    exact ⟨rfl, rfl⟩
theorem there_at (b : Nat) (ad : Addr) (n c : Nat) (w : World) (hc : w.cell? ⟨b, 0, none⟩ = some (.slice (some ad) n c)) : Calls Try.prog 32 #[bx b] w fun e w' => e = .returned (.bool true) ∧ w = w' := by
  go_enter Try.func32, Try.ntmps32
  go_wp2_with fail
  go_ret
  exact ⟨rfl, rfl⟩
theorem holds_in (A : Option Addr) (n c k : Nat) (w : World) (h : k < n) : Calls Try.prog 40 #[.slice A n c, .int .i64 (k : Int)] w fun e w' => e = .returned (.bool true) ∧ w = w' := by
  have h0 : (0 : Int) ≤ (k : Int) := by omega
  have h1 : decide ((k : Int) < (n : Int)) = true := decide_eq_true (by omega)
  go_enter Try.func40, Try.ntmps40
  go_wp2_with fail
  go_ret
  exact ⟨rfl, rfl⟩
theorem holds_out (A : Option Addr) (n c : Nat) (z : Int) (w : World) (h : z < 0 ∨ (n : Int) ≤ z) : Calls Try.prog 40 #[.slice A n c, .int .i64 z] w fun e w' => e = .returned (.bool false) ∧ w = w' := by
  by_cases h0 : 0 ≤ z
  · have h1 : decide (0 ≤ z) = true := decide_eq_true h0
    have h2 : decide (z < (n : Int)) = false := decide_eq_false (by omega)
    go_enter Try.func40, Try.ntmps40
    go_wp2_with fail
    go_ret
    exact ⟨rfl, rfl⟩
  · have h1 : decide (0 ≤ z) = false := decide_eq_false h0
    go_enter Try.func40, Try.ntmps40
    go_wp2_with fail
    go_ret
    exact ⟨rfl, rfl⟩
theorem num_any (z : Int) (w : World) : Calls Try.prog 12 #[.int .i64 z] w fun e w' => e = .returned (.int .i64 z) ∧ w = w' := by
  go_enter Try.func12, Try.ntmps12
  go_wp2
  go_ret
  exact ⟨rfl, rfl⟩
theorem rthere_in (A : Option Addr) (n c k : Nat) (w : World) (h : k < n) : Calls Try.prog 35 #[.slice A n c, .int .i64 (k : Int)] w fun e w' => e = .returned (.bool true) ∧ w = w' := by
  have h0 : (0 : Int) ≤ (k : Int) := by omega
  have h1 : decide ((k : Int) < (n : Int)) = true := decide_eq_true (by omega)
  go_enter Try.func35, Try.ntmps35
  go_wp2_with fail
  go_ret
  exact ⟨rfl, rfl⟩
theorem rthere_out (A : Option Addr) (n c : Nat) (z : Int) (w : World) (h : z < 0 ∨ (n : Int) ≤ z) : Calls Try.prog 35 #[.slice A n c, .int .i64 z] w fun e w' => e = .returned (.bool false) ∧ w = w' := by
  by_cases h0 : 0 ≤ z
  · have h1 : decide (0 ≤ z) = true := decide_eq_true h0
    have h2 : decide (z < (n : Int)) = false := decide_eq_false (by omega)
    go_enter Try.func35, Try.ntmps35
    go_wp2_with fail
    go_ret
    exact ⟨rfl, rfl⟩
  · have h1 : decide (0 ≤ z) = false := decide_eq_false h0
    go_enter Try.func35, Try.ntmps35
    go_wp2_with fail
    go_ret
    exact ⟨rfl, rfl⟩
end Go.Proofs.Ytijgkjliienjhaa
