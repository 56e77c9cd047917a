import Derived.Test.YtodbaahnmmfgiaaGen
import Derived.Test.YtodbaahnmmfgiaaMake
import Derived.Laws.Entries
import Derived.Laws.Cover3
import Derived.Shelf.RegionOpen
import Derived.Deep.RegionHeld3
import Derived.Test.YtodbaahnmmfgiaaBaseIn
import Derived.Test.YtodbaahnmmfgiaaRange
import Derived.Test.YtodbaahnmmfgiaaRangeBox
namespace Go.Proofs.Ytodbaahnmmfgiaa.Ce
open Go.RowKit Go.Shelf
attribute [local go_sem] Oper.semAt_some

/- CELLS: A LIST OF WORDS, EACH WITH HOW OFTEN IT WAS WRITTEN; HOW THEY LIE IN MEMORY. -/

abbrev Cs := List (Nat × Int)
def encC (x : Nat × Int) : List Value := [.int .u64 (x.1 : Int), .int .i64 x.2]
def cls (l : Cs) : List Value := l.flatMap encC
theorem cls_len (l : Cs) : (cls l).length = l.length * 2 := by
  induction l with
  | nil => rfl
  | cons x r ih => rw [cls, List.flatMap_cons, List.length_append, show (r.flatMap encC).length = r.length * 2 from ih, show (encC x).length = 2 from rfl, List.length_cons]; omega
theorem cls_app (a b : Cs) : cls (a ++ b) = cls a ++ cls b := List.flatMap_append
theorem cls_get : ∀ (l : Cs) (k : Nat) (h : k < l.length), (cls l)[k * 2]? = some (.int .u64 (l[k].1 : Int)) ∧ (cls l)[k * 2 + 1]? = some (.int .i64 l[k].2)
  | x :: r, 0, _ => ⟨rfl, rfl⟩
  | x :: r, k + 1, h => by
    have := cls_get r k (by simpa using h)
    rw [show (k + 1) * 2 = k * 2 + 1 + 1 by omega]
    exact this
theorem cls_set : ∀ (l : Cs) (k : Nat) (x : Nat) (y : Int), k < l.length → ((cls l).set (k * 2) (.int .u64 (x : Int))).set (k * 2 + 1) (.int .i64 y) = cls (l.set k (x, y))
  | z :: r, 0, x, y, _ => rfl
  | z :: r, k + 1, x, y, h => by
    have := cls_set r k x y (by simpa using h)
    rw [show (k + 1) * 2 = k * 2 + 1 + 1 by omega, List.set_cons_succ]
    show _ :: _ :: (((cls r).set (k * 2) _).set (k * 2 + 1) _) = _ :: _ :: cls (r.set k (x, y))
    rw [this]
/-- a cell that is written -/
def put (l : Cs) (k n : Nat) : Cs := l.set k (n, IntKind.i64.wrap ((l.getD k (0, 0)).2 + 1))
theorem put_len (l : Cs) (k n : Nat) : (put l k n).length = l.length := by simp [put]
theorem put_at {l : Cs} {k : Nat} (h : k < l.length) (n : Nat) : put l k n = l.set k (n, IntKind.i64.wrap (l[k].2 + 1)) := by simp [put, h]

/-- a row of things whose first ones are these cells -/
def Lst (t : TypeId) (w : World) (g : Nat) (l : Cs) : Prop := ∃ rest, Row w g t (cls l ++ rest)
section
variable {t t' : TypeId} {w w' : World} {g k : Nat} {l : Cs}
theorem Lst.lt (h : Lst t w g l) : g < w.heap.size := by
  obtain ⟨r, h⟩ := h
  exact h.lt
theorem Lst.same (h : Lst t w g l) (hb : w'.heap[g]? = w.heap[g]?) : Lst t w' g l := by
  obtain ⟨r, h⟩ := h
  exact ⟨r, h.same hb⟩
theorem Lst.below (h : Lst t w g l) (hb : Below w.heap.size w w') : Lst t w' g l := h.same (hb.block _ h.lt)
theorem Lst.c0 (h : Lst t w g l) (hk : k < l.length) : w.cell? ⟨g, k * 2, none⟩ = some (.int .u64 (l[k].1 : Int)) := by
  obtain ⟨r, h⟩ := h
  rw [h.cell, List.getElem?_append_left (by rw [cls_len]; omega)]
  exact (cls_get l k hk).1
theorem Lst.c1 (h : Lst t w g l) (hk : k < l.length) : w.cell? ⟨g, k * 2 + 1, none⟩ = some (.int .i64 l[k].2) := by
  obtain ⟨r, h⟩ := h
  rw [h.cell, List.getElem?_append_left (by rw [cls_len]; omega)]
  exact (cls_get l k hk).2
theorem Lst.frozen (h : Lst t w g l) (o : Nat) : w.frozen? ⟨g, o, none⟩ = false := by
  obtain ⟨r, h⟩ := h
  exact h.frozen o
theorem Lst.sees (h : Lst t w g l) : Sees w w.heap.size (some ⟨g, 0, none⟩) (cls l) := fun _ => ⟨_, rfl, h.lt, fun j u hu => by
  obtain ⟨r, h⟩ := h
  rw [add_plain, Nat.zero_add, h.cell, List.getElem?_append_left (List.getElem?_eq_some_iff.1 hu).1]
  exact hu⟩
theorem Lst.set (h : Lst t w g l) (hk : k < l.length) (x : Nat) (y : Int) : Lst t ((w.setCell ⟨g, k * 2, none⟩ (.int .u64 (x : Int))).setCell ⟨g, k * 2 + 1, none⟩ (.int .i64 y)) g (l.set k (x, y)) := by
  obtain ⟨r, h⟩ := h
  refine ⟨r, ?_⟩
  have h1 := (h.set (k * 2) (.int .u64 (x : Int))).set (k * 2 + 1) (.int .i64 y)
  rw [List.set_append_left _ _ (by rw [cls_len]; omega), List.set_append_left _ _ (by rw [List.length_set, cls_len]; omega), cls_set l k x y hk] at h1
  exact h1
theorem Lst.ne (h : Lst t w g l) {b : Nat} {cs : List Value} (hr : Row w b t' cs) (ht : t ≠ t') : b ≠ g := by
  rintro rfl
  obtain ⟨r, h⟩ := h
  have := hr.symm.trans h
  injection this with this
  injection this with _ e
  exact ht e.symm
theorem Lst.ne' (h : Lst t w g l) {b : Nat} {l' : Cs} (hr : Lst t' w b l') (ht : t ≠ t') : b ≠ g := by
  obtain ⟨r, hr⟩ := hr
  exact h.ne hr ht
end

abbrev bx (b : Nat) : Value := .pointer (some ⟨b, 0, none⟩)
structure Rep (w : World) (b g c : Nat) (l : Cs) : Prop where
  obj : Row w b 95 [.slice (some ⟨g, 0, none⟩) l.length c]
  row : Lst 107 w g l
section
variable {w w' : World} {b g c : Nat} {l : Cs}
theorem Rep.cel (h : Rep w b g c l) : w.cell? ⟨b, 0, none⟩ = some (.slice (some ⟨g, 0, none⟩) l.length c) := h.obj.cell 0
theorem Rep.ne (h : Rep w b g c l) : b ≠ g := h.row.ne h.obj (by decide)
theorem Rep.same (h : Rep w b g c l) (h1 : w'.heap[b]? = w.heap[b]?) (h2 : w'.heap[g]? = w.heap[g]?) : Rep w' b g c l := ⟨h.obj.same h1, h.row.same h2⟩
theorem Rep.below (h : Rep w b g c l) (hb : Below w.heap.size w w') : Rep w' b g c l := h.same (hb.block _ h.obj.lt) (hb.block _ h.row.lt)
theorem Rep.putn (h : Rep w b g c l) {k : Nat} (hk : k < l.length) (n : Nat) : Rep ((w.setCell ⟨g, k * 2, none⟩ (.int .u64 (n : Int))).setCell ⟨g, k * 2 + 1, none⟩ (.int .i64 (IntKind.i64.wrap (l[k].2 + 1)))) b g c (put l k n) := by
  have hne := h.ne
  refine ⟨?_, ?_⟩
  · rw [put_len]
    exact h.obj.same ((heap_set hne).trans (heap_set hne))
  · rw [put_at hk]
    exact h.row.set hk n _
end
/-- no cells: nil, or what no call made -/
def Non (w : World) (v : Value) : Prop := v = .pointer none ∨ ∃ b, v = bx b ∧ w.cell? ⟨b, 0, none⟩ = some (.slice none 0 0)
theorem Non.below {w w' : World} {v : Value} (h : Non w v) (hb : Below w.heap.size w w') : Non w' v := by
  rcases h with h | ⟨b, h1, h2⟩
  · exact .inl h
  · exact .inr ⟨b, h1, (hb.cell (p := ⟨b, 0, none⟩) (lt_of_cell h2)).trans h2⟩
theorem Non.ptr {w : World} {v : Value} (h : Non w v) : ∃ pv, v = .pointer pv := by
  rcases h with rfl | ⟨b, rfl, _⟩
  · exact ⟨_, rfl⟩
  · exact ⟨_, rfl⟩

theorem there_non (v : Value) (w : World) (h : Non w v) : Calls Try.prog 61 #[v] w fun e w' => e = .returned (.bool false) ∧ w = w' := by
  rcases h with rfl | ⟨b, rfl, hc⟩
  · go_enter Try.func61, Try.ntmps61
    go_wp2_with fail
    go_ret
    exact ⟨rfl, rfl⟩
  · go_enter Try.func61, Try.ntmps61
    go_wp2_with fail
    go_ret
    exact ⟨rfl, rfl⟩
theorem there_at (b : Nat) (ad : Addr) (n c : Nat) (w : World) (hc : w.cell? ⟨b, 0, none⟩ = some (.slice (some ad) n c)) : Calls Try.prog 61 #[bx b] w fun e w' => e = .returned (.bool true) ∧ w = w' := by
  go_enter Try.func61, Try.ntmps61
  go_wp2_with fail
  go_ret
  exact ⟨rfl, rfl⟩
theorem holds_in (A : Option Addr) (n c k : Nat) (w : World) (h : k < n) : Calls Try.prog 80 #[.slice A n c, .int .i64 (k : Int)] w fun e w' => e = .returned (.bool true) ∧ w = w' := by
  have h0 : (0 : Int) ≤ (k : Int) := by omega
  have h1 : decide ((k : Int) < (n : Int)) = true := decide_eq_true (by omega)
  go_enter Try.func80, Try.ntmps80
  go_wp2_with fail
  go_ret
  exact ⟨rfl, rfl⟩
theorem holds_out (A : Option Addr) (n c : Nat) (z : Int) (w : World) (h : z < 0 ∨ (n : Int) ≤ z) : Calls Try.prog 80 #[.slice A n c, .int .i64 z] w fun e w' => e = .returned (.bool false) ∧ w = w' := by
  by_cases h0 : 0 ≤ z
  · have h1 : decide (0 ≤ z) = true := decide_eq_true h0
    have h2 : decide (z < (n : Int)) = false := decide_eq_false (by omega)
    go_enter Try.func80, Try.ntmps80
    go_wp2_with fail
    go_ret
    exact ⟨rfl, rfl⟩
  · have h1 : decide (0 ≤ z) = false := decide_eq_false h0
    go_enter Try.func80, Try.ntmps80
    go_wp2_with fail
    go_ret
    exact ⟨rfl, rfl⟩
end Go.Proofs.Ytodbaahnmmfgiaa.Ce

namespace Go.Proofs.Ytodbaahnmmfgiaa.Ce
open Go.RowKit Go.Shelf
attribute [local go_sem] Oper.semAt_some

/- NEW; WHAT IS ASKED OF A CELL. -/
theorem one_info : (Try.prog.info? 107).map (fun i => (i.zero, i.size, i.bytes)) = some (some (.agg #[.int .u64 0, .int .i64 0]), 2, 16) := by kernel_rfl
def zeros (n : Nat) : Cs := List.replicate n (0, 0)
theorem zeros_len (n : Nat) : (zeros n).length = n := List.length_replicate
theorem made_two (c : Nat) : madeCells (Value.agg #[.int .u64 0, .int .i64 0]).cells (c * 2) = (cls (zeros c)).toArray := by
  have hc : (Value.agg #[.int .u64 0, .int .i64 0]).cells = #[.int .u64 0, .int .i64 0] := rfl
  rw [hc]
  apply Array.ext
  · rw [size_madeCells, List.size_toArray, cls_len, zeros_len]
  · intro i h1 h2
    rw [List.size_toArray, cls_len, zeros_len] at h2
    have hk : i / 2 < (zeros c).length := by rw [zeros_len]; omega
    obtain ⟨g0, g1⟩ := cls_get (zeros c) (i / 2) hk
    have hz : (zeros c)[i / 2] = (0, 0) := List.eq_of_mem_replicate (List.getElem_mem hk)
    rw [hz] at g0 g1
    have e0 : ∀ h, (cls (zeros c)).toArray[i]'h = (cls (zeros c))[i]'(by simpa using h) := fun h => by simp
    rw [e0]
    rcases (show i % 2 = 0 ∨ i % 2 = 1 by omega) with h | h
    · rw [show i / 2 * 2 = i by omega] at g0
      rw [(List.getElem?_eq_some_iff.1 g0).2]
      simp [madeCells, h]
    · rw [show i / 2 * 2 + 1 = i by omega] at g1
      rw [(List.getElem?_eq_some_iff.1 g1).2]
      simp [madeCells, h]
theorem make_two {P : Program} {t e : TypeId} {i : TypeInfo} {z : Value} (ht : P.underlying t = some (.slice e)) (hi : P.info? e = some i) (hz : i.zero = some z) (hs : i.size = 2) (hz2 : z = .agg #[.int .u64 0, .int .i64 0])
    (n : Nat) (hby : i.bytes * n ≤ 281474976710656) (h63 : n ≤ 9223372036854775807) (w : World) :
    (Instr.makeSlice t (.int .i64 (n : Int)) (.int .i64 (n : Int))).run P w = .ok (.slice (some ⟨w.heap.size, 0, none⟩) n n) (w.alloc (.cells (cls (zeros n)).toArray e)) := by
  have hl : (i.bytes : Int) * (n : Int) ≤ 281474976710656 := by rw [← Int.natCast_mul]; omega
  have hm := run_make (P := P) w t e i z ht hi hz .i64 .i64 n n (by omega) (by omega) hl (by omega)
  subst hz2
  rw [Int.toNat_natCast, hs, show madeCells (Value.agg #[.int .u64 0, .int .i64 0]).cells (n * 2) = _ from made_two n] at hm
  exact hm
theorem new_no (z : Int) (w : World) (h : z < 0 ∨ 1024 < z) : Calls Try.prog 24 #[.int .i64 z] w fun e w' => e = .returned (.tuple #[.pointer none, .int .i64 2]) ∧ w = w' := by
  by_cases h0 : z < 0
  · have h1 : decide (z < 0) = true := decide_eq_true h0
    clear h
    go_enter Try.func24, Try.ntmps24
    go_wp2_with fail
    refine wp_scope_jump 1 fun R hR hJm => ?_
    go_wp2_with fail
    refine wp_goto (hJm.out _ _ _ _ _ rfl ?_)
    go_wp2_with fail
    refine hR.out _ _ _ _ (by simp) ?_
    go_ret2
    exact ⟨rfl, rfl⟩
  · have h1 : decide (z < 0) = false := decide_eq_false h0
    have h2 : decide (1024 < z) = true := decide_eq_true (by omega)
    clear h h0
    go_enter Try.func24, Try.ntmps24
    go_wp2_with fail
    refine wp_scope_jump 1 fun R hR hJm => ?_
    go_wp2_with fail
    refine wp_goto (hJm.out _ _ _ _ _ rfl ?_)
    go_wp2_with fail
    refine hR.out _ _ _ _ (by simp) ?_
    go_ret2
    exact ⟨rfl, rfl⟩
def NewP (w : World) (l : Cs) (e : Ending) (w' : World) : Prop :=
  ∃ b g c, e = .returned (.tuple #[bx b, .int .i64 0]) ∧ w.heap.size ≤ b ∧ w.heap.size ≤ g ∧ Rep w' b g c l ∧ Below w.heap.size w w'
theorem rep_new (w : World) (n : Nat) : Rep ((w.alloc (.cells (cls (zeros n)).toArray 107)).alloc (.cells #[.slice (some ⟨w.heap.size, 0, none⟩) n n] 95)) (w.heap.size + 1) w.heap.size n (zeros n) := by
  refine ⟨?_, [], ?_⟩
  · rw [zeros_len]
    exact Row.new_at _ _ [.slice (some ⟨w.heap.size, 0, none⟩) n n] (by simp)
  · rw [List.append_nil]
    exact (Row.new w 107 (cls (zeros n))).below (below1 _ _)
theorem new_ok (n : Nat) (w : World) (h : n ≤ 1024) : Calls Try.prog 24 #[.int .i64 (n : Int)] w (NewP w (zeros n)) := by
  obtain ⟨i0, hi, hz0, hz1, hz2⟩ := info_parts one_info
  have hmk := make_two (P := Try.prog) Try.underlying93 hi hz0 hz1 rfl n (by rw [hz2]; omega) (by omega) w
  have hfin := Lib.hid (rep_new w n)
  have h1 : decide ((n : Int) < 0) = false := decide_eq_false (by omega)
  have h2 : decide ((1024 : Int) < (n : Int)) = false := decide_eq_false (by omega)
  obtain ⟨zs, hzs⟩ : ∃ zs, zs = (cls (zeros n)).toArray := ⟨_, rfl⟩
  obtain ⟨L, hL⟩ : ∃ L, L = zeros n := ⟨_, rfl⟩
  rw [← hzs] at hmk hfin
  rw [← hL] at hfin ⊢
  clear hzs hL hi hz0 hz1 hz2
  go_enter Try.func24, Try.ntmps24
  go_wp2_with fail
  refine wp_scope_jump 1 fun R hR hJm => ?_
  go_wp2_with fail
  refine hR.out _ _ _ _ (by simp) ?_
  go_ret2
  exact ⟨_, _, _, rfl, by simp, Nat.le_refl _, hfin.out, below2 _ _ _⟩
theorem asked_non_u (v : Value) (z : Int) (q : Value) (w : World) (h : Non w v) : Calls Try.prog 81 #[v, .int .i64 z, q] w fun e w' => e = .returned (.tuple #[.int .u64 0, .int .i64 1]) ∧ w = w' := by
  have h1 := Lib.hid (there_non v w h)
  obtain ⟨pv, rfl⟩ := h.ptr
  clear h
  go_enter Try.func81, Try.ntmps81
  go_wp2_with fail
  refine wp_scope_jump 1 fun R hR hJm => ?_
  go_wp2_with fail
  refine h1.out.mono ?_
  rintro e w1 ⟨rfl, rfl⟩
  go_wp2_with fail
  refine wp_goto (hJm.out _ _ _ _ _ rfl ?_)
  go_wp2_with fail
  refine hR.out _ _ _ _ (by simp) ?_
  go_ret2
  exact ⟨rfl, rfl⟩
theorem asked_out_u (b g c : Nat) (l : Cs) (z : Int) (q : Value) (w : World) (h : Rep w b g c l) (hz : z < 0 ∨ (l.length : Int) ≤ z) : Calls Try.prog 81 #[bx b, .int .i64 z, q] w fun e w' => e = .returned (.tuple #[.int .u64 0, .int .i64 4]) ∧ w = w' := by
  have hc := h.cel
  have h1 := Lib.hid (there_at b _ _ _ w hc)
  have h2 := Lib.hid (holds_out (some ⟨g, 0, none⟩) l.length c z w hz)
  obtain ⟨n, hn⟩ : ∃ n, n = l.length := ⟨_, rfl⟩
  rw [← hn] at hc h2
  clear h hz hn
  go_enter Try.func81, Try.ntmps81
  go_wp2_with fail
  refine wp_scope_jump 1 fun R hR hJm => ?_
  go_wp2_with fail
  refine h1.out.mono ?_
  rintro e w1 ⟨rfl, rfl⟩
  go_wp2_with fail
  refine h2.out.mono ?_
  rintro e w1 ⟨rfl, rfl⟩
  go_wp2_with fail
  refine wp_goto (hJm.out _ _ _ _ _ rfl ?_)
  go_wp2_with fail
  refine hR.out _ _ _ _ (by simp) ?_
  go_ret2
  exact ⟨rfl, rfl⟩
theorem asked_in_u {Q : World → Prop} {v : Value} (cf : FuncId) (caps : Array Value) (b g c k : Nat) (l : Cs) (w : World) (h : Rep w b g c l) (hk : k < l.length) (hent : ∀ args V, (callFunc cf args).run Try.prog V = .ok (.enter cf args) V)
    (HC : Calls Try.prog cf (#[.pointer (some ⟨g, k * 2, none⟩)] ++ caps) w fun e w' => e = .returned v ∧ Q w') :
    Calls Try.prog 81 #[bx b, .int .i64 (k : Int), .func (.func cf) #[] caps] w fun e w' => e = .returned (.tuple #[v, .int .i64 0]) ∧ Q w' := by
  have hc := h.cel
  have h1 := Lib.hid (there_at b _ _ _ w hc)
  have h2 := Lib.hid (holds_in (some ⟨g, 0, none⟩) l.length c k w hk)
  have H := Lib.hid HC
  obtain ⟨n, hn⟩ : ∃ n, n = l.length := ⟨_, rfl⟩
  rw [← hn] at hc h2 hk
  have i0 : (0 : Int) ≤ (k : Int) := by omega
  have i1 : (k : Int) < (n : Int) := by omega
  clear h hn HC
  go_enter Try.func81, Try.ntmps81
  go_wp2_with fail
  refine wp_scope_jump 1 fun R hR hJm => ?_
  go_wp2_with fail
  refine h1.out.mono ?_
  rintro e w1 ⟨rfl, rfl⟩
  go_wp2_with fail
  refine h2.out.mono ?_
  rintro e w1 ⟨rfl, rfl⟩
  go_wp2_with fail
  refine H.out.mono ?_
  rintro e w1 ⟨rfl, hQ⟩
  have HQ := Lib.hid hQ
  clear hQ hc H
  go_wp2_with fail
  refine hR.out _ _ _ _ (by simp) ?_
  go_ret2
  exact ⟨rfl, HQ.out⟩

theorem asked_non_b (v : Value) (z : Int) (q : Value) (w : World) (h : Non w v) : Calls Try.prog 70 #[v, .int .i64 z, q] w fun e w' => e = .returned (.tuple #[.bool false, .int .i64 1]) ∧ w = w' := by
  have h1 := Lib.hid (there_non v w h)
  obtain ⟨pv, rfl⟩ := h.ptr
  clear h
  go_enter Try.func70, Try.ntmps70
  go_wp2_with fail
  refine wp_scope_jump 1 fun R hR hJm => ?_
  go_wp2_with fail
  refine h1.out.mono ?_
  rintro e w1 ⟨rfl, rfl⟩
  go_wp2_with fail
  refine wp_goto (hJm.out _ _ _ _ _ rfl ?_)
  go_wp2_with fail
  refine hR.out _ _ _ _ (by simp) ?_
  go_ret2
  exact ⟨rfl, rfl⟩
theorem asked_out_b (b g c : Nat) (l : Cs) (z : Int) (q : Value) (w : World) (h : Rep w b g c l) (hz : z < 0 ∨ (l.length : Int) ≤ z) : Calls Try.prog 70 #[bx b, .int .i64 z, q] w fun e w' => e = .returned (.tuple #[.bool false, .int .i64 4]) ∧ w = w' := by
  have hc := h.cel
  have h1 := Lib.hid (there_at b _ _ _ w hc)
  have h2 := Lib.hid (holds_out (some ⟨g, 0, none⟩) l.length c z w hz)
  obtain ⟨n, hn⟩ : ∃ n, n = l.length := ⟨_, rfl⟩
  rw [← hn] at hc h2
  clear h hz hn
  go_enter Try.func70, Try.ntmps70
  go_wp2_with fail
  refine wp_scope_jump 1 fun R hR hJm => ?_
  go_wp2_with fail
  refine h1.out.mono ?_
  rintro e w1 ⟨rfl, rfl⟩
  go_wp2_with fail
  refine h2.out.mono ?_
  rintro e w1 ⟨rfl, rfl⟩
  go_wp2_with fail
  refine wp_goto (hJm.out _ _ _ _ _ rfl ?_)
  go_wp2_with fail
  refine hR.out _ _ _ _ (by simp) ?_
  go_ret2
  exact ⟨rfl, rfl⟩
theorem asked_in_b {Q : World → Prop} {v : Value} (cf : FuncId) (caps : Array Value) (b g c k : Nat) (l : Cs) (w : World) (h : Rep w b g c l) (hk : k < l.length) (hent : ∀ args V, (callFunc cf args).run Try.prog V = .ok (.enter cf args) V)
    (HC : Calls Try.prog cf (#[.pointer (some ⟨g, k * 2, none⟩)] ++ caps) w fun e w' => e = .returned v ∧ Q w') :
    Calls Try.prog 70 #[bx b, .int .i64 (k : Int), .func (.func cf) #[] caps] w fun e w' => e = .returned (.tuple #[v, .int .i64 0]) ∧ Q w' := by
  have hc := h.cel
  have h1 := Lib.hid (there_at b _ _ _ w hc)
  have h2 := Lib.hid (holds_in (some ⟨g, 0, none⟩) l.length c k w hk)
  have H := Lib.hid HC
  obtain ⟨n, hn⟩ : ∃ n, n = l.length := ⟨_, rfl⟩
  rw [← hn] at hc h2 hk
  have i0 : (0 : Int) ≤ (k : Int) := by omega
  have i1 : (k : Int) < (n : Int) := by omega
  clear h hn HC
  go_enter Try.func70, Try.ntmps70
  go_wp2_with fail
  refine wp_scope_jump 1 fun R hR hJm => ?_
  go_wp2_with fail
  refine h1.out.mono ?_
  rintro e w1 ⟨rfl, rfl⟩
  go_wp2_with fail
  refine h2.out.mono ?_
  rintro e w1 ⟨rfl, rfl⟩
  go_wp2_with fail
  refine H.out.mono ?_
  rintro e w1 ⟨rfl, hQ⟩
  have HQ := Lib.hid hQ
  clear hQ hc H
  go_wp2_with fail
  refine hR.out _ _ _ _ (by simp) ?_
  go_ret2
  exact ⟨rfl, HQ.out⟩

end Go.Proofs.Ytodbaahnmmfgiaa.Ce

namespace Go.Proofs.Ytodbaahnmmfgiaa.Ce
open Go.RowKit Go.Shelf
attribute [local go_sem] Oper.semAt_some

/- LOAD, COUNT, SWAP, STORE, LEN. -/
theorem load1_any (g o x : Nat) (w : World) (hc : w.cell? ⟨g, o, none⟩ = some (.int .u64 (x : Int))) : Calls Try.prog 82 #[.pointer (some ⟨g, o, none⟩)] w fun e w' => e = .returned (.int .u64 (x : Int)) ∧ w = w' := by
  go_enter Try.func82, Try.ntmps82
  go_wp2_with fail
  go_ret
  exact ⟨rfl, rfl⟩
theorem load_non (v : Value) (z : Int) (w : World) (h : Non w v) : Calls Try.prog 74 #[v, .int .i64 z] w fun e w' => e = .returned (.tuple #[.int .u64 0, .int .i64 1]) ∧ w = w' := by
  have H := Lib.hid (asked_non_u v z (.func (.func 82) #[] #[]) w h)
  obtain ⟨pv, rfl⟩ := h.ptr
  clear h
  go_enter Try.func74, Try.ntmps74
  go_wp2_with fail
  refine H.out.mono ?_
  rintro e w1 ⟨rfl, rfl⟩
  go_wp2_with fail
  go_ret2
  exact ⟨rfl, rfl⟩
theorem load_out (b g c : Nat) (l : Cs) (z : Int) (w : World) (h : Rep w b g c l) (hz : z < 0 ∨ (l.length : Int) ≤ z) : Calls Try.prog 74 #[bx b, .int .i64 z] w fun e w' => e = .returned (.tuple #[.int .u64 0, .int .i64 4]) ∧ w = w' := by
  have H := Lib.hid (asked_out_u b g c l z (.func (.func 82) #[] #[]) w h hz)
  clear h hz
  go_enter Try.func74, Try.ntmps74
  go_wp2_with fail
  refine H.out.mono ?_
  rintro e w1 ⟨rfl, rfl⟩
  go_wp2_with fail
  go_ret2
  exact ⟨rfl, rfl⟩
theorem load_in (b g c k : Nat) (l : Cs) (w : World) (h : Rep w b g c l) (hk : k < l.length) : Calls Try.prog 74 #[bx b, .int .i64 (k : Int)] w fun e w' => e = .returned (.tuple #[.int .u64 (l[k].1 : Int), .int .i64 0]) ∧ w = w' := by
  have H := Lib.hid (asked_in_u (Q := fun w' => w = w') 82 #[] b g c k l w h hk (enters_of Try.func82 (by kernel_rfl) rfl) (load1_any g (k * 2) l[k].1 w (h.row.c0 hk)))
  obtain ⟨x, hx⟩ : ∃ x, x = l[k].1 := ⟨_, rfl⟩
  rw [← hx] at H ⊢
  clear h hk hx
  go_enter Try.func74, Try.ntmps74
  go_wp2_with fail
  refine H.out.mono ?_
  rintro e w1 ⟨rfl, rfl⟩
  go_wp2_with fail
  go_ret2
  exact ⟨rfl, rfl⟩
theorem len_non (v : Value) (w : World) (h : Non w v) : Calls Try.prog 33 #[v] w fun e w' => e = .returned (.int .i64 0) ∧ w = w' := by
  have h1 := Lib.hid (there_non v w h)
  obtain ⟨pv, rfl⟩ := h.ptr
  clear h
  go_enter Try.func33, Try.ntmps33
  go_wp2_with fail
  refine h1.out.mono ?_
  rintro e w1 ⟨rfl, rfl⟩
  go_wp2_with fail
  go_ret
  exact ⟨rfl, rfl⟩
theorem len_at (b g c : Nat) (l : Cs) (w : World) (h : Rep w b g c l) : Calls Try.prog 33 #[bx b] w fun e w' => e = .returned (.int .i64 (l.length : Int)) ∧ w = w' := by
  have hc := h.cel
  have h1 := Lib.hid (there_at b _ _ _ w hc)
  clear h
  go_enter Try.func33, Try.ntmps33
  go_wp2_with fail
  refine h1.out.mono ?_
  rintro e w1 ⟨rfl, rfl⟩
  go_wp2_with fail
  go_ret
  exact ⟨rfl, rfl⟩

/-! a cell that is swapped -/
theorem oswap_no (g o x z n : Nat) (w : World) (hc : w.cell? ⟨g, o, none⟩ = some (.int .u64 (x : Int))) (hx : x ≠ z) : Calls Try.prog 72 #[.pointer (some ⟨g, o, none⟩), .int .u64 (z : Int), .int .u64 (n : Int)] w fun e w' => e = .returned (.bool false) ∧ w = w' := by
  have hd : ((x : Int) != (z : Int)) = true := by simp; omega
  go_enter Try.func72, Try.ntmps72
  go_wp2_with fail
  go_ret
  exact ⟨rfl, rfl⟩
theorem oswap_yes (g o x n : Nat) (k : Int) (w : World) (hc : w.cell? ⟨g, o, none⟩ = some (.int .u64 (x : Int))) (hf : w.frozen? ⟨g, o, none⟩ = false)
    (hc1 : (w.setCell ⟨g, o, none⟩ (.int .u64 (n : Int))).cell? ⟨g, o + 1, none⟩ = some (.int .i64 k)) (hf1 : (w.setCell ⟨g, o, none⟩ (.int .u64 (n : Int))).frozen? ⟨g, o + 1, none⟩ = false) :
    Calls Try.prog 72 #[.pointer (some ⟨g, o, none⟩), .int .u64 (x : Int), .int .u64 (n : Int)] w fun e w' => e = .returned (.bool true) ∧ (w.setCell ⟨g, o, none⟩ (.int .u64 (n : Int))).setCell ⟨g, o + 1, none⟩ (.int .i64 (IntKind.i64.wrap (k + 1))) = w' := by
  have hd : ((x : Int) != (x : Int)) = false := by simp
  obtain ⟨y, hy⟩ : ∃ y, y = IntKind.i64.wrap (k + 1) := ⟨_, rfl⟩
  have hw : IntKind.i64.wrap (k + 1) = y := hy.symm
  rw [hw]
  clear hy
  go_enter Try.func72, Try.ntmps72
  go_wp2_with fail
  go_ret
  exact ⟨rfl, rfl⟩
theorem swap_rep (b g c k n : Nat) (l : Cs) (w : World) (h : Rep w b g c l) (hk : k < l.length) :
    Calls Try.prog 72 #[.pointer (some ⟨g, k * 2, none⟩), .int .u64 (l[k].1 : Int), .int .u64 (n : Int)] w fun e w' => e = .returned (.bool true) ∧ Rep w' b g c (put l k n) ∧ Keep (· = g) w w' := by
  have hr := h.row
  have hf := hr.frozen (k * 2)
  have hc := hr.c0 hk
  have h1 : (w.setCell ⟨g, k * 2, none⟩ (.int .u64 (n : Int))).cell? ⟨g, k * 2 + 1, none⟩ = some (.int .i64 l[k].2) ∧ (w.setCell ⟨g, k * 2, none⟩ (.int .u64 (n : Int))).frozen? ⟨g, k * 2 + 1, none⟩ = false := by
    have hc1 := hr.c1 hk
    obtain ⟨r, hr⟩ := hr
    have hr2 := hr.set (k * 2) (.int .u64 (n : Int))
    refine ⟨?_, hr2.frozen _⟩
    rw [hr2.cell, List.getElem?_set_ne (by omega), ← hr.cell]
    exact hc1
  refine (oswap_yes g (k * 2) l[k].1 n l[k].2 w hc hf h1.1 h1.2).mono ?_
  rintro e w' ⟨rfl, rfl⟩
  exact ⟨rfl, h.putn hk n, ((Keep.refl (F := (· = g)) w).set _ (.inl rfl)).set _ (.inl rfl)⟩
theorem Keep.undrew {F : Nat → Prop} {w w' : World} (h : Keep F w.drew w') : Keep F w w' := ⟨h.os, h.tape, h.output, h.size, h.block⟩
theorem Rep.drew {w : World} {b g c : Nat} {l : Cs} (h : Rep w b g c l) : Rep w.drew b g c l := h.same rfl rfl
theorem swap1_yes (b g c k n p q : Nat) (l : Cs) (w : World) (h : Rep w b g c l) (hk : k < l.length) (hp : w.cell? ⟨p, 0, none⟩ = some (.int .u64 (l[k].1 : Int))) (hq : w.cell? ⟨q, 0, none⟩ = some (.int .u64 (n : Int))) :
    Calls Try.prog 71 #[.pointer (some ⟨g, k * 2, none⟩), bx p, bx q] w fun e w' => e = .returned (.bool true) ∧ Rep w' b g c (put l k n) ∧ Keep (· = g) w w' := by
  have hs := Lib.hid (swap_rep b g c k n l w h hk)
  obtain ⟨o, ho⟩ : ∃ o, o = k * 2 := ⟨_, rfl⟩
  obtain ⟨x, hx⟩ : ∃ x, x = l[k].1 := ⟨_, rfl⟩
  rw [← ho, ← hx] at hs
  rw [← hx] at hp
  rw [← ho]
  clear ho hx h hk
  go_enter Try.func71, Try.ntmps71
  go_wp2_with fail
  refine hs.out.mono ?_
  rintro e w1 ⟨rfl, hr1, hk1⟩
  have hlast := Lib.hid (And.intro hr1 hk1)
  clear hr1 hk1
  go_wp2
  go_ret
  exact ⟨rfl, hlast.out⟩
theorem swap1_no (g o x z n p q : Nat) (w : World) (hc : w.cell? ⟨g, o, none⟩ = some (.int .u64 (x : Int))) (hx : x ≠ z) (hp : w.cell? ⟨p, 0, none⟩ = some (.int .u64 (z : Int))) (hq : w.cell? ⟨q, 0, none⟩ = some (.int .u64 (n : Int))) :
    Calls Try.prog 71 #[.pointer (some ⟨g, o, none⟩), bx p, bx q] w fun e w' => e = .returned (.bool false) ∧ w = w' := by
  have hs := Lib.hid (oswap_no g o x z n w hc hx)
  clear hx hc
  go_enter Try.func71, Try.ntmps71
  go_wp2_with fail
  refine hs.out.mono ?_
  rintro e w1 ⟨rfl, rfl⟩
  go_wp2
  go_ret
  exact ⟨rfl, rfl⟩
end Go.Proofs.Ytodbaahnmmfgiaa.Ce

namespace Go.Proofs.Ytodbaahnmmfgiaa.Ce
open Go.RowKit Go.Shelf
attribute [local go_sem] Oper.semAt_some

/- SWAP, STORE. -/
abbrev u64V (x : Nat) : Value := .int .u64 (x : Int)
def boxW (w : World) (x y : Nat) : World := (w.alloc (.cells #[.int .u64 (x : Int)] 90)).alloc (.cells #[.int .u64 (y : Int)] 90)
theorem boxW_below (w : World) (x y : Nat) : Below w.heap.size w (boxW w x y) := below2 _ _ _
theorem boxW_c0 (w : World) (x y : Nat) : (boxW w x y).cell? ⟨w.heap.size, 0, none⟩ = some (.int .u64 (x : Int)) := (World.cell?_alloc_lt _ _ _ (by simp)).trans (cell_alloc_new _ _ _ _)
theorem boxW_c1 (w : World) (x y : Nat) : (boxW w x y).cell? ⟨w.heap.size + 1, 0, none⟩ = some (.int .u64 (y : Int)) := cell_new_at _ _ _ _ (by simp)
theorem swap_non (v : Value) (z : Int) (x n : Nat) (w : World) (h : Non w v) : Calls Try.prog 53 #[v, .int .i64 z, .int .u64 (x : Int), .int .u64 (n : Int)] w fun e w' => e = .returned (.tuple #[.bool false, .int .i64 1]) ∧ Below w.heap.size w w' := by
  have H : Hid (Calls Try.prog 70 #[v, .int .i64 z, .func (.func 71) #[] #[bx w.heap.size, bx (w.heap.size + 1)]] ((w.alloc (.cells #[.int .u64 (x : Int)] 90)).alloc (.cells #[.int .u64 (n : Int)] 90)) fun e w' => e = .returned (.tuple #[.bool false, .int .i64 1]) ∧ Below w.heap.size w w') := Lib.hid (by
    show Calls _ _ _ (boxW w x n) _
    refine (asked_non_b v z (.func (.func 71) #[] #[bx w.heap.size, bx (w.heap.size + 1)]) (boxW w x n) (h.below (boxW_below w x n))).mono ?_
    rintro e w1 ⟨rfl, rfl⟩
    exact ⟨rfl, boxW_below w x n⟩)
  obtain ⟨pv, rfl⟩ := h.ptr
  clear h
  go_enter Try.func53, Try.ntmps53
  go_wp2_with fail
  refine H.out.mono ?_
  rintro e w1 ⟨rfl, hq⟩
  have HQ := Lib.hid hq
  clear hq H
  go_wp2_with fail
  go_ret2
  exact ⟨rfl, HQ.out⟩
theorem swap_out (b g c : Nat) (l : Cs) (z : Int) (x n : Nat) (w : World) (h : Rep w b g c l) (hz : z < 0 ∨ (l.length : Int) ≤ z) : Calls Try.prog 53 #[bx b, .int .i64 z, .int .u64 (x : Int), .int .u64 (n : Int)] w fun e w' => e = .returned (.tuple #[.bool false, .int .i64 4]) ∧ Below w.heap.size w w' := by
  have H : Hid (Calls Try.prog 70 #[bx b, .int .i64 z, .func (.func 71) #[] #[bx w.heap.size, bx (w.heap.size + 1)]] ((w.alloc (.cells #[.int .u64 (x : Int)] 90)).alloc (.cells #[.int .u64 (n : Int)] 90)) fun e w' => e = .returned (.tuple #[.bool false, .int .i64 4]) ∧ Below w.heap.size w w') := Lib.hid (by
    show Calls _ _ _ (boxW w x n) _
    refine (asked_out_b b g c l z (.func (.func 71) #[] #[bx w.heap.size, bx (w.heap.size + 1)]) (boxW w x n) (h.below (boxW_below w x n)) hz).mono ?_
    rintro e w1 ⟨rfl, rfl⟩
    exact ⟨rfl, boxW_below w x n⟩)
  skip
  clear h hz
  go_enter Try.func53, Try.ntmps53
  go_wp2_with fail
  refine H.out.mono ?_
  rintro e w1 ⟨rfl, hq⟩
  have HQ := Lib.hid hq
  clear hq H
  go_wp2_with fail
  go_ret2
  exact ⟨rfl, HQ.out⟩
theorem swap_no (b g c k : Nat) (l : Cs) (x n : Nat) (w : World) (h : Rep w b g c l) (hk : k < l.length) (hx : l[k].1 ≠ x) : Calls Try.prog 53 #[bx b, .int .i64 (k : Int), .int .u64 (x : Int), .int .u64 (n : Int)] w fun e w' => e = .returned (.tuple #[.bool false, .int .i64 0]) ∧ Below w.heap.size w w' := by
  have H : Hid (Calls Try.prog 70 #[bx b, .int .i64 (k : Int), .func (.func 71) #[] #[bx w.heap.size, bx (w.heap.size + 1)]] ((w.alloc (.cells #[.int .u64 (x : Int)] 90)).alloc (.cells #[.int .u64 (n : Int)] 90)) fun e w' => e = .returned (.tuple #[.bool false, .int .i64 0]) ∧ Below w.heap.size w w') := Lib.hid (by
    show Calls _ _ _ (boxW w x n) _
    have hr := h.below (boxW_below w x n)
    refine asked_in_b (Q := fun w' => Below w.heap.size w w') 71 #[bx w.heap.size, bx (w.heap.size + 1)] b g c k l (boxW w x n) hr hk (enters_of Try.func71 (by kernel_rfl) rfl) ?_
    refine (swap1_no g (k * 2) l[k].1 x n w.heap.size (w.heap.size + 1) (boxW w x n) (hr.row.c0 hk) hx (boxW_c0 w x n) (boxW_c1 w x n)).mono ?_
    rintro e w1 ⟨rfl, rfl⟩
    exact ⟨rfl, boxW_below w x n⟩)
  skip
  clear h hx hk
  go_enter Try.func53, Try.ntmps53
  go_wp2_with fail
  refine H.out.mono ?_
  rintro e w1 ⟨rfl, hq⟩
  have HQ := Lib.hid hq
  clear hq H
  go_wp2_with fail
  go_ret2
  exact ⟨rfl, HQ.out⟩
theorem swap_yes (b g c k : Nat) (l : Cs) (x n : Nat) (w : World) (h : Rep w b g c l) (hk : k < l.length) (hx : l[k].1 = x) : Calls Try.prog 53 #[bx b, .int .i64 (k : Int), .int .u64 (x : Int), .int .u64 (n : Int)] w fun e w' => e = .returned (.tuple #[.bool true, .int .i64 0]) ∧ Rep w' b g c (put l k n) ∧ Keep (· = g) w w' := by
  have H : Hid (Calls Try.prog 70 #[bx b, .int .i64 (k : Int), .func (.func 71) #[] #[bx w.heap.size, bx (w.heap.size + 1)]] ((w.alloc (.cells #[.int .u64 (x : Int)] 90)).alloc (.cells #[.int .u64 (n : Int)] 90)) fun e w' => e = .returned (.tuple #[.bool true, .int .i64 0]) ∧ Rep w' b g c (put l k n) ∧ Keep (· = g) w w') := Lib.hid (by
    show Calls _ _ _ (boxW w x n) _
    have hr := h.below (boxW_below w x n)
    refine asked_in_b (Q := fun w' => Rep w' b g c (put l k n) ∧ Keep (· = g) w w') 71 #[bx w.heap.size, bx (w.heap.size + 1)] b g c k l (boxW w x n) hr hk (enters_of Try.func71 (by kernel_rfl) rfl) ?_
    refine (swap1_yes b g c k n w.heap.size (w.heap.size + 1) l (boxW w x n) hr hk (by rw [hx]; exact boxW_c0 w x n) (boxW_c1 w x n)).mono ?_
    rintro e w1 ⟨rfl, h1, h2⟩
    exact ⟨rfl, h1, (Keep.of_below (boxW_below w x n)).trans h2 (fun _ _ e => e)⟩)
  skip
  clear h hx hk
  go_enter Try.func53, Try.ntmps53
  go_wp2_with fail
  refine H.out.mono ?_
  rintro e w1 ⟨rfl, hq⟩
  have HQ := Lib.hid hq
  clear hq H
  go_wp2_with fail
  go_ret2
  exact ⟨rfl, HQ.out⟩
end Go.Proofs.Ytodbaahnmmfgiaa.Ce

namespace Go.Proofs.Ytodbaahnmmfgiaa.Ce
open Go.RowKit Go.Shelf
attribute [local go_sem] Oper.semAt_some

/- CLONE, COPY; THE DOCUMENT's STORE. -/
theorem own_lst {t : TypeId} {w : World} {B n : Nat} {v : Value} {l : Cs} (h : w.ownsRow B t 2 v n (cls l)) (hv : v.ownBlock ≠ none) : ∃ g c, v = .slice (some ⟨g, 0, none⟩) n c ∧ B ≤ g ∧ Lst t w g l := by
  obtain ⟨h1, ⟨rfl, _⟩ | ⟨g, cap, cur, rfl, hb, hg, _, _, hc, ht⟩⟩ := h
  · exact absurd rfl hv
  · refine ⟨g, cap, rfl, hb, cur.toList.drop (n * 2), ?_⟩
    rw [← ht, List.take_append_drop]
    exact hg
theorem nil_row (w : World) (t : TypeId) : (w.alloc (.cells #[] t)).ownsRow w.heap.size t 2 (.slice (some ⟨w.heap.size, 0, none⟩) 0 0) 0 [] :=
  ⟨rfl, .inr ⟨_, _, _, rfl, Nat.le_refl _, World.alloc_heap_new w _, Nat.le_refl _, Nat.zero_le _, rfl, rfl⟩⟩
theorem cls_one {l : Cs} : ∀ u ∈ cls l, u.oneCell' = true := by
  intro u hu
  obtain ⟨x, _, hx⟩ := List.mem_flatMap.1 hu
  rcases List.mem_cons.1 hx with rfl | h
  · rfl
  · rcases List.mem_cons.1 h with rfl | h
    · rfl
    · cases h
theorem eql_nil {P : Program} (w : World) (t e : TypeId) (a : Option Addr) (l c : Nat) (h : P.underlying t = some (.slice e)) : (binOp .eql t (.slice a l c) (.slice none 0 0)).run P w = .ok (.bool a.isNone) w := by
  simp only [binOp]
  simp [run_equal_slice_nil w t e a l c h]
/-- what an append of a list onto an empty one gives -/
theorem app_fin {t : TypeId} {w w4 : World} {v' : Value} {n : Nat} {l : Cs} (h1 : w4.ownsRow w.heap.size t 2 v' n (cls l)) (h2 : (w.alloc (.cells #[] t)).grownBy w4 (some w.heap.size)) (h3 : v'.ownBlock = some w.heap.size ∨ v'.ownBlock = some (w.heap.size + 1)) :
    ∃ g c, v' = .slice (some ⟨g, 0, none⟩) n c ∧ w.heap.size ≤ g ∧ Lst t w4 g l ∧ Below w.heap.size w w4 := by
  obtain ⟨g, c, e, hg, hl⟩ := own_lst h1 (by rcases h3 with h | h <;> rw [h] <;> simp)
  exact ⟨g, c, e, hg, hl, (below1 w _).grown h2 (by simp) (fun k hk => by injection hk with hk; omega)⟩
def CloneP (t : TypeId) (w : World) (n : Nat) (l : Cs) (e : Ending) (w' : World) : Prop := ∃ g c, e = .returned (.slice (some ⟨g, 0, none⟩) n c) ∧ w.heap.size ≤ g ∧ Lst t w' g l ∧ Below w.heap.size w w'
set_option maxHeartbeats 1000000 in
theorem clone_any (g n c : Nat) (l : Cs) (w : World) (hl : l.length = n) (hn : n ≤ 1024) (h : Lst 107 w g l) :
    Calls Try.prog 64 #[.slice (some ⟨g, 0, none⟩) n c] w (CloneP 107 w n l) := by
  obtain ⟨i0, hi, hz0, hz1, hz2⟩ := info_parts one_info
  have hr := Lib.hid (h.below (below1 w (.cells #[] 107))).sees
  have hown := nil_row w 107
  have HF := Lib.hid (fun w4 v' h1 h2 h3 => app_fin (t := 107) (w := w) (w4 := w4) (v' := v') (n := n) (l := l) h1 h2 h3)
  have HL := Lib.hid (show (cls l).length = n * 2 by rw [cls_len, hl])
  have HO := Lib.hid (cls_one (l := l))
  have hnn : ∀ W, (binOp .eql 93 (.slice (some ⟨g, 0, none⟩) n c) (.slice none 0 0)).run Try.prog W = .ok (.bool false) W := fun W => eql_nil W _ _ _ _ _ Try.underlying93
  obtain ⟨xs, hxs⟩ : ∃ xs, xs = cls l := ⟨_, rfl⟩
  rw [← hxs] at hr HF HL HO
  have HG : Hid (∀ e w', (∃ g c, e = .returned (.slice (some ⟨g, 0, none⟩) n c) ∧ w.heap.size ≤ g ∧ Lst 107 w' g l ∧ Below w.heap.size w w') → CloneP 107 w n l e w') := Lib.hid (fun _ _ h => h)
  clear h hl hxs
  go_enter Try.func64, Try.ntmps64
  go_wp2_with (at_builtin; refine wpList_append_sees rfl (.tmp 5) (.tmp 6) 93 rfl w.heap.size 107 i0 _ 2 16 Try.underlying93 hi hz0 hz1 hz2 rfl (by decide) _ 0 [] rfl hown (w.heap.size + 1) (some ⟨g, 0, none⟩) n c xs rfl HL.out (by have := hr.out; rw [World.size_alloc] at this; exact this) HO.out (by unfold maxLen; omega) (by omega) (by simp) ?_; intro v' w4 h1 h2 h3; rw [Nat.zero_add, List.nil_append] at h1; have hfin := HF.out w4 v' h1 h2 (by rw [World.size_alloc] at h3; exact h3); obtain ⟨g', c', rfl, hg', hl', hb'⟩ := hfin; have hfin := Lib.hid (HG.out _ w4 ⟨g', c', rfl, hg', hl', hb'⟩); clear h1 h2 h3 hg' hl' hb')
  go_ret
  exact hfin.out
theorem copy_non (v : Value) (w : World) (h : Non w v) : Calls Try.prog 45 #[v] w fun e w' => e = .returned (.pointer none) ∧ w = w' := by
  have h1 := Lib.hid (there_non v w h)
  obtain ⟨pv, rfl⟩ := h.ptr
  clear h
  go_enter Try.func45, Try.ntmps45
  go_wp2_with fail
  refine h1.out.mono ?_
  rintro e w1 ⟨rfl, rfl⟩
  go_wp2_with fail
  go_ret
  exact ⟨rfl, rfl⟩
def CopyP (w : World) (l : Cs) (e : Ending) (w' : World) : Prop := ∃ b g c, e = .returned (bx b) ∧ w.heap.size ≤ b ∧ w.heap.size ≤ g ∧ Rep w' b g c l ∧ Below w.heap.size w w'
theorem copy_rep (b g c : Nat) (l : Cs) (w : World) (h : Rep w b g c l) (hn : l.length ≤ 1024) : Calls Try.prog 45 #[bx b] w (CopyP w l) := by
  have hc := h.cel
  have h1 := Lib.hid (there_at b _ _ _ w hc)
  have h2 := Lib.hid (clone_any g l.length c l w rfl hn h.row)
  have HF : Hid (∀ w1 g1 c1, w.heap.size ≤ g1 → Lst 107 w1 g1 l → Below w.heap.size w w1 → CopyP w l (.returned (bx w1.heap.size)) (w1.alloc (.cells #[.slice (some ⟨g1, 0, none⟩) l.length c1] 95))) := Lib.hid (fun w1 g1 c1 a1 a2 a3 =>
    ⟨_, g1, c1, rfl, a3.size, a1, ⟨Row.new w1 95 [.slice (some ⟨g1, 0, none⟩) l.length c1], a2.below (below1 _ _)⟩, a3.alloc a3.size _⟩)
  obtain ⟨n, hln⟩ : ∃ n, n = l.length := ⟨_, rfl⟩
  rw [← hln] at hc h2 HF
  clear h hn hln
  go_enter Try.func45, Try.ntmps45
  go_wp2_with fail
  refine h1.out.mono ?_
  rintro e w1 ⟨rfl, rfl⟩
  go_wp2_with fail
  refine h2.out.mono ?_
  rintro e w1 ⟨g1, c1, rfl, a1, a2, a3⟩
  have hfin := Lib.hid (HF.out w1 g1 c1 a1 a2 a3)
  clear a1 a2 a3 HF
  go_wp2_with fail
  go_ret
  exact hfin.out
end Go.Proofs.Ytodbaahnmmfgiaa.Ce

namespace Go.Proofs.Ytodbaahnmmfgiaa.Ce
open Go.RowKit Go.Shelf
attribute [local go_sem] Oper.semAt_some

/- THE WORDS OF ALL CELLS; THE NUMBERS THAT ARE NOT ZERO, EACH WITH ITS PLACE. -/
theorem own_row {W : World} {base g k : Nat} {e : TypeId} {xs : List Value} (h : W.ownsRow base e 1 (.slice (some ⟨g, 0, none⟩) k k) k xs) : Row W g e xs := by
  obtain ⟨_, ⟨hv, _⟩ | ⟨g', c', cur, hv, _, hh, _, _, hs, ht⟩⟩ := h
  · cases hv
  · simp only [Value.slice.injEq, Option.some.injEq, Addr.mk.injEq, and_true, true_and] at hv
    obtain ⟨rfl, rfl⟩ := hv
    rw [List.take_of_length_le (by simp [hs])] at ht
    show W.heap[g]? = _
    rw [hh, ← ht]
def wds (l : List Nat) : List Value := l.map fun n : Nat => .int .u64 (n : Int)
theorem wds_len (l : List Nat) : (wds l).length = l.length := by simp [wds]
theorem wds_get (l : List Nat) {i : Nat} (h : i < l.length) : (wds l)[i]? = some (.int .u64 (l[i] : Int)) := by simp [wds, h]
theorem word_info : (Try.prog.info? 90).map (fun i => (i.zero, i.size, i.bytes)) = some (some (.int .u64 0), 1, 8) := by kernel_rfl
def wordsOf (l : Cs) : List Nat := l.map Prod.fst
theorem wordsOf_len (l : Cs) : (wordsOf l).length = l.length := by simp [wordsOf]
theorem words_step {l : Cs} {k : Nat} (h : k < l.length) : wds ((wordsOf l).take (k + 1)) = wds ((wordsOf l).take k) ++ [.int .u64 (l[k].1 : Int)] := by
  rw [List.take_succ_eq_append_getElem (by rw [wordsOf_len]; exact h), wds, List.map_append]
  simp [wds, wordsOf]
set_option maxHeartbeats 1000000 in
theorem words_any (g n c : Nat) (l : Cs) (w : World) (hl : l.length = n) (hn : n ≤ 1024) (h : Lst 107 w g l) :
    Calls Try.prog 77 #[.slice (some ⟨g, 0, none⟩) n c] w fun e w' => e = .returned (.slice (some ⟨w.heap.size, 0, none⟩) n n) ∧ Row w' w.heap.size 90 (wds (wordsOf l)) ∧ Below w.heap.size w w' := by
  obtain ⟨i0, hi, hz0, hz1, hz2⟩ := info_parts word_info
  have hmk : ∀ W : World, (Instr.makeSlice 120 (.int .i64 0) (.int .i64 (n : Int))).run Try.prog W = .ok (.slice (some ⟨W.heap.size, 0, none⟩) 0 n) (W.alloc (.cells (List.replicate n (.int .u64 0)).toArray 90)) := fun W =>
    make_one (P := Try.prog) Try.underlying120 hi hz0 hz1 rfl 0 n (Nat.zero_le _) (by rw [hz2]; omega) (by omega) W
  have HC : Hid (∀ k (hk : k < n) V, Below w.heap.size w V → ∃ (x : Nat) (y : Int), V.cell? ⟨g, k * 2, none⟩ = some (.int .u64 (x : Int)) ∧ V.cell? ⟨g, k * 2 + 1, none⟩ = some (.int .i64 y) ∧ wds ((wordsOf l).take (k + 1)) = wds ((wordsOf l).take k) ++ [.int .u64 (x : Int)]) := Lib.hid (fun k hk V hb =>
    ⟨l[k].1, l[k].2, (h.below hb).c0 _, (h.below hb).c1 _, words_step _⟩)
  have HEND : Hid (wds ((wordsOf l).take n) = wds (wordsOf l)) := Lib.hid (by rw [List.take_of_length_le (by rw [wordsOf_len, hl]; exact Nat.le_refl _)])
  have HST : Hid ((w.alloc (.cells (List.replicate n (.int .u64 0)).toArray 90)).ownsRow w.heap.size 90 1 (.slice (some ⟨w.heap.size, 0, none⟩) 0 n) 0 (wds ((wordsOf l).take 0))) := Lib.hid (World.ownsRow_made w _ n (Nat.le_refl _) (by unfold maxLen; omega) (by simp))
  obtain ⟨zs, hzs⟩ : ∃ zs, zs = (List.replicate n (Value.int .u64 0)).toArray := ⟨_, rfl⟩
  rw [← hzs] at hmk HST
  clear h hl hzs
  go_enter Try.func77, Try.ntmps77
  go_wp2_with fail
  clear hmk
  go_loopw [3, 11] (fun v i wr => ∃ k : Nat, k ≤ n ∧ i = .int .i64 k ∧ v = .slice (some ⟨w.heap.size, 0, none⟩) k n ∧ wr.ownsRow w.heap.size 90 1 v k (wds ((wordsOf l).take k)) ∧ Below w.heap.size w wr ∧ w.heap.size < wr.heap.size) (fun _ i _ => n - (intOf i).toNat)
  case atStart => exact ⟨0, Nat.zero_le _, rfl, rfl, HST.out, below1 _ _, by simp⟩
  case round =>
    obtain ⟨k, hk, rfl, rfl, hown, hB, hws⟩ := hrel
    by_cases hlt : k < n
    · obtain ⟨x, y, c0, c1, hstep⟩ := HC.out k hlt wr hB
      have i1 : decide ((k : Int) < (n : Int)) = true := decide_eq_true (by omega)
      have i2 : (0 : Int) ≤ (k : Int) := by omega
      have i3 : (k : Int) < (n : Int) := by omega
      have hnext := Lib.hid hstep
      have hown1 := (hown.alloc (.cells #[.int .u64 (x : Int), .int .i64 y] 107)).alloc (.cells #[.int .u64 (x : Int)] 90)
      have hB1 := Lib.hid (below0 hB (below2 wr (.cells #[.int .u64 (x : Int), .int .i64 y] 107) (.cells #[.int .u64 (x : Int)] 90)))
      clear hstep
      go_wp2_with (at_builtin; refine wpList_append_fits _ rfl (.tmp 15) (.tmp 18) 120 rfl w.heap.size 90 i0 1 Try.underlying120 hi hz1 w.heap.size k n _ rfl hown1 ⟨wr.heap.size + 1, 0, none⟩ 1 1 [.int .u64 (x : Int)] rfl rfl (fun j u hu => by rw [add_plain, Nat.zero_add]; exact (cell_new_at _ _ _ _ (by simp)).trans (by simpa using hu)) (by simp [Value.oneCell']) (by omega) ?_; intro w4 hown4 hg4)
      go_roundw
      case rel =>
        refine ⟨k + 1, by omega, by go_num, rfl, by rw [hnext.out]; exact hown4, hB1.out.grown hg4 ?_ ?_, ?_⟩
        · simp; have := hB.size; omega
        · intro r e; cases e; exact Nat.le_refl _
        · have := hg4.size; simp at this; omega
      case measure => simp [intOf]; omega
    · obtain rfl : k = n := by omega
      go_wp2
      go_ret
      rw [HEND.out] at hown
      exact ⟨rfl, own_row hown, hB⟩

/-- where words come from: nowhere, or a block -/
def Src (w : World) (A : Option Addr) (l : List Nat) : Prop := (A = none ∧ l = []) ∨ ∃ g, A = some ⟨g, 0, none⟩ ∧ Row w g 90 (wds l)
theorem Src.same {w w' : World} {A : Option Addr} {l : List Nat} (h : Src w A l) (hk : ∀ k, A = some ⟨k, 0, none⟩ → w'.heap[k]? = w.heap[k]?) : Src w' A l := by
  rcases h with h | ⟨g, e, h⟩
  · exact .inl h
  · exact .inr ⟨g, e, h.same (hk g e)⟩
theorem Src.below {w w' : World} {A : Option Addr} {l : List Nat} (h : Src w A l) (hb : Below w.heap.size w w') : Src w' A l := by
  rcases h with h | ⟨g, e, h⟩
  · exact .inl h
  · exact .inr ⟨g, e, h.below hb⟩
theorem Src.lt {w : World} {A : Option Addr} {l : List Nat} (h : Src w A l) {k : Nat} (e : A = some ⟨k, 0, none⟩) : k < w.heap.size := by
  rcases h with ⟨h, _⟩ | ⟨g, e', h⟩
  · rw [h] at e; cases e
  · rw [e'] at e
    simp only [Option.some.injEq, Addr.mk.injEq, and_true] at e
    rw [← e]; exact h.lt
theorem Src.word {w : World} {A : Option Addr} {l : List Nat} (h : Src w A l) {k : Nat} (hk : k < l.length) : ∃ g, A = some ⟨g, 0, none⟩ ∧ w.cell? ⟨g, k, none⟩ = some (.int .u64 (l[k] : Int)) := by
  rcases h with ⟨_, rfl⟩ | ⟨g, e, h⟩
  · simp at hk
  · exact ⟨g, e, by rw [h.cell k]; exact wds_get _ hk⟩

/-! those that are not zero -/
def nzAt (l : List Nat) (i : Nat) : List (Nat × Nat) := if l.getD i 0 = 0 then [] else [(i, l.getD i 0)]
def nzTo (l : List Nat) : Nat → List (Nat × Nat)
  | 0 => []
  | i + 1 => nzTo l i ++ nzAt l i
def nz (l : List Nat) : List (Nat × Nat) := nzTo l l.length
theorem nzTo_more (l : List Nat) (i : Nat) : ∀ d, ∃ r, nzTo l (i + d) = nzTo l i ++ r
  | 0 => ⟨[], by simp⟩
  | d + 1 => by
    obtain ⟨r, h⟩ := nzTo_more l i d
    exact ⟨r ++ nzAt l (i + d), by rw [show i + (d + 1) = (i + d) + 1 by omega, nzTo, h, List.append_assoc]⟩
theorem nz_from (l : List Nat) {i : Nat} (h : i ≤ l.length) : ∃ r, nz l = nzTo l i ++ r := by
  obtain ⟨r, e⟩ := nzTo_more l i (l.length - i)
  exact ⟨r, by unfold nz; rw [← e, show i + (l.length - i) = l.length by omega]⟩
theorem nzTo_len (l : List Nat) : ∀ i, (nzTo l i).length ≤ i
  | 0 => Nat.le_refl _
  | i + 1 => by
    have h1 := nzTo_len l i
    have h2 : (nzAt l i).length ≤ 1 := by
      unfold nzAt
      split <;> simp
    rw [nzTo, List.length_append]
    omega
theorem nz_skip {l : List Nat} {k : Nat} (h : k < l.length) (h0 : l[k] = 0) : nzTo l (k + 1) = nzTo l k := by
  rw [nzTo, nzAt, if_pos (by simpa [h] using h0), List.append_nil]
theorem nz_take {l : List Nat} {k : Nat} (h : k < l.length) (h0 : l[k] ≠ 0) : nzTo l (k + 1) = nzTo l k ++ [(k, l[k])] := by
  rw [nzTo, nzAt, if_neg (by simpa [h] using h0)]
  simp [h]
def encA (x : Nat × Nat) : Array Value := #[.int .i64 (x.1 : Int), .int .u64 (x.2 : Int)]
def preA (L : List (Nat × Nat)) (pre : List (Nat × Nat)) (x : Nat × Nat) (_ : World) : Prop := ∃ post, L = pre ++ x :: post
def allA (L : List (Nat × Nat)) (xs : List (Nat × Nat)) : Prop := xs = L
def someA (L : List (Nat × Nat)) (xs : List (Nat × Nat)) : Prop := ∃ post, L = xs ++ post
theorem nz_pre {l : List Nat} {k : Nat} (h : k < l.length) (h0 : l[k] ≠ 0) (w : World) : preA (nz l) (nzTo l k) (k, l[k]) w := by
  obtain ⟨r, e⟩ := nz_from l (i := k + 1) (by omega)
  exact ⟨r, by rw [e, nz_take h h0]; simp⟩
theorem nz_some {l : List Nat} {k : Nat} (h : k ≤ l.length) : someA (nz l) (nzTo l k) := nz_from l h
def privA (bw : Nat) (A : Option Addr) (k : Nat) : Prop := k = bw ∨ A = some ⟨k, 0, none⟩
theorem notz_any (A : Option Addr) (n c : Nat) (w : World) : Calls Try.prog 79 #[.slice A n c] w fun e w' =>
    e = .returned (.func (.func 83) #[] #[bx w.heap.size]) ∧ w.alloc (.cells #[.slice A n c] 120) = w' := by
  go_enter Try.func79, Try.ntmps79
  go_wp2
  go_ret
  exact ⟨rfl, rfl⟩
set_option maxHeartbeats 2000000 in
theorem notz_it (l : List Nat) (A : Option Addr) (c bw : Nat) (w0 : World) (hl : l.length ≤ 1024) (hcw : w0.cell? ⟨bw, 0, none⟩ = some (.slice A l.length c)) (hsrc : Src w0 A l) :
    It Try.prog 83 #[bx bw] encA (fun _ _ => False) (preA (nz l)) (privA bw A) (allA (nz l)) (someA (nz l)) w0 := by
  intro l0 J Jx W hpW hsW hJ hJx hY h0
  have hWc : W.cell? ⟨bw, 0, none⟩ = some (.slice A l.length c) := (World.cell?_of_block (hpW bw (.inl rfl))).trans hcw
  have hWs : Src W A l := hsrc.same fun k hk => hpW k (.inr hk)
  refine (callsIn_wide (n := 1)).1 ?_
  have HL := Lib.hid hl
  obtain ⟨n, hn⟩ : ∃ n, n = l.length := ⟨_, rfl⟩
  rw [← hn] at hWc HL
  have HN := Lib.hid hn
  clear hn hcw hsrc hpW hl
  refine callsIn_of_wp Try.func83 rfl trivial ?_ rfl
  simp only [Try.ntmps83, List.size_toArray, List.length_cons, List.length_nil, Nat.reduceAdd, Nat.reduceSub, Array.replicate_succ, Array.replicate_zero, List.push_toArray, List.append_toArray, List.nil_append, List.cons_append]
  gi_wp2_with fail
  gi_loopw [7] (fun t wr => ∃ (k : Nat) (pre : List (Nat × Nat)) (O : Nat → Prop), t = .int .i64 k ∧ k ≤ n ∧ Hid (pre = nzTo l k) ∧ J pre O wr ∧ W.heap.size ≤ wr.heap.size ∧ (∀ b, O b → W.heap.size ≤ b ∧ b < wr.heap.size) ∧ Src wr A l) (fun t _ => n - (intOf t).toNat)
  case atStart => exact ⟨0, [], fun _ => False, rfl, by omega, rfl, h0, Nat.le_refl _, fun b (h : False) => h.elim, hWs⟩
  case round =>
    obtain ⟨k, pre, O, rfl, hk, Hpre, hj, hws, hO, hsr⟩ := hrel
    by_cases hlt : k < n
    · have hnb : n ≤ 1024 := HL.out
      have hkl : k < l.length := by rw [← HN.out]; exact hlt
      obtain ⟨g, rfl, hc⟩ := hsr.word hkl
      have i0 : (0 : Int) ≤ (k : Int) := by omega
      have i1 : (k : Int) < (n : Int) := by omega
      have i2 : decide ((k : Int) < (n : Int)) = true := decide_eq_true i1
      by_cases hz : l[k] = 0
      · rw [hz] at hc
        have HP : Hid (pre = nzTo l (k + 1)) := Lib.hid (by rw [Hpre.out, nz_skip hkl hz])
        clear hz Hpre
        gi_wp2_with fail
        refine ⟨(fun _ h => by cases h), ?_⟩
        gi_wp2_with fail
        go_roundw
        case rel => exact ⟨k + 1, pre, O, by go_num, by omega, HP, hj, hws, hO, hsr⟩
        case measure => simp [intOf]; omega
      · have HT := Lib.hid (nz_take hkl hz)
        have HPP := Lib.hid (nz_pre hkl hz)
        obtain ⟨x, hx⟩ : ∃ x, x = l[k] := ⟨_, rfl⟩
        rw [← hx] at hz hc HT HPP
        have hne : ((x : Int) != 0) = true := by simp; omega
        obtain ⟨fn, tmps, assign, body, hy, hR⟩ := hY pre (k, x) O wr hws hO hj (by rw [Hpre.out]; exact HPP.out _) (fun b (h : False) => h.elim)
        simp only [encA] at hy
        clear hx hz HPP
        gi_wp2_with fail
        refine hR.mono ?_
        rintro e W' ⟨hk', (⟨rfl, hj'⟩ | ⟨rfl, hjx⟩)⟩
        · have hsr4 : Src W' (some ⟨g, 0, none⟩) l := hsr.same fun k hk => hk'.same k (hsr.lt hk) (.inl (.inr hk))
          have hO4 := nextO_bound (M := fun _ => False) hO hws hk'.size
          have hws4 := Nat.le_trans hws hk'.size
          clear hsr hO hws hk'
          gi_wp2
          go_roundw
          case rel => exact ⟨k + 1, _, _, by go_num, by omega, Lib.hid (by rw [Hpre.out, HT.out]), hj', hws4, hO4, hsr4⟩
          case measure => simp [intOf]; omega
        · gi_wp2
          refine bodyPost_ret (results_none rfl _ _ _) rfl ?_
          refine itEnd.part ?_ hjx
          rw [Hpre.out, ← HT.out]
          exact nz_some (by rw [← HN.out]; omega)
    · obtain rfl : k = n := by omega
      gi_wp2
      go_end0
      exact itEnd.all (show pre = _ by rw [Hpre.out, HN.out]; rfl) hj
end Go.Proofs.Ytodbaahnmmfgiaa.Ce

namespace Go.Proofs.Ytodbaahnmmfgiaa.Ce
open Go.RowKit Go.Shelf
attribute [local go_sem] Oper.semAt_some

/- ALL: THE CELLS THAT ARE NOT ZERO, AS THEY WERE. -/
section
variable (l0 : Nat) (J Jx : List (Nat × Nat) → (Nat → Prop) → World → Prop) (W : World)
/-- what holds between two rounds of the inner loop -/
def aI (pre : List (Nat × Nat)) (O' : Nat → Prop) (V : World) : Prop :=
  ∃ O, J pre O V ∧ (∀ k, O k → O' k) ∧ (∀ k, O k → W.heap.size + 4 ≤ k) ∧ V.cell? ⟨W.heap.size, 0, none⟩ = some (.func (.yield l0) #[] #[])
/-- what holds where a round has said no more -/
def aX (c' : Code) (pre' : List (Nat × Nat)) (O' : Nat → Prop) (V : World) : Prop :=
  c' = .exit 0 ∧ ∃ O, (∀ k, O k → O' k) ∧ (∀ k, O k → W.heap.size + 4 ≤ k) ∧ Jx pre' O V
end

set_option maxHeartbeats 2000000 in
theorem all1_it (l : List Nat) (A : Option Addr) (c bw : Nat) (w0 : World) (hl : l.length ≤ 1024) (hcw : w0.cell? ⟨bw, 0, none⟩ = some (.slice A l.length c)) (hsrc : Src w0 A l) :
    It Try.prog 78 #[.pointer (some ⟨bw, 0, none⟩)] encA (fun _ _ => False) (preA (nz l)) (privA bw A) (allA (nz l)) (someA (nz l)) w0 := by
  intro l0 J Jx W hpW hsW hJ hJx hY h0
  have hWc : W.cell? ⟨bw, 0, none⟩ = some (.slice A l.length c) := (World.cell?_of_block (hpW bw (.inl rfl))).trans hcw
  have hWs : Src W A l := hsrc.same fun k hk => hpW k (.inr hk)
  have hpl : ∀ k, privA bw A k → k < W.heap.size := by
    rintro k (rfl | h)
    · exact lt_of_cell hWc
    · exact hWs.lt h
  have hac : (W.alloc (.cells #[.func (.yield l0) #[] #[]] 122)).cell? ⟨bw, 0, none⟩ = some (.slice A l.length c) := (World.cell?_alloc_lt _ _ _ (lt_of_cell hWc)).trans hWc
  refine calls_marks Try.func78 rfl ?_
  simp only [Try.ntmps78, List.size_toArray, List.length_cons, List.length_nil, Nat.reduceAdd, Nat.reduceSub, Array.replicate_succ, Array.replicate_zero, List.push_toArray, List.append_toArray, List.nil_append, List.cons_append]
  go_wp2_with fail
  refine wp_scope_jump 0 fun R hR hJm => ?_
  go_wp2_with fail
  go_step3
  go_wp2_with fail
  refine (notz_any _ _ _ _).mono ?_
  rintro e w2' ⟨rfl, rfl⟩
  obtain ⟨w2, hw2⟩ : ∃ w2, w2 = (W.alloc (.cells #[.func (.yield l0) #[] #[]] 122)).alloc (.cells #[.slice A l.length c] 120) := ⟨_, rfl⟩
  have hsz2 : w2.heap.size = W.heap.size + 2 := by rw [hw2]; simp
  have hb2 : Below W.heap.size W w2 := by rw [hw2]; exact below2 _ _ _
  have hcy : w2.cell? ⟨W.heap.size, 0, none⟩ = some (.func (.yield l0) #[] #[]) := by
    rw [hw2, World.cell?_alloc_lt _ _ _ (by simp)]
    exact cell_alloc_new _ _ _ _
  have hcs2 : w2.cell? ⟨W.heap.size + 1, 0, none⟩ = some (.slice A l.length c) := by
    rw [hw2]
    exact cell_new_at _ _ _ _ (by simp)
  have hj2 : J [] (fun _ => False) w2 := hJ.below h0 hb2
  have hit := notz_it l A c (W.heap.size + 1) w2 hl hcs2 (hWs.below hb2)
  have hpl2 : ∀ k, (k = W.heap.size + 1 ∨ A = some ⟨k, 0, none⟩) → k < w2.heap.size ∧ (k = W.heap.size + 1 ∨ privA bw A k) := by
    rintro k (rfl | h)
    · exact ⟨by omega, .inl rfl⟩
    · have := hpl k (.inr h); exact ⟨by omega, .inr (.inr h)⟩
  rw [← hw2]
  clear hw2 hac
  go_wp2_with fail
  refine wpIn_wide.1 (wpIn_range_it (gf := 83) (lb := #[.pointer (some ⟨W.heap.size + 1, 0, none⟩)]) rfl (enters_of Try.func83 (by kernel_rfl) rfl) hit (fun k hk => (hpl2 k hk).1) (fun _ => rfl) (fun _ _ _ _ _ h => h)
    (aI l0 J W) (aX Jx W) ?hI ?hIx ?h0
    (fun x => { tmps := #[.func (.yield l0) #[] #[], .pointer (some ⟨bw, 0, none⟩), .pointer (some ⟨W.heap.size, 0, none⟩), .int .i64 (x.1 : Int), .int .u64 (x.2 : Int), .slice A l.length c, .func (.func 83) #[] #[.pointer (some ⟨W.heap.size + 1, 0, none⟩)], .int .i64 (x.1 : Int), .int .u64 (x.2 : Int), undef, undef, undef, undef, undef], defers := [] }) ?assign ?body ?done ?stop)
  case assign =>
    intro l' x W' K hK
    simp only [encA]
    gi_wp2
    exact hK
  case h0 => exact ⟨fun _ => False, hj2, fun _ h => h.elim, fun _ h => h.elim, hcy⟩
  case hI =>
    rintro s' O' V V' row ⟨O, h2, h3, h4, h6⟩ hg hr
    have hne : ∀ k, k < w2.heap.size → some k ≠ row := fun k hk e => by have := (hr k e.symm).1; omega
    exact ⟨O, hJ _ _ _ _ row h2 hg (fun r e => ⟨by have := (hr r e).1; omega, fun h => (hr r e).2 (h3 r h)⟩), h3, h4, (World.cell?_of_block (hg.block _ (lt_of_cell h6) (hne W.heap.size (by omega)))).trans h6⟩
  case hIx =>
    rintro c' s' O' V V' row ⟨e0, O, h3, h4, hjx⟩ hg hr
    have hr' : ∀ r, row = some r → W.heap.size ≤ r ∧ ¬ O r := fun r e => ⟨by have := (hr r e).1; omega, fun h => (hr r e).2 (h3 r h)⟩
    exact ⟨e0, O, h3, h4, hJx _ _ _ _ row hjx hg hr'⟩
  case body =>
    rintro l' pre x O' V hVs hO' ⟨O, hj, hOO, hO5, hcy⟩ hpk _
    obtain ⟨fn, tmps, assign, body, hy, hR⟩ := hY pre x O V (by omega) (fun k h => by have := hO5 k h; have := hO' k (hOO k h); omega) hj hpk (fun b (h : False) => h.elim)
    have Hs2 := Lib.hid hsz2
    simp only [encA] at hy
    clear hj2 hit hsz2 hcs2 hWc hcw hsrc hpk
    gi_wp2
    refine ⟨rfl, ?_⟩
    refine hR.mono ?_
    have keeps : ∀ W', Keeps (privA bw A) W.heap.size O (fun _ => False) V W' → Keeps (fun k => k = W.heap.size + 1 ∨ A = some ⟨k, 0, none⟩) w2.heap.size O' (fun _ => False) V W' := fun W' hk => by
      have := Hs2.out
      refine ⟨hk.size, fun k hkl hp => ?_⟩
      rcases hp with h | ⟨h, h2, _⟩
      · rcases (hpl2 k h).2 with rfl | h3
        · exact hk.same _ hkl (.inr ⟨by omega, fun ho => by have := hO5 _ ho; omega, fun h => h⟩)
        · exact hk.same k hkl (.inl h3)
      · exact hk.same k hkl (.inr ⟨by omega, fun ho => h2 (hOO k ho), fun h => h⟩)
    have sub : ∀ W', V.heap.size ≤ W'.heap.size → (∀ k, nextO O (fun _ => False) V W' k → nextO O' (fun _ => False) V W' k) ∧ ∀ k, nextO O (fun _ => False) V W' k → W.heap.size + 4 ≤ k := fun W' hsW' => by
      have := Hs2.out
      refine ⟨fun k h => ?_, fun k h => ?_⟩
      · rcases h with h | h | h
        · exact .inl (hOO k h)
        · exact h.elim
        · exact .inr (.inr h)
      · rcases h with h | h | h
        · exact hO5 k h
        · exact h.elim
        · omega
    have Hkeeps := Lib.hid keeps
    have Hsub := Lib.hid sub
    clear keeps sub
    rintro e W' ⟨hk, (⟨rfl, hj'⟩ | ⟨rfl, hjx⟩)⟩
    · obtain ⟨s1, s2⟩ := Hsub.out W' hk.size
      have hfin : Hid (Keeps (fun k => k = W.heap.size + 1 ∨ A = some ⟨k, 0, none⟩) w2.heap.size O' (fun _ => False) V W' ∧ aI l0 J W (pre ++ [x]) (nextO O' (fun _ => False) V W') W') :=
        Lib.hid ⟨Hkeeps.out W' hk, _, hj', s1, s2, (World.cell?_of_block (hk.same W.heap.size (lt_of_cell hcy) (.inr ⟨Nat.le_refl _, fun h => by have := hO5 _ h; omega, fun h => h⟩))).trans hcy⟩
      clear s1 s2 hj' hk
      gi_wp2
      exact hfin.out
    · obtain ⟨s1, s2⟩ := Hsub.out W' hk.size
      have hfin : Hid (Keeps (fun k => k = W.heap.size + 1 ∨ A = some ⟨k, 0, none⟩) w2.heap.size O' (fun _ => False) V W' ∧ aX Jx W (.exit 0) (pre ++ [x]) (nextO O' (fun _ => False) V W') W') :=
        Lib.hid ⟨Hkeeps.out W' hk, rfl, _, s1, s2, hjx⟩
      clear s1 s2 hjx hk
      gi_wp2
      exact hfin.out
  case done =>
    rintro xs O' V hall ⟨O, hj, hOO, hO5, _⟩ hD
    have Hall := Lib.hid hall
    have hjD : J xs O (V.putObj w2.heap.size (.deferred none)) := hJ _ _ _ _ _ hj (putObj_grown V _ _) (fun r e => by cases e; exact ⟨by omega, fun h => by have := hO5 _ h; omega⟩)
    clear hall
    go_wp2
    refine hR.out _ _ _ _ (by simp) ?_
    refine ⟨by simp, .inl ⟨_, _, rfl, run_takeDeferred hD, ?_⟩⟩
    exact ⟨_, results_none rfl _ _ _, itEnd.all Hall.out hjD⟩
  case stop =>
    rintro c' pre' O' V hsp ⟨rfl, O, hOO, hO5, hjx⟩ hD
    have hOD : ∀ r, some w2.heap.size = some r → W.heap.size ≤ r ∧ ¬ O r := fun r e => by cases e; exact ⟨by omega, fun h => by have := hO5 _ h; omega⟩
    have hend : Hid (itEnd (allA (nz l)) (someA (nz l)) J Jx (.returned (.tuple #[])) (V.putObj w2.heap.size (.deferred none))) := Lib.hid (itEnd.part hsp (hJx _ _ _ _ _ hjx (putObj_grown V _ _) hOD))
    clear hsp hjx
    refine wpIn_wide.2 ?_
    go_wp2
    refine hR.out _ _ _ _ (by simp) ?_
    refine ⟨by simp, .inl ⟨_, _, rfl, run_takeDeferred hD, ?_⟩⟩
    exact ⟨_, results_none rfl _ _ _, hend.out⟩

def AllP (w : World) (ws : List Nat) (e : Ending) (w' : World) : Prop :=
  ∃ A c bw, e = .returned (.func (.func 78) #[] #[.pointer (some ⟨bw, 0, none⟩)]) ∧ w.heap.size ≤ bw ∧ (∀ g, A = some ⟨g, 0, none⟩ → w.heap.size ≤ g) ∧
    w'.cell? ⟨bw, 0, none⟩ = some (.slice A ws.length c) ∧ Src w' A ws ∧ Below w.heap.size w w'
theorem allF_non (v : Value) (w : World) (h : Non w v) : Calls Try.prog 65 #[v] w (AllP w []) := by
  have h1 := Lib.hid (there_non v _ (h.below (below1 w (.cells #[.slice none 0 0] 120))))
  obtain ⟨pv, rfl⟩ := h.ptr
  clear h
  go_enter Try.func65, Try.ntmps65
  go_wp2_with fail
  refine h1.out.mono ?_
  rintro e w1 ⟨rfl, rfl⟩
  go_wp2_with fail
  go_ret
  exact ⟨none, 0, w.heap.size, rfl, Nat.le_refl _, fun g h => by (cases h), cell_alloc_new _ _ _ _, .inl ⟨rfl, rfl⟩, below1 _ _⟩
theorem allF_rep (b g c : Nat) (l : Cs) (w : World) (h : Rep w b g c l) (hn : l.length ≤ 1024) : Calls Try.prog 65 #[bx b] w (AllP w (wordsOf l)) := by
  have hb1 := below1 w (.cells #[.slice none 0 0] 120)
  have hr := h.below hb1
  have hc := hr.cel
  have h1 := Lib.hid (there_at b _ _ _ _ hc)
  have h2 := Lib.hid (show Calls Try.prog 77 #[.slice (some ⟨g, 0, none⟩) l.length c] (w.alloc (.cells #[.slice none 0 0] 120)) (fun e w' => e = .returned (.slice (some ⟨w.heap.size + 1, 0, none⟩) l.length l.length) ∧ (∃ u, w'.cell? ⟨w.heap.size, 0, none⟩ = some u) ∧ w'.frozen? ⟨w.heap.size, 0, none⟩ = false ∧
      AllP w (wordsOf l) (.returned (.func (.func 78) #[] #[bx w.heap.size])) (w'.setCell ⟨w.heap.size, 0, none⟩ (.slice (some ⟨w.heap.size + 1, 0, none⟩) l.length l.length))) from by
    refine (words_any g l.length c l _ rfl hn hr.row).mono ?_
    rintro e w' ⟨rfl, hrow, hb⟩
    rw [World.size_alloc] at hrow
    have hbx := (Row.new w 120 [.slice none 0 0]).below hb
    refine ⟨by rw [World.size_alloc], ⟨_, hbx.cell 0⟩, hbx.frozen 0, some ⟨w.heap.size + 1, 0, none⟩, l.length, w.heap.size, rfl, Nat.le_refl _, fun g e => by simp at e; omega, ?_, .inr ⟨_, rfl, ?_⟩, ?_⟩
    · rw [wordsOf_len]
      exact (hbx.set 0 _).cell 0
    · exact hrow.same (heap_set (by omega))
    · exact (below0 hb1 hb).setCell (Nat.le_refl _) _)
  obtain ⟨n, hln⟩ : ∃ n, n = l.length := ⟨_, rfl⟩
  rw [← hln] at hc h2
  clear h hr hn hln hb1
  go_enter Try.func65, Try.ntmps65
  go_wp2_with fail
  refine h1.out.mono ?_
  rintro e w1 ⟨rfl, rfl⟩
  go_wp2_with fail
  refine h2.out.mono ?_
  rintro e w2 ⟨rfl, ⟨u, d1⟩, d2, hfin⟩
  have HF := Lib.hid hfin
  clear hfin h1 h2
  go_wp2_with fail
  go_ret
  exact HF.out
end Go.Proofs.Ytodbaahnmmfgiaa.Ce
