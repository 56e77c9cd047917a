import Derived.Test.YtijgkjliienjhaaCB
import Derived.Shelf.RegionOpen
import Derived.Deep.RegionHeld3
namespace Go.Proofs.Ytijgkjliienjhaa
open Go.RowKit Go.Shelf
attribute [local go_sem] Oper.semAt_some

/- LOAD, COUNT, SWAP, STORE, LEN. -/
theorem load1_any (g o x : Nat) (w : World) (hc : w.cell? ⟨g, o, none⟩ = some (.int .u64 (x : Int))) : Calls Try.prog 25 #[.pointer (some ⟨g, o, none⟩)] w fun e w' => e = .returned (.int .u64 (x : Int)) ∧ w = w' := by
  go_enter Try.func25, Try.ntmps25
  go_wp2_with fail
  go_ret
  exact ⟨rfl, rfl⟩
theorem count1_any (g o x : Nat) (w : World) (hc : w.cell? ⟨g, o + 1, none⟩ = some (.int .i64 (x : Int))) : Calls Try.prog 30 #[.pointer (some ⟨g, o, none⟩)] w fun e w' => e = .returned (.int .i64 (x : Int)) ∧ w = w' := by
  go_enter Try.func30, Try.ntmps30
  go_wp2_with fail
  go_ret
  exact ⟨rfl, rfl⟩
theorem load_non (v : Value) (z : Int) (w : World) (h : Non w v) : Calls Try.prog 9 #[v, .int .i64 z] w fun e w' => e = .returned (.tuple #[.int .u64 0, .int .i64 1]) ∧ w = w' := by
  have H := Lib.hid (asked_non_u v z (.func (.func 25) #[] #[]) w h)
  obtain ⟨pv, rfl⟩ := h.ptr
  clear h
  go_enter Try.func9, Try.ntmps9
  go_wp2_with fail
  refine H.out.mono ?_
  rintro e w1 ⟨rfl, rfl⟩
  go_wp2_with fail
  go_ret2
  exact ⟨rfl, rfl⟩
theorem load_out (b g c : Nat) (l : Cs) (z : Int) (w : World) (h : Rep w b g c l) (hz : z < 0 ∨ (l.length : Int) ≤ z) : Calls Try.prog 9 #[bx b, .int .i64 z] w fun e w' => e = .returned (.tuple #[.int .u64 0, .int .i64 4]) ∧ w = w' := by
  have H := Lib.hid (asked_out_u b g c l z (.func (.func 25) #[] #[]) w h hz)
  clear h hz
  go_enter Try.func9, Try.ntmps9
  go_wp2_with fail
  refine H.out.mono ?_
  rintro e w1 ⟨rfl, rfl⟩
  go_wp2_with fail
  go_ret2
  exact ⟨rfl, rfl⟩
theorem load_in (b g c k : Nat) (l : Cs) (w : World) (h : Rep w b g c l) (hk : k < l.length) : Calls Try.prog 9 #[bx b, .int .i64 (k : Int)] w fun e w' => e = .returned (.tuple #[.int .u64 (l[k].1 : Int), .int .i64 0]) ∧ w = w' := by
  have H := Lib.hid (asked_in_u (Q := fun w' => w = w') 25 #[] b g c k l w h hk (enters_of Try.func25 (by kernel_rfl) rfl) (load1_any g (k * 2) l[k].1 w (h.row.c0 hk)))
  obtain ⟨x, hx⟩ : ∃ x, x = l[k].1 := ⟨_, rfl⟩
  rw [← hx] at H ⊢
  clear h hk hx
  go_enter Try.func9, Try.ntmps9
  go_wp2_with fail
  refine H.out.mono ?_
  rintro e w1 ⟨rfl, rfl⟩
  go_wp2_with fail
  go_ret2
  exact ⟨rfl, rfl⟩
theorem count_non (v : Value) (z : Int) (w : World) (h : Non w v) : Calls Try.prog 11 #[v, .int .i64 z] w fun e w' => e = .returned (.tuple #[.int .i64 0, .int .i64 1]) ∧ w = w' := by
  have H := Lib.hid (asked_non_i v z (.func (.func 30) #[] #[]) w h)
  obtain ⟨pv, rfl⟩ := h.ptr
  clear h
  go_enter Try.func11, Try.ntmps11
  go_wp2_with fail
  refine H.out.mono ?_
  rintro e w1 ⟨rfl, rfl⟩
  go_wp2_with fail
  go_ret2
  exact ⟨rfl, rfl⟩
theorem count_out (b g c : Nat) (l : Cs) (z : Int) (w : World) (h : Rep w b g c l) (hz : z < 0 ∨ (l.length : Int) ≤ z) : Calls Try.prog 11 #[bx b, .int .i64 z] w fun e w' => e = .returned (.tuple #[.int .i64 0, .int .i64 4]) ∧ w = w' := by
  have H := Lib.hid (asked_out_i b g c l z (.func (.func 30) #[] #[]) w h hz)
  clear h hz
  go_enter Try.func11, Try.ntmps11
  go_wp2_with fail
  refine H.out.mono ?_
  rintro e w1 ⟨rfl, rfl⟩
  go_wp2_with fail
  go_ret2
  exact ⟨rfl, rfl⟩
theorem count_in (b g c k : Nat) (l : Cs) (w : World) (h : Rep w b g c l) (hk : k < l.length) : Calls Try.prog 11 #[bx b, .int .i64 (k : Int)] w fun e w' => e = .returned (.tuple #[.int .i64 (l[k].2 : Int), .int .i64 0]) ∧ w = w' := by
  have H := Lib.hid (asked_in_i (Q := fun w' => w = w') 30 #[] b g c k l w h hk (enters_of Try.func30 (by kernel_rfl) rfl) (count1_any g (k * 2) l[k].2 w (h.row.c1 hk)))
  obtain ⟨x, hx⟩ : ∃ x, x = l[k].2 := ⟨_, rfl⟩
  rw [← hx] at H ⊢
  clear h hk hx
  go_enter Try.func11, Try.ntmps11
  go_wp2_with fail
  refine H.out.mono ?_
  rintro e w1 ⟨rfl, rfl⟩
  go_wp2_with fail
  go_ret2
  exact ⟨rfl, rfl⟩
theorem len_non (v : Value) (w : World) (h : Non w v) : Calls Try.prog 14 #[v] w fun e w' => e = .returned (.int .i64 0) ∧ w = w' := by
  have h1 := Lib.hid (there_non v w h)
  obtain ⟨pv, rfl⟩ := h.ptr
  clear h
  go_enter Try.func14, Try.ntmps14
  go_wp2_with fail
  refine h1.out.mono ?_
  rintro e w1 ⟨rfl, rfl⟩
  go_wp2_with fail
  go_ret
  exact ⟨rfl, rfl⟩
theorem len_at (b g c : Nat) (l : Cs) (w : World) (h : Rep w b g c l) : Calls Try.prog 14 #[bx b] w fun e w' => e = .returned (.int .i64 (l.length : Int)) ∧ w = w' := by
  have hc := h.cel
  have h1 := Lib.hid (there_at b _ _ _ w hc)
  clear h
  go_enter Try.func14, Try.ntmps14
  go_wp2_with fail
  refine h1.out.mono ?_
  rintro e w1 ⟨rfl, rfl⟩
  go_wp2_with fail
  go_ret
  exact ⟨rfl, rfl⟩

/-! a cell that is swapped -/
theorem oswap_no (g o x z n : Nat) (w : World) (hc : w.cell? ⟨g, o, none⟩ = some (.int .u64 (x : Int))) (hx : x ≠ z) : Calls Try.prog 28 #[.pointer (some ⟨g, o, none⟩), .int .u64 (z : Int), .int .u64 (n : Int)] w fun e w' => e = .returned (.bool false) ∧ w = w' := by
  have hd : ((x : Int) != (z : Int)) = true := by simp; omega
  go_enter Try.func28, Try.ntmps28
  go_wp2_with fail
  go_ret
  exact ⟨rfl, rfl⟩
theorem oswap_yes (g o x n k : Nat) (w : World) (hc : w.cell? ⟨g, o, none⟩ = some (.int .u64 (x : Int))) (hf : w.frozen? ⟨g, o, none⟩ = false)
    (hc1 : (w.setCell ⟨g, o, none⟩ (.int .u64 (n : Int))).cell? ⟨g, o + 1, none⟩ = some (.int .i64 (k : Int))) (hf1 : (w.setCell ⟨g, o, none⟩ (.int .u64 (n : Int))).frozen? ⟨g, o + 1, none⟩ = false) (hk : k < 1000000) :
    Calls Try.prog 28 #[.pointer (some ⟨g, o, none⟩), .int .u64 (x : Int), .int .u64 (n : Int)] w fun e w' => e = .returned (.bool true) ∧ (w.setCell ⟨g, o, none⟩ (.int .u64 (n : Int))).setCell ⟨g, o + 1, none⟩ (.int .i64 ((k + 1 : Nat) : Int)) = w' := by
  have hd : ((x : Int) != (x : Int)) = false := by simp
  have hw : IntKind.i64.wrap ((k : Int) + 1) = ((k + 1 : Nat) : Int) := by rw [wrapI _ (by omega) (by omega)]; omega
  obtain ⟨y, hy⟩ : ∃ y, y = k + 1 := ⟨_, rfl⟩
  rw [← hy] at hw ⊢
  clear hy
  go_enter Try.func28, Try.ntmps28
  go_wp2_with fail
  go_ret
  exact ⟨rfl, rfl⟩
theorem swap_rep (b g c k n m : Nat) (l : Cs) (w : World) (h : Rep w b g c l) (hk : k < l.length) (hok : Ok m l) (hm : m < 1000000) :
    Calls Try.prog 28 #[.pointer (some ⟨g, k * 2, none⟩), .int .u64 (l[k].1 : Int), .int .u64 (n : Int)] w fun e w' => e = .returned (.bool true) ∧ Rep w' b g c (put l k n) ∧ Keep (· = g) w w' := by
  have hs := (hok.small _ (List.getElem_mem hk)).2
  have hr := h.row
  have hf := hr.frozen (k * 2)
  have hc := hr.c0 hk
  have h1 : (w.setCell ⟨g, k * 2, none⟩ (.int .u64 (n : Int))).cell? ⟨g, k * 2 + 1, none⟩ = some (.int .i64 (l[k].2 : Int)) ∧ (w.setCell ⟨g, k * 2, none⟩ (.int .u64 (n : Int))).frozen? ⟨g, k * 2 + 1, none⟩ = false := by
    have hc1 := hr.c1 hk
    obtain ⟨r, hr⟩ := hr
    have hr2 := hr.set (k * 2) (.int .u64 (n : Int))
    refine ⟨?_, hr2.frozen _⟩
    rw [hr2.cell, List.getElem?_set_ne (by omega), ← hr.cell]
    exact hc1
  refine (oswap_yes g (k * 2) l[k].1 n l[k].2 w hc hf h1.1 h1.2 (by omega)).mono ?_
  rintro e w' ⟨rfl, rfl⟩
  exact ⟨rfl, h.putn hk n, ((Keep.refl (F := (· = g)) w).set _ (.inl rfl)).set _ (.inl rfl)⟩
theorem Keep.undrew {F : Nat → Prop} {w w' : World} (h : Keep F w.drew w') : Keep F w w' := ⟨h.os, h.tape, h.output, h.size, h.block⟩
theorem Rep.drew {w : World} {b g c : Nat} {l : Cs} (h : Rep w b g c l) : Rep w.drew b g c l := h.same rfl rfl
theorem store1_any (b g c k n m p : Nat) (l : Cs) (w : World) (h : Rep w b g c l) (hk : k < l.length) (hok : Ok m l) (hm : m < 1000000) (hp : w.cell? ⟨p, 0, none⟩ = some (.int .u64 (n : Int))) :
    Calls Try.prog 31 #[.pointer (some ⟨g, k * 2, none⟩), bx p] w fun e w' => e = .returned (.bool true) ∧ Rep w' b g c (put l k n) ∧ Keep (· = g) w w' := by
  have hc := h.row.c0 hk
  have hs := Lib.hid (swap_rep b g c k n m l w.drew h.drew hk hok hm)
  obtain ⟨o, ho⟩ : ∃ o, o = k * 2 := ⟨_, rfl⟩
  obtain ⟨x, hx⟩ : ∃ x, x = l[k].1 := ⟨_, rfl⟩
  rw [← ho, ← hx] at hc hs
  rw [← ho]
  clear ho hx h hk hok
  go_enter Try.func31, Try.ntmps31
  go_wp2_with fail
  go_region_with (go_at_call 28; refine (hs.out).mono ?_; rintro e w1 ⟨rfl, hr1, hk1⟩; have hlast := Lib.hid (And.intro hr1 hk1.undrew); clear hr1 hk1)
  all_goals
    go_wp2
    go_ret
    exact ⟨rfl, hlast.out⟩
theorem swap1_yes (b g c k n m p q : Nat) (l : Cs) (w : World) (h : Rep w b g c l) (hk : k < l.length) (hok : Ok m l) (hm : m < 1000000) (hp : w.cell? ⟨p, 0, none⟩ = some (.int .u64 (l[k].1 : Int))) (hq : w.cell? ⟨q, 0, none⟩ = some (.int .u64 (n : Int))) :
    Calls Try.prog 27 #[.pointer (some ⟨g, k * 2, none⟩), bx p, bx q] w fun e w' => e = .returned (.bool true) ∧ Rep w' b g c (put l k n) ∧ Keep (· = g) w w' := by
  have hs := Lib.hid (swap_rep b g c k n m l w h hk hok hm)
  obtain ⟨o, ho⟩ : ∃ o, o = k * 2 := ⟨_, rfl⟩
  obtain ⟨x, hx⟩ : ∃ x, x = l[k].1 := ⟨_, rfl⟩
  rw [← ho, ← hx] at hs
  rw [← hx] at hp
  rw [← ho]
  clear ho hx h hk hok
  go_enter Try.func27, Try.ntmps27
  go_wp2_with fail
  refine hs.out.mono ?_
  rintro e w1 ⟨rfl, hr1, hk1⟩
  have hlast := Lib.hid (And.intro hr1 hk1)
  clear hr1 hk1
  go_wp2
  go_ret
  exact ⟨rfl, hlast.out⟩
theorem swap1_no (g o x z n p q : Nat) (w : World) (hc : w.cell? ⟨g, o, none⟩ = some (.int .u64 (x : Int))) (hx : x ≠ z) (hp : w.cell? ⟨p, 0, none⟩ = some (.int .u64 (z : Int))) (hq : w.cell? ⟨q, 0, none⟩ = some (.int .u64 (n : Int))) :
    Calls Try.prog 27 #[.pointer (some ⟨g, o, none⟩), bx p, bx q] w fun e w' => e = .returned (.bool false) ∧ w = w' := by
  have hs := Lib.hid (oswap_no g o x z n w hc hx)
  clear hx hc
  go_enter Try.func27, Try.ntmps27
  go_wp2_with fail
  refine hs.out.mono ?_
  rintro e w1 ⟨rfl, rfl⟩
  go_wp2
  go_ret
  exact ⟨rfl, rfl⟩
end Go.Proofs.Ytijgkjliienjhaa
