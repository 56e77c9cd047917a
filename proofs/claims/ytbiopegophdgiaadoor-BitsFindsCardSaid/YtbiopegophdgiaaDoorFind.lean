import Derived.Test.YtbiopegophdgiaaDoorFirst
namespace Go.Proofs.YtbiopegophdgiaaDoor
open Go.RowKit Go.Shelf
attribute [local go_sem] Oper.semAt_some

/- NTH AND NEXT. -/

/-- what a pointer shows: nothing, or marks -/
def Mk (w : World) (m : Value) (l : List Bool) : Prop := (Non w m ∧ l = []) ∨ ∃ b g, m = .pointer (some ⟨b, 0, none⟩) ∧ Rep w b g l
theorem Non.below {w w' : World} {m : Value} (h : Non w m) (hb : Below w.heap.size w w') : Non w' m := by
  rcases h with h | ⟨b, e, h⟩
  · exact .inl h
  · exact .inr ⟨b, e, h.below hb⟩
theorem Mk.below {w w' : World} {m : Value} {l : List Bool} (h : Mk w m l) (hb : Below w.heap.size w w') : Mk w' m l := by
  rcases h with ⟨h, e⟩ | ⟨b, g, e, h⟩
  · exact .inl ⟨h.below hb, e⟩
  · exact .inr ⟨b, g, e, h.below hb⟩
theorem Mk.most {w : World} {m : Value} {l : List Bool} (h : Mk w m l) : l.length ≤ 4096 := by
  rcases h with ⟨_, rfl⟩ | ⟨b, g, e, h⟩
  · simp
  · exact h.most

def SuchP (w : World) (is : Bool) (l : List Bool) (e : Ending) (w' : World) : Prop :=
  ∃ A c, e = .returned (.slice A (nw (such is l).length) c) ∧ (∀ g, A = some ⟨g, 0, none⟩ → w.heap.size ≤ g) ∧ Src w' A (such is l) ∧ Below w.heap.size w w'
theorem suchM_any (is : Bool) (l : List Bool) (m : Value) (w : World) (h : Mk w m l) : Calls Tryd.prog 39 #[m, .bool is] w (SuchP w is l) := by
  rcases h with ⟨h, rfl⟩ | ⟨b, g, rfl, h⟩
  · exact (such_none is m w h).mono fun e w' ⟨h1, h2⟩ => ⟨none, 0, (by rw [h1]; simp [such, nw]), (fun g h => by cases h), Or.inl ⟨rfl, rfl⟩, h2⟩
  · refine (such_any is l b g w h).mono fun e w' ⟨g', h1, h2, h3, h4⟩ => ⟨some ⟨g', 0, none⟩, nw l.length, by rw [h1, such_len], fun g h => ?_, .inr ⟨g', rfl, h3⟩, h4⟩
    simp only [Option.some.injEq, Addr.mk.injEq, and_true] at h
    omega

theorem preP.len {l : List Bool} {pre : List Nat} {x : Nat} (h : preP l pre x) : pre.length < l.length := by
  obtain ⟨post, h⟩ := h
  have h1 := idxs_len 0 l
  have h2 := List.count_le_length (a := true) (l := l)
  rw [h] at h1
  simp at h1
  omega

def nthS (k : Int) (pre : List Nat) : Int := k - (pre.length : Int)
def nthK (k : Int) (pre : List Nat) (_ : Nat) : Bool := decide (k - (pre.length : Int) - 1 < 0)
theorem nth_asks (k : Int) (bk : Nat) (l : List Bool) (hk : 0 ≤ k) (hk2 : k ≤ 9223372036854775807) (hl : l.length ≤ 4096) : Asks 40 bk (nthS k) (nthK k) l := by
  intro pre x W hp hb
  have hpl := hp.len
  have hc := hb.cell
  have hf := hb.frozen
  have e1 : nthS k (pre ++ [x]) = nthS k pre - 1 := by unfold nthS; simp; omega
  have e2 : nthK k pre x = decide (nthS k pre - 1 < 0) := rfl
  have h1 : -4096 ≤ nthS k pre := by unfold nthS; omega
  have h2 : nthS k pre ≤ 9223372036854775807 := by unfold nthS; omega
  rw [e1, e2]
  obtain ⟨n, hn⟩ : ∃ n, n = nthS k pre := ⟨_, rfl⟩
  rw [← hn] at hc h1 h2 ⊢
  have hfin := Lib.hid (show Boxed (W.setCell ⟨bk, 0, none⟩ (.int .i64 (n - 1))) bk 3 (.int .i64 (n - 1)) ∧ Keep (· = bk) W (W.setCell ⟨bk, 0, none⟩ (.int .i64 (n - 1))) from
    ⟨hb.set _, (Keep.refl W).set _ (.inl rfl)⟩)
  have hbl := hb.lt
  clear hn hp hpl hb e1 e2
  obtain ⟨cc, hcc⟩ : ∃ cc, cc = decide (n - 1 < 0) := ⟨_, rfl⟩
  have hc2 : decide (n - 1 < 0) = cc := hcc.symm
  rw [hc2]
  clear hcc
  have hcl : decide (n < 1) = cc := by rw [← hc2]; exact decide_eq_decide.2 (by omega)
  go_enter Tryd.func40, Tryd.ntmps40
  go_wp2
  go_ret
  exact ⟨rfl, hfin.out⟩
def nextK (n : Int) (_ : List Nat) (x : Nat) : Bool := decide (n ≤ (x : Int))
theorem next_asks (n : Int) (bk : Nat) (l : List Bool) : Asks 41 bk (fun _ => n) (nextK n) l := by
  intro pre x W hp hb
  have hc := hb.cell
  have e2 : nextK n pre x = decide (n ≤ (x : Int)) := rfl
  rw [e2]
  obtain ⟨cc, hcc⟩ : ∃ cc, cc = decide (n ≤ (x : Int)) := ⟨_, rfl⟩
  have hc2 : decide (n ≤ (x : Int)) = cc := hcc.symm
  rw [hc2]
  have HB := Lib.hid hb
  clear hcc hb e2 hp
  go_enter Tryd.func41, Tryd.ntmps41
  go_wp2
  go_ret
  exact ⟨rfl, HB.out, Keep.refl _⟩

/-- the k-th of xs, from 0 on -/
def nthO (xs : List Nat) (k : Int) : Option Nat := if k < 0 then none else xs[k.toNat]?
def nextO' (xs : List Nat) (n : Int) : Option Nat := xs.find? fun x => decide (n ≤ (x : Int))
theorem find_nth (k : Int) (hk : 0 ≤ k) : ∀ (xs pre : List Nat), (pre.length : Int) ≤ k → findP (nthK k) pre xs = xs[k.toNat - pre.length]?
  | [], pre, _ => by simp [findP]
  | x :: xs, pre, h => by
    rw [findP]
    by_cases hlt : k - (pre.length : Int) - 1 < 0
    · rw [show nthK k pre x = true from decide_eq_true hlt, if_pos rfl, show k.toNat - pre.length = 0 by omega]; rfl
    · rw [show nthK k pre x = false from decide_eq_false hlt, if_neg (by decide), find_nth k hk xs (pre ++ [x]) (by simp; omega)]
      have e : k.toNat - pre.length = (k.toNat - (pre ++ [x]).length) + 1 := by simp; omega
      rw [e, List.getElem?_cons_succ]
theorem find_next (n : Int) : ∀ (xs pre : List Nat), findP (nextK n) pre xs = nextO' xs n
  | [], _ => rfl
  | x :: xs, pre => by
    rw [findP, nextO', List.find?_cons]
    by_cases h : n ≤ (x : Int)
    · rw [show nextK n pre x = true from decide_eq_true h, if_pos rfl, decide_eq_true h]
    · rw [show nextK n pre x = false from decide_eq_false h, if_neg (by decide), decide_eq_false h, find_next n xs]; rfl

/-- the k-th place that is such; the next one -/
def nthR (l : List Bool) (k : Int) (is : Bool) : Option Nat := nthO (idxs 0 (such is l)) k
def nextR (l : List Bool) (n : Int) (is : Bool) : Option Nat := nextO' (idxs 0 (such is l)) n
def oneR (r : Option Nat) : Value := .tuple #[.int .i64 (numO r), .bool r.isSome]

theorem nth_neg (m : Value) (k : Int) (is : Bool) (w : World) (hk : k < 0) : Calls Tryd.prog 12 #[m, .int .i64 k, .bool is] w fun e w' => e = .returned (.tuple #[.int .i64 0, .bool false]) ∧ Below w.heap.size w w' := by
  go_enter Tryd.func12, Tryd.ntmps12
  go_wp2
  go_ret2
  exact ⟨rfl, below1 _ _⟩

set_option maxHeartbeats 1000000 in
theorem nth_pos (m : Value) (l : List Bool) (k : Int) (is : Bool) (w : World) (h : Mk w m l) (ht : Tab w) (hk : 0 ≤ k) (hk2 : k ≤ 9223372036854775807) :
    Calls Tryd.prog 12 #[m, .int .i64 k, .bool is] w fun e w' => e = .returned (.tuple #[.int .i64 (numO (nthR l k is)), .bool (nthR l k is).isSome]) ∧ Below w.heap.size w w' := by
  have hr : nthR l k is = findP (nthK k) [] (idxs 0 (such is l)) := by
    rw [find_nth k hk _ [] (by simp; omega), nthR, nthO, if_neg (by omega)]; rfl
  have HR := Lib.hid hr
  have hk0 : decide (k < 0) = false := decide_eq_false (by omega)
  have hs := Lib.hid (suchM_any is l m (w.alloc (.cells #[.int .i64 k] 3)) (h.below (below1 _ _)))
  have hb0 : Boxed (w.alloc (.cells #[.int .i64 k] 3)) w.heap.size 3 (.int .i64 k) := Boxed.new _ _ _
  have htl := ht.lt
  have ht0 := ht.alloc (.cells #[.int .i64 k] 3)
  have hm := h.most
  clear hr h ht
  go_enter Tryd.func12, Tryd.ntmps12
  go_wp2_with fail
  refine (hs.out).mono ?_
  rintro e w1 ⟨A, c, rfl, hA, hsrc, hb1⟩
  have hk1 : Boxed w1 w.heap.size 3 (.int .i64 k) := (hb1.block _ (by simp)).trans hb0
  have ht1 : Tab w1 := ht0.below hb1
  have hz1 : w.heap.size + 1 ≤ w1.heap.size := by have := hb1.size; simpa using this
  have hB1 := (below1 w (.cells #[.int .i64 k] 3)).trans (hb1.mono (by simp))
  clear hb1 hb0 hs ht0
  have hA2 : ∀ g, A = some ⟨g, 0, none⟩ → w.heap.size < g := fun g e => by have := hA g e; simp at this; omega
  clear hA
  go_wp2_with fail
  refine (places_any _ _ _ _).mono ?_
  rintro e w2 ⟨rfl, rfl⟩
  obtain ⟨w2, hw2⟩ : ∃ w2, w2 = w1.alloc (.cells #[.slice A (nw (such is l).length) c] 32) := ⟨_, rfl⟩
  have hz2 : w2.heap.size = w1.heap.size + 1 := by rw [hw2]; simp
  have hb2 : Below w1.heap.size w1 w2 := by rw [hw2]; exact below1 _ _
  have hcw : w2.cell? ⟨w1.heap.size, 0, none⟩ = some (.slice A (nw (such is l).length) c) := by rw [hw2]; exact cell_alloc_new _ _ _ _
  have hf := Lib.hid (first_any 40 w.heap.size w1.heap.size c (nthS k) (nthK k) (such is l) A w2 (enters_of Tryd.func40 (by kernel_rfl) rfl) (nth_asks k _ _ hk hk2 (by rw [such_len]; exact hm))
    (by rw [such_len]; exact hm) hcw (hsrc.below hb2) (ht1.below hb2) (by
      have : nthS k [] = k := by simp [nthS]
      rw [this]
      exact (hb2.block _ hk1.lt).trans hk1) (by omega) (fun e => by have := hA2 _ e; omega) (by omega))
  rw [← HR.out] at hf
  rw [← hw2]
  have hB2 := hB1.trans (hb2.mono (by omega))
  have HB2 := Lib.hid hB2
  clear hw2 hcw hb2 hB2 hB1 hsrc ht1 hk1
  go_wp2_with fail
  refine (hf.out).mono ?_
  rintro e w3 ⟨rfl, hb3⟩
  go_wp2
  go_ret2
  exact ⟨rfl, HB2.out.trans (hb3.below (by rintro k rfl; exact Nat.le_refl _) (by omega))⟩

set_option maxHeartbeats 1000000 in
theorem next_any (m : Value) (l : List Bool) (n : Int) (is : Bool) (w : World) (h : Mk w m l) (ht : Tab w) :
    Calls Tryd.prog 13 #[m, .int .i64 n, .bool is] w fun e w' => e = .returned (.tuple #[.int .i64 (numO (nextR l n is)), .bool (nextR l n is).isSome]) ∧ Below w.heap.size w w' := by
  have hr : nextR l n is = findP (nextK n) [] (idxs 0 (such is l)) := by
    rw [find_next n]; rfl
  have HR := Lib.hid hr
  have hs := Lib.hid (suchM_any is l m (w.alloc (.cells #[.int .i64 n] 3)) (h.below (below1 _ _)))
  have hb0 : Boxed (w.alloc (.cells #[.int .i64 n] 3)) w.heap.size 3 (.int .i64 n) := Boxed.new _ _ _
  have htl := ht.lt
  have ht0 := ht.alloc (.cells #[.int .i64 n] 3)
  have hm := h.most
  clear hr h ht
  go_enter Tryd.func13, Tryd.ntmps13
  go_wp2_with fail
  refine (hs.out).mono ?_
  rintro e w1 ⟨A, c, rfl, hA, hsrc, hb1⟩
  have hk1 : Boxed w1 w.heap.size 3 (.int .i64 n) := (hb1.block _ (by simp)).trans hb0
  have ht1 : Tab w1 := ht0.below hb1
  have hz1 : w.heap.size + 1 ≤ w1.heap.size := by have := hb1.size; simpa using this
  have hB1 := (below1 w (.cells #[.int .i64 n] 3)).trans (hb1.mono (by simp))
  clear hb1 hb0 hs ht0
  have hA2 : ∀ g, A = some ⟨g, 0, none⟩ → w.heap.size < g := fun g e => by have := hA g e; simp at this; omega
  clear hA
  go_wp2_with fail
  refine (places_any _ _ _ _).mono ?_
  rintro e w2 ⟨rfl, rfl⟩
  obtain ⟨w2, hw2⟩ : ∃ w2, w2 = w1.alloc (.cells #[.slice A (nw (such is l).length) c] 32) := ⟨_, rfl⟩
  have hz2 : w2.heap.size = w1.heap.size + 1 := by rw [hw2]; simp
  have hb2 : Below w1.heap.size w1 w2 := by rw [hw2]; exact below1 _ _
  have hcw : w2.cell? ⟨w1.heap.size, 0, none⟩ = some (.slice A (nw (such is l).length) c) := by rw [hw2]; exact cell_alloc_new _ _ _ _
  have hf := Lib.hid (first_any 41 w.heap.size w1.heap.size c (fun _ => n) (nextK n) (such is l) A w2 (enters_of Tryd.func41 (by kernel_rfl) rfl) (next_asks n _ _)
    (by rw [such_len]; exact hm) hcw (hsrc.below hb2) (ht1.below hb2) ((hb2.block _ hk1.lt).trans hk1) (by omega) (fun e => by have := hA2 _ e; omega) (by omega))
  rw [← HR.out] at hf
  rw [← hw2]
  have hB2 := hB1.trans (hb2.mono (by omega))
  have HB2 := Lib.hid hB2
  clear hw2 hcw hb2 hB2 hB1 hsrc ht1 hk1
  go_wp2_with fail
  refine (hf.out).mono ?_
  rintro e w3 ⟨rfl, hb3⟩
  go_wp2
  go_ret2
  exact ⟨rfl, HB2.out.trans (hb3.below (by rintro k rfl; exact Nat.le_refl _) (by omega))⟩
end Go.Proofs.YtbiopegophdgiaaDoor
