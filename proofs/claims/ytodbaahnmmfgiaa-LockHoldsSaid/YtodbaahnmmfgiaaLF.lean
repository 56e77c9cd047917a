import Derived.Test.YtodbaahnmmfgiaaLE
import Derived.Test.YtodbaahnmmfgiaaRange
namespace Go.Proofs.Ytodbaahnmmfgiaa.Lk
open Go.RowKit Go.Shelf
attribute [local go_sem] Oper.semAt_some

/- WHAT THE LAWS ASK OF THE CODE's LOCKS, WHATEVER THEY LOOK LIKE; A CALL BY BOTH. -/
def i64 (z : Int) : Prop := -9223372036854775808 ≤ z ∧ z ≤ 9223372036854775807
abbrev HasT := World → Value → Ls → (Nat → Prop) → Prop
/-- behind a call: the same locks, in blocks that they had or new ones -/
def Nx (Has : HasT) (w : World) (v : Value) (l' : Ls) (F : Nat → Prop) (w' : World) : Prop := ∃ F', Has w' v l' F' ∧ Keep F w w' ∧ ∀ k, F' k → F k ∨ w.heap.size ≤ k
/-- a list that is seen -/
def Sl (w : World) (v : Value) (l : Ls) : Prop := ∃ A c, v = .slice A l.length c ∧ Sees w w.heap.size A (izs l)
theorem Wi.sl {w : World} {v : Value} {l : Ls} (h : Wi w v l) : Sl w v l := by
  obtain ⟨A, c, e, _, hs⟩ := h.sees
  exact ⟨A, c, e, hs⟩
theorem Sl.below {w w' : World} {v : Value} {l : Ls} (h : Sl w v l) (hb : Below w.heap.size w w') : Sl w' v l := by
  obtain ⟨A, c, e, hs⟩ := h
  exact ⟨A, c, e, (hs.below hb).more hb.size⟩
def holdsAt (l : Ls) (r : Int) : Bool := decide (0 ≤ r ∧ r < (l.length : Int)) && decide (0 ≤ l.getD r.toNat (-1))
structure Api (Has : HasT) : Prop where
  keep : ∀ {w w' v l F}, Has w v l F → (∀ k, F k → w'.heap[k]? = w.heap[k]?) → Has w' v l F
  lt : ∀ {w v l F}, Has w v l F → ∀ k, F k → k < w.heap.size
  off : ∀ {w v l F}, Has w v l F → ∀ k cs, Row w k 3 cs → ¬ F k
  ptr : ∀ {w v l F}, Has w v l F → ∃ ad, v = .pointer (some ad)
  ths : ∀ {w v l F}, Has w v l F → Ths l
  most : ∀ {w v l F}, Has w v l F → l.length ≤ 64
  new : ∀ (w : World) (n : Nat), n ≤ 64 → Calls Try.prog 8 #[.int .i64 (n : Int)] w fun e w' => ∃ v F, e = .returned (.tuple #[v, .int .i64 0]) ∧ Has w' v (frees n) F ∧ (∀ k, F k → w.heap.size ≤ k) ∧ Below w.heap.size w w'
  newNo : ∀ (w : World) (z : Int), z < 0 ∨ 64 < z → Calls Try.prog 8 #[.int .i64 z] w fun e w' => e = .returned (.tuple #[.pointer none, .int .i64 2]) ∧ Below w.heap.size w w'
  try_ : ∀ {w v l F} (t r : Int), Has w v l F → i64 t → i64 r → Calls Try.prog 20 #[v, .int .i64 t, .int .i64 r] w fun e w' => e = .returned (.tuple #[.bool (tryQ l t r), .int .i64 (asksE l t r)]) ∧ Nx Has w v (tryL l t r) F w'
  free : ∀ {w v l F} (t r : Int), Has w v l F → i64 t → i64 r → Calls Try.prog 21 #[v, .int .i64 t, .int .i64 r] w fun e w' => e = .returned (.int .i64 (freeE l t r)) ∧ Nx Has w v (freeL l t r) F w'
  drop : ∀ {w v l F} (t : Int), Has w v l F → i64 t → threadB t = true → Calls Try.prog 22 #[v, .int .i64 t] w fun e w' => e = .returned (.tuple #[.int .i64 ((held l t).length : Int), .int .i64 0]) ∧ Nx Has w v (dropL l t) F w'
  dropNo : ∀ {w v l F} (t : Int), Has w v l F → i64 t → threadB t = false → Calls Try.prog 22 #[v, .int .i64 t] w fun e w' => e = .returned (.tuple #[.int .i64 0, .int .i64 2]) ∧ Below w.heap.size w w'
  holder : ∀ {w v l F} (r : Int), Has w v l F → i64 r → Calls Try.prog 25 #[v, .int .i64 r] w fun e w' => e = .returned (.tuple #[.int .i64 (if holdsAt l r then l.getD r.toNat (-1) else 0), .bool (holdsAt l r)]) ∧ Below w.heap.size w w'
  held : ∀ {w v l F} (t : Int), Has w v l F → i64 t → Calls Try.prog 23 #[v, .int .i64 t] w fun e w' => ∃ u, e = .returned u ∧ Wi w' u (hz (held l t)) ∧ Below w.heap.size w w'
  chain : ∀ {w v l F} (t : Int) (ws : Ls) (u : Value), Has w v l F → i64 t → (∀ z ∈ ws, i64 z) → Sl w u ws → ws.length ≤ 100 → Calls Try.prog 15 #[v, .int .i64 t, u] w fun e w' => ∃ u', e = .returned (.tuple #[u', .int .i64 (chainE l t ws)]) ∧ Wi w' u' (chainR l t ws) ∧ Below w.heap.size w w'
  copy : ∀ {w v l F}, Has w v l F → Calls Try.prog 18 #[v] w fun e w' => ∃ v' F', e = .returned v' ∧ Has w' v' l F' ∧ (∀ k, F' k → w.heap.size ≤ k) ∧ Below w.heap.size w w'
  same : ∀ {w v l F v' l' F'}, Has w v l F → Has w v' l' F' → Calls Try.prog 14 #[v, v'] w fun e w' => e = .returned (.bool (decide (l = l'))) ∧ Below w.heap.size w w'
  sameN : ∀ {w v l F}, Has w v l F → Calls Try.prog 14 #[v, .pointer none] w fun e w' => e = .returned (.bool false) ∧ Below w.heap.size w w'
  sameN' : ∀ {w v l F}, Has w v l F → Calls Try.prog 14 #[.pointer none, v] w fun e w' => e = .returned (.bool false) ∧ Below w.heap.size w w'
section
variable {Has : HasT} (H : Api Has) {w w' : World} {v vv : Value} {l l' : Ls} {F : Nat → Prop}
include H
theorem Api.below (h : Has w v l F) (hb : Below w.heap.size w w') : Has w' v l F := H.keep h fun k hk => hb.block _ (H.lt h k hk)
theorem Api.wi (h : Has w v l F) (hv : Wi w vv l') (hk : Keep F w w') : Wi w' vv l' := hv.same fun g cs hr => hk.block _ hr.lt (H.off h g cs hr)
theorem Api.nx (h : Has w v l F) (hb : Below w.heap.size w w') : Nx Has w v l F w' := ⟨F, H.below h hb, Keep.of_below hb, fun _ hk => .inl hk⟩
end

/-- a law's own locks -/
def Run (Has : HasT) (w : World) (v : Value) (l : Ls) (V : World) : Prop := ∃ F, Has V v l F ∧ (∀ k, F k → w.heap.size ≤ k) ∧ Below w.heap.size w V
section
variable {Has : HasT} (H : Api Has) {w V V' : World} {v : Value} {l l' : Ls}
include H
theorem Run.more (h : Run Has w v l V) (hb : Below V.heap.size V V') : Run Has w v l V' := by
  obtain ⟨F, h1, h2, h3⟩ := h
  exact ⟨F, H.below h1 hb, h2, below0 h3 hb⟩
omit H in
theorem Run.nx {F : Nat → Prop} (h2 : ∀ k, F k → w.heap.size ≤ k) (h3 : Below w.heap.size w V) (hn : Nx Has V v l' F V') : Run Has w v l' V' ∧ Keep F V V' := by
  obtain ⟨F', a1, a2, a3⟩ := hn
  have hs := h3.size
  exact ⟨⟨F', a1, fun k hk => (a3 k hk).elim (h2 k) (fun h => by omega), h3.trans (a2.below h2 hs)⟩, a2⟩
/-- a list of numbers stays where the locks' blocks alone are written -/
def Still (V V' : World) : Prop := ∀ u L, Wi V u L → Wi V' u L
omit H in
theorem Still.below (hb : Below V.heap.size V V') : Still V V' := fun _ _ h => h.below hb
theorem Run.try_ (h : Run Has w v l V) (t r : Int) (ht : i64 t) (hr : i64 r) : Calls Try.prog 20 #[v, .int .i64 t, .int .i64 r] V fun e V' => e = .returned (.tuple #[.bool (tryQ l t r), .int .i64 (asksE l t r)]) ∧ Run Has w v (tryL l t r) V' ∧ Still V V' := by
  obtain ⟨F, h1, h2, h3⟩ := h
  exact (H.try_ t r h1 ht hr).mono fun _ _ ⟨e, hn⟩ => ⟨e, (Run.nx h2 h3 hn).1, fun _ _ hw => H.wi h1 hw (Run.nx h2 h3 hn).2⟩
theorem Run.free (h : Run Has w v l V) (t r : Int) (ht : i64 t) (hr : i64 r) : Calls Try.prog 21 #[v, .int .i64 t, .int .i64 r] V fun e V' => e = .returned (.int .i64 (freeE l t r)) ∧ Run Has w v (freeL l t r) V' ∧ Still V V' := by
  obtain ⟨F, h1, h2, h3⟩ := h
  exact (H.free t r h1 ht hr).mono fun _ _ ⟨e, hn⟩ => ⟨e, (Run.nx h2 h3 hn).1, fun _ _ hw => H.wi h1 hw (Run.nx h2 h3 hn).2⟩
theorem Run.drop (h : Run Has w v l V) (t : Int) (ht : i64 t) (hth : threadB t = true) : Calls Try.prog 22 #[v, .int .i64 t] V fun e V' => e = .returned (.tuple #[.int .i64 ((Lk.held l t).length : Int), .int .i64 0]) ∧ Run Has w v (dropL l t) V' ∧ Still V V' := by
  obtain ⟨F, h1, h2, h3⟩ := h
  exact (H.drop t h1 ht hth).mono fun _ _ ⟨e, hn⟩ => ⟨e, (Run.nx h2 h3 hn).1, fun _ _ hw => H.wi h1 hw (Run.nx h2 h3 hn).2⟩
theorem Run.held (h : Run Has w v l V) (t : Int) (ht : i64 t) : Calls Try.prog 23 #[v, .int .i64 t] V fun e V' => ∃ u, e = .returned u ∧ Wi V' u (hz (Lk.held l t)) ∧ Run Has w v l V' ∧ Still V V' := by
  obtain ⟨F, h1, h2, h3⟩ := h
  exact (H.held t h1 ht).mono fun _ _ ⟨u, e, hw, hb⟩ => ⟨u, e, hw, Run.more H ⟨F, h1, h2, h3⟩ hb, Still.below hb⟩
theorem Run.chain (h : Run Has w v l V) (t : Int) (ws : Ls) (u : Value) (ht : i64 t) (hw : ∀ z ∈ ws, i64 z) (hs : Sl V u ws) (hl : ws.length ≤ 100) : Calls Try.prog 15 #[v, .int .i64 t, u] V fun e V' => ∃ u', e = .returned (.tuple #[u', .int .i64 (chainE l t ws)]) ∧ Wi V' u' (chainR l t ws) ∧ Run Has w v l V' ∧ Still V V' ∧ Below V.heap.size V V' := by
  obtain ⟨F, h1, h2, h3⟩ := h
  exact (H.chain t ws u h1 ht hw hs hl).mono fun _ _ ⟨u, e, hw, hb⟩ => ⟨u, e, hw, Run.more H ⟨F, h1, h2, h3⟩ hb, Still.below hb, hb⟩
omit H in
theorem Run.below (h : Run Has w v l V) : Below w.heap.size w V := by
  obtain ⟨F, h1, h2, h3⟩ := h
  exact h3
end

/-! calls -/
structure Ac where
  what : Int
  thread : Int
  rank : Int
def Ac.cells (x : Ac) : List Value := [.int .i64 x.what, .int .i64 x.thread, .int .i64 x.rank]
def Ac.fits (x : Ac) : Prop := i64 x.thread ∧ i64 x.rank
def actL (l : Ls) (what t r : Int) : Ls := if what = 0 then tryL l t r else if what = 1 then freeL l t r else if what = 2 then (if threadB t then dropL l t else l) else l
theorem actL_len (l : Ls) (what t r : Int) : (actL l what t r).length = l.length := by
  unfold actL
  split
  · exact tryL_len _ _ _
  · split
    · exact freeL_len _ _ _
    · split
      · split
        · exact dropL_len _ _
        · rfl
      · rfl
abbrev acV (what t r : Int) : Value := .agg #[.int .i64 what, .int .i64 t, .int .i64 r]
def ActP (Has : HasT) (W : World) (F : Nat → Prop) (l' : Ls) (e : Ending) (W' : World) : Prop :=
  ∃ v' F' vv', e = .returned (.tuple #[v', vv', .bool true]) ∧ Has W' v' l' F' ∧ Wi W' vv' l' ∧ Keep F W W' ∧ ∀ k, F' k → F k ∨ W.heap.size ≤ k
theorem num_any (z : Int) (w : World) : Calls Try.prog 11 #[.int .i64 z] w fun e w' => e = .returned (.int .i64 z) ∧ w = w' := by
  go_enter Try.func11, Try.ntmps11
  go_wp2
  go_ret
  exact ⟨rfl, rfl⟩
/-- what is known of a world within the call -/
structure Mid (Has : HasT) (W : World) (F : Nat → Prop) (v vv : Value) (what t r : Int) (l lw : Ls) (V : World) : Prop where
  has : ∃ F', Has V v l F' ∧ ∀ k, F' k → F k ∨ W.heap.size < k
  wi : Wi V vv lw
  keep : Keep F W V
  fl : ∀ k, F k → k < W.heap.size
  box : Row V W.heap.size 36 [.int .i64 what, .int .i64 t, .int .i64 r]
section
variable {Has : HasT} (H : Api Has) {W V V' : World} {v vv vv' : Value} {l lw l' : Ls} {F : Nat → Prop} {what t r : Int}
include H
theorem Mid.start (h : Has W v l F) (hv : Wi W vv lw) : Mid Has W F v vv what t r l lw (W.alloc (.cells #[.int .i64 what, .int .i64 t, .int .i64 r] 36)) :=
  ⟨⟨F, H.below h (below1 _ _), fun _ hk => .inl hk⟩, hv.below (below1 _ _), Keep.of_below (below1 _ _), H.lt h, Row.new W _ [.int .i64 what, .int .i64 t, .int .i64 r]⟩
theorem Mid.more (h : Mid Has W F v vv what t r l lw V) (hb : Below V.heap.size V V') (hv : Wi V' vv' l') : Mid Has W F v vv' what t r l l' V' := by
  obtain ⟨F', h1, h2⟩ := h.has
  exact ⟨⟨F', H.below h1 hb, h2⟩, hv, h.keep.trans (Keep.of_below hb) (fun _ _ e => e), h.fl, h.box.below hb⟩
theorem Mid.step (h : Mid Has W F v vv what t r l lw V) {F1 : Nat → Prop} (h1 : Has V v l F1) (h2 : ∀ k, F1 k → F k ∨ W.heap.size < k) (hn : Nx Has V v l' F1 V') : Mid Has W F v vv what t r l' lw V' := by
  obtain ⟨F', a1, a2, a3⟩ := hn
  have hlt := h.box.lt
  refine ⟨⟨F', a1, fun k hk => ?_⟩, H.wi h1 h.wi a2, h.keep.trans a2 (fun k hk hf => ?_), h.fl, a2.row h.box (fun hf => ?_)⟩
  · rcases a3 k hk with hh | hh
    · exact h2 k hh
    · exact .inr (by omega)
  · rcases h2 k hf with hh | hh
    · exact hh
    · omega
  · rcases h2 _ hf with hh | hh
    · have := h.fl _ hh; omega
    · omega
omit H in
theorem Mid.done (h : Mid Has W F v vv what t r l l V) : ActP Has W F l (.returned (.tuple #[v, vv, .bool true])) V := by
  obtain ⟨F', h1, h2⟩ := h.has
  exact ⟨v, F', vv, rfl, h1, h.wi, h.keep, fun k hk => (h2 k hk).imp_right (fun h => by omega)⟩
end
end Go.Proofs.Ytodbaahnmmfgiaa.Lk
