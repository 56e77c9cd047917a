import Derived.Test.YtkfljominljliaaGreatVu
namespace Go.Proofs.YtkfljominljliaaGreat.Vm
open Go.RowKit Go.Shelf Go.Maps Go.Sort

/- THE LAW's OWN: A MEMORY, WHAT STANDS THERE, WHOSE PAGES ARE. -/

def own3 (w : World) (g5 g6 : Nat) (Y : Nat → Prop) (k : Nat) : Prop := k < w.heap.size ∨ k = g5 ∨ k = g6 ∨ Y k
def whoC (whose : List Nat) : List Value := whose.map fun n : Nat => .int .i64 (n : Int)
structure LS (w : World) (b t q g5 g6 : Nat) (Y : Nat → Prop) (p : Pl) (l : Pg.Tb) (now : List UInt8) (whose : List Nat) (V : World) : Prop where
  mem : MRX w b t q l p (own3 w g5 g6 Y) V
  now : Row V g5 31 (byt now)
  who : Row V g6 32 (whoC whose)
  ge : w.heap.size ≤ g5 ∧ w.heap.size ≤ g6 ∧ g5 ≠ g6
theorem putL_set {s b : List UInt8} {i : Nat} (c : UInt8) (h : i + b.length < s.length) : (putL s i b).set (i + b.length) c = putL s i (b ++ [c]) := by
  apply List.ext_getElem?
  intro j
  have hb : i + b.length ≤ s.length := by omega
  rw [putL_get (by rw [List.length_append, List.length_singleton]; omega), List.length_append, List.length_singleton, List.getElem?_set]
  by_cases h1 : i + b.length = j
  · subst h1
    rw [if_pos rfl, if_pos (by rw [putL_len hb]; exact h), if_neg (by omega), if_pos (by omega), Nat.add_sub_cancel_left, List.getElem?_append_right (Nat.le_refl _), Nat.sub_self]
    rfl
  · rw [if_neg h1, putL_get hb]
    by_cases h2 : j < i
    · rw [if_pos h2, if_pos h2]
    · by_cases h3 : j < i + b.length
      · rw [if_neg h2, if_pos h3, if_neg h2, if_pos (by omega), List.getElem?_append_left (by omega)]
      · rw [if_neg h2, if_neg h3, if_neg h2, if_neg (by omega)]
theorem byt_set (l : List UInt8) (j : Nat) (c : UInt8) : (byt l).set j (.int .u8 (c.toNat : Int)) = byt (l.set j c) := by
  unfold byt
  rw [List.map_set]
theorem whoC_set (l : List Nat) (j c : Nat) : (whoC l).set j (.int .i64 (c : Int)) = whoC (l.set j c) := by
  unfold whoC
  rw [List.map_set]
theorem whoC_get (l : List Nat) (j : Nat) : (whoC l)[j]? = l[j]?.map fun n : Nat => Value.int .i64 (n : Int) := by
  unfold whoC
  rw [List.getElem?_map]
section
variable {w V V' : World} {b t q g5 g6 : Nat} {Y : Nat → Prop} {p p' : Pl} {l l' : Pg.Tb} {now : List UInt8} {whose : List Nat}
theorem LS.below (h : LS w b t q g5 g6 Y p l now whose V) : Below w.heap.size w V := h.mem.below
theorem LS.less (h : LS w b t q g5 g6 Y p l now whose V) {Z : Nat → Prop} (hZ : ∀ k, Z k → Y k) : LS w b t q g5 g6 Z p l now whose V :=
  ⟨h.mem.less fun k hk => hk.imp id (Or.imp id (Or.imp id (hZ k))), h.now, h.who, h.ge⟩
theorem LS.more (h : LS w b t q g5 g6 Y p l now whose V) (hb : Below V.heap.size V V') : LS w b t q g5 g6 Y p l now whose V' :=
  ⟨(h.mem.more hb).1, h.now.below hb, h.who.below hb, h.ge⟩
/-- a new block that stays -/
theorem LS.add (h : LS w b t q g5 g6 Y p l now whose V) (o : Obj) : LS w b t q g5 g6 (· = V.heap.size) p l now whose (V.alloc o) :=
  ⟨(h.mem.wide (below1 V o)).1.less fun k hk => by
    rcases hk with hk | hk | hk | hk
    · exact .inl (.inl hk)
    · exact .inl (.inr (.inl hk))
    · exact .inl (.inr (.inr (.inl hk)))
    · exact .inr ⟨by omega, by simp; omega⟩, h.now.below (below1 V o), h.who.below (below1 V o), h.ge⟩
theorem LS.step {f : Nat} {args : Array Value} {Q : Ending → Prop} (h : LS w b t q g5 g6 Y p l now whose V) (hc : Calls Tryz.prog f args V fun e w' => Q e ∧ MRX w b t q l' p' (own3 w g5 g6 Y) w' ∧ ∀ k, own3 w g5 g6 Y k → w'.heap[k]? = V.heap[k]?) :
    Calls Tryz.prog f args V fun e w' => Q e ∧ LS w b t q g5 g6 Y p' l' now whose w' ∧ ∀ k, Y k → w'.heap[k]? = V.heap[k]? :=
  hc.mono fun _ _ ⟨e1, e2, e3⟩ => ⟨e1, ⟨e2, h.now.same (e3 _ (.inr (.inl rfl))), h.who.same (e3 _ (.inr (.inr (.inl rfl)))), h.ge⟩, fun k hk => e3 k (.inr (.inr (.inr hk)))⟩
theorem MRX.set {w0 V : World} {b t q g o : Nat} {l : Pg.Tb} {p : Pl} {X : Nat → Prop} (h : MRX w0 b t q l p X V) (hX : X g) (hg : w0.heap.size ≤ g) (v : Value) : MRX w0 b t q l p X (V.setCell ⟨g, o, none⟩ v) := by
  obtain ⟨F1, F2, h1, h2, h3, h4⟩ := h
  refine ⟨F1, F2, h1.keep fun k hk => heap_set ?_, h2, fun k hk => by rw [World.size_setCell]; exact h3 k hk, h4.setCell (p := ⟨g, o, none⟩) hg v⟩
  rintro rfl
  exact (h2 _ hk).2 hX
theorem LS.setNow (h : LS w b t q g5 g6 Y p l now whose V) (j : Nat) (c : UInt8) : LS w b t q g5 g6 Y p l (now.set j c) whose (V.setCell ⟨g5, j, none⟩ (.int .u8 (c.toNat : Int))) :=
  ⟨h.mem.set (.inr (.inl rfl)) h.ge.1 _, by rw [← byt_set]; exact h.now.set j _, h.who.same (heap_set (fun e => h.ge.2.2 e.symm)), h.ge⟩
theorem LS.setWho (h : LS w b t q g5 g6 Y p l now whose V) (j c : Nat) : LS w b t q g5 g6 Y p l now (whose.set j c) (V.setCell ⟨g6, j, none⟩ (.int .i64 (c : Int))) :=
  ⟨h.mem.set (.inr (.inr (.inl rfl))) h.ge.2.1 _, h.now.same (heap_set h.ge.2.2), by rw [← whoC_set]; exact h.who.set j _, h.ge⟩
theorem LS.map (h : LS w b t q g5 g6 Y p l now whose V) (z o y m : Int) (ho : Pg.I64 o) (hm : Pg.I64 m) : Calls Tryz.prog 9 #[bx b, .int .i64 z, .int .i64 o, .int .i64 y, .int .i64 m] V fun e w' => e = .returned (.int .i64 (mapME p l z o y m : Int)) ∧ LS w b t q g5 g6 Y (mapMP p l z o y m) (mapML p l z o y m) now whose w' ∧ ∀ k, Y k → w'.heap[k]? = V.heap[k]? := h.step (h.mem.map z o y m ho hm)
theorem LS.unmap (h : LS w b t q g5 g6 Y p l now whose V) (z : Int) : Calls Tryz.prog 10 #[bx b, .int .i64 z] V fun e w' => e = .returned (.int .i64 (unmE p l z : Int)) ∧ LS w b t q g5 g6 Y (unmP p l z) (Pg.unmapT l z) now whose w' ∧ ∀ k, Y k → w'.heap[k]? = V.heap[k]? := h.step (h.mem.unmap z)
theorem LS.store (h : LS w b t q g5 g6 Y p l now whose V) (a n c : Nat) (o : Int) (S : Option Addr) (bs : List UInt8) (ha : a < 4294967296) (hn : bs.length = n) (hc : n ≤ c) (hS : Sees w w.heap.size S (byt bs)) : Calls Tryz.prog 11 #[bx b, .int .i64 o, .int .u32 (a : Int), .slice S n c] V fun e w' => e = .returned (.int .i64 (ownE l o 2 a (n : Int) : Int)) ∧ LS w b t q g5 g6 Y (storeP p l o a n bs) l now whose w' ∧ ∀ k, Y k → w'.heap[k]? = V.heap[k]? :=
  h.step (h.mem.store a n c o S bs ha hn hc ((hS.below h.below).more h.below.size) (fun ad e hne => by
    obtain ⟨a', e', hlt, _⟩ := hS (by simpa [byt] using hne)
    rw [e] at e'
    injection e' with e'
    subst e'
    exact .inl hlt))
/-- a reading: its bytes lie apart from what the law has -/
theorem LS.load (h : LS w b t q g5 g6 Y p l now whose V) (a : Nat) (n o : Int) (ha : a < 4294967296) (E : Nat) (bs : List UInt8) (hE : ownE l o 1 a n = E) (hb : (if E = 0 then rdB p l a n.toNat else []) = bs) :
    Calls Tryz.prog 12 #[bx b, .int .i64 o, .int .u32 (a : Int), .int .i64 n] V fun e w' => ∃ A c, e = .returned (.tuple #[.slice A bs.length c, .int .i64 (E : Int)]) ∧ w'.ownsRow V.heap.size 5 1 (.slice A bs.length c) bs.length (byt bs) ∧ LS w b t q g5 g6 Y p l now whose w' ∧ ∀ k, Y k → w'.heap[k]? = V.heap[k]? := by
  subst hE
  subst hb
  refine (h.mem.load a n o ha).mono fun _ w' ⟨A, m, c, e1, e2, e3, e4, e5, e6⟩ => ?_
  subst e2
  exact ⟨A, c, e1, e3, ⟨e4.less fun k hk => .inl hk, h.now.same (e5 _ (.inr (.inl rfl))), h.who.same (e5 _ (.inr (.inr (.inl rfl)))), h.ge⟩, fun k hk => e5 k (.inr (.inr (.inr hk)))⟩
end
end Go.Proofs.YtkfljominljliaaGreat.Vm
