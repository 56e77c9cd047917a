import Derived.Test.YtkfljominljliaaGreatVn
import Derived.Test.YtkfljominljliaaGreatStr
namespace Go.Proofs.YtkfljominljliaaGreat.Vm
open Go.RowKit Go.Shelf Go.Maps Go.Sort
attribute [local go_sem] Oper.semAt_some

/- A MEMORY BESIDE BLOCKS THAT STAY; THE CHAPTER's ROWS. -/

def MRX (w0 : World) (b t q : Nat) (l : Pg.Tb) (p : Pl) (X : Nat → Prop) (V : World) : Prop :=
  ∃ F1 F2, MRep V b t q l p F1 F2 ∧ (∀ k, (k = b ∨ F1 k ∨ F2 k) → w0.heap.size ≤ k ∧ ¬ X k) ∧ (∀ k, X k → k < V.heap.size) ∧ Below w0.heap.size w0 V
section
variable {w0 V V' : World} {b t q : Nat} {l l' : Pg.Tb} {p p' : Pl} {X Y : Nat → Prop}
theorem MRX.below (h : MRX w0 b t q l p X V) : Below w0.heap.size w0 V := by
  obtain ⟨_, _, _, _, _, h⟩ := h
  exact h
theorem MRX.less (h : MRX w0 b t q l p X V) (hY : ∀ k, Y k → X k) : MRX w0 b t q l p Y V := by
  obtain ⟨F1, F2, h1, h2, h3, h4⟩ := h
  exact ⟨F1, F2, h1, fun k hk => ⟨(h2 k hk).1, fun hy => (h2 k hk).2 (hY k hy)⟩, fun k hy => h3 k (hY k hy), h4⟩
/-- what is new is no memory's -/
theorem MRX.wide (h : MRX w0 b t q l p X V) (hb : Below V.heap.size V V') : MRX w0 b t q l p (fun k => X k ∨ (V.heap.size ≤ k ∧ k < V'.heap.size)) V' ∧ ∀ k, X k → V'.heap[k]? = V.heap[k]? := by
  obtain ⟨F1, F2, h1, h2, h3, h4⟩ := h
  have hs := hb.size
  refine ⟨⟨F1, F2, h1.below hb, fun k hk => ⟨(h2 k hk).1, fun hx => ?_⟩, fun k hx => ?_, below0 h4 hb⟩, fun k hx => hb.block k (h3 k hx)⟩
  · have := h1.lt k hk
    rcases hx with hx | hx
    · exact (h2 k hk).2 hx
    · omega
  · rcases hx with hx | hx
    · have := h3 k hx; omega
    · exact hx.2
theorem MRX.more (h : MRX w0 b t q l p X V) (hb : Below V.heap.size V V') : MRX w0 b t q l p X V' ∧ ∀ k, X k → V'.heap[k]? = V.heap[k]? :=
  ⟨(h.wide hb).1.less fun _ h => .inl h, (h.wide hb).2⟩
theorem MRX.step {f : Nat} {args : Array Value} {Q : Ending → Prop} (h : MRX w0 b t q l p X V) (hc : ∀ F1 F2, MRep V b t q l p F1 F2 → (∀ k, X k → k ≠ b ∧ ¬ F1 k ∧ ¬ F2 k) → Calls Tryz.prog f args V fun e w' => Q e ∧ MNext V b t q l' p' F1 F2 w') :
    Calls Tryz.prog f args V fun e w' => Q e ∧ MRX w0 b t q l' p' X w' ∧ ∀ k, X k → w'.heap[k]? = V.heap[k]? := by
  obtain ⟨F1, F2, h1, h2, h3, h4⟩ := h
  have hX : ∀ k, X k → k ≠ b ∧ ¬ F1 k ∧ ¬ F2 k := fun k hx => ⟨fun e => (h2 k (.inl e)).2 hx, fun e => (h2 k (.inr (.inl e))).2 hx, fun e => (h2 k (.inr (.inr e))).2 hx⟩
  refine (hc F1 F2 h1 hX).mono fun e w' ⟨e1, F3, h5, h6, h7⟩ => ⟨e1, ⟨F1, F3, h5, ?_, ?_, ?_⟩, ?_⟩
  · have hs := h4.size
    rintro k (hk | hk | hk)
    · exact h2 k (.inl hk)
    · exact h2 k (.inr (.inl hk))
    · rcases h6 k hk with h8 | h8
      · exact h2 k (.inr (.inr h8))
      · exact ⟨by omega, fun hx => by have := h3 k hx; omega⟩
  · exact fun k hx => by have := h3 k hx; have := h7.size; omega
  · exact h4.trans (h7.below (fun k hf => hf.elim (fun hf => (h2 k (.inr (.inl hf))).1) (fun hf => (h2 k (.inr (.inr hf))).1)) h4.size)
  · exact fun k hx => h7.block k (h3 k hx) (fun hf => hf.elim (hX k hx).2.1 (hX k hx).2.2)
end
theorem MRX.new (n : Nat) (w : World) (hn : n ≤ 16384) : Calls Tryz.prog 6 #[.int .i64 (n : Int)] w fun e w' => ∃ b t q, e = .returned (.tuple #[bx b, .int .i64 0]) ∧ MRX w b t q [] (newP n) (fun _ => False) w' :=
  (new_any n w hn).mono fun _ _ ⟨b, t, q, F1, F2, e1, e2, e3, e4⟩ => ⟨b, t, q, e1, F1, F2, e2, fun k hk => ⟨e3 k hk, fun h => h⟩, fun _ h => h.elim, e4⟩
section
variable {w0 V : World} {b t q : Nat} {l : Pg.Tb} {p : Pl} {X : Nat → Prop}
theorem MRX.reserve (h : MRX w0 b t q l p X V) (o m : Int) (hm : m ≤ 9223372036854775807) : Calls Tryz.prog 8 #[bx b, .int .i64 o, .int .i64 m] V fun e w' => e = .returned (.int .i64 (reserveE p o m : Int)) ∧ MRX w0 b t q l (reserveP p o m) X w' ∧ ∀ k, X k → w'.heap[k]? = V.heap[k]? :=
  h.step fun _ _ h1 _ => reserve_any h1 o m hm
theorem MRX.map (h : MRX w0 b t q l p X V) (z o y m : Int) (ho : Pg.I64 o) (hm : Pg.I64 m) : Calls Tryz.prog 9 #[bx b, .int .i64 z, .int .i64 o, .int .i64 y, .int .i64 m] V fun e w' => e = .returned (.int .i64 (mapME p l z o y m : Int)) ∧ MRX w0 b t q (mapML p l z o y m) (mapMP p l z o y m) X w' ∧ ∀ k, X k → w'.heap[k]? = V.heap[k]? :=
  h.step fun _ _ h1 _ => map_any h1 z o y m ho hm
theorem MRX.unmap (h : MRX w0 b t q l p X V) (z : Int) : Calls Tryz.prog 10 #[bx b, .int .i64 z] V fun e w' => e = .returned (.int .i64 (unmE p l z : Int)) ∧ MRX w0 b t q (Pg.unmapT l z) (unmP p l z) X w' ∧ ∀ k, X k → w'.heap[k]? = V.heap[k]? :=
  h.step fun _ _ h1 _ => unmap_any h1 z
theorem MRX.store (h : MRX w0 b t q l p X V) (a n c : Nat) (o : Int) (S : Option Addr) (bs : List UInt8) (ha : a < 4294967296) (hn : bs.length = n) (hc : n ≤ c) (hS : Sees V V.heap.size S (byt bs)) (hX : ∀ ad, S = some ad → bs ≠ [] → X ad.block) :
    Calls Tryz.prog 11 #[bx b, .int .i64 o, .int .u32 (a : Int), .slice S n c] V fun e w' => e = .returned (.int .i64 (ownE l o 2 a (n : Int) : Int)) ∧ MRX w0 b t q l (storeP p l o a n bs) X w' ∧ ∀ k, X k → w'.heap[k]? = V.heap[k]? := by
  have h3 : ∀ k, X k → k < V.heap.size := by
    obtain ⟨_, _, _, _, h3, _⟩ := h
    exact h3
  refine h.step fun F1 F2 h1 h2 => store_any h1 a n c o S bs ha hn hc ⟨hS, fun ad e hne => ?_⟩
  have hx := hX ad e hne
  exact ⟨h3 _ hx, (h2 _ hx).2.1, (h2 _ hx).2.2, (h2 _ hx).1⟩
/-- what a reading answers: its bytes lie in blocks that are new -/
def RdX (w0 : World) (b t q : Nat) (l : Pg.Tb) (p : Pl) (X : Nat → Prop) (V : World) (E : Nat) (bs : List UInt8) (e : Ending) (w' : World) : Prop :=
  ∃ A m c, e = .returned (.tuple #[.slice A m c, .int .i64 (E : Int)]) ∧ m = bs.length ∧ w'.ownsRow V.heap.size 5 1 (.slice A m c) m (byt bs) ∧
    MRX w0 b t q l p (fun k => X k ∨ (Value.slice A m c).ownBlock = some k) w' ∧ (∀ k, X k → w'.heap[k]? = V.heap[k]?) ∧ Below V.heap.size V w'
theorem RdA.x {E : Nat} {bs : List UInt8} {e : Ending} {w' : World} (h : MRX w0 b t q l p X V) (hr : RdA V E bs e w') : RdX w0 b t q l p X V E bs e w' := by
  obtain ⟨A, m, c, rfl, rfl, h2, h3⟩ := hr
  obtain ⟨h4, h5⟩ := h.wide h3
  exact ⟨A, _, c, rfl, rfl, h2, h4.less fun k hk => hk.imp id fun e => h2.lt k e, h5, h3⟩
theorem MRX.load (h : MRX w0 b t q l p X V) (a : Nat) (n o : Int) (ha : a < 4294967296) : Calls Tryz.prog 12 #[bx b, .int .i64 o, .int .u32 (a : Int), .int .i64 n] V (RdX w0 b t q l p X V (ownE l o 1 a n) (if ownE l o 1 a n = 0 then rdB p l a n.toNat else [])) := by
  obtain ⟨F1, F2, h1, h2⟩ := id h
  exact (load_any h1 a n o ha).mono fun _ _ hr => RdA.x h hr
theorem MRX.peek (h : MRX w0 b t q l p X V) (a : Nat) (n : Int) (ha : a < 4294967296) : Calls Tryz.prog 13 #[bx b, .int .u32 (a : Int), .int .i64 n] V (RdX w0 b t q l p X V (hndE l a n) (if hndE l a n = 0 then rdB p l a n.toNat else [])) := by
  obtain ⟨F1, F2, h1, h2⟩ := id h
  exact (peek_any h1 a n ha).mono fun _ _ hr => RdA.x h hr
end
end Go.Proofs.YtkfljominljliaaGreat.Vm
