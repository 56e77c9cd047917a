import Derived.Test.YtelhieinkdmpfaaDoorBase
import Derived.Test.YtelhieinkdmpfaaDoorRange
import Derived.IntWalk
import Derived.RangeFuncBox
namespace Go.Proofs.YtelhieinkdmpfaaDoor
open Go.RowKit Go.Shelf

/- WHAT EVERY LAYER NEEDS: chains of worlds, blocks of cells, numbers, what changes but the blocks that something owns. -/

theorem below1 (w : World) (o : Obj) : Below w.heap.size w (w.alloc o) := (Below.refl _ _).alloc (Nat.le_refl _) _
theorem below2 (w : World) (o p : Obj) : Below w.heap.size w ((w.alloc o).alloc p) := (below1 w o).alloc (by simp) _
theorem below3 (w : World) (o p q : Obj) : Below w.heap.size w (((w.alloc o).alloc p).alloc q) := (below2 w o p).alloc (by simp; omega) _
theorem below0 {w w1 w2 : World} (h : Below w.heap.size w w1) (h2 : Below w1.heap.size w1 w2) : Below w.heap.size w w2 := h.trans (h2.mono h.size)
theorem bcell {W w1 : World} {n : Nat} (hb : Below n W w1) : (∀ b o, b < n → w1.cell? ⟨b, o, none⟩ = W.cell? ⟨b, o, none⟩) ∧ (∀ b o, b < n → w1.frozen? ⟨b, o, none⟩ = W.frozen? ⟨b, o, none⟩) :=
  ⟨fun b o h => hb.cell (p := ⟨b, o, none⟩) h, fun b o h => hb.frozen (p := ⟨b, o, none⟩) h⟩

theorem wrapN (a : Nat) (ha : a < 18446744073709551616) : IntKind.u64.wrap (a : Int) = (a : Int) := by rw [IntKind.wrap_u64]; omega
theorem wrapM (a : Nat) : IntKind.u64.wrap (a : Int) = ((a % 18446744073709551616 : Nat) : Int) := by rw [IntKind.wrap_u64]; omega
theorem wrapI (a : Int) (h1 : -9223372036854775808 ≤ a) (h2 : a ≤ 9223372036854775807) : IntKind.i64.wrap a = a := IntWalk.i64_in a (by omega)
theorem convN (a : Nat) (h : a ≤ 9223372036854775807) : IntKind.i64.wrap (a : Int) = (a : Int) := wrapI _ (by omega) (by omega)

theorem heap_set {V : World} {b o k : Nat} {v : Value} (h : k ≠ b) : (V.setCell ⟨b, o, none⟩ v).heap[k]? = V.heap[k]? := Below.heap_setCell _ _ _ _ h
theorem set_cells {V : World} {b o : Nat} {cs : Array Value} {t : TypeId} {fr : Nat × Nat} (v : Value) (h : V.heap[b]? = some (.cells cs t fr)) : (V.setCell ⟨b, o, none⟩ v).heap[b]? = some (.cells (cs.setIfInBounds o v) t fr) := by
  obtain ⟨hlt, hk⟩ := Array.getElem?_eq_some_iff.1 h
  show (V.heap.modify b _)[b]? = _
  rw [Array.getElem?_eq_getElem (by rw [Array.size_modify]; exact hlt), Array.getElem_modify_self, hk]
  rfl

/-- a block that holds just these cells, and may be written -/
def Row (V : World) (b : Nat) (t : TypeId) (l : List Value) : Prop := V.heap[b]? = some (.cells l.toArray t (0, 0))
theorem Row.lt {V : World} {b : Nat} {t : TypeId} {l : List Value} (h : Row V b t l) : b < V.heap.size := (Array.getElem?_eq_some_iff.1 h).1
theorem Row.cell {V : World} {b : Nat} {t : TypeId} {l : List Value} (h : Row V b t l) (o : Nat) : V.cell? ⟨b, o, none⟩ = l[o]? := by simp [World.cell?, show V.heap[b]? = _ from h]
theorem Row.frozen {V : World} {b : Nat} {t : TypeId} {l : List Value} (h : Row V b t l) (o : Nat) : V.frozen? ⟨b, o, none⟩ = false := by simp [World.frozen?, show V.heap[b]? = _ from h]
theorem Row.same {V V' : World} {b : Nat} {t : TypeId} {l : List Value} (h : Row V b t l) (hb : V'.heap[b]? = V.heap[b]?) : Row V' b t l := hb.trans h
theorem Row.below {V V' : World} {b : Nat} {t : TypeId} {l : List Value} (h : Row V b t l) (hb : Below V.heap.size V V') : Row V' b t l := h.same (hb.block _ h.lt)
theorem Row.new (V : World) (t : TypeId) (l : List Value) : Row (V.alloc (.cells l.toArray t)) V.heap.size t l := World.alloc_heap_new V _
theorem Row.new_at (V : World) (t : TypeId) (l : List Value) {g : Nat} (hg : V.heap.size = g) : Row (V.alloc (.cells l.toArray t)) g t l := by subst hg; exact Row.new V t l
theorem Row.set {V : World} {b : Nat} {t : TypeId} {l : List Value} (h : Row V b t l) (o : Nat) (v : Value) : Row (V.setCell ⟨b, o, none⟩ v) b t (l.set o v) := by
  have := set_cells (o := o) v h
  rw [List.setIfInBounds_toArray] at this
  exact this
theorem Row.sees {V : World} {b : Nat} {t : TypeId} {l : List Value} (h : Row V b t l) : Sees V V.heap.size (some ⟨b, 0, none⟩) l := fun _ =>
  ⟨_, rfl, h.lt, fun j u hu => by rw [add_plain, Nat.zero_add, h.cell]; exact hu⟩

/-- behind a step all is as it was, but for the blocks of F and new ones -/
structure Keep (F : Nat → Prop) (w w' : World) : Prop where
  os : w'.os = w.os
  tape : w'.tape = w.tape
  output : w'.output = w.output
  size : w.heap.size ≤ w'.heap.size
  block : ∀ k, k < w.heap.size → ¬ F k → w'.heap[k]? = w.heap[k]?
section
variable {F G : Nat → Prop} {w w1 w2 : World} {n : Nat}
theorem Keep.cell (h : Keep F w w1) {p : Addr} (hp : p.block < w.heap.size) (hf : ¬ F p.block) : w1.cell? p = w.cell? p := World.cell?_of_block (h.block _ hp hf)
theorem Keep.frozen (h : Keep F w w1) {p : Addr} (hp : p.block < w.heap.size) (hf : ¬ F p.block) : w1.frozen? p = w.frozen? p := by
  simp only [World.frozen?, h.block _ hp hf]
theorem Keep.refl (w : World) : Keep F w w := ⟨rfl, rfl, rfl, Nat.le_refl _, fun _ _ _ => rfl⟩
theorem Keep.mono (h : Keep F w w1) (hG : ∀ k, k < w.heap.size → F k → G k) : Keep G w w1 := ⟨h.os, h.tape, h.output, h.size, fun k hk hn => h.block k hk fun hf => hn (hG k hk hf)⟩
theorem Keep.trans (h : Keep F w w1) (h2 : Keep G w1 w2) (hG : ∀ k, k < w.heap.size → G k → F k) : Keep F w w2 :=
  ⟨h2.os.trans h.os, h2.tape.trans h.tape, h2.output.trans h.output, Nat.le_trans h.size h2.size, fun k hk hn => (h2.block k (Nat.lt_of_lt_of_le hk h.size) fun hg => hn (hG k hk hg)).trans (h.block k hk hn)⟩
theorem Keep.row (h : Keep F w w1) {b : Nat} {t : TypeId} {l : List Value} (hr : Row w b t l) (hf : ¬ F b) : Row w1 b t l := hr.same (h.block _ hr.lt hf)
theorem Keep.set (h : Keep F w w1) {b o : Nat} (v : Value) (hb : F b ∨ w.heap.size ≤ b) : Keep F w (w1.setCell ⟨b, o, none⟩ v) :=
  ⟨h.os, h.tape, h.output, by rw [World.size_setCell]; exact h.size, fun k hk hn => (heap_set (by rintro rfl; rcases hb with hb | hb; exact hn hb; omega)).trans (h.block k hk hn)⟩
theorem Keep.alloc (h : Keep F w w1) (o : Obj) : Keep F w (w1.alloc o) :=
  ⟨h.os, h.tape, h.output, by rw [World.size_alloc]; have := h.size; omega, fun k hk hn => (Below.heap_alloc _ _ _ (Nat.lt_of_lt_of_le hk h.size)).trans (h.block k hk hn)⟩
theorem Keep.of_below (h : Below w.heap.size w w1) : Keep F w w1 := ⟨h.os, h.tape, h.output, h.size, fun k hk _ => h.block k hk⟩
theorem Keep.below (h : Keep F w w1) (hF : ∀ k, F k → n ≤ k) (hn : n ≤ w.heap.size) : Below n w w1 :=
  ⟨h.os, h.tape, h.output, h.size, fun k hk => h.block k (by omega) fun hf => by have := hF k hf; omega⟩
theorem Keep.drewN (h : Keep F w w1) (k : Nat) : Keep F w (w1.drewN k) := ⟨h.os, h.tape, h.output, h.size, h.block⟩
end

theorem nextO_bound {O M : Nat → Prop} {B : Nat} {W W' : World} (hO : ∀ b, O b → B ≤ b ∧ b < W.heap.size) (hB : B ≤ W.heap.size) (hs : W.heap.size ≤ W'.heap.size) (hM : ∀ b, M b → B ≤ b ∧ b < W.heap.size := by exact fun _ h => h.elim) :
    ∀ b, nextO O M W W' b → B ≤ b ∧ b < W'.heap.size := by
  rintro b (h | h | h)
  · have := hO b h; omega
  · have := hM b h; omega
  · omega
theorem Abid.below {β : Type} {B : Nat} {J : β → (Nat → Prop) → World → Prop} (hJ : Abid B J) {s : β} {O : Nat → Prop} {W W' : World} (h : J s O W) (hb : Below W.heap.size W W') : J s O W' :=
  hJ _ _ _ _ none h ⟨hb.os, hb.tape, hb.output, hb.size, fun k hk _ => hb.block k hk⟩ (fun r e => by cases e)
end Go.Proofs.YtelhieinkdmpfaaDoor
