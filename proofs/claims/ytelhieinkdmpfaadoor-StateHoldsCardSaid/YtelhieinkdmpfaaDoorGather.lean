import Derived.Test.YtelhieinkdmpfaaDoorGen
import Derived.Test.YtelhieinkdmpfaaDoorBaseIn
namespace Go.Proofs.YtelhieinkdmpfaaDoor
open Go.RowKit Go.Shelf

/- A LIST THAT IS GATHERED FROM AN ITERATOR: 'for x := range g { l = append(l, x); if len(l) >= many { break } }'; elements of one cell. -/

section
variable {α : Type} {ti ts te : TypeId} {enc : α → Value} {w : World} {B2 many : Nat}
/-- what holds between two of the places: the list lies in block bl, how many in block bm -/
def Gat (ti ts te : TypeId) (enc : α → Value) (w : World) (bm bl B2 : Nat) (many : Nat) (pre : List α) (O : Nat → Prop) (V : World) : Prop :=
  ∃ v, Boxed V bl ts v ∧ Boxed V bm ti (.int .i64 (many : Int)) ∧ V.ownsRow B2 te 1 v pre.length (pre.map enc) ∧ (∀ k, v.ownBlock = some k → O k) ∧ Below w.heap.size w V
theorem Gat.abid {bm bl : Nat} (h : bm < B2 ∧ bl < B2 ∧ w.heap.size ≤ B2) : Abid B2 (Gat ti ts te enc w bm bl B2 many) := by
  rintro pre O V V' row ⟨v, h1, h2, h3, h4, h6⟩ hg hr
  have hne : ∀ k, (k < B2 ∨ O k) → some k ≠ row := fun k hk e => by
    have := hr k e.symm
    rcases hk with hk | hk
    · omega
    · exact this.2 hk
  exact ⟨v, h1.kept hg (hne _ (.inl (by omega))), h2.kept hg (hne _ (.inl (by omega))), own_same h3 (fun k hk => hg.block k (own_lt h3 hk) (hne k (.inr (h4 k hk)))), h4,
    h6.grown hg h6.size (fun k e => by have := hr k e; omega)⟩
def gatI (ti ts te : TypeId) (enc : α → Value) (w : World) (bm bl B2 : Nat) (many : Nat) (pre : List α) (O : Nat → Prop) (V : World) : Prop := Gat ti ts te enc w bm bl B2 many pre O V ∧ pre.length < many ∧ ∀ k, O k → B2 + 2 ≤ k
def gatX (ti ts te : TypeId) (enc : α → Value) (w : World) (bm bl B2 : Nat) (many : Nat) (c : Code) (pre : List α) (O : Nat → Prop) (V : World) : Prop := c = .exit 0 ∧ Gat ti ts te enc w bm bl B2 many pre O V ∧ pre.length = many ∧ ∀ k, O k → B2 + 2 ≤ k
theorem gatI.abid {bm bl : Nat} (h : bm < B2 ∧ bl < B2 ∧ w.heap.size ≤ B2) : Abid B2 (gatI ti ts te enc w bm bl B2 many) :=
  fun s O V V' row hp hg hr => ⟨Gat.abid h s O V V' row hp.1 hg hr, hp.2⟩
theorem gatX.abid {bm bl : Nat} (h : bm < B2 ∧ bl < B2 ∧ w.heap.size ≤ B2) (c : Code) : Abid B2 (gatX ti ts te enc w bm bl B2 many c) :=
  fun s O V V' row hp hg hr => ⟨hp.1, Gat.abid h s O V V' row hp.2.1 hg hr, hp.2.2⟩
end
/-- what a round does -/
theorem gat_round {α : Type} {ti ts te : TypeId} {enc : α → Value} {x : α} {w V w4 : World} {bm bl B2 many g4 cap4 cv : Nat} {Pv : Nat → Prop} {pre : List α} {O : Nat → Prop} {Av : Option Addr} {o : Obj} (hbx : bm < B2 ∧ bl < B2 ∧ w.heap.size ≤ B2) (hbl0 : w.heap.size ≤ bl) (hmb : bm ≠ bl) (hPv : ∀ k, Pv k → k < B2 ∧ k ≠ bl)
    (hOw : ∀ k, O k → B2 + 2 ≤ k) (hvO : ∀ k, (Value.slice Av pre.length cv).ownBlock = some k → O k) (hVs : B2 + 2 ≤ V.heap.size)
    (hown4 : w4.ownsRow B2 te 1 (.slice (some ⟨g4, 0, none⟩) (pre.length + 1) cap4) (pre.length + 1) (pre.map enc ++ [enc x]))
    (hg4 : (V.alloc o).grownBy w4 (Value.slice Av pre.length cv).ownBlock) (hv4 : (Value.slice (some ⟨g4, 0, none⟩) (pre.length + 1) cap4).ownBlock = (Value.slice Av pre.length cv).ownBlock ∨ (Value.slice (some ⟨g4, 0, none⟩) (pre.length + 1) cap4).ownBlock = some (V.alloc o).heap.size)
    (hbx4 : Boxed w4 bl ts (.slice Av pre.length cv)) (hbm4 : Boxed w4 bm ti (.int .i64 (many : Int))) (hbl : Below w.heap.size w V) (hsz : (V.alloc o).heap.size = V.heap.size + 1) :
    Keeps Pv B2 O (fun _ => False) V (w4.setCell ⟨bl, 0, none⟩ (.slice (some ⟨g4, 0, none⟩) (pre.length + 1) cap4)) ∧
      Gat ti ts te enc w bm bl B2 many (pre ++ [x]) (nextO O (fun _ => False) V (w4.setCell ⟨bl, 0, none⟩ (.slice (some ⟨g4, 0, none⟩) (pre.length + 1) cap4))) (w4.setCell ⟨bl, 0, none⟩ (.slice (some ⟨g4, 0, none⟩) (pre.length + 1) cap4)) ∧
      ∀ k, nextO O (fun _ => False) V (w4.setCell ⟨bl, 0, none⟩ (.slice (some ⟨g4, 0, none⟩) (pre.length + 1) cap4)) k → B2 + 2 ≤ k := by
  have hgs := hg4.size
  rw [hsz] at hgs
  obtain ⟨w5, hw5⟩ : ∃ w5, w5 = w4.setCell ⟨bl, 0, none⟩ (.slice (some ⟨g4, 0, none⟩) (pre.length + 1) cap4) := ⟨_, rfl⟩
  have hs5 : w5.heap.size = w4.heap.size := by rw [hw5]; simp [World.setCell]
  have hk5 : ∀ k, k ≠ bl → w5.heap[k]? = w4.heap[k]? := fun k hk => by rw [hw5]; exact Below.heap_setCell _ _ _ _ hk
  have hB5 : Boxed w5 bl ts (.slice (some ⟨g4, 0, none⟩) (pre.length + 1) cap4) := by rw [hw5]; exact hbx4.set _
  have hM5 : Boxed w5 bm ti (.int .i64 (many : Int)) := (hk5 _ hmb).trans hbm4
  have hwV := hbl.size
  have hb5 : Below w.heap.size w w5 := by
    rw [hw5]
    exact ((hbl.alloc hwV o).grown hg4 (by omega) (fun k hk => by have := hOw _ (hvO k hk); omega)).setCell hbl0 _
  rw [← hw5]
  refine ⟨⟨by omega, fun k hkl hp => ?_⟩, ⟨_, hB5, hM5, ?_, ?_, hb5⟩, nextO_ge hOw (fun _ h => h.elim) hVs⟩
  · have hno : ¬ O k := by
      rcases hp with h | ⟨_, h, _⟩
      · exact fun ho => by have := hOw k ho; have := (hPv k h).1; omega
      · exact h
    have hne : k ≠ bl := by
      rcases hp with h | ⟨h, _⟩
      · exact (hPv k h).2
      · omega
    exact (hk5 k hne).trans ((hg4.block k (by omega) (fun e => hno (hvO k e.symm))).trans (Below.heap_alloc _ _ _ hkl))
  · rw [List.length_append, List.length_singleton, show (pre ++ [x]).map enc = pre.map enc ++ [enc x] by simp]
    exact own_same hown4 (fun k e => hk5 k (by have := (hown4.lt k e).1; omega))
  · intro k hk
    have hlt := (hown4.lt k hk).2
    rcases hv4 with h | h
    · exact .inl (hvO k (h ▸ hk))
    · rw [hk] at h
      injection h with h
      exact .inr (.inr ⟨by omega, by omega⟩)

end Go.Proofs.YtelhieinkdmpfaaDoor
