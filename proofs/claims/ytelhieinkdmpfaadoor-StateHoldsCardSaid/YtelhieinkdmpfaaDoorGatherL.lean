import Derived.Test.YtelhieinkdmpfaaDoorGen
import Derived.Test.YtelhieinkdmpfaaDoorBaseIn
namespace Go.Proofs.YtelhieinkdmpfaaDoor
open Go.RowKit Go.Shelf

/- A LIST THAT IS GATHERED FROM AN ITERATOR: 'for x := range g { l = append(l, x); if len(l) >= many { break } }'; elements of kk cells; many a number of the code's own. -/

section
variable {α : Type} {ts te : TypeId} {enc : α → List Value} {kk : Nat} {w : World} {B2 many : Nat}
/-- what holds between two of the places: the list lies in block bl -/
def GatL (ts te : TypeId) (enc : α → List Value) (kk : Nat) (w : World) (bl B2 : Nat) (pre : List α) (O : Nat → Prop) (V : World) : Prop :=
  ∃ v, Boxed V bl ts v ∧ V.ownsRow B2 te kk v pre.length (pre.flatMap enc) ∧ (∀ k, v.ownBlock = some k → O k) ∧ Below w.heap.size w V
theorem GatL.abid {bl : Nat} (h : bl < B2 ∧ w.heap.size ≤ B2) : Abid B2 (GatL ts te enc kk w bl B2) := by
  rintro pre O V V' row ⟨v, h1, h3, h4, h6⟩ hg hr
  have hne : ∀ k, (k < B2 ∨ O k) → some k ≠ row := fun k hk e => by
    have := hr k e.symm
    rcases hk with hk | hk
    · omega
    · exact this.2 hk
  exact ⟨v, h1.kept hg (hne _ (.inl (by omega))), own_same h3 (fun k hk => hg.block k (own_lt h3 hk) (hne k (.inr (h4 k hk)))), h4,
    h6.grown hg h6.size (fun k e => by have := hr k e; omega)⟩
def gatLI (ts te : TypeId) (enc : α → List Value) (kk : Nat) (w : World) (bl B2 : Nat) (many : Nat) (pre : List α) (O : Nat → Prop) (V : World) : Prop := GatL ts te enc kk w bl B2 pre O V ∧ pre.length < many ∧ ∀ k, O k → B2 + 2 ≤ k
def gatLX (ts te : TypeId) (enc : α → List Value) (kk : Nat) (w : World) (bl B2 : Nat) (many ex : Nat) (c : Code) (pre : List α) (O : Nat → Prop) (V : World) : Prop := c = .exit ex ∧ GatL ts te enc kk w bl B2 pre O V ∧ pre.length = many ∧ ∀ k, O k → B2 + 2 ≤ k
theorem gatLI.abid {bl : Nat} (h : bl < B2 ∧ w.heap.size ≤ B2) : Abid B2 (gatLI ts te enc kk w bl B2 many) :=
  fun s O V V' row hp hg hr => ⟨GatL.abid h s O V V' row hp.1 hg hr, hp.2⟩
theorem gatLX.abid {bl ex : Nat} (h : bl < B2 ∧ w.heap.size ≤ B2) (c : Code) : Abid B2 (gatLX ts te enc kk w bl B2 many ex c) :=
  fun s O V V' row hp hg hr => ⟨hp.1, GatL.abid h s O V V' row hp.2.1 hg hr, hp.2.2⟩
end
/-- what a round does -/
theorem gatL_round {α : Type} {ts te : TypeId} {enc : α → List Value} {kk : Nat} {x : α} {w V w4 : World} {bl B2 g4 cap4 cv : Nat} {Pv : Nat → Prop} {pre : List α} {O : Nat → Prop} {Av : Option Addr} {o : Obj} (hbx : bl < B2 ∧ w.heap.size ≤ B2) (hbl0 : w.heap.size ≤ bl) (hPv : ∀ k, Pv k → k < B2 ∧ k ≠ bl)
    (hOw : ∀ k, O k → B2 + 2 ≤ k) (hvO : ∀ k, (Value.slice Av pre.length cv).ownBlock = some k → O k) (hVs : B2 + 2 ≤ V.heap.size)
    (hown4 : w4.ownsRow B2 te kk (.slice (some ⟨g4, 0, none⟩) (pre.length + 1) cap4) (pre.length + 1) (pre.flatMap enc ++ enc x))
    (hg4 : (V.alloc o).grownBy w4 (Value.slice Av pre.length cv).ownBlock) (hv4 : (Value.slice (some ⟨g4, 0, none⟩) (pre.length + 1) cap4).ownBlock = (Value.slice Av pre.length cv).ownBlock ∨ (Value.slice (some ⟨g4, 0, none⟩) (pre.length + 1) cap4).ownBlock = some (V.alloc o).heap.size)
    (hbx4 : Boxed w4 bl ts (.slice Av pre.length cv)) (hbl : Below w.heap.size w V) (hsz : (V.alloc o).heap.size = V.heap.size + 1) :
    Keeps Pv B2 O (fun _ => False) V (w4.setCell ⟨bl, 0, none⟩ (.slice (some ⟨g4, 0, none⟩) (pre.length + 1) cap4)) ∧
      GatL ts te enc kk w bl B2 (pre ++ [x]) (nextO O (fun _ => False) V (w4.setCell ⟨bl, 0, none⟩ (.slice (some ⟨g4, 0, none⟩) (pre.length + 1) cap4))) (w4.setCell ⟨bl, 0, none⟩ (.slice (some ⟨g4, 0, none⟩) (pre.length + 1) cap4)) ∧
      ∀ k, nextO O (fun _ => False) V (w4.setCell ⟨bl, 0, none⟩ (.slice (some ⟨g4, 0, none⟩) (pre.length + 1) cap4)) k → B2 + 2 ≤ k := by
  have hgs := hg4.size
  rw [hsz] at hgs
  obtain ⟨w5, hw5⟩ : ∃ w5, w5 = w4.setCell ⟨bl, 0, none⟩ (.slice (some ⟨g4, 0, none⟩) (pre.length + 1) cap4) := ⟨_, rfl⟩
  have hs5 : w5.heap.size = w4.heap.size := by rw [hw5]; simp [World.setCell]
  have hk5 : ∀ k, k ≠ bl → w5.heap[k]? = w4.heap[k]? := fun k hk => by rw [hw5]; exact Below.heap_setCell _ _ _ _ hk
  have hB5 : Boxed w5 bl ts (.slice (some ⟨g4, 0, none⟩) (pre.length + 1) cap4) := by rw [hw5]; exact hbx4.set _
  have hwV := hbl.size
  have hb5 : Below w.heap.size w w5 := by
    rw [hw5]
    exact ((hbl.alloc hwV o).grown hg4 (by omega) (fun k hk => by have := hOw _ (hvO k hk); omega)).setCell hbl0 _
  rw [← hw5]
  refine ⟨⟨by omega, fun k hkl hp => ?_⟩, ⟨_, hB5, ?_, ?_, hb5⟩, nextO_ge hOw (fun _ h => h.elim) hVs⟩
  · have hno : ¬ O k := by
      rcases hp with h | ⟨_, h, _⟩
      · exact fun ho => by have := hOw k ho; have := (hPv k h).1; omega
      · exact h
    have hne : k ≠ bl := by
      rcases hp with h | ⟨h, _⟩
      · exact (hPv k h).2
      · omega
    exact (hk5 k hne).trans ((hg4.block k (by omega) (fun e => hno (hvO k e.symm))).trans (Below.heap_alloc _ _ _ hkl))
  · rw [List.length_append, List.length_singleton, show (pre ++ [x]).flatMap enc = pre.flatMap enc ++ enc x by simp]
    exact own_same hown4 (fun k e => hk5 k (by have := (hown4.lt k e).1; omega))
  · intro k hk
    have hlt := (hown4.lt k hk).2
    rcases hv4 with h | h
    · exact .inl (hvO k (h ▸ hk))
    · rw [hk] at h
      injection h with h
      exact .inr (.inr ⟨by omega, by omega⟩)

theorem gatL_box {α : Type} {ts te : TypeId} {enc : α → List Value} {kk : Nat} {w V V1 W' : World} {bl B2 : Nat} {Pv : Nat → Prop} {pre : List α} {O : Nat → Prop} (hb : Below V.heap.size V V1) (hVs : B2 + 2 ≤ V.heap.size) (hOw : ∀ k, O k → B2 + 2 ≤ k)
    (h : Keeps Pv B2 O (fun _ => False) V1 W' ∧ GatL ts te enc kk w bl B2 pre (nextO O (fun _ => False) V1 W') W' ∧ ∀ k, nextO O (fun _ => False) V1 W' k → B2 + 2 ≤ k) :
    Keeps Pv B2 O (fun _ => False) V W' ∧ GatL ts te enc kk w bl B2 pre (nextO O (fun _ => False) V W') W' ∧ ∀ k, nextO O (fun _ => False) V W' k → B2 + 2 ≤ k := by
  obtain ⟨h1, ⟨v, g1, g3, g4, g5⟩, h3⟩ := h
  have hs := hb.size
  refine ⟨⟨Nat.le_trans hs h1.size, fun k hk hp => (h1.same k (by omega) hp).trans (hb.block k hk)⟩, ⟨v, g1, g3, fun k hk => ?_, g5⟩, fun k hk => ?_⟩
  · rcases g4 k hk with h | h | h
    · exact .inl h
    · exact h.elim
    · exact .inr (.inr ⟨by omega, h.2⟩)
  · rcases hk with h | h | h
    · exact hOw k h
    · exact h.elim
    · omega
end Go.Proofs.YtelhieinkdmpfaaDoor
