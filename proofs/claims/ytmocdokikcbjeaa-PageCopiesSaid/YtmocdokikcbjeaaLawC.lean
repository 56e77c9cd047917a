import Derived.Test.YtmocdokikcbjeaaActZ
import Derived.Test.YtmocdokikcbjeaaGen
import Derived.Test.YtmocdokikcbjeaaBaseIn
import Derived.Test.YtmocdokikcbjeaaIs
import Derived.Test.YtmocdokikcbjeaaLawP
namespace Go.Proofs.Ytmocdokikcbjeaa
open Go.RowKit Go.Shelf Go.Maps Go.Sort

/- A TABLE AND ITS COPY, THE DOCUMENT's ROWS, AND PAGES THAT WERE ASKED FOR: A CALL UPON EACH. -/

/-- behind the copy and the question: table b, its copy c, the rows, the answer's room -/
def C0 (w : World) (g b c bw bm : Nat) (l lo : Tb) (A' : Option Addr) (c' : Nat) (V : World) : Prop :=
  ∃ F G, Has V b l F ∧ Has V c l G ∧ (∀ k, F k → ¬ G k) ∧ (∀ k, F k ∨ G k → w.heap.size ≤ k ∧ k ≠ g ∧ k ≠ bw ∧ k ≠ bm) ∧ Row V g 29 [.slice A' l.length c'] ∧ l.length ≤ c' ∧ Lies V A' l ∧
    V.cell? ⟨bw, 0, none⟩ = some (.map (some bm)) ∧ PMap V bm lo ∧ Below w.heap.size w V
/-- behind the first call -/
def C1 (w : World) (g g1 a c bw bm : Nat) (l l1 lo : Tb) (A' : Option Addr) (c' : Nat) (A1 : Option Addr) (c1 : Nat) (V : World) : Prop :=
  ∃ F G, Has V a l1 F ∧ Has V c l G ∧ (∀ k, F k → ¬ G k) ∧ (∀ k, G k → w.heap.size ≤ k ∧ k ≠ g ∧ k ≠ g1 ∧ k ≠ bw ∧ k ≠ bm) ∧ Row V g 29 [.slice A' l.length c'] ∧ Row V g1 29 [.slice A1 l1.length c1] ∧ l.length ≤ c' ∧ Lies V A' l ∧ l1.length ≤ c1 ∧ Lies V A1 l1 ∧
    V.cell? ⟨bw, 0, none⟩ = some (.map (some bm)) ∧ PMap V bm lo ∧ Below w.heap.size w V
/-- behind both -/
structure C2 (w : World) (g g1 g2 a b bw bm : Nat) (l l1 l2 lo : Tb) (A' : Option Addr) (c' : Nat) (A1 : Option Addr) (c1 : Nat) (A2 : Option Addr) (c2 : Nat) (V : World) : Prop where
  one : ∃ F, Has V a l1 F
  two : ∃ G, Has V b l2 G
  row : Row V g 29 [.slice A' l.length c']
  row1 : Row V g1 29 [.slice A1 l1.length c1]
  row2 : Row V g2 29 [.slice A2 l2.length c2]
  lies : Lies V A' l
  lies1 : Lies V A1 l1
  lies2 : Lies V A2 l2
  box : V.cell? ⟨bw, 0, none⟩ = some (.map (some bm))
  pages : PMap V bm lo
  below : Below w.heap.size w V
theorem pmap_lt {V : World} {bm : Nat} {lo : Tb} (h : PMap V bm lo) : bm < V.heap.size := h.lt
theorem C0.act {w V : World} {g b c bw bm c' : Nat} {l lo : Tb} {A' : Option Addr} (h : C0 w g b c bw bm l lo A' c' V) (x : Ac) (hx : x.fits) :
    Calls Try.prog 10 #[bx b, .agg #[.slice A' l.length c'], .agg #[.int .i64 x.what, .int .i64 x.page, .int .i64 x.many, .int .i64 x.en.1, .int .i64 x.en.2.1, .int .i64 x.en.2.2]] V fun e V1 =>
      ∃ a A1 c1, e = .returned (.tuple #[bx a, .agg #[.slice A1 (stepT l x).length c1], .bool true]) ∧ V.heap.size ≤ V1.heap.size ∧ Below w.heap.size w V1 ∧
        C1 w g V1.heap.size a c bw bm l (stepT l x) lo A' c' A1 c1 (V1.alloc (.cells #[.slice A1 (stepT l x).length c1] 29)) := by
  obtain ⟨F, G, h1, h2, h3, h4, h5, h6, h7, h8, h9, h10⟩ := h
  have hFl := h1.lt
  have hGl := h2.lt
  have hgl := h5.lt
  have hbl := lt_of_cell h8
  have hml := pmap_lt h9
  simp only at hbl
  refine (act_any h1 h6 h7 x hx).mono ?_
  rintro e V1 ⟨a, F', A1, c1, rfl, g1, g2, g3, g5, g6⟩
  have hs := g3.size
  have nF : ∀ k, (k = g ∨ k = bw ∨ k = bm ∨ G k) → ¬ F k := by
    rintro k hk hf
    have := h4 k (.inl hf)
    rcases hk with rfl | rfl | rfl | hk
    · exact this.2.1 rfl
    · exact this.2.2.1 rfl
    · exact this.2.2.2 rfl
    · exact h3 k hf hk
  have hB1 : Below w.heap.size w V1 := h10.trans (g3.below (fun k hk => (h4 k (.inl hk)).1) h10.size)
  have hba := below1 V1 (.cells #[.slice A1 (stepT l x).length c1] 29)
  have hG1 : Has V1 c l G := h2.keep fun k hk => g3.block k (hGl k hk) (nF k (.inr (.inr (.inr hk))))
  refine ⟨a, A1, c1, rfl, hs, hB1, F', G, g1.below hba, hG1.below hba, ?_, ?_, (g3.row h5 (nF _ (.inl rfl))).below hba, Row.new V1 29 [.slice A1 (stepT l x).length c1], h6, (h1.apart h7 g3).below hba, g5, g6.below hba, ?_, ?_, below0 hB1 hba⟩
  · intro k hk hg
    rcases g2 k hk with h | h
    · exact h3 k h hg
    · have := hGl k hg; omega
  · intro k hk
    have h := h4 k (.inr hk)
    have := hGl k hk
    exact ⟨h.1, h.2.1, by omega, h.2.2⟩
  · exact (hba.cell (p := ⟨bw, 0, none⟩) (by show bw < _; omega)).trans ((g3.cell (p := ⟨bw, 0, none⟩) hbl (nF _ (.inr (.inl rfl)))).trans h8)
  · exact owns_same (owns_same h9 (g3.block _ hml (nF _ (.inr (.inr (.inl rfl)))))) (Below.heap_alloc _ _ _ (by omega))
theorem C1.act {w V : World} {g g1 a c bw bm c' c1 : Nat} {l l1 lo : Tb} {A' A1 : Option Addr} (h : C1 w g g1 a c bw bm l l1 lo A' c' A1 c1 V) (x : Ac) (hx : x.fits) :
    Calls Try.prog 10 #[bx c, .agg #[.slice A' l.length c'], .agg #[.int .i64 x.what, .int .i64 x.page, .int .i64 x.many, .int .i64 x.en.1, .int .i64 x.en.2.1, .int .i64 x.en.2.2]] V fun e V1 =>
      ∃ b A2 c2, e = .returned (.tuple #[bx b, .agg #[.slice A2 (stepT l x).length c2], .bool true]) ∧ V.heap.size ≤ V1.heap.size ∧
        C2 w g g1 V1.heap.size a b bw bm l l1 (stepT l x) lo A' c' A1 c1 A2 c2 (V1.alloc (.cells #[.slice A2 (stepT l x).length c2] 29)) := by
  obtain ⟨F, G, h1, h2, h3, h4, h5, h51, h6, h7, h61, h71, h8, h9, h10⟩ := h
  have hFl := h1.lt
  have hGl := h2.lt
  have hbl := lt_of_cell h8
  have hml := pmap_lt h9
  simp only at hbl
  refine (act_any h2 h6 h7 x hx).mono ?_
  rintro e V1 ⟨b, G', A2, c2, rfl, k1, k2, k3, k5, k6⟩
  have hs := k3.size
  have nG : ∀ k, (k = g ∨ k = g1 ∨ k = bw ∨ k = bm ∨ F k) → ¬ G k := by
    rintro k hk hf
    have := h4 k hf
    rcases hk with rfl | rfl | rfl | rfl | hk
    · exact this.2.1 rfl
    · exact this.2.2.1 rfl
    · exact this.2.2.2.1 rfl
    · exact this.2.2.2.2 rfl
    · exact h3 k hk hf
  have hB1 : Below w.heap.size w V1 := h10.trans (k3.below (fun k hk => (h4 k hk).1) h10.size)
  have hba := below1 V1 (.cells #[.slice A2 (stepT l x).length c2] 29)
  have hF1 : Has V1 a l1 F := h1.keep fun k hk => k3.block k (hFl k hk) (nG k (.inr (.inr (.inr (.inr hk)))))
  refine ⟨b, A2, c2, rfl, hs, ⟨⟨F, hF1.below hba⟩, ⟨G', k1.below hba⟩, (k3.row h5 (nG _ (.inl rfl))).below hba, (k3.row h51 (nG _ (.inr (.inl rfl)))).below hba, Row.new V1 29 [.slice A2 (stepT l x).length c2], (h2.apart h7 k3).below hba, (h2.apart h71 k3).below hba, k6.below hba, ?_, ?_, below0 hB1 hba⟩⟩
  · exact (hba.cell (p := ⟨bw, 0, none⟩) (by show bw < _; omega)).trans ((k3.cell (p := ⟨bw, 0, none⟩) hbl (nG _ (.inr (.inr (.inl rfl))))).trans h8)
  · exact owns_same (owns_same h9 (k3.block _ hml (nG _ (.inr (.inr (.inr (.inl rfl))))))) (Below.heap_alloc _ _ _ (by omega))
end Go.Proofs.Ytmocdokikcbjeaa

namespace Go.Proofs.Ytmocdokikcbjeaa
open Go.RowKit Go.Shelf

/- A LIST THAT IS GATHERED FROM AN ITERATOR: 'for x := range g { l = append(l, x); if len(l) >= many { break } }'; elements of kk cells; many a number of the code's own. -/

section
variable {α : Type} {ts te : TypeId} {enc : α → List Value} {kk : Nat} {w : World} {B2 many : Nat}
/-- what holds between two of the places: the list lies in block bl -/
def GatL (ts te : TypeId) (enc : α → List Value) (kk : Nat) (w : World) (bl B2 : Nat) (pre : List α) (O : Nat → Prop) (V : World) : Prop :=
  ∃ v, Boxed V bl ts v ∧ V.ownsRow B2 te kk v pre.length (pre.flatMap enc) ∧ (∀ k, v.ownBlock = some k → O k) ∧ Below w.heap.size w V
theorem GatL.abid {bl : Nat} (h : bl < B2 ∧ w.heap.size ≤ B2) : Abid B2 (GatL ts te enc kk w bl B2) := by
  rintro pre O V V' row ⟨v, h1, h3, h4, h6⟩ hg hr
  have hne : ∀ k, (k < B2 ∨ O k) → some k ≠ row := fun k hk e => by
    have := hr k e.symm
    rcases hk with hk | hk
    · omega
    · exact this.2 hk
  exact ⟨v, h1.kept hg (hne _ (.inl (by omega))), own_same h3 (fun k hk => hg.block k (own_lt h3 hk) (hne k (.inr (h4 k hk)))), h4,
    h6.grown hg h6.size (fun k e => by have := hr k e; omega)⟩
def gatLI (ts te : TypeId) (enc : α → List Value) (kk : Nat) (w : World) (bl B2 : Nat) (many : Nat) (pre : List α) (O : Nat → Prop) (V : World) : Prop := GatL ts te enc kk w bl B2 pre O V ∧ pre.length < many ∧ ∀ k, O k → B2 + 2 ≤ k
def gatLX (ts te : TypeId) (enc : α → List Value) (kk : Nat) (w : World) (bl B2 : Nat) (many ex : Nat) (c : Code) (pre : List α) (O : Nat → Prop) (V : World) : Prop := c = .exit ex ∧ GatL ts te enc kk w bl B2 pre O V ∧ pre.length = many ∧ ∀ k, O k → B2 + 2 ≤ k
theorem gatLI.abid {bl : Nat} (h : bl < B2 ∧ w.heap.size ≤ B2) : Abid B2 (gatLI ts te enc kk w bl B2 many) :=
  fun s O V V' row hp hg hr => ⟨GatL.abid h s O V V' row hp.1 hg hr, hp.2⟩
theorem gatLX.abid {bl ex : Nat} (h : bl < B2 ∧ w.heap.size ≤ B2) (c : Code) : Abid B2 (gatLX ts te enc kk w bl B2 many ex c) :=
  fun s O V V' row hp hg hr => ⟨hp.1, GatL.abid h s O V V' row hp.2.1 hg hr, hp.2.2⟩
end
/-- what a round does -/
theorem gatL_round {α : Type} {ts te : TypeId} {enc : α → List Value} {kk : Nat} {x : α} {w V w4 : World} {bl B2 g4 cap4 cv : Nat} {Pv : Nat → Prop} {pre : List α} {O : Nat → Prop} {Av : Option Addr} {o : Obj} (hbx : bl < B2 ∧ w.heap.size ≤ B2) (hbl0 : w.heap.size ≤ bl) (hPv : ∀ k, Pv k → k < B2 ∧ k ≠ bl)
    (hOw : ∀ k, O k → B2 + 2 ≤ k) (hvO : ∀ k, (Value.slice Av pre.length cv).ownBlock = some k → O k) (hVs : B2 + 2 ≤ V.heap.size)
    (hown4 : w4.ownsRow B2 te kk (.slice (some ⟨g4, 0, none⟩) (pre.length + 1) cap4) (pre.length + 1) (pre.flatMap enc ++ enc x))
    (hg4 : (V.alloc o).grownBy w4 (Value.slice Av pre.length cv).ownBlock) (hv4 : (Value.slice (some ⟨g4, 0, none⟩) (pre.length + 1) cap4).ownBlock = (Value.slice Av pre.length cv).ownBlock ∨ (Value.slice (some ⟨g4, 0, none⟩) (pre.length + 1) cap4).ownBlock = some (V.alloc o).heap.size)
    (hbx4 : Boxed w4 bl ts (.slice Av pre.length cv)) (hbl : Below w.heap.size w V) (hsz : (V.alloc o).heap.size = V.heap.size + 1) :
    Keeps Pv B2 O (fun _ => False) V (w4.setCell ⟨bl, 0, none⟩ (.slice (some ⟨g4, 0, none⟩) (pre.length + 1) cap4)) ∧
      GatL ts te enc kk w bl B2 (pre ++ [x]) (nextO O (fun _ => False) V (w4.setCell ⟨bl, 0, none⟩ (.slice (some ⟨g4, 0, none⟩) (pre.length + 1) cap4))) (w4.setCell ⟨bl, 0, none⟩ (.slice (some ⟨g4, 0, none⟩) (pre.length + 1) cap4)) ∧
      ∀ k, nextO O (fun _ => False) V (w4.setCell ⟨bl, 0, none⟩ (.slice (some ⟨g4, 0, none⟩) (pre.length + 1) cap4)) k → B2 + 2 ≤ k := by
  have hgs := hg4.size
  rw [hsz] at hgs
  obtain ⟨w5, hw5⟩ : ∃ w5, w5 = w4.setCell ⟨bl, 0, none⟩ (.slice (some ⟨g4, 0, none⟩) (pre.length + 1) cap4) := ⟨_, rfl⟩
  have hs5 : w5.heap.size = w4.heap.size := by rw [hw5]; simp [World.setCell]
  have hk5 : ∀ k, k ≠ bl → w5.heap[k]? = w4.heap[k]? := fun k hk => by rw [hw5]; exact Below.heap_setCell _ _ _ _ hk
  have hB5 : Boxed w5 bl ts (.slice (some ⟨g4, 0, none⟩) (pre.length + 1) cap4) := by rw [hw5]; exact hbx4.set _
  have hwV := hbl.size
  have hb5 : Below w.heap.size w w5 := by
    rw [hw5]
    exact ((hbl.alloc hwV o).grown hg4 (by omega) (fun k hk => by have := hOw _ (hvO k hk); omega)).setCell hbl0 _
  rw [← hw5]
  refine ⟨⟨by omega, fun k hkl hp => ?_⟩, ⟨_, hB5, ?_, ?_, hb5⟩, nextO_ge hOw (fun _ h => h.elim) hVs⟩
  · have hno : ¬ O k := by
      rcases hp with h | ⟨_, h, _⟩
      · exact fun ho => by have := hOw k ho; have := (hPv k h).1; omega
      · exact h
    have hne : k ≠ bl := by
      rcases hp with h | ⟨h, _⟩
      · exact (hPv k h).2
      · omega
    exact (hk5 k hne).trans ((hg4.block k (by omega) (fun e => hno (hvO k e.symm))).trans (Below.heap_alloc _ _ _ hkl))
  · rw [List.length_append, List.length_singleton, show (pre ++ [x]).flatMap enc = pre.flatMap enc ++ enc x by simp]
    exact own_same hown4 (fun k e => hk5 k (by have := (hown4.lt k e).1; omega))
  · intro k hk
    have hlt := (hown4.lt k hk).2
    rcases hv4 with h | h
    · exact .inl (hvO k (h ▸ hk))
    · rw [hk] at h
      injection h with h
      exact .inr (.inr ⟨by omega, by omega⟩)

theorem gatL_box {α : Type} {ts te : TypeId} {enc : α → List Value} {kk : Nat} {w V V1 W' : World} {bl B2 : Nat} {Pv : Nat → Prop} {pre : List α} {O : Nat → Prop} (hb : Below V.heap.size V V1) (hVs : B2 + 2 ≤ V.heap.size) (hOw : ∀ k, O k → B2 + 2 ≤ k)
    (h : Keeps Pv B2 O (fun _ => False) V1 W' ∧ GatL ts te enc kk w bl B2 pre (nextO O (fun _ => False) V1 W') W' ∧ ∀ k, nextO O (fun _ => False) V1 W' k → B2 + 2 ≤ k) :
    Keeps Pv B2 O (fun _ => False) V W' ∧ GatL ts te enc kk w bl B2 pre (nextO O (fun _ => False) V W') W' ∧ ∀ k, nextO O (fun _ => False) V W' k → B2 + 2 ≤ k := by
  obtain ⟨h1, ⟨v, g1, g3, g4, g5⟩, h3⟩ := h
  have hs := hb.size
  refine ⟨⟨Nat.le_trans hs h1.size, fun k hk hp => (h1.same k (by omega) hp).trans (hb.block k hk)⟩, ⟨v, g1, g3, fun k hk => ?_, g5⟩, fun k hk => ?_⟩
  · rcases g4 k hk with h | h | h
    · exact .inl h
    · exact h.elim
    · exact .inr (.inr ⟨by omega, h.2⟩)
  · rcases hk with h | h | h
    · exact hOw k h
    · exact h.elim
    · omega
end Go.Proofs.Ytmocdokikcbjeaa

namespace Go.Proofs.Ytmocdokikcbjeaa
open Go.RowKit Go.Shelf Go.Maps Go.Sort
attribute [local go_sem] Oper.semAt_some

/- PAGECOPIES. -/
/-- two calls, by value -/
abbrev twoC (x y : Ac) : Array Value := #[.int .i64 x.what, .int .i64 x.page, .int .i64 x.many, .int .i64 x.en.1, .int .i64 x.en.2.1, .int .i64 x.en.2.2, .int .i64 y.what, .int .i64 y.page, .int .i64 y.many, .int .i64 y.en.1, .int .i64 y.en.2.1, .int .i64 y.en.2.2]
/-- a call within the loop -/
theorem PlS.step {w V V0 : World} {g4 b c' : Nat} {l : Tb} {A' : Option Addr} (h : PlS w g4 b l V) (h4 : V.cell? ⟨g4, 0, none⟩ = some (.slice A' l.length c')) (hb : Below V.heap.size V V0) (x : Ac) (hx : x.fits) :
    Calls Try.prog 10 #[bx b, .agg #[.slice A' l.length c'], .agg #[.int .i64 x.what, .int .i64 x.page, .int .i64 x.many, .int .i64 x.en.1, .int .i64 x.en.2.1, .int .i64 x.en.2.2]] V0 fun e V1 =>
      ∃ b' A'' c'', e = .returned (.tuple #[bx b', .agg #[.slice A'' (stepT l x).length c''], .bool true]) ∧ V1.cell? ⟨g4, 0, none⟩ = some (.slice A' l.length c') ∧ V1.frozen? ⟨g4, 0, none⟩ = false ∧ Below w.heap.size w V1 ∧
        Below w.heap.size w (V1.setCell ⟨g4, 0, none⟩ (.slice A'' (stepT l x).length c'')) ∧ PlS w g4 b' (stepT l x) (V1.setCell ⟨g4, 0, none⟩ (.slice A'' (stepT l x).length c'')).drew ∧ PlS w g4 b' (stepT l x) (V1.setCell ⟨g4, 0, none⟩ (.slice A'' (stepT l x).length c'')) := by
  obtain ⟨F, A2, c2, h1, h2, h3, h5, h6, h7, h8⟩ := h
  have e := (h3.cell 0).symm.trans h4
  simp only [List.getElem?_cons_zero, Option.some.injEq, Value.slice.injEq, true_and] at e
  obtain ⟨rfl, rfl⟩ := e
  have hlt := h3.lt
  refine (act_any (h1.below hb) h5 (h6.below hb) x hx).mono ?_
  rintro e V1 ⟨b', F', A'', c'', rfl, g1, g2, g3, g5, g6⟩
  have r4 := g3.row (h3.below hb) (fun hf => (h2 _ hf).2 rfl)
  have hbs := hb.size
  have hF' : ∀ q, F' q → w.heap.size ≤ q ∧ q ≠ g4 := fun q hq => by
    rcases g2 q hq with h | h
    · exact h2 q h
    · have := h7.size
      exact ⟨by omega, by omega⟩
  have hB1 : Below w.heap.size w V1 := (below0 h7 hb).trans (g3.below (fun k hk => (h2 k hk).1) (below0 h7 hb).size)
  have hS : PlS w g4 b' (stepT l x) (V1.setCell ⟨g4, 0, none⟩ (.slice A'' (stepT l x).length c'')) :=
    ⟨F', A'', c'', g1.keep fun k hk => heap_set (hF' k hk).2, hF', r4.set 0 _, g5, lies_set g6 r4 (by simp), hB1.setCell h8 _, h8⟩
  refine ⟨b', A'', c'', rfl, r4.cell 0, r4.frozen 0, hB1, hB1.setCell h8 _, ?_, hS⟩
  obtain ⟨F1, A1, c1, k1, k2, k3, k4, k5, k6, k7⟩ := hS
  have hd : Below (V1.setCell ⟨g4, 0, none⟩ (.slice A'' (stepT l x).length c'')).heap.size (V1.setCell ⟨g4, 0, none⟩ (.slice A'' (stepT l x).length c'')) (V1.setCell ⟨g4, 0, none⟩ (.slice A'' (stepT l x).length c'')).drew := (Below.refl _ _).drew
  exact ⟨F1, A1, c1, k1.below hd, k2, k3.below hd, k4, k5.below hd, below0 k6 hd, k7⟩
theorem rsame_below (a b : Tb) (A B : Option Addr) (c d : Nat) (w0 w : World) (hn : a.length ≤ 4611686018427387904) (hb : Below w0.heap.size w0 w) (hA : Lies w0 A a) (hB : Lies w0 B b) :
    Calls Try.prog 15 #[.slice A a.length c, .slice B b.length d] w fun e w' => e = .returned (.bool (decide (a = b))) ∧ Below w0.heap.size w0 w' :=
  (rsame_any a b A B c d _ _ w rfl rfl hn (hA.below hb) (hB.below hb)).mono fun _ _ ⟨e1, q, e2⟩ => ⟨e1, e2 ▸ below_drewN hb q⟩
section
variable {w V : World} {g g1 g2 a b bw bm c' c1 c2 : Nat} {l l1 l2 lo : Tb} {A' A1 A2 : Option Addr}
theorem C2.is1 (h : C2 w g g1 g2 a b bw bm l l1 l2 lo A' c' A1 c1 A2 c2 V) (hl : l1.length ≤ 100) (W : World) (hb : Below V.heap.size V W) :
    Calls Try.prog 11 #[bx a, .agg #[.slice A1 l1.length c1]] W fun e w' => e = .returned (.bool true) ∧ Below V.heap.size V w' := by
  obtain ⟨F, h1⟩ := h.one
  exact (is_any (h1.below hb) (h.lies1.below hb) hl).mono fun _ _ ⟨e1, e2⟩ => ⟨e1, below0 hb e2⟩
theorem C2.is2 (h : C2 w g g1 g2 a b bw bm l l1 l2 lo A' c' A1 c1 A2 c2 V) (hl : l2.length ≤ 100) (W : World) (hb : Below V.heap.size V W) :
    Calls Try.prog 11 #[bx b, .agg #[.slice A2 l2.length c2]] W fun e w' => e = .returned (.bool true) ∧ Below V.heap.size V w' := by
  obtain ⟨F, h1⟩ := h.two
  exact (is_any (h1.below hb) (h.lies2.below hb) hl).mono fun _ _ ⟨e1, e2⟩ => ⟨e1, below0 hb e2⟩
theorem C2.same (h : C2 w g g1 g2 a b bw bm l l1 l2 lo A' c' A1 c1 A2 c2 V) (W : World) (hb : Below V.heap.size V W) :
    Calls Try.prog 12 #[bx a, bx b] W fun e w' => e = .returned (.bool (decide (l1 = l2))) ∧ Below V.heap.size V w' := by
  obtain ⟨F, p1, f1, h1, _⟩ := h.one
  obtain ⟨G, p2, f2, h2, _⟩ := h.two
  exact (Same_any (h1.below hb) (h2.below hb)).mono fun _ _ ⟨e1, e2⟩ => ⟨e1, below0 hb e2⟩
theorem C2.same' (h : C2 w g g1 g2 a b bw bm l l1 l2 lo A' c' A1 c1 A2 c2 V) (W : World) (hb : Below V.heap.size V W) :
    Calls Try.prog 12 #[bx b, bx a] W fun e w' => e = .returned (.bool (decide (l1 = l2))) ∧ Below V.heap.size V w' := by
  obtain ⟨F, p1, f1, h1, _⟩ := h.one
  obtain ⟨G, p2, f2, h2, _⟩ := h.two
  refine (Same_any (h2.below hb) (h1.below hb)).mono fun _ _ ⟨e1, e2⟩ => ⟨e1.trans ?_, below0 hb e2⟩
  rw [show decide (l2 = l1) = decide (l1 = l2) by rw [decide_eq_decide]; exact eq_comm]
theorem C2.rows (h : C2 w g g1 g2 a b bw bm l l1 l2 lo A' c' A1 c1 A2 c2 V) (hl : l1.length ≤ 100) (W : World) (hb : Below V.heap.size V W) :
    Calls Try.prog 15 #[.slice A1 l1.length c1, .slice A2 l2.length c2] W fun e w' => e = .returned (.bool (decide (l1 = l2))) ∧ Below V.heap.size V w' :=
  rsame_below l1 l2 A1 A2 c1 c2 V W (by omega) hb h.lies1 h.lies2
end
theorem row_take : ∀ (l : Tb) (k : Nat), (l.flatMap encR).take (k * 4) = (l.take k).flatMap encR
  | [], k => by simp
  | r :: t, 0 => by simp
  | r :: t, k + 1 => by
    have := row_take t k
    rw [List.flatMap_cons, List.take_succ_cons, List.flatMap_cons, show (k + 1) * 4 = (encR r).length + k * 4 by show _ = 4 + _; omega, List.take_length_add_append, this]
/-- the law's frame up to the range: what stands in memory -/
theorem copies_long {A : Option Addr} {n c : Nat} {x y : Ac} {o : Int} (w : World) (hn : 30 < n) :
    Calls Try.prog 4 #[.slice A n c, .agg (twoC x y), .int .i64 o] w fun e w' => e = .returned (.bool true) ∧ Below w.heap.size w w' := by
  have hwk := Lib.hid (fun w => works_any w)
  have hba := Lib.hid (below1 w (.cells (twoC x y) 40))
  have e1 : decide ((30 : Int) < (n : Int)) = true := decide_eq_true (by omega)
  go_enter Try.func4, Try.ntmps4
  go_wp2_with fail
  refine (hwk.out _).mono ?_
  rintro e w1 ⟨rfl, hb⟩
  have hf := Lib.hid (below0 hba.out hb)
  clear hb
  go_wp2_with fail
  go_ret
  exact ⟨rfl, hf.out⟩
set_option maxRecDepth 100000 in
set_option maxHeartbeats 8000000 in
theorem copies_main (l : List Ac) (A : Option Addr) (n c : Nat) (x y : Ac) (o : Int) (w : World) (h : Acs w l A) (hl : l.length = n) (hn : n ≤ 30) (hx : x.fits) (hy : y.fits) :
    Calls Try.prog 4 #[.slice A n c, .agg (twoC x y), .int .i64 o] w fun e w' => e = .returned (.bool true) ∧ Below w.heap.size w w' := by
  have hwk := Lib.hid (fun w => works_any w)
  have hnn : ∀ bo w, (binOp .eql 42 (.func (.func 37) #[] #[.pointer (some ⟨bo, 0, none⟩)]) .nilFunc).run Try.prog w = .ok (.bool false) w := fun bo w => by kernel_rfl
  have HNN := Lib.hid hnn
  obtain ⟨j0, hi, hj0, hj1, hj2⟩ := info_parts row_info
  have e1 : decide ((30 : Int) < (n : Int)) = false := decide_eq_false (by omega)
  obtain ⟨W0, hW0⟩ : ∃ W0, W0 = w.alloc (.cells (twoC x y) 40) := ⟨_, rfl⟩
  have hBA : Below w.heap.size w W0 := by rw [hW0]; exact below1 _ _
  have hX : Row W0 w.heap.size 40 [.int .i64 x.what, .int .i64 x.page, .int .i64 x.many, .int .i64 x.en.1, .int .i64 x.en.2.1, .int .i64 x.en.2.2, .int .i64 y.what, .int .i64 y.page, .int .i64 y.many, .int .i64 y.en.1, .int .i64 y.en.2.1, .int .i64 y.en.2.2] := by rw [hW0]; exact Row.new w _ [.int .i64 x.what, .int .i64 x.page, .int .i64 x.many, .int .i64 x.en.1, .int .i64 x.en.2.1, .int .i64 x.en.2.2, .int .i64 y.what, .int .i64 y.page, .int .i64 y.many, .int .i64 y.en.1, .int .i64 y.en.2.1, .int .i64 y.en.2.2]
  have HX := Lib.hid hX
  have HA := Lib.hid (h.below hBA)
  have HL := Lib.hid hl
  have HBA := Lib.hid hBA
  clear h hl hX hnn hBA
  refine calls_marks Try.func4 rfl ?_
  simp only [Try.ntmps4, List.size_toArray, List.length_cons, List.length_nil, Nat.reduceAdd, Nat.reduceSub, Array.replicate_succ, Array.replicate_zero, List.push_toArray, List.append_toArray, List.nil_append, List.cons_append]
  go_wp2_with fail
  rw [← hW0]
  clear hW0
  refine (Run.new _).mono ?_
  rintro e w1 ⟨b0, rfl, R1⟩
  have hP0 : PlS W0 w1.heap.size b0 [] (w1.alloc (.cells #[.slice none 0 0] 29)) := by
    obtain ⟨F, h1, h2, h3⟩ := R1
    have hlt := h1.lt
    have hba := below1 w1 (.cells #[.slice none 0 0] 29)
    exact ⟨F, none, 0, h1.below hba, fun q hq => ⟨h2 q hq, by have := hlt q hq; omega⟩, Row.new w1 29 [.slice none 0 0], Nat.le_refl _, Sees.nil_, below0 h3 hba, h3.size⟩
  clear R1
  go_wp2_with fail
  obtain ⟨g, hg⟩ : ∃ g, g = w1.heap.size := ⟨_, rfl⟩
  rw [← hg] at hP0 ⊢
  obtain ⟨w2, hw2⟩ : ∃ w2, w2 = w1.alloc (.cells #[.slice none 0 0] 29) := ⟨_, rfl⟩
  rw [← hw2] at hP0 ⊢
  clear hw2 hg
  go_loopw [7, 9] (fun s7 s9 V => ∃ k b l', s7 = bx b ∧ s9 = .int .i64 ((k : Nat) : Int) ∧ k ≤ n ∧ l'.length ≤ k ∧ PlS W0 g b l' V) (fun _ s9 _ => n - (_root_.Go.RowKit.intOf s9).toNat)
  case atStart => exact ⟨0, b0, [], rfl, rfl, Nat.zero_le _, Nat.le_refl _, hP0⟩
  case round =>
    obtain ⟨k, b, l', rfl, rfl, hk, hlen, hP⟩ := hrel
    clear hP0
    by_cases hlt : k < n
    · have i0 : (0 : Int) ≤ (k : Int) := by omega
      have i1 : (k : Int) < (n : Int) := by omega
      have j1 : decide ((k : Int) < (n : Int)) = true := decide_eq_true i1
      have hkl : k < l.length := by rw [HL.out]; exact hlt
      have HS0 : ∃ ad, A = some ad ∧ ∀ W, Below W0.heap.size W0 W → AcAt W ad k l[k] := by
        obtain ⟨ad, e, _⟩ := HA.out.at_ k hkl
        refine ⟨ad, e, fun W hb => ?_⟩
        obtain ⟨ad', e', h'⟩ := (HA.out.below hb).at_ k hkl
        rw [e] at e'
        obtain rfl := Option.some.inj e'
        exact h'
      obtain ⟨ad, rfl, hS⟩ := HS0
      have hfit := HA.out.fits _ (List.getElem_mem hkl)
      obtain ⟨z, hz⟩ : ∃ z, z = l[k] := ⟨_, rfl⟩
      rw [← hz] at hS hfit
      clear hz
      obtain ⟨wh, pg, mn, en⟩ := z
      obtain ⟨o1, o2, o3⟩ := en
      obtain ⟨A', c', h4, hBw⟩ : ∃ A' c', wr.cell? ⟨g, 0, none⟩ = some (.slice A' l'.length c') ∧ Below W0.heap.size W0 wr := by
        obtain ⟨F, A', c', _, _, h3, _, _, h7, _⟩ := hP
        exact ⟨A', c', h3.cell 0, h7⟩
      have HSS := Lib.hid (fun (W : World) (hb : Below W0.heap.size W0 W) => (show (W.cell? (ad.add (k * 6)) = some (.int .i64 wh) ∧ W.cell? ⟨(ad.add (k * 6)).block, (ad.add (k * 6)).off + 1, none⟩ = some (.int .i64 pg) ∧ W.cell? ⟨(ad.add (k * 6)).block, (ad.add (k * 6)).off + 2, none⟩ = some (.int .i64 mn) ∧ W.cell? ⟨(ad.add (k * 6)).block, (ad.add (k * 6)).off + 3, none⟩ = some (.int .i64 o1) ∧ W.cell? ⟨(ad.add (k * 6)).block, (ad.add (k * 6)).off + 4, none⟩ = some (.int .i64 o2) ∧ W.cell? ⟨(ad.add (k * 6)).block, (ad.add (k * 6)).off + 5, none⟩ = some (.int .i64 o3)) from
        ⟨(hS W hb).c0, (hS W hb).c1, (hS W hb).c2, (hS W hb).c3, (hS W hb).c4, (hS W hb).c5⟩))
      have hbd : Below wr.heap.size wr wr.drew := (Below.refl _ _).drew
      have HACT := Lib.hid (PlS.step hP h4 hbd ⟨wh, pg, mn, (o1, o2, o3)⟩ hfit)
      have hls := step_len l' ⟨wh, pg, mn, (o1, o2, o3)⟩
      obtain ⟨l2, hl2⟩ : ∃ l2, l2 = stepT l' ⟨wh, pg, mn, (o1, o2, o3)⟩ := ⟨_, rfl⟩
      rw [← hl2] at HACT hls
      obtain ⟨L, hL⟩ : ∃ L, L = l'.length := ⟨_, rfl⟩
      rw [← hL] at HACT h4
      have hL50 : L ≤ k := by omega
      rw [← hL] at hls
      clear hL hl2 hlen
      have HBW := Lib.hid (below0 hBw hbd)
      have ew : IntKind.i64.wrap ((k : Int) + 1) = (k : Int) + 1 := wrapI _ (by omega) (by omega)
      clear hP hS hfit hBw hbd
      go_wp2_with fail
      refine wp_region_noPanic ?_
      refine wp_region_held_drew (S := fun W => W.cell? (ad.add (k * 6)) = some (.int .i64 wh) ∧ W.cell? ⟨(ad.add (k * 6)).block, (ad.add (k * 6)).off + 1, none⟩ = some (.int .i64 pg) ∧ W.cell? ⟨(ad.add (k * 6)).block, (ad.add (k * 6)).off + 2, none⟩ = some (.int .i64 mn) ∧ W.cell? ⟨(ad.add (k * 6)).block, (ad.add (k * 6)).off + 3, none⟩ = some (.int .i64 o1) ∧ W.cell? ⟨(ad.add (k * 6)).block, (ad.add (k * 6)).off + 4, none⟩ = some (.int .i64 o2) ∧ W.cell? ⟨(ad.add (k * 6)).block, (ad.add (k * 6)).off + 5, none⟩ = some (.int .i64 o3)) (by kernel_rfl) ?_ (fun hHeld => ?_)
      · exact HSS.out _ HBW.out
      refine wpAnyH_take (i := 0) (v := ?_) rfl (by kernel_rfl) (by kernel_rfl) (by kernel_rfl) (fun _ _ _ h => h) (Or.inl ⟨by kernel_rfl, ?_⟩) hHeld ?_
      rotate_left
      focus (intro w hSw; (try dsimp only at hSw); go_simp; try with_reducible rfl)
      simp only [Act.put]
      refine wpAnyH_take (i := 2) (v := ?_) rfl (by kernel_rfl) (by kernel_rfl) (by kernel_rfl) (fun _ _ _ h => h) (Or.inl ⟨by kernel_rfl, ?_⟩) hHeld ?_
      rotate_left
      focus (intro w hSw; (try dsimp only at hSw); go_simp; try with_reducible rfl)
      simp only [Act.put]
      refine wpAnyH_take (i := 3) (v := ?_) rfl (by kernel_rfl) (by kernel_rfl) (by kernel_rfl) (fun _ _ _ h => h) (Or.inl ⟨by kernel_rfl, ?_⟩) hHeld ?_
      rotate_left
      focus (intro w hSw; (try dsimp only at hSw); go_simp; try with_reducible rfl)
      simp only [Act.put]
      refine wpAnyH_take (i := 4) (v := ?_) rfl (by kernel_rfl) (by kernel_rfl) (by kernel_rfl) (fun _ _ _ h => h) (Or.inl ⟨by kernel_rfl, ?_⟩) hHeld ?_
      rotate_left
      focus (intro w hSw; (try dsimp only at hSw); go_simp; try with_reducible rfl)
      simp only [Act.put]
      refine wpAnyH_take (i := 5) (v := ?_) rfl (by kernel_rfl) (by kernel_rfl) (by kernel_rfl) (fun _ _ _ h => h) (Or.inl ⟨by kernel_rfl, ?_⟩) hHeld ?_
      rotate_left
      focus (intro w hSw; (try dsimp only at hSw); go_simp; try with_reducible rfl)
      simp only [Act.put]
      refine wpAnyH_ready (rs := [1]) (by kernel_rfl) (by simp) ?_
      refine AllReadyH.cons rfl (fun K hK => ?_) (AllReadyH.nil)
      go_simp
      refine hK.out _ _ ?_ (fun hHeld => ?_)
      · exact HSS.out _ HBW.out
      clear hK K
      try simp only [Act.put]
      refine wpAnyH_ready (rs := [6]) (by kernel_rfl) (by simp) ?_
      refine AllReadyH.cons rfl (fun K hK => ?_) (AllReadyH.nil)
      go_simp
      refine (HACT.out).mono ?_
      rintro e V1 ⟨b', A2, c2, rfl, k4, z4, hB1, hB2, hq1, hq2⟩
      refine hK.out _ _ ?_ (fun hHeld => ?_)
      · exact HSS.out _ hB1
      clear hK K
      try simp only [Act.put]
      refine wpAnyH_take (i := 7) (v := ?_) rfl (by kernel_rfl) (by kernel_rfl) (by kernel_rfl) (fun _ _ _ h => h) (Or.inl ⟨by kernel_rfl, ?_⟩) hHeld ?_
      rotate_left
      focus (intro w hSw; (try dsimp only at hSw); go_simp; try with_reducible rfl)
      simp only [Act.put]
      refine wpAnyH_take (i := 8) (v := ?_) rfl (by kernel_rfl) (by kernel_rfl) (by kernel_rfl) (fun _ _ _ h => h) (Or.inl ⟨by kernel_rfl, ?_⟩) hHeld ?_
      rotate_left
      focus (intro w hSw; (try dsimp only at hSw); go_simp; try with_reducible rfl)
      simp only [Act.put]
      refine wpAnyH_take (i := 9) (v := ?_) rfl (by kernel_rfl) (by kernel_rfl) (by kernel_rfl) (fun _ _ _ h => h) (Or.inl ⟨by kernel_rfl, ?_⟩) hHeld ?_
      rotate_left
      focus (intro w hSw; (try dsimp only at hSw); go_simp; try with_reducible rfl)
      simp only [Act.put]
      refine wpAnyH_take (i := 10) (v := ?_) rfl (by kernel_rfl) (by kernel_rfl) (by kernel_rfl) (fun _ _ _ h => h) (Or.inl ⟨by kernel_rfl, ?_⟩) hHeld ?_
      rotate_left
      focus (intro w hSw; (try dsimp only at hSw); go_simp; try with_reducible rfl)
      simp only [Act.put]
      refine wpAnyH_ready (rs := [11]) (by kernel_rfl) (by simp) ?_
      refine AllReadyH.cons rfl (fun K hK => ?_) (AllReadyH.nil)
      go_simp
      refine hK.out _ _ ?_ (fun hHeld => ?_)
      · exact HSS.out _ hB1
      clear hK K
      try simp only [Act.put]
      refine wpAnyH_ready (rs := [12]) (by kernel_rfl) (by simp) ?_
      refine AllReadyH.cons rfl (fun K hK => ?_) (AllReadyH.nil)
      go_simp
      refine hK.out _ _ ?_ (fun hHeld => ?_)
      · exact HSS.out _ hB2
      clear hK K
      try simp only [Act.put]
      refine wpAnyH_done (by kernel_rfl) ?_ _
      refine NoPanic.normal ?_
      have HR := Lib.hid hq2
      clear z4 k4 h4 hB1 hB2 hq1 hq2
      go_wp2_with fail
      go_roundw
      case rel => exact ⟨k + 1, b', l2, rfl, by go_num, by omega, by omega, HR.out⟩
      case measure => simp [_root_.Go.RowKit.intOf]; omega
    · obtain rfl : k = n := by omega
      have j1 : decide ((k : Int) < (k : Int)) = false := decide_eq_false (by omega)
      obtain ⟨F, A', c', h1, h2, h3, h5, h6, h7, h8⟩ := hP
      have hFl := h1.lt
      have hgl := h3.lt
      obtain ⟨bp, bf, hrep, hFe⟩ := h1
      have HCP := Lib.hid (Copy_any hrep)
      have HREP := Lib.hid hrep
      clear hrep
      go_wp2_with fail
      refine (HCP.out).mono ?_
      rintro e V1 ⟨cb, G, rfl, hG, hGs, hb1⟩
      have HAL := Lib.hid (allF_any (HREP.out.below hb1) o)
      have hGl := hG.lt
      have hs1 := hb1.size
      clear HCP
      go_wp2_with fail
      refine (HAL.out).mono ?_
      rintro e V2 ⟨bw, bm, rfl, hbw, hbm, hcw, hpm, hb2⟩
      have hC0 : C0 W0 g b cb bw bm l' (ofO l' o) A' c' V2 := by
        have hb12 := below0 hb1 hb2
        have hs7 := h7.size
        refine ⟨F, G, ⟨bp, bf, HREP.out.below hb12, hFe⟩, hG.below hb2, fun q hf hq => ?_, ?_, h3.below hb12, h5, h6.below hb12, hcw, hpm, below0 h7 hb12⟩
        · have := hFl q hf
          have := hGs q hq
          omega
        · rintro q (hf | hq)
          · have := hFl q hf
            exact ⟨(h2 q hf).1, (h2 q hf).2, by omega, by omega⟩
          · have := hGl q hq
            have := hGs q hq
            exact ⟨by omega, by omega, by omega, by omega⟩
      have hlo : Tok (ofO l' o) := ofO_ok HREP.out.ok _
      have HLO := Lib.hid hlo
      have HOK := Lib.hid HREP.out.ok
      obtain ⟨lo, hlo2⟩ : ∃ lo, lo = ofO l' o := ⟨_, rfl⟩
      rw [← hlo2] at hC0 HLO
      have HLOE := Lib.hid hlo2
      clear hlo hlo2 HAL HREP hG hGs hb1 hGl hs1 hbw hbm hcw hpm hb2 hFe h2 h3 h5 h6 h7 hFl hgl
      have HX2 := HX.out.below (show Below W0.heap.size W0 V2 from by obtain ⟨_, _, _, _, _, _, _, _, _, _, _, q⟩ := hC0; exact q)
      have hg0 : V2.cell? ⟨g, 0, none⟩ = some (.slice A' l'.length c') := by obtain ⟨_, _, _, _, _, _, q, _⟩ := hC0; exact q.cell 0
      have q0 := HX2.cell 0
      have q1 := HX2.cell 1
      have q2 := HX2.cell 2
      have q3 := HX2.cell 3
      have q4 := HX2.cell 4
      have q5 := HX2.cell 5
      simp only [List.getElem?_cons_zero, List.getElem?_cons_succ] at q0 q1 q2 q3 q4 q5
      have HA1 := Lib.hid (hC0.act x hx)
      have hsx := step_len l' x
      have hsy := step_len l' y
      obtain ⟨l1, hl1⟩ : ∃ l1, l1 = stepT l' x := ⟨_, rfl⟩
      rw [← hl1] at HA1 hsx
      clear HX2 hC0 hl1
      go_wp2_with fail
      refine (HA1.out).mono ?_
      rintro e V3 ⟨ra, A1, c1, rfl, hs3, hB3, hC1⟩
      have HX3 := HX.out.below (show Below W0.heap.size W0 (V3.alloc (.cells #[.slice A1 l1.length c1] 29)) from by obtain ⟨_, _, _, _, _, _, _, _, _, _, _, _, _, _, q⟩ := hC1; exact q)
      have hg0 : (V3.alloc (.cells #[.slice A1 l1.length c1] 29)).cell? ⟨g, 0, none⟩ = some (.slice A' l'.length c') := by obtain ⟨_, _, _, _, _, _, q, _⟩ := hC1; exact q.cell 0
      have q6 := HX3.cell 6
      have q7 := HX3.cell 7
      have q8 := HX3.cell 8
      have q9 := HX3.cell 9
      have q10 := HX3.cell 10
      have q11 := HX3.cell 11
      simp only [List.getElem?_cons_zero, List.getElem?_cons_succ] at q6 q7 q8 q9 q10 q11
      have HA2 := Lib.hid (hC1.act y hy)
      obtain ⟨l2, hl2⟩ : ∃ l2, l2 = stepT l' y := ⟨_, rfl⟩
      rw [← hl2] at HA2 hsy
      clear q0 q1 q2 q3 q4 q5 HA1 hC1 HX3 hl2
      go_wp2_with fail
      refine (HA2.out).mono ?_
      rintro e V5 ⟨rb, A2, c2, rfl, hs5, hC2⟩
      clear q6 q7 q8 q9 q10 q11 hg0 HA2
      obtain ⟨g1, hg1⟩ : ∃ g1, g1 = V3.heap.size := ⟨_, rfl⟩
      obtain ⟨g2, hg2⟩ : ∃ g2, g2 = V5.heap.size := ⟨_, rfl⟩
      obtain ⟨V6, hV6⟩ : ∃ V6, V6 = V5.alloc (.cells #[.slice A2 l2.length c2] 29) := ⟨_, rfl⟩
      rw [← hg1, ← hg2, ← hV6] at hC2
      go_wp2_with fail
      rw [← hg1, ← hg2, ← hV6]
      clear hV6 hg1 hg2
      have K1 := Lib.hid (hC2.is1 (by omega))
      have K2 := Lib.hid (hC2.is2 (by omega))
      have K3 := Lib.hid (hC2.same)
      have K4 := Lib.hid (hC2.same')
      have K5 := Lib.hid (hC2.rows (by omega))
      have HC := Lib.hid hC2
      have HSA := Lib.hid (fun W (hb : Below V6.heap.size V6 W) => (show W.cell? ⟨g1, 0, none⟩ = some (.slice A1 l1.length c1) ∧ W.cell? ⟨g2, 0, none⟩ = some (.slice A2 l2.length c2) ∧ Below V6.heap.size V6 W from ⟨(hC2.row1.below hb).cell 0, (hC2.row2.below hb).cell 0, hb⟩))
      have hdr := Lib.hid (show Below V6.heap.size V6 V6.drew from (Below.refl _ _).drew)
      obtain ⟨q, hq⟩ : ∃ q, q = decide (l1 = l2) := ⟨_, rfl⟩
      rw [← hq] at K3 K4 K5
      have hqq : (q == q) = true := by simp
      have hsl : l'.length ≤ 30 := by omega
      have HSL := Lib.hid hsl
      obtain ⟨L1, hL1⟩ : ∃ L1, L1 = l1.length := ⟨_, rfl⟩
      obtain ⟨L2, hL2⟩ : ∃ L2, L2 = l2.length := ⟨_, rfl⟩
      rw [← hL1, ← hL2] at HSA
      rw [← hL1] at K1 K5
      rw [← hL2] at K2 K5
      try rw [← hL1]
      try rw [← hL2]
      clear hC2 hq hL1 hL2 hsl hs3 hB3 hs5 hsx hsy hlen
      refine wp_region_noPanic ?_
      refine (fun (HREST : ∀ W, Below V6.heap.size V6 W → (?G : World → Prop) W) => ?main) ?rest
      case main =>
        refine wp_region_held_drew (S := fun W => W.cell? ⟨g1, 0, none⟩ = some (.slice A1 L1 c1) ∧ W.cell? ⟨g2, 0, none⟩ = some (.slice A2 L2 c2) ∧ Below V6.heap.size V6 W) (by kernel_rfl) (HSA.out _ hdr.out) (fun hHeld => ?_)
        have hb0 := hdr.out
        refine wpAnyH_take (i := 0) (v := ?_) rfl (by kernel_rfl) (by kernel_rfl) (by kernel_rfl) (fun _ _ _ h => h) (Or.inl ⟨by kernel_rfl, ?_⟩) hHeld ?_
        rotate_left
        focus (intro w hSw; (try dsimp only at hSw); go_simp; try with_reducible rfl)
        simp only [Act.put]
        refine wpAnyH_take (i := 1) (v := ?_) rfl (by kernel_rfl) (by kernel_rfl) (by kernel_rfl) (fun _ _ _ h => h) (Or.inl ⟨by kernel_rfl, ?_⟩) hHeld ?_
        rotate_left
        focus (intro w hSw; (try dsimp only at hSw); go_simp; try with_reducible rfl)
        simp only [Act.put]
        refine wpAnyH_take (i := 2) (v := ?_) rfl (by kernel_rfl) (by kernel_rfl) (by kernel_rfl) (fun _ _ _ h => h) (Or.inl ⟨by kernel_rfl, ?_⟩) hHeld ?_
        rotate_left
        focus (intro w hSw; (try dsimp only at hSw); go_simp; try with_reducible rfl)
        simp only [Act.put]
        refine wpAnyH_take (i := 3) (v := ?_) rfl (by kernel_rfl) (by kernel_rfl) (by kernel_rfl) (fun _ _ _ h => h) (Or.inl ⟨by kernel_rfl, ?_⟩) hHeld ?_
        rotate_left
        focus (intro w hSw; (try dsimp only at hSw); go_simp; try with_reducible rfl)
        simp only [Act.put]
        refine wpAnyH_take (i := 4) (v := ?_) rfl (by kernel_rfl) (by kernel_rfl) (by kernel_rfl) (fun _ _ _ h => h) (Or.inl ⟨by kernel_rfl, ?_⟩) hHeld ?_
        rotate_left
        focus (intro w hSw; (try dsimp only at hSw); go_simp; try with_reducible rfl)
        simp only [Act.put]
        refine wpAnyH_take (i := 5) (v := ?_) rfl (by kernel_rfl) (by kernel_rfl) (by kernel_rfl) (fun _ _ _ h => h) (Or.inl ⟨by kernel_rfl, ?_⟩) hHeld ?_
        rotate_left
        focus (intro w hSw; (try dsimp only at hSw); go_simp; try with_reducible rfl)
        simp only [Act.put]
        refine wpAnyH_take (i := 6) (v := ?_) rfl (by kernel_rfl) (by kernel_rfl) (by kernel_rfl) (fun _ _ _ h => h) (Or.inl ⟨by kernel_rfl, ?_⟩) hHeld ?_
        rotate_left
        focus (intro w hSw; (try dsimp only at hSw); go_simp; try with_reducible rfl)
        simp only [Act.put]
        refine wpAnyH_take (i := 7) (v := ?_) rfl (by kernel_rfl) (by kernel_rfl) (by kernel_rfl) (fun _ _ _ h => h) (Or.inl ⟨by kernel_rfl, ?_⟩) hHeld ?_
        rotate_left
        focus (intro w hSw; (try dsimp only at hSw); go_simp; try with_reducible rfl)
        simp only [Act.put]
        refine wpAnyH_take (i := 8) (v := ?_) rfl (by kernel_rfl) (by kernel_rfl) (by kernel_rfl) (fun _ _ _ h => h) (Or.inl ⟨by kernel_rfl, ?_⟩) hHeld ?_
        rotate_left
        focus (intro w hSw; (try dsimp only at hSw); go_simp; try with_reducible rfl)
        simp only [Act.put]
        refine wpAnyH_ready (rs := [9]) (by kernel_rfl) (by simp) ?_
        refine AllReadyH.cons rfl (fun K hK => ?_) (AllReadyH.nil)
        go_simp
        refine (K1.out _ hb0).mono ?_
        rintro e W1 ⟨rfl, hb1⟩
        refine hK.out _ _ (HSA.out _ hb1) (fun hHeld => ?_)
        clear hK K
        try simp only [Act.put]
        refine wpAnyH_take (i := 10) (v := ?_) rfl (by kernel_rfl) (by kernel_rfl) (by kernel_rfl) (fun _ _ _ h => h) (Or.inl ⟨by kernel_rfl, ?_⟩) hHeld ?_
        rotate_left
        focus (intro w hSw; (try dsimp only at hSw); go_simp; try with_reducible rfl)
        simp only [Act.put]
        refine wpAnyH_take (i := 11) (v := ?_) rfl (by kernel_rfl) (by kernel_rfl) (by kernel_rfl) (fun _ _ _ h => h) (Or.inl ⟨by kernel_rfl, ?_⟩) hHeld ?_
        rotate_left
        focus (intro w hSw; (try dsimp only at hSw); go_simp; try with_reducible rfl)
        simp only [Act.put]
        refine wpAnyH_take (i := 12) (v := ?_) rfl (by kernel_rfl) (by kernel_rfl) (by kernel_rfl) (fun _ _ _ h => h) (Or.inl ⟨by kernel_rfl, ?_⟩) hHeld ?_
        rotate_left
        focus (intro w hSw; (try dsimp only at hSw); go_simp; try with_reducible rfl)
        simp only [Act.put]
        refine wpAnyH_take (i := 13) (v := ?_) rfl (by kernel_rfl) (by kernel_rfl) (by kernel_rfl) (fun _ _ _ h => h) (Or.inl ⟨by kernel_rfl, ?_⟩) hHeld ?_
        rotate_left
        focus (intro w hSw; (try dsimp only at hSw); go_simp; try with_reducible rfl)
        simp only [Act.put]
        refine wpAnyH_take (i := 14) (v := ?_) rfl (by kernel_rfl) (by kernel_rfl) (by kernel_rfl) (fun _ _ _ h => h) (Or.inl ⟨by kernel_rfl, ?_⟩) hHeld ?_
        rotate_left
        focus (intro w hSw; (try dsimp only at hSw); go_simp; try with_reducible rfl)
        simp only [Act.put]
        refine wpAnyH_ready (rs := [15]) (by kernel_rfl) (by simp) ?_
        refine AllReadyH.cons rfl (fun K hK => ?_) (AllReadyH.nil)
        go_simp
        refine (K2.out _ hb1).mono ?_
        rintro e W2 ⟨rfl, hb2⟩
        refine hK.out _ _ (HSA.out _ hb2) (fun hHeld => ?_)
        clear hK K
        try simp only [Act.put]
        refine wpAnyH_take (i := 16) (v := ?_) rfl (by kernel_rfl) (by kernel_rfl) (by kernel_rfl) (fun _ _ _ h => h) (Or.inl ⟨by kernel_rfl, ?_⟩) hHeld ?_
        rotate_left
        focus (intro w hSw; (try dsimp only at hSw); go_simp; try with_reducible rfl)
        simp only [Act.put]
        refine wpAnyH_take (i := 17) (v := ?_) rfl (by kernel_rfl) (by kernel_rfl) (by kernel_rfl) (fun _ _ _ h => h) (Or.inl ⟨by kernel_rfl, ?_⟩) hHeld ?_
        rotate_left
        focus (intro w hSw; (try dsimp only at hSw); go_simp; try with_reducible rfl)
        simp only [Act.put]
        refine wpAnyH_take (i := 18) (v := ?_) rfl (by kernel_rfl) (by kernel_rfl) (by kernel_rfl) (fun _ _ _ h => h) (Or.inl ⟨by kernel_rfl, ?_⟩) hHeld ?_
        rotate_left
        focus (intro w hSw; (try dsimp only at hSw); go_simp; try with_reducible rfl)
        simp only [Act.put]
        refine wpAnyH_take (i := 19) (v := ?_) rfl (by kernel_rfl) (by kernel_rfl) (by kernel_rfl) (fun _ _ _ h => h) (Or.inl ⟨by kernel_rfl, ?_⟩) hHeld ?_
        rotate_left
        focus (intro w hSw; (try dsimp only at hSw); go_simp; try with_reducible rfl)
        simp only [Act.put]
        refine wpAnyH_take (i := 20) (v := ?_) rfl (by kernel_rfl) (by kernel_rfl) (by kernel_rfl) (fun _ _ _ h => h) (Or.inl ⟨by kernel_rfl, ?_⟩) hHeld ?_
        rotate_left
        focus (intro w hSw; (try dsimp only at hSw); go_simp; try with_reducible rfl)
        simp only [Act.put]
        refine wpAnyH_take (i := 22) (v := ?_) rfl (by kernel_rfl) (by kernel_rfl) (by kernel_rfl) (fun _ _ _ h => h) (Or.inl ⟨by kernel_rfl, ?_⟩) hHeld ?_
        rotate_left
        focus (intro w hSw; (try dsimp only at hSw); go_simp; try with_reducible rfl)
        simp only [Act.put]
        refine wpAnyH_take (i := 23) (v := ?_) rfl (by kernel_rfl) (by kernel_rfl) (by kernel_rfl) (fun _ _ _ h => h) (Or.inl ⟨by kernel_rfl, ?_⟩) hHeld ?_
        rotate_left
        focus (intro w hSw; (try dsimp only at hSw); go_simp; try with_reducible rfl)
        simp only [Act.put]
        refine wpAnyH_take (i := 24) (v := ?_) rfl (by kernel_rfl) (by kernel_rfl) (by kernel_rfl) (fun _ _ _ h => h) (Or.inl ⟨by kernel_rfl, ?_⟩) hHeld ?_
        rotate_left
        focus (intro w hSw; (try dsimp only at hSw); go_simp; try with_reducible rfl)
        simp only [Act.put]
        refine wpAnyH_take (i := 25) (v := ?_) rfl (by kernel_rfl) (by kernel_rfl) (by kernel_rfl) (fun _ _ _ h => h) (Or.inl ⟨by kernel_rfl, ?_⟩) hHeld ?_
        rotate_left
        focus (intro w hSw; (try dsimp only at hSw); go_simp; try with_reducible rfl)
        simp only [Act.put]
        refine wpAnyH_ready (rs := [21]) (by kernel_rfl) (by simp) ?_
        refine AllReadyH.cons rfl (fun K hK => ?_) (AllReadyH.nil)
        go_simp
        refine (K3.out _ hb2).mono ?_
        rintro e W3 ⟨rfl, hb3⟩
        refine hK.out _ _ (HSA.out _ hb3) (fun hHeld => ?_)
        clear hK K
        try simp only [Act.put]
        refine wpAnyH_ready (rs := [26]) (by kernel_rfl) (by simp) ?_
        refine AllReadyH.cons rfl (fun K hK => ?_) (AllReadyH.nil)
        go_simp
        refine (K5.out _ hb3).mono ?_
        rintro e W4 ⟨rfl, hb4⟩
        refine hK.out _ _ (HSA.out _ hb4) (fun hHeld => ?_)
        clear hK K
        try simp only [Act.put]
        refine wpAnyH_take (i := 27) (v := ?_) rfl (by kernel_rfl) (by kernel_rfl) (by kernel_rfl) (fun _ _ _ h => h) (Or.inl ⟨by kernel_rfl, ?_⟩) hHeld ?_
        rotate_left
        focus (intro w hSw; (try dsimp only at hSw); go_simp; try with_reducible rfl)
        simp only [Act.put]
        refine wpAnyH_take (i := 28) (v := ?_) rfl (by kernel_rfl) (by kernel_rfl) (by kernel_rfl) (fun _ _ _ h => h) (Or.inl ⟨by kernel_rfl, ?_⟩) hHeld ?_
        rotate_left
        focus (intro w hSw; (try dsimp only at hSw); go_simp; try with_reducible rfl)
        simp only [Act.put]
        refine wpAnyH_take (i := 29) (v := ?_) rfl (by kernel_rfl) (by kernel_rfl) (by kernel_rfl) (fun _ _ _ h => h) (Or.inl ⟨by kernel_rfl, ?_⟩) hHeld ?_
        rotate_left
        focus (intro w hSw; (try dsimp only at hSw); go_simp; try with_reducible rfl)
        simp only [Act.put]
        refine wpAnyH_take (i := 30) (v := ?_) rfl (by kernel_rfl) (by kernel_rfl) (by kernel_rfl) (fun _ _ _ h => h) (Or.inl ⟨by kernel_rfl, ?_⟩) hHeld ?_
        rotate_left
        focus (intro w hSw; (try dsimp only at hSw); go_simp; try with_reducible rfl)
        simp only [Act.put]
        refine wpAnyH_take (i := 31) (v := ?_) rfl (by kernel_rfl) (by kernel_rfl) (by kernel_rfl) (fun _ _ _ h => h) (Or.inl ⟨by kernel_rfl, ?_⟩) hHeld ?_
        rotate_left
        focus (intro w hSw; (try dsimp only at hSw); go_simp; try with_reducible rfl)
        simp only [Act.put]
        refine wpAnyH_take (i := 33) (v := ?_) rfl (by kernel_rfl) (by kernel_rfl) (by kernel_rfl) (fun _ _ _ h => h) (Or.inl ⟨by kernel_rfl, ?_⟩) hHeld ?_
        rotate_left
        focus (intro w hSw; (try dsimp only at hSw); go_simp; try with_reducible rfl)
        simp only [Act.put]
        refine wpAnyH_take (i := 34) (v := ?_) rfl (by kernel_rfl) (by kernel_rfl) (by kernel_rfl) (fun _ _ _ h => h) (Or.inl ⟨by kernel_rfl, ?_⟩) hHeld ?_
        rotate_left
        focus (intro w hSw; (try dsimp only at hSw); go_simp; try with_reducible rfl)
        simp only [Act.put]
        refine wpAnyH_take (i := 35) (v := ?_) rfl (by kernel_rfl) (by kernel_rfl) (by kernel_rfl) (fun _ _ _ h => h) (Or.inl ⟨by kernel_rfl, ?_⟩) hHeld ?_
        rotate_left
        focus (intro w hSw; (try dsimp only at hSw); go_simp; try with_reducible rfl)
        simp only [Act.put]
        refine wpAnyH_take (i := 36) (v := ?_) rfl (by kernel_rfl) (by kernel_rfl) (by kernel_rfl) (fun _ _ _ h => h) (Or.inl ⟨by kernel_rfl, ?_⟩) hHeld ?_
        rotate_left
        focus (intro w hSw; (try dsimp only at hSw); go_simp; try with_reducible rfl)
        simp only [Act.put]
        refine wpAnyH_ready (rs := [32]) (by kernel_rfl) (by simp) ?_
        refine AllReadyH.cons rfl (fun K hK => ?_) (AllReadyH.nil)
        go_simp
        refine (K4.out _ hb4).mono ?_
        rintro e W5 ⟨rfl, hb5⟩
        refine hK.out _ _ (HSA.out _ hb5) (fun hHeld => ?_)
        clear hK K
        try simp only [Act.put]
        refine wpAnyH_ready (rs := [37]) (by kernel_rfl) (by simp) ?_
        refine AllReadyH.cons rfl (fun K hK => ?_) (AllReadyH.nil)
        go_simp
        refine (K5.out _ hb5).mono ?_
        rintro e W6 ⟨rfl, hb6⟩
        refine hK.out _ _ (HSA.out _ hb6) (fun hHeld => ?_)
        clear hK K
        try simp only [Act.put]
        refine wpAnyH_ready (rs := [38]) (by kernel_rfl) (by simp) ?_
        refine AllReadyH.cons rfl (fun K hK => ?_) (AllReadyH.nil)
        go_simp
        refine hK.out _ _ (HSA.out _ hb6) (fun hHeld => ?_)
        clear hK K
        try simp only [Act.put]
        refine wpAnyH_ready (rs := [39]) (by kernel_rfl) (by simp) ?_
        refine AllReadyH.cons rfl (fun K hK => ?_) (AllReadyH.nil)
        go_simp
        refine hK.out _ _ (HSA.out _ hb6) (fun hHeld => ?_)
        clear hK K
        try simp only [Act.put]
        refine wpAnyH_done (by kernel_rfl) ?_ _
        refine NoPanic.normal ?_
        exact HREST W6 hb6
      case rest =>
        intro W7 hb7
        clear HSA hdr K1 K2 K3 K4 K5 hqq
        have hnn1 := HNN.out bw
        go_wp2_with fail
        clear hnn1
        obtain ⟨w8, hw8⟩ : ∃ w8, w8 = W7.alloc (Obj.cells #[Value.slice none 0 0] 27) := ⟨_, rfl⟩
        have hz8 : w8.heap.size = W7.heap.size + 1 := by rw [hw8]; simp
        have hb8 : Below W7.heap.size W7 w8 := by rw [hw8]; exact below1 _ _
        have hL8 : Boxed w8 W7.heap.size 27 (.slice none 0 0) := by rw [hw8]; exact Boxed.new W7 _ _
        have hb68 := below0 hb7 hb8
        have hcbw : bw < V6.heap.size := lt_of_cell HC.out.box
        have hcbm : bm < V6.heap.size := pmap_lt HC.out.pages
        have h67 := hb7.size
        have hit := all2_it lo bw bm w8 HLO.out ((hb68.cell (p := ⟨bw, 0, none⟩) hcbw).trans HC.out.box) (owns_same HC.out.pages (hb68.block _ hcbm))
        have hPv : ∀ k, (k = bw ∨ k = bm) → k < w8.heap.size ∧ k ≠ W7.heap.size := by
          rintro k (rfl | rfl)
          · exact ⟨by omega, by omega⟩
          · exact ⟨by omega, by omega⟩
        rw [← hw8]
        clear hw8
        refine wpIn_wide.1 (wpIn_range_box (gf := 37) (lb := #[bx bw]) rfl (enters_of Try.func37 (by kernel_rfl) rfl) hit (fun k hk => (hPv k hk).1) (fun _ => rfl) (fun _ _ _ _ _ h => h)
          (gatLI 27 46 encR 4 W7 W7.heap.size w8.heap.size 3) (gatLX 27 46 encR 4 W7 W7.heap.size w8.heap.size 3 2) (gatLI.abid (by omega)) (gatLX.abid (by omega)) ?h0
          (fun gg r => { tmps := #[Value.slice A k c, Value.agg (twoC x y), Value.int IntKind.i64 o, undef, Value.pointer (some { block := w.heap.size, off := 0 }), undef, Value.bool false, bx b, Value.pointer (some { block := g, off := 0 }), Value.int IntKind.i64 ↑k, bx cb, Value.func (Fn.func 37) #[] #[bx bw], bx ra, Value.pointer (some { block := g1, off := 0 }), Value.bool true, bx rb, Value.pointer (some { block := g2, off := 0 }), Value.bool true, Value.pointer (some { block := W7.heap.size, off := 0 }), Value.int IntKind.i64 r.1, bx gg, undef, Value.slice A k c, Value.int IntKind.i64 ↑k, Value.bool false, undef, bx b0, Value.int IntKind.i64 ↑k, Value.slice A k c, Value.int IntKind.i64 ↑k, Value.bool false, u31, u32, u33, u34, u35, u36, u37, u38, u39, u40, u41, u42, u43, bx b, bx cb, bx b, Value.int IntKind.i64 o, Value.func (Fn.func 37) #[] #[bx bw], Value.tuple #[bx ra, Value.agg #[Value.slice A1 L1 c1], Value.bool true], bx b, Value.agg #[Value.slice A' (List.length l') c'], Value.pointer (some { block := w.heap.size, off := 0 }), Value.agg #[Value.int IntKind.i64 x.what, Value.int IntKind.i64 x.page, Value.int IntKind.i64 x.many, Value.int IntKind.i64 x.en.fst, Value.int IntKind.i64 x.en.snd.fst, Value.int IntKind.i64 x.en.snd.snd], Value.tuple #[bx ra, Value.agg #[Value.slice A1 L1 c1], Value.bool true], bx ra, Value.agg #[Value.slice A1 L1 c1], Value.bool true, Value.tuple #[bx rb, Value.agg #[Value.slice A2 L2 c2], Value.bool true], bx cb, Value.agg #[Value.slice A' (List.length l') c'], Value.pointer (some { block := w.heap.size, off := 6 }), Value.agg #[Value.int IntKind.i64 y.what, Value.int IntKind.i64 y.page, Value.int IntKind.i64 y.many, Value.int IntKind.i64 y.en.fst, Value.int IntKind.i64 y.en.snd.fst, Value.int IntKind.i64 y.en.snd.snd], Value.tuple #[bx rb, Value.agg #[Value.slice A2 L2 c2], Value.bool true], bx rb, Value.agg #[Value.slice A2 L2 c2], Value.bool true, Value.bool true, Value.bool false, Value.bool false, Value.bool true, Value.bool false, Value.bool false, Value.bool false, bx ra, Value.agg #[Value.slice A1 L1 c1], Value.bool true, Value.bool false, Value.bool false, Value.bool false, bx rb, Value.agg #[Value.slice A2 L2 c2], Value.bool true, Value.bool false, Value.bool false, Value.bool false, bx ra, bx rb, Value.bool q, Value.pointer (some { block := g1, off := 0 }), Value.slice A1 L1 c1, Value.pointer (some { block := g2, off := 0 }), Value.slice A2 L2 c2, Value.bool q, Value.bool false, Value.bool false, Value.bool false, bx rb, bx ra, Value.bool q, Value.pointer (some { block := g1, off := 0 }), Value.slice A1 L1 c1, Value.pointer (some { block := g2, off := 0 }), Value.slice A2 L2 c2, Value.bool q, Value.bool false, Value.bool false, Value.func (Fn.func 37) #[] #[bx bw], Value.bool false, Value.func (Fn.func 37) #[] #[bx bw], Value.int IntKind.i64 r.1, Value.agg #[Value.int IntKind.i64 r.2.1, Value.int IntKind.i64 r.2.2.1, Value.int IntKind.i64 r.2.2.2], undef, undef, undef, undef, undef, undef, undef, undef, undef, undef, undef, undef, undef, undef, undef, undef, undef, undef, undef, undef, undef, undef], defers := [] })
          (fun r => .cells #[.int .i64 r.2.1, .int .i64 r.2.2.1, .int .i64 r.2.2.2] 34) ?assign ?body ?done ?stop)
        case h0 => exact ⟨⟨_, hL8, World.ownsRow_nil _ _ _ _, fun k h => (by cases h), hb8⟩, by simp, fun _ h => h.elim⟩
        case assign =>
          intro l9 r W' K hK
          simp only [encP]
          gi_wp2
          exact hK
        case body =>
          rintro l9 pre r O V hVs hO ⟨⟨v, hbx, hown, hvO, hbl⟩, hlen, hOw⟩ hx _
          have hn : pre.length ≤ 100000 := by omega
          clear hx hit hL8
          obtain ⟨Av, cv, rfl⟩ := own_slice hown
          obtain ⟨V1, hV1⟩ : ∃ V1, V1 = V.alloc (Obj.cells #[Value.int IntKind.i64 r.2.1, Value.int IntKind.i64 r.2.2.1, Value.int IntKind.i64 r.2.2.2] 34) := ⟨_, rfl⟩
          have hz1 : V1.heap.size = V.heap.size + 1 := by rw [hV1]; simp
          have hrow : Row V1 V.heap.size 34 [.int .i64 r.2.1, .int .i64 r.2.2.1, .int .i64 r.2.2.2] := by rw [hV1]; exact Row.new _ _ _
          have e2 : V1.cell? ⟨V.heap.size, 0, none⟩ = some (.int .i64 r.2.1) := hrow.cell 0
          have e3 : V1.cell? ⟨V.heap.size, 1, none⟩ = some (.int .i64 r.2.2.1) := hrow.cell 1
          have e4 : V1.cell? ⟨V.heap.size, 2, none⟩ = some (.int .i64 r.2.2.2) := hrow.cell 2
          have hownV : V1.ownsRow w8.heap.size 46 4 (.slice Av pre.length cv) pre.length (pre.flatMap encR) := by rw [hV1]; exact hown.alloc _
          have hbxV : Boxed V1 W7.heap.size 27 (.slice Av pre.length cv) := by rw [hV1]; exact hbx.alloc _
          have hown1 := hownV.alloc (.cells #[.int .i64 r.1, .int .i64 r.2.1, .int .i64 r.2.2.1, .int .i64 r.2.2.2] 46)
          have hbx1 := hbxV.alloc (.cells #[.int .i64 r.1, .int .i64 r.2.1, .int .i64 r.2.2.1, .int .i64 r.2.2.2] 46)
          have hce := hbxV.cell
          have hce1 := hbx1.cell
          have hb1 := hbx.not_row (by decide) hown
          have hOw1 : ∀ k, O k → k < V.heap.size := fun k h => (hO k h).2
          have hZ := Lib.hid (And.intro hz1 (And.intro hV1 hOw1))
          rw [← hV1]
          clear hbx hrow hz1 hV1 hOw1
          gi_wp2_with (gi_at_builtin; refine wpListIn_append_sees rfl (.tmp 112) (.tmp 116) 27 rfl w8.heap.size 46 j0 _ 4 32 Try.underlying27 hi hj0 hj1 hj2 rfl (by decide) _ pre.length (pre.flatMap encR) rfl hown1 (V1.heap.size + 1) (some ⟨V1.heap.size, 0, none⟩) 1 1 (encR r) rfl rfl (fun _ => ⟨_, rfl, by simp, cells_row_new _ _ _⟩) (by simp [encR, Value.oneCell']) (by unfold maxLen; omega) (by omega) (by have := hZ.out.1; simp; omega) ?_; intro v' w4 hown4 hg4 hv4; obtain ⟨g4, cap4, rfl⟩ := ownsRow_succ hown4; have hbx4 := hbx1.kept hg4 hb1; have hx4c := hbx4.cell; have hx4f := hbx4.frozen)
          all_goals
            have hg5 : (V1.alloc (.cells #[.int .i64 r.1, .int .i64 r.2.1, .int .i64 r.2.2.1, .int .i64 r.2.2.2] 46)).grownBy w4 (Value.slice Av pre.length cv).ownBlock := hg4
            have hfin := Lib.hid (gatL_box (V := V) (hZ.out.2.1 ▸ below1 V _) hVs hOw (gatL_round (w := W7) (x := r) (by have := hZ.out.1; omega) (by omega) hPv hOw hvO (by have := hZ.out.1; omega) hown4 hg5 hv4 hbx4 (by rw [hZ.out.2.1]; exact hbl.alloc hbl.size _) (by simp)))
          · obtain ⟨k1, k2, k3⟩ := hfin.out
            exact ⟨k1, rfl, k2, by simp; omega, k3⟩
          · obtain ⟨k1, k2, k3⟩ := hfin.out
            exact ⟨k1, k2, by simp; omega, k3⟩
        case done =>
          intro xs O Z hall hI hD
          obtain ⟨hG, hlen3, hOw⟩ := hI
          have hnO : ¬ O w8.heap.size := fun h => by have := hOw _ h; omega
          obtain ⟨v2, hLY, hownY, _, hblY⟩ := hG
          obtain ⟨Ax, cx, rfl⟩ := own_slice hownY
          have hxs : xs = lo.take 3 := got_done hall hlen3
          have hbq : Below V6.heap.size V6 Z := below0 hb7 hblY
          have hZs := hbq.size
          have hgZ : Z.cell? ⟨g, 0, none⟩ = some (.slice A' l'.length c') := (HC.out.row.below hbq).cell 0
          have hof := Lib.hid (rof_any l' A' l'.length c' o Z rfl (by have := HSL.out; omega) (HC.out.lies.below hbq))
          rw [← HLOE.out] at hof
          have hlol : lo.length ≤ 65536 := HLO.out.len
          have hLl := hLY.cell
          have hsY := sees_of hownY
          have HXS := Lib.hid hxs
          have HD := Lib.hid hD
          have hZlt := (Array.getElem?_eq_some_iff.1 hD).1
          have hLlt := hLY.lt
          have hBZ0 := Lib.hid (below0 HBA.out (below0 HC.out.below hbq))
          have H8 := Lib.hid (And.intro hz8 hblY.size)
          clear hall hlen3 hLY hownY hit hxs hD hL8 hblY hZs
          go_wp2_with fail
          refine (hof.out).mono ?_
          rintro e Z2 ⟨A9, c9, rfl, hown9, hbz⟩
          have hLl2 := (hbz.cell (p := ⟨W7.heap.size, 0, none⟩) hLlt).trans hLl
          obtain ⟨hcap9, hs9⟩ : lo.length ≤ c9 ∧ Sees Z2 Z2.heap.size A9 (lo.flatMap encR) := ⟨own_cap' hown9, sees_of hown9⟩
          obtain ⟨qn, hqn⟩ : ∃ qn, qn = lo.length := ⟨_, rfl⟩
          rw [← hqn] at hlol hcap9
          rw [← hqn]
          obtain ⟨kk, hkk⟩ : ∃ kk, kk = min 3 qn := ⟨_, rfl⟩
          have hkq : kk ≤ qn := by omega
          have hkx : xs.length = kk := by rw [HXS.out, List.length_take, hkk, hqn]
          have hmin : min (3 : Int) (qn : Int) = (kk : Int) := by omega
          have hsxZ := (hsY.below hbz).more hbz.size
          have hs9t := hs9.take (kk * 4)
          rw [row_take, show lo.take kk = xs by rw [HXS.out, hkk, hqn]; exact (List.take_eq_take_min).symm] at hs9t
          have HR := Lib.hid (fun (W : World) (hb : Below Z2.heap.size Z2 W) => rsame_below xs xs Ax A9 cx c9 Z2 W (by omega) hb hsxZ hs9t)
          rw [hkx] at HR hLl2
          simp only [decide_true] at HR
          have hDZ := (hbz.block _ hZlt).trans HD.out
          have HDZ := Lib.hid hDZ
          have HBZ := Lib.hid (below0 hBZ0.out hbz)
          have HZ2 := Lib.hid hbz.size
          have HSA := Lib.hid (fun (W : World) (hb : Below Z2.heap.size Z2 W) => (show W.cell? ⟨W7.heap.size, 0, none⟩ = some (.slice Ax kk cx) ∧ Below Z2.heap.size Z2 W from
            ⟨(hb.cell (p := ⟨W7.heap.size, 0, none⟩) (by have := hbz.size; simp; omega)).trans hLl2, hb⟩))
          have hdr := Lib.hid (show Below Z2.heap.size Z2 Z2.drew from (Below.refl _ _).drew)
          have hWK := Lib.hid (fun (W : World) (hb : Below Z2.heap.size Z2 W) => (show Calls Try.prog 8 #[] W (fun e w' => e = .returned (.bool true) ∧ Below Z2.heap.size Z2 w') from (hwk.out W).mono fun _ _ ⟨e1, e2⟩ => ⟨e1, below0 hb e2⟩))
          clear hLl hs9 hsxZ hs9t hsY hqn hkk hkx hDZ hLl2 hof hown9 hgZ hbz hlol
          have hcap2 : (kk : Int) ≤ (c9 : Int) := by omega
          have hcap3 : (0 : Int) ≤ (kk : Int) := by omega
          have hcap4 : kk ≤ c9 := by omega
          go_wp2_with fail
          refine wp_region_noPanic ?_
          refine wp_region_held_drew (S := fun W => W.cell? ⟨W7.heap.size, 0, none⟩ = some (.slice Ax kk cx) ∧ Below Z2.heap.size Z2 W) (by kernel_rfl) (HSA.out _ hdr.out) (fun hHeld => ?_)
          have hb0 := hdr.out
          refine wpAnyH_take (i := 0) (v := ?_) rfl (by kernel_rfl) (by kernel_rfl) (by kernel_rfl) (fun _ _ _ h => h) (Or.inl ⟨by kernel_rfl, ?_⟩) hHeld ?_
          rotate_left
          focus (intro w hSw; (try dsimp only at hSw); go_simp; try with_reducible rfl)
          simp only [Act.put]
          refine wpAnyH_take (i := 1) (v := ?_) rfl (by kernel_rfl) (by kernel_rfl) (by kernel_rfl) (fun _ _ _ h => h) (Or.inl ⟨by kernel_rfl, ?_⟩) hHeld ?_
          rotate_left
          focus (intro w hSw; (try dsimp only at hSw); go_simp; try with_reducible rfl)
          simp only [Act.put]
          refine wpAnyH_take (i := 2) (v := ?_) rfl (by kernel_rfl) (by kernel_rfl) (by kernel_rfl) (fun _ _ _ h => h) (Or.inl ⟨by kernel_rfl, ?_⟩) hHeld ?_
          rotate_left
          focus (intro w hSw; (try dsimp only at hSw); go_simp; try with_reducible rfl)
          simp only [Act.put]
          refine wpAnyH_take (i := 3) (v := ?_) rfl (by kernel_rfl) (by kernel_rfl) (by kernel_rfl) (fun _ _ _ h => h) (Or.inl ⟨by kernel_rfl, ?_⟩) hHeld ?_
          rotate_left
          focus (intro w hSw; (try dsimp only at hSw); go_simp; try with_reducible rfl)
          simp only [Act.put]
          refine wpAnyH_take (i := 4) (v := ?_) rfl (by kernel_rfl) (by kernel_rfl) (by kernel_rfl) (fun _ _ _ h => h) (Or.inl ⟨by kernel_rfl, ?_⟩) hHeld ?_
          rotate_left
          focus (intro w hSw; (try dsimp only at hSw); go_simp; try with_reducible rfl)
          simp only [Act.put]
          refine wpAnyH_take (i := 5) (v := ?_) rfl (by kernel_rfl) (by kernel_rfl) (by kernel_rfl) (fun _ _ _ h => h) (Or.inl ⟨by kernel_rfl, ?_⟩) hHeld ?_
          rotate_left
          focus (intro w hSw; (try dsimp only at hSw); go_simp; try with_reducible rfl)
          simp only [Act.put]
          refine wpAnyH_ready (rs := [6]) (by kernel_rfl) (by simp) ?_
          refine AllReadyH.cons rfl (fun K hK => ?_) (AllReadyH.nil)
          go_simp
          refine (HR.out _ hb0).mono ?_
          rintro e w20 ⟨rfl, hb20⟩
          refine hK.out _ _ (HSA.out _ hb20) (fun hHeld => ?_)
          clear hK K
          try simp only [Act.put]
          refine wpAnyH_take (i := 7) (v := ?_) rfl (by kernel_rfl) (by kernel_rfl) (by kernel_rfl) (fun _ _ _ h => h) (Or.inl ⟨by kernel_rfl, ?_⟩) hHeld ?_
          rotate_left
          focus (intro w hSw; (try dsimp only at hSw); go_simp; try with_reducible rfl)
          simp only [Act.put]
          refine wpAnyH_ready (rs := [8]) (by kernel_rfl) (by simp) ?_
          refine AllReadyH.cons rfl (fun K hK => ?_) (AllReadyH.nil)
          go_simp
          refine (hWK.out _ hb20).mono ?_
          rintro e w21 ⟨rfl, hb21⟩
          refine hK.out _ _ (HSA.out _ hb21) (fun hHeld => ?_)
          clear hK K
          try simp only [Act.put]
          refine wpAnyH_ready (rs := [9]) (by kernel_rfl) (by simp) ?_
          refine AllReadyH.cons rfl (fun K hK => ?_) (AllReadyH.nil)
          go_simp
          refine hK.out _ _ (HSA.out _ hb21) (fun hHeld => ?_)
          clear hK K
          try simp only [Act.put]
          refine wpAnyH_ready (rs := [10]) (by kernel_rfl) (by simp) ?_
          refine AllReadyH.cons rfl (fun K hK => ?_) (AllReadyH.nil)
          go_simp
          refine hK.out _ _ (HSA.out _ hb21) (fun hHeld => ?_)
          clear hK K
          try simp only [Act.put]
          refine wpAnyH_done (by kernel_rfl) ?_ _
          refine NoPanic.normal ?_
          have hDj : w21.heap[w8.heap.size]? = some (.deferred (some [])) := (hb21.block w8.heap.size (by have := HZ2.out; omega)).trans HDZ.out
          have hBj : Below w.heap.size w (w21.putObj w8.heap.size (.deferred none)) := (below0 HBZ.out hb21).grown (putObj_grown w21 _ _) (by have := HBZ.out.size; have := hb21.size; omega) (fun r e => by cases e; have := HBZ.out.size; have h1 := HBA.out.size; have := HC.out.below.size; omega)
          rw [H8.out.1] at hDj hBj
          clear hb0 hb20 hb21 hdr HSA HR hWK
          go_wp2
          refine ⟨by simp, .inl ⟨_, _, rfl, run_takeDeferred hDj, ?_⟩⟩
          exact ⟨_, results_tmp (t := 6) rfl _ _ _, ⟨rfl, hBj⟩⟩
        case stop =>
          rintro c9' xs O Z hall ⟨rfl, hG, hlen3, hOw⟩ hD
          have hnO : ¬ O w8.heap.size := fun h => by have := hOw _ h; omega
          obtain ⟨v2, hLY, hownY, _, hblY⟩ := hG
          obtain ⟨Ax, cx, rfl⟩ := own_slice hownY
          have hxs : xs = lo.take 3 := got_stop hall hlen3
          have hbq : Below V6.heap.size V6 Z := below0 hb7 hblY
          have hZs := hbq.size
          have hgZ : Z.cell? ⟨g, 0, none⟩ = some (.slice A' l'.length c') := (HC.out.row.below hbq).cell 0
          have hof := Lib.hid (rof_any l' A' l'.length c' o Z rfl (by have := HSL.out; omega) (HC.out.lies.below hbq))
          rw [← HLOE.out] at hof
          have hlol : lo.length ≤ 65536 := HLO.out.len
          have hLl := hLY.cell
          have hsY := sees_of hownY
          have HXS := Lib.hid hxs
          have HD := Lib.hid hD
          have hZlt := (Array.getElem?_eq_some_iff.1 hD).1
          have hLlt := hLY.lt
          have hBZ0 := Lib.hid (below0 HBA.out (below0 HC.out.below hbq))
          have H8 := Lib.hid (And.intro hz8 hblY.size)
          clear hall hlen3 hLY hownY hit hxs hD hL8 hblY hZs
          refine wpIn_wide.2 ?_
          go_wp2_with fail
          refine (hof.out).mono ?_
          rintro e Z2 ⟨A9, c9, rfl, hown9, hbz⟩
          have hLl2 := (hbz.cell (p := ⟨W7.heap.size, 0, none⟩) hLlt).trans hLl
          obtain ⟨hcap9, hs9⟩ : lo.length ≤ c9 ∧ Sees Z2 Z2.heap.size A9 (lo.flatMap encR) := ⟨own_cap' hown9, sees_of hown9⟩
          obtain ⟨qn, hqn⟩ : ∃ qn, qn = lo.length := ⟨_, rfl⟩
          rw [← hqn] at hlol hcap9
          rw [← hqn]
          obtain ⟨kk, hkk⟩ : ∃ kk, kk = min 3 qn := ⟨_, rfl⟩
          have hkq : kk ≤ qn := by omega
          have hkx : xs.length = kk := by rw [HXS.out, List.length_take, hkk, hqn]
          have hmin : min (3 : Int) (qn : Int) = (kk : Int) := by omega
          have hsxZ := (hsY.below hbz).more hbz.size
          have hs9t := hs9.take (kk * 4)
          rw [row_take, show lo.take kk = xs by rw [HXS.out, hkk, hqn]; exact (List.take_eq_take_min).symm] at hs9t
          have HR := Lib.hid (fun (W : World) (hb : Below Z2.heap.size Z2 W) => rsame_below xs xs Ax A9 cx c9 Z2 W (by omega) hb hsxZ hs9t)
          rw [hkx] at HR hLl2
          simp only [decide_true] at HR
          have hDZ := (hbz.block _ hZlt).trans HD.out
          have HDZ := Lib.hid hDZ
          have HBZ := Lib.hid (below0 hBZ0.out hbz)
          have HZ2 := Lib.hid hbz.size
          have HSA := Lib.hid (fun (W : World) (hb : Below Z2.heap.size Z2 W) => (show W.cell? ⟨W7.heap.size, 0, none⟩ = some (.slice Ax kk cx) ∧ Below Z2.heap.size Z2 W from
            ⟨(hb.cell (p := ⟨W7.heap.size, 0, none⟩) (by have := hbz.size; simp; omega)).trans hLl2, hb⟩))
          have hdr := Lib.hid (show Below Z2.heap.size Z2 Z2.drew from (Below.refl _ _).drew)
          have hWK := Lib.hid (fun (W : World) (hb : Below Z2.heap.size Z2 W) => (show Calls Try.prog 8 #[] W (fun e w' => e = .returned (.bool true) ∧ Below Z2.heap.size Z2 w') from (hwk.out W).mono fun _ _ ⟨e1, e2⟩ => ⟨e1, below0 hb e2⟩))
          clear hLl hs9 hsxZ hs9t hsY hqn hkk hkx hDZ hLl2 hof hown9 hgZ hbz hlol
          have hcap2 : (kk : Int) ≤ (c9 : Int) := by omega
          have hcap3 : (0 : Int) ≤ (kk : Int) := by omega
          have hcap4 : kk ≤ c9 := by omega
          go_wp2_with fail
          refine wp_region_noPanic ?_
          refine wp_region_held_drew (S := fun W => W.cell? ⟨W7.heap.size, 0, none⟩ = some (.slice Ax kk cx) ∧ Below Z2.heap.size Z2 W) (by kernel_rfl) (HSA.out _ hdr.out) (fun hHeld => ?_)
          have hb0 := hdr.out
          refine wpAnyH_take (i := 0) (v := ?_) rfl (by kernel_rfl) (by kernel_rfl) (by kernel_rfl) (fun _ _ _ h => h) (Or.inl ⟨by kernel_rfl, ?_⟩) hHeld ?_
          rotate_left
          focus (intro w hSw; (try dsimp only at hSw); go_simp; try with_reducible rfl)
          simp only [Act.put]
          refine wpAnyH_take (i := 1) (v := ?_) rfl (by kernel_rfl) (by kernel_rfl) (by kernel_rfl) (fun _ _ _ h => h) (Or.inl ⟨by kernel_rfl, ?_⟩) hHeld ?_
          rotate_left
          focus (intro w hSw; (try dsimp only at hSw); go_simp; try with_reducible rfl)
          simp only [Act.put]
          refine wpAnyH_take (i := 2) (v := ?_) rfl (by kernel_rfl) (by kernel_rfl) (by kernel_rfl) (fun _ _ _ h => h) (Or.inl ⟨by kernel_rfl, ?_⟩) hHeld ?_
          rotate_left
          focus (intro w hSw; (try dsimp only at hSw); go_simp; try with_reducible rfl)
          simp only [Act.put]
          refine wpAnyH_take (i := 3) (v := ?_) rfl (by kernel_rfl) (by kernel_rfl) (by kernel_rfl) (fun _ _ _ h => h) (Or.inl ⟨by kernel_rfl, ?_⟩) hHeld ?_
          rotate_left
          focus (intro w hSw; (try dsimp only at hSw); go_simp; try with_reducible rfl)
          simp only [Act.put]
          refine wpAnyH_take (i := 4) (v := ?_) rfl (by kernel_rfl) (by kernel_rfl) (by kernel_rfl) (fun _ _ _ h => h) (Or.inl ⟨by kernel_rfl, ?_⟩) hHeld ?_
          rotate_left
          focus (intro w hSw; (try dsimp only at hSw); go_simp; try with_reducible rfl)
          simp only [Act.put]
          refine wpAnyH_take (i := 5) (v := ?_) rfl (by kernel_rfl) (by kernel_rfl) (by kernel_rfl) (fun _ _ _ h => h) (Or.inl ⟨by kernel_rfl, ?_⟩) hHeld ?_
          rotate_left
          focus (intro w hSw; (try dsimp only at hSw); go_simp; try with_reducible rfl)
          simp only [Act.put]
          refine wpAnyH_ready (rs := [6]) (by kernel_rfl) (by simp) ?_
          refine AllReadyH.cons rfl (fun K hK => ?_) (AllReadyH.nil)
          go_simp
          refine (HR.out _ hb0).mono ?_
          rintro e w20 ⟨rfl, hb20⟩
          refine hK.out _ _ (HSA.out _ hb20) (fun hHeld => ?_)
          clear hK K
          try simp only [Act.put]
          refine wpAnyH_take (i := 7) (v := ?_) rfl (by kernel_rfl) (by kernel_rfl) (by kernel_rfl) (fun _ _ _ h => h) (Or.inl ⟨by kernel_rfl, ?_⟩) hHeld ?_
          rotate_left
          focus (intro w hSw; (try dsimp only at hSw); go_simp; try with_reducible rfl)
          simp only [Act.put]
          refine wpAnyH_ready (rs := [8]) (by kernel_rfl) (by simp) ?_
          refine AllReadyH.cons rfl (fun K hK => ?_) (AllReadyH.nil)
          go_simp
          refine (hWK.out _ hb20).mono ?_
          rintro e w21 ⟨rfl, hb21⟩
          refine hK.out _ _ (HSA.out _ hb21) (fun hHeld => ?_)
          clear hK K
          try simp only [Act.put]
          refine wpAnyH_ready (rs := [9]) (by kernel_rfl) (by simp) ?_
          refine AllReadyH.cons rfl (fun K hK => ?_) (AllReadyH.nil)
          go_simp
          refine hK.out _ _ (HSA.out _ hb21) (fun hHeld => ?_)
          clear hK K
          try simp only [Act.put]
          refine wpAnyH_ready (rs := [10]) (by kernel_rfl) (by simp) ?_
          refine AllReadyH.cons rfl (fun K hK => ?_) (AllReadyH.nil)
          go_simp
          refine hK.out _ _ (HSA.out _ hb21) (fun hHeld => ?_)
          clear hK K
          try simp only [Act.put]
          refine wpAnyH_done (by kernel_rfl) ?_ _
          refine NoPanic.normal ?_
          have hDj : w21.heap[w8.heap.size]? = some (.deferred (some [])) := (hb21.block w8.heap.size (by have := HZ2.out; omega)).trans HDZ.out
          have hBj : Below w.heap.size w (w21.putObj w8.heap.size (.deferred none)) := (below0 HBZ.out hb21).grown (putObj_grown w21 _ _) (by have := HBZ.out.size; have := hb21.size; omega) (fun r e => by cases e; have := HBZ.out.size; have h1 := HBA.out.size; have := HC.out.below.size; omega)
          rw [H8.out.1] at hDj hBj
          clear hb0 hb20 hb21 hdr HSA HR hWK
          go_wp2
          refine ⟨by simp, .inl ⟨_, _, rfl, run_takeDeferred hDj, ?_⟩⟩
          exact ⟨_, results_tmp (t := 6) rfl _ _ _, ⟨rfl, hBj⟩⟩
theorem pageCopies_any (l : List Ac) (A : Option Addr) (n c : Nat) (x y : Ac) (o : Int) (w : World) (h : Acs w l A) (hl : l.length = n) (_hn : n ≤ 4611686018427387904) (hx : x.fits) (hy : y.fits) :
    Calls Try.prog 4 #[.slice A n c, .agg (x.cells ++ y.cells).toArray, .int .i64 o] w fun e w' => e = .returned (.bool true) ∧ Below w.heap.size w w' := by
  by_cases h30 : 30 < n
  · exact copies_long w h30
  · exact copies_main l A n c x y o w h hl (by omega) hx hy
end Go.Proofs.Ytmocdokikcbjeaa
