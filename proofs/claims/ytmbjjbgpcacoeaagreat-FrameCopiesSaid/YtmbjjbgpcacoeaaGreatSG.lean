import Derived.Test.YtmbjjbgpcacoeaaGreatSF
namespace Go.Proofs.YtmbjjbgpcacoeaaGreat
open Go.RowKit Go.Shelf Go.Maps Go.Sort

/- A POOL AND ITS COPY, THE DOCUMENT's POOL, AND FRAMES THAT WERE ASKED FOR: A CALL UPON EACH. -/

abbrev RMap (V : World) (bm : Nat) (lo : List (Option Nat)) : Prop := V.ownsMap Tryz.prog 3 (plainElem Tryz.prog 3) bm 16384 (mapD lo)
/-- behind the copy and the question: pool b, its copy k, the document's box g, the answer's blocks bw, bm -/
structure F0 (w : World) (g b k bw bm n : Nat) (p : Pl) (lo : List (Option Nat)) (F G : Nat → Prop) (A : Option Addr) (c : Nat) (V : World) : Prop where
  one : Has V b p F
  two : Has V k p G
  apart : ∀ q, F q → ¬ G q
  far : ∀ q, F q ∨ G q → w.heap.size ≤ q ∧ q ≠ g ∧ q ≠ bw ∧ q ≠ bm
  rm : Rm V g
  rg : V.rangeAt g 0 (rc p A n c)
  len : p.fr.length = n
  lies : Lies V A p.fr
  off : Off (fun q => F q ∨ G q) A p.fr
  offg : ∀ a, A = some a → p.fr ≠ [] → a.block ≠ g
  box : V.cell? ⟨bw, 1, none⟩ = some (.map (some bm))
  map : RMap V bm lo
  below : Below w.heap.size w V
/-- behind the first call -/
structure F1 (w : World) (g g1 a k bw bm n : Nat) (p p1 : Pl) (lo : List (Option Nat)) (F G : Nat → Prop) (A : Option Addr) (c : Nat) (A1 : Option Addr) (c1 : Nat) (V : World) : Prop where
  one : Has V a p1 F
  two : Has V k p G
  apart : ∀ q, F q → ¬ G q
  far : ∀ q, G q → w.heap.size ≤ q ∧ q ≠ g ∧ q ≠ g1 ∧ q ≠ bw ∧ q ≠ bm
  rm : Rm V g
  rg : V.rangeAt g 0 (rc p A n c)
  rg1 : V.rangeAt g1 0 (rc p1 A1 n c1)
  lt1 : g1 < V.heap.size
  len : p.fr.length = n
  lies : Lies V A p.fr
  off : Off G A p.fr
  lies1 : Lies V A1 p1.fr
  off1 : Off G A1 p1.fr
  box : V.cell? ⟨bw, 1, none⟩ = some (.map (some bm))
  map : RMap V bm lo
  below : Below w.heap.size w V
/-- behind both -/
structure F2 (w : World) (g g1 g2 a b bw bm n : Nat) (p p1 p2 : Pl) (lo : List (Option Nat)) (A : Option Addr) (c : Nat) (A1 : Option Addr) (c1 : Nat) (A2 : Option Addr) (c2 : Nat) (V : World) : Prop where
  one : ∃ F, Has V a p1 F
  two : ∃ G, Has V b p2 G
  rg : V.rangeAt g 0 (rc p A n c)
  rg1 : V.rangeAt g1 0 (rc p1 A1 n c1)
  rg2 : V.rangeAt g2 0 (rc p2 A2 n c2)
  lt : g < V.heap.size
  lt1 : g1 < V.heap.size
  lt2 : g2 < V.heap.size
  lies : Lies V A p.fr
  lies1 : Lies V A1 p1.fr
  lies2 : Lies V A2 p2.fr
  box : V.cell? ⟨bw, 1, none⟩ = some (.map (some bm))
  map : RMap V bm lo
  below : Below w.heap.size w V
theorem range_keep {V V' : World} {g : Nat} {cs : List Value} (h : V.rangeAt g 0 cs) (hb : V'.heap[g]? = V.heap[g]?) : V'.rangeAt g 0 cs := fun j v hj => (World.cell?_of_block hb).trans (h j v hj)
/-- a box that is new, with a pool in it -/
theorem new_box (V : World) (p : Pl) (A : Option Addr) (n c : Nat) : Below V.heap.size V ((V.alloc (.cells Tryz.zeroCells36 36)).setCells V.heap.size 0 (rc p A n c)) ∧
    ((V.alloc (.cells Tryz.zeroCells36 36)).setCells V.heap.size 0 (rc p A n c)).rangeAt V.heap.size 0 (rc p A n c) ∧ V.heap.size < ((V.alloc (.cells Tryz.zeroCells36 36)).setCells V.heap.size 0 (rc p A n c)).heap.size :=
  ⟨below_setCells (Nat.le_refl _) _ _ _ (below1 V _), World.rangeAt_setCells_same _ _ 0 _ (by rw [rc_len]; exact (Rm.new V).there), by rw [size_setCells, World.size_alloc]; omega⟩
theorem F0.act {w V : World} {g b k bw bm n c : Nat} {p : Pl} {lo : List (Option Nat)} {F G : Nat → Prop} {A : Option Addr} (h : F0 w g b k bw bm n p lo F G A c V) (x : Ac) (hx : x.fits V) :
    Calls Tryz.prog 10 #[bx b, rv p A n c, .agg #[.int .i64 x.what, .int .i64 x.owner, .int .i64 x.n, .int .i64 x.at_, .slice x.A x.bs.length x.c]] V fun e V1 =>
      ∃ a A1 c1, e = .returned (.tuple #[bx a, rv (stepP p x) A1 n c1, .bool true]) ∧ V.heap.size ≤ V1.heap.size ∧ Below w.heap.size w V1 ∧
        ∃ F', F1 w g V1.heap.size a k bw bm n p (stepP p x) lo F' G A c A1 c1 ((V1.alloc (.cells Tryz.zeroCells36 36)).setCells V1.heap.size 0 (rc (stepP p x) A1 n c1)) := by
  have hFl := h.one.lt
  have hGl := h.two.lt
  have hgl := h.rm.lt
  have hbl := lt_of_cell h.box
  have hml := h.map.lt
  simp only at hbl
  refine (act_any p A n c b F x V hx h.one h.len h.lies (fun a ha hn hf => h.off a ha hn (.inl hf))).mono ?_
  rintro e V1 ⟨a, F', A1, c1, rfl, k1, k2, k3, k4, k5, k6⟩
  have hs := k3.size
  have nF : ∀ q, (q = g ∨ q = bw ∨ q = bm ∨ G q) → ¬ F q := by
    rintro q hq hf
    have := h.far q (.inl hf)
    rcases hq with rfl | rfl | rfl | hq
    · exact this.2.1 rfl
    · exact this.2.2.1 rfl
    · exact this.2.2.2 rfl
    · exact h.apart q hf hq
  have hB1 : Below w.heap.size w V1 := h.below.trans (k3.below (fun q hq => (h.far q (.inl hq)).1) h.below.size)
  obtain ⟨hb, hr, hlt⟩ := new_box V1 (stepP p x) A1 n c1
  obtain ⟨V2, hV2⟩ : ∃ V2, V2 = (V1.alloc (.cells Tryz.zeroCells36 36)).setCells V1.heap.size 0 (rc (stepP p x) A1 n c1) := ⟨_, rfl⟩
  refine ⟨a, A1, c1, rfl, hs, hB1, F', ?_⟩
  rw [← hV2] at hb hr hlt ⊢
  have kg : ∀ q, q < V.heap.size → ¬ F q → V2.heap[q]? = V.heap[q]? := fun q hq hf => (hb.block q (by omega)).trans (k3.block q hq hf)
  refine ⟨k1.below hb, h.two.keep fun q hq => kg q (hGl q hq) (nF q (.inr (.inr (.inr hq)))), ?_, ?_, h.rm.same (kg g hgl (nF _ (.inl rfl))), range_keep h.rg (kg g hgl (nF _ (.inl rfl))), hr, hlt, h.len, ?_, fun a ha hn hg => h.off a ha hn (.inr hg), k4.below hb, ?_, ?_, ?_, below0 hB1 hb⟩
  · intro q hq hg
    rcases k2 q hq with h1 | h1
    · exact h.apart q h1 hg
    · have := hGl q hg; omega
  · intro q hq
    have h1 := h.far q (.inr hq)
    have := hGl q hq
    exact ⟨h1.1, h1.2.1, by omega, h1.2.2⟩
  · exact h.lies.keepX (fun a ha hn hl => kg _ hl (fun hf => h.off a ha hn (.inl hf))) (Nat.le_trans hs hb.size)
  · intro a ha hn hg
    rcases k6 with rfl | k6
    · have hn2 : p.fr ≠ [] := by
        rintro e
        have h1 := step_len p x
        rw [e] at h1
        exact hn (List.length_eq_zero_iff.1 h1)
      exact h.off a ha hn2 (.inr hg)
    · have h1 := k6 a ha
      have := hGl _ hg
      omega
  · exact (World.cell?_of_block (kg bw hbl (nF _ (.inr (.inl rfl))))).trans h.box
  · exact owns_same h.map (kg bm hml (nF _ (.inr (.inr (.inl rfl)))))
theorem F1.act {w V : World} {g g1 a k bw bm n c c1 : Nat} {p p1 : Pl} {lo : List (Option Nat)} {F G : Nat → Prop} {A A1 : Option Addr} (h : F1 w g g1 a k bw bm n p p1 lo F G A c A1 c1 V) (x : Ac) (hx : x.fits V) :
    Calls Tryz.prog 10 #[bx k, rv p A n c, .agg #[.int .i64 x.what, .int .i64 x.owner, .int .i64 x.n, .int .i64 x.at_, .slice x.A x.bs.length x.c]] V fun e V1 =>
      ∃ b A2 c2, e = .returned (.tuple #[bx b, rv (stepP p x) A2 n c2, .bool true]) ∧ V.heap.size ≤ V1.heap.size ∧
        F2 w g g1 V1.heap.size a b bw bm n p p1 (stepP p x) lo A c A1 c1 A2 c2 ((V1.alloc (.cells Tryz.zeroCells36 36)).setCells V1.heap.size 0 (rc (stepP p x) A2 n c2)) := by
  have hFl := h.one.lt
  have hgl := h.rm.lt
  have hbl := lt_of_cell h.box
  have hml := h.map.lt
  simp only at hbl
  refine (act_any p A n c k G x V hx h.two h.len h.lies h.off).mono ?_
  rintro e V1 ⟨b, G', A2, c2, rfl, k1, k2, k3, k4, k5, k6⟩
  have hs := k3.size
  have nG : ∀ q, (q = g ∨ q = g1 ∨ q = bw ∨ q = bm ∨ F q) → ¬ G q := by
    rintro q hq hf
    have := h.far q hf
    rcases hq with rfl | rfl | rfl | rfl | hq
    · exact this.2.1 rfl
    · exact this.2.2.1 rfl
    · exact this.2.2.2.1 rfl
    · exact this.2.2.2.2 rfl
    · exact h.apart q hq hf
  have hB1 : Below w.heap.size w V1 := h.below.trans (k3.below (fun q hq => (h.far q hq).1) h.below.size)
  obtain ⟨hb, hr, hlt⟩ := new_box V1 (stepP p x) A2 n c2
  obtain ⟨V2, hV2⟩ : ∃ V2, V2 = (V1.alloc (.cells Tryz.zeroCells36 36)).setCells V1.heap.size 0 (rc (stepP p x) A2 n c2) := ⟨_, rfl⟩
  refine ⟨b, A2, c2, rfl, hs, ?_⟩
  rw [← hV2] at hb hr hlt ⊢
  have kg : ∀ q, q < V.heap.size → ¬ G q → V2.heap[q]? = V.heap[q]? := fun q hq hf => (hb.block q (by omega)).trans (k3.block q hq hf)
  have hbs := hb.size
  have hl1 := h.lt1
  exact ⟨⟨F, h.one.keep fun q hq => kg q (hFl q hq) (nG q (.inr (.inr (.inr (.inr hq)))))⟩, ⟨G', k1.below hb⟩, range_keep h.rg (kg g hgl (nG _ (.inl rfl))), range_keep h.rg1 (kg g1 hl1 (nG _ (.inr (.inl rfl)))), hr, by omega, by omega, hlt,
    h.lies.keepX (fun a ha hn hl => kg _ hl (h.off a ha hn)) (by omega), h.lies1.keepX (fun a ha hn hl => kg _ hl (h.off1 a ha hn)) (by omega), k4.below hb,
    (World.cell?_of_block (kg bw hbl (nG _ (.inr (.inr (.inl rfl)))))).trans h.box, owns_same h.map (kg bm hml (nG _ (.inr (.inr (.inr (.inl rfl)))))), below0 hB1 hb⟩
end Go.Proofs.YtmbjjbgpcacoeaaGreat
