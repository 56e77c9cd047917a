import Derived.Test.YtmbjjbgpcacoeaaGreatSA
namespace Go.Proofs.YtmbjjbgpcacoeaaGreat
open Go.RowKit Go.Shelf Go.Maps Go.Sort
attribute [local go_sem] Oper.semAt_some

/- FRAMEPLAYS. -/
theorem Rm.setCells {g : Nat} : ∀ (vs : List Value) (o : Nat) (V : World), Rm V g → Rm (V.setCells g o vs) g
  | [], _, _, h => h
  | v :: r, o, V, h => by
    rw [World.setCells]
    refine Rm.setCells r (o + 1) _ ?_
    obtain ⟨cur, h1, h2⟩ := h.h
    exact ⟨_, set_cells (o := o) v h1, by simpa using h2⟩
/-- both pools between two steps of the law, the document's box aside -/
structure MidP (w : World) (g b n : Nat) (p : Pl) (F : Nat → Prop) (A : Option Addr) (V : World) : Prop where
  has : Has V b p F
  offg : ∀ q, F q → w.heap.size ≤ q ∧ q ≠ g
  rm : Rm V g
  len : p.fr.length = n
  lies : Lies V A p.fr
  off : Off F A p.fr
  offa : ∀ a, A = some a → p.fr ≠ [] → a.block ≠ g
  below : Below w.heap.size w V
  ge : w.heap.size ≤ g
section
variable {w V V' : World} {g b n c g7 : Nat} {p : Pl} {F : Nat → Prop} {A : Option Addr}
theorem MidP.more (h : MidP w g b n p F A V) (hb : Below V.heap.size V V') : MidP w g b n p F A V' :=
  ⟨h.has.below hb, h.offg, h.rm.below hb, h.len, h.lies.below hb, h.off, h.offa, below0 h.below hb, h.ge⟩
theorem MidP.store (h : MidP w g b n p F A V) (h1 : w.heap.size ≤ g7) (h3 : ¬ F g7) (h4 : ∀ a, A = some a → p.fr ≠ [] → a.block ≠ g7) (vs : List Value) (hr : g7 ≠ g ∨ Rm (V.setCells g7 0 vs) g) : MidP w g b n p F A (V.setCells g7 0 vs) :=
  ⟨h.has.keep fun k hk => heap_setCells (by rintro rfl; exact h3 hk) _ _ _, h.offg, hr.elim (fun hr => h.rm.same (heap_setCells (fun e => hr e.symm) _ _ _)) id, h.len, h.lies.keepX (fun a ha hn _ => heap_setCells (h4 a ha hn) _ _ _) (by rw [size_setCells]; exact Nat.le_refl _), h.off, h.offa, below_setCells h1 _ _ _ h.below, h.ge⟩
end
/-- with the document's box -/
structure PlC (w : World) (g b n : Nat) (p : Pl) (F : Nat → Prop) (A : Option Addr) (c : Nat) (V : World) : Prop where
  mid : MidP w g b n p F A V
  rg : V.rangeAt g 0 (rc p A n c)
section
variable {w V V0 : World} {g b n c g7 : Nat} {p : Pl} {F : Nat → Prop} {A : Option Addr}
theorem PlC.more (h : PlC w g b n p F A c V) (hb : Below V.heap.size V V0) : PlC w g b n p F A c V0 :=
  ⟨h.mid.more hb, fun j v hj => (World.cell?_of_block (hb.block g h.mid.rm.lt)).trans (h.rg j v hj)⟩
theorem MidP.fin (h : MidP w g b n p F A V) : PlC w g b n p F A c (V.setCells g 0 (rc p A n c)) :=
  ⟨h.store h.ge (fun hf => (h.offg g hf).2 rfl) h.offa _ (.inr (h.rm.setCells _ _ _)), World.rangeAt_setCells_same V g 0 _ (by rw [rc_len]; exact h.rm.there)⟩
/-- a call, at a world that is below -/
theorem PlC.act (h : PlC w g b n p F A c V) (hb : Below V.heap.size V V0) (x : Ac) (hx : x.fits V0) :
    Calls Tryz.prog 10 #[bx b, rv p A n c, .agg #[.int .i64 x.what, .int .i64 x.owner, .int .i64 x.n, .int .i64 x.at_, .slice x.A x.bs.length x.c]] V0 fun e V1 =>
      ∃ b' F' A' c', e = .returned (.tuple #[bx b', rv (stepP p x) A' n c', .bool true]) ∧ MidP w g b' n (stepP p x) F' A' V1 ∧ V1.rangeAt g 0 (rc p A n c) ∧
        (∀ k, V.heap.size ≤ k → k < V0.heap.size → V1.heap[k]? = V0.heap[k]? ∧ ¬ F' k ∧ ∀ a, A' = some a → (stepP p x).fr ≠ [] → a.block ≠ k) := by
  have h0 := h.more hb
  have hFl := h.mid.has.lt
  have hgl := h.mid.rm.lt
  have hs := hb.size
  refine (act_any p A n c b F x V0 hx h0.mid.has h0.mid.len h0.mid.lies h0.mid.off).mono ?_
  rintro e V1 ⟨b', F', A', c', rfl, k1, k2, k3, k4, k5, k6⟩
  have hgF : ¬ F g := fun hf => (h.mid.offg g hf).2 rfl
  have hl2 : (stepP p x).fr.length = n := (step_len p x).trans h.mid.len
  have hAx : ∀ a, A' = some a → (stepP p x).fr ≠ [] → (A = some a ∧ p.fr ≠ [] ∧ a.block < V.heap.size) ∨ V0.heap.size ≤ a.block := by
    intro a ha hn
    rcases k6 with rfl | k6
    · have hn2 : p.fr ≠ [] := by
        rintro e
        have h1 := step_len p x
        rw [e] at h1
        exact hn (List.length_eq_zero_iff.1 h1)
      exact .inl ⟨ha, hn2, h.mid.lies.lt hn2 ha⟩
    · exact .inr (k6 a ha)
  have hw := h.mid.below.size
  refine ⟨b', F', A', c', rfl, ⟨k1, fun q hq => ?_, h0.mid.rm.same (k3.block g h0.mid.rm.lt hgF), hl2, k4, k5, fun a ha hn => ?_, h0.mid.below.trans (k3.below (fun q hq => (h.mid.offg q hq).1) h0.mid.below.size), h.mid.ge⟩, fun j v hj => (World.cell?_of_block (k3.block g h0.mid.rm.lt hgF)).trans (h0.rg j v hj), fun k hk1 hk2 => ⟨k3.block k hk2 (fun hf => by have := hFl k hf; omega), fun hf => ?_, fun a ha hn => ?_⟩⟩
  · rcases k2 q hq with h1 | h1
    · exact h.mid.offg q h1
    · exact ⟨by omega, by omega⟩
  · rcases hAx a ha hn with ⟨h1, h2, _⟩ | h1
    · exact h.mid.offa a h1 h2
    · omega
  · rcases k2 k hf with h1 | h1
    · have := hFl k h1; omega
    · omega
  · rcases hAx a ha hn with ⟨_, _, h3⟩ | h1
    · omega
    · omega
end
theorem z_agg : (Value.agg Tryz.zeroCells36) = .agg Tryz.zeroCells36 := rfl
end Go.Proofs.YtmbjjbgpcacoeaaGreat
