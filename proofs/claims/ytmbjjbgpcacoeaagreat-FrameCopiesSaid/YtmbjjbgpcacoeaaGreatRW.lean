import Derived.Test.YtmbjjbgpcacoeaaGreatRT
namespace Go.Proofs.YtmbjjbgpcacoeaaGreat
open Go.RowKit Go.Shelf Go.Maps Go.Sort
attribute [local go_sem] Oper.semAt_some

/- A CALL BY BOTH: BYTES OF THE LAW's OWN THAT TURN. -/
/-- the last store: the answer's pool; U: the world where the document's rows were made, V: behind the code's call -/
theorem AtW.done2 {w T U V : World} {F F' : Nat → Prop} {A A' : Option Addr} {n c' b : Nat} {x : Ac} {p p' : Pl} {cs : List Value} (h : AtW w F cs x V) (hF : ∀ k, F k → k < w.heap.size) (hT : w.heap.size + 3 ≤ T.heap.size) (hTU : T.heap.size ≤ U.heap.size) (hA : Lies w A p.fr) (hO : Off F A p.fr) (hl : p'.fr.length = p.fr.length) (hA' : Lies U A' p'.fr)
    (hd : A' = A ∨ ∀ a, A' = some a → T.heap.size ≤ a.block) (hk : Keep (fun k => F k ∨ (w.heap.size + 3 ≤ k ∧ k < T.heap.size)) U V) (hH : Has V b p' F') (hF' : ∀ k, F' k → F k ∨ U.heap.size ≤ k) :
    (loadVar 36 ⟨w.heap.size + 1 + 1, 0, none⟩).run Tryz.prog (V.setCells (w.heap.size + 1 + 1) 0 (rc p' A' n c')) = .ok (rv p' A' n c') (V.setCells (w.heap.size + 1 + 1) 0 (rc p' A' n c')) ∧
    ActP w F A p' n (.returned (.tuple #[bx b, rv p' A' n c', .bool true])) (V.setCells (w.heap.size + 1 + 1) 0 (rc p' A' n c')) := by
  have hne : ∀ a, A' = some a → p'.fr ≠ [] → a.block < U.heap.size ∧ ¬ (F a.block ∨ (w.heap.size + 3 ≤ a.block ∧ a.block < T.heap.size)) ∧ a.block ≠ w.heap.size + 1 + 1 := by
    intro a ha hn
    have h1 := hA'.lt hn ha
    rcases hd with rfl | hd
    · have hn2 : p.fr ≠ [] := by
        rintro e
        rw [e] at hl
        exact hn (List.length_eq_zero_iff.1 hl)
      have := hA.lt hn2 ha
      exact ⟨h1, fun hf => hf.elim (hO a ha hn2) (fun _ => by omega), by omega⟩
    · have h2 := hd a ha
      exact ⟨h1, fun hf => hf.elim (fun hf => by have := hF _ hf; omega) (fun _ => by omega), by omega⟩
  refine ⟨stored_load (resV_len p') h.r, b, F', A', c', rfl, hH.keep fun k hk => heap_setCells (by
    rcases hF' k hk with h1 | h1
    · have := hF k h1; omega
    · omega) _ _ _, fun k hk => ?_, ?_, ?_, ?_, ?_⟩
  · rcases hF' k hk with h1 | h1
    · exact .inl h1
    · exact .inr (by omega)
  · have hkk : Keep F w V := h.keep
    have hs := h.s
    have hsc := below_setCells (n := 0) (Nat.zero_le (w.heap.size + 1 + 1)) (rc p' A' n c') 0 V (Below.refl 0 V)
    exact ⟨hsc.os.trans hkk.os, hsc.tape.trans hkk.tape, hsc.output.trans hkk.output, by rw [size_setCells]; exact hkk.size, fun k hk hn => (heap_setCells (by omega) _ _ _).trans (hkk.block k hk hn)⟩
  · refine hA'.keepX (fun a ha hn hlt => ?_) (by rw [size_setCells]; exact hk.size)
    obtain ⟨h1, h2, h3⟩ := hne a ha hn
    exact (heap_setCells h3 _ _ _).trans (hk.block _ hlt h2)
  · intro a ha hn hf
    obtain ⟨h1, h2, h3⟩ := hne a ha hn
    rcases hF' _ hf with h4 | h4
    · exact h2 (.inl h4)
    · omega
  · rcases hd with h1 | h1
    · exact .inl h1
    · exact .inr fun a ha => by have := h1 a ha; omega
/-- nothing turned -/
theorem AtW.stay {w V : World} {F F' : Nat → Prop} {A : Option Addr} {n c b : Nat} {x : Ac} {p : Pl} {cs : List Value} (h : AtW w F cs x V) (hF : ∀ k, F k → k < w.heap.size) (hA : Lies w A p.fr) (hO : Off F A p.fr) (hH : Has V b p F') (hF' : ∀ k, F' k → F k ∨ w.heap.size + 3 ≤ k) :
    (loadVar 36 ⟨w.heap.size + 1 + 1, 0, none⟩).run Tryz.prog (V.setCells (w.heap.size + 1 + 1) 0 (rc p A n c)) = .ok (rv p A n c) (V.setCells (w.heap.size + 1 + 1) 0 (rc p A n c)) ∧
    ActP w F A p n (.returned (.tuple #[bx b, rv p A n c, .bool true])) (V.setCells (w.heap.size + 1 + 1) 0 (rc p A n c)) := by
  have hs := h.s
  refine ⟨stored_load (resV_len p) h.r, b, F', A, c, rfl, hH.keep fun k hk => heap_setCells (by
    rcases hF' k hk with h1 | h1
    · have := hF k h1; omega
    · omega) _ _ _, fun k hk => ?_, ?_, ?_, ?_, .inl rfl⟩
  · rcases hF' k hk with h1 | h1
    · exact .inl h1
    · exact .inr (by omega)
  · have hkk : Keep F w V := h.keep
    have hsc := below_setCells (n := 0) (Nat.zero_le (w.heap.size + 1 + 1)) (rc p A n c) 0 V (Below.refl 0 V)
    exact ⟨hsc.os.trans hkk.os, hsc.tape.trans hkk.tape, hsc.output.trans hkk.output, by rw [size_setCells]; exact hkk.size, fun k hk hn => (heap_setCells (by omega) _ _ _).trans (hkk.block k hk hn)⟩
  · refine hA.keepX (fun a ha hn hlt => ?_) (by rw [size_setCells]; omega)
    exact (heap_setCells (by omega) _ _ _).trans (h.keep.block _ hlt (hO a ha hn))
  · intro a ha hn hf
    rcases hF' _ hf with h4 | h4
    · exact hO a ha hn h4
    · have := hA.lt hn ha; omega
/-- bytes of the law's own in block g -/
def Ob (W : World) (g c m : Nat) : Prop := ∃ cur : Array Value, W.heap[g]? = some (.cells cur 5 (0, 0)) ∧ cur.size = c ∧ ∀ i, i < m → ∃ z : Nat, z < 256 ∧ cur[i]? = some (.int .u8 (z : Int))
theorem ob_of {W : World} {B n c : Nat} {A : Option Addr} {l : List UInt8} (hl : l.length = n) (h : W.ownsRow B 5 1 (.slice A n c) n (byt l)) : ∃ g, B ≤ g ∧ (0 < n → A = some ⟨g, 0, none⟩ ∧ n ≤ c ∧ Ob W g c n) := by
  obtain ⟨_, ⟨h1, h2⟩ | ⟨g, cap, cur, h1, h2, h3, h4, _, h5, h6⟩⟩ := h
  · exact ⟨B, Nat.le_refl _, fun h => by omega⟩
  · simp only [Value.slice.injEq] at h1
    obtain ⟨rfl, _, rfl⟩ := h1
    refine ⟨g, h2, fun _ => ⟨rfl, h4, cur, h3, by omega, fun i hi => ?_⟩⟩
    have h7 : (byt l)[i]? = some (.int .u8 ((l[i]'(by omega)).toNat : Int)) := by
      unfold byt
      rw [List.getElem?_map, List.getElem?_eq_getElem (by omega)]
      rfl
    rw [← h6, List.getElem?_take, if_pos (by omega)] at h7
    exact ⟨_, UInt8.toNat_lt _, by simpa using h7⟩
theorem Ob.keep {W V : World} {g c m : Nat} (h : Ob W g c m) (hb : V.heap[g]? = W.heap[g]?) : Ob V g c m := by
  obtain ⟨cur, h1, h2⟩ := h
  exact ⟨cur, hb.trans h1, h2⟩
theorem Ob.lt {W : World} {g c m : Nat} (h : Ob W g c m) : g < W.heap.size := by
  obtain ⟨cur, h1, h2⟩ := h
  exact (Array.getElem?_eq_some_iff.1 h1).1
theorem Ob.at_ {W : World} {g c m i : Nat} (h : Ob W g c m) (hi : i < m) : ∃ z : Nat, z < 256 ∧ W.cell? ⟨g, i, none⟩ = some (.int .u8 (z : Int)) ∧ W.frozen? ⟨g, i, none⟩ = false := by
  obtain ⟨cur, h1, h2, h3⟩ := h
  obtain ⟨z, h4, h5⟩ := h3 i hi
  exact ⟨z, h4, by simpa [World.cell?, h1] using h5, by simp [World.frozen?, h1]⟩
theorem Ob.set {W : World} {g c m i z : Nat} (h : Ob W g c m) (hz : z < 256) : Ob (W.setCell ⟨g, i, none⟩ (.int .u8 (z : Int))) g c m := by
  obtain ⟨cur, h1, h2, h3⟩ := h
  have h4 := set_cells (o := i) (.int .u8 (z : Int)) h1
  refine ⟨_, h4, by simpa using h2, fun j hj => ?_⟩
  obtain ⟨y, h5, h6⟩ := h3 j hj
  by_cases e : i = j
  · subst e
    refine ⟨z, hz, ?_⟩
    have hlt := (Array.getElem?_eq_some_iff.1 h6).1
    simp [hlt]
  · exact ⟨y, h5, by rw [Array.getElem?_setIfInBounds_ne e]; exact h6⟩
end Go.Proofs.YtmbjjbgpcacoeaaGreat
