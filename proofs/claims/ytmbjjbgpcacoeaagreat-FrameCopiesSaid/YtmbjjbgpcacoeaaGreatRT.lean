import Derived.Test.YtmbjjbgpcacoeaaGreatRS
import Derived.Test.YtmbjjbgpcacoeaaGreatRO
import Derived.Test.YtmbjjbgpcacoeaaGreatRI
import Derived.Test.YtmbjjbgpcacoeaaGreatRH
import Derived.Test.YtmbjjbgpcacoeaaGreatRG
import Derived.Test.YtmbjjbgpcacoeaaGreatRL
namespace Go.Proofs.YtmbjjbgpcacoeaaGreat
open Go.RowKit Go.Shelf Go.Maps Go.Sort

/- A CALL BY BOTH: WHAT LIES WHERE. -/
def stepP (p : Pl) (x : Ac) : Pl := if x.what = 0 then reserveP p x.owner x.n else if x.what = 1 then takeP p x.owner else if x.what = 2 then giveP p x.n else if x.what = 3 then writeP p x.n x.at_ x.bs else p
theorem reserveP_len (p : Pl) (o m : Int) : (reserveP p o m).fr.length = p.fr.length := by
  unfold reserveP
  split <;> rfl
theorem takeP_len (p : Pl) (o : Int) : (takeP p o).fr.length = p.fr.length := by
  unfold takeP
  split
  · simp
  · rfl
theorem giveP_len (p : Pl) (i : Int) : (giveP p i).fr.length = p.fr.length := by
  unfold giveP
  split
  · simp
  · rfl
theorem writeP_len (p : Pl) (i a : Int) (l : List UInt8) : (writeP p i a l).fr.length = p.fr.length := by
  unfold writeP
  split
  · split
    · simp
    · rfl
  · rfl
theorem step_len (p : Pl) (x : Ac) : (stepP p x).fr.length = p.fr.length := by
  unfold stepP
  split
  · exact reserveP_len _ _ _
  split
  · exact takeP_len _ _
  split
  · exact giveP_len _ _
  split
  · exact writeP_len _ _ _ _
  · rfl
section
variable {w V V' : World} {b : Nat} {p : Pl} {F : Nat → Prop}
theorem Has.reserveN (h : Has w b p F) (o m : Int) (hm : m ≤ 9223372036854775807) : Calls Tryz.prog 33 #[bx b, .int .i64 o, .int .i64 m] w fun e w' => e = .returned (.int .i64 (reserveE p o m : Int)) ∧ Next w b (reserveP p o m) F w' := by
  by_cases hE : reserveE p o m = 0
  · have hob : 0 ≤ o ∧ 0 ≤ m := by
      unfold reserveE at hE
      split at hE
      · cases hE
      next h4 =>
        have h5 := Classical.not_not.1 h4
        simp only [ownerB, Bool.and_eq_true, decide_eq_true_eq] at h5
        exact ⟨h5.1.1, h5.2⟩
    obtain ⟨x, rfl⟩ : ∃ x : Nat, o = x := ⟨o.toNat, by omega⟩
    obtain ⟨y, rfl⟩ : ∃ y : Nat, m = y := ⟨m.toNat, by omega⟩
    rw [hE]
    exact reserve_yes h x y (by omega) hE
  · exact reserve_no h o m hm hE
theorem Has.takeN (h : Has w b p F) (o : Int) : Calls Tryz.prog 34 #[bx b, .int .i64 o] w fun e w' => e = .returned (.tuple #[.int .i64 (takeI p o : Int), .int .i64 (takeE p o : Int)]) ∧ Next w b (takeP p o) F w' := by
  by_cases hE : takeE p o = 0
  · obtain ⟨g1, _⟩ := takeE_left h.ok hE
    obtain ⟨x, rfl⟩ : ∃ x : Nat, o = x := ⟨o.toNat, by omega⟩
    rw [hE]
    exact take_yes h x hE
  · exact take_no h o hE
theorem Has.giveN (h : Has w b p F) (i : Int) (hi : i ≤ 9223372036854775807) : Calls Tryz.prog 36 #[bx b, .int .i64 i] w fun e w' => e = .returned (.int .i64 (giveE p i : Int)) ∧ Next w b (giveP p i) F w' := by
  by_cases hE : giveE p i = 0
  · obtain ⟨g1, _⟩ := giveE_some hE
    obtain ⟨x, rfl⟩ : ∃ x : Nat, i = x := ⟨i.toNat, by omega⟩
    rw [hE]
    exact give_yes h x (by omega) hE
  · exact give_no h i hi hE
end
theorem cell_same {W V : World} {a : Addr} (h : W.heap[a.block]? = V.heap[a.block]?) : W.cell? a = V.cell? a := World.cell?_of_block h
/-- the blocks that the call lays first -/
structure AtW (w : World) (F : Nat → Prop) (cs : List Value) (x : Ac) (V : World) : Prop where
  keep : Keep F w V
  s : w.heap.size + 3 ≤ V.heap.size
  t : Row V w.heap.size 36 cs
  a : Row V (w.heap.size + 1) 25 [.int .i64 x.what, .int .i64 x.owner, .int .i64 x.n, .int .i64 x.at_, .slice x.A x.bs.length x.c]
  r : Rm V (w.heap.size + 1 + 1)
structure AtC (w : World) (cs : List Value) (x : Ac) (V : World) : Prop where
  t0 : V.rangeAt w.heap.size 0 cs
  a0 : V.cell? ⟨w.heap.size + 1, 0, none⟩ = some (.int .i64 x.what)
  a1 : V.cell? ⟨w.heap.size + 1, 1, none⟩ = some (.int .i64 x.owner)
  a2 : V.cell? ⟨w.heap.size + 1, 2, none⟩ = some (.int .i64 x.n)
  a3 : V.cell? ⟨w.heap.size + 1, 3, none⟩ = some (.int .i64 x.at_)
  a4 : V.cell? ⟨w.heap.size + 1, 4, none⟩ = some (.slice x.A x.bs.length x.c)
section
variable {w V V' : World} {F : Nat → Prop} {cs : List Value} {x : Ac}
theorem AtW.c (h : AtW w F cs x V) : AtC w cs x V := ⟨row_range h.t, h.a.cell 0, h.a.cell 1, h.a.cell 2, h.a.cell 3, h.a.cell 4⟩
theorem AtW.there (h : AtW w F cs x V) {xs : List Value} (hl : xs.length = 65) : V.there (w.heap.size + 1 + 1) 0 xs.toArray.size := by
  show V.there _ 0 xs.length
  rw [hl]
  exact h.r.there
theorem AtW.next (h : AtW w F cs x V) (hF : ∀ k, F k → k < w.heap.size) (hk : Keep F V V') : AtW w F cs x V' :=
  ⟨h.keep.trans hk fun _ _ h => h, Nat.le_trans h.s hk.size, hk.row h.t fun hf => by have := hF _ hf; omega, hk.row h.a fun hf => by have := hF _ hf; omega, h.r.same (hk.block _ h.r.lt fun hf => by have := hF _ hf; omega)⟩
theorem AtW.more (h : AtW w F cs x V) (hF : ∀ k, F k → k < w.heap.size) (hb : Below V.heap.size V V') : AtW w F cs x V' := h.next hF (Keep.of_below hb)
theorem AtW.new (w : World) (F : Nat → Prop) (cs : List Value) (x : Ac) : AtW w F cs x (((w.alloc (.cells cs.toArray 36)).alloc (.cells #[.int .i64 x.what, .int .i64 x.owner, .int .i64 x.n, .int .i64 x.at_, .slice x.A x.bs.length x.c] 25)).alloc (.cells Tryz.zeroCells36 36)) := by
  have h := Rm.new ((w.alloc (.cells cs.toArray 36)).alloc (.cells #[.int .i64 x.what, .int .i64 x.owner, .int .i64 x.n, .int .i64 x.at_, .slice x.A x.bs.length x.c] 25))
  rw [World.size_alloc, World.size_alloc] at h
  exact ⟨Keep.of_below (below3 _ _ _ _), by simp, ((Row.new w _ cs).below (below1 _ _)).below (below1 _ _), (Row.new_at _ _ [.int .i64 x.what, .int .i64 x.owner, .int .i64 x.n, .int .i64 x.at_, .slice x.A x.bs.length x.c] (by simp)).below (below1 _ _), h⟩
end
theorem res_mid {fn : Func} {p q t : Tmp} {ty : TypeId} (h : fn.results = #[.tmp p, .cell q ty, .tmp t]) {tmps : Array Value} {P : Program} {w : World} {a : Addr} (ha : tmps.getD q undef = .pointer (some a)) {v : Value} (hv : (loadVar ty a).run P w = .ok v w) :
    (results fn tmps).run P w = .ok (.tuple #[tmps.getD p undef, v, tmps.getD t undef]) w := by
  have h1 : (results fn tmps).run P w = ((asAddr (tmps.getD q undef)).run P w).andThen fun a w₁ => ((loadVar ty a).run P w₁).andThen fun v w₂ => .ok (.tuple #[tmps.getD p undef, v, tmps.getD t undef]) w₂ := by
    unfold results
    rw [h]
    simp [Sem.run_bind, Result.andThen]
  rw [h1, ha]
  show ((loadVar ty a).run P w).andThen _ = _
  rw [hv]
  rfl
theorem Lies.keepX {w w' : World} {l : List Fr} {A : Option Addr} (h : Lies w A l) (hk : ∀ a, A = some a → l ≠ [] → a.block < w.heap.size → w'.heap[a.block]? = w.heap[a.block]?) (hs : w.heap.size ≤ w'.heap.size) : Lies w' A l := fun hn => by
  obtain ⟨ad, e, hb, hc⟩ := h hn
  have hl : l ≠ [] := by
    rintro rfl
    exact hn rfl
  exact ⟨ad, e, Nat.lt_of_lt_of_le hb hs, fun j u hu => (World.cell?_of_block (by rw [add_block]; exact hk ad e hl hb)).trans (hc j u hu)⟩
theorem Lies.lt {w : World} {l : List Fr} {A : Option Addr} (h : Lies w A l) (hl : l ≠ []) {a : Addr} (ha : A = some a) : a.block < w.heap.size := by
  have hn : l.flatMap encFr ≠ [] := by
    obtain ⟨r, t, rfl⟩ : ∃ r t, l = r :: t := by
      cases l with
      | nil => exact absurd rfl hl
      | cons r t => exact ⟨r, t, rfl⟩
    simp [encFr]
  obtain ⟨ad, e, hb, _⟩ := h hn
  rw [ha] at e
  cases e
  exact hb
/-- the rows lie apart from the pool's own blocks -/
def Off (F : Nat → Prop) (A : Option Addr) (fr : List Fr) : Prop := ∀ a, A = some a → fr ≠ [] → ¬ F a.block
/-- behind a call: another pool, perhaps a copy, and its rows -/
def ActP (w : World) (F : Nat → Prop) (A : Option Addr) (p' : Pl) (n : Nat) (e : Ending) (w' : World) : Prop :=
  ∃ b' F' A' c', e = .returned (.tuple #[bx b', rv p' A' n c', .bool true]) ∧ Has w' b' p' F' ∧ (∀ k, F' k → F k ∨ w.heap.size ≤ k) ∧ Keep F w w' ∧ Lies w' A' p'.fr ∧ Off F' A' p'.fr ∧ (A' = A ∨ ∀ a, A' = some a → w.heap.size ≤ a.block)
/-- the last store: the answer's pool; U: the world where the document's rows were made, V: behind the code's call -/
theorem AtW.done {w T U V : World} {F F' : Nat → Prop} {A A' : Option Addr} {n c' b : Nat} {x : Ac} {p p' : Pl} {cs : List Value} (h : AtW w F cs x V) (hF : ∀ k, F k → k < w.heap.size) (hT : w.heap.size + 3 ≤ T.heap.size) (hTU : T.heap.size ≤ U.heap.size) (hA : Lies w A p.fr) (hO : Off F A p.fr) (hl : p'.fr.length = p.fr.length) (hA' : Lies U A' p'.fr)
    (hd : A' = A ∨ ∀ a, A' = some a → T.heap.size ≤ a.block) (hk : Keep F U V) (hH : Has V b p' F') (hF' : ∀ k, F' k → F k ∨ U.heap.size ≤ k) :
    (loadVar 36 ⟨w.heap.size + 1 + 1, 0, none⟩).run Tryz.prog (V.setCells (w.heap.size + 1 + 1) 0 (rc p' A' n c')) = .ok (rv p' A' n c') (V.setCells (w.heap.size + 1 + 1) 0 (rc p' A' n c')) ∧
    ActP w F A p' n (.returned (.tuple #[bx b, rv p' A' n c', .bool true])) (V.setCells (w.heap.size + 1 + 1) 0 (rc p' A' n c')) := by
  have hne : ∀ a, A' = some a → p'.fr ≠ [] → a.block < U.heap.size ∧ ¬ F a.block ∧ a.block ≠ w.heap.size + 1 + 1 := by
    intro a ha hn
    have h1 := hA'.lt hn ha
    rcases hd with rfl | hd
    · have hn2 : p.fr ≠ [] := by
        rintro e
        rw [e] at hl
        exact hn (List.length_eq_zero_iff.1 hl)
      have := hA.lt hn2 ha
      exact ⟨h1, hO a ha hn2, by omega⟩
    · have h2 := hd a ha
      exact ⟨h1, fun hf => by have := hF _ hf; omega, by omega⟩
  refine ⟨stored_load (resV_len p') h.r, b, F', A', c', rfl, hH.keep fun k hk => heap_setCells (by
    rcases hF' k hk with h1 | h1
    · have := hF k h1; omega
    · omega) _ _ _, fun k hk => ?_, ?_, ?_, ?_, ?_⟩
  · rcases hF' k hk with h1 | h1
    · exact .inl h1
    · exact .inr (by omega)
  · have hkk : Keep F w V := h.keep
    have hs := h.s
    have hsc := below_setCells (n := 0) (Nat.zero_le (w.heap.size + 1 + 1)) (rc p' A' n c') 0 V (Below.refl 0 V)
    exact ⟨hsc.os.trans hkk.os, hsc.tape.trans hkk.tape, hsc.output.trans hkk.output, by rw [size_setCells]; exact hkk.size, fun k hk hn => (heap_setCells (by omega) _ _ _).trans (hkk.block k hk hn)⟩
  · refine hA'.keepX (fun a ha hn hlt => ?_) (by rw [size_setCells]; exact hk.size)
    obtain ⟨h1, h2, h3⟩ := hne a ha hn
    exact (heap_setCells h3 _ _ _).trans (hk.block _ hlt h2)
  · intro a ha hn hf
    obtain ⟨h1, h2, h3⟩ := hne a ha hn
    rcases hF' _ hf with h4 | h4
    · exact h2 h4
    · omega
  · rcases hd with h1 | h1
    · exact .inl h1
    · exact .inr fun a ha => by have := h1 a ha; omega
end Go.Proofs.YtmbjjbgpcacoeaaGreat
