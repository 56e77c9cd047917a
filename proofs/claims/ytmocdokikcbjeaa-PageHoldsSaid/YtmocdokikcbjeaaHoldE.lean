import Derived.Test.YtmocdokikcbjeaaHold
namespace Go.Proofs.Ytmocdokikcbjeaa
open Go.RowKit Go.Shelf Go.Maps Go.Sort

/- A COPY BESIDE ITS TABLE. -/

section
variable {w0 w w' : World} {b : Nat} {l l2 : Tb} {X F : Nat → Prop}
theorem RunX.copy (h : RunX w0 b l X w) : Calls Try.prog 13 #[bx b] w fun e w' => ∃ c Fc, e = .returned (bx c) ∧ Has w' c l Fc ∧ RunX w0 b l (fun k => X k ∨ Fc k) w' ∧ (∀ k, Fc k → w.heap.size ≤ k) ∧ ∀ k, X k → w'.heap[k]? = w.heap[k]? := by
  obtain ⟨F, ⟨bp, bf, h1, rfl⟩, h2, h3, h4⟩ := h
  refine (Copy_any h1).mono ?_
  rintro e w' ⟨c, Fc, e1, e2, e3, e4⟩
  refine ⟨c, Fc, e1, e2, ⟨_, ⟨bp, bf, h1.below e4, rfl⟩, fun k hk => ⟨(h2 k hk).1, ?_⟩, below0 h3 e4, ?_⟩, e3, fun k hk => e4.block k (h4 k hk)⟩
  · rintro (hx | hx)
    · exact (h2 k hk).2 hx
    · have := h1.lt k hk
      have := e3 k hx
      omega
  · rintro k (hx | hx)
    · exact Nat.lt_of_lt_of_le (h4 k hx) e4.size
    · exact e2.lt k hx
theorem RunX.same2 {c : Nat} {Fc : Nat → Prop} (h : RunX w0 b l X w) (hc : Has w c l2 Fc) : Calls Try.prog 12 #[bx b, bx c] w fun e w' => e = .returned (.bool (decide (l = l2))) ∧ RunX w0 b l X w' ∧ ∀ k, X k → w'.heap[k]? = w.heap[k]? := by
  obtain ⟨F, ⟨bp, bf, h1, rfl⟩, h2, h3, h4⟩ := h
  obtain ⟨cp, cf, g1, rfl⟩ := hc
  exact (Same_any h1 g1).mono fun _ _ ⟨e1, e2⟩ => ⟨e1, RunX.more ⟨_, ⟨bp, bf, h1, rfl⟩, h2, h3, h4⟩ e2⟩
theorem RunX.len (h : RunX w0 b l X w) : Calls Try.prog 25 #[bx b] w fun e w' => e = .returned (.int .i64 (l.length : Int)) ∧ w = w' := by
  obtain ⟨F, ⟨bp, bf, h1, rfl⟩, h2, h3, h4⟩ := h
  exact len_any h1
theorem RunX.all (h : RunX w0 b l X w) (o : Int) (many : Nat) (hm1 : 1 ≤ many) (hm : many ≤ 100000) : Calls Try.prog 23 #[bx b, .int .i64 o, .int .i64 (many : Int)] w (fun e w' => RowsP w ((ofO l o).take many) e w' ∧ RunX w0 b l X w' ∧ ∀ k, X k → w'.heap[k]? = w.heap[k]?) := by
  refine (h.run.all o many hm1 hm).mono ?_
  rintro e w' ⟨A, c, h1, h2, h3⟩
  exact ⟨⟨A, c, h1, h2, h3⟩, h.more h3⟩
end

/-! the law's state: the table beside its map -/
def Hl (w0 : World) (b mw : Nat) (l : Tb) (o : Int) (k : Nat) (w : World) : Prop := RunX w0 b l (fun q => q = mw) w ∧ OneM w mw l o k ∧ w0.heap.size ≤ mw
section
variable {w0 w : World} {b mw : Nat} {l : Tb} {o : Int} {k : Nat}
theorem Hl.start (h : Run w0 b l w) : Hl w0 b w.heap.size l (-1) 0 (w.alloc (.map #[] 0)) :=
  ⟨((RunX.of h).add _).less fun _ hq => .inr hq, OneM.start h.ok w, h.below.size⟩
/-- behind an owner's rows -/
def RowsX (w0 : World) (b mw : Nat) (l : Tb) (o : Int) (B : Nat) (A : Option Addr) (c : Nat) (k : Nat) (w : World) : Prop :=
  Hl w0 b mw l o k w ∧ mw < B ∧ w.ownsRow B 46 4 (.slice A (ofO l o).length c) (ofO l o).length ((ofO l o).flatMap encR)
theorem Hl.rows (h : Hl w0 b mw l o 0 w) (hl : l.length ≤ 40) : Calls Try.prog 23 #[bx b, .int .i64 o, .int .i64 100] w fun e w' => ∃ A c, e = .returned (.slice A (ofO l o).length c) ∧ RowsX w0 b mw l o w.heap.size A c 0 w' := by
  obtain ⟨h1, h2, h3⟩ := h
  refine (h1.all o 100 (by omega) (by omega)).mono ?_
  have hlen : (ofO l o).length ≤ l.length := List.length_filter_le _ _
  rw [List.take_of_length_le (by omega)]
  rintro e w' ⟨⟨A, c, rfl, e2, e3⟩, e4, e5⟩
  exact ⟨A, c, rfl, ⟨e4, h2.same (e5 _ rfl), h3⟩, h2.lt, e2⟩
/-- a row, and what the law does with it -/
theorem RowsX.row {B c : Nat} {A : Option Addr} (h : RowsX w0 b mw l o B A c k w) (hl : l.length ≤ 40) (hk : k < (ofO l o).length) :
    ∃ ad F D, A = some ad ∧ w.cell? ⟨(ad.add (k * 4)).block, (ad.add (k * 4)).off + 1, none⟩ = some (.int .i64 o) ∧ w.cell? ⟨(ad.add (k * 4)).block, (ad.add (k * 4)).off + 3, none⟩ = some (.int .i64 F) ∧ I64 F ∧
      (Instr.lookup 63 (.map (some mw)) (.int .i64 F) false).run Try.prog w = .ok (.int .i64 0) w ∧ w.ownsMap Try.prog 3 (plainElem (H := Unit) Try.prog 3) mw 1000 D ∧
      ∀ w', w'.ownsMap Try.prog 3 (plainElem Try.prog 3) mw (1000 + 1) (D.put (.int .i64 F) (.lit (.int .i64 1))) → w.grownBy w' (some mw) → RowsX w0 b mw l o B A c (k + 1) w' := by
  obtain ⟨⟨h1, h2, h3⟩, h4, h5⟩ := h
  obtain ⟨ad, rfl, hr⟩ := Lies.at_ (sees_of h5) k hk
  have hm := List.mem_filter.1 (List.getElem_mem hk)
  have ho : (ofO l o)[k].2.1 = o := by simpa using hm.2
  obtain ⟨g1, D, g2, g3⟩ := h2.look h1.ok hk
  have c1 := hr.c1
  rw [ho] at c1
  refine ⟨ad, _, D, rfl, c1, hr.c3, (h1.ok.big _ hm.1).2.2, g1, g2, fun w' h6 h7 => ⟨⟨h1.turn h7 rfl h3, g3 w' h6 (by omega), h3⟩, h4, own_keep h5 fun q hq => ?_⟩⟩
  have := h5.lt q hq
  exact h7.block q this.2 (fun e => by injection e with e; omega)
theorem RowsX.next {B c : Nat} {A : Option Addr} (h : RowsX w0 b mw l o B A c (ofO l o).length w) : Hl w0 b mw l (o + 1) 0 w := by
  obtain ⟨⟨h1, h2, h3⟩, h4, h5⟩ := h
  exact ⟨h1, h2.next, h3⟩

/-! behind the copy -/
structure Tail (w0 : World) (b mw c : Nat) (l l0 : Tb) (w : World) (X : Nat → Prop) : Prop where
  run : RunX w0 b l X w
  cop : ∃ Fc, Has w c l0 Fc ∧ ∀ k, Fc k → X k
  map : OneM w mw l0 64 0
  xm : X mw
variable {c : Nat} {l0 l' : Tb} {X : Nat → Prop} {w' : World}
theorem Tail.next (h : Tail w0 b mw c l l0 w X) (hR : RunX w0 b l' X w') (hX : ∀ k, X k → w'.heap[k]? = w.heap[k]?) : Tail w0 b mw c l' l0 w' X := by
  obtain ⟨h1, ⟨Fc, h2, h3⟩, h4, h5⟩ := h
  exact ⟨hR, ⟨Fc, h2.keep fun k hk => hX k (h3 k hk), h3⟩, h4.same (hX _ h5), h5⟩
theorem Tail.more (h : Tail w0 b mw c l l0 w X) (hb : Below w.heap.size w w') : Tail w0 b mw c l l0 w' X := by
  obtain ⟨h1, h2⟩ := h.run.more hb
  exact h.next h1 h2
theorem Tail.copy (h : Hl w0 b mw l 64 0 w) : Calls Try.prog 13 #[bx b] w fun e w' => ∃ c X, e = .returned (bx c) ∧ Tail w0 b mw c l l w' X := by
  obtain ⟨h1, h2, h3⟩ := h
  refine h1.copy.mono ?_
  rintro e w' ⟨c, Fc, rfl, e2, e3, e4, e5⟩
  exact ⟨c, _, rfl, e3, ⟨Fc, e2, fun k hk => .inr hk⟩, h2.same (e5 _ rfl), .inl rfl⟩
/-- the last questions: all is as it was -/
theorem Tail.same (h : Tail w0 b mw c l l w X) : Calls Try.prog 12 #[bx b, bx c] w fun e w' => e = .returned (.bool true) ∧ Tail w0 b mw c l l w' X := by
  obtain ⟨Fc, h2, h3⟩ := h.cop
  refine (h.run.same2 h2).mono ?_
  rintro e w' ⟨rfl, e2, e3⟩
  exact ⟨by rw [decide_eq_true rfl], h.next e2 e3⟩
theorem Tail.len (h : Tail w0 b mw c l l0 w X) : Calls Try.prog 25 #[bx b] w fun e w' => e = .returned (.int .i64 (l.length : Int)) ∧ w = w' := h.run.len
theorem Tail.nxt (h : Tail w0 b mw c l l w X) {a m N : Int} (hN : Lst l a m N) (h0 : 0 ≤ a) : Calls Try.prog 19 #[bx b, .int .i64 a, .int .i64 m] w fun e w' => e = .returned (.tuple #[.int .i64 N, .bool true]) ∧ Tail w0 b mw c l l w' X := by
  refine (h.run.nxt a m).mono ?_
  have := hN.ge
  rw [hN.next, if_pos (by omega), decide_eq_true (by omega)]
  rintro e w' ⟨rfl, e2, e3⟩
  exact ⟨rfl, h.next e2 e3⟩
theorem Tail.free (h : Tail w0 b mw c l l w X) {a m N : Int} (hN : Lst l a m N) (x : Int) (h1 : a ≤ x) (h2 : x ≤ N) : Calls Try.prog 26 #[bx b, .int .i64 x, .int .i64 m] w fun e w' => e = .returned (.tuple #[.bool (decide (x = N)), .int .i64 0]) ∧ Tail w0 b mw c l l w' X := by
  refine (h.run.free x m).mono ?_
  rw [hN.err x h1 h2, hN.free x h1 h2]
  rintro e w' ⟨rfl, e2, e3⟩
  exact ⟨rfl, h.next e2 e3⟩
theorem Tail.map_no (h : Tail w0 b mw c l l0 w X) (p : Int) (x : En) (hx : En64 x) (hE : mapE l p x ≠ 0) : Calls Try.prog 18 #[bx b, .int .i64 p, enV x] w fun e w' => e = .returned (.int .i64 (mapE l p x : Int)) ∧ Tail w0 b mw c l l0 w' X := by
  refine (h.run.map p x hx).mono ?_
  rw [mapT_same hE]
  rintro e w' ⟨rfl, e2, e3⟩
  exact ⟨rfl, h.next e2 e3⟩
theorem Tail.map_yes (h : Tail w0 b mw c l l w X) (p : Int) (x : En) (hx : En64 x) (hE : mapE l p x = 0) : Calls Try.prog 18 #[bx b, .int .i64 p, enV x] w fun e w' => e = .returned (.int .i64 0) ∧ Below w0.heap.size w0 w' ∧
    Calls Try.prog 21 #[bx b, .int .i64 p] w' fun e w'' => e = .returned (.tuple #[enV x, .int .i64 0]) ∧ Tail w0 b mw c l l w'' X := by
  have hok := h.run.ok
  refine (h.run.map p x hx).mono ?_
  rintro e w' ⟨rfl, e2, e3⟩
  refine ⟨by rw [hE]; rfl, e2.below, ?_⟩
  obtain ⟨g1, g2, g3⟩ := back_un hok p x hx hE
  refine (e2.unmap p).mono ?_
  rw [g1, g2, g3]
  rintro e w'' ⟨rfl, e4, e5⟩
  exact ⟨rfl, (h.next e2 e3).next e4 e5⟩
end
end Go.Proofs.Ytmocdokikcbjeaa
