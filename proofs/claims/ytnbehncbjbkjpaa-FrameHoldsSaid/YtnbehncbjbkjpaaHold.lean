import Derived.Test.YtnbehncbjbkjpaaRunX
namespace Go.Proofs.Ytnbehncbjbkjpaa
open Go.RowKit Go.Shelf Go.Maps Go.Sort

/- FRAMEHOLDS: WHAT EACH CALL LEAVES. -/

theorem reserveP_fr (p : Pl) (o m : Int) : (reserveP p o m).fr = p.fr := by
  unfold reserveP
  split <;> rfl
theorem writeP_owns (p : Pl) (i a : Int) (l : List UInt8) : owns (writeP p i a l).fr = owns p.fr := by
  unfold writeP
  split
  next h0 =>
    obtain ⟨h1, h2, h3, h4, h5, o, bs, h6, h7⟩ := reach_some h0
    rw [h7]
    simp only []
    rw [owns_set]
    refine List.ext_getElem? fun j => ?_
    rw [List.getElem?_set]
    split
    next e =>
      subst e
      rw [owns_len, if_pos h2, owns_get, h6]
      rfl
    · rfl
  · rfl
theorem owns_leq {p q : Pl} (h : owns p.fr = owns q.fr) : p.fr.length = q.fr.length := by rw [← owns_len, h, owns_len]
theorem take_iff (p : Pl) (o : Int) : takeE p o = 0 ↔ (if ownerB o then (taken p.fr o.toNat : Int) else 0) < (if ownerB o then (resN p o.toNat : Int) else 0) := by
  unfold takeE resN
  cases ownerB o
  · simp
  · simp only [not_true_eq_false, if_false, if_true]
    split <;> omega

section
variable (w : World) (b mw : Nat)
def Rel (V : World) : Prop := ∃ P : Pl, P.fr.length = 10 ∧ RunX w b P (fun k => k = mw) V ∧ MapOf V mw (owns P.fr) ∧ w.heap.size ≤ mw
end
section
variable {w wr : World} {b mw : Nat}
theorem Rel.below (h : Rel w b mw wr) : Below w.heap.size w wr := by
  obtain ⟨P, h1, h2, h3, h4⟩ := h
  exact h2.below
theorem Rel.of {P : Pl} {X : Nat → Prop} {V : World} (h1 : P.fr.length = 10) (h2 : RunX w b P X V) (hX : X mw) (h3 : MapOf V mw (owns P.fr)) (h4 : w.heap.size ≤ mw) : Rel w b mw V := ⟨P, h1, h2.less (fun k hk => by subst hk; exact hX), h3, h4⟩

variable (cs : List Value)
/-- the world in which a call's copy lies -/
abbrev xw (wr : World) (cs : List Value) : World := wr.alloc (.cells cs.toArray 38)
def Two (mw xb : Nat) (k : Nat) : Prop := k = mw ∨ k = xb
theorem two_run {P : Pl} (h : RunX w b P (fun k => k = mw) wr) : RunX w b P (Two mw wr.heap.size) (xw wr cs) := h.add _
theorem two_cell {V : World} (hX : ∀ k, Two mw wr.heap.size k → V.heap[k]? = (xw wr cs).heap[k]?) (j : Nat) : V.cell? ⟨wr.heap.size, j, none⟩ = cs[j]? :=
  ((Row.new wr 38 cs).same (hX _ (.inr rfl))).cell j
theorem two_map {P : Pl} {V : World} (h : MapOf wr mw (owns P.fr)) (hX : ∀ k, Two mw wr.heap.size k → V.heap[k]? = (xw wr cs).heap[k]?) : MapOf V mw (owns P.fr) :=
  owns_same h ((hX _ (.inl rfl)).trans (Below.heap_alloc _ _ _ h.lt))

theorem step0 (h : Rel w b mw wr) (o m : Int) (hm : m ≤ 9223372036854775807) : Calls Try.prog 8 #[bx b, .int .i64 o, .int .i64 m] (xw wr cs) fun e V => (∃ r, e = .returned (.int .i64 r)) ∧ Rel w b mw V := by
  obtain ⟨P, h1, h2, h3, h4⟩ := h
  refine ((two_run cs h2).reserve o m hm).mono ?_
  rintro e V ⟨rfl, hR, hX⟩
  exact ⟨⟨_, rfl⟩, Rel.of (by rw [reserveP_fr]; exact h1) hR (.inl rfl) (by rw [reserveP_fr]; exact two_map cs h3 hX) h4⟩
theorem step3 (h : Rel w b mw wr) (i a : Int) (hi : i ≤ 9223372036854775807) (ha : -9223372036854775808 ≤ a ∧ a ≤ 9223372036854775807) (S : Option Addr) (n c : Nat) (l : List UInt8) (hl : l.length = n) (hS : Sees wr wr.heap.size S (byt l)) :
    Calls Try.prog 13 #[bx b, .int .i64 i, .int .i64 a, .slice S n c] (xw wr cs) fun e V => (∃ r, e = .returned (.int .i64 r)) ∧ Rel w b mw V := by
  obtain ⟨P, h1, h2, h3, h4⟩ := h
  refine ((two_run cs h2).write i a hi ha S n c l hl ((hS.alloc (Nat.le_refl _) _).more (by simp))).mono ?_
  rintro e V ⟨rfl, hR, hX⟩
  exact ⟨⟨_, rfl⟩, Rel.of (by rw [owns_leq (writeP_owns P i a l)]; exact h1) hR (.inl rfl) (by rw [writeP_owns]; exact two_map cs h3 hX) h4⟩
/-- behind a Give -/
def GiveP (w : World) (b mw xb : Nat) (u : Option Value) (m : Int) (e : Ending) (V : World) : Prop :=
  ∃ E : Nat, e = .returned (.int .i64 (E : Int)) ∧ V.cell? ⟨xb, 2, none⟩ = u ∧ (E ≠ 0 → Rel w b mw V) ∧ (E = 0 → ∃ (i : Nat) (D : DataW Unit), m = i ∧ i ≤ 10 ∧ V.ownsMap Try.prog 3 (plainElem Try.prog 3) mw 16384 D ∧
    ∀ V', V'.ownsMap Try.prog 3 (plainElem Try.prog 3) mw 16384 (D.del (.int .i64 (i : Int))) → V.mapTurned V' mw → Rel w b mw V')
theorem step2 (h : Rel w b mw wr) (m : Int) (hm : m ≤ 9223372036854775807) : Calls Try.prog 12 #[bx b, .int .i64 m] (xw wr cs) (GiveP w b mw wr.heap.size (cs[2]?) m) := by
  obtain ⟨P, h1, h2, h3, h4⟩ := h
  refine ((two_run cs h2).give m hm).mono ?_
  rintro e V ⟨rfl, hR, hX⟩
  have hmap := two_map cs h3 hX
  refine ⟨_, rfl, two_cell cs hX 2, fun hE => ?_, fun hE => ?_⟩
  · rw [giveE_P hE] at hR
    exact Rel.of h1 hR (.inl rfl) hmap h4
  · obtain ⟨g1, o, bs, g2, g3⟩ := giveE_some hE
    obtain ⟨i, rfl⟩ : ∃ i : Nat, m = i := ⟨m.toNat, by omega⟩
    rw [Int.toNat_natCast] at g2 g3
    have hi := (List.getElem?_eq_some_iff.1 g2).1
    refine ⟨i, _, rfl, by omega, hmap, fun V' hV' ht => ?_⟩
    rw [mapD_del] at hV'
    have hfr : owns (giveP P (i : Int)).fr = (owns P.fr).set i none := by rw [g3]; exact owns_set _ _ _
    refine Rel.of ?_ (hR.turn ht.grown (.inl rfl) h4) (.inl rfl) (by rw [hfr]; exact hV') h4
    have := congrArg List.length hfr
    rw [owns_len, List.length_set, owns_len] at this
    omega
/-- behind a Read of what was taken -/
def TakenP (w : World) (b mw xb I : Nat) (S : ByteArray) (ow : Int) (u : Option Value) (e : Ending) (V3 : World) : Prop :=
  ∃ A c, e = .returned (.tuple #[.slice A 256 c, .int .i64 0]) ∧ (∀ V4, Below V3.heap.size V3 V4 → (convert 36 9 (.slice A 256 c)).run Try.prog V4 = .ok (.string S) V4 ∧ V4.cell? ⟨xb, 1, none⟩ = u ∧
    ∃ (o : Nat) (D : DataW Unit), ow = o ∧ o < 64 ∧ V4.ownsMap Try.prog 3 (plainElem Try.prog 3) mw 16384 D ∧ ∀ V5, V5.ownsMap Try.prog 3 (plainElem Try.prog 3) mw (16384 + 1) (D.put (.int .i64 (I : Int)) (.lit (.int .i64 (o : Int)))) → V4.grownBy V5 (some mw) → Rel w b mw V5)
def TakeP2 (w : World) (b mw xb : Nat) (S : ByteArray) (r t ow : Int) (u : Option Value) (e : Ending) (V2 : World) : Prop :=
  ∃ I E : Nat, e = .returned (.tuple #[.int .i64 (I : Int), .int .i64 (E : Int)]) ∧ (E = 0 ↔ t < r) ∧ (E ≠ 0 → Rel w b mw V2) ∧ (E = 0 → I < 10 ∧ (∃ z, (Instr.lookup 35 (.map (some mw)) (.int .i64 (I : Int)) true).run Try.prog V2 = .ok (.tuple #[.int .i64 z, .bool false]) V2) ∧
    Calls Try.prog 15 #[bx b, .int .i64 (I : Int), .int .i64 0, .int .i64 256] V2 (TakenP w b mw xb I S ow u))
theorem frame_at {p : Pl} {i o : Nat} {bs : List UInt8} (h : p.fr[i]? = some (some (o, bs))) (hb : bs.length = 256) : reachE p (i : Int) 0 256 = 0 ∧ readP p (i : Int) 0 256 = bs := by
  have hi := (List.getElem?_eq_some_iff.1 h).1
  have hf : frameO p (i : Int).toNat = some (o, bs) := by unfold frameO; rw [Int.toNat_natCast, h]; rfl
  have h1 : reachE p (i : Int) 0 256 = 0 := by
    unfold reachE frameB
    rw [if_neg (by rw [decide_eq_true (by omega), decide_eq_true (by omega)]; simp [holdsB]), hf]
    rfl
  refine ⟨h1, ?_⟩
  unfold readP
  rw [if_pos h1, hf]
  show (bs.drop 0).take 256 = bs
  rw [List.drop_zero, List.take_of_length_le (by omega)]
theorem stepd (h : Rel w b mw wr) (ow : Int) : Calls Try.prog 14 #[bx b, .int .i64 ow] (xw wr cs) fun e V1 => ∃ r t, e = .returned (.tuple #[.int .i64 r, .int .i64 t]) ∧ V1.cell? ⟨wr.heap.size, 1, none⟩ = cs[1]? ∧
    Calls Try.prog 9 #[bx b, .int .i64 ow] V1 (TakeP2 w b mw wr.heap.size (str zero256) r t ow (cs[1]?)) := by
  obtain ⟨P, h1, h2, h3, h4⟩ := h
  have hok := h2.ok
  refine ((two_run cs h2).reserved ow).mono ?_
  rintro e V1 ⟨rfl, hR1, hX1⟩
  refine ⟨_, _, rfl, two_cell cs hX1 1, ?_⟩
  refine (hR1.take ow).mono ?_
  rintro e V2 ⟨rfl, hR2, hX2⟩
  have hX12 : ∀ k, Two mw wr.heap.size k → V2.heap[k]? = (xw wr cs).heap[k]? := fun k hk => (hX2 k hk).trans (hX1 k hk)
  have hmap := two_map cs h3 hX12
  refine ⟨_, _, rfl, take_iff P ow, fun hE => ?_, fun hE => ?_⟩
  · rw [takeP_same hE] at hR2
    exact Rel.of h1 hR2 (.inl rfl) hmap h4
  · obtain ⟨g1, g2, g3, g4, g5⟩ := takeE_left hok hE
    have hfr := (free1_spec _ _ g4).1
    have hI := (List.getElem?_eq_some_iff.1 hfr).1
    obtain ⟨o, rfl⟩ : ∃ o : Nat, ow = o := ⟨ow.toNat, by omega⟩
    have hP : (takeP P (o : Int)).fr = P.fr.set (takeI P (o : Int)) (some (o, zero256)) := by unfold takeP; rw [if_pos hE]; rfl
    have hat : ownAt (owns P.fr) (takeI P (o : Int) : Int) = none := by
      unfold ownAt
      rw [if_neg (by omega), owns_get, Int.toNat_natCast, hfr]
      rfl
    have hlk := lookup2_at hmap (i := (takeI P (o : Int) : Int)) (by omega) (by omega)
    rw [hat] at hlk
    refine ⟨by omega, ⟨_, hlk⟩, ?_⟩
    obtain ⟨hr1, hr2⟩ := frame_at (p := takeP P (o : Int)) (i := takeI P (o : Int)) (o := o) (bs := zero256) (by rw [hP, List.getElem?_set_self hI]) zero_len0
    have hrd := hR2.read (takeI P (o : Int) : Int) 0 256 (by omega) (by omega)
    rw [hr1, hr2, zero_len0] at hrd
    refine hrd.mono ?_
    rintro e V3 ⟨A, c, rfl, _, hrow, hb3, hR3, hX3⟩
    refine ⟨A, c, rfl, fun V4 hb4 => ?_⟩
    obtain ⟨hR4, hX4⟩ := hR3.more hb4
    have hX : ∀ k, Two mw wr.heap.size k → V4.heap[k]? = (xw wr cs).heap[k]? := fun k hk => (hX4 k hk).trans ((hX3 k hk).trans (hX12 k hk))
    refine ⟨run_conv_sees V4 Try.underlying36 Try.underlying5 Try.underlying9 zero_len0 ((Sees.of_own hrow).below hb4), two_cell cs hX 1, o, _, rfl, by omega, two_map cs h3 hX, fun V5 h5 hg5 => ?_⟩
    have hown : owns (takeP P (o : Int)).fr = (owns P.fr).set (takeI P (o : Int)) (some o) := by rw [hP]; exact owns_set _ _ _
    have hm5 := MapOf.put h5 (by rw [owns_len]; exact hI) (by rw [owns_len]; omega)
    refine Rel.of (by rw [hP, List.length_set]; exact h1) (hR4.turn hg5 (.inl rfl) h4) (.inl rfl) (by rw [hown]; exact hm5) h4
end
end Go.Proofs.Ytnbehncbjbkjpaa
