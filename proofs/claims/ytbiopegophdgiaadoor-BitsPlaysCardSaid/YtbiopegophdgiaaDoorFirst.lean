import Derived.Test.YtbiopegophdgiaaDoorPlaces
namespace Go.Proofs.YtbiopegophdgiaaDoor
open Go.RowKit Go.Shelf
attribute [local go_sem] Oper.semAt_some

/- THE FIRST PLACE THAT IS SUCH. -/

theorem Keep.grown {F : Nat → Prop} {w V V' : World} {row : Option Nat} (h : Keep F w V) (hg : V.grownBy V' row) (hr : ∀ r, row = some r → w.heap.size ≤ r ∨ F r) : Keep F w V' :=
  ⟨hg.os.trans h.os, hg.tape.trans h.tape, hg.output.trans h.output, Nat.le_trans h.size hg.size, fun k hk hf => (hg.block k (Nat.lt_of_lt_of_le hk h.size) (fun e => by
    rcases hr k e.symm with h1 | h1
    · omega
    · exact hf h1)).trans (h.block k hk hf)⟩

/-- the first of xs that is such, pre having come -/
def findP (ok : List Nat → Nat → Bool) : List Nat → List Nat → Option Nat
  | _, [] => none
  | pre, x :: xs => if ok pre x then some x else findP ok (pre ++ [x]) xs
def numO (r : Option Nat) : Int := match r with | some x => (x : Int) | none => 0
/-- none of pre is such -/
def past (ok : List Nat → Nat → Bool) (pre : List Nat) : Prop := ∀ rest, findP ok [] (pre ++ rest) = findP ok pre rest
theorem past_nil (ok : List Nat → Nat → Bool) : past ok [] := fun _ => rfl
theorem past.next {ok : List Nat → Nat → Bool} {pre : List Nat} {x : Nat} (h : past ok pre) (hx : ok pre x = false) : past ok (pre ++ [x]) := fun rest => by
  rw [List.append_assoc, h, List.singleton_append, findP, hx]; rfl

theorem places_any (A : Option Addr) (n c : Nat) (w : World) : Calls Tryd.prog 38 #[.slice A n c] w fun e w' =>
    e = .returned (.func (.func 48) #[] #[.pointer (some ⟨w.heap.size, 0, none⟩)]) ∧ w.alloc (.cells #[.slice A n c] 32) = w' := by
  go_enter Tryd.func38, Tryd.ntmps38
  go_wp2
  go_ret
  exact ⟨rfl, rfl⟩

/-- what a closure does that is asked of one place behind the other: its own number stands in block bk -/
def Asks (cf bk : Nat) (st : List Nat → Int) (ok : List Nat → Nat → Bool) (l : List Bool) : Prop :=
  ∀ (pre : List Nat) (x : Nat) (W : World), preP l pre x → Boxed W bk 3 (.int .i64 (st pre)) → Calls Tryd.prog cf #[.int .i64 (x : Int), .pointer (some ⟨bk, 0, none⟩)] W fun e W' =>
    e = .returned (.bool (ok pre x)) ∧ Boxed W' bk 3 (.int .i64 (st (pre ++ [x]))) ∧ Keep (· = bk) W W'

section
variable (cf bk : Nat) (st : List Nat → Int) (ok : List Nat → Nat → Bool) (w : World)
/-- what holds between two places -/
def fI (pre : List Nat) (_ : Nat → Prop) (V : World) : Prop :=
  past ok pre ∧ Boxed V w.heap.size 40 (.func (.func cf) #[] #[.pointer (some ⟨bk, 0, none⟩)]) ∧
    Boxed V (w.heap.size + 1) 3 (.int .i64 0) ∧ Boxed V (w.heap.size + 1 + 1) 4 (.bool false) ∧ Boxed V bk 3 (.int .i64 (st pre)) ∧ Keep (· = bk) w V
/-- what holds where one has been found -/
def fX (c : Code) (pre' : List Nat) (_ : Nat → Prop) (V : World) : Prop :=
  c = .ret ∧ ∃ pre x, pre' = pre ++ [x] ∧ past ok pre ∧ ok pre x = true ∧
    Boxed V (w.heap.size + 1) 3 (.int .i64 (x : Int)) ∧ Boxed V (w.heap.size + 1 + 1) 4 (.bool true) ∧ Keep (· = bk) w V
end
section
variable {cf bk : Nat} {st : List Nat → Int} {ok : List Nat → Nat → Bool} {w : World}
theorem fI.abid {B : Nat} (hB : w.heap.size + 3 ≤ B) (hk : bk < w.heap.size) : Abid B (fI cf bk st ok w) := by
  rintro s O V V' row ⟨h1, h2, h3, h4, h5, h6⟩ hg hr
  have hne : ∀ k, k < B → some k ≠ row := fun k hk e => by have := (hr k e.symm).1; omega
  exact ⟨h1, h2.kept hg (hne _ (by omega)), h3.kept hg (hne _ (by omega)), h4.kept hg (hne _ (by omega)), h5.kept hg (hne _ (by omega)), h6.grown hg (fun r e => by have := (hr r e).1; omega)⟩
theorem fX.abid {B : Nat} (hB : w.heap.size + 3 ≤ B) (c : Code) : Abid B (fX bk ok w c) := by
  rintro s O V V' row ⟨h1, pre, k, e1, h2, h2', h3, h4, h5⟩ hg hr
  have hne : ∀ k, k < B → some k ≠ row := fun k hk e => by have := (hr k e.symm).1; omega
  exact ⟨h1, pre, k, e1, h2, h2', h3.kept hg (hne _ (by omega)), h4.kept hg (hne _ (by omega)), h5.grown hg (fun r e => by have := (hr r e).1; omega)⟩

/-- how the call ends, once the deferred list has been taken -/
theorem first_close {r : Option Nat} {w2 V : World} (hs2 : w2.heap.size = w.heap.size + 3) (h2 : Boxed V (w.heap.size + 1) 3 (.int .i64 (numO r))) (h3 : Boxed V (w.heap.size + 1 + 1) 4 (.bool r.isSome)) (hb : Keep (· = bk) w V)
    (tmps : Array Value) (t4 : tmps[4]?.getD undef = .pointer (some ⟨w.heap.size + 1, 0, none⟩)) (t5 : tmps[5]?.getD undef = .pointer (some ⟨w.heap.size + 1 + 1, 0, none⟩)) :
    ∃ v, (results Tryd.f37 tmps).run Tryd.prog (V.putObj w2.heap.size (.deferred none)) = .ok v (V.putObj w2.heap.size (.deferred none)) ∧
      (Ending.returned v = .returned (.tuple #[.int .i64 (numO r), .bool r.isSome]) ∧ Keep (· = bk) w (V.putObj w2.heap.size (.deferred none))) := by
  have e1 : Boxed (V.putObj w2.heap.size (.deferred none)) (w.heap.size + 1) 3 (.int .i64 (numO r)) := (World.putObj_heap_other (by omega)).trans h2
  have e2 : Boxed (V.putObj w2.heap.size (.deferred none)) (w.heap.size + 1 + 1) 4 (.bool r.isSome) := (World.putObj_heap_other (by omega)).trans h3
  have e3 : Keep (· = bk) w (V.putObj w2.heap.size (.deferred none)) := hb.grown (putObj_grown V _ _) (fun r e => by cases e; exact .inl (by omega))
  obtain ⟨V', hV'⟩ : ∃ V', V' = V.putObj w2.heap.size (.deferred none) := ⟨_, rfl⟩
  rw [← hV'] at e1 e2 e3 ⊢
  have c0 := e1.cell
  have c2 := e2.cell
  refine ⟨.tuple #[.int .i64 (numO r), .bool r.isSome], ?_, rfl, e3⟩
  simp [results, Tryd.results37, go_sem, c0, c2, t4, t5]
end

set_option maxHeartbeats 2000000 in
theorem first_any (cf bk bw c : Nat) (st : List Nat → Int) (ok : List Nat → Nat → Bool) (l : List Bool) (A : Option Addr) (w : World) (eg : ∀ args w, (callFunc cf args).run Tryd.prog w = .ok (.enter cf args) w)
    (hcl : Asks cf bk st ok l) (hl : l.length ≤ 4096) (hcw : w.cell? ⟨bw, 0, none⟩ = some (.slice A (nw l.length) c)) (hsrc : Src w A l) (ht : Tab w)
    (hbk : Boxed w bk 3 (.int .i64 (st []))) (hn1 : bk ≠ bw) (hn2 : A ≠ some ⟨bk, 0, none⟩) (hn3 : bk ≠ 0) :
    Calls Tryd.prog 37 #[.func (.func 48) #[] #[.pointer (some ⟨bw, 0, none⟩)], .func (.func cf) #[] #[.pointer (some ⟨bk, 0, none⟩)]] w fun e w' =>
      e = .returned (.tuple #[.int .i64 (numO (findP ok [] (idxs 0 l))), .bool (findP ok [] (idxs 0 l)).isSome]) ∧ Keep (· = bk) w w' := by
  have hbkl := hbk.lt
  have hbwl := lt_of_cell hcw
  simp only at hbwl
  refine calls_marks Tryd.func37 rfl ?_
  simp only [Tryd.ntmps37, List.size_toArray, List.length_cons, List.length_nil, Nat.reduceAdd, Nat.reduceSub, Array.replicate_succ, Array.replicate_zero, List.push_toArray, List.append_toArray, List.nil_append, List.cons_append]
  go_wp2_with fail
  obtain ⟨w2, hw2⟩ : ∃ w2, w2 = ((w.alloc (Obj.cells #[Value.func (Fn.func cf) #[] #[Value.pointer (some ⟨bk, 0, none⟩)]] 40)).alloc (Obj.cells #[Value.int IntKind.i64 0] 3)).alloc (Obj.cells #[Value.bool false] 4) := ⟨_, rfl⟩
  have hs2 : w2.heap.size = w.heap.size + 3 := by rw [hw2]; simp
  have hB2 : Below w.heap.size w w2 := by rw [hw2]; exact (below2 _ _ _).alloc (by simp; omega) _
  have hX1 : Boxed w2 w.heap.size 40 (.func (.func cf) #[] #[.pointer (some ⟨bk, 0, none⟩)]) := by rw [hw2]; exact ((Boxed.new w _ _).alloc _).alloc _
  have hX2 : Boxed w2 (w.heap.size + 1) 3 (.int .i64 0) := by
    have h := Boxed.new (w.alloc (Obj.cells #[Value.func (Fn.func cf) #[] #[Value.pointer (some ⟨bk, 0, none⟩)]] 40)) 3 (.int .i64 0)
    rw [World.size_alloc] at h
    rw [hw2]
    exact h.alloc _
  have hX3 : Boxed w2 (w.heap.size + 1 + 1) 4 (.bool false) := by
    have h := Boxed.new ((w.alloc (Obj.cells #[Value.func (Fn.func cf) #[] #[Value.pointer (some ⟨bk, 0, none⟩)]] 40)).alloc (Obj.cells #[Value.int IntKind.i64 0] 3)) 4 (.bool false)
    rw [World.size_alloc, World.size_alloc] at h
    rw [hw2]
    exact h
  have hit := places1_it l A c bw w2 hl ((hB2.cell (p := ⟨bw, 0, none⟩) hbwl).trans hcw) (hsrc.below hB2) (ht.below hB2)
  have hpv : ∀ k, (k = bw ∨ A = some ⟨k, 0, none⟩ ∨ k = 0) → k < w.heap.size ∧ k ≠ bk := by
    rintro k (rfl | h | h)
    · exact ⟨hbwl, fun h => hn1 h.symm⟩
    · exact ⟨hsrc.lt h, fun e => hn2 (e ▸ h)⟩
    · exact ⟨by rw [h]; exact ht.lt, fun e => hn3 (e ▸ h)⟩
  have hbk2 : Boxed w2 bk 3 (.int .i64 (st [])) := (hB2.block _ hbkl).trans hbk
  rw [← hw2]
  clear hw2
  refine wpIn_wide.1 (wpIn_range_it (gf := 48) (lb := #[.pointer (some ⟨bw, 0, none⟩)]) rfl (enters_of Tryd.func48 (by kernel_rfl) rfl) hit (fun k hk => by have := (hpv k hk).1; omega) (fun _ => rfl) (fun _ _ _ _ _ h => h)
    (fI cf bk st ok w) (fX bk ok w) (fI.abid (by omega) hbkl) (fX.abid (by omega)) ⟨past_nil ok, hX1, hX2, hX3, hbk2, Keep.of_below hB2⟩
    (fun x => { tmps := #[.func (.func 48) #[] #[.pointer (some ⟨bw, 0, none⟩)], .func (.func cf) #[] #[.pointer (some ⟨bk, 0, none⟩)], undef, .pointer (some ⟨w.heap.size, 0, none⟩), .pointer (some ⟨w.heap.size + 1, 0, none⟩), .pointer (some ⟨w.heap.size + 1 + 1, 0, none⟩), .int .i64 (x : Int), undef, .func (.func 48) #[] #[.pointer (some ⟨bw, 0, none⟩)], .int .i64 (x : Int), undef, undef, undef, undef, undef], defers := [] }) ?assign ?body ?done ?stop)
  case assign =>
    intro l' x W' K hK
    simp only [encAt]
    gi_wp2
    exact hK
  case body =>
    rintro l' pre x O V hVs hO ⟨hp, hx1, hx2, hx3, hx4, hkl⟩ hpp _
    have hg := Lib.hid (hcl pre x V hpp hx4)
    have e1 := hx1.cell
    have Hp := Lib.hid hp
    obtain ⟨cc, hcc⟩ : ∃ cc, cc = ok pre x := ⟨_, rfl⟩
    rw [← hcc] at hg
    have HC := Lib.hid hcc
    clear hp hX1 hX2 hX3 hit hcc
    have hfr : ∀ W' : World, Keep (· = bk) V W' → ∀ k, k < V.heap.size → k ≠ bk → W'.heap[k]? = V.heap[k]? := fun W' h k h1 h2 => h.block k h1 h2
    cases cc
    · gi_wp2_with fail
      refine ⟨trivial, rfl, CallsIn.inRound l' ((callsIn_wide.2 hg.out).mono ?_)⟩
      rintro e w1 ⟨rfl, hb2, hk2⟩
      have hfin : Hid (Keeps (fun k => k = bw ∨ A = some ⟨k, 0, none⟩ ∨ k = 0) w2.heap.size O (fun _ => False) V w1 ∧ fI cf bk st ok w (pre ++ [x]) (nextO O (fun _ => False) V w1) w1) := Lib.hid (by
        refine ⟨⟨hk2.size, fun k hk hp => hfr _ hk2 k hk ?_⟩, Hp.out.next HC.out.symm, (hfr _ hk2 _ (by omega) (by omega)).trans hx1, (hfr _ hk2 _ (by omega) (by omega)).trans hx2, (hfr _ hk2 _ (by omega) (by omega)).trans hx3, hb2, hkl.trans hk2 (fun _ _ h => h)⟩
        rcases hp with h | ⟨h, _⟩
        · exact (hpv k h).2
        · omega)
      clear hfr hk2 hb2
      gi_wp2
      exact hfin.out
    · gi_wp2_with fail
      refine ⟨trivial, rfl, CallsIn.inRound l' ((callsIn_wide.2 hg.out).mono ?_)⟩
      rintro e w1 ⟨rfl, hb2, hk2⟩
      have hz2 : Boxed w1 (w.heap.size + 1) 3 (.int .i64 0) := (hfr _ hk2 _ (by omega) (by omega)).trans hx2
      have hz3 : Boxed w1 (w.heap.size + 1 + 1) 4 (.bool false) := (hfr _ hk2 _ (by omega) (by omega)).trans hx3
      have i0 := hz2.cell
      have i1 := hz2.frozen
      have k0 := hz3.cell
      have k1 := hz3.frozen
      obtain ⟨W', hW'⟩ : ∃ W', W' = (w1.setCell ⟨w.heap.size + 1, 0, none⟩ (.int .i64 (x : Int))).setCell ⟨w.heap.size + 1 + 1, 0, none⟩ (.bool true) := ⟨_, rfl⟩
      have hoth : ∀ k, k ≠ w.heap.size + 1 → k ≠ w.heap.size + 1 + 1 → W'.heap[k]? = w1.heap[k]? := fun k h1 h2 => by
        rw [hW', heap_set h2, heap_set h1]
      have hfin : Hid (Keeps (fun k => k = bw ∨ A = some ⟨k, 0, none⟩ ∨ k = 0) w2.heap.size O (fun _ => False) V W' ∧ fX bk ok w .ret (pre ++ [x]) (nextO O (fun _ => False) V W') W') := Lib.hid (by
        have hws : W'.heap.size = w1.heap.size := by rw [hW']; simp [World.setCell]
        have hks := hk2.size
        refine ⟨⟨by omega, fun k hk hp => ?_⟩, rfl, pre, x, rfl, Hp.out, HC.out.symm, ?_, ?_, ?_⟩
        · have h12 : k ≠ w.heap.size + 1 ∧ k ≠ w.heap.size + 1 + 1 ∧ k ≠ bk := by
            rcases hp with h | ⟨h, _⟩
            · have := hpv k h; exact ⟨by omega, by omega, this.2⟩
            · omega
          exact (hoth k h12.1 h12.2.1).trans (hfr _ hk2 k hk h12.2.2)
        · rw [hW']
          exact (heap_set (by omega)).trans (hz2.set _)
        · rw [hW']
          refine Boxed.set _ (t := 4) (v := .bool false) ?_
          exact (heap_set (by omega)).trans hz3
        · rw [hW']
          exact ((hkl.trans hk2 (fun _ _ h => h)).set _ (.inr (by omega))).set _ (.inr (by omega)))
      rw [hW'] at hfin
      clear hW' hoth hfr hk2 hb2
      gi_wp2
      exact hfin.out
  case done =>
    rintro xs O V hall ⟨hp, hx1, hx2, hx3, hx4, hkl⟩ hD
    have hcl' : findP ok [] (idxs 0 l) = none := by
      have h := hp []
      rw [List.append_nil, findP] at h
      rw [← show xs = idxs 0 l from hall]
      exact h
    have HCL := Lib.hid hcl'
    have j0 := hx2.cell
    have j2 := hx2.frozen
    have k0 := hx3.cell
    have k1 := hx3.frozen
    have l1 := hx2.lt
    have l2 := hx3.lt
    clear hit hX1 hX2 hX3 hp hcl'
    obtain ⟨V', hV'⟩ : ∃ V', V' = (V.setCell ⟨w.heap.size + 1, 0, none⟩ (.int .i64 0)).setCell ⟨w.heap.size + 1 + 1, 0, none⟩ (.bool false) := ⟨_, rfl⟩
    have hsv : V'.heap.size = V.heap.size := by rw [hV']; simp [World.setCell]
    have hoth : ∀ k, k ≠ w.heap.size + 1 → k ≠ w.heap.size + 1 + 1 → V'.heap[k]? = V.heap[k]? := fun k h1 h2 => by
      rw [hV', heap_set h2, heap_set h1]
    have hv2 : Boxed V' (w.heap.size + 1) 3 (.int .i64 (numO none)) := by
      rw [hV']
      exact (heap_set (by omega)).trans (hx2.set _)
    have hv3 : Boxed V' (w.heap.size + 1 + 1) 4 (.bool (none : Option Nat).isSome) := by
      rw [hV']
      refine Boxed.set _ (t := 4) (v := .bool false) ?_
      exact (heap_set (by omega)).trans hx3
    have hbv : Keep (· = bk) w V' := by
      rw [hV']
      exact (hkl.set _ (.inr (by omega))).set _ (.inr (by omega))
    have hD' : V'.heap[w2.heap.size]? = some (.deferred (some [])) := (hoth _ (by omega) (by omega)).trans hD
    have hres := Lib.hid (first_close (r := none) hs2 hv2 hv3 hbv)
    rw [hV'] at hres hD'
    clear hV' hsv hoth hv2 hv3 hbv
    go_wp2
    refine ⟨by simp, .inl ⟨_, _, rfl, run_takeDeferred hD', ?_⟩⟩
    rw [HCL.out]
    exact hres.out _ rfl rfl
  case stop =>
    rintro c' pre' O V hall ⟨rfl, pre, k, rfl, hp, hk, hx2, hx3, hkl⟩ hD
    have hcl' : findP ok [] (idxs 0 l) = some k := by
      obtain ⟨post, h⟩ := hall
      rw [h, List.append_assoc, hp, List.singleton_append, findP, hk]
      rfl
    have HCL := Lib.hid hcl'
    have j0 := hx2.cell
    have k0 := hx3.cell
    clear hit hX1 hX2 hX3 hp hk hcl'
    refine wpIn_wide.2 ?_
    have hres := Lib.hid (first_close (r := some k) hs2 hx2 hx3 hkl)
    go_wp2
    refine ⟨by simp, .inl ⟨_, _, rfl, run_takeDeferred hD, ?_⟩⟩
    rw [HCL.out]
    exact hres.out _ rfl rfl
end Go.Proofs.YtbiopegophdgiaaDoor
