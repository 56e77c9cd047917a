import Derived.Test.YtpnlddjobphjnaaDoorIter
import Derived.Test.YtpnlddjobphjnaaDoorRangeBox
namespace Go.Proofs.YtpnlddjobphjnaaDoor
open Go.RowKit Go.Shelf
attribute [local go_sem] Oper.semAt_some

/-- a block of two cells -/
def Blk (V : World) (b : Nat) (t : TypeId) (x y : Value) : Prop := V.heap[b]? = some (.cells #[x, y] t (0, 0))
theorem Blk.lt {V : World} {b : Nat} {t : TypeId} {x y : Value} (h : Blk V b t x y) : b < V.heap.size := (Array.getElem?_eq_some_iff.1 h).1
theorem Blk.cell0 {V : World} {b : Nat} {t : TypeId} {x y : Value} (h : Blk V b t x y) : V.cell? ⟨b, 0, none⟩ = some x := by simp [World.cell?, show V.heap[b]? = _ from h]
theorem Blk.cell1 {V : World} {b : Nat} {t : TypeId} {x y : Value} (h : Blk V b t x y) : V.cell? ⟨b, 1, none⟩ = some y := by simp [World.cell?, show V.heap[b]? = _ from h]
theorem Blk.frozen0 {V : World} {b : Nat} {t : TypeId} {x y : Value} (h : Blk V b t x y) : V.frozen? ⟨b, 0, none⟩ = false := by simp [World.frozen?, show V.heap[b]? = _ from h]
theorem Blk.frozen1 {V : World} {b : Nat} {t : TypeId} {x y : Value} (h : Blk V b t x y) : V.frozen? ⟨b, 1, none⟩ = false := by simp [World.frozen?, show V.heap[b]? = _ from h]
theorem Blk.same {V V' : World} {b : Nat} {t : TypeId} {x y : Value} (h : Blk V b t x y) (hb : V'.heap[b]? = V.heap[b]?) : Blk V' b t x y := hb.trans h
theorem Blk.new (V : World) (t : TypeId) (x y : Value) : Blk (V.alloc (.cells #[x, y] t)) V.heap.size t x y := World.alloc_heap_new V _
theorem heap_set {V : World} {b o k : Nat} {v : Value} (h : k ≠ b) : (V.setCell ⟨b, o, none⟩ v).heap[k]? = V.heap[k]? := Below.heap_setCell _ _ _ _ h
theorem set_cells {V : World} {b o : Nat} {cs : Array Value} {t : TypeId} {fr : Nat × Nat} (v : Value) (h : V.heap[b]? = some (.cells cs t fr)) : (V.setCell ⟨b, o, none⟩ v).heap[b]? = some (.cells (cs.setIfInBounds o v) t fr) := by
  obtain ⟨hlt, hk⟩ := Array.getElem?_eq_some_iff.1 h
  show (V.heap.modify b _)[b]? = _
  rw [Array.getElem?_eq_getElem (by rw [Array.size_modify]; exact hlt), Array.getElem_modify_self, hk]
  rfl
theorem Blk.set {V : World} {b : Nat} {t : TypeId} {x y : Value} (x' y' : Value) (h : Blk V b t x y) : Blk ((V.setCell ⟨b, 0, none⟩ x').setCell ⟨b, 1, none⟩ y') b t x' y' := by
  have h1 := set_cells (o := 0) x' h
  exact set_cells (o := 1) y' h1

/-- does it hold a size? -/
def hold (n : Int) (k : Nat) : Bool := decide (0 ≤ n) && decide (n ≤ (pay k : Int))
/-- the least class that holds a size, if there is one -/
def cls (n : Int) : Option Nat := (List.range 8).find? (hold n)
def clsN (n : Int) : Int := match cls n with | some k => (k : Int) | none => 0
def payN (n : Int) : Int := match cls n with | some k => (pay k : Int) | none => 0
def clsB (n : Int) : Bool := (cls n).isSome

theorem cls_some {n : Int} {pre : List Nat} {k : Nat} (hk : pre ++ [k] = List.range (pre.length + 1)) (h8 : pre.length < 8) (hp : ∀ y ∈ pre, hold n y = false) (h : hold n k = true) : cls n = some k := by
  have hr : List.range 8 = (pre ++ [k]) ++ (List.range 8).drop (pre.length + 1) := by
    rw [hk]
    have h2 : (List.range 8).take (pre.length + 1) = List.range (pre.length + 1) := by rw [List.take_range]; congr 1; omega
    rw [← h2, List.take_append_drop]
  unfold cls
  rw [hr, List.append_assoc, List.find?_append, List.find?_eq_none.2 (fun x hx => by rw [hp x hx]; decide)]
  simp [h]
theorem cls_none {n : Int} {xs : List Nat} (hx : xs = List.range 8) (hp : ∀ y ∈ xs, hold n y = false) : cls n = none := by
  unfold cls
  rw [← hx, List.find?_eq_none]
  intro x hx
  rw [hp x hx]
  decide

theorem least1_any (n k p : Int) (b : Nat) (w : World) (hc : w.cell? ⟨b, 0, none⟩ = some (.int .i64 n)) : Calls Tryd.prog 41 #[kv k p, .pointer (some ⟨b, 0, none⟩)] w fun e w' => e = .returned (.bool (decide (0 ≤ n) && decide (n ≤ p))) ∧ Below w.heap.size w w' := by
  have hb := lt_of_cell hc
  simp only at hb
  have hc2 : ∀ o, (w.alloc o).cell? ⟨b, 0, none⟩ = some (.int .i64 n) := fun o => (World.cell?_alloc_lt _ _ _ hb).trans hc
  by_cases h0 : 0 ≤ n
  · have e0 : decide (0 ≤ n) = true := decide_eq_true h0
    obtain ⟨c, hd⟩ : ∃ c, c = decide (n ≤ p) := ⟨_, rfl⟩
    have e1 : decide (n ≤ p) = c := hd.symm
    rw [e0, e1]
    clear hd
    go_enter Tryd.func41, Tryd.ntmps41
    go_wp2
    go_ret
    exact ⟨rfl, below1 _ _⟩
  · have e0 : decide (0 ≤ n) = false := decide_eq_false h0
    rw [e0]
    go_enter Tryd.func41, Tryd.ntmps41
    go_wp2
    go_ret
    exact ⟨rfl, below1 _ _⟩

section
variable (n : Int) (b : Nat) (w : World)
/-- what holds between two classes -/
def fI (pre : List Nat) (_ : Nat → Prop) (V : World) : Prop :=
  (∀ y ∈ pre, hold n y = false) ∧ Boxed V w.heap.size 69 (.func (.func 41) #[] #[.pointer (some ⟨b, 0, none⟩)]) ∧
    Blk V (w.heap.size + 1) 50 (.int .i64 0) (.int .i64 0) ∧ Boxed V (w.heap.size + 1 + 1) 4 (.bool false) ∧ Below w.heap.size w V
/-- what holds where one has been found -/
def fX (c : Code) (pre' : List Nat) (_ : Nat → Prop) (V : World) : Prop :=
  c = .ret ∧ ∃ pre k, pre' = pre ++ [k] ∧ (∀ y ∈ pre, hold n y = false) ∧ hold n k = true ∧
    Blk V (w.heap.size + 1) 50 (.int .i64 k) (.int .i64 (pay k)) ∧ Boxed V (w.heap.size + 1 + 1) 4 (.bool true) ∧ Below w.heap.size w V
end
theorem fI.abid {n : Int} {b B : Nat} {w : World} (hB : w.heap.size + 3 ≤ B) : Abid B (fI n b w) := by
  rintro s O V V' row ⟨h1, h2, h3, h4, h5⟩ hg hr
  have hne : ∀ k, k < B → some k ≠ row := fun k hk e => by have := (hr k e.symm).1; omega
  exact ⟨h1, h2.kept hg (hne _ (by omega)), h3.same (hg.block _ h3.lt (hne _ (by omega))), h4.kept hg (hne _ (by omega)), h5.grown hg h5.size (fun r e => by have := (hr r e).1; omega)⟩
theorem fX.abid {n : Int} {B : Nat} {w : World} (hB : w.heap.size + 3 ≤ B) (c : Code) : Abid B (fX n w c) := by
  rintro s O V V' row ⟨h1, pre, k, e1, h2, h2', h3, h4, h5⟩ hg hr
  have hne : ∀ k, k < B → some k ≠ row := fun k hk e => by have := (hr k e.symm).1; omega
  exact ⟨h1, pre, k, e1, h2, h2', h3.same (hg.block _ h3.lt (hne _ (by omega))), h4.kept hg (hne _ (by omega)), h5.grown hg h5.size (fun r e => by have := (hr r e).1; omega)⟩

/-- how the call ends, once the deferred list has been taken -/
theorem first_close {n : Int} {x y : Int} {c : Bool} {w w2 V : World} (hs2 : w2.heap.size = w.heap.size + 3) (h2 : Blk V (w.heap.size + 1) 50 (.int .i64 x) (.int .i64 y)) (h3 : Boxed V (w.heap.size + 1 + 1) 4 (.bool c)) (hb : Below w.heap.size w V)
    (hc : clsN n = x) (hp : payN n = y) (hd : clsB n = c) (tmps : Array Value) (t4 : tmps[4]?.getD undef = .pointer (some ⟨w.heap.size + 1, 0, none⟩)) (t5 : tmps[5]?.getD undef = .pointer (some ⟨w.heap.size + 1 + 1, 0, none⟩)) :
    ∃ v, (results Tryd.f39 tmps).run Tryd.prog (V.putObj w2.heap.size (.deferred none)) = .ok v (V.putObj w2.heap.size (.deferred none)) ∧
      (Ending.returned v = .returned (.tuple #[kv (clsN n) (payN n), .bool (clsB n)]) ∧ Below w.heap.size w (V.putObj w2.heap.size (.deferred none))) := by
  have e1 : Blk (V.putObj w2.heap.size (.deferred none)) (w.heap.size + 1) 50 (.int .i64 x) (.int .i64 y) := h2.same (World.putObj_heap_other (by omega))
  have e2 : Boxed (V.putObj w2.heap.size (.deferred none)) (w.heap.size + 1 + 1) 4 (.bool c) := (World.putObj_heap_other (by omega)).trans h3
  have e3 : Below w.heap.size w (V.putObj w2.heap.size (.deferred none)) := hb.grown (putObj_grown V _ _) hb.size (fun r e => by cases e; omega)
  obtain ⟨V', hV'⟩ : ∃ V', V' = V.putObj w2.heap.size (.deferred none) := ⟨_, rfl⟩
  rw [← hV'] at e1 e2 e3 ⊢
  have c0 := e1.cell0
  have c1 := e1.cell1
  have c2 := e2.cell
  refine ⟨.tuple #[kv x y, .bool c], ?_, by rw [hc, hp, hd], e3⟩
  simp [results, Tryd.results39, go_sem, c0, c1, c2, t4, t5]
theorem first_end {n : Int} {w w2 V : World} (hn : cls n = none) (hs2 : w2.heap.size = w.heap.size + 3) (h2 : Blk V (w.heap.size + 1) 50 (.int .i64 0) (.int .i64 0)) (h3 : Boxed V (w.heap.size + 1 + 1) 4 (.bool false)) (hb : Below w.heap.size w V) (tmps : Array Value) (t4 : tmps[4]?.getD undef = .pointer (some ⟨w.heap.size + 1, 0, none⟩)) (t5 : tmps[5]?.getD undef = .pointer (some ⟨w.heap.size + 1 + 1, 0, none⟩)) :
    ∃ v, (results Tryd.f39 tmps).run Tryd.prog (V.putObj w2.heap.size (.deferred none)) = .ok v (V.putObj w2.heap.size (.deferred none)) ∧
      (Ending.returned v = .returned (.tuple #[kv (clsN n) (payN n), .bool (clsB n)]) ∧ Below w.heap.size w (V.putObj w2.heap.size (.deferred none))) :=
  first_close hs2 h2 h3 hb (by simp [clsN, hn]) (by simp [payN, hn]) (by simp [clsB, hn]) tmps t4 t5
theorem first_end2 {n : Int} {k : Nat} {w w2 V : World} (hn : cls n = some k) (hs2 : w2.heap.size = w.heap.size + 3) (h2 : Blk V (w.heap.size + 1) 50 (.int .i64 k) (.int .i64 (pay k))) (h3 : Boxed V (w.heap.size + 1 + 1) 4 (.bool true)) (hb : Below w.heap.size w V) (tmps : Array Value) (t4 : tmps[4]?.getD undef = .pointer (some ⟨w.heap.size + 1, 0, none⟩)) (t5 : tmps[5]?.getD undef = .pointer (some ⟨w.heap.size + 1 + 1, 0, none⟩)) :
    ∃ v, (results Tryd.f39 tmps).run Tryd.prog (V.putObj w2.heap.size (.deferred none)) = .ok v (V.putObj w2.heap.size (.deferred none)) ∧
      (Ending.returned v = .returned (.tuple #[kv (clsN n) (payN n), .bool (clsB n)]) ∧ Below w.heap.size w (V.putObj w2.heap.size (.deferred none))) :=
  first_close hs2 h2 h3 hb (by simp [clsN, hn]) (by simp [payN, hn]) (by simp [clsB, hn]) tmps t4 t5

set_option maxHeartbeats 2000000 in
theorem first_any (n : Int) (b : Nat) (w : World) (ht : Tab w) (hc : w.cell? ⟨b, 0, none⟩ = some (.int .i64 n)) :
    Calls Tryd.prog 39 #[.func (.func 47) #[] #[], .func (.func 41) #[] #[.pointer (some ⟨b, 0, none⟩)]] w fun e w' =>
      e = .returned (.tuple #[kv (clsN n) (payN n), .bool (clsB n)]) ∧ Below w.heap.size w w' := by
  have hb := lt_of_cell hc
  simp only at hb
  refine calls_marks Tryd.func39 rfl ?_
  simp only [Tryd.ntmps39, List.size_toArray, List.length_cons, List.length_nil, Nat.reduceAdd, Nat.reduceSub, Array.replicate_succ, Array.replicate_zero, List.push_toArray, List.append_toArray, List.nil_append, List.cons_append]
  go_wp2_with fail
  obtain ⟨w2, hw2⟩ : ∃ w2, w2 = ((w.alloc (Obj.cells #[Value.func (Fn.func 41) #[] #[Value.pointer (some ⟨b, 0, none⟩)]] 69)).alloc (Obj.cells #[Value.int IntKind.i64 0, Value.int IntKind.i64 0] 50)).alloc (Obj.cells #[Value.bool false] 4) := ⟨_, rfl⟩
  have hs2 : w2.heap.size = w.heap.size + 3 := by rw [hw2]; simp
  have hB2 : Below w.heap.size w w2 := by rw [hw2]; exact (below2 _ _ _).alloc (by simp; omega) _
  have ht2 : Tab w2 := by rw [hw2]; exact ((ht.alloc _).alloc _).alloc _
  have hX1 : Boxed w2 w.heap.size 69 (.func (.func 41) #[] #[.pointer (some ⟨b, 0, none⟩)]) := by rw [hw2]; exact ((Boxed.new w _ _).alloc _).alloc _
  have hX2 : Blk w2 (w.heap.size + 1) 50 (.int .i64 0) (.int .i64 0) := by
    have h := Blk.new (w.alloc (Obj.cells #[Value.func (Fn.func 41) #[] #[Value.pointer (some ⟨b, 0, none⟩)]] 69)) 50 (.int .i64 0) (.int .i64 0)
    rw [World.size_alloc] at h
    rw [hw2]
    exact h.same (Below.heap_alloc _ _ _ (by simp))
  have hX3 : Boxed w2 (w.heap.size + 1 + 1) 4 (.bool false) := by
    have h := Boxed.new ((w.alloc (Obj.cells #[Value.func (Fn.func 41) #[] #[Value.pointer (some ⟨b, 0, none⟩)]] 69)).alloc (Obj.cells #[Value.int IntKind.i64 0, Value.int IntKind.i64 0] 50)) 4 (.bool false)
    rw [World.size_alloc, World.size_alloc] at h
    rw [hw2]
    exact h
  have hit := kinds1_it w2 ht2
  rw [← hw2]
  clear hw2
  refine wpIn_wide.1 (wpIn_range_box (gf := 47) (lb := #[]) rfl (enters_of Tryd.func47 (by kernel_rfl) rfl) hit (by rintro k rfl; exact ht2.lt) (fun _ => rfl) (fun _ _ _ _ _ h => h)
    (fI n b w) (fX n w) (fI.abid (by omega)) (fX.abid (by omega)) ⟨by simp, hX1, hX2, hX3, hB2⟩
    (fun g x => { tmps := #[.func (.func 47) #[] #[], .func (.func 41) #[] #[.pointer (some ⟨b, 0, none⟩)], undef, .pointer (some ⟨w.heap.size, 0, none⟩), .pointer (some ⟨w.heap.size + 1, 0, none⟩), .pointer (some ⟨w.heap.size + 1 + 1, 0, none⟩), .pointer (some ⟨g, 0, none⟩), undef, .func (.func 47) #[] #[], kv (x : Int) (pay x), undef, undef, undef, undef, undef], defers := [] })
    (fun x => .cells #[.int .i64 (x : Int), .int .i64 (pay x)] 50) ?assign ?body ?done ?stop)
  case assign =>
    intro l' x W' K hK
    simp only [encKind]
    gi_wp2
    exact hK
  case body =>
    rintro l' pre x O V hVs hO ⟨hp, hx1, hx2, hx3, hbl⟩ ⟨hxl, hx8, _⟩ _
    have hgV : 0 < w.heap.size := ht.lt
    obtain ⟨V1, hV1⟩ : ∃ V1, V1 = V.alloc (Obj.cells #[Value.int IntKind.i64 (x : Int), Value.int IntKind.i64 (pay x)] 50) := ⟨_, rfl⟩
    have hb1 : Below V.heap.size V V1 := by rw [hV1]; exact below1 _ _
    have hz1 : V1.heap.size = V.heap.size + 1 := by rw [hV1]; simp
    have hy0 : Blk V1 V.heap.size 50 (.int .i64 x) (.int .i64 (pay x)) := by rw [hV1]; exact Blk.new _ _ _ _
    have hy1 : Boxed V1 w.heap.size 69 (.func (.func 41) #[] #[.pointer (some ⟨b, 0, none⟩)]) := (hb1.block _ (by omega)).trans hx1
    have hcV1 : V1.cell? ⟨b, 0, none⟩ = some (.int .i64 n) := (hb1.cell (p := ⟨b, 0, none⟩) (by show b < _; omega)).trans ((hbl.cell (p := ⟨b, 0, none⟩) hb).trans hc)
    have hg := Lib.hid (least1_any n (x : Int) (pay x : Int) b V1 hcV1)
    have e1 := hy1.cell
    have e2 := hy0.cell0
    have e3 := hy0.cell1
    have Hp := Lib.hid hp
    have Hxl := Lib.hid hxl
    rw [← hV1]
    clear hV1 hp hxl hX1 hX2 hX3 hit hy1 hcV1
    by_cases hh : hold n x = true
    · have hh2 := hh
      unfold hold at hh2
      rw [hh2] at hg
      have HH := Lib.hid hh
      clear hh hh2
      gi_wp2_with fail
      refine ⟨trivial, rfl, CallsIn.inRound l' ((callsIn_wide.2 hg.out).mono ?_)⟩
      rintro e w1 ⟨rfl, hb2⟩
      have hB := hb1.trans (hb2.mono hb1.size)
      have hz0 : Blk w1 V.heap.size 50 (.int .i64 x) (.int .i64 (pay x)) := hy0.same (hb2.block _ (by omega))
      have hz2 : Blk w1 (w.heap.size + 1) 50 (.int .i64 0) (.int .i64 0) := hx2.same (hB.block _ (by omega))
      have hz3 : Boxed w1 (w.heap.size + 1 + 1) 4 (.bool false) := (hB.block _ (by omega)).trans hx3
      have i0 := hz0.cell0
      have i1 := hz0.cell1
      have j0 := hz2.cell0
      have j1 := hz2.cell1
      have j2 := hz2.frozen0
      have j3 := hz2.frozen1
      have k0 := hz3.cell
      have k1 := hz3.frozen
      obtain ⟨W', hW'⟩ : ∃ W', W' = ((w1.setCell ⟨w.heap.size + 1, 0, none⟩ (.int .i64 (x : Int))).setCell ⟨w.heap.size + 1, 1, none⟩ (.int .i64 (pay x : Int))).setCell ⟨w.heap.size + 1 + 1, 0, none⟩ (.bool true) := ⟨_, rfl⟩
      have hoth : ∀ k, k ≠ w.heap.size + 1 → k ≠ w.heap.size + 1 + 1 → W'.heap[k]? = w1.heap[k]? := fun k h1 h2 => by
        rw [hW', heap_set h2, heap_set h1, heap_set h1]
      have hfin : Hid (Keeps payG w2.heap.size O (fun _ => False) V W' ∧ fX n w .ret (pre ++ [x]) (nextO O (fun _ => False) V W') W') := Lib.hid (by
        have hws : W'.heap.size = w1.heap.size := by rw [hW']; simp [World.setCell]
        have hbs := hB.size
        have hbz := hbl.size
        refine ⟨⟨by omega, fun k hk hp => ?_⟩, rfl, pre, x, rfl, Hp.out, HH.out, ?_, ?_, ?_⟩
        · have h12 : k ≠ w.heap.size + 1 ∧ k ≠ w.heap.size + 1 + 1 := by
            rcases hp with h | ⟨h, _⟩
            · have : k < w.heap.size := by rw [h]; exact hgV
              omega
            · omega
          exact (hoth k h12.1 h12.2).trans (hB.block k hk)
        · rw [hW']
          exact (hz2.set _ _).same (heap_set (by omega))
        · rw [hW']
          refine Boxed.set _ (t := 4) (v := .bool false) ?_
          exact ((heap_set (by omega)).trans (heap_set (by omega))).trans hz3
        · rw [hW']
          exact (((hbl.trans (hB.mono hbz)).setCell (by simp) _).setCell (by simp) _).setCell (by simp; omega) _)
      rw [hW'] at hfin
      clear hW' hoth
      gi_wp2
      exact hfin.out
    · have hh2 : hold n x = false := by simpa using hh
      have HH := Lib.hid hh2
      unfold hold at hh2
      rw [hh2] at hg
      clear hh hh2
      gi_wp2_with fail
      refine ⟨trivial, rfl, CallsIn.inRound l' ((callsIn_wide.2 hg.out).mono ?_)⟩
      rintro e w1 ⟨rfl, hb2⟩
      have hB := hb1.trans (hb2.mono hb1.size)
      have hfin : Hid (Keeps payG w2.heap.size O (fun _ => False) V w1 ∧ fI n b w (pre ++ [x]) (nextO O (fun _ => False) V w1) w1) := Lib.hid (by
        have hbz := hbl.size
        refine ⟨⟨hB.size, fun k hk _ => hB.block k hk⟩, fun y hy => ?_, (hB.block _ (by omega)).trans hx1, hx2.same (hB.block _ (by omega)), (hB.block _ (by omega)).trans hx3, hbl.trans (hB.mono hbz)⟩
        rcases List.mem_append.1 hy with h | h
        · exact Hp.out y h
        · rw [List.mem_singleton.1 h]; exact HH.out)
      gi_wp2
      exact hfin.out
  case done =>
    rintro xs O V hall ⟨hp, hx1, hx2, hx3, hbl⟩ hD
    have hcl := Lib.hid (cls_none hall hp)
    have j0 := hx2.cell0
    have j1 := hx2.cell1
    have j2 := hx2.frozen0
    have j3 := hx2.frozen1
    have k0 := hx3.cell
    have k1 := hx3.frozen
    have l1 := hx2.lt
    have l2 := hx3.lt
    clear hit hX1 hX2 hX3 hp
    obtain ⟨V', hV'⟩ : ∃ V', V' = (((V.setCell ⟨w.heap.size + 1, 0, none⟩ (.int .i64 0)).setCell ⟨w.heap.size + 1, 1, none⟩ (.int .i64 0)).setCell ⟨w.heap.size + 1 + 1, 0, none⟩ (.bool false)).alloc (Obj.cells #[Value.int IntKind.i64 0, Value.int IntKind.i64 0] 50) := ⟨_, rfl⟩
    have hsv : V'.heap.size = V.heap.size + 1 := by rw [hV']; simp [World.setCell]
    have hoth : ∀ k, k < V.heap.size → k ≠ w.heap.size + 1 → k ≠ w.heap.size + 1 + 1 → V'.heap[k]? = V.heap[k]? := fun k h0 h1 h2 => by
      rw [hV', Below.heap_alloc _ _ _ (by simp [World.setCell]; omega), heap_set h2, heap_set h1, heap_set h1]
    have hv2 : Blk V' (w.heap.size + 1) 50 (.int .i64 0) (.int .i64 0) := by
      rw [hV']
      exact ((hx2.set _ _).same (heap_set (by omega))).same (Below.heap_alloc _ _ _ (by simp [World.setCell]; omega))
    have hv3 : Boxed V' (w.heap.size + 1 + 1) 4 (.bool false) := by
      rw [hV']
      refine (Boxed.set _ (t := 4) (v := .bool false) ?_).alloc _
      exact ((heap_set (by omega)).trans (heap_set (by omega))).trans hx3
    have hbv : Below w.heap.size w V' := by
      have := hbl.size
      rw [hV']
      exact (((hbl.setCell (by simp) _).setCell (by simp) _).setCell (by simp; omega) _).alloc (by simp [World.setCell]; omega) _
    have hDl : w2.heap.size < V.heap.size := (Array.getElem?_eq_some_iff.1 hD).1
    have hD' : V'.heap[w2.heap.size]? = some (.deferred (some [])) := (hoth _ hDl (by omega) (by omega)).trans hD
    have hres := Lib.hid (first_end hcl.out hs2 hv2 hv3 hbv)
    rw [hV'] at hres hD'
    clear hV' hsv hoth hv2 hv3 hbv hDl
    go_wp2
    refine ⟨by simp, .inl ⟨_, _, rfl, run_takeDeferred hD', ?_⟩⟩
    exact hres.out _ rfl rfl
  case stop =>
    rintro c' pre' O V hall ⟨rfl, pre, k, rfl, hp, hk, hx2, hx3, hbl⟩ hD
    have hcl := Lib.hid (show cls n = some k from cls_some (by have := hall.1; simpa using this) (by have := hall.2; simp at this; omega) hp hk)
    have j0 := hx2.cell0
    have j1 := hx2.cell1
    have k0 := hx3.cell
    clear hit hX1 hX2 hX3 hp hk
    refine wpIn_wide.2 ?_
    have hres := Lib.hid (first_end2 hcl.out hs2 hx2 hx3 hbl)
    go_wp2
    refine ⟨by simp, .inl ⟨_, _, rfl, run_takeDeferred hD, ?_⟩⟩
    exact hres.out _ rfl rfl

theorem least_any (n : Int) (w : World) (ht : Tab w) : Calls Tryd.prog 30 #[.int .i64 n] w fun e w' => e = .returned (.tuple #[kv (clsN n) (payN n), .bool (clsB n)]) ∧ Below w.heap.size w w' := by
  have hf := Lib.hid (first_any n w.heap.size ((w.alloc (.cells #[.int .i64 n] 3)).alloc (.cells #[.int .i64 0, .int .i64 0] 50)) ((ht.alloc _).alloc _) ((World.cell?_alloc_lt _ _ _ (by simp)).trans (cell_alloc_new _ _ _ _)))
  obtain ⟨x, hx⟩ : ∃ x, x = clsN n := ⟨_, rfl⟩
  obtain ⟨y, hy⟩ : ∃ y, y = payN n := ⟨_, rfl⟩
  obtain ⟨c, hc⟩ : ∃ c, c = clsB n := ⟨_, rfl⟩
  rw [← hx, ← hy, ← hc] at hf ⊢
  clear hx hy hc ht
  go_enter Tryd.func30, Tryd.ntmps30
  go_wp2_with fail
  refine (kinds_any _).mono ?_
  rintro e w1 ⟨rfl, rfl⟩
  go_wp2_with fail
  refine (hf.out).mono ?_
  rintro e w1 ⟨rfl, hb1⟩
  have hs1 := hb1.size
  simp at hs1
  have hx1 : Blk w1 (w.heap.size + 1) 50 (.int .i64 0) (.int .i64 0) := by
    have h := Blk.new (w.alloc (.cells #[.int .i64 n] 3)) 50 (.int .i64 0) (.int .i64 0)
    rw [World.size_alloc] at h
    exact h.same (hb1.block _ (by simp))
  have c0 := hx1.cell0
  have c1 := hx1.cell1
  have c2 := hx1.frozen0
  have c3 := hx1.frozen1
  go_wp2
  exact bodyPost_ret (v := .tuple #[kv x y, .bool c]) (by simp [results, Tryd.results30, go_sem, c0, c1]) rfl ⟨rfl, (((below2 _ _ _).trans (hb1.mono (by simp; omega))).setCell (by simp) _).setCell (by simp) _⟩

theorem class_any (n : Int) (w : World) (ht : Tab w) : Calls Tryd.prog 17 #[.int .i64 n] w fun e w' => e = .returned (.tuple #[.int .i64 (clsN n), .bool (clsB n)]) ∧ Below w.heap.size w w' := by
  have hf := Lib.hid (least_any n w ht)
  obtain ⟨x, hx⟩ : ∃ x, x = clsN n := ⟨_, rfl⟩
  obtain ⟨y, hy⟩ : ∃ y, y = payN n := ⟨_, rfl⟩
  obtain ⟨c, hc⟩ : ∃ c, c = clsB n := ⟨_, rfl⟩
  rw [← hx, ← hc] at hf ⊢
  rw [← hy] at hf
  clear hx hy hc ht
  go_enter Tryd.func17, Tryd.ntmps17
  go_wp2_with fail
  refine (hf.out).mono ?_
  rintro e w1 ⟨rfl, hb1⟩
  go_wp2
  go_ret2
  exact ⟨rfl, hb1.alloc hb1.size _⟩
end Go.Proofs.YtpnlddjobphjnaaDoor
