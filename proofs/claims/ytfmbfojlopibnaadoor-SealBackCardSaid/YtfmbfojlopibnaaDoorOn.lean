import Derived.Test.YtfmbfojlopibnaaDoorRnd
import Derived.Test.YtfmbfojlopibnaaDoorBaseIn
import Derived.Test.YtfmbfojlopibnaaDoorRangeN
namespace Go.Proofs.YtfmbfojlopibnaaDoor
open Go.RowKit Go.Shelf
attribute [local go_sem] Oper.semAt_some

/- A KEY'S ROUNDS, ONE BY ONE, WITHOUT END. -/

/-- the rounds from start on, n of them -/
def seqR (start by_ : Int) (n : Nat) : List Int := (List.range n).map fun i : Nat => start + (i : Int) * by_
theorem seqR_len (start by_ : Int) (n : Nat) : (seqR start by_ n).length = n := by simp [seqR]
theorem seqR_succ (start by_ : Int) (n : Nat) : seqR start by_ (n + 1) = seqR start by_ n ++ [start + (n : Int) * by_] := by simp [seqR, List.range_succ]
def encR (k : Nat) (x : Int) : Array Value := #[.agg #[.int .u64 (k : Int), .int .i64 x]]
def someR (start by_ : Int) (pre : List Int) : Prop := pre = seqR start by_ pre.length
def preR (start by_ : Int) (pre : List Int) (x : Int) (_ : World) : Prop := someR start by_ pre ∧ x = start + (pre.length : Int) * by_
theorem preR.some {start by_ : Int} {pre : List Int} {x : Int} {w : World} (h : preR start by_ pre x w) : someR start by_ (pre ++ [x]) := by
  obtain ⟨h1, h2⟩ := h
  unfold someR at h1 ⊢
  rw [List.length_append, List.length_singleton, seqR_succ, ← h1, h2]
/-- where the loop is -/
def nowAt (t : Value) (w : World) : Int := match t with
  | .pointer (some a) => match w.cell? (a.add 1) with | some v => intOf v | none => 0
  | _ => 0

theorem nowAt_of {w : World} {b : Nat} {x : Int} (h : w.cell? ⟨b, 1, none⟩ = some (.int .i64 x)) : nowAt (.pointer (some ⟨b, 0, none⟩)) w = x := by
  simp only [nowAt, add_plain, Nat.zero_add, h, intOf]

theorem on_any (k : Nat) (n by_ : Int) (w : World) : Calls Tryd.prog 75 #[.agg #[.int .u64 (k : Int), .int .i64 n], .int .i64 by_] w fun e w' =>
    e = .returned (.func (.func 83) #[] #[.pointer (some ⟨w.heap.size, 0, none⟩), .pointer (some ⟨w.heap.size + 1, 0, none⟩)]) ∧ (w.alloc (.cells #[.int .u64 (k : Int), .int .i64 n] 101)).alloc (.cells #[.int .i64 by_] 3) = w' := by
  go_enter Tryd.func75, Tryd.ntmps75
  go_wp2
  go_ret
  exact ⟨rfl, rfl⟩

set_option maxHeartbeats 2000000 in
theorem on1_it (k : Nat) (start by_ : Int) (N bk bb : Nat) (w0 : World) (hby : by_ = 1 ∨ by_ = -1) (hst : 0 ≤ start ∧ start ≤ 7) (hN : N ≤ 8)
    (hk : Row w0 bk 101 [.int .u64 (k : Int), .int .i64 start]) (hb : Row w0 bb 3 [.int .i64 by_]) :
    ItN N Tryd.prog 83 #[.pointer (some ⟨bk, 0, none⟩), .pointer (some ⟨bb, 0, none⟩)] (encR k) (fun _ _ => False) (preR start by_) (fun b => b = bk ∨ b = bb) (fun _ => False) (someR start by_) w0 := by
  intro l J Jx W hpW hsW hJ hJx hJN hY h0
  have hkW := hk.same (hpW bk (.inl rfl))
  have hbW := hb.same (hpW bb (.inr rfl))
  have x0 : W.cell? ⟨bk, 0, none⟩ = some (.int .u64 (k : Int)) := hkW.cell 0
  have x1 : W.cell? ⟨bk, 1, none⟩ = some (.int .i64 start) := hkW.cell 1
  have hkl := hkW.lt
  have hbl := hbW.lt
  refine (callsIn_wide (n := 1)).1 ?_
  refine callsIn_of_wp Tryd.func83 rfl trivial ?_ rfl
  simp only [Tryd.ntmps83, List.size_toArray, List.length_cons, List.length_nil, Nat.reduceAdd, Nat.reduceSub, Array.replicate_succ, Array.replicate_zero, List.push_toArray, List.append_toArray, List.nil_append, List.cons_append]
  gi_wp2_with fail
  gi_loopw [4] (fun t wr => ∃ (pre : List Int) (O : Nat → Prop) (b : Nat), t = .pointer (some ⟨b, 0, none⟩) ∧ Hid (someR start by_ pre) ∧ J pre O wr ∧ W.heap.size ≤ b ∧ ¬ O b ∧ (∀ b, O b → W.heap.size ≤ b ∧ b < wr.heap.size) ∧
    Row wr b 101 [.int .u64 (k : Int), .int .i64 (start + (pre.length : Int) * by_)] ∧ wr.heap[bb]? = W.heap[bb]?) (fun t wr => N - ((nowAt t wr - start) * by_).toNat)
  case atStart =>
    refine ⟨[], fun _ => False, W.heap.size, rfl, rfl, hJ.below h0 (below1 _ _), Nat.le_refl _, fun h => h, fun b (h : False) => h.elim, ?_, Below.heap_alloc _ _ _ hbl⟩
    have h := Row.new W 101 [.int .u64 (k : Int), .int .i64 start]
    simpa using h
  case round =>
    obtain ⟨pre, O, b, rfl, Hpre, hj, hwb, hOb, hO, hrow, hbb⟩ := hrel
    have hlen : pre.length ≤ N := hJN _ _ _ hj
    obtain ⟨x, hx⟩ : ∃ x, x = start + (pre.length : Int) * by_ := ⟨_, rfl⟩
    rw [← hx] at hrow
    have y0 : wr.cell? ⟨b, 0, none⟩ = some (.int .u64 (k : Int)) := hrow.cell 0
    have y1 : wr.cell? ⟨b, 1, none⟩ = some (.int .i64 x) := hrow.cell 1
    have hbr := hrow.lt
    have hwr : W.heap.size ≤ wr.heap.size := by omega
    obtain ⟨fn, tmps, assign, body, hy, hR⟩ := hY pre x O wr hwr hO hj ⟨Hpre.out, hx⟩ (fun b (h : False) => h.elim)
    simp only [encR] at hy
    have HP := Lib.hid (show preR start by_ pre x wr from ⟨Hpre.out, hx⟩)
    have HX := Lib.hid hx
    have hxb : -20 ≤ x ∧ x ≤ 20 := by rcases hby with rfl | rfl <;> omega
    clear hx hj
    gi_wp2_with fail
    refine hR.mono ?_
    rintro e W' ⟨hk', (⟨rfl, hj'⟩ | ⟨rfl, hjx⟩)⟩
    · have hlen' : (pre ++ [x]).length ≤ N := hJN _ _ _ hj'
      have hro : Row W' b 101 [.int .u64 (k : Int), .int .i64 x] := hrow.same (hk'.same b hbr (.inr ⟨hwb, hOb, fun h => h⟩))
      have hbo : Row W' bb 3 [.int .i64 by_] := hbW.same ((hk'.same bb (by omega) (.inl (.inr rfl))).trans hbb)
      have z0 : W'.cell? ⟨b, 0, none⟩ = some (.int .u64 (k : Int)) := hro.cell 0
      have z1 : W'.cell? ⟨b, 1, none⟩ = some (.int .i64 x) := hro.cell 1
      have z2 : (W'.alloc (.cells #[.int .u64 (k : Int), .int .i64 x] 101)).cell? ⟨bb, 0, none⟩ = some (.int .i64 by_) := (World.cell?_alloc_lt _ _ _ hbo.lt).trans (hbo.cell 0)
      have hnr : Row (W'.alloc (.cells #[.int .u64 (k : Int), .int .i64 x] 101)) W'.heap.size 101 [.int .u64 (k : Int), .int .i64 x] := Row.new _ _ _
      have z3 := hnr.frozen 1
      have hws' := Nat.le_trans hwr hk'.size
      have e1 : IntKind.i64.wrap (x + by_) = x + by_ := wrapI _ (by rcases hby with rfl | rfl <;> omega) (by rcases hby with rfl | rfl <;> omega)
      have hO' := nextO_bound (M := fun _ => False) hO hwr hk'.size
      have hnew : ¬ nextO O (fun _ => False) wr W' W'.heap.size := fun h => by have := hO' _ h; omega
      have hnr2 : Row (W'.alloc (.cells #[.int .u64 (k : Int), .int .i64 (x + by_)] 101)) W'.heap.size 101 [.int .u64 (k : Int), .int .i64 (x + by_)] := Row.new _ _ _
      have hfin := Lib.hid (show (∃ (pre : List Int) (O : Nat → Prop) (b : Nat), Value.pointer (some ⟨W'.heap.size, 0, none⟩) = .pointer (some ⟨b, 0, none⟩) ∧ Hid (someR start by_ pre) ∧ J pre O (W'.alloc (.cells #[.int .u64 (k : Int), .int .i64 (x + by_)] 101)) ∧ W.heap.size ≤ b ∧ ¬ O b ∧ (∀ b, O b → W.heap.size ≤ b ∧ b < (W'.alloc (.cells #[.int .u64 (k : Int), .int .i64 (x + by_)] 101)).heap.size) ∧
          Row (W'.alloc (.cells #[.int .u64 (k : Int), .int .i64 (x + by_)] 101)) b 101 [.int .u64 (k : Int), .int .i64 (start + (pre.length : Int) * by_)] ∧ (W'.alloc (.cells #[.int .u64 (k : Int), .int .i64 (x + by_)] 101)).heap[bb]? = W.heap[bb]?) ∧
          N - ((nowAt (.pointer (some ⟨W'.heap.size, 0, none⟩)) (W'.alloc (.cells #[.int .u64 (k : Int), .int .i64 (x + by_)] 101)) - start) * by_).toNat < N - ((nowAt (.pointer (some ⟨b, 0, none⟩)) wr - start) * by_).toNat from by
        refine ⟨⟨pre ++ [x], _, W'.heap.size, rfl, HP.out.some, hJ.below hj' (below1 _ _), hws', hnew, fun b h => ?_, ?_, ?_⟩, ?_⟩
        · have := hO' b h
          rw [World.size_alloc]
          omega
        · have e : start + ((pre ++ [x]).length : Int) * by_ = x + by_ := by
            rw [HX.out, List.length_append, List.length_singleton]
            rcases hby with rfl | rfl <;> omega
          rw [e]
          exact hnr2
        · rw [Below.heap_alloc _ _ _ hbo.lt]
          exact (hk'.same bb (by omega) (.inl (.inr rfl))).trans hbb
        · rw [nowAt_of (hnr2.cell 1), nowAt_of y1]
          have hx := HX.out
          rw [List.length_append, List.length_singleton] at hlen'
          rcases hby with rfl | rfl <;> omega)
      clear hro hbo hnr hnr2 hj' hk' hO' hnew hrow hO hJ hJx hJN hY h0
      gi_wp2_with fail
      exact hfin.out
    · gi_wp2
      go_end0
      exact itEnd.part HP.out.some hjx
end Go.Proofs.YtfmbfojlopibnaaDoor
