import Derived.Test.YtmocdokikcbjeaaProt
namespace Go.Proofs.Ytmocdokikcbjeaa
open Go.RowKit Go.Shelf Go.Maps
attribute [local go_sem] Oper.semAt_some

/- A RUN's PAGES, THE LAST ONE FIRST. -/
def encI (x : Int) : Array Value := #[.int .i64 x]
def fallL (a m : Int) (k : Nat) : List Int := (List.range k).map fun i : Nat => a + m - 1 - (i : Int)
theorem fallL_succ (a m : Int) (k : Nat) : fallL a m (k + 1) = fallL a m k ++ [a + m - 1 - (k : Int)] := by
  unfold fallL
  rw [List.range_succ, List.map_append]
  rfl
def preF (a m : Int) (pre : List Int) (x : Int) (_ : World) : Prop := a ≤ x ∧ x - a < m ∧ ∀ j, x < j → j - a < m → j ∈ pre
def allF (a m : Int) (xs : List Int) : Prop := ∀ j, a ≤ j → j - a < m → j ∈ xs
theorem fallL_mem {a m : Int} {k : Nat} {j : Int} (h1 : a + m - 1 - (k : Int) < j) (h2 : j - a < m) : j ∈ fallL a m k := by
  unfold fallL
  rw [List.mem_map]
  exact ⟨(a + m - 1 - j).toNat, by rw [List.mem_range]; omega, by omega⟩

set_option maxHeartbeats 2000000 in
theorem fall1_it (a m : Int) (ga gm : Nat) (w0 : World) (h0 : 0 ≤ a) (h1 : 1 ≤ m) (h2 : a + m ≤ 65536) (ha : w0.cell? ⟨ga, 0, none⟩ = some (.int .i64 a)) (hm : w0.cell? ⟨gm, 0, none⟩ = some (.int .i64 m)) :
    It Try.prog 73 #[bx ga, bx gm] encI (fun _ _ => False) (preF a m) (fun k => k = ga ∨ k = gm) (allF a m) (fun _ => True) w0 := by
  intro l0 J Jx W hpW hsW hJ hJx hY hj0
  refine (callsIn_wide (n := 1)).1 ?_
  have c1 : W.cell? ⟨ga, 0, none⟩ = some (.int .i64 a) := (World.cell?_of_block (hpW ga (.inl rfl))).trans ha
  have c2 : W.cell? ⟨gm, 0, none⟩ = some (.int .i64 m) := (World.cell?_of_block (hpW gm (.inr rfl))).trans hm
  have l1 := lt_of_cell c1
  have l2 := lt_of_cell c2
  simp only at l1 l2
  have e1 : IntKind.i64.wrap (a + m) = a + m := wrapI _ (by omega) (by omega)
  have e2 : IntKind.i64.wrap (a + m - 1) = a + m - 1 := wrapI _ (by omega) (by omega)
  clear ha hm hpW
  refine callsIn_of_wp Try.func73 rfl trivial ?_ rfl
  simp only [Try.ntmps73, List.size_toArray, List.length_cons, List.length_nil, Nat.reduceAdd, Nat.reduceSub, Array.replicate_succ, Array.replicate_zero, List.push_toArray, List.append_toArray, List.nil_append, List.cons_append]
  gi_wp2_with fail
  gi_loopw [4] (fun t wr => ∃ (k : Nat) (O : Nat → Prop), t = .int .i64 (a + m - 1 - (k : Int)) ∧ (k : Int) ≤ m ∧ J (fallL a m k) O wr ∧ W.heap.size ≤ wr.heap.size ∧ (∀ b, O b → W.heap.size ≤ b ∧ b < wr.heap.size) ∧ Hid (∀ q, (q = ga ∨ q = gm) → wr.heap[q]? = W.heap[q]?)) (fun t _ => (_root_.Go.RowKit.intOf t + 1 - a).toNat)
  case atStart => exact ⟨0, fun _ => False, by go_num, by omega, hj0, Nat.le_refl _, fun b (h : False) => h.elim, Lib.hid fun _ _ => rfl⟩
  case round =>
    obtain ⟨k, O, rfl, hk, hj, hws, hO, HQ⟩ := hrel
    have d1 : wr.cell? ⟨ga, 0, none⟩ = some (.int .i64 a) := (World.cell?_of_block (HQ.out ga (.inl rfl))).trans c1
    by_cases hlt : (k : Int) < m
    · have hpre : preF a m (fallL a m k) (a + m - 1 - (k : Int)) wr := ⟨by omega, by omega, fun j g1 g2 => fallL_mem g1 g2⟩
      obtain ⟨fn, tmps, assign, body, hy, hR⟩ := hY _ _ O wr hws (fun b h => by have := hO b h; omega) hj hpre (fun b (h : False) => h.elim)
      simp only [encI] at hy
      have hsn := fallL_succ a m k
      have e4 : IntKind.i64.wrap (a + m - 1 - (k : Int) - 1) = a + m - 1 - ((k + 1 : Nat) : Int) := by rw [wrapI _ (by omega) (by omega)]; omega
      have e5 : decide (a ≤ a + m - 1 - (k : Int)) = true := decide_eq_true (by omega)
      have HX : Hid (a + m - 1 - ((k + 1 : Nat) : Int) = a + m - 1 - (k : Int) - 1) := Lib.hid (by omega)
      have HG : Hid (a ≤ a + m - 1 - (k : Int)) := Lib.hid (by omega)
      obtain ⟨x, hx⟩ : ∃ x, x = a + m - 1 - (k : Int) := ⟨_, rfl⟩
      obtain ⟨x', hx'⟩ : ∃ x', x' = a + m - 1 - ((k + 1 : Nat) : Int) := ⟨_, rfl⟩
      rw [← hx] at e4 e5 hy hsn hR HX HG
      rw [← hx'] at e4 HX
      have HX' := Lib.hid hx'
      have HSN := Lib.hid hsn
      rw [← hx]
      clear hx hx' hpre hsn hj
      gi_wp2_with fail
      refine hR.mono ?_
      rintro e W' ⟨hk', (⟨rfl, hj'⟩ | ⟨rfl, hjx⟩)⟩
      · have hO4 := nextO_bound (M := fun _ => False) hO hws hk'.size
        have hws4 := Nat.le_trans hws hk'.size
        have HQ4 : Hid (∀ q, (q = ga ∨ q = gm) → W'.heap[q]? = W.heap[q]?) := Lib.hid fun q hq => (hk'.same q (by rcases hq with rfl | rfl <;> omega) (.inl hq)).trans (HQ.out q hq)
        clear HQ hO hk' hws
        gi_wp2
        go_roundw
        case rel => exact ⟨k + 1, _, by rw [HX'.out], by omega, by rw [HSN.out]; exact hj', hws4, hO4, HQ4⟩
        case measure => have h1 := HX.out; have h2 := HG.out; simp [_root_.Go.RowKit.intOf]; omega
      · gi_wp2
        exact bodyPost_ret (results_none rfl _ _ _) rfl (itEnd.part trivial hjx)
    · have e5 : decide (a ≤ a + m - 1 - (k : Int)) = false := decide_eq_false (by omega)
      have hall : allF a m (fallL a m k) := fun j g1 g2 => fallL_mem (by omega) g2
      have HA := Lib.hid hall
      obtain ⟨x, hx⟩ : ∃ x, x = a + m - 1 - (k : Int) := ⟨_, rfl⟩
      rw [← hx] at e5 ⊢
      clear hx hall
      gi_wp2
      go_end0
      exact itEnd.all HA.out hj
theorem falling_any (a m : Int) (w : World) : Calls Try.prog 68 #[.int .i64 a, .int .i64 m] w fun e w' =>
    e = .returned (.func (.func 73) #[] #[bx w.heap.size, bx (w.heap.size + 1)]) ∧ (w.alloc (.cells #[.int .i64 a] 3)).alloc (.cells #[.int .i64 m] 3) = w' := by
  go_enter Try.func68, Try.ntmps68
  go_wp2
  go_ret
  exact ⟨rfl, rfl⟩
end Go.Proofs.Ytmocdokikcbjeaa
