import Derived.Test.YtfmbfojlopibnaaDoorBase
import Derived.Lib.LaidTab
namespace Go.Proofs.YtfmbfojlopibnaaDoor
open Go.RowKit

/-- the table of widths stands in block 0 -/
def Tab (w : World) : Prop := ∃ t fr, w.heap[0]? = some (.cells #[.int .i64 1, .int .i64 2, .int .i64 4, .int .i64 8] t fr)

theorem Tab.lt {w : World} (h : Tab w) : 0 < w.heap.size := by
  obtain ⟨t, fr, h⟩ := h
  exact (Array.getElem?_eq_some_iff.1 h).1
theorem Tab.below {w w' : World} (h : Tab w) (hb : Below w.heap.size w w') : Tab w' := by
  have hl := h.lt
  obtain ⟨t, fr, h⟩ := h
  exact ⟨t, fr, (hb.block _ hl).trans h⟩
theorem Tab.alloc {w : World} (h : Tab w) (o : Obj) : Tab (w.alloc o) := h.below ((Below.refl _ _).alloc (Nat.le_refl _) _)
theorem Tab.drewN {w : World} (h : Tab w) (n : Nat) : Tab (w.drewN n) := h
theorem Tab.of {w : World} (h : Lib.TabIs Tryd.prog w "pinfold/word.widths" .i64 [1, 2, 4, 8]) : Tab w := by
  unfold Lib.TabIs World.var? at h
  have hg : Tryd.prog.globalNamed "pinfold/word.widths" = some 0 := by kernel_rfl
  rw [hg] at h
  simp only [Option.bind_some] at h
  split at h
  · rename_i cs t fr hh
    simp only [Option.some.injEq] at h
    subst h
    exact ⟨t, fr, hh⟩
  · cases h

theorem widths_size : (Tryd.prog.info? 127).map (·.size) = some (#[Value.int .i64 1, .int .i64 2, .int .i64 4, .int .i64 8] : Array Value).size := by kernel_rfl

/-- is it a width? -/
def wid (n : Int) : Bool := n == 1 || n == 2 || n == 4 || n == 8

def widFrom (n : Int) (k : Nat) : Bool := ([1, 2, 4, 8].drop k).any fun x => n == x
theorem wid_start (n : Int) : wid n = widFrom n 0 := by simp [wid, widFrom, Bool.or_assoc]
theorem wid_end {n : Int} (h : wid n = widFrom n 4) : wid n = false := h
theorem wid_here {n x : Int} {k : Nat} (hx : [1, 2, 4, 8][k]? = some x) (h : (n == x) = true) (hk : wid n = widFrom n k) : wid n = true := by
  rw [hk]
  unfold widFrom
  rw [List.any_eq_true]
  refine ⟨x, ?_, h⟩
  rw [List.mem_iff_getElem?]
  exact ⟨0, by simpa using hx⟩
theorem wid_step {n x : Int} {k : Nat} (hx : [1, 2, 4, 8][k]? = some x) (h : (n == x) = false) (hk : wid n = widFrom n k) : Hid (wid n = widFrom n (k + 1)) := by
  show wid n = _
  rw [hk]
  unfold widFrom
  obtain ⟨hl, rfl⟩ := List.getElem?_eq_some_iff.1 hx
  rw [List.drop_eq_getElem_cons hl, List.any_cons, h, Bool.false_or]

set_option maxHeartbeats 400000 in
theorem wknown_any (n : Int) (w : World) (ht : Tab w) : Calls Tryd.prog 73 #[.int .i64 n] w fun e w' => e = .returned (.bool (wid n)) ∧ w = w' := by
  obtain ⟨t, fr, ht⟩ := ht
  have i0 : ∀ w, (Instr.index 127 (.agg #[.int .i64 1, .int .i64 2, .int .i64 4, .int .i64 8]) (.int .i64 0)).run Tryd.prog w = .ok (.int .i64 1) w := fun _ => by kernel_rfl
  have i1 : ∀ w, (Instr.index 127 (.agg #[.int .i64 1, .int .i64 2, .int .i64 4, .int .i64 8]) (.int .i64 1)).run Tryd.prog w = .ok (.int .i64 2) w := fun _ => by kernel_rfl
  have i2 : ∀ w, (Instr.index 127 (.agg #[.int .i64 1, .int .i64 2, .int .i64 4, .int .i64 8]) (.int .i64 2)).run Tryd.prog w = .ok (.int .i64 4) w := fun _ => by kernel_rfl
  have i3 : ∀ w, (Instr.index 127 (.agg #[.int .i64 1, .int .i64 2, .int .i64 4, .int .i64 8]) (.int .i64 3)).run Tryd.prog w = .ok (.int .i64 8) w := fun _ => by kernel_rfl
  go_enter Tryd.func73, Tryd.ntmps73
  go_wp2_with (refine wpList_load_row rfl 127 _ rfl 0 rfl t _ fr _ ht Tryd.underlying127 rfl widths_size ?_)
  go_loop [6] (fun i => ∃ k : Nat, k ≤ 4 ∧ i = .int .i64 k ∧ Hid (wid n = widFrom n k)) (fun i => 4 - (intOf i).toNat)
  case atStart => exact ⟨0, by omega, rfl, wid_start n⟩
  case round =>
    obtain ⟨k, hk, rfl, H⟩ := hrel
    rcases (show k = 0 ∨ k = 1 ∨ k = 2 ∨ k = 3 ∨ k = 4 by omega) with rfl | rfl | rfl | rfl | rfl
    all_goals go_wp2
    all_goals first
      | (go_ret; exact ⟨by rw [wid_end H.out]; rfl, rfl⟩)
      | (go_ret; exact ⟨by rw [wid_here rfl ‹_› H.out]; rfl, rfl⟩)
      | (go_round
         case rel => exact ⟨_, by omega, by go_num, wid_step rfl ‹_› H.out⟩
         case measure => simp [intOf])
end Go.Proofs.YtfmbfojlopibnaaDoor
