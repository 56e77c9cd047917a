import Derived.Test.YtbiopegophdgiaaDoorVal
import Derived.Test.YtbiopegophdgiaaDoorGen
import Derived.Test.YtbiopegophdgiaaDoorBaseIn
import Derived.Test.YtbiopegophdgiaaDoorMake
import Derived.Laws.Entries
import Derived.Laws.Shifts
namespace Go.Proofs.YtbiopegophdgiaaDoor
open Go.RowKit Go.Shelf
attribute [local go_sem] Oper.semAt_some

/- THE SMALL FUNCTIONS OF MARKS. -/

/-- there are no marks: a nil pointer, or an object that nobody made -/
def Non (w : World) (m : Value) : Prop := m = .pointer none ∨ ∃ b, m = .pointer (some ⟨b, 0, none⟩) ∧ Row w b 34 [.int .i64 0, .slice none 0 0, .bool false]

theorem none_any (w : World) (m : Value) (h : Non w m) : Calls Tryd.prog 34 #[m] w fun e w' => e = .returned (.bool true) ∧ w = w' := by
  rcases h with rfl | ⟨b, rfl, hr⟩
  · go_enter Tryd.func34, Tryd.ntmps34
    go_wp2
    go_ret
    exact ⟨rfl, rfl⟩
  · have hc : w.cell? ⟨b, 2, none⟩ = some (.bool false) := hr.cell 2
    have hc0 : w.cell? ⟨b, 0, none⟩ = some (.int .i64 0) := hr.cell 0
    clear hr
    go_enter Tryd.func34, Tryd.ntmps34
    go_wp2
    go_ret
    exact ⟨rfl, rfl⟩
theorem none_not (w : World) (b : Nat) (v0 : Value) (_hc0 : w.cell? ⟨b, 0, none⟩ = some v0) (hc : w.cell? ⟨b, 2, none⟩ = some (.bool true)) : Calls Tryd.prog 34 #[.pointer (some ⟨b, 0, none⟩)] w fun e w' => e = .returned (.bool false) ∧ w = w' := by
  go_enter Tryd.func34, Tryd.ntmps34
  go_wp2
  go_ret
  exact ⟨rfl, rfl⟩

theorem holds_in (n k : Nat) (w : World) (h : k < n) : Calls Tryd.prog 35 #[.int .i64 (n : Int), .int .i64 (k : Int)] w fun e w' => e = .returned (.bool true) ∧ w = w' := by
  go_enter Tryd.func35, Tryd.ntmps35
  go_wp2
  go_ret
  exact ⟨rfl, rfl⟩
theorem holds_out (n : Nat) (at_ : Int) (w : World) (h : at_ < 0 ∨ (n : Int) ≤ at_) : Calls Tryd.prog 35 #[.int .i64 (n : Int), .int .i64 at_] w fun e w' => e = .returned (.bool false) ∧ w = w' := by
  rcases h with h | h
  · have h0 : decide ((0 : Int) ≤ at_) = false := decide_eq_false (by omega)
    go_enter Tryd.func35, Tryd.ntmps35
    go_wp2
    go_ret
    exact ⟨rfl, rfl⟩
  · by_cases h0 : 0 ≤ at_
    · have h1 : decide (at_ < (n : Int)) = false := decide_eq_false (by omega)
      go_enter Tryd.func35, Tryd.ntmps35
      go_wp2
      go_ret
      exact ⟨rfl, rfl⟩
    · exact absurd h (by omega)

theorem extent_ok (n : Nat) (w : World) (h : n ≤ 4096) : Calls Tryd.prog 31 #[.int .i64 (n : Int)] w fun e w' => e = .returned (.tuple #[.int .i64 (n : Int), .int .i64 0]) ∧ w = w' := by
  have h0 : decide ((n : Int) < 0) = false := decide_eq_false (by omega)
  have h1 : decide ((4096 : Int) < (n : Int)) = false := decide_eq_false (by omega)
  go_enter Tryd.func31, Tryd.ntmps31
  go_wp2_with fail
  refine wp_scope_jump 1 fun R hR hJm => ?_
  go_wp2_with fail
  refine hR.out _ _ _ _ (by simp) ?_
  go_ret2
  exact ⟨rfl, rfl⟩
theorem extent_no (n : Int) (w : World) (h : n < 0 ∨ 4096 < n) : Calls Tryd.prog 31 #[.int .i64 n] w fun e w' => e = .returned (.tuple #[.int .i64 0, .int .i64 2]) ∧ w = w' := by
  rcases h with h | h
  · go_enter Tryd.func31, Tryd.ntmps31
    go_wp2_with fail
    refine wp_scope_jump 1 fun R hR hJm => ?_
    go_wp2_with fail
    refine (wp_goto (hJm.out _ _ _ _ _ rfl ?_))
    go_wp2_with fail
    refine hR.out _ _ _ _ (by simp) ?_
    go_ret2
    exact ⟨rfl, rfl⟩
  · have h0 : decide (n < 0) = false := decide_eq_false (by omega)
    go_enter Tryd.func31, Tryd.ntmps31
    go_wp2_with fail
    refine wp_scope_jump 1 fun R hR hJm => ?_
    go_wp2_with fail
    refine (wp_goto (hJm.out _ _ _ _ _ rfl ?_))
    go_wp2_with fail
    refine hR.out _ _ _ _ (by simp) ?_
    go_ret2
    exact ⟨rfl, rfl⟩

theorem placeOf_any (at_ : Int) (w : World) : Calls Tryd.prog 33 #[.int .i64 at_] w fun e w' => (∃ p q, e = .returned (.agg #[.int .i64 p, .int .i64 q])) ∧ Below w.heap.size w w' := by
  go_enter Tryd.func33, Tryd.ntmps33
  go_wp2
  exact bodyPost_ret (v := .agg #[.int .i64 _, .int .i64 _]) (by simp [results, Tryd.results33, go_sem]; exact ⟨rfl, rfl⟩) rfl ⟨⟨_, _, rfl⟩, below1 _ _⟩
theorem placeOf_in (k : Nat) (w : World) (h : k ≤ 4096) : Calls Tryd.prog 33 #[.int .i64 (k : Int)] w fun e w' => e = .returned (.agg #[.int .i64 ((k / 64 : Nat) : Int), .int .i64 ((k % 64 : Nat) : Int)]) ∧ Below w.heap.size w w' := by
  go_enter Tryd.func33, Tryd.ntmps33
  go_wp2
  exact bodyPost_ret (v := .agg #[.int .i64 ((k / 64 : Nat) : Int), .int .i64 ((k % 64 : Nat) : Int)]) (by simp [results, Tryd.results33, go_sem]) rfl ⟨rfl, below1 _ _⟩
theorem ret_val {a b : Value} (h : a = b) : Ending.returned a = .returned b := by rw [h]
theorem pow_wrap {q : Nat} (h : q < 64) : IntKind.u64.wrap ((2 : Int) ^ q) = ((2 ^ q : Nat) : Int) := by
  rw [show ((2 : Int) ^ q) = ((2 ^ q : Nat) : Int) by norm_cast]
  exact wrapN _ (pow64 h)
theorem bit_any (p : Int) (q : Nat) (w : World) (h : q < 64) : Calls Tryd.prog 36 #[.agg #[.int .i64 p, .int .i64 (q : Int)]] w fun e w' => e = .returned (.int .u64 ((2 ^ q : Nat) : Int)) ∧ w.alloc (.cells #[.int .i64 p, .int .i64 (q : Int)] 71) = w' := by
  have hp := Lib.hid (pow_wrap h)
  go_enter Tryd.func36, Tryd.ntmps36
  go_wp2
  go_ret
  exact ⟨by rw [hp.out]; rfl, rfl⟩
theorem at_any (p q : Nat) (w : World) (hp : p ≤ 4096) (h : q ≤ 64) : Calls Tryd.prog 50 #[.agg #[.int .i64 (p : Int), .int .i64 (q : Int)]] w fun e w' => e = .returned (.int .i64 ((64 * p + q : Nat) : Int)) ∧ Below w.heap.size w w' := by
  go_enter Tryd.func50, Tryd.ntmps50
  have he : ((p : Int) * 64 + (q : Int)) = ((64 * p + q : Nat) : Int) := by omega
  go_wp2
  go_ret
  exact ⟨rfl, below1 _ _⟩
theorem real_shift (n i : Nat) (hi : 64 * i < n) : ∃ sh : Nat, Op.shift .shl .u64 1 .i64 ((n : Int) - (i : Int) * 64) = pure (.int .u64 (sh : Int)) ∧ IntKind.u64.wrap ((sh : Int) - 1) = (mask n i : Int) := by
  have h0 : 0 < n - 64 * i := by omega
  have h1 := shift_shl_any .u64 .i64 1 ((n : Int) - (i : Int) * 64) (by omega)
  have e : ((n : Int) - (i : Int) * 64).toNat = n - 64 * i := by omega
  rw [e, Int.one_mul, show IntKind.u64.bits = 64 from rfl] at h1
  have hmk : mask n i = 2 ^ min 64 (n - 64 * i) - 1 := rfl
  by_cases h : n - 64 * i < 64
  · rw [Nat.min_eq_left (Nat.le_of_lt h), pow_wrap h] at h1
    refine ⟨_, h1, ?_⟩
    have hp := Nat.pow_pos (n := n - 64 * i) (show 0 < 2 by omega)
    have hl := pow64 h
    rw [Nat.min_eq_right (Nat.le_of_lt h)] at hmk
    rw [hmk, IntKind.wrap_u64]
    omega
  · rw [Nat.min_eq_right (by omega)] at h1
    refine ⟨0, by rw [h1]; rfl, ?_⟩
    rw [Nat.min_eq_left (by omega)] at hmk
    rw [hmk]
    rfl
theorem real_any (n i : Nat) (w : World) (hn : n ≤ 4096) (hi : 64 * i < n) : Calls Tryd.prog 53 #[.int .i64 (n : Int), .int .i64 (i : Int)] w fun e w' => e = .returned (.int .u64 (mask n i : Int)) ∧ w = w' := by
  obtain ⟨sh, h1, h2⟩ := real_shift n i hi
  go_enter Tryd.func53, Tryd.ntmps53
  go_wp2
  go_ret
  exact ⟨rfl, rfl⟩

theorem word_info : (Tryd.prog.info? 73).map (fun i => (i.zero, i.size, i.bytes)) = some (some (.int .u64 0), 1, 8) := by kernel_rfl
/-- words as cells -/
def wds (l : List Nat) : List Value := l.map fun n : Nat => .int .u64 (n : Int)
theorem wds_len (l : List Nat) : (wds l).length = l.length := by simp [wds]
theorem wds_get (l : List Nat) {i n : Nat} (h : l[i]? = some n) : (wds l)[i]? = some (.int .u64 (n : Int)) := by simp [wds, h]
theorem wds_append (a b : List Nat) : wds (a ++ b) = wds a ++ wds b := by simp [wds]
theorem wds_one {l : List Nat} : ∀ u ∈ wds l, u.oneCell' = true := by
  intro u hu
  simp only [wds, List.mem_map] at hu
  obtain ⟨b, _, rfl⟩ := hu
  rfl
theorem wds_zero (n : Nat) : wds (List.replicate n 0) = List.replicate n (.int .u64 0) := by simp [wds]
theorem list_any (n : Nat) (w : World) (hn : n ≤ 4096) : Calls Tryd.prog 32 #[.int .i64 (n : Int)] w fun e w' =>
    e = .returned (.slice (some ⟨w.heap.size, 0, none⟩) (nw n) (nw n)) ∧ w.alloc (.cells (wds (List.replicate (nw n) 0)).toArray 73) = w' := by
  obtain ⟨i0, hi, hz0, hz1, hz2⟩ := info_parts word_info
  have hn2 : nw n ≤ 64 := by unfold nw; omega
  have hmk := make_one (P := Tryd.prog) Tryd.underlying32 hi hz0 hz1 rfl (nw n) (nw n) (Nat.le_refl _) (by rw [hz2]; omega) (by omega)
  rw [← wds_zero] at hmk
  have hq : ((n : Int) + 64 - 1) / 64 = (nw n : Int) := by unfold nw; omega
  clear hi hz0 hz1 hz2
  go_enter Tryd.func32, Tryd.ntmps32
  go_wp2
  go_ret
  exact ⟨rfl, rfl⟩
end Go.Proofs.YtbiopegophdgiaaDoor
