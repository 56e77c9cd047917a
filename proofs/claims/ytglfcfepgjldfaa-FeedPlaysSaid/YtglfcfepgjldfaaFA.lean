import Derived.Test.YtglfcfepgjldfaaGen
import Derived.Test.YtglfcfepgjldfaaRow
import Derived.Test.YtglfcfepgjldfaaStr
import Derived.Deep.RegionHeld3
import Derived.Shelf.RegionOpen
namespace Go.Proofs.Ytglfcfepgjldfaa.Fe
open Go.RowKit Go.Shelf
attribute [local go_sem] Oper.semAt_some

/- THE DOCUMENT's FEED, PLAINLY, AND ITS SMALL FUNCTIONS: LEFT, TAKE. -/
abbrev fc (l : List UInt8) (p : Nat) : List Value := [.string (str l), .int .i64 (p : Int)]
abbrev fv (l : List UInt8) (p : Nat) : Value := .agg #[.string (str l), .int .i64 (p : Int)]
abbrev small (l : List UInt8) (p : Nat) : Prop := p ≤ l.length ∧ l.length ≤ 4611686018427387904
theorem str_size (l : List UInt8) : (str l).size = l.length := by simp [str, ByteArray.size]
theorem str_slice (bs : List UInt8) (a m : Nat) : (str bs).extract a (a + m) = str ((bs.drop a).take m) := by
  unfold str
  rw [ByteArray.extract_mk, Nat.add_sub_cancel_left]
theorem str_from (bs : List UInt8) (a : Nat) (h : a ≤ bs.length) : (str bs).extract a bs.length = str (bs.drop a) := by
  have := str_slice bs a (bs.length - a)
  rw [show a + (bs.length - a) = bs.length by omega] at this
  rw [this, List.take_of_length_le (by simp)]
theorem rleft_any (l : List UInt8) (p : Nat) (h : small l p) (w : World) : Calls Try.prog 13 #[fv l p] w fun e w' => e = .returned (.string (str (l.drop p))) ∧ Below w.heap.size w w' := by
  obtain ⟨h1, h2⟩ := h
  have hsl : ∀ w : World, (Instr.slice 9 (.string (str l)) (some (.int .i64 (p : Int))) none none).run Try.prog w = .ok (.string (str (l.drop p))) w := fun w => by
    rw [run_slice_string_l w 9 (str l) Try.underlying9 .i64 _ (by omega) (by rw [str_size]; omega), Int.toNat_natCast, str_size, str_from l p h1]
  obtain ⟨S, hS⟩ : ∃ S, S = str l := ⟨_, rfl⟩
  obtain ⟨T, hT⟩ : ∃ T, T = str (l.drop p) := ⟨_, rfl⟩
  have HB := Lib.hid (below1 w (.cells #[.string S, .int .i64 (p : Int)] 28))
  unfold fv
  rw [← hS, ← hT] at hsl
  rw [← hS, ← hT]
  clear hS hT
  go_enter Try.func13, Try.ntmps13
  go_wp2_with fail
  go_ret
  exact ⟨rfl, HB.out⟩
theorem rtake_no (l : List UInt8) (p : Nat) (z : Int) (hz : z < 0) (w : World) : Calls Try.prog 23 #[fv l p, .int .i64 z] w fun e w' => e = .returned (.tuple #[fv l p, .string (str []), .int .i64 2]) ∧ Below w.heap.size w w' := by
  have d1 : decide (z < 0) = true := decide_eq_true hz
  clear hz
  go_enter Try.func23, Try.ntmps23
  go_wp2_with fail
  exact bodyPost_ret (v := .tuple #[fv l p, .string (str []), .int .i64 2]) (by simp [results, Try.results23, go_sem]; rfl) rfl ⟨rfl, below2 _ _ _⟩
theorem rtake_ok (l : List UInt8) (p m : Nat) (h : small l p) (hm : m ≤ 9223372036854775807) (w : World) : Calls Try.prog 23 #[fv l p, .int .i64 (m : Int)] w fun e w' => e = .returned (.tuple #[fv l (p + min m (l.length - p)), .string (str ((l.drop p).take m)), .int .i64 0]) ∧ Below w.heap.size w w' := by
  obtain ⟨h1, h2⟩ := h
  have d1 : decide ((m : Int) < 0) = false := decide_eq_false (by omega)
  obtain ⟨n, hn⟩ : ∃ n, n = min m (l.length - p) := ⟨_, rfl⟩
  have hsl : ∀ w : World, (Instr.slice 9 (.string (str l)) (some (.int .i64 (p : Int))) (some (.int .i64 ((p + n : Nat) : Int))) none).run Try.prog w = .ok (.string (str ((l.drop p).take m))) w := fun w => by
    rw [run_slice_string w 9 (str l) .i64 .i64 _ _ Try.underlying9 (by omega) (by omega) (by rw [str_size]; omega), Int.toNat_natCast, Int.toNat_natCast, str_slice, hn]
    congr 2
    rw [List.take_eq_take_min (i := m), List.length_drop]
  have hsz := str_size l
  obtain ⟨S, hS⟩ : ∃ S, S = str l := ⟨_, rfl⟩
  obtain ⟨T, hT⟩ : ∃ T, T = str ((l.drop p).take m) := ⟨_, rfl⟩
  unfold fv
  rw [← hS] at hsl hsz
  rw [← hT] at hsl
  rw [← hS, ← hT, ← hn]
  obtain ⟨k, hk⟩ : ∃ k, k = l.length := ⟨_, rfl⟩
  rw [← hk] at hn hsz h1 h2
  have e1 : IntKind.i64.wrap ((k : Int) - (p : Int)) = ((k - p : Nat) : Int) := by rw [wrapI _ (by omega) (by omega)]; omega
  obtain ⟨q, hq⟩ : ∃ q, q = k - p := ⟨_, rfl⟩
  rw [← hq] at e1 hn
  have e2 : (if (q : Int) < (m : Int) then (q : Int) else (m : Int)) = (n : Int) := by split <;> omega
  have e4 : (if q < m then (q : Int) else (m : Int)) = (n : Int) := by split <;> omega
  have e3 : IntKind.i64.wrap ((p : Int) + (n : Int)) = ((p + n : Nat) : Int) := by rw [wrapI _ (by omega) (by omega)]; omega
  obtain ⟨r, hr⟩ : ∃ r, r = p + n := ⟨_, rfl⟩
  rw [← hr] at hsl e3 ⊢
  clear hS hT hk hn hq hr
  go_enter Try.func23, Try.ntmps23
  go_wp2_with fail
  go_region
  go_wp2_with fail
  exact bodyPost_ret (v := .tuple #[.agg #[.string S, .int .i64 (r : Int)], .string T, .int .i64 0]) (by simp [results, Try.results23, go_sem]) rfl ⟨rfl, (below2 _ _ _).drew⟩
end Go.Proofs.Ytglfcfepgjldfaa.Fe
