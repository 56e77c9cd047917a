import Derived.Test.YtkfljominljliaaGreatVb
import Derived.Test.YtkfljominljliaaGreatRangeBox
import Derived.BigQuiet
import Derived.Deep.QuietTactic
namespace Go.Proofs.YtkfljominljliaaGreat.Vm
open Go.RowKit Go.Shelf Go.Maps Go.Sort
attribute [local go_sem] Oper.semAt_some

/- A REACH, PARTED BY PAGES. -/

/-- the parts of so many bytes from an address on: page, place, how many -/
def pts (a n : Nat) : List (Nat × Nat × Nat) := if n = 0 then [] else (a / 256, a % 256, min n (256 - a % 256)) :: pts (a + min n (256 - a % 256)) (n - min n (256 - a % 256))
termination_by n
decreasing_by omega
theorem pts_zero (a : Nat) : pts a 0 = [] := by rw [pts]; rfl
theorem pts_pos {a n : Nat} (h : 0 < n) : pts a n = (a / 256, a % 256, min n (256 - a % 256)) :: pts (a + min n (256 - a % 256)) (n - min n (256 - a % 256)) := by
  rw [pts, if_neg (by omega)]

def enc3 (x : Nat × Nat × Nat) : Value := .agg #[.int .i64 (x.1 : Int), .int .i64 (x.2.1 : Int), .int .i64 (x.2.2 : Int)]
def encX (x : Nat × Nat × Nat) : Array Value := #[enc3 x]
def preX (a n : Nat) (pre : List (Nat × Nat × Nat)) (x : Nat × Nat × Nat) (_ : World) : Prop := ∃ post, pts a n = pre ++ x :: post
def allX (a n : Nat) (xs : List (Nat × Nat × Nat)) : Prop := xs = pts a n
def someX (a n : Nat) (xs : List (Nat × Nat × Nat)) : Prop := ∃ post, pts a n = xs ++ post
abbrev rc2 (a n : Nat) : List Value := [.int .u32 (a : Int), .int .i64 (n : Int)]

theorem nextO_bound {O M : Nat → Prop} {B : Nat} {W W' : World} (hO : ∀ b, O b → B ≤ b ∧ b < W.heap.size) (hB : B ≤ W.heap.size) (hs : W.heap.size ≤ W'.heap.size) (hM : ∀ b, M b → B ≤ b ∧ b < W.heap.size := by exact fun _ h => h.elim) :
    ∀ b, nextO O M W W' b → B ≤ b ∧ b < W'.heap.size := by
  rintro b (h | h | h)
  · have := hO b h; omega
  · have := hM b h; omega
  · omega

set_option maxHeartbeats 1000000 in
theorem parts1_it (a n g : Nat) (w0 : World) (han : a + n ≤ 16777216) (hr : Row w0 g 68 (rc2 a n)) : It Tryz.prog 102 #[bx g] encX (fun _ _ => False) (preX a n) (· = g) (allX a n) (someX a n) w0 := by
  intro l J Jx W hpW hsW hJ hJx hY h0
  have hrW : Row W g 68 (rc2 a n) := hr.same (hpW _ rfl)
  have mixed : Tryz.prog.follows .mixedOrders = true := by kernel_rfl
  have c0 : W.cell? ⟨g, 0, none⟩ = some (.int .u32 (a : Int)) := hrW.cell 0
  have c1 : W.cell? ⟨g, 1, none⟩ = some (.int .i64 (n : Int)) := hrW.cell 1
  have ew : IntKind.i64.wrap ((a : Nat) : Int) = (a : Int) := wrapI _ (by omega) (by omega)
  refine (callsIn_wide (n := 1)).1 ?_
  refine callsIn_of_wp Tryz.func102 rfl trivial ?_ rfl
  simp only [Tryz.ntmps102, List.size_toArray, List.length_cons, List.length_nil, Nat.reduceAdd, Nat.reduceSub, Array.replicate_succ, Array.replicate_zero, List.push_toArray, List.append_toArray, List.nil_append, List.cons_append]
  gi_wp2_with fail
  refine wpIn_wide.2 ?_
  go_quiet (fail)
  obtain ⟨W1, hW1⟩ : ∃ W1, W1 = W.drewN nq := ⟨_, rfl⟩
  have hbW : Below W.heap.size W W1 := by rw [hW1]; exact below_drewN (Below.refl _ _) nq
  have h1 : J [] (fun _ => False) W1 := hJ _ _ _ _ none h0 ⟨hbW.os, hbW.tape, hbW.output, hbW.size, fun k hk _ => hbW.block k hk⟩ (fun r e => by cases e)
  have hr1 := hrW.below hbW
  have hs1 := hbW.size
  rw [← hW1]
  clear hW1 hbW h0 c0 c1 ew hrW
  gi_wp2_with fail
  gi_loopw [3, 4] (fun t3 t4 wr => ∃ (at_ left : Nat) (pre : List (Nat × Nat × Nat)) (O : Nat → Prop), t3 = .int .i64 (at_ : Int) ∧ t4 = .int .i64 (left : Int) ∧ at_ + left = a + n ∧ Hid (pts a n = pre ++ pts at_ left) ∧ J pre O wr ∧ W.heap.size ≤ wr.heap.size ∧ (∀ b, O b → W.heap.size ≤ b ∧ b < wr.heap.size) ∧ Row wr g 68 (rc2 a n)) (fun _ t4 _ => (_root_.Go.RowKit.intOf t4).toNat)
  case atStart => exact ⟨a, n, [], fun _ => False, rfl, rfl, rfl, Lib.hid rfl, h1, hs1, fun b (h : False) => h.elim, hr1⟩
  case round =>
    clear h1 hr1 hs1
    obtain ⟨at_, left, pre, O, rfl, rfl, hal, Hpre, hj, hws, hO, hrow⟩ := hrel
    by_cases hlt : 0 < left
    · have j1 : decide ((0 : Int) < (left : Int)) = true := decide_eq_true (by omega)
      obtain ⟨pg, hpg⟩ : ∃ pg, pg = at_ / 256 := ⟨_, rfl⟩
      obtain ⟨pl, hpl⟩ : ∃ pl, pl = at_ % 256 := ⟨_, rfl⟩
      obtain ⟨r, hr9⟩ : ∃ r, r = 256 - pl := ⟨_, rfl⟩
      obtain ⟨k, hk⟩ : ∃ k, k = min left r := ⟨_, rfl⟩
      have d1 : IntKind.i64.wrap ((at_ : Int).tdiv 256) = (pg : Int) := by
        rw [show (at_ : Int).tdiv 256 = ((at_ / 256 : Nat) : Int) from rfl, ← hpg]
        exact wrapI _ (by omega) (by omega)
      have d2 : IntKind.i64.wrap ((at_ : Int).tmod 256) = (pl : Int) := by
        rw [show (at_ : Int).tmod 256 = ((at_ % 256 : Nat) : Int) from rfl, ← hpl]
        exact wrapI _ (by omega) (by omega)
      have d3 : IntKind.i64.wrap (256 - (pl : Int)) = (r : Int) := by
        rw [wrapI _ (by omega) (by omega)]
        omega
      have m1 : min (left : Int) (r : Int) = (k : Int) := by omega
      have d4 : IntKind.i64.wrap ((at_ : Int) + (k : Int)) = ((at_ + k : Nat) : Int) := by
        rw [wrapI _ (by omega) (by omega)]
        omega
      have d5 : IntKind.i64.wrap ((left : Int) - (k : Int)) = ((left - k : Nat) : Int) := by
        rw [wrapI _ (by omega) (by omega)]
        omega
      have hstep := Lib.hid (pts_pos (a := at_) hlt)
      rw [← hpg, ← hpl, ← hr9, ← hk] at hstep
      have v1 : (at_ : Int) / 256 = (pg : Int) := by omega
      have v2 : (at_ : Int) % 256 = (pl : Int) := by omega
      have v3 : (256 : Int) - (pl : Int) = (r : Int) := by omega
      have hpgb : pg ≤ 65536 := by omega
      have hplb : pl < 256 := by omega
      have hkp : 0 < k := by omega
      have hkl : k ≤ left := by omega
      clear hpg hpl hr9 hk
      have HD4 := Lib.hid d4
      have HD5 := Lib.hid d5
      clear d4 d5
      obtain ⟨V1, hV1⟩ : ∃ V1, V1 = wr.alloc (.cells #[.int .i64 (pg : Int), .int .i64 (pl : Int), .int .i64 (k : Int)] 111) := ⟨_, rfl⟩
      have hbV : Below wr.heap.size wr V1 := by rw [hV1]; exact below1 _ _
      have hz1 : V1.heap.size = wr.heap.size + 1 := by rw [hV1]; simp
      have r5 : Row V1 wr.heap.size 111 [.int .i64 (pg : Int), .int .i64 (pl : Int), .int .i64 (k : Int)] := by rw [hV1]; exact Row.new wr 111 [.int .i64 (pg : Int), .int .i64 (pl : Int), .int .i64 (k : Int)]
      have hsplit : pts a n = pre ++ (pg, pl, k) :: pts (at_ + k) (left - k) := by rw [Hpre.out, hstep.out]
      have HSP := Lib.hid hsplit
      obtain ⟨fn, tmps, assign, body, hy, hR⟩ := hY pre (pg, pl, k) O V1 (by omega) (fun b h => by have := hO b h; omega) (hJ _ _ _ _ none hj ⟨hbV.os, hbV.tape, hbV.output, hbV.size, fun k hk _ => hbV.block k hk⟩ (fun r e => by cases e)) ⟨_, hsplit⟩ (fun b (h : False) => h.elim)
      have hrow1 := hrow.below hbV
      have hno5 : ¬ O wr.heap.size := fun h => by have := hO _ h; omega
      simp only [encX, enc3] at hy
      have HAL := Lib.hid hal
      have HKP := Lib.hid (And.intro hkp hkl)
      clear hsplit hj hrow hstep hkp hkl hal
      gi_wp2_with fail
      rw [← hV1]
      clear hV1
      simp only [hy, Oper.uponIn]
      refine ⟨fun _ => Nat.le_refl _, hR.mono ?_⟩
      rintro e W' ⟨hk', (⟨rfl, hj'⟩ | ⟨rfl, hjx⟩)⟩
      · have r5' := r5.same (hk'.same wr.heap.size (by omega) (.inr ⟨hws, hno5, fun h => h⟩))
        have c2 : W'.cell? ⟨wr.heap.size, 2, none⟩ = some (.int .i64 (k : Int)) := r5'.cell 2
        have hrow' : Row W' g 68 (rc2 a n) := hrow1.same (hk'.same _ hrow1.lt (.inl rfl))
        have hO' := nextO_bound (M := fun _ => False) (fun b h => by have := hO b h; omega) (by omega : W.heap.size ≤ V1.heap.size) hk'.size
        have hws' : W.heap.size ≤ W'.heap.size := by have := hk'.size; omega
        have d4 := HD4.out
        have d5 := HD5.out
        clear hy hR r5 r5' hrow1 hk' hO hws hbV
        gi_wp2_with fail
        refine wpIn_wide.2 ?_
        go_quiet (fail)
        obtain ⟨W2, hW2⟩ : ∃ W2, W2 = W'.drewN nq := ⟨_, rfl⟩
        have hb2 : Below W'.heap.size W' W2 := by rw [hW2]; exact below_drewN (Below.refl _ _) nq
        have hj2 := hJ _ _ _ _ none hj' ⟨hb2.os, hb2.tape, hb2.output, hb2.size, fun k hk _ => hb2.block k hk⟩ (fun r e => by cases e)
        have hr2 := hrow'.below hb2
        have hs2 := hb2.size
        rw [← hW2]
        clear hW2 hb2 hj' hrow' c2
        gi_wp2_with fail
        go_roundw
        case rel => exact ⟨at_ + k, left - k, _, _, by go_num, rfl, by have := HAL.out; have := HKP.out; omega, Lib.hid (by rw [HSP.out, List.append_assoc]; rfl), hj2, by omega, fun b h => by have := hO' b h; omega, hr2⟩
        case measure => have := HKP.out; simp [_root_.Go.RowKit.intOf]; omega
      · gi_wp2_with fail
        refine bodyPost_ret (results_none rfl _ _ _) rfl ?_
        exact itEnd.part ⟨_, by rw [HSP.out, List.append_assoc]; rfl⟩ hjx
    · obtain rfl : left = 0 := by omega
      have j1 : decide ((0 : Int) < ((0 : Nat) : Int)) = false := rfl
      have hall : pts a n = pre := by rw [Hpre.out, pts_zero, List.append_nil]
      gi_wp2_with fail
      go_end0
      exact itEnd.all hall.symm hj
end Go.Proofs.YtkfljominljliaaGreat.Vm
