import Derived.Test.YtbiopegophdgiaaDoorSuch
import Derived.Test.YtbiopegophdgiaaDoorStepW
namespace Go.Proofs.YtbiopegophdgiaaDoor
open Go.RowKit Go.Shelf
attribute [local go_sem] Oper.semAt_some

/- THE PLACES WHOSE BITS STAND IN WORDS, ONE BY ONE. -/

theorem tz_gen (x r m : Nat) (w : World) (hx : x = 2 ^ r * (2 * m + 1)) (hl : x < 18446744073709551616) (ht : Tab w) : Calls Tryd.prog 49 #[.int .u64 (x : Int)] w fun e w' => e = .returned (.int .i64 (r : Int)) ∧ w = w' := by
  have h0 : 0 < 2 ^ r := Nat.pow_pos (by omega)
  have h1 : 2 ^ r ≤ x := by rw [hx]; exact Nat.le_mul_of_pos_right _ (by omega)
  have hr : r < 64 := by
    apply Nat.lt_of_not_le
    intro hle
    have : 2 ^ 64 ≤ 2 ^ r := Nat.pow_le_pow_right (by omega) hle
    omega
  obtain ⟨hi, htab⟩ := Lib.deBruijn64_at _ hr
  have hcell := ht.cell hi
  rw [htab] at hcell
  have hlow : x &&& (18446744073709551616 - x) = 2 ^ r := by
    have := Lib.and_neg 64 r m (by rw [← hx]; exact hl)
    rw [← hx] at this
    exact this
  refine tz_core x r _ w (beq_eq_false_iff_ne.2 (by omega)) ?_ hi hr hcell
  have e1 : IntKind.u64.wrap (-(x : Int)) = ((18446744073709551616 - x : Nat) : Int) := by rw [IntKind.wrap_u64]; omega
  rw [e1, bits_and_u64_nat _ _ hl (by omega), hlow, IntKind.wrap_u64]
  clear e1 hlow hcell htab hi h1 h0 hx
  generalize 2 ^ r = p
  omega
theorem Tab.same {w w' : World} (h : Tab w) (hb : w'.heap[0]? = w.heap[0]?) : Tab w' := by
  obtain ⟨t, fr, h⟩ := h
  exact ⟨t, fr, hb.trans h⟩

/-- where words come from: nowhere, or a block -/
def Src (w : World) (A : Option Addr) (l : List Bool) : Prop := (A = none ∧ l = []) ∨ ∃ g, A = some ⟨g, 0, none⟩ ∧ Row w g 73 (wds (words l))
/-- the blocks that the iterator reads -/
def privP (bw : Nat) (A : Option Addr) (k : Nat) : Prop := k = bw ∨ A = some ⟨k, 0, none⟩
theorem Src.same {w w' : World} {A : Option Addr} {l : List Bool} (h : Src w A l) (hk : ∀ k, A = some ⟨k, 0, none⟩ → w'.heap[k]? = w.heap[k]?) : Src w' A l := by
  rcases h with h | ⟨g, e, h⟩
  · exact .inl h
  · exact .inr ⟨g, e, h.same (hk g e)⟩
theorem Src.below {w w' : World} {A : Option Addr} {l : List Bool} (h : Src w A l) (hb : Below w.heap.size w w') : Src w' A l := by
  rcases h with h | ⟨g, e, h⟩
  · exact .inl h
  · exact .inr ⟨g, e, h.below hb⟩
theorem Src.lt {w : World} {A : Option Addr} {l : List Bool} (h : Src w A l) {k : Nat} (e : A = some ⟨k, 0, none⟩) : k < w.heap.size := by
  rcases h with ⟨h, _⟩ | ⟨g, e', h⟩
  · rw [h] at e; cases e
  · rw [e'] at e
    simp only [Option.some.injEq, Addr.mk.injEq, and_true] at e
    rw [← e]; exact h.lt
theorem Src.word {w : World} {A : Option Addr} {l : List Bool} (h : Src w A l) {k : Nat} (hk : k < nw l.length) : ∃ g, A = some ⟨g, 0, none⟩ ∧ w.cell? ⟨g, k, none⟩ = some (.int .u64 ((val (chunk l k) : Nat) : Int)) := by
  rcases h with ⟨_, rfl⟩ | ⟨g, e, h⟩
  · simp [nw] at hk
  · exact ⟨g, e, by rw [h.cell k]; exact wds_get _ (words_get l hk)⟩

def encAt (x : Nat) : Array Value := #[.int .i64 (x : Int)]
def preA (l : List Bool) (pre : List Nat) (x : Nat) (_ : World) : Prop := preP l pre x
def allA (l : List Bool) (xs : List Nat) : Prop := xs = idxs 0 l

theorem and_step (x q m : Nat) (hx : x = 2 ^ q * (2 * m + 1)) (hl : x < 18446744073709551616) : bits BinOp.and .u64 (x : Int) ((x - 1 : Nat) : Int) = ((2 ^ (q + 1) * m : Nat) : Int) := by
  rw [bits_and_u64_nat _ _ hl (by omega), ← and_pred, ← hx]

set_option maxHeartbeats 2000000 in
theorem places1_it (l : List Bool) (A : Option Addr) (c bw : Nat) (w0 : World) (hl : l.length ≤ 4096) (hcw : w0.cell? ⟨bw, 0, none⟩ = some (.slice A (nw l.length) c)) (hsrc : Src w0 A l) (ht : Tab w0) :
    It Tryd.prog 48 #[.pointer (some ⟨bw, 0, none⟩)] encAt (fun _ _ => False) (preA l) (fun k => k = bw ∨ A = some ⟨k, 0, none⟩ ∨ k = 0) (allA l) (someP l) w0 := by
  intro l0 J Jx W hpW hsW hJ hJx hY h0
  refine (callsIn_wide (n := 1)).1 ?_
  have hWc : W.cell? ⟨bw, 0, none⟩ = some (.slice A (nw l.length) c) := (World.cell?_of_block (hpW bw (.inl rfl))).trans hcw
  have hWs : Src W A l := hsrc.same fun k hk => hpW k (.inr (.inl hk))
  have hWt : Tab W := ht.same (hpW _ (.inr (.inr rfl)))
  have hn64 : nw l.length ≤ 64 := by unfold nw; omega
  obtain ⟨n, hn⟩ : ∃ n, n = nw l.length := ⟨_, rfl⟩
  rw [← hn] at hWc hn64
  have HN := Lib.hid hn
  clear hn hcw hsrc ht
  refine callsIn_of_wp Tryd.func48 rfl trivial ?_ rfl
  simp only [Tryd.ntmps48, List.size_toArray, List.length_cons, List.length_nil, Nat.reduceAdd, Nat.reduceSub, Array.replicate_succ, Array.replicate_zero, List.push_toArray, List.append_toArray, List.nil_append, List.cons_append]
  gi_wp2_with fail
  gi_loopw [7] (fun t wr => ∃ (k : Nat) (pre : List Nat) (O : Nat → Prop), t = .int .i64 k ∧ k ≤ n ∧ Hid (pre = idxs 0 (l.take (64 * k))) ∧ J pre O wr ∧ W.heap.size ≤ wr.heap.size ∧ (∀ b, O b → W.heap.size ≤ b ∧ b < wr.heap.size) ∧ Src wr A l ∧ Tab wr) (fun t _ => n - (intOf t).toNat)
  case atStart => exact ⟨0, [], fun _ => False, rfl, Nat.zero_le _, Lib.hid (by simp [idxs]), h0, Nat.le_refl _, fun b (h : False) => h.elim, hWs, hWt⟩
  case round =>
    obtain ⟨k, pre, O, rfl, hk, Hpre, hj, hws, hO, hsr, htr⟩ := hrel
    by_cases hlt : k < n
    · obtain ⟨g, rfl, hcell⟩ := hsr.word (by rw [← HN.out]; exact hlt)
      have hkl : 64 * k ≤ l.length := by have := HN.out; unfold nw at this; omega
      have hxl := chunk_lt l k
      obtain ⟨x, hx⟩ : ∃ x, x = val (chunk l k) := ⟨_, rfl⟩
      rw [← hx] at hcell hxl
      have HX : Hid (x = 2 ^ 0 * val ((chunk l k).drop 0)) := Lib.hid (by rw [hx]; simp)
      have HXL := Lib.hid hxl
      clear hx hxl
      gi_wp2_with fail
      gi_loopw [4] (fun t wx => ∃ (j x : Nat) (pre : List Nat) (O : Nat → Prop), t = .int .u64 (x : Int) ∧ Hid (x = 2 ^ j * val ((chunk l k).drop j) ∧ x < 18446744073709551616) ∧ Hid (pre = idxs 0 (l.take (64 * k)) ++ idxs (64 * k) ((chunk l k).take j)) ∧ J pre O wx ∧ W.heap.size ≤ wx.heap.size ∧ (∀ b, O b → W.heap.size ≤ b ∧ b < wx.heap.size) ∧ Src wx (some ⟨g, 0, none⟩) l ∧ Tab wx) (fun t _ => (intOf t).toNat)
      case atStart => exact ⟨0, x, pre, O, rfl, Lib.hid ⟨HX.out, HXL.out⟩, Lib.hid (by rw [Hpre.out]; simp [idxs]), hj, hws, hO, hsr, htr⟩
      case round =>
        obtain ⟨j, y, pre2, O2, rfl, HY, Hpre2, hj2, hws2, hO2, hsr2, htr2⟩ := hrel
        by_cases hy0 : y = 0
        · subst hy0
          gi_wp2
          refine ⟨⟨k + 1, pre2, O2, by go_num, by omega, Lib.hid ?_, hj2, hws2, hO2, hsr2, htr2⟩, by simp [intOf]; omega⟩
          rw [Hpre2.out]
          exact word_last l k j hkl HY.out.1.symm
        · have hne : ((y : Int) != 0) = true := by simp; omega
          obtain ⟨q, hq, hyq, hpp, hnx⟩ := word_pre l k j y hkl HY.out.1 hy0
          have hm := HY.out.2
          have hw1 : IntKind.u64.wrap ((y : Int) - 1) = ((y - 1 : Nat) : Int) := by rw [IntKind.wrap_u64]; omega
          have hand := and_step y q _ hyq hm
          obtain ⟨z, hz⟩ : ∃ z, z = 2 ^ (q + 1) * val ((chunk l k).drop (q + 1)) := ⟨_, rfl⟩
          have hzl : z < y := by
            rw [hz, hyq, Nat.pow_succ, Nat.mul_assoc]
            have : 0 < 2 ^ q := Nat.pow_pos (by omega)
            rw [Nat.mul_add]; omega
          rw [← hz] at hand
          have htz := Lib.hid (fun w (ht : Tab w) => tz_gen y q _ w hyq hm ht)
          obtain ⟨y1, hy1⟩ : ∃ y1, y1 = y - 1 := ⟨_, rfl⟩
          rw [← hy1] at hw1 hand
          have hat := Lib.hid (fun w => at_any k q w (by omega) (by omega))
          obtain ⟨p, hp⟩ : ∃ p, p = 64 * k + q := ⟨_, rfl⟩
          rw [← hp] at hat hnx hpp
          clear hp
          have HZ := Lib.hid hz
          have HZL := Lib.hid hzl
          have HNX := Lib.hid hnx
          have HPP := Lib.hid hpp
          clear hz hzl hnx hpp hyq hy1 hm
          gi_wp2_with fail
          refine ⟨trivial, (callsIn_wide.2 (htz.out _ htr2)).mono ?_⟩
          rintro e w1 ⟨rfl, rfl⟩
          gi_wp2_with fail
          refine ⟨trivial, (callsIn_wide.2 (hat.out _)).mono ?_⟩
          rintro e w1 ⟨rfl, hb1⟩
          obtain ⟨fn, tmps, assign, body, hy, hR⟩ := hY pre2 p O2 w1 (Nat.le_trans hws2 hb1.size) (fun b h => by have := hO2 b h; have := hb1.size; omega) (hJ.below hj2 hb1) (by show preP l pre2 _; rw [Hpre2.out]; exact HPP.out) (fun b (h : False) => h.elim)
          simp only [encAt] at hy
          have hsr3 := hsr2.below hb1
          have htr3 := htr2.below hb1
          have hws3 := Nat.le_trans hws2 hb1.size
          have hO3 : ∀ b, O2 b → W.heap.size ≤ b ∧ b < w1.heap.size := fun b h => by have := hO2 b h; have := hb1.size; omega
          clear hsr2 htr2 hO2 hj2 hws2 hb1 hsr htr hO hj hws
          gi_wp2_with fail
          refine hR.mono ?_
          rintro e W' ⟨hk', (⟨rfl, hj'⟩ | ⟨rfl, hjx⟩)⟩
          · have hsr4 : Src W' (some ⟨g, 0, none⟩) l := hsr3.same fun k hk => hk'.same k (hsr3.lt hk) (.inl (.inr (.inl hk)))
            have htr4 : Tab W' := htr3.same (hk'.same _ htr3.lt (.inl (.inr (.inr rfl))))
            have hO4 := nextO_bound (M := fun _ => False) hO3 hws3 hk'.size
            have hws4 := Nat.le_trans hws3 hk'.size
            clear hsr3 htr3 hO3 hws3 hk'
            gi_wp2
            go_roundw
            case rel => exact ⟨q + 1, z, _, _, rfl, Lib.hid ⟨HZ.out, Nat.lt_trans HZL.out HY.out.2⟩, Lib.hid (by rw [Hpre2.out, HNX.out]), hj', hws4, hO4, hsr4, htr4⟩
            case measure => have := HZL.out; simp [intOf]; omega
          · gi_wp2
            refine bodyPost_ret (results_none rfl _ _ _) rfl ?_
            exact itEnd.part (by rw [Hpre2.out]; exact HPP.out.some) hjx
    · obtain rfl : k = n := by omega
      gi_wp2
      go_end0
      exact itEnd.all (show pre = _ by rw [Hpre.out, List.take_of_length_le (by rw [HN.out]; unfold nw; omega)]) hj
end Go.Proofs.YtbiopegophdgiaaDoor
