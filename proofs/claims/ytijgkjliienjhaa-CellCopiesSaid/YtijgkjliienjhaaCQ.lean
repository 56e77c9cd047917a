import Derived.Test.YtijgkjliienjhaaCP
import Derived.Test.YtijgkjliienjhaaCL
namespace Go.Proofs.Ytijgkjliienjhaa
open Go.RowKit Go.Shelf
attribute [local go_sem] Oper.semAt_some

/- DO CELLS STAND AS THE DOCUMENT's? -/
theorem sees_rows {w : World} {base n c : Nat} {A : Option Addr} {e : TypeId} {xs : List Value} (h : w.ownsRow base e 2 (.slice A n c) n xs) : Sees w w.heap.size A xs := fun hn => by
  have hl := h.1
  have h0 : 0 < n := by
    rcases Nat.eq_zero_or_pos n with rfl | h0
    · exact absurd (List.eq_nil_of_length_eq_zero (by simpa using hl)) hn
    · exact h0
  obtain ⟨g, cap, hv, _, hlt⟩ := h.form h0
  have hA : A = some ⟨g, 0, none⟩ := by injection hv
  subst hA
  exact ⟨_, rfl, hlt, h.cells (g := g) rfl⟩
/-- the two lists of those that are not zero, and whether they are the same -/
def RowsS (w : World) (xs : List (Nat × Nat)) (e : Ending) (w' : World) : Prop := ∃ A c, e = .returned (.slice A xs.length c) ∧ xs.length ≤ c ∧ Sees w' w'.heap.size A (xs.flatMap encR) ∧ Below w.heap.size w w'
theorem rows_s {w w' : World} {xs : List (Nat × Nat)} {e : Ending} (h : RowsP w xs e w') : RowsS w xs e w' := by
  obtain ⟨A, c, h1, h2, h3⟩ := h
  refine ⟨A, c, h1, ?_, sees_rows h2, h3⟩
  obtain ⟨_, ⟨hv, h0⟩ | ⟨g, cap, cur, hv, _, _, hnc, _⟩⟩ := h2
  · omega
  · injection hv with _ _ h
    omega
theorem nz_words_len (l : Cs) (h : l.length ≤ 1024) : (nz (wordsOf l)).length ≤ 1024 := by
  have := nzTo_len (wordsOf l) (wordsOf l).length
  rw [wordsOf_len] at this
  unfold nz
  rw [wordsOf_len]
  omega
set_option maxRecDepth 100000 in
set_option maxHeartbeats 4000000 in
theorem is_any (b g gv c : Nat) (l : Cs) (v : Value) (W : World) (h : Rep W b g c l) (hv : Wt W v gv l) (hmost : l.length ≤ 1024) :
    Calls Try.prog 19 #[bx b, v] W fun e w' => e = .returned (.bool true) ∧ Below W.heap.size W w' := by
  obtain ⟨cv, rfl, hlst⟩ := hv
  have HL1 := Lib.hid (fun k (hk : k < l.length) => load_in b g c k l W h hk)
  have HC1 := Lib.hid (fun k (hk : k < l.length) => count_in b g c k l W h hk)
  have HW0 := Lib.hid (fun k (hk : k < l.length) => hlst.c0 hk)
  have HW1 := Lib.hid (fun k (hk : k < l.length) => hlst.c1 hk)
  have hn := Lib.hid (fun n w => num_any n w)
  have HLN := Lib.hid (len_at b g c l W h)
  have HZ := nz_words_len l hmost
  have HALL := Lib.hid (show Calls Try.prog 15 #[bx b, .int .i64 2000] W (RowsS W (nz (wordsOf l))) from by
    have := all_rep b g c l W h hmost 2000 (by omega) (by omega)
    rw [List.take_of_length_le (by omega)] at this
    exact this.mono fun _ _ h => rows_s h)
  have HROWS := Lib.hid (fun V (hb : Below W.heap.size W V) => (rrows_any gv cv l.length l V rfl hmost (hlst.below hb)).mono fun _ _ h => rows_s h)
  obtain ⟨N, hN⟩ : ∃ N, N = l.length := ⟨_, rfl⟩
  have HNN := Lib.hid hN
  obtain ⟨xs, hxs⟩ : ∃ xs, xs = nz (wordsOf l) := ⟨_, rfl⟩
  rw [← hxs] at HALL HROWS HZ
  obtain ⟨q, hq⟩ : ∃ q, q = xs.length := ⟨_, rfl⟩
  have HQ := Lib.hid hq
  rw [← hN] at HLN HROWS hmost ⊢
  rw [← hq] at HZ
  have HS := Lib.hid (fun A A' c c' V h1 h2 => lsame_any xs xs A A' c c' q q V hq.symm hq.symm (by omega) h1 h2)
  rw [show (decide (xs = xs)) = true by simp] at HS
  unfold RowsS at HALL HROWS
  rw [← hq] at HALL HROWS
  clear h hlst hN hxs hq
  go_enter Try.func19, Try.ntmps19
  go_wp2_with fail
  go_loopw [5] (fun t wr => ∃ i : Nat, t = .int .i64 (i : Int) ∧ i ≤ N ∧ wr = W) (fun t _ => N - (_root_.Go.RowKit.intOf t).toNat)
  case atStart => exact ⟨0, rfl, Nat.zero_le _, rfl⟩
  case round =>
    obtain ⟨i, rfl, hi, rfl⟩ := hrel
    by_cases hlt : i < N
    · have hil : i < l.length := by rw [← HNN.out]; exact hlt
      have i0 : (0 : Int) ≤ (i : Int) := by omega
      have i1 : (i : Int) < (N : Int) := by omega
      have i2 : decide ((i : Int) < (N : Int)) = true := decide_eq_true i1
      have hl1 := Lib.hid (HL1.out i hil)
      have hc1 := Lib.hid (HC1.out i hil)
      have d0 := HW0.out i hil
      have d1 := HW1.out i hil
      generalize hx : (l[i]'hil).1 = x at hl1 d0
      generalize hy : (l[i]'hil).2 = y at hc1 d1
      have e1 : ((x : Int) != (x : Int)) = false := by simp
      have e2 : ((y : Int) != (y : Int)) = false := by simp
      clear hx hy
      go_wp2_with fail
      refine hl1.out.mono ?_
      rintro e v0 ⟨rfl, rfl⟩
      go_wp2_with fail
      refine hc1.out.mono ?_
      rintro e v1 ⟨rfl, rfl⟩
      go_wp2_with fail
      refine (hn.out _ _).mono ?_
      rintro e v2 ⟨rfl, rfl⟩
      go_wp2_with fail
      refine (hn.out _ _).mono ?_
      rintro e v3 ⟨rfl, rfl⟩
      go_wp2_with fail
      go_roundw
      case rel => exact ⟨i + 1, by go_num, by omega, trivial⟩
      case measure => simp [_root_.Go.RowKit.intOf]; omega
    · obtain rfl : i = N := by omega
      have i2 : decide ((i : Int) < (i : Int)) = false := decide_eq_false (by omega)
      have e1 : ((i : Int) == (i : Int)) = true := by simp
      go_wp2_with fail
      refine HLN.out.mono ?_
      rintro e v0 ⟨rfl, rfl⟩
      go_wp2_with fail
      refine HALL.out.mono ?_
      rintro e v1 ⟨A1, c1, rfl, _, hs1, hb1⟩
      have HS1 := Lib.hid hs1
      have HB1 := Lib.hid hb1
      clear hs1 hb1
      go_wp2_with fail
      refine (HROWS.out _ HB1.out).mono ?_
      rintro e v2 ⟨A2, c2, rfl, _, hs2, hb2⟩
      have HB2 := Lib.hid (below0 HB1.out hb2)
      have HS3 := Lib.hid (HS.out A1 A2 c1 c2 v2 ((HS1.out.below hb2).more hb2.size) hs2)
      clear hs2 hb2
      go_wp2_with fail
      refine HS3.out.mono ?_
      rintro e v3 ⟨rfl, p, rfl⟩
      go_wp2_with fail
      go_ret
      exact ⟨rfl, below_drewN HB2.out _⟩
end Go.Proofs.Ytijgkjliienjhaa
