import Derived.Test.YtmocdokikcbjeaaRB
namespace Go.Proofs.Ytmocdokikcbjeaa
open Go.RowKit Go.Shelf Go.Maps Go.Sort
attribute [local go_sem] Oper.semAt_some

/- AN OWNER's ROWS; ARE TWO LISTS THE SAME? -/
theorem of_take {l : Tb} {i : Nat} (hi : i < l.length) (o : Int) : ofO (l.take (i + 1)) o = ofO (l.take i) o ++ (if l[i].2.1 == o then [l[i]] else []) := by
  unfold ofO
  rw [List.take_succ_eq_append_getElem hi, List.filter_append]
  congr 1
  cases h : (l[i].2.1 == o) with
  | true => rw [if_pos rfl]; simp [h]
  | false => rw [if_neg (by decide)]; simp [h]
theorem of_len (l : Tb) (i : Nat) (o : Int) : (ofO (l.take i) o).length ≤ i := by
  refine Nat.le_trans (List.length_filter_le _ _) ?_
  rw [List.length_take]
  omega
def OfI (w1 : World) (l : Tb) (o : Int) (s5 s6 : Value) (wr : World) : Prop :=
  ∃ i : Nat, i ≤ l.length ∧ s6 = .int .i64 (i : Int) ∧ wr.ownsRow w1.heap.size 46 4 s5 (ofO (l.take i) o).length ((ofO (l.take i) o).flatMap encR) ∧ Below w1.heap.size w1 wr
theorem ofI_yes {w1 wr w4 : World} {l : Tb} {o : Int} {i m : Nat} {v v' : Value} {xs : List Value} {ob : Obj} (hi : i < l.length) (ho : (l[i].2.1 == o) = true) (hm : m = (ofO (l.take i) o).length) (hxs : xs = (ofO (l.take i) o).flatMap encR) (hb : Below w1.heap.size w1 wr) (hown : wr.ownsRow w1.heap.size 46 4 v m xs)
    (h4 : w4.ownsRow w1.heap.size 46 4 v' (m + 1) (xs ++ encR l[i])) (hg : (wr.alloc ob).grownBy w4 v.ownBlock) : OfI w1 l o v' (.int .i64 ((i : Int) + 1)) w4 := by
  have e := of_take hi o
  rw [if_pos ho] at e
  refine ⟨i + 1, hi, by go_num, ?_, (hb.alloc hb.size ob).grown hg (by rw [World.size_alloc]; have := hb.size; omega) (fun r e => (hown.lt r e).1)⟩
  rw [e, List.length_append, List.flatMap_append, ← hm, ← hxs]
  simpa using h4
theorem ofI_no {w1 wr : World} {l : Tb} {o : Int} {i m : Nat} {v : Value} {xs : List Value} (hi : i < l.length) (ho : (l[i].2.1 == o) = false) (hm : m = (ofO (l.take i) o).length) (hxs : xs = (ofO (l.take i) o).flatMap encR) (hb : Below w1.heap.size w1 wr) (hown : wr.ownsRow w1.heap.size 46 4 v m xs) : OfI w1 l o v (.int .i64 ((i : Int) + 1)) wr := by
  have e := of_take hi o
  rw [if_neg (by rw [ho]; decide), List.append_nil] at e
  exact ⟨i + 1, hi, by go_num, by rw [e, ← hm, ← hxs]; exact hown, hb⟩
set_option maxRecDepth 100000 in
set_option maxHeartbeats 1000000 in
theorem rof_any (l : Tb) (A : Option Addr) (n c : Nat) (o : Int) (w : World) (hl : l.length = n) (hn : n ≤ 65536) (hA : Lies w A l) :
    Calls Try.prog 16 #[.agg #[.slice A n c], .int .i64 o] w (RowsP w (ofO l o)) := by
  obtain ⟨i0, hi0, hz0, hz1, hz2⟩ := info_parts row_info
  obtain ⟨w1, hw1⟩ : ∃ w1, w1 = w.alloc (.cells #[.slice A n c] 29) := ⟨_, rfl⟩
  have hb1 : Below w.heap.size w w1 := hw1 ▸ below1 w _
  have hc0 : w1.cell? ⟨w.heap.size, 0, none⟩ = some (.slice A n c) := by rw [hw1]; exact cell_alloc_new _ _ _ _
  have hs1 : w.heap.size < w1.heap.size := by rw [hw1]; simp
  have HA := Lib.hid (hA.below hb1)
  have HL := Lib.hid hl
  have HB := Lib.hid hb1
  have HM := Lib.hid hn
  have HST : Hid (OfI w1 l o (.slice none 0 0) (.int .i64 0) (w.alloc (.cells #[.slice A n c] 29))) := Lib.hid ⟨0, Nat.zero_le _, rfl, World.ownsRow_nil _ _ _ _, hw1 ▸ Below.refl _ _⟩
  clear hb1 hw1 hA hl hn
  go_enter Try.func16, Try.ntmps16
  go_wp2_with fail
  go_loopw [5, 6] (fun s5 s6 wr => OfI w1 l o s5 s6 wr) (fun _ s6 _ => n - (_root_.Go.RowKit.intOf s6).toNat)
  case atStart => exact HST.out
  case round =>
    obtain ⟨i, hi, rfl, hown, hb⟩ := hrel
    have hnn := HM.out
    rw [HL.out] at hi
    have hx0 := (hb.cell (p := ⟨w.heap.size, 0, none⟩) hs1).trans hc0
    have hm0 := of_len l i o
    obtain ⟨m, hm⟩ : ∃ m, m = (ofO (l.take i) o).length := ⟨_, rfl⟩
    obtain ⟨xs, hxs⟩ : ∃ xs, xs = (ofO (l.take i) o).flatMap encR := ⟨_, rfl⟩
    rw [← hm] at hm0 hown
    rw [← hxs] at hown
    by_cases hlt : i < n
    · have hil : i < l.length := by rw [HL.out]; exact hlt
      obtain ⟨ad, rfl, hrow⟩ := (HA.out.below hb).at_ i hil
      have k0 := hrow.c0
      have k1 := hrow.c1
      have k2 := hrow.c2
      have k3 := hrow.c3
      have j0 : (0 : Int) ≤ (i : Int) := by omega
      have j1 : (i : Int) < (n : Int) := by omega
      have j2 : decide ((i : Int) < (n : Int)) = true := decide_eq_true j1
      have i3 : i < 65536 := by omega
      have HNO := Lib.hid (fun (h : (l[i].2.1 == o) = false) => ofI_no hil h hm hxs hb hown)
      have HYES := Lib.hid (fun (h : (l[i].2.1 == o) = true) w4 v' ob h4 hg => ofI_yes (w4 := w4) (v' := v') (ob := ob) hil h hm hxs hb hown h4 hg)
      have hbs := Lib.hid hb.size
      cases hq : (l[i].2.1 == o) with
      | false =>
        have HN := Lib.hid (HNO.out hq)
        obtain ⟨r, hr⟩ : ∃ r, r = l[i] := ⟨_, rfl⟩
        rw [← hr] at k0 k1 k2 k3 hq
        clear HNO HYES hr hrow hm hxs hb hnn hown
        go_wp2_with fail
        go_roundw
        case rel => exact HN.out
        case measure => simp [_root_.Go.RowKit.intOf]; omega
      | true =>
        have HY := Lib.hid (HYES.out hq)
        obtain ⟨r, hr⟩ : ∃ r, r = l[i] := ⟨_, rfl⟩
        rw [← hr] at k0 k1 k2 k3 hq HY
        clear HNO HYES hr hrow hm hxs hb hnn
        obtain ⟨r0, r1, r2, r3⟩ := r
        simp only at k0 k1 k2 k3 hq HY
        obtain ⟨Av, cv, rfl⟩ := own_slice hown
        have hown1 := hown.alloc (.cells #[.int .i64 r0, .int .i64 r1, .int .i64 r2, .int .i64 r3] 46)
        go_wp2_with (at_builtin; refine wpList_append_sees rfl (.tmp 23) (.tmp 29) 27 rfl w1.heap.size 46 i0 _ 4 32 Try.underlying27 hi0 hz0 hz1 hz2 rfl (by decide) _ m xs rfl hown1 (wr.heap.size + 1) (some ⟨wr.heap.size, 0, none⟩) 1 1 (encR (r0, r1, r2, r3)) rfl rfl (fun _ => ⟨_, rfl, by simp, cells_row_new wr (encR (r0, r1, r2, r3)) 46⟩) (by simp [encR, Value.oneCell']) (by unfold maxLen; omega) (by omega) (by have := hbs.out; simp; omega) ?_; intro v' w4 hown4 hg4 hv4; obtain ⟨Av4, cv4, rfl⟩ := own_slice hown4; have HZ := Lib.hid (HY.out w4 _ _ hown4 hg4); clear hown4 hg4 hv4)
        go_roundw
        case rel => exact HZ.out
        case measure => simp [_root_.Go.RowKit.intOf]; omega
    · obtain rfl : i = n := by omega
      have he : l.take i = l := List.take_of_length_le (by rw [HL.out]; exact Nat.le_refl _)
      rw [he] at hm hxs
      subst hxs
      subst hm
      obtain ⟨Av, cv, rfl⟩ := own_slice hown
      have HF := Lib.hid (show RowsP w (ofO l o) (.returned (.slice Av (ofO l o).length cv)) wr from ⟨Av, cv, rfl, own_mono hown HB.out.size, below0 HB.out hb⟩)
      clear hown hb hm0 hnn he
      go_wp2
      go_ret
      exact HF.out
set_option maxHeartbeats 1000000 in
theorem rsame_any (a b : Tb) (A B : Option Addr) (c d n m : Nat) (w : World) (ha : a.length = n) (hb : b.length = m) (hn : n ≤ 4611686018427387904) (hA : Lies w A a) (hB : Lies w B b) :
    Calls Try.prog 15 #[.slice A n c, .slice B m d] w fun e w' => e = .returned (.bool (decide (a = b))) ∧ ∃ q, w' = w.drewN q := by
  by_cases hnm : n = m
  · subst hnm
    have hd : ((n : Int) != (n : Int)) = false := by simp
    have HA := Lib.hid hA
    have HB := Lib.hid hB
    have HLA := Lib.hid ha
    have HLB := Lib.hid hb
    have HE : Hid (∀ k (h1 : k < a.length) (h2 : k < b.length), a[k] ≠ b[k] → decide (a = b) = false) := Lib.hid (fun k h1 h2 h => decide_eq_false (fun e => h (by subst e; rfl)))
    have HT : Hid ((∀ k (h1 : k < a.length) (h2 : k < b.length), a[k] = b[k]) → decide (a = b) = true) := Lib.hid (fun h => decide_eq_true (List.ext_getElem (ha.trans hb.symm) h))
    obtain ⟨D, hD⟩ : ∃ D, D = decide (a = b) := ⟨_, rfl⟩
    rw [← hD] at HE HT ⊢
    clear hD hA hB ha hb
    go_enter Try.func15, Try.ntmps15
    go_wp2_with fail
    go_loopw [5] (fun s5 wr => ∃ k : Nat, k ≤ n ∧ s5 = .int .i64 (k : Int) ∧ Hid (∀ j (h1 : j < a.length) (h2 : j < b.length), j < k → a[j] = b[j]) ∧ ∃ q, wr = w.drewN q) (fun s5 _ => n - (_root_.Go.RowKit.intOf s5).toNat)
    case atStart => exact ⟨0, Nat.zero_le _, rfl, Lib.hid (fun j _ _ h => absurd h (by omega)), 0, rfl⟩
    case round =>
      obtain ⟨k, hk, rfl, HI, q, rfl⟩ := hrel
      by_cases hlt : k < n
      · have h1 : k < a.length := by rw [HLA.out]; exact hlt
        have h2 : k < b.length := by rw [HLB.out]; exact hlt
        obtain ⟨ad, rfl, ra⟩ := HA.out.at_ k h1
        obtain ⟨bd, rfl, rb⟩ := HB.out.at_ k h2
        have a0 := ra.c0
        have a1 := ra.c1
        have a2 := ra.c2
        have a3 := ra.c3
        have b0 := rb.c0
        have b1 := rb.c1
        have b2 := rb.c2
        have b3 := rb.c3
        have j0 : (0 : Int) ≤ (k : Int) := by omega
        have j1 : (k : Int) < (n : Int) := by omega
        have j2 : decide ((k : Int) < (n : Int)) = true := decide_eq_true j1
        have j3 : decide (k < n) = true := decide_eq_true hlt
        by_cases he : a[k] = b[k]
        · rw [← he] at b0 b1 b2 b3
          have HI2 : Hid (∀ j (h1 : j < a.length) (h2 : j < b.length), j < k + 1 → a[j] = b[j]) := Lib.hid (fun j h1 h2 h => by
            by_cases e : j < k
            · exact HI.out j h1 h2 e
            · obtain rfl : j = k := by omega
              exact he)
          obtain ⟨r, hr⟩ : ∃ r, r = a[k] := ⟨_, rfl⟩
          rw [← hr] at a0 a1 a2 a3 b0 b1 b2 b3
          clear he hr HI ra rb
          go_wp2_with fail
          go_quiet (fail)
          go_wp2_with fail
          go_roundw
          case rel => exact ⟨k + 1, by omega, by go_num, HI2, _, rfl⟩
          case measure => simp [_root_.Go.RowKit.intOf]; omega
        · have HF := Lib.hid (HE.out k h1 h2 he)
          obtain ⟨r, hr⟩ : ∃ r, r = a[k] := ⟨_, rfl⟩
          obtain ⟨s, hs⟩ : ∃ s, s = b[k] := ⟨_, rfl⟩
          rw [← hr] at a0 a1 a2 a3 he
          rw [← hs] at b0 b1 b2 b3 he
          clear hr hs HI ra rb
          obtain ⟨r0, r1, r2, r3⟩ := r
          obtain ⟨s0, s1, s2, s3⟩ := s
          simp only at a0 a1 a2 a3 b0 b1 b2 b3
          by_cases e0 : r0 = s0
          · subst e0
            by_cases e1 : r1 = s1
            · subst e1
              by_cases e2 : r2 = s2
              · subst e2
                have e3 : (r3 == s3) = false := beq_eq_false_iff_ne.2 (fun e => he (by rw [e]))
                clear he
                go_wp2_with fail
                go_quiet (fail)
                go_wp2_with fail
                go_ret
                exact ⟨by rw [HF.out]; rfl, _, World.drewN_drewN _ _ _⟩
              · have e3 : (r2 == s2) = false := beq_eq_false_iff_ne.2 e2
                clear he e2
                go_wp2_with fail
                go_quiet (fail)
                go_wp2_with fail
                go_ret
                exact ⟨by rw [HF.out]; rfl, _, World.drewN_drewN _ _ _⟩
            · have e3 : (r1 == s1) = false := beq_eq_false_iff_ne.2 e1
              clear he e1
              go_wp2_with fail
              go_quiet (fail)
              go_wp2_with fail
              go_ret
              exact ⟨by rw [HF.out]; rfl, _, World.drewN_drewN _ _ _⟩
          · have e3 : (r0 == s0) = false := beq_eq_false_iff_ne.2 e0
            clear he e0
            go_wp2_with fail
            go_quiet (fail)
            go_wp2_with fail
            go_ret
            exact ⟨by rw [HF.out]; rfl, _, World.drewN_drewN _ _ _⟩
      · obtain rfl : k = n := by omega
        have HF := Lib.hid (HT.out (fun j h1 h2 => HI.out j h1 h2 (by rw [← HLA.out]; exact h1)))
        clear HI
        go_wp2_with fail
        go_ret
        exact ⟨by rw [HF.out]; rfl, _, rfl⟩
  · have hd : ((n : Int) != (m : Int)) = true := by
      simp
      omega
    have HF := Lib.hid (show decide (a = b) = false from decide_eq_false (fun e => hnm (by rw [← ha, ← hb, e])))
    clear hnm
    go_enter Try.func15, Try.ntmps15
    go_wp2_with fail
    go_ret
    exact ⟨by rw [HF.out]; rfl, 0, rfl⟩
end Go.Proofs.Ytmocdokikcbjeaa
