import Derived.Test.YtglfcfepgjldfaaNF
import Derived.Test.YtglfcfepgjldfaaRangeBox
namespace Go.Proofs.Ytglfcfepgjldfaa.Fe
open Go.RowKit Go.Shelf
attribute [local go_sem] Oper.semAt_some

/- PICKS, AS LONG AS BYTES ARE LEFT: AN ITERATOR THAT WRITES THE FEED's PLACE AS IT GOES. -/
def atOf (b : Nat) (w : World) : Nat := match w.cell? ⟨b, 1, none⟩ with
  | some v => (_root_.Go.RowKit.intOf v).toNat
  | none => 0
theorem atOf_rep {w : World} {b g p : Nat} {l : List UInt8} (h : FRep w b g l p) : atOf b w = p := by
  unfold atOf
  rw [h.c1]
  simp [_root_.Go.RowKit.intOf]
theorem pickL_snoc (l : List UInt8) (p n k : Nat) : pickL l p n (k + 1) = pickL l p n k ++ [pickN l (p + k) n] := by simp [pickL, List.range_succ]
theorem keep_grown {b : Nat} {V V' : World} (h : Keep (· = b) V V') : V.grownBy V' (some b) := ⟨h.os, h.tape, h.output, h.size, fun k hk hn => h.block k hk (fun e => hn (by rw [e]))⟩
def privR (s2 s3 b g k : Nat) : Prop := k = s2 ∨ k = s3 ∨ k = b ∨ k = g
def fe2 (b g k : Nat) : Prop := k = b ∨ k = g
theorem pa_next {b g p n : Nat} {l : List UInt8} {xs : List Nat} {V : World} (h : xs = pickL l p n xs.length) (hlt : xs.length < l.length - p) (h1 : 1 ≤ n) (h2 : n ≤ 256) (hV : FRep V b g l (p + xs.length + 1)) :
    PA HasF (pb b) l p (n : Int) (fe2 b g) (xs ++ [pickN l (p + xs.length) n]) V := by
  refine ⟨?_, ?_, ?_⟩
  · rw [cnt, if_pos (show okN (n : Int) from ⟨by omega, by omega⟩), List.length_append, List.length_singleton]
    omega
  · rw [Int.toNat_natCast, List.length_append, List.length_singleton, pickL_snoc, ← h]
  · rw [List.length_append, List.length_singleton]
    exact ⟨b, g, rfl, hV, rfl⟩
set_option maxHeartbeats 2000000 in
theorem rest1_it {w0 : World} {b g p : Nat} {l : List UInt8} (h : FRep w0 b g l p) (n s2 s3 : Nat) (h1 : 1 ≤ n) (h2 : n ≤ 256) (hc2 : w0.cell? ⟨s2, 0, none⟩ = some (pb b)) (hc3 : w0.cell? ⟨s3, 0, none⟩ = some (.int .i64 (n : Int))) (hn2 : s2 ≠ b) (hn3 : s3 ≠ b) :
    ItW Try.prog 48 #[pb s2, pb s3] encI (fun _ _ => False) (fun _ _ _ => True) (privR s2 s3 b g) (fe2 b g) (fun xs W => PA HasF (pb b) l p (n : Int) (fe2 b g) xs W ∧ xs.length = cnt l p (n : Int)) (PA HasF (pb b) l p (n : Int) (fe2 b g)) w0 := by
  intro l0 J Jx W hpW hsW hJ hJx hY h0
  have hW : FRep W b g l p := h.same (hpW b (.inr (.inr (.inl rfl)))) (hpW g (.inr (.inr (.inr rfl))))
  have hW2 : W.cell? ⟨s2, 0, none⟩ = some (pb b) := (World.cell?_of_block (hpW s2 (.inl rfl))).trans hc2
  have hW3 : W.cell? ⟨s3, 0, none⟩ = some (.int .i64 (n : Int)) := (World.cell?_of_block (hpW s3 (.inr (.inl rfl)))).trans hc3
  have hmo := h.most
  have hle := h.le
  have hpl : ∀ k, privR s2 s3 b g k → k < W.heap.size := by
    rintro k (rfl | rfl | rfl | rfl)
    · exact lt_of_cell hW2
    · exact lt_of_cell hW3
    · exact hW.obj.lt
    · exact hW.row.lt
  refine (callsIn_wide (n := 1)).1 ?_
  refine callsIn_of_wp Try.func48 rfl trivial ?_ rfl
  simp only [Try.ntmps48, List.size_toArray, List.length_cons, List.length_nil, Nat.reduceAdd, Nat.reduceSub, Array.replicate_succ, Array.replicate_zero, List.push_toArray, List.append_toArray, List.nil_append, List.cons_append]
  gi_wp2_with fail
  gi_loopw [4] (fun _ wr => ∃ (pre : List Nat) (O : Nat → Prop), Hid (pre = pickL l p n pre.length) ∧ pre.length ≤ l.length - p ∧ J pre O wr ∧ (∀ b, O b → W.heap.size ≤ b ∧ b < wr.heap.size) ∧ W.heap.size ≤ wr.heap.size ∧
    Hid (FRep wr b g l (p + pre.length)) ∧ wr.cell? ⟨s2, 0, none⟩ = some (pb b) ∧ wr.cell? ⟨s3, 0, none⟩ = some (.int .i64 (n : Int))) (fun _ wr => l.length - atOf b wr)
  case atStart => exact ⟨[], fun _ => False, Lib.hid rfl, Nat.zero_le _, h0, fun _ h => h.elim, Nat.le_refl _, Lib.hid hW, hW2, hW3⟩
  case round =>
    obtain ⟨pre, O, Hpre, hlen, hj, hO, hws, HV, hb2, hb3⟩ := hrel
    have HL := Lib.hid (left_any HV.out)
    obtain ⟨A, hA⟩ : ∃ A, A = adr g (p + pre.length) l.length := ⟨_, rfl⟩
    obtain ⟨m, hm⟩ : ∃ m, m = l.length - (p + pre.length) := ⟨_, rfl⟩
    rw [← hA, ← hm] at HL
    have Hm := Lib.hid hm
    have HLL := Lib.hid (And.intro hlen (And.intro hmo hle))
    clear hA hm hmo hle hlen
    by_cases h0m : m = 0
    · have d0 : decide ((0 : Int) < (m : Int)) = false := decide_eq_false (by omega)
      have dn : ¬ 0 < m := by omega
      clear h0m
      gi_wp2_with fail
      refine ⟨trivial, (callsIn_wide.2 HL.out).mono ?_⟩
      rintro e w1 ⟨rfl, hb⟩
      have HJ1 := Lib.hid (hJ _ _ _ _ none hj (⟨hb.os, hb.tape, hb.output, hb.size, fun k hk _ => hb.block k hk⟩) (fun r e => by cases e))
      have HV1 := Lib.hid (HV.out.below hb)
      clear hb HL
      gi_wp2_with fail
      refine ⟨trivial, ?_⟩
      gi_wp2_with fail
      refine ⟨(fun _ h => nomatch h), ?_⟩
      gi_wp2_with fail
      go_end0
      have hm := Hm.out
      obtain ⟨hlen, hmo, hle⟩ := HLL.out
      have hk : pre.length = cnt l p (n : Int) := by rw [cnt, if_pos (show okN (n : Int) from ⟨by omega, by omega⟩)]; have d := of_decide_eq_false d0; omega
      exact itEndW.all ⟨⟨by omega, by rw [Int.toNat_natCast]; exact Hpre.out, ⟨b, g, rfl, HV1.out, rfl⟩⟩, hk⟩ HJ1.out
    · have d0 : decide ((0 : Int) < (m : Int)) = true := decide_eq_true (by omega)
      have dn : 0 < m := by omega
      clear h0m
      gi_wp2_with fail
      refine ⟨trivial, (callsIn_wide.2 HL.out).mono ?_⟩
      rintro e w1 ⟨rfl, hb⟩
      have HP := Lib.hid (pick_any (HV.out.below hb) n h1 h2)
      have hb21 : w1.cell? ⟨s2, 0, none⟩ = some (pb b) := (hb.cell (p := ⟨s2, 0, none⟩) (lt_of_cell hb2)).trans hb2
      have hb31 : w1.cell? ⟨s3, 0, none⟩ = some (.int .i64 (n : Int)) := (hb.cell (p := ⟨s3, 0, none⟩) (lt_of_cell hb3)).trans hb3
      have hj1 := hJ _ _ _ _ none hj (⟨hb.os, hb.tape, hb.output, hb.size, fun k hk _ => hb.block k hk⟩) (fun r e => by cases e)
      have hO1 : ∀ b, O b → W.heap.size ≤ b ∧ b < w1.heap.size := fun k hk => by have := hO k hk; have := hb.size; omega
      have hws1 := Nat.le_trans hws hb.size
      have HA1 := Lib.hid (atOf_rep HV.out)
      obtain ⟨x, hx⟩ : ∃ x, x = pickN l (p + pre.length) n := ⟨_, rfl⟩
      rw [← hx] at HP
      have HX := Lib.hid hx
      clear hb HL hj hO hws hx hb2 hb3
      gi_wp2_with fail
      refine ⟨trivial, (callsIn_wide.2 HP.out).mono ?_⟩
      rintro e w2 ⟨rfl, hV2, hk2⟩
      have hle2 := HLL.out
      have hlt : pre.length < l.length - p := by have hm := Hm.out; have d := of_decide_eq_true d0; omega
      have hV2 : FRep w2 b g l (p + pre.length + 1) := by
        have e : pickP l (p + pre.length) = p + pre.length + 1 := by unfold pickP; omega
        rwa [e] at hV2
      have hb22 : w2.cell? ⟨s2, 0, none⟩ = some (pb b) := (hk2.cell (p := ⟨s2, 0, none⟩) (lt_of_cell hb21) hn2).trans hb21
      have hb32 : w2.cell? ⟨s3, 0, none⟩ = some (.int .i64 (n : Int)) := (hk2.cell (p := ⟨s3, 0, none⟩) (lt_of_cell hb31) hn3).trans hb31
      have hj2 := hJ _ _ _ _ (some b) hj1 (keep_grown hk2) (fun r e => by cases e; exact .inr (.inl rfl))
      have hO2 : ∀ b, O b → W.heap.size ≤ b ∧ b < w2.heap.size := fun k hk => by have := hO1 k hk; have := hk2.size; omega
      have hws2 := Nat.le_trans hws1 hk2.size
      obtain ⟨fn, tmps, assign, body, hy, hR⟩ := hY pre x O w2 hws2 hO2 hj2 trivial (fun b (h : False) => h.elim)
      simp only [encI] at hy
      have HPA : Hid (∀ W', Keeps (privR s2 s3 b g) W.heap.size O (fun _ => False) w2 W' → PA HasF (pb b) l p (n : Int) (fe2 b g) (pre ++ [x]) W' ∧ FRep W' b g l (p + (pre ++ [x]).length) ∧ W'.cell? ⟨s2, 0, none⟩ = some (pb b) ∧ W'.cell? ⟨s3, 0, none⟩ = some (.int .i64 (n : Int)) ∧ (pre ++ [x]) = pickL l p n (pre ++ [x]).length ∧ (pre ++ [x]).length ≤ l.length - p ∧ l.length - atOf b W' < l.length - (p + pre.length)) := Lib.hid (fun W' hk => by
        have hV' : FRep W' b g l (p + pre.length + 1) := hV2.same (hk.same b hV2.obj.lt (.inl (.inr (.inr (.inl rfl))))) (hk.same g hV2.row.lt (.inl (.inr (.inr (.inr rfl)))))
        have e := HX.out
        have hp := pa_next Hpre.out hlt h1 h2 hV'
        rw [← e] at hp
        refine ⟨hp, ?_, (World.cell?_of_block (hk.same s2 (lt_of_cell hb22) (.inl (.inl rfl)))).trans hb22, (World.cell?_of_block (hk.same s3 (lt_of_cell hb32) (.inl (.inr (.inl rfl))))).trans hb32, ?_, ?_, ?_⟩
        · rw [List.length_append, List.length_singleton]
          exact hV'
        · have := hp.2.1
          rwa [Int.toNat_natCast] at this
        · rw [List.length_append, List.length_singleton]
          omega
        · rw [atOf_rep hV']
          omega)
      clear hj1 hO1 hws1 hb21 hb31 hk2 hj2 HP
      gi_wp2_with fail
      refine hR.mono ?_
      rintro e W' ⟨hk', (⟨rfl, hj'⟩ | ⟨rfl, hjx⟩)⟩
      · obtain ⟨q1, q2, q3, q4, q5, q6, q7⟩ := HPA.out W' hk'
        have hO' := nextO_bound (M := fun _ => False) hO2 hws2 hk'.size
        have hfin := Lib.hid (show (∃ (pre : List Nat) (O : Nat → Prop), Hid (pre = pickL l p n pre.length) ∧ pre.length ≤ l.length - p ∧ J pre O W' ∧ (∀ b, O b → W.heap.size ≤ b ∧ b < W'.heap.size) ∧ W.heap.size ≤ W'.heap.size ∧
            Hid (FRep W' b g l (p + pre.length)) ∧ W'.cell? ⟨s2, 0, none⟩ = some (pb b) ∧ W'.cell? ⟨s3, 0, none⟩ = some (.int .i64 (n : Int))) ∧ l.length - atOf b W' < l.length - atOf b wr from
          ⟨⟨_, _, Lib.hid q5, q6, hj', hO', Nat.le_trans hws2 hk'.size, Lib.hid q2, q3, q4⟩, by rw [HA1.out]; exact q7⟩)
        clear q1 q2 q3 q4 q5 q6 q7 hO' hj' hk' hO2 hws2 hb22 hb32 hV2
        gi_wp2_with fail
        exact hfin.out
      · obtain ⟨q1, -⟩ := HPA.out W' hk'
        have hfin := Lib.hid (itEndW.part (S := fun xs W => PA HasF (pb b) l p (n : Int) (fe2 b g) xs W ∧ xs.length = cnt l p (n : Int)) (J := J) (v := .tuple #[]) q1 hjx)
        gi_wp2
        go_end0
        exact hfin.out
end Go.Proofs.Ytglfcfepgjldfaa.Fe
