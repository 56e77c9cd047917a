import Derived.Test.YtmbjjbgpcacoeaaGreatRZ
import Derived.Test.YtmbjjbgpcacoeaaGreatRJ
import Derived.Test.YtmbjjbgpcacoeaaGreatRK
namespace Go.Proofs.YtmbjjbgpcacoeaaGreat
open Go.RowKit Go.Shelf Go.Maps Go.Sort
attribute [local go_sem] Oper.semAt_some

/- DOES A POOL STAND AS THE DOCUMENT's? -/
theorem sees_any {w : World} {base size n c : Nat} {A : Option Addr} {e : TypeId} {xs : List Value} (h : w.ownsRow base e size (.slice A n c) n xs) : Sees w w.heap.size A xs := fun hn => by
  have hl := h.1
  have h0 : 0 < n := by
    rcases Nat.eq_zero_or_pos n with rfl | h0
    · exact absurd (List.eq_nil_of_length_eq_zero (by simpa using hl)) hn
    · exact h0
  obtain ⟨g, cap, hv, _, hlt⟩ := h.form h0
  have hA : A = some ⟨g, 0, none⟩ := by injection hv
  subst hA
  exact ⟨_, rfl, hlt, h.cells (g := g) rfl⟩
/-- a load of many cells behind a guard -/
theorem wpList_load_midG {P : Program} {ops : Array Oper} {rest : List Oper} {op : Oper} {a : Act} {w : World} {Q : Exit → Act → World → Prop} (hw : Region.wanted op (yielded ops a.tmps) = true) (ty : TypeId) (x : Operand) (ho : op.op = .load ty x)
    (b o : Nat) (hx : a.eval x = .pointer (some ⟨b, o, none⟩)) (cs : List Value) (d : TypeDesc) (hc : w.rangeAt b o cs)
    (hu : P.underlying ty = some d) (hd : d.isRow = true) (hi : (P.info? ty).map (·.size) = some cs.length)
    (h : wpList P ops Q rest (a.put op.dst (.agg cs.toArray)) w) : wpList P ops Q (op :: rest) a w :=
  wpList_step fun K hK => by
    rw [if_pos hw]
    exact wp_load_mid ty x ho b o hx cs d hc hu hd hi (hK _ _ h)
/-- a frame that one asks for: somebody's, or none -/
theorem is_case (p : Pl) (z : Int) : (∃ (k o : Nat) (bs : List UInt8), z = k ∧ k < p.fr.length ∧ p.fr[k]? = some (some (o, bs)) ∧ ownAt (owns p.fr) z = some o ∧ ownN (owns p.fr) z = o ∧ reachE p z 0 256 = 0) ∨ (ownAt (owns p.fr) z = none ∧ ownN (owns p.fr) z = 0 ∧ reachE p z 0 256 ≠ 0) := by
  have hh : holdsB 0 256 = true := by decide
  by_cases h : 0 ≤ z ∧ z.toNat < p.fr.length
  · obtain ⟨k, rfl⟩ : ∃ k : Nat, z = k := ⟨z.toNat, by omega⟩
    have hk : k < p.fr.length := by omega
    have hf : frameB p (k : Int) = true := by
      simp only [frameB, Bool.and_eq_true, decide_eq_true_eq]
      omega
    have hg : p.fr[k]? = some p.fr[k] := List.getElem?_eq_getElem hk
    rcases hx : p.fr[k] with _ | ⟨o, bs⟩
    · rw [hx] at hg
      have h1 : ownAt (owns p.fr) (k : Int) = none := by
        unfold ownAt
        rw [if_neg (by omega), owns_get, Int.toNat_natCast, hg]
        rfl
      refine .inr ⟨h1, by unfold ownN; rw [h1]; rfl, ?_⟩
      unfold reachE
      rw [if_neg (by simp [hf, hh]), if_pos (by unfold frameO; rw [Int.toNat_natCast, hg]; rfl)]
      decide
    · rw [hx] at hg
      have h1 := ownAt_some hg
      refine .inl ⟨k, o, bs, rfl, hk, hg, h1, by unfold ownN; rw [h1]; rfl, ?_⟩
      unfold reachE
      rw [if_neg (by simp [hf, hh]), if_neg (by unfold frameO; rw [Int.toNat_natCast, hg]; simp)]
  · have h1 : ownAt (owns p.fr) z = none := by
      unfold ownAt
      split
      · rfl
      · rw [owns_get, List.getElem?_eq_none (by omega)]
        rfl
    refine .inr ⟨h1, by unfold ownN; rw [h1]; rfl, ?_⟩
    unfold reachE
    rw [if_pos]
    · decide
    · simp only [frameB, Bool.and_eq_true, decide_eq_true_eq]
      omega
theorem lies_oi {w : World} {p : Pl} {A : Option Addr} {k o : Nat} {bs : List UInt8} (h : Lies w A p.fr) (hk : p.fr[k]? = some (some (o, bs))) : ∃ ad, A = some ad ∧ w.cell? (ad.add (k * 2)) = some (.int .i64 (o : Int)) := by
  obtain ⟨hlt, e⟩ := List.getElem?_eq_some_iff.1 hk
  obtain ⟨ad, h1, h2, _⟩ := h.at_ k hlt
  rw [e] at h2
  exact ⟨ad, h1, h2⟩
set_option maxRecDepth 100000 in
set_option maxHeartbeats 4000000 in
theorem lawIs_any (p : Pl) (A : Option Addr) (n c b : Nat) (F : Nat → Prop) (w : World) (h : Has w b p F) (hl : p.fr.length = n) (hA : Lies w A p.fr) :
    Calls Tryz.prog 14 #[bx b, rv p A n c] w fun e w' => e = .returned (.bool true) ∧ Below w.heap.size w w' := by
  have hok := h.ok
  have hn := hl ▸ hok.most
  obtain ⟨cs, hcs⟩ : ∃ cs, cs = rc p A n c := ⟨_, rfl⟩
  have hlen : cs.length = 65 := by rw [hcs, rc_len]
  have HSZ := Lib.hid (show (Tryz.prog.info? 36).map (·.size) = some cs.length from hcs ▸ refpool_size p A n c)
  have hrv : rv p A n c = .agg cs.toArray := by rw [hcs]; rfl
  rw [hrv]
  have HB0 := Lib.hid (below1 w (.cells cs.toArray 36))
  have row0 := Row.new w 36 cs
  obtain ⟨w1, hw1⟩ : ∃ w1, w1 = w.alloc (.cells cs.toArray 36) := ⟨_, rfl⟩
  rw [← hw1] at HB0 row0
  have h1 := h.below HB0.out
  have hA1 := hA.below HB0.out
  have HT := Lib.hid (fun V (hb : Below w1.heap.size w1 V) => row_range (row0.below hb))
  have HT0 := Lib.hid (fun V (hb : Below w1.heap.size w1 V) => (show V.cell? ⟨w.heap.size, 0, none⟩ = some (.slice A n c) from by rw [(row0.below hb).cell, hcs]; rfl))
  have HTK := Lib.hid (fun V (hb : Below w1.heap.size w1 V) (k : Nat) (hk : k < 64) => (show V.cell? ⟨w.heap.size, 1 + k, none⟩ = some (.int .i64 (resN p k : Int)) from by rw [(row0.below hb).cell, hcs, Nat.add_comm 1 k]; exact resV_get p k hk))
  have HOW := Lib.hid (fun V (hb : Below w1.heap.size w1 V) (z : Int) (hz1 : -9223372036854775808 ≤ z) (hz2 : z ≤ 9223372036854775807) => Owner_any (h1.below hb) z hz1 hz2)
  have HRD := Lib.hid (fun V (hb : Below w1.heap.size w1 V) (z : Int) (hz2 : z ≤ 9223372036854775807) => read_any (h1.below hb) z 0 256 hz2 (by omega))
  have HRR := Lib.hid (fun V (hb : Below w1.heap.size w1 V) (z : Int) => (hrv ▸ rread_any p A n c z 0 256 V hl hok (hA1.below hb) : Calls Tryz.prog 44 #[.agg cs.toArray, .int .i64 z, .int .i64 0, .int .i64 256] V fun e w' => e = .returned (.tuple #[.string (str (readP p z 0 256)), .int .i64 (reachE p z 0 256 : Int)]) ∧ Below V.heap.size V w'))
  have HRY := Lib.hid (fun V (hb : Below w1.heap.size w1 V) (k : Nat) (hk : k < 64) => (show Calls Tryz.prog 52 #[bx b, .int .i64 (k : Int)] V (fun e w' => e = .returned (.tuple #[.int .i64 (resN p k : Int), .int .i64 (taken p.fr k : Int)]) ∧ Below V.heap.size V w') from Reserved_yes (h1.below hb) k hk))
  have HRN := Lib.hid (fun V (hb : Below w1.heap.size w1 V) (z : Int) (hz : ownerB z = false) => Reserved_no (h1.below hb) z hz)
  have HTN := Lib.hid (fun V (hb : Below w1.heap.size w1 V) (k : Nat) => (hrv ▸ rtaken_any p A n c k V hl hn (hA1.below hb) : Calls Tryz.prog 54 #[.agg cs.toArray, .int .i64 (k : Int)] V fun e w' => e = .returned (.int .i64 (taken p.fr k : Int)) ∧ Below V.heap.size V w'))
  have HRM := Lib.hid (fun V (hb : Below w1.heap.size w1 V) => (show Calls Tryz.prog 55 #[bx b] V (fun e w' => e = .returned (.int .i64 (p.room : Int)) ∧ Below w1.heap.size w1 w') from (Room_any (h1.below hb)).mono fun _ _ ⟨e1, e2⟩ => ⟨e1, below0 hb e2⟩))
  have HRO := Lib.hid (fun V (hb : Below w1.heap.size w1 V) => (show Calls Tryz.prog 56 #[.agg cs.toArray] V (fun e w' => e = .returned (.int .i64 (p.room : Int)) ∧ Below w1.heap.size w1 w') from (hrv ▸ rroom_any p A n c V hl hok : Calls Tryz.prog 56 #[.agg cs.toArray] V fun e w' => e = .returned (.int .i64 (p.room : Int)) ∧ Below V.heap.size V w').mono fun _ _ ⟨e1, e2⟩ => ⟨e1, below0 hb e2⟩))
  have hrl : (rowsN (owns p.fr)).length ≤ n := by
    rw [rowsN_len, ← hl, ← owns_len]
    exact idx_len _
  obtain ⟨R, hR⟩ : ∃ R, R = rowsN (owns p.fr) := ⟨_, rfl⟩
  have HAL := Lib.hid (fun V (hb : Below w1.heap.size w1 V) => (show Calls Tryz.prog 57 #[bx b, .int .i64 20000] V (fun e w' => ∃ A1 c1, e = .returned (.slice A1 R.length c1) ∧ Sees w' w'.heap.size A1 (R.flatMap encR) ∧ Below w1.heap.size w1 w') from by
    have h3 := all_any (h1.below hb) 20000 (by omega) (by omega)
    rw [List.take_of_length_le (by omega), ← hR] at h3
    exact h3.mono fun _ _ ⟨A1, c1, e1, e2, e3⟩ => ⟨A1, c1, e1, sees_any e2, below0 hb e3⟩))
  have HRW := Lib.hid (fun V (hb : Below w1.heap.size w1 V) => (show Calls Tryz.prog 17 #[.agg cs.toArray] V (fun e w' => ∃ A1 c1, e = .returned (.slice A1 R.length c1) ∧ Sees w' w'.heap.size A1 (R.flatMap encR) ∧ Below V.heap.size V w') from by
    have h3 := rrows_any p A n c V hl hok (hA1.below hb)
    rw [hrv, ← hR] at h3
    exact h3))
  rw [← hR] at hrl
  have HLI := Lib.hid (fun V (hb : Below w1.heap.size w1 V) => hA1.below hb)
  have HLL := Lib.hid hl
  have HRL := Lib.hid hrl
  have hn1 := hn
  clear hR h hA h1 hA1 hok row0 hcs hlen hl hrv hrl hn
  go_enter Tryz.func14, Tryz.ntmps14
  go_wp2_with fail
  rw [← hw1]
  clear hw1
  go_loopw [5] (fun t wr => ∃ z : Int, t = .int .i64 z ∧ -1 ≤ z ∧ z ≤ (n : Int) + 1 ∧ Below w1.heap.size w1 wr) (fun t _ => ((n : Int) + 1 - _root_.Go.RowKit.intOf t).toNat)
  case atStart => exact ⟨-1, rfl, by omega, by omega, Below.refl _ _⟩
  case round =>
    obtain ⟨z, rfl, hz1, hz2, hB⟩ := hrel
    have t0 := HT0.out _ hB
    by_cases hlt : z ≤ n
    · have j1 : decide (z ≤ (n : Int)) = true := decide_eq_true hlt
      have ew : IntKind.i64.wrap (z + 1) = z + 1 := wrapI _ (by omega) (by omega)
      have HO1 := Lib.hid (HOW.out _ hB z (by omega) (by omega))
      have HR1 := Lib.hid (HRD.out _ hB z (by omega))
      have HR2 := Lib.hid (fun V (hb : Below w1.heap.size w1 V) => HRR.out V hb z)
      obtain ⟨L, hL⟩ : ∃ L, L = readP p z 0 256 := ⟨_, rfl⟩
      rw [← hL] at HR1
      rw [← hL] at HR2
      have HB := Lib.hid hB
      rcases is_case p z with ⟨k, o, bs, rfl, hk, hfr, ho, hoN, hE⟩ | ⟨ho, hoN, hE⟩
      · rw [ho, hoN] at HO1
        rw [hE] at HR1
        rw [hE] at HR2
        have hoo : ((o : Int) == (o : Int)) = true := by simp
        obtain ⟨ad, rfl, _⟩ := lies_oi (HLI.out _ hB) hfr
        have HC := Lib.hid (fun V (hb : Below w1.heap.size w1 V) => (show V.cell? (ad.add (k * 2)) = some (.int .i64 (o : Int)) from by
          obtain ⟨ad2, e2, h2⟩ := lies_oi (HLI.out V hb) hfr
          obtain rfl := Option.some.inj e2
          exact h2))
        have i0 : (0 : Int) ≤ (k : Int) := by omega
        have i1 : (k : Int) < (n : Int) := by have := HLL.out; omega
        clear hk hfr ho hoN hE hL hB hlt
        go_wp2_with fail
        refine HO1.out.mono ?_
        rintro e V ⟨rfl, rfl⟩
        go_wp2_with fail
        refine HR1.out.mono ?_
        rintro e V2 ⟨Ag, m, cg, rfl, hm, hmc, hown, hb2⟩
        have hB2 := below0 HB.out hb2
        have hrg := Lib.hid (HT.out _ hB2)
        have HSW := Lib.hid (sees_any hown)
        have HM := Lib.hid hm
        have HB2 := Lib.hid hB2
        clear hmc hown hb2 hB2 hm t0
        go_wp2_with (first
          | refine wpList_load_mid rfl 36 (.tmp 3) rfl w.heap.size 0 rfl cs _ hrg.out Tryz.underlying36 rfl HSZ.out ?_)
        refine (HR2.out _ HB2.out).mono ?_
        rintro e V3 ⟨rfl, hb3⟩
        have hB3 := below0 HB2.out hb3
        have t0 := HT0.out _ hB3
        have hcv := run_conv_sees (P := Tryz.prog) V3 Tryz.underlying23 Tryz.underlying5 Tryz.underlying9 (c := cg) HM.out.symm (HSW.out.below hb3)
        obtain ⟨s, hs⟩ : ∃ s, s = str L := ⟨_, rfl⟩
        rw [← hs] at hcv ⊢
        have hss : (s.toList == s.toList) = true := by simp
        have HB3 := Lib.hid hB3
        have hcc := HC.out _ hB3
        clear hs hb3 hB3
        go_wp2_with (first
          | (go_at_call 13; refine (num_any _ _).mono ?_; rintro e _ ⟨rfl, rfl⟩))
        go_roundw
        case rel => exact ⟨(k : Int) + 1, by go_num, by omega, by omega, HB3.out⟩
        case measure => simp [_root_.Go.RowKit.intOf]; omega
      · rw [ho, hoN] at HO1
        obtain ⟨E, hEE⟩ : ∃ E, E = reachE p z 0 256 := ⟨_, rfl⟩
        rw [← hEE] at HR1 hE
        rw [← hEE] at HR2
        have e0 : ((E : Int) == 0) = false := beq_eq_false_iff_ne.2 (by omega)
        have e1 : ((E : Int) == (E : Int)) = true := by simp
        clear ho hoN hE hL hB hEE
        go_wp2_with fail
        refine HO1.out.mono ?_
        rintro e V ⟨rfl, rfl⟩
        go_wp2_with fail
        refine HR1.out.mono ?_
        rintro e V2 ⟨Ag, m, cg, rfl, hm, hmc, hown, hb2⟩
        have hB2 := below0 HB.out hb2
        have hrg := Lib.hid (HT.out _ hB2)
        have HSW := Lib.hid (sees_any hown)
        have HM := Lib.hid hm
        have HB2 := Lib.hid hB2
        clear hmc hown hb2 hB2 hm t0
        go_wp2_with (first
          | refine wpList_load_mid rfl 36 (.tmp 3) rfl w.heap.size 0 rfl cs _ hrg.out Tryz.underlying36 rfl HSZ.out ?_)
        refine (HR2.out _ HB2.out).mono ?_
        rintro e V3 ⟨rfl, hb3⟩
        have hB3 := below0 HB2.out hb3
        have t0 := HT0.out _ hB3
        have hcv := run_conv_sees (P := Tryz.prog) V3 Tryz.underlying23 Tryz.underlying5 Tryz.underlying9 (c := cg) HM.out.symm (HSW.out.below hb3)
        obtain ⟨s, hs⟩ : ∃ s, s = str L := ⟨_, rfl⟩
        rw [← hs] at hcv ⊢
        have hss : (s.toList == s.toList) = true := by simp
        have HB3 := Lib.hid hB3
        clear hs hb3 hB3
        go_wp2_with (first
          | (go_at_call 13; refine (num_any _ _).mono ?_; rintro e _ ⟨rfl, rfl⟩))
        go_roundw
        case rel => exact ⟨z + 1, by go_num, by omega, by omega, HB3.out⟩
        case measure => simp [_root_.Go.RowKit.intOf]; omega
    · obtain rfl : z = (n : Int) + 1 := by omega
      have j1 : decide ((n : Int) + 1 ≤ (n : Int)) = false := decide_eq_false (by omega)
      have HBk := Lib.hid hB
      clear hB hz1 hz2 hlt
      go_wp2_with fail
      go_loopw [12] (fun s12 wr => ∃ o : Int, s12 = .int .i64 o ∧ -1 ≤ o ∧ o ≤ 65 ∧ Below w1.heap.size w1 wr) (fun s12 _ => (65 - _root_.Go.RowKit.intOf s12).toNat)
      case atStart => exact ⟨-1, rfl, by omega, by omega, HBk.out⟩
      case round =>
        obtain ⟨o, rfl, ho1, ho2, hB⟩ := hrel
        clear t0 HBk
        by_cases ho : o ≤ 64
        · have j2 : decide (o ≤ 64) = true := decide_eq_true ho
          have ew : IntKind.i64.wrap (o + 1) = o + 1 := wrapI _ (by omega) (by omega)
          cases hob : ownerB o
          · have HN1 := Lib.hid (HRN.out _ hB o hob)
            have HOB := Lib.hid (fun V => owner_any o V)
            rw [hob] at HOB
            have HB := Lib.hid hB
            clear hB
            go_wp2_with fail
            refine HN1.out.mono ?_
            rintro e V ⟨rfl, rfl⟩
            go_wp2_with fail
            refine (HOB.out _).mono ?_
            rintro e V ⟨rfl, rfl⟩
            go_wp2_with fail
            go_roundw
            case rel => exact ⟨o + 1, by go_num, by omega, by omega, HB.out⟩
            case measure => simp [_root_.Go.RowKit.intOf]; omega
          · have hk := (ownerB_iff o).1 hob
            obtain ⟨k, rfl⟩ : ∃ k : Nat, o = k := ⟨o.toNat, by omega⟩
            have hk2 : k < 64 := by omega
            have HN1 := Lib.hid (HRY.out _ hB k hk2)
            have HOB := Lib.hid (fun V => owner_any (k : Int) V)
            rw [hob] at HOB
            have HTK2 := Lib.hid (fun V (hb : Below w1.heap.size w1 V) => HTK.out V hb k hk2)
            have HTN2 := Lib.hid (fun V (hb : Below w1.heap.size w1 V) => HTN.out V hb k)
            obtain ⟨rN, hrN⟩ : ∃ rN, rN = resN p k := ⟨_, rfl⟩
            obtain ⟨tN, htN⟩ : ∃ tN, tN = taken p.fr k := ⟨_, rfl⟩
            rw [← hrN] at HTK2
            rw [← hrN, ← htN] at HN1
            rw [← htN] at HTN2
            have r1 : ((rN : Int) == (rN : Int)) = true := by simp
            have r2 : ((tN : Int) == (tN : Int)) = true := by simp
            have i0 : (0 : Int) ≤ (k : Int) := by omega
            have i1 : (k : Int) < 64 := by omega
            have HB := Lib.hid hB
            clear hB hrN htN hk
            go_wp2_with fail
            refine HN1.out.mono ?_
            rintro e V ⟨rfl, hb1⟩
            have hB1 := below0 HB.out hb1
            have hck := HTK2.out _ hB1
            have hrg := Lib.hid (HT.out _ hB1)
            have HB1 := Lib.hid hB1
            clear hb1 hB1
            go_wp2_with fail
            refine (HOB.out _).mono ?_
            rintro e V ⟨rfl, rfl⟩
            go_wp2_with (first
              | refine wpList_load_midG (by kernel_rfl) 36 (.tmp 3) rfl w.heap.size 0 rfl cs _ hrg.out Tryz.underlying36 rfl HSZ.out ?_)
            refine (HTN2.out _ HB1.out).mono ?_
            rintro e V3 ⟨rfl, hb3⟩
            have HB3 := Lib.hid (below0 HB1.out hb3)
            clear hb3
            go_wp2_with fail
            go_roundw
            case rel => exact ⟨(k : Int) + 1, by go_num, by omega, by omega, HB3.out⟩
            case measure => simp [_root_.Go.RowKit.intOf]; omega
        · obtain rfl : o = 65 := by omega
          have HS := Lib.hid (fun V (hb : Below w1.heap.size w1 V) => HT.out V hb)
          have hrr : ((p.room : Int) == (p.room : Int)) = true := by simp
          obtain ⟨rm, hrm⟩ : ∃ rm, rm = p.room := ⟨_, rfl⟩
          rw [← hrm] at HRM hrr
          rw [← hrm] at HRO
          have HB := Lib.hid (below_drewN hB 1)
          clear hB hrm ho1 ho2 ho
          go_wp2_with fail
          refine wp_region_noPanic ?_
          refine wp_region_held_drew (S := fun V : World => V.rangeAt w.heap.size 0 cs) (by kernel_rfl) (HS.out _ HB.out) (fun hHeld => ?_)
          refine wpAnyH_take (i := 0) (v := ?_) rfl (by kernel_rfl) (by kernel_rfl) (by kernel_rfl) (fun _ _ _ h => h) (Or.inl ⟨by kernel_rfl, ?_⟩) hHeld ?_
          rotate_left
          focus (intro w hSw; (try dsimp only at hSw); go_simp; try with_reducible rfl)
          simp only [Act.put]
          refine wpAnyH_take (i := 2) rfl (by kernel_rfl) (by kernel_rfl) (by kernel_rfl) (fun _ _ _ h => h) (yieldsIf_load_mid (by kernel_rfl) 36 (.tmp 3) rfl w.heap.size 0 rfl cs _ (fun V hV => hV) Tryz.underlying36 rfl HSZ.out) hHeld ?_
          simp only [Act.put]
          refine wpAnyH_ready (rs := [1]) (by kernel_rfl) (by simp) ?_
          refine AllReadyH.cons rfl (fun K hK => ?_) (AllReadyH.nil)
          go_simp
          refine (HRM.out _ HB.out).mono ?_
          rintro e V1 ⟨rfl, hq1⟩
          refine hK.out _ _ (HS.out _ hq1) (fun hHeld => ?_)
          clear hK K
          try simp only [Act.put]
          refine wpAnyH_ready (rs := [3]) (by kernel_rfl) (by simp) ?_
          refine AllReadyH.cons rfl (fun K hK => ?_) (AllReadyH.nil)
          go_simp
          refine (HRO.out _ hq1).mono ?_
          rintro e V2 ⟨rfl, hq2⟩
          refine hK.out _ _ (HS.out _ hq2) (fun hHeld => ?_)
          clear hK K
          try simp only [Act.put]
          refine wpAnyH_take (i := 4) (v := ?_) rfl (by kernel_rfl) (by kernel_rfl) (by kernel_rfl) (fun _ _ _ h => h) (Or.inl ⟨by kernel_rfl, ?_⟩) hHeld ?_
          rotate_left
          focus (intro w hSw; (try dsimp only at hSw); go_simp; try with_reducible rfl)
          simp only [Act.put]
          refine wpAnyH_take (i := 5) (v := ?_) rfl (by kernel_rfl) (by kernel_rfl) (by kernel_rfl) (fun _ _ _ h => h) (Or.inl ⟨by kernel_rfl, ?_⟩) hHeld ?_
          rotate_left
          focus (intro w hSw; (try dsimp only at hSw); go_simp; try with_reducible rfl)
          simp only [Act.put]
          refine wpAnyH_take (i := 6) (v := ?_) rfl (by kernel_rfl) (by kernel_rfl) (by kernel_rfl) (fun _ _ _ h => h) (Or.inl ⟨by kernel_rfl, ?_⟩) hHeld ?_
          rotate_left
          focus (intro w hSw; (try dsimp only at hSw); go_simp; try with_reducible rfl)
          simp only [Act.put]
          refine wpAnyH_take (i := 8) rfl (by kernel_rfl) (by kernel_rfl) (by kernel_rfl) (fun _ _ _ h => h) (yieldsIf_load_mid (by kernel_rfl) 36 (.tmp 3) rfl w.heap.size 0 rfl cs _ (fun V hV => hV) Tryz.underlying36 rfl HSZ.out) hHeld ?_
          simp only [Act.put]
          refine wpAnyH_ready (rs := [7]) (by kernel_rfl) (by simp) ?_
          refine AllReadyH.cons rfl (fun K hK => ?_) (AllReadyH.nil)
          go_simp
          refine (HAL.out _ hq2).mono ?_
          rintro e V3 ⟨B1, d1, rfl, hs1, hq3⟩
          refine hK.out _ _ (HS.out _ hq3) (fun hHeld => ?_)
          clear hK K
          try simp only [Act.put]
          refine wpAnyH_ready (rs := [9]) (by kernel_rfl) (by simp) ?_
          refine AllReadyH.cons rfl (fun K hK => ?_) (AllReadyH.nil)
          go_simp
          refine (HRW.out _ hq3).mono ?_
          rintro e V4 ⟨B2, d2, rfl, hs2, hb4⟩
          have hq4 := below0 hq3 hb4
          refine hK.out _ _ (HS.out _ hq4) (fun hHeld => ?_)
          clear hK K
          try simp only [Act.put]
          refine wpAnyH_ready (rs := [10]) (by kernel_rfl) (by simp) ?_
          refine AllReadyH.cons rfl (fun K hK => ?_) (AllReadyH.nil)
          go_simp
          refine (same_any R R B1 B2 d1 d2 _ _ V4 rfl rfl (by have := HRL.out; omega) ((hs1.below hb4).more hb4.size) hs2).mono ?_
          rintro e V5 ⟨rfl, dd, rfl⟩
          have hq5 := below_drewN hq4 dd
          simp only [decide_true]
          refine hK.out _ _ (HS.out _ hq5) (fun hHeld => ?_)
          clear hK K
          try simp only [Act.put]
          refine wpAnyH_ready (rs := [11]) (by kernel_rfl) (by simp) ?_
          refine AllReadyH.cons rfl (fun K hK => ?_) (AllReadyH.nil)
          go_simp
          refine hK.out _ _ (HS.out _ hq5) (fun hHeld => ?_)
          clear hK K
          try simp only [Act.put]
          refine wpAnyH_ready (rs := [12]) (by kernel_rfl) (by simp) ?_
          refine AllReadyH.cons rfl (fun K hK => ?_) (AllReadyH.nil)
          go_simp
          refine hK.out _ _ (HS.out _ hq5) (fun hHeld => ?_)
          clear hK K
          try simp only [Act.put]
          refine wpAnyH_done (by kernel_rfl) ?_ _
          refine NoPanic.normal ?_
          have HF := Lib.hid (below0 HB0.out hq5)
          clear hq1 hq2 hq3 hq4 hq5 hb4 hs1 hs2
          go_wp2_with fail
          go_ret
          exact ⟨rfl, HF.out⟩
end Go.Proofs.YtmbjjbgpcacoeaaGreat
