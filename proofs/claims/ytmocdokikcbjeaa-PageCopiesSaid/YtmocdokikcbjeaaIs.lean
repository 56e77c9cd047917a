import Derived.Test.YtmocdokikcbjeaaHold
import Derived.Test.YtmocdokikcbjeaaRN
namespace Go.Proofs.Ytmocdokikcbjeaa
open Go.RowKit Go.Shelf Go.Maps Go.Sort
attribute [local go_sem] Oper.semAt_some

/- DOES A TABLE STAND AS THE DOCUMENT's? -/
theorem below_start {l : Tb} (h : Tok l) : below l (-2) = [] := by
  unfold below
  rw [List.filter_eq_nil_iff]
  intro r hr
  have := right_owner h r hr
  simp
  omega
theorem below_65 {l : Tb} (h : Tok l) : below l 65 = l := by
  unfold below
  rw [List.filter_eq_self]
  intro r hr
  have := right_owner h r hr
  simp
  omega
theorem sees_rows {w w' : World} {xs : Tb} {A : Option Addr} {c : Nat} (h : w'.ownsRow w.heap.size 46 4 (.slice A xs.length c) xs.length (xs.flatMap encR)) : Lies w' A xs := sees_of h
set_option maxRecDepth 100000 in
set_option maxHeartbeats 4000000 in
theorem is_any {w : World} {b c : Nat} {l : Tb} {F : Nat → Prop} {A : Option Addr} (h : Has w b l F) (hA : Lies w A l) (hl : l.length ≤ 100) :
    Calls Try.prog 11 #[bx b, .agg #[.slice A l.length c]] w fun e w' => e = .returned (.bool true) ∧ Below w.heap.size w w' := by
  have hok := h.ok
  have HB0 := Lib.hid (below1 w (.cells #[.slice A l.length c] 29))
  have row0 := Row.new w 29 [.slice A l.length c]
  obtain ⟨w1, hw1⟩ : ∃ w1, w1 = w.alloc (.cells #[.slice A l.length c] 29) := ⟨_, rfl⟩
  rw [← hw1] at HB0 row0
  have h1 := h.below HB0.out
  have hA1 := hA.below HB0.out
  have HT := Lib.hid (fun V (hb : Below w1.heap.size w1 V) => (row0.below hb).cell 0)
  have HG := Lib.hid (fun V (hb : Below w1.heap.size w1 V) (z : Int) (hz : I64 z) => (show Calls Try.prog 27 #[bx b, .int .i64 z] V (fun e w' => e = .returned (.tuple #[enV (getX l z), .bool (look l z).isSome]) ∧ Below V.heap.size V w') from by
    obtain ⟨bp, bf, h2, _⟩ := h1.below hb
    exact get_any h2 z hz))
  have HAL := Lib.hid (fun V (hb : Below w1.heap.size w1 V) (o : Int) => (show Calls Try.prog 23 #[bx b, .int .i64 o, .int .i64 100] V (RowsP V (ofO l o)) from by
    obtain ⟨bp, bf, h2, _⟩ := h1.below hb
    have h3 := all_any h2 o 100 (by omega) (by omega)
    have hlen : (ofO l o).length ≤ l.length := List.length_filter_le _ _
    rw [List.take_of_length_le (by omega)] at h3
    exact h3))
  have HLN := Lib.hid (fun V (hb : Below w1.heap.size w1 V) => (show Calls Try.prog 25 #[bx b] V (fun e w' => e = .returned (.int .i64 (l.length : Int)) ∧ V = w') from by
    obtain ⟨bp, bf, h2, _⟩ := h1.below hb
    exact len_any h2))
  have HOF := Lib.hid (fun V (hb : Below w1.heap.size w1 V) (o : Int) => rof_any l A l.length c o V rfl hok.len (hA1.below hb))
  have HR := Lib.hid (fun V (hb : Below w1.heap.size w1 V) k (hk : k < l.length) => (hA1.below hb).at_ k hk)
  have HOK := Lib.hid hok
  have HX := Lib.hid hw1
  have HLE := Lib.hid hl
  obtain ⟨n, hn⟩ : ∃ n, n = l.length := ⟨_, rfl⟩
  have HN := Lib.hid hn
  rw [← hn] at HT HLN HOF
  rw [← hn]
  have hn1 : n ≤ 100 := by omega
  rw [← hn] at hw1
  clear hn hl h hA h1 hA1 hok row0
  go_enter Try.func11, Try.ntmps11
  go_wp2_with fail
  rw [← hw1]
  clear hw1
  go_loopw [5] (fun t wr => ∃ k : Nat, t = .int .i64 (k : Int) ∧ k ≤ n ∧ Below w1.heap.size w1 wr) (fun t _ => n - (_root_.Go.RowKit.intOf t).toNat)
  case atStart => exact ⟨0, rfl, Nat.zero_le _, Below.refl _ _⟩
  case round =>
    obtain ⟨k, rfl, hk, hB⟩ := hrel
    have t0 := HT.out _ hB
    simp only [List.getElem?_cons_zero] at t0
    by_cases hlt : k < n
    · have i0 : (0 : Int) ≤ (k : Int) := by omega
      have i1 : (k : Int) < (n : Int) := by omega
      have j1 : decide ((k : Int) < (n : Int)) = true := decide_eq_true i1
      have hkl : k < l.length := by rw [← HN.out]; exact hlt
      obtain ⟨ad, rfl, hr⟩ := HR.out _ hB k hkl
      have HRR := Lib.hid (fun V (hb : Below w1.heap.size w1 V) => (show RowAt V ad k l[k] from by
        obtain ⟨ad2, e2, h2⟩ := HR.out V hb k hkl
        obtain rfl := Option.some.inj e2
        exact h2))
      have hmem : l[k] ∈ l := List.getElem_mem hkl
      have hbig : I64 l[k].1 := page64 (HOK.out.page _ hmem)
      have hlk : look l l[k].1 = some l[k].2 := (look_mem HOK.out.sorted).2 hmem
      have HG1 := Lib.hid (HG.out _ hB l[k].1 hbig)
      rw [show getX l l[k].1 = l[k].2 by unfold getX; rw [hlk]; rfl, hlk] at HG1
      obtain ⟨r0, hr0⟩ : ∃ r, r = l[k] := ⟨_, rfl⟩
      rw [← hr0] at hr HRR HG1
      clear hr0 hlk hbig hmem
      obtain ⟨pg, q1, q2, q3⟩ := r0
      rw [show enV (pg, q1, q2, q3).2 = .agg #[.int .i64 q1, .int .i64 q2, .int .i64 q3] from rfl, show (some (pg, q1, q2, q3).2 : Option En).isSome = true from rfl] at HG1
      have c0 := hr.c0
      simp only at c0 HG1
      clear hr
      go_wp2_with fail
      refine (HG1.out).mono ?_
      rintro e V ⟨rfl, hb⟩
      have hB2 := below0 hB hb
      have hB3 := below0 hB2 (below1 V (.cells #[.int .i64 q1, .int .i64 q2, .int .i64 q3] 34))
      have rr := HRR.out _ hB3
      have b1 := rr.c1
      have b2 := rr.c2
      have b3 := rr.c3
      have t0 := HT.out _ hB3
      simp only [List.getElem?_cons_zero] at t0 b1 b2 b3
      have HB3 := Lib.hid hB3
      clear rr hb hB hB2 hB3 HG1 c0
      go_wp2_with fail
      go_quiet (fail)
      go_wp2_with fail
      go_roundw
      case rel => exact ⟨k + 1, by go_num, by omega, below_drewN HB3.out _⟩
      case measure => simp [_root_.Go.RowKit.intOf]; omega
    · obtain rfl : k = n := by omega
      have j1 : decide ((k : Int) < (k : Int)) = false := decide_eq_false (by omega)
      have HBk := Lib.hid hB
      clear hB
      go_wp2_with fail
      go_loopw [8, 9] (fun s8 s9 wr => ∃ o : Int, s9 = .int .i64 o ∧ -2 ≤ o ∧ o ≤ 65 ∧ s8 = .int .i64 ((below l o).length : Int) ∧ Below w1.heap.size w1 wr) (fun _ s9 _ => (65 - _root_.Go.RowKit.intOf s9).toNat)
      case atStart => exact ⟨-2, rfl, by omega, by omega, by rw [below_start HOK.out]; rfl, HBk.out⟩
      case round =>
        obtain ⟨o, rfl, ho1, ho2, rfl, hB⟩ := hrel
        clear t0 HBk
        by_cases ho : o ≤ 64
        · have j2 : decide (o ≤ 64) = true := decide_eq_true ho
          have HA1 := Lib.hid (HAL.out _ hB o)
          have ew : IntKind.i64.wrap (o + 1) = o + 1 := wrapI _ (by omega) (by omega)
          have hnx := (below_next l o).2
          have hle : (below l (o + 1)).length ≤ l.length := List.length_filter_le _ _
          have hNX := Lib.hid hnx
          obtain ⟨X, hX⟩ : ∃ X, X = (below l o).length := ⟨_, rfl⟩
          obtain ⟨R, hR⟩ : ∃ R, R = (ofO l o).length := ⟨_, rfl⟩
          have ew2 : IntKind.i64.wrap ((X : Int) + (R : Int)) = (X : Int) + (R : Int) := wrapI _ (by omega) (by have := HLE.out; omega)
          rw [← hX, ← hR] at hNX
          rw [← hX]
          have hR100 : R ≤ 100 := by have := HLE.out; omega
          have HRL := Lib.hid hR
          clear hnx hle hX hR
          go_wp2_with fail
          refine (HA1.out).mono ?_
          rintro e V ⟨A1, c1, rfl, hown1, hb1⟩
          have hB2 := below0 hB hb1
          have L1 := sees_rows hown1
          have t0 := HT.out _ hB2
          simp only [List.getElem?_cons_zero] at t0
          have HO1 := Lib.hid (HOF.out _ hB2 o)
          clear HA1 hown1
          go_wp2_with fail
          refine (HO1.out).mono ?_
          rintro e V2 ⟨A2, c2, rfl, hown2, hb2⟩
          have L2 := sees_rows hown2
          have hB3 := below0 hB2 hb2
          have HSM := Lib.hid (rsame_any (ofO l o) (ofO l o) A1 A2 c1 c2 R R V2 HRL.out.symm HRL.out.symm (by omega) (L1.below hb2) L2)
          rw [decide_eq_true rfl] at HSM
          rw [← HRL.out]
          have HB3 := Lib.hid hB3
          clear HO1 hown2 L1 L2 hb1 hb2 hB hB2 hB3 t0
          go_wp2_with fail
          refine (HSM.out).mono ?_
          rintro e V3 ⟨rfl, q, rfl⟩
          go_wp2_with fail
          go_roundw
          case rel => exact ⟨o + 1, by go_num, by omega, by omega, by rw [hNX.out]; go_num, below_drewN HB3.out q⟩
          case measure => simp [_root_.Go.RowKit.intOf]; omega
        · obtain rfl : o = 65 := by omega
          have hbl : (below l 65).length = k := by rw [below_65 HOK.out, HN.out]
          rw [hbl]
          have t0 := HT.out _ hB
          simp only [List.getElem?_cons_zero] at t0
          have hkk : ((k : Int) == (k : Int)) = true := by simp
          have HL1 := Lib.hid (HLN.out _ hB)
          have HBF := Lib.hid (below0 HB0.out hB)
          clear hbl hB ho ho1 ho2
          go_wp2_with fail
          refine (HL1.out).mono ?_
          rintro e V ⟨rfl, rfl⟩
          go_wp2_with fail
          go_ret
          exact ⟨rfl, HBF.out⟩
end Go.Proofs.Ytmocdokikcbjeaa
