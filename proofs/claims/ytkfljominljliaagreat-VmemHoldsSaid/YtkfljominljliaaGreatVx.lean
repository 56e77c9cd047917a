import Derived.Test.YtkfljominljliaaGreatVw
import Derived.Deep.RegionHeld3
namespace Go.Proofs.YtkfljominljliaaGreat.Vm
open Go.RowKit Go.Shelf Go.Maps Go.Sort
attribute [local go_sem] Oper.semAt_some

/- VMEMHOLDS. -/
set_option maxRecDepth 100000 in
theorem zero_now : (Tryz.zeroCells31).toList = byt (List.replicate 5120 0) := by kernel_rfl
abbrev zero20 : Array Value := #[.int .i64 0, .int .i64 0, .int .i64 0, .int .i64 0, .int .i64 0, .int .i64 0, .int .i64 0, .int .i64 0, .int .i64 0, .int .i64 0, .int .i64 0, .int .i64 0, .int .i64 0, .int .i64 0, .int .i64 0, .int .i64 0, .int .i64 0, .int .i64 0, .int .i64 0, .int .i64 0]
theorem zero_who : zero20.toList = whoC (List.replicate 20 0) := rfl
theorem own12 (x : Int) : ∃ o : Nat, wrap64 (1 + bits BinOp.and IntKind.i64 x 1) = (o : Int) ∧ (o = 1 ∨ o = 2) := by
  have h : bits BinOp.and IntKind.i64 x 1 = (((BitVec.ofInt 64 x).toNat &&& 1 : Nat) : Int) := by
    show IntKind.i64.wrap ((BitVec.ofInt 64 x &&& BitVec.ofInt 64 1).toNat : Int) = _
    rw [BitVec.toNat_and, show (BitVec.ofInt 64 1).toNat = 1 from rfl, Nat.and_one_is_mod]
    have := Nat.mod_lt (BitVec.ofInt 64 x).toNat (show 0 < 2 by omega)
    exact wrapI _ (by omega) (by omega)
  rw [h, Nat.and_one_is_mod]
  rcases Nat.mod_two_eq_zero_or_one (BitVec.ofInt 64 x).toNat with h0 | h0
  · exact ⟨1, by rw [h0]; kernel_rfl, .inl rfl⟩
  · exact ⟨2, by rw [h0]; kernel_rfl, .inr rfl⟩
theorem LS.whoCell {w V : World} {b t q g5 g6 : Nat} {Y : Nat → Prop} {p : Pl} {l : Pg.Tb} {now : List UInt8} {whose : List Nat} (h : LS w b t q g5 g6 Y p l now whose V) (hw : whose.length = 20) {z : Nat} (hz : z < 20) : ∃ x : Nat, whose[z]? = some x ∧ V.cell? ⟨g6, z, none⟩ = some (.int .i64 (x : Int)) := by
  have e : whose[z]? = some whose[z] := List.getElem?_eq_getElem (by omega)
  exact ⟨_, e, by rw [h.who.cell, whoC_get, e]; rfl⟩
theorem LS.nowCell {w V : World} {b t q g5 g6 : Nat} {Y : Nat → Prop} {p : Pl} {l : Pg.Tb} {now : List UInt8} {whose : List Nat} (h : LS w b t q g5 g6 Y p l now whose V) (hn : now.length = 5120) {z : Nat} (hz : z < 5120) : ∃ x : UInt8, now[z]? = some x ∧ V.cell? ⟨g5, z, none⟩ = some (.int .u8 (x.toNat : Int)) := by
  have e : now[z]? = some now[z] := List.getElem?_eq_getElem (by omega)
  exact ⟨_, e, by rw [h.now.cell]; unfold byt; rw [List.getElem?_map, e]; rfl⟩
theorem putL_more {s : List UInt8} {i j : Nat} (h : i + j < s.length) : (putL s i (List.replicate j 0)).set (i + j) 0 = putL s i (List.replicate (j + 1) 0) := by
  have := putL_set (s := s) (b := List.replicate j 0) (i := i) 0 (by rw [List.length_replicate]; exact h)
  rw [List.length_replicate] at this
  rw [this, List.replicate_succ']
theorem fine_step {whose : List Nat} {o a j x : Nat} (h : fineB whose o a j) (hx : whose[(a + j) / 256]? = some x) : fineB whose o a (j + 1) ↔ x = o :=
  ⟨fun h1 => by
    have := h1 (a + j) (by omega) (by omega)
    rw [hx] at this
    exact Option.some.inj this, fun e i h1 h2 => if h3 : i < a + j then h i h1 h3 else by
    obtain rfl : i = a + j := by omega
    rw [hx, e]⟩
set_option maxRecDepth 100000 in
set_option maxHeartbeats 4000000 in
theorem holds_far (l : List Ac) (A : Option Addr) (n c : Nat) (w : World) (h : Acs w l A) (hl : l.length = n) (hn : n ≤ 4611686018427387904) (hq : fewB l 40 = false) :
    Calls Tryz.prog 3 #[.slice A n c] w fun e w' => e = .returned (.bool true) ∧ Below w.heap.size w w' := by
  have hwk := Lib.hid (fun w => works_any w)
  have hfew := Lib.hid (few_any l A n c 40 w h hl hn)
  rw [hq] at hfew
  clear hq
  go_enter Tryz.func3, Tryz.ntmps3
  go_wp2_with fail
  refine (hfew.out).mono ?_
  rintro e w1 ⟨rfl, rfl⟩
  go_wp2_with fail
  refine (hwk.out _).mono ?_
  rintro e w1 ⟨rfl, hb⟩
  go_wp2_with fail
  go_ret
  exact ⟨rfl, hb⟩
set_option maxRecDepth 100000 in
set_option maxHeartbeats 16000000 in
theorem holds_main (l : List Ac) (A : Option Addr) (n c : Nat) (w : World) (h : Acs w l A) (hl : l.length = n) (hn : n ≤ 4611686018427387904) (hq : fewB l 40 = true) :
    Calls Tryz.prog 3 #[.slice A n c] w fun e w' => e = .returned (.bool true) ∧ Below w.heap.size w w' := by
  have hwk := Lib.hid (fun w => works_any w)
  have hnum := Lib.hid (fun n w => num_any n w)
  have hfew := Lib.hid (few_any l A n c 40 w h hl hn)
  have hnew := Lib.hid (fun w => (show Calls Tryz.prog 6 #[.int .i64 8] w _ from MRX.new 8 w (by omega)))
  have hn40 : n ≤ 40 := by
    unfold fewB at hq
    simp only [Bool.and_eq_true, decide_eq_true_eq] at hq
    omega
  rw [hq] at hfew
  have HA := Lib.hid h
  have HL := Lib.hid hl
  clear h hl hn
  go_enter Tryz.func3, Tryz.ntmps3
  go_wp2_with fail
  refine (hfew.out).mono ?_
  rintro e w0 ⟨rfl, rfl⟩
  clear hfew
  go_wp2_with fail
  refine (hnew.out _).mono ?_
  rintro e w1 ⟨b, t, q, rfl, R1⟩
  have HR1 := Lib.hid (R1.reserve 1 4 (by omega))
  clear R1 hnew
  go_wp2_with (first
    | (go_at_call 7; refine (hnum.out _ _).mono ?_; rintro e wn ⟨rfl, rfl⟩))
  refine (HR1.out).mono ?_
  rintro e w2 ⟨rfl, R2, _⟩
  have HR2 := Lib.hid (R2.reserve 2 4 (by omega))
  clear R2 HR1
  go_wp2_with fail
  refine (HR2.out).mono ?_
  rintro e w3 ⟨rfl, R3, _⟩
  have HR3 := Lib.hid R3
  clear R3 HR2
  go_wp2_with fail
  obtain ⟨V0, hV0⟩ : ∃ V0, V0 = (w3.alloc (.cells Tryz.zeroCells31 31)).alloc (.cells zero20 32) := ⟨_, rfl⟩
  have hLS : LS w b t q w3.heap.size (w3.heap.size + 1) (fun _ => False) (reserveP (reserveP (newP 8) 1 4) 2 4) [] (List.replicate 5120 0) (List.replicate 20 0) V0 := by
    have h3 := HR3.out
    have hs := h3.below.size
    obtain ⟨h4, _⟩ := h3.wide (V' := V0) (by rw [hV0]; exact below2 _ _ _)
    have hz : V0.heap.size = w3.heap.size + 2 := by rw [hV0]; simp
    refine ⟨?_, ?_, ?_, ⟨by omega, by omega, by omega⟩⟩
    · obtain ⟨F1, F2, m1, m2, m3, m4⟩ := h4
      refine ⟨F1, F2, m1, fun k hk => ⟨(m2 k hk).1, fun hx => ?_⟩, fun k hx => ?_, m4⟩
      · have h5 := m2 k hk
        rcases hx with hx | hx | hx | hx
        · omega
        · exact h5.2 (.inr ⟨by omega, by omega⟩)
        · exact h5.2 (.inr ⟨by omega, by omega⟩)
        · exact hx
      · rcases hx with hx | hx | hx | hx
        · omega
        · omega
        · omega
        · exact hx.elim
    · rw [hV0]
      have := Row.new w3 31 (Tryz.zeroCells31).toList
      rw [zero_now] at this
      have e : (byt (List.replicate 5120 0)).toArray = Tryz.zeroCells31 := by rw [← zero_now]
      rw [e] at this
      exact this.below (below1 _ _)
    · rw [hV0]
      exact Row.new_at _ _ (whoC (List.replicate 20 0)) (by simp)
  have hinv : Inv (reserveP (reserveP (newP 8) 1 4) 2 4) [] (List.replicate 5120 0) (List.replicate 20 0) := (((Inv.new (newP_ok (by omega))).reserve 1 4).reserve 2 4)
  obtain ⟨g5, hg5⟩ : ∃ g5, g5 = w3.heap.size := ⟨_, rfl⟩
  rw [← hg5] at hLS
  obtain ⟨g6, hg6⟩ : ∃ g6, g6 = w3.heap.size + 1 := ⟨_, rfl⟩
  rw [← hg5] at hg6
  rw [← hg6] at hLS
  have HV := Lib.hid hV0
  rw [← HV.out]
  rw [← hg5]
  rw [← hg6]
  clear hV0 hg5 hg6 HV HR3
  clear hq
  go_loopw [7] (fun s7 V => ∃ (k : Nat) (p : Pl) (T : Pg.Tb) (now : List UInt8) (whose : List Nat), s7 = .int .i64 (k : Int) ∧ k ≤ n ∧ LS w b t q g5 g6 (fun _ => False) p T now whose V ∧ Inv p T now whose) (fun s7 _ => n - (_root_.Go.RowKit.intOf s7).toNat)
  case atStart => exact ⟨0, _, _, _, _, rfl, Nat.zero_le _, hLS, hinv⟩
  case round =>
    clear hLS hinv
    obtain ⟨k, p, T, now, whose, rfl, hk, hLS, hinv⟩ := hrel
    by_cases hlt : k < n
    · have i0 : (0 : Int) ≤ (k : Int) := by omega
      have i1 : (k : Int) < (n : Int) := by omega
      have j1 : decide ((k : Int) < (n : Int)) = true := decide_eq_true i1
      have hkl : k < l.length := by rw [HL.out]; exact hlt
      have HS0 : ∃ ad, A = some ad ∧ ∀ W, Below w.heap.size w W → ∃ x : Ac, x = l[k] ∧ (W.cell? (ad.add (k * 8)) = some (.int .i64 x.what) ∧ W.cell? ⟨(ad.add (k * 8)).block, (ad.add (k * 8)).off + 1, none⟩ = some (.int .i64 x.page) ∧ W.cell? ⟨(ad.add (k * 8)).block, (ad.add (k * 8)).off + 2, none⟩ = some (.int .i64 x.owner) ∧ W.cell? ⟨(ad.add (k * 8)).block, (ad.add (k * 8)).off + 3, none⟩ = some (.int .i64 x.payer) ∧ W.cell? ⟨(ad.add (k * 8)).block, (ad.add (k * 8)).off + 4, none⟩ = some (.int .i64 x.many) ∧ W.cell? ⟨(ad.add (k * 8)).block, (ad.add (k * 8)).off + 5, none⟩ = some (.int .i64 x.may) ∧ W.cell? ⟨(ad.add (k * 8)).block, (ad.add (k * 8)).off + 6, none⟩ = some (.int .u32 (x.at_ : Int)) ∧ W.cell? ⟨(ad.add (k * 8)).block, (ad.add (k * 8)).off + 7, none⟩ = some x.sl) := by
        obtain ⟨ad, e, _⟩ := HA.out.at_ k hkl
        refine ⟨ad, e, fun W hb => ⟨_, rfl, ?_⟩⟩
        obtain ⟨ad', e', h'⟩ := (HA.out.below hb).at_ k hkl
        rw [e] at e'
        obtain rfl := Option.some.inj e'
        exact h'
      obtain ⟨ad, rfl, hS⟩ := HS0
      have hfit := HA.out.fits _ (List.getElem_mem hkl)
      obtain ⟨x, hx, c0, c1, c2, c3, c4, c5, c6, c7⟩ := hS wr hLS.below
      rw [← hx] at hfit
      clear hS hx hkl
      obtain ⟨wh, pg, ow, py, mn, my, at_, bs, SA, sc⟩ := x
      obtain ⟨f0, f1, f2, f3, f4, f5, hat, hcap, hlen, hsees⟩ := hfit
      unfold Ac.sl at c7
      simp only at c0 c1 c2 c3 c4 c5 c6 c7 hat hcap hlen hsees
      unfold i64 at f0 f1 f2 f4
      simp only at f0 f1 f2 f4
      obtain ⟨m, hm⟩ : ∃ m, m = bs.length := ⟨_, rfl⟩
      rw [← hm] at c7 hcap hlen
      have HLS := Lib.hid (hLS.add (.cells #[.int .i64 wh, .int .i64 pg, .int .i64 ow, .int .i64 py, .int .i64 mn, .int .i64 my, .int .u32 (at_ : Int), .slice SA m sc] 37))
      have HG := Lib.hid (And.intro hLS.now.lt hLS.who.lt)
      have hrx : Row (wr.alloc (.cells #[.int .i64 wh, .int .i64 pg, .int .i64 ow, .int .i64 py, .int .i64 mn, .int .i64 my, .int .u32 (at_ : Int), .slice SA m sc] 37)) wr.heap.size 37 [.int .i64 wh, .int .i64 pg, .int .i64 ow, .int .i64 py, .int .i64 mn, .int .i64 my, .int .u32 (at_ : Int), .slice SA m sc] := Row.new wr 37 [.int .i64 wh, .int .i64 pg, .int .i64 ow, .int .i64 py, .int .i64 mn, .int .i64 my, .int .u32 (at_ : Int), .slice SA m sc]
      have HRX := Lib.hid hrx
      have HINV := Lib.hid hinv
      have HF := Lib.hid (And.intro f0 (And.intro f1 (And.intro f2 (And.intro f4 (And.intro hat (And.intro hcap (And.intro hlen (And.intro hsees hm))))))))
      have ew : IntKind.i64.wrap ((k : Int) + 1) = (k : Int) + 1 := wrapI _ (by omega) (by omega)
      have HNX := Lib.hid (show LS w b t q g5 g6 (fun _ => False) p T now whose (wr.alloc (.cells #[.int .i64 wh, .int .i64 pg, .int .i64 ow, .int .i64 py, .int .i64 mn, .int .i64 my, .int .u32 (at_ : Int), .slice SA m sc] 37)) from hLS.more (below1 _ _))
      clear hrx hinv hLS f0 f1 f2 f3 f4 f5 hcap hlen hsees hm
      by_cases h0 : pg < 0
      · have d0 : decide (pg < 0) = true := decide_eq_true (by omega)
        as_aux_lemma =>
          clear HLS HRX HF hat
          go_wp2
          go_roundw
          case rel => exact ⟨k + 1, p, T, now, whose, by go_num, by omega, HNX.out, HINV.out⟩
          case measure => simp [_root_.Go.RowKit.intOf]; omega
      · have d0 : decide (pg < 0) = false := decide_eq_false (by omega)
        by_cases h1 : 20 ≤ pg
        · have d1 : decide (20 ≤ pg) = true := decide_eq_true (by omega)
          as_aux_lemma =>
            clear HLS HRX HF hat
            go_wp2
            go_roundw
            case rel => exact ⟨k + 1, p, T, now, whose, by go_num, by omega, HNX.out, HINV.out⟩
            case measure => simp [_root_.Go.RowKit.intOf]; omega
        · have d1 : decide (20 ≤ pg) = false := decide_eq_false (by omega)
          by_cases h2 : 5120 ≤ at_
          · have d2 : decide ((5120 : Int) ≤ (at_ : Int)) = true := decide_eq_true (by omega)
            as_aux_lemma =>
              clear HLS HRX HF hat
              go_wp2
              go_roundw
              case rel => exact ⟨k + 1, p, T, now, whose, by go_num, by omega, HNX.out, HINV.out⟩
              case measure => simp [_root_.Go.RowKit.intOf]; omega
          · have d2 : decide ((5120 : Int) ≤ (at_ : Int)) = false := decide_eq_false (by omega)
            by_cases h3 : mn < 1
            · have d3 : decide (mn < 1) = true := decide_eq_true (by omega)
              as_aux_lemma =>
                clear HLS HRX HF hat
                go_wp2
                go_roundw
                case rel => exact ⟨k + 1, p, T, now, whose, by go_num, by omega, HNX.out, HINV.out⟩
                case measure => simp [_root_.Go.RowKit.intOf]; omega
            · have d3 : decide (mn < 1) = false := decide_eq_false (by omega)
              by_cases h4 : 600 < mn
              · have d4 : decide (600 < mn) = true := decide_eq_true (by omega)
                as_aux_lemma =>
                  clear HLS HRX HF hat
                  go_wp2
                  go_roundw
                  case rel => exact ⟨k + 1, p, T, now, whose, by go_num, by omega, HNX.out, HINV.out⟩
                  case measure => simp [_root_.Go.RowKit.intOf]; omega
              · have d4 : decide (600 < mn) = false := decide_eq_false (by omega)
                obtain ⟨M, hM⟩ : ∃ M : Nat, (M : Int) = max mn (m : Int) := ⟨(max mn (m : Int)).toNat, by omega⟩
                have hM' := hM.symm
                have hlen9 := HF.out.2.2.2.2.2.2.1
                have ea : IntKind.i64.wrap ((at_ : Int)) = (at_ : Int) := wrapI _ (by omega) (by omega)
                have eb : IntKind.i64.wrap ((at_ : Int) + (M : Int)) = (at_ : Int) + (M : Int) := wrapI _ (by omega) (by omega)
                clear hM
                by_cases h5 : 5120 < at_ + M
                · have d5 : decide ((5120 : Int) < (at_ : Int) + (M : Int)) = true := decide_eq_true (by omega)
                  clear hlen9
                  as_aux_lemma =>
                    clear HLS HRX HF hat
                    go_wp2
                    go_roundw
                    case rel => exact ⟨k + 1, p, T, now, whose, by go_num, by omega, HNX.out, HINV.out⟩
                    case measure => simp [_root_.Go.RowKit.intOf]; omega
                · have d5 : decide ((5120 : Int) < (at_ : Int) + (M : Int)) = false := decide_eq_false (by omega)
                  clear hlen9
                  obtain ⟨o, ho, ho2⟩ := own12 ow
                  obtain ⟨z, rfl⟩ : ∃ z : Nat, pg = (z : Int) := ⟨pg.toNat, by omega⟩
                  have hz : z < 20 := by omega
                  have z0 : decide ((z : Int) < 0) = false := decide_eq_false (by omega)
                  have z1 : decide ((20 : Int) ≤ (z : Int)) = false := decide_eq_false (by omega)
                  have z2 : decide ((z : Int) < 20) = true := decide_eq_true (by omega)
                  have z3 : decide ((0 : Int) ≤ (z : Int)) = true := decide_eq_true (by omega)
                  have HO := Lib.hid ho2
                  clear ho2
                  obtain ⟨sz, hsz⟩ : ∃ sz, sz = wr.heap.size := ⟨_, rfl⟩
                  have HSZ := Lib.hid hsz
                  clear hsz
                  have hm5 : at_ + m ≤ 5120 := by
                    have h9 := Int.le_max_right mn (m : Int)
                    rw [hM'] at h9
                    omega
                  have hn5 : (at_ : Int) + mn ≤ 5120 := by
                    have h9 := Int.le_max_left mn (m : Int)
                    rw [hM'] at h9
                    omega
                  by_cases w1 : wh = 1
                  · subst w1
                    as_aux_lemma =>
                      clear HF HNX
                      go_wp2_with fail
                      refine (HLS.out.map (z : Int) (o : Int) (o : Int) 2 ?_ ?_).mono ?_
                      · rcases HO.out with rfl | rfl <;> exact ⟨by omega, by omega⟩
                      · exact ⟨by omega, by omega⟩
                      rintro e w1 ⟨rfl, L1, k1⟩
                      have R1 := Lib.hid (HRX.out.same (k1 _ rfl))
                      have HL1 := Lib.hid L1
                      clear L1 k1 HLS HRX hM' hat ea eb
                      rcases HINV.out.map hz HO.out with ⟨e0, I1⟩ | ⟨e0, I1⟩
                      · rw [e0]
                        have HI1 := Lib.hid I1
                        have HN9 := Lib.hid HINV.out.nlen
                        have HINV9 := Lib.hid HINV.out.wlen
                        clear I1 e0 HINV
                        have q1 : w1.cell? ⟨wr.heap.size, 1, none⟩ = some (.int .i64 (z : Int)) := R1.out.cell 1
                        obtain ⟨v, q3, q2⟩ := HL1.out.whoCell HINV9.out hz
                        clear q3
                        have q4 : w1.frozen? ⟨g6, z, none⟩ = false := HL1.out.who.frozen z
                        go_wp2_with (first
                          | (go_at_call 7; refine (hnum.out _ _).mono ?_; rintro e wn ⟨rfl, rfl⟩))
                        have HL2 := Lib.hid (HL1.out.setWho z o)
                        have R2 := Lib.hid (R1.out.same (heap_set (V := w1) (b := g6) (o := z) (v := .int .i64 (o : Int)) (by have := HG.out.2; omega)))
                        rw [← HSZ.out]
                        rw [← HSZ.out] at HL2 R2 HG
                        obtain ⟨V1, hV1⟩ : ∃ V1, V1 = w1.setCell ⟨g6, z, none⟩ (.int .i64 (o : Int)) := ⟨_, rfl⟩
                        rw [← hV1] at HL2 R2
                        rw [← hV1]
                        clear hV1 q1 q2 q4 v HL1 R1 HSZ
                        go_loopw [10] (fun s10 V => ∃ j : Nat, s10 = .int .i64 (j : Int) ∧ j ≤ 256 ∧ LS w b t q g5 g6 (· = sz) (mapMP p T (z : Int) (o : Int) (o : Int) 2) (mapML p T (z : Int) (o : Int) (o : Int) 2) (putL now (256 * z) (List.replicate j 0)) (whose.set z o) V ∧ Row V sz 37 [.int .i64 1, .int .i64 (z : Int), .int .i64 ow, .int .i64 py, .int .i64 mn, .int .i64 my, .int .u32 (at_ : Int), .slice SA m sc]) (fun s10 _ => 256 - (_root_.Go.RowKit.intOf s10).toNat)
                        case atStart => exact ⟨0, rfl, Nat.zero_le _, by rw [List.replicate_zero, putL_nil]; exact HL2.out, R2.out⟩
                        case round =>
                          clear HL2 R2
                          obtain ⟨j, rfl, hj, L, R⟩ := hrel
                          have HR := Lib.hid R
                          have HL9 := Lib.hid L
                          clear L R
                          by_cases hj2 : j < 256
                          · have t0 : decide ((j : Int) < 256) = true := decide_eq_true (by omega)
                            obtain ⟨x, hx⟩ : ∃ x : Nat, x = 256 * z + j := ⟨_, rfl⟩
                            have t1 : IntKind.i64.wrap (256 * (z : Int)) = 256 * (z : Int) := wrapI _ (by omega) (by omega)
                            have t2 : IntKind.i64.wrap (256 * (z : Int) + (j : Int)) = (x : Int) := (wrapI _ (by omega) (by omega)).trans (by omega)
                            have t3 : IntKind.i64.wrap ((j : Int) + 1) = (j : Int) + 1 := wrapI _ (by omega) (by omega)
                            have t4 : decide ((x : Int) < 5120) = true := decide_eq_true (by omega)
                            have t5 : decide ((0 : Int) ≤ (x : Int)) = true := decide_eq_true (by omega)
                            have HX := Lib.hid hx
                            have t6 : x < 5120 := by omega
                            have q1 : wr.cell? ⟨sz, 1, none⟩ = some (.int .i64 (z : Int)) := HR.out.cell 1
                            obtain ⟨v, q3, q2⟩ := HL9.out.nowCell (by rw [putL_len (by rw [List.length_replicate, HN9.out]; omega), HN9.out]) (show x < 5120 by omega)
                            clear q3 hx
                            have q4 : wr.frozen? ⟨g5, x, none⟩ = false := HL9.out.now.frozen x
                            go_wp2_with fail
                            go_roundw
                            case rel =>
                              refine ⟨j + 1, by go_num, by omega, ?_, HR.out.same (heap_set (by have := HG.out.1; omega))⟩
                              have h9 := HL9.out.setNow x 0
                              rw [HX.out, putL_more (by rw [HN9.out]; omega), ← HX.out] at h9
                              exact h9
                            case measure => simp [_root_.Go.RowKit.intOf]; omega
                          · have t0 : decide ((j : Int) < 256) = false := decide_eq_false (by omega)
                            obtain rfl : j = 256 := by omega
                            go_wp2_with fail
                            go_roundw
                            case rel => exact ⟨k + 1, _, _, _, _, by go_num, by omega, HL9.out.less fun _ h => h.elim, HI1.out⟩
                            case measure => simp [_root_.Go.RowKit.intOf]; omega
                      · have e1 : ((mapME p T (z : Int) (o : Int) (o : Int) 2 : Int) == 0) = false := beq_eq_false_iff_ne.2 (by omega)
                        have HI1 := Lib.hid I1
                        clear I1 e0 HINV
                        go_wp2_with (first
                          | (go_at_call 7; refine (hnum.out _ _).mono ?_; rintro e wn ⟨rfl, rfl⟩))
                        go_roundw
                        case rel => exact ⟨k + 1, _, _, _, _, by go_num, by omega, HL1.out.less fun _ h => h.elim, HI1.out⟩
                        case measure => simp [_root_.Go.RowKit.intOf]; omega
                  · have n1 : (wh == 1) = false := beq_eq_false_iff_ne.2 w1
                    by_cases w2 : wh = 2
                    · subst w2
                      as_aux_lemma =>
                        clear HF HNX
                        go_wp2_with fail
                        refine (HLS.out.unmap (z : Int)).mono ?_
                        rintro e w1 ⟨rfl, L1, k1⟩
                        have R1 := Lib.hid (HRX.out.same (k1 _ rfl))
                        have HL1 := Lib.hid L1
                        clear L1 k1 HLS HRX hM' hat ea eb
                        rcases HINV.out.unmap hz with ⟨e0, I1⟩ | ⟨e0, I1⟩
                        · rw [e0]
                          have HI1 := Lib.hid I1
                          have HINV9 := Lib.hid HINV.out.wlen
                          clear I1 e0 HINV
                          have q1 : w1.cell? ⟨wr.heap.size, 1, none⟩ = some (.int .i64 (z : Int)) := R1.out.cell 1
                          obtain ⟨v, q3, q2⟩ := HL1.out.whoCell HINV9.out hz
                          clear q3
                          have q4 : w1.frozen? ⟨g6, z, none⟩ = false := HL1.out.who.frozen z
                          go_wp2_with (first
                            | (go_at_call 7; refine (hnum.out _ _).mono ?_; rintro e wn ⟨rfl, rfl⟩))
                          go_roundw
                          case rel => exact ⟨k + 1, _, _, _, _, by go_num, by omega, (HL1.out.setWho z 0).less fun _ h => h.elim, HI1.out⟩
                          case measure => simp [_root_.Go.RowKit.intOf]; omega
                        · have e1 : ((unmE p T (z : Int) : Int) == 0) = false := beq_eq_false_iff_ne.2 (by omega)
                          have HI1 := Lib.hid I1
                          clear I1 e0 HINV
                          go_wp2_with (first
                            | (go_at_call 7; refine (hnum.out _ _).mono ?_; rintro e wn ⟨rfl, rfl⟩))
                          go_roundw
                          case rel => exact ⟨k + 1, _, _, _, _, by go_num, by omega, HL1.out.less fun _ h => h.elim, HI1.out⟩
                          case measure => simp [_root_.Go.RowKit.intOf]; omega
                    · have n2 : (wh == 2) = false := beq_eq_false_iff_ne.2 w2
                      by_cases w5 : wh = 5
                      · subst w5
                        as_aux_lemma =>
                          have HSE := Lib.hid HF.out.2.2.2.2.2.2.2.1
                          have HM := Lib.hid HF.out.2.2.2.2.2.2.2.2
                          have hcp := HF.out.2.2.2.2.2.1
                          have HCP := Lib.hid hcp
                          clear HF HNX hcp
                          go_wp2_with fail
                          refine (HLS.out.store at_ m sc (o : Int) SA bs (by omega) HM.out.symm HCP.out HSE.out).mono ?_
                          rintro e w1 ⟨rfl, L1, k1⟩
                          have hgg := HG.out
                          rw [← HSZ.out] at hgg
                          have r1 := HRX.out.same (k1 _ rfl)
                          rw [← HSZ.out] at r1 L1
                          rw [← HSZ.out]
                          have HGG := Lib.hid hgg
                          have R1 := Lib.hid r1
                          have HL1 := Lib.hid L1
                          have HW := Lib.hid HINV.out.wlen
                          have HN := Lib.hid HINV.out.nlen
                          clear L1 k1 HLS HRX HG HSZ r1 hgg
                          have q6 : w1.cell? ⟨sz, 6, none⟩ = some (.int .u32 (at_ : Int)) := R1.out.cell 6
                          have q7 : w1.cell? ⟨sz, 7, none⟩ = some (.slice SA m sc) := R1.out.cell 7
                          obtain ⟨E, hE⟩ : ∃ E, E = ownE T (o : Int) 2 at_ (m : Int) := ⟨_, rfl⟩
                          rw [← hE]
                          obtain ⟨P9, hP9⟩ : ∃ P9, P9 = storeP p T (o : Int) at_ m bs := ⟨_, rfl⟩
                          rw [← hP9] at HL1
                          have HE := Lib.hid hE
                          have HP := Lib.hid hP9
                          clear hE hP9
                          obtain ⟨f0, hf0⟩ : ∃ f0, f0 = decide ((0 : Int) < (m : Int)) := ⟨_, rfl⟩
                          have HF0 := Lib.hid hf0
                          have hf1 : decide ((0 : Int) < (m : Int)) = f0 := hf0.symm
                          have hf2 : decide (0 < m) = f0 := by rw [hf0]; by_cases h9 : 0 < m <;> simp [h9] <;> omega
                          clear hf0
                          go_wp2_with fail
                          clear hf1
                          go_loopw [12, 13] (fun s12 s13 V => ∃ (f : Bool) (j : Nat), s12 = .bool f ∧ s13 = .int .i64 (j : Int) ∧ j ≤ m ∧ (f = true ↔ 0 < m ∧ fineB whose o at_ j) ∧ V = w1) (fun _ s13 _ => m - (_root_.Go.RowKit.intOf s13).toNat)
                          case atStart => exact ⟨f0, 0, rfl, rfl, Nat.zero_le _, by rw [← hf2]; exact ⟨fun h => ⟨of_decide_eq_true h, fun i h1 h2 => by omega⟩, fun h => decide_eq_true h.1⟩, rfl⟩
                          case round =>
                            obtain ⟨f, j, rfl, rfl, hj, hf, rfl⟩ := hrel
                            have t3 : IntKind.i64.wrap ((j : Int) + 1) = (j : Int) + 1 := wrapI _ (by omega) (by omega)
                            have HB := Lib.hid hf
                            have HJ := Lib.hid hj
                            clear hf hj
                            have q6 : wr.cell? ⟨sz, 6, none⟩ = some (.int .u32 (at_ : Int)) := R1.out.cell 6
                            have q7 : wr.cell? ⟨sz, 7, none⟩ = some (.slice SA m sc) := R1.out.cell 7
                            by_cases hj2 : j < m
                            · have t0 : decide ((j : Int) < (m : Int)) = true := decide_eq_true (by omega)
                              cases f
                              · go_wp2_with fail
                                go_roundw
                                case rel => exact ⟨false, j + 1, rfl, by go_num, by omega, ⟨fun h => absurd h (by simp), fun h => absurd (HB.out.2 ⟨h.1, fun i h1 h2 => h.2 i h1 (by omega)⟩) (by simp)⟩, by simp⟩
                                case measure => simp [_root_.Go.RowKit.intOf]; omega
                              · obtain ⟨y, hy⟩ : ∃ y : Nat, y = at_ + j := ⟨_, rfl⟩
                                obtain ⟨r, hr⟩ : ∃ r : Nat, r = y / 256 := ⟨_, rfl⟩
                                have hy9 : y < 5120 := by omega
                                have t1 : IntKind.i64.wrap ((at_ : Int) + (j : Int)) = (y : Int) := (wrapI _ (by omega) (by omega)).trans (by omega)
                                have t2 : (y : Int) / 256 = (r : Int) := by omega
                                have t4 : r < 20 := by omega
                                have t5 : decide ((r : Int) < 20) = true := decide_eq_true (by omega)
                                obtain ⟨x, hx, q8⟩ := HL1.out.whoCell HW.out t4
                                have HX := Lib.hid hx
                                have HY := Lib.hid (And.intro hy hr)
                                obtain ⟨g, hg⟩ : ∃ g, ((x : Int) == (o : Int)) = g := ⟨_, rfl⟩
                                clear hx hy hr
                                go_wp2_with fail
                                go_roundw
                                case rel =>
                                  refine ⟨g, j + 1, rfl, by go_num, by omega, ?_, by simp⟩
                                  have hb := HB.out.1 rfl
                                  have hxx := HX.out
                                  rw [HY.out.2, HY.out.1] at hxx
                                  rw [fine_step hb.2 hxx, ← hg]
                                  exact ⟨fun h => ⟨hb.1, by have := beq_iff_eq.1 h; omega⟩, fun h => beq_iff_eq.2 (by have := h.2; omega)⟩
                                case measure => simp [_root_.Go.RowKit.intOf]; omega
                            · have t0 : decide ((j : Int) < (m : Int)) = false := decide_eq_false (by omega)
                              have hjm : j = m := by have := HJ.out; omega
                              have HB2 := Lib.hid (show f = true ↔ 0 < m ∧ fineB whose o at_ m by rw [← hjm]; rw [hjm]; have := HB.out; rwa [hjm] at this)
                              clear HB HJ hjm q6 q7 t3
                              rcases HINV.out.store HO.out HM.out.symm hm5 with ⟨e0, p0, fi, I1⟩ | ⟨e0, nf, e3⟩
                              · rw [← HE.out] at e0
                                rw [← HP.out] at I1
                                obtain rfl : f = true := HB2.out.2 ⟨p0, fi⟩
                                have HI1 := Lib.hid I1
                                subst e0
                                clear HINV I1 HB2 fi HE HP
                                go_wp2_with (first
                                  | (go_at_call 7; refine (hnum.out _ _).mono ?_; rintro e wn ⟨rfl, rfl⟩))
                                go_loopw [14] (fun s14 V => ∃ j : Nat, s14 = .int .i64 (j : Int) ∧ j ≤ m ∧ LS w b t q g5 g6 (· = sz) P9 T (putL now at_ (bs.take j)) whose V ∧ Row V sz 37 [.int .i64 5, .int .i64 (z : Int), .int .i64 ow, .int .i64 py, .int .i64 mn, .int .i64 my, .int .u32 (at_ : Int), .slice SA m sc]) (fun s14 _ => m - (_root_.Go.RowKit.intOf s14).toNat)
                                case atStart => exact ⟨0, rfl, Nat.zero_le _, by rw [List.take_zero, putL_nil]; exact HL1.out, R1.out⟩
                                case round =>
                                  clear HL1 R1
                                  obtain ⟨j, rfl, hj, L, R⟩ := hrel
                                  have HR := Lib.hid R
                                  have HL9 := Lib.hid L
                                  clear L R
                                  have q6 : wr.cell? ⟨sz, 6, none⟩ = some (.int .u32 (at_ : Int)) := HR.out.cell 6
                                  have q7 : wr.cell? ⟨sz, 7, none⟩ = some (.slice SA m sc) := HR.out.cell 7
                                  by_cases hj2 : j < m
                                  · have t0 : decide ((j : Int) < (m : Int)) = true := decide_eq_true (by omega)
                                    obtain ⟨x, hx⟩ : ∃ x : Nat, x = at_ + j := ⟨_, rfl⟩
                                    have t1 : IntKind.i64.wrap ((at_ : Int) + (j : Int)) = (x : Int) := (wrapI _ (by omega) (by omega)).trans (by omega)
                                    have t3 : IntKind.i64.wrap ((j : Int) + 1) = (j : Int) + 1 := wrapI _ (by omega) (by omega)
                                    have t4 : decide ((x : Int) < 5120) = true := decide_eq_true (by omega)
                                    have t6 : x < 5120 := by omega
                                    have t7 : (x : Int) < 5120 := by omega
                                    have HX := Lib.hid hx
                                    clear hx
                                    obtain ⟨sa, rfl, hlt, hat9⟩ := (HSE.out.below HL9.out.below) (by intro h9; have h8 := congrArg List.length h9; simp only [byt, List.length_map, List.length_nil] at h8; have := HM.out; omega)
                                    have hjb : j < bs.length := by have := HM.out; omega
                                    have q8 : wr.cell? (sa.add j) = some (.int .u8 (bs[j].toNat : Int)) := by
                                      have h9 := hat9 j (.int .u8 (bs[j].toNat : Int)) (by unfold byt; rw [List.getElem?_map, List.getElem?_eq_getElem hjb]; rfl)
                                      exact h9
                                    have HQ := Lib.hid (show ∀ v : Value, (wr.setCell ⟨g5, x, none⟩ v).cell? ⟨sz, 6, none⟩ = some (.int .u32 (at_ : Int)) ∧ (wr.setCell ⟨g5, x, none⟩ v).cell? ⟨sz, 7, none⟩ = some (.slice (some sa) m sc) ∧ (wr.setCell ⟨g5, x, none⟩ v).cell? (sa.add j) = some (.int .u8 (bs[j].toNat : Int)) from fun v =>
                                      have n1 : sz ≠ g5 := by have := HGG.out.1; omega
                                      have n2 : (sa.add j).block ≠ g5 := by rw [add_block]; have := HL9.out.ge.1; omega
                                      ⟨(World.cell?_setCell_other _ _ _ _ (fun e => n1 (congrArg Addr.block e).symm)).trans q6, (World.cell?_setCell_other _ _ _ _ (fun e => n1 (congrArg Addr.block e).symm)).trans q7, (World.cell?_setCell_other _ _ _ _ (fun e => n2 (congrArg Addr.block e).symm)).trans q8⟩)
                                    obtain ⟨v0, v1, v2⟩ := HL9.out.nowCell (by rw [putL_len (by rw [List.length_take, HN.out]; omega), HN.out]) t6
                                    clear v1
                                    have q4 : wr.frozen? ⟨g5, x, none⟩ = false := HL9.out.now.frozen x
                                    have hjm2 : j < m := hj2
                                    clear hat9
                                    go_wp2_with fail
                                    go_region_held3 (fun W => W.cell? ⟨sz, 6, none⟩ = some (.int .u32 (at_ : Int)) ∧ W.cell? ⟨sz, 7, none⟩ = some (.slice (some sa) m sc) ∧ W.cell? (sa.add j) = some (.int .u8 (bs[j].toNat : Int))) (first | exact ⟨q6, q7, q8⟩ | exact HQ.out _) (fail)
                                    go_wp2_with fail
                                    go_roundw
                                    case rel =>
                                      refine ⟨j + 1, by go_num, by omega, ?_, ?_⟩
                                      · have h9 := HL9.out.setNow x bs[j]
                                        have h8 : (putL now at_ (bs.take j)).set x bs[j] = putL now at_ (bs.take (j + 1)) := by
                                          have h7 := putL_set (s := now) (b := bs.take j) (i := at_) bs[j] (by rw [List.length_take, HN.out]; omega)
                                          rw [List.length_take, Nat.min_eq_left (by omega), ← HX.out] at h7
                                          rw [h7, List.take_append_getElem hjb]
                                        rw [h8] at h9
                                        exact h9.more (Below.refl _ _).drew
                                      · exact Row.below (HR.out.same (heap_set (by have := HGG.out.1; omega))) (Below.refl _ _).drew
                                    case measure => simp [_root_.Go.RowKit.intOf]; omega
                                  · have t0 : decide ((j : Int) < (m : Int)) = false := decide_eq_false (by omega)
                                    have hjm : j = m := by omega
                                    go_wp2_with fail
                                    go_roundw
                                    case rel =>
                                      refine ⟨k + 1, P9, T, putL now at_ bs, whose, by go_num, by omega, ?_, HI1.out⟩
                                      have h9 := HL9.out.less (Z := fun _ => False) fun _ h => h.elim
                                      rw [hjm, HM.out, List.take_length] at h9
                                      exact h9
                                    case measure => simp [_root_.Go.RowKit.intOf]; omega
                              · rw [← HE.out] at e0
                                rw [← HP.out] at e3
                                obtain rfl : f = false := by
                                  cases f
                                  · rfl
                                  · have := HB2.out.1 rfl
                                    rcases nf with nf | nf
                                    · omega
                                    · exact (nf this.2).elim
                                have HP2 := Lib.hid e3
                                have e1 : ((E : Int) == 0) = false := beq_eq_false_iff_ne.2 (by omega)
                                clear HB2 nf HE HP e3
                                go_wp2_with (first
                                  | (go_at_call 7; refine (hnum.out _ _).mono ?_; rintro e wn ⟨rfl, rfl⟩))
                                go_loopw [14] (fun s14 V => s14 = .int .i64 0 ∧ V = wr) (fun s14 _ => 1)
                                case atStart => exact ⟨rfl, rfl⟩
                                case round =>
                                  obtain ⟨rfl, rfl⟩ := hrel
                                  have q7 : wr.cell? ⟨sz, 7, none⟩ = some (.slice SA m sc) := R1.out.cell 7
                                  obtain ⟨f5, hf5⟩ : ∃ f5, decide ((0 : Int) < (m : Int)) = f5 := ⟨_, rfl⟩
                                  cases f5
                                  · go_wp2_with fail
                                    all_goals
                                      go_roundw
                                      case rel => exact ⟨k + 1, P9, T, now, whose, by go_num, by omega, HL1.out.less fun _ h => h.elim, by rw [HP2.out]; exact HINV.out⟩
                                      case measure => simp [_root_.Go.RowKit.intOf]; omega
                                  · go_wp2_with fail
                                    all_goals
                                      go_roundw
                                      case rel => exact ⟨k + 1, P9, T, now, whose, by go_num, by omega, HL1.out.less fun _ h => h.elim, by rw [HP2.out]; exact HINV.out⟩
                                      case measure => simp [_root_.Go.RowKit.intOf]; omega
                      · have n5 : (wh == 5) = false := beq_eq_false_iff_ne.2 w5
                        as_aux_lemma =>
                          obtain ⟨n9, rfl⟩ : ∃ n9 : Nat, mn = (n9 : Int) := ⟨mn.toNat, by omega⟩
                          have hn1 : 1 ≤ n9 := by omega
                          have hn6 : at_ + n9 ≤ 5120 := by omega
                          have hfr := HF.out.2.2.2.2.1
                          have ha4 : at_ < 4294967296 := by omega
                          clear HF HNX
                          rcases HINV.out.ownE HO.out 1 (by omega) hn1 hn6 with ⟨hE, hfi⟩ | ⟨hE, hnf⟩
                          · have hrd := HINV.out.rd (show 0 < o by rcases HO.out with h | h <;> omega) n9 at_ hfi
                            obtain ⟨bs9, hbs9⟩ : ∃ bs9, bs9 = (now.drop at_).take n9 := ⟨_, rfl⟩
                            have hl9 : bs9.length = n9 := by rw [hbs9, List.length_take, List.length_drop, HINV.out.nlen]; omega
                            have hld := Lib.hid (HLS.out.load at_ (n9 : Int) (o : Int) ha4 0 bs9 hE (by rw [if_pos rfl, Int.toNat_natCast, hrd, hbs9]))
                            rw [hl9] at hld
                            have HFI := Lib.hid hfi
                            have HB9 := Lib.hid (And.intro hbs9 hl9)
                            have HN6 := Lib.hid (And.intro hn1 hn6)
                            have HW := Lib.hid HINV.out.wlen
                            have HN := Lib.hid HINV.out.nlen
                            clear hE hrd hfi hbs9 hl9 HO hn1 hn6
                            go_wp2_with fail
                            refine (hld.out).mono ?_
                            rintro e w1 ⟨A9, c9, rfl, own9, L1, k1⟩
                            have hgg := HG.out
                            rw [← HSZ.out] at hgg
                            have r1 := HRX.out.same (k1 _ rfl)
                            rw [← HSZ.out] at r1 L1
                            rw [← HSZ.out]
                            have HGG := Lib.hid hgg
                            have R1 := Lib.hid r1
                            have HL1 := Lib.hid L1
                            have HS1 := Lib.hid (Sees.of_own own9)
                            clear L1 k1 HLS HRX HG HSZ r1 hgg own9 hld
                            have q6 : w1.cell? ⟨sz, 6, none⟩ = some (.int .u32 (at_ : Int)) := R1.out.cell 6
                            have q4 : w1.cell? ⟨sz, 4, none⟩ = some (.int .i64 (n9 : Int)) := R1.out.cell 4
                            go_wp2_with fail
                            go_loopw [17, 18] (fun s17 s18 V => ∃ j : Nat, s17 = .bool true ∧ s18 = .int .i64 (j : Int) ∧ j ≤ n9 ∧ V = w1) (fun _ s18 _ => n9 - (_root_.Go.RowKit.intOf s18).toNat)
                            case atStart => exact ⟨0, rfl, rfl, Nat.zero_le _, rfl⟩
                            case round =>
                              obtain ⟨j, rfl, rfl, hj, rfl⟩ := hrel
                              have t3 : IntKind.i64.wrap ((j : Int) + 1) = (j : Int) + 1 := wrapI _ (by have := HN6.out; omega) (by have := HN6.out; omega)
                              have q6 : wr.cell? ⟨sz, 6, none⟩ = some (.int .u32 (at_ : Int)) := R1.out.cell 6
                              have q4 : wr.cell? ⟨sz, 4, none⟩ = some (.int .i64 (n9 : Int)) := R1.out.cell 4
                              by_cases hj2 : j < n9
                              · have t0 : decide ((j : Int) < (n9 : Int)) = true := decide_eq_true (by omega)
                                obtain ⟨y, hy⟩ : ∃ y : Nat, y = at_ + j := ⟨_, rfl⟩
                                obtain ⟨r, hr⟩ : ∃ r : Nat, r = y / 256 := ⟨_, rfl⟩
                                have hy9 : y < 5120 := by have := HN6.out; omega
                                have t1 : IntKind.i64.wrap ((at_ : Int) + (j : Int)) = (y : Int) := (wrapI _ (by omega) (by omega)).trans (by omega)
                                have t2 : (y : Int) / 256 = (r : Int) := by omega
                                have t4 : r < 20 := by omega
                                have t5 : decide ((r : Int) < 20) = true := decide_eq_true (by omega)
                                obtain ⟨x, hx, q8⟩ := HL1.out.whoCell HW.out t4
                                have hxo : whose[r]? = some o := by rw [hr]; exact HFI.out y (by omega) (by omega)
                                obtain rfl : x = o := by rw [hx] at hxo; exact Option.some.inj hxo
                                have t6 : ((x : Int) == (x : Int)) = true := beq_self_eq_true _
                                have hj3 : j < n9 := hj2
                                clear hx hy hr hxo
                                go_wp2_with fail
                                go_roundw
                                case rel => exact ⟨j + 1, rfl, by go_num, by omega, by simp⟩
                                case measure => simp [_root_.Go.RowKit.intOf]; omega
                              · have t0 : decide ((j : Int) < (n9 : Int)) = false := decide_eq_false (by omega)
                                have u1 : IntKind.i64.wrap ((at_ : Int) + (n9 : Int)) = ((at_ + n9 : Nat) : Int) := (wrapI _ (by have := HN6.out; omega) (by have := HN6.out; omega)).trans (by omega)
                                obtain ⟨a9, ha9⟩ : ∃ a9, a9 = at_ + n9 := ⟨_, rfl⟩
                                rw [← ha9] at u1
                                have u2 : (0 : Int) ≤ (at_ : Int) := by omega
                                have u3 : (at_ : Int) ≤ (a9 : Int) := by omega
                                have u4 : (a9 : Int) ≤ 5120 := by have := HN6.out; omega
                                have u5 : at_ ≤ a9 := by omega
                                have u6 : a9 ≤ 5120 := by have := HN6.out; omega
                                have u7 : a9 - at_ = n9 := by omega
                                have hc1 : ∀ q, (convert 35 9 (.slice A9 n9 c9)).run Tryz.prog (wr.drewN q) = .ok (.string (str bs9)) (wr.drewN q) := fun q =>
                                  run_conv_sees _ Tryz.underlying35 Tryz.underlying5 Tryz.underlying9 HB9.out.2 (HS1.out.drewN q)
                                have hc2 : ∀ q, (convert 35 9 (.slice (some ⟨g5, at_, none⟩) n9 (5120 - at_))).run Tryz.prog (wr.drewN q) = .ok (.string (str bs9)) (wr.drewN q) := fun q =>
                                  run_conv_sees _ Tryz.underlying35 Tryz.underlying5 Tryz.underlying9 HB9.out.2 (by
                                    have h9 := (HL1.out.now.sees.sub at_ n9).drewN q
                                    have e9 : ((byt now).drop at_).take n9 = byt bs9 := by rw [HB9.out.1]; simp only [byt, List.map_take, List.map_drop]
                                    rw [Nat.zero_add, e9] at h9
                                    exact h9)
                                obtain ⟨S9, hS9⟩ : ∃ S9, S9 = str bs9 := ⟨_, rfl⟩
                                rw [← hS9] at hc1 hc2
                                clear hS9 ha9 hj
                                go_wp2_with fail
                                go_quiet ((go_at_call 7; exact quiet_l (hnum.out _ _)))
                                go_wp2_with fail
                                go_roundw
                                case rel => exact ⟨k + 1, p, T, now, whose, by go_num, by omega, (HL1.out.less (Z := fun _ => False) fun _ h => h.elim).more (below_drewN (Below.refl _ _) _), HINV.out⟩
                                case measure => simp [_root_.Go.RowKit.intOf]; omega
                          · have hld := Lib.hid (HLS.out.load at_ (n9 : Int) (o : Int) ha4 190 [] hE (by rw [if_neg (by decide)]))
                            rw [List.length_nil] at hld
                            have HNF := Lib.hid hnf
                            have HN6 := Lib.hid (And.intro hn1 hn6)
                            have HW := Lib.hid HINV.out.wlen
                            clear hE hnf HO hn1 hn6
                            go_wp2_with fail
                            refine (hld.out).mono ?_
                            rintro e w1 ⟨A9, c9, rfl, own9, L1, k1⟩
                            have hgg := HG.out
                            rw [← HSZ.out] at hgg
                            have r1 := HRX.out.same (k1 _ rfl)
                            rw [← HSZ.out] at r1 L1
                            rw [← HSZ.out]
                            have R1 := Lib.hid r1
                            have HL1 := Lib.hid L1
                            clear L1 k1 HLS HRX HG HSZ r1 hgg own9 hld
                            have q6 : w1.cell? ⟨sz, 6, none⟩ = some (.int .u32 (at_ : Int)) := R1.out.cell 6
                            have q4 : w1.cell? ⟨sz, 4, none⟩ = some (.int .i64 (n9 : Int)) := R1.out.cell 4
                            go_wp2_with fail
                            go_loopw [17, 18] (fun s17 s18 V => ∃ (f : Bool) (j : Nat), s17 = .bool f ∧ s18 = .int .i64 (j : Int) ∧ j ≤ n9 ∧ (f = true ↔ fineB whose o at_ j) ∧ V = w1) (fun _ s18 _ => n9 - (_root_.Go.RowKit.intOf s18).toNat)
                            case atStart => exact ⟨true, 0, rfl, rfl, Nat.zero_le _, ⟨fun _ i h1 h2 => by omega, fun _ => rfl⟩, rfl⟩
                            case round =>
                              obtain ⟨f, j, rfl, rfl, hj, hf, rfl⟩ := hrel
                              have t3 : IntKind.i64.wrap ((j : Int) + 1) = (j : Int) + 1 := wrapI _ (by have := HN6.out; omega) (by have := HN6.out; omega)
                              have HB := Lib.hid hf
                              have HJ := Lib.hid hj
                              clear hf hj
                              have q6 : wr.cell? ⟨sz, 6, none⟩ = some (.int .u32 (at_ : Int)) := R1.out.cell 6
                              have q4 : wr.cell? ⟨sz, 4, none⟩ = some (.int .i64 (n9 : Int)) := R1.out.cell 4
                              by_cases hj2 : j < n9
                              · have t0 : decide ((j : Int) < (n9 : Int)) = true := decide_eq_true (by omega)
                                cases f
                                · go_wp2_with fail
                                  go_roundw
                                  case rel => exact ⟨false, j + 1, rfl, by go_num, by omega, ⟨fun h => absurd h (by simp), fun h => absurd (HB.out.2 (fun i h1 h2 => h i h1 (by omega))) (by simp)⟩, by simp⟩
                                  case measure => simp [_root_.Go.RowKit.intOf]; omega
                                · obtain ⟨y, hy⟩ : ∃ y : Nat, y = at_ + j := ⟨_, rfl⟩
                                  obtain ⟨r, hr⟩ : ∃ r : Nat, r = y / 256 := ⟨_, rfl⟩
                                  have hy9 : y < 5120 := by have := HN6.out; omega
                                  have t1 : IntKind.i64.wrap ((at_ : Int) + (j : Int)) = (y : Int) := (wrapI _ (by omega) (by omega)).trans (by omega)
                                  have t2 : (y : Int) / 256 = (r : Int) := by omega
                                  have t4 : r < 20 := by omega
                                  have t5 : decide ((r : Int) < 20) = true := decide_eq_true (by omega)
                                  obtain ⟨x, hx, q8⟩ := HL1.out.whoCell HW.out t4
                                  have HX := Lib.hid hx
                                  have HY := Lib.hid (And.intro hy hr)
                                  obtain ⟨g, hg⟩ : ∃ g, ((x : Int) == (o : Int)) = g := ⟨_, rfl⟩
                                  clear hx hy hr
                                  go_wp2_with fail
                                  go_roundw
                                  case rel =>
                                    refine ⟨g, j + 1, rfl, by go_num, by omega, ?_, by simp⟩
                                    have hb := HB.out.1 rfl
                                    have hxx := HX.out
                                    rw [HY.out.2, HY.out.1] at hxx
                                    rw [fine_step hb hxx, ← hg]
                                    exact ⟨fun h => by have := beq_iff_eq.1 h; omega, fun h => beq_iff_eq.2 (by omega)⟩
                                  case measure => simp [_root_.Go.RowKit.intOf]; omega
                              · have t0 : decide ((j : Int) < (n9 : Int)) = false := decide_eq_false (by omega)
                                have hjm : j = n9 := by have := HJ.out; omega
                                obtain rfl : f = false := by
                                  cases f
                                  · rfl
                                  · exact (HNF.out (by have := HB.out.1 rfl; rwa [hjm] at this)).elim
                                clear HB HJ hjm
                                go_wp2_with fail
                                go_quiet ((go_at_call 7; exact quiet_l (hnum.out _ _)))
                                go_wp2_with fail
                                go_roundw
                                case rel => exact ⟨k + 1, p, T, now, whose, by go_num, by omega, (HL1.out.less (Z := fun _ => False) fun _ h => h.elim).more (below_drewN (Below.refl _ _) _), HINV.out⟩
                                case measure => simp [_root_.Go.RowKit.intOf]; omega
    · as_aux_lemma =>
        have hkn : decide ((k : Int) < (n : Int)) = false := decide_eq_false (by omega)
        have hkn2 : decide (k < n) = false := decide_eq_false (by omega)
        have HLS := Lib.hid hLS
        have HINV := Lib.hid hinv
        clear hLS hinv
        go_wp2_with fail
        clear hkn hkn2
        go_loopw [19] (fun s19 V => ∃ z : Nat, s19 = .int .i64 (z : Int) ∧ z ≤ 20 ∧ LS w b t q g5 g6 (fun _ => False) p T now whose V) (fun s19 _ => 20 - (_root_.Go.RowKit.intOf s19).toNat)
        case atStart => exact ⟨0, rfl, Nat.zero_le _, HLS.out⟩
        case round =>
          clear HLS
          obtain ⟨z, rfl, hz, hL⟩ := hrel
          by_cases hz2 : z < 20
          · have z2 : decide ((z : Int) < 20) = true := decide_eq_true (by omega)
            have z3 : decide ((0 : Int) ≤ (z : Int)) = true := decide_eq_true (by omega)
            have z4 : IntKind.i64.wrap ((z : Int) + 1) = (z : Int) + 1 := wrapI _ (by omega) (by omega)
            obtain ⟨x, hx, q8⟩ := hL.whoCell HINV.out.wlen hz2
            obtain ⟨a9, ha9⟩ : ∃ a9, a9 = 256 * z := ⟨_, rfl⟩
            have a1 : IntKind.i64.wrap (256 * (z : Int)) = (a9 : Int) := (wrapI _ (by omega) (by omega)).trans (by omega)
            have a2 : IntKind.u32.wrap (a9 : Int) = (a9 : Int) := by rw [IntKind.wrap_u32]; omega
            obtain ⟨e9, he9⟩ : ∃ e9, e9 = a9 + 256 := ⟨_, rfl⟩
            have a3 : IntKind.i64.wrap ((a9 : Int) + 256) = (e9 : Int) := (wrapI _ (by omega) (by omega)).trans (by omega)
            have HL1 := Lib.hid hL
            have HX := Lib.hid hx
            have HA9 := Lib.hid (And.intro ha9 he9)
            have ha4 : a9 + 256 ≤ 5120 := by omega
            clear hL hx
            rcases Nat.eq_zero_or_pos x with hx0 | hx0
            · have hnf : ¬ fineB whose 1 a9 256 := fun h => by
                have h1 := h a9 (Nat.le_refl _) (by omega)
                rw [show a9 / 256 = z by omega, HX.out] at h1
                have := Option.some.inj h1
                omega
              have hE : ownE T ((1 : Nat) : Int) 1 a9 ((256 : Nat) : Int) = 190 := (HINV.out.ownE (.inl rfl) 1 (by omega) (by omega) ha4).elim (fun h => (hnf h.2).elim) (·.1)
              have hld := Lib.hid (HL1.out.load a9 256 1 (by omega) 190 [] hE (by rw [if_neg (by decide)]))
              rw [List.length_nil] at hld
              have m1 : max (1 : Int) (x : Int) = 1 := by omega
              have m2 : decide ((0 : Int) < (x : Int)) = false := decide_eq_false (by omega)
              have m3 : decide (0 < x) = false := decide_eq_false (by omega)
              clear hE hnf ha9 he9 ha4 hx0
              go_wp2_with fail
              refine (hld.out).mono ?_
              rintro e w1 ⟨A9, c9, rfl, own9, L1, _⟩
              have q9 : w1.cell? ⟨g6, z, none⟩ = some (.int .i64 (x : Int)) := by
                rw [L1.who.cell, whoC_get, HX.out]; rfl
              have HL2 := Lib.hid L1
              clear L1 own9 hld HL1 q8
              go_wp2_with fail
              go_quiet ((go_at_call 7; exact quiet_l (hnum.out _ _)))
              go_wp2_with fail
              go_roundw
              case rel => exact ⟨z + 1, by go_num, by omega, HL2.out.more (below_drewN (Below.refl _ _) _)⟩
              case measure => simp [_root_.Go.RowKit.intOf]; omega
            · have hx2 := (HINV.out.mine z x HX.out hx0).1
              have hfi : fineB whose x a9 256 := fun i h1 h2 => by
                rw [show i / 256 = z by omega]
                exact HX.out
              have hE : ownE T (x : Int) 1 a9 ((256 : Nat) : Int) = 0 := (HINV.out.ownE (o := x) (by omega) 1 (by omega) (by omega) ha4).elim (·.1) (fun h => (h.2 hfi).elim)
              have hrd := HINV.out.rd hx0 256 a9 hfi
              obtain ⟨bs9, hbs9⟩ : ∃ bs9, bs9 = (now.drop a9).take 256 := ⟨_, rfl⟩
              have hl9 : bs9.length = 256 := by rw [hbs9, List.length_take, List.length_drop, HINV.out.nlen]; omega
              have hld := Lib.hid (HL1.out.load a9 256 (x : Int) (by omega) 0 bs9 hE (by rw [if_pos rfl, show (256 : Int).toNat = 256 from rfl, hrd, hbs9]))
              rw [hl9] at hld
              have m1 : max (1 : Int) (x : Int) = (x : Int) := by omega
              have m2 : decide ((0 : Int) < (x : Int)) = true := decide_eq_true (by omega)
              have m3 : decide (0 < x) = true := decide_eq_true (by omega)
              have u2 : (0 : Int) ≤ (a9 : Int) := by omega
              have u3 : (a9 : Int) ≤ (e9 : Int) := by omega
              have u4 : (e9 : Int) ≤ 5120 := by omega
              have u5 : a9 ≤ e9 := by omega
              have u6 : e9 ≤ 5120 := by omega
              have u7 : e9 - a9 = 256 := by omega
              have HB9 := Lib.hid (And.intro hbs9 hl9)
              clear hE hfi ha9 he9 ha4 hx0 hx2 hrd hbs9 hl9
              go_wp2_with fail
              refine (hld.out).mono ?_
              rintro e w1 ⟨A9, c9, rfl, own9, L1, _⟩
              have q9 : w1.cell? ⟨g6, z, none⟩ = some (.int .i64 (x : Int)) := by
                rw [L1.who.cell, whoC_get, HX.out]; rfl
              have HL2 := Lib.hid L1
              have HS1 := Lib.hid (Sees.of_own own9)
              have hc1 : ∀ q, (convert 35 9 (.slice A9 256 c9)).run Tryz.prog (w1.drewN q) = .ok (.string (str bs9)) (w1.drewN q) := fun q =>
                run_conv_sees _ Tryz.underlying35 Tryz.underlying5 Tryz.underlying9 HB9.out.2 (HS1.out.drewN q)
              have hc2 : ∀ q, (convert 35 9 (.slice (some ⟨g5, a9, none⟩) 256 (5120 - a9))).run Tryz.prog (w1.drewN q) = .ok (.string (str bs9)) (w1.drewN q) := fun q =>
                run_conv_sees _ Tryz.underlying35 Tryz.underlying5 Tryz.underlying9 HB9.out.2 (by
                  have h9 := (HL2.out.now.sees.sub a9 256).drewN q
                  have h8 : ((byt now).drop a9).take 256 = byt bs9 := by rw [HB9.out.1]; simp only [byt, List.map_take, List.map_drop]
                  rw [Nat.zero_add, h8] at h9
                  exact h9)
              obtain ⟨S9, hS9⟩ : ∃ S9, S9 = str bs9 := ⟨_, rfl⟩
              rw [← hS9] at hc1 hc2
              clear hS9 L1 own9 hld HL1 q8
              go_wp2_with fail
              go_quiet ((go_at_call 7; exact quiet_l (hnum.out _ _)))
              go_wp2_with fail
              go_roundw
              case rel => exact ⟨z + 1, by go_num, by omega, HL2.out.more (below_drewN (Below.refl _ _) _)⟩
              case measure => simp [_root_.Go.RowKit.intOf]; omega
          · have z2 : decide ((z : Int) < 20) = false := decide_eq_false (by omega)
            have HL1 := Lib.hid hL
            clear hL
            go_wp2_with fail
            refine (hwk.out _).mono ?_
            rintro e w9 ⟨rfl, hb9⟩
            go_wp2_with fail
            go_ret
            exact ⟨rfl, below0 HL1.out.below hb9⟩
end Go.Proofs.YtkfljominljliaaGreat.Vm
