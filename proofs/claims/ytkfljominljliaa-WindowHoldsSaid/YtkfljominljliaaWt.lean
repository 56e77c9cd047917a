import Derived.Test.YtkfljominljliaaWs
namespace Go.Proofs.Ytkfljominljliaa
open Go.RowKit Go.Shelf
attribute [local go_sem] Oper.semAt_some

theorem plc_book {n s : Nat} (h1 : 64 * s + 1 ≤ n) (h2 : n < 64 * s + 49) (hs : s < 4) : plc n = (1, s, 0, n - (64 * s + 1)) := by
  have hb : isBook n := by unfold isBook; omega
  unfold plc
  rw [if_pos hb, show (n - 1) / 64 = s by omega, show (n - 1) % 64 = n - (64 * s + 1) by omega]
theorem plc_reg {n s c : Nat} (h1 : 4096 * s + 4097 + 17 * c ≤ n) (h2 : n < 4096 * s + 4097 + 17 * c + 16) (hs : s < 4) (hc : c < 8) : plc n = (2, s, c, n - (4096 * s + 4097 + 17 * c)) := by
  have hb : ¬ isBook n := by unfold isBook; omega
  have hw : isWin n := by unfold isWin; omega
  have e1 : n % 4096 = n - (4096 * s + 4096) := by omega
  have hr : isReg n := ⟨hw, by omega, by omega, by omega⟩
  unfold plc
  rw [if_neg hb, if_pos hr, e1, show n / 4096 - 1 = s by omega, show (n - (4096 * s + 4096) - 1) / 17 = c by omega, show (n - (4096 * s + 4096) - 1) % 17 = n - (4096 * s + 4097 + 17 * c) by omega]
theorem plc_great {n s : Nat} (h1 : 4096 * s + 4352 ≤ n) (h2 : n < 4096 * s + 8192) (hs : s < 4) : plc n = (3, s, 0, n - (4096 * s + 4096)) := by
  have hb : ¬ isBook n := by unfold isBook; omega
  have hw : isWin n := by unfold isWin; omega
  have e1 : n % 4096 = n - (4096 * s + 4096) := by omega
  have hr : ¬ isReg n := fun h => by have := h.2.2.1; omega
  unfold plc
  rw [if_neg hb, if_neg hr, if_pos hw, e1, if_pos (by omega), show n / 4096 - 1 = s by omega]
theorem plc_gap {n s : Nat} (h1 : 4096 * s + 4096 ≤ n) (h2 : n < 4096 * s + 4352) (hs : s < 4) (hc : ∀ c, c < 8 → ¬ (4096 * s + 4097 + 17 * c ≤ n ∧ n < 4096 * s + 4097 + 17 * c + 16)) : plc n = (4, s, 0, n - (4096 * s + 4096)) := by
  have hb : ¬ isBook n := by unfold isBook; omega
  have hw : isWin n := by unfold isWin; omega
  have e1 : n % 4096 = n - (4096 * s + 4096) := by omega
  have hr : ¬ isReg n := fun h => by
    have h3 := h.2
    have := hc ((n % 4096 - 1) / 17) (by omega)
    omega
  unfold plc
  rw [if_neg hb, if_neg hr, if_pos hw, e1, if_neg (by omega), show n / 4096 - 1 = s by omega]
theorem plc_none {n : Nat} (h : ∀ s, s < 4 → ¬ (64 * s + 1 ≤ n ∧ n < 64 * s + 49) ∧ ¬ (4096 * s + 4096 ≤ n ∧ n < 4096 * s + 8192)) : plc n = (0, 0, 0, 0) := by
  have g0 := h 0 (by omega)
  have g1 := h 1 (by omega)
  have g2 := h 2 (by omega)
  have g3 := h 3 (by omega)
  have hb : ¬ isBook n := by unfold isBook; omega
  have hw : ¬ isWin n := by unfold isWin; omega
  have hr : ¬ isReg n := fun h => hw h.1
  unfold plc
  rw [if_neg hb, if_neg hr, if_neg hw]

theorem rof_no (n : Int) (w : World) (h : isB n 65536 = false) : Calls Try.prog 20 #[.int .i64 n] w fun e w' => e = .returned (.tuple #[siV 0 0 0 0, .int .i64 4]) ∧ Below w.heap.size w w' := by
  by_cases h0 : n < 0
  · have e0 : decide (n < 0) = true := decide_eq_true h0
    clear h
    go_enter Try.func20, Try.ntmps20
    go_wp2
    exact bodyPost_ret (v := .tuple #[siV 0 0 0 0, .int .i64 4]) (by simp [results, Try.results20, go_sem]) rfl ⟨rfl, below1 _ _⟩
  · have e0 : decide (n < 0) = false := decide_eq_false h0
    have e1 : decide (65536 ≤ n) = true := decide_eq_true (by
      unfold isB at h
      rw [decide_eq_true (show 0 ≤ n by omega), Bool.true_and] at h
      have := of_decide_eq_false h
      omega)
    clear h
    go_enter Try.func20, Try.ntmps20
    go_wp2
    exact bodyPost_ret (v := .tuple #[siV 0 0 0 0, .int .i64 4]) (by simp [results, Try.results20, go_sem]) rfl ⟨rfl, below1 _ _⟩

/-- nothing of the slots below -/
def noS (n s : Nat) : Prop := ∀ s', s' < s → ¬ (64 * s' + 1 ≤ n ∧ n < 64 * s' + 49) ∧ ¬ (4096 * s' + 4096 ≤ n ∧ n < 4096 * s' + 8192)
def noC (n s c : Nat) : Prop := ∀ c', c' < c → ¬ (4096 * s + 4097 + 17 * c' ≤ n ∧ n < 4096 * s + 4097 + 17 * c' + 16)
set_option maxRecDepth 100000 in
set_option maxHeartbeats 4000000 in
theorem rof_yes (n : Nat) (w : World) (hn : n < 65536) : Calls Try.prog 20 #[.int .i64 (n : Int)] w fun e w' => e = .returned (.tuple #[siV ((plc n).1 : Int) ((plc n).2.1 : Int) ((plc n).2.2.1 : Int) ((plc n).2.2.2 : Int), .int .i64 0]) ∧ Below w.heap.size w w' := by
  have e0 : decide ((n : Int) < 0) = false := decide_eq_false (by omega)
  have e1 : decide ((65536 : Int) ≤ (n : Int)) = false := decide_eq_false (by omega)
  obtain ⟨w0, hw0⟩ : ∃ w0, w0 = w.alloc (.cells #[.int .i64 0, .int .i64 0, .int .i64 0, .int .i64 0] 36) := ⟨_, rfl⟩
  have hR : Row w0 w.heap.size 36 [.int .i64 0, .int .i64 0, .int .i64 0, .int .i64 0] := by rw [hw0]; exact Row.new _ _ _
  have hB : Below w.heap.size w w0 := by rw [hw0]; exact below1 _ _
  have HR := Lib.hid hR
  have HB := Lib.hid hB
  have hend := Lib.hid (fun (x y z t : Nat) (h : plc n = (x, y, z, t)) => (show siV ((plc n).1 : Int) ((plc n).2.1 : Int) ((plc n).2.2.1 : Int) ((plc n).2.2.2 : Int) = siV x y z t by rw [h]))
  obtain ⟨V0, hV0⟩ : ∃ V0, V0 = siV ((plc n).1 : Int) ((plc n).2.1 : Int) ((plc n).2.2.1 : Int) ((plc n).2.2.2 : Int) := ⟨_, rfl⟩
  rw [← hV0] at hend ⊢
  have c0 : w0.cell? ⟨w.heap.size, 0, none⟩ = _ := hR.cell 0
  have c1 : w0.cell? ⟨w.heap.size, 1, none⟩ = _ := hR.cell 1
  have c2 : w0.cell? ⟨w.heap.size, 2, none⟩ = _ := hR.cell 2
  have c3 : w0.cell? ⟨w.heap.size, 3, none⟩ = _ := hR.cell 3
  have f0 := hR.frozen 0
  have f1 := hR.frozen 1
  have f2 := hR.frozen 2
  have f3 := hR.frozen 3
  have HN := Lib.hid hn
  clear hV0 hR hB hn
  go_enter Try.func20, Try.ntmps20
  go_wp2_with fail
  rw [← hw0]
  clear hw0 e0 e1
  go_loopw [4] (fun s4 V => ∃ s : Nat, s4 = .int .i64 (s : Int) ∧ s ≤ 4 ∧ Hid (noS n s) ∧ V = w0) (fun s4 _ => 4 - (intOf s4).toNat)
  case atStart => exact ⟨0, rfl, Nat.zero_le _, fun s' h => absurd h (Nat.not_lt_zero _), rfl⟩
  case round =>
    obtain ⟨s, rfl, hs, HNS, rfl⟩ := hrel
    by_cases hs4 : s < 4
    · have d0 : decide ((s : Int) < 4) = true := decide_eq_true (by omega)
      have hbk := Lib.hid (fun w => rbook_any s w (by omega))
      have hbs := Lib.hid (fun w => rbase_any s w (by omega))
      have hrg := Lib.hid (fun c w (hc : c < 64) => rregion_any s c w (by omega) hc)
      have hn := HN.out
      obtain ⟨bk, hbkk⟩ : ∃ bk, bk = 64 * s + 1 := ⟨_, rfl⟩
      obtain ⟨bs, hbss⟩ : ∃ bs, bs = 4096 * s + 4096 := ⟨_, rfl⟩
      rw [← hbkk] at hbk
      rw [← hbss] at hbs
      have a0 : IntKind.i64.wrap ((bk : Int) + 48) = ((bk + 48 : Nat) : Int) := (wrapI _ (by omega) (by omega)).trans (by omega)
      obtain ⟨be, hbe⟩ : ∃ be, be = bk + 48 := ⟨_, rfl⟩
      rw [← hbe] at a0
      have a1 : IntKind.i64.wrap ((s : Int) + 1) = (s : Int) + 1 := wrapI _ (by omega) (by omega)
      have hs' : s < 4 := hs4
      by_cases hb1 : bk ≤ n
      · have d5 : decide ((bk : Int) ≤ (n : Int)) = true := decide_eq_true (by omega)
        have d5n : decide (bk ≤ n) = true := decide_eq_true (by omega)
        by_cases hb2 : n < be
        · have d6 : decide ((n : Int) < (be : Int)) = true := decide_eq_true (by omega)
          have d6n : decide (n < be) = true := decide_eq_true (by omega)
          obtain ⟨pl, hpl⟩ : ∃ pl, pl = n - bk := ⟨_, rfl⟩
          have b2 : IntKind.i64.wrap ((n : Int) - (bk : Int)) = (pl : Int) := (wrapI _ (by omega) (by omega)).trans (by omega)
          have hv0 := plc_book (n := n) (s := s) (by omega) (by omega) (by omega)
          rw [← hbkk, ← hpl] at hv0
          clear hbkk hpl hbe hbss hbs hrg
          have hv := hend.out 1 s 0 pl (hv0)
          have HV := Lib.hid hv
          clear hv hv0
          go_wp2_with (first
              | (go_at_call 16; refine (hbk.out _).mono ?_; rintro e wn ⟨rfl, rfl⟩)
              | (go_at_call 15; refine (hbs.out _).mono ?_; rintro e wn ⟨rfl, rfl⟩)
              | (go_at_call 18; refine (hrc.out _).mono ?_; rintro e wn ⟨rfl, rfl⟩))
          rw [HV.out]
          have R7 := row_set4 (.int .i64 1) (.int .i64 (s : Int)) (.int .i64 0) (.int .i64 (pl : Int)) HR.out
          have B7 := below_set4 (b := w.heap.size) (.int .i64 1) (.int .i64 (s : Int)) (.int .i64 0) (.int .i64 (pl : Int)) HB.out (Nat.le_refl _)
          clear c0 c1 c2 c3 f0 f1 f2 f3
          have k0 : World.cell? _ ⟨w.heap.size, 0, none⟩ = _ := R7.cell 0
          have k1 : World.cell? _ ⟨w.heap.size, 1, none⟩ = _ := R7.cell 1
          have k2 : World.cell? _ ⟨w.heap.size, 2, none⟩ = _ := R7.cell 2
          have k3 : World.cell? _ ⟨w.heap.size, 3, none⟩ = _ := R7.cell 3
          exact bodyPost_ret (v := .tuple #[siV 1 (s : Int) 0 (pl : Int), .int .i64 0]) (by simp [results, Try.results20, go_sem, k0, k1, k2, k3]) rfl ⟨rfl, B7⟩
        · have d6 : decide ((n : Int) < (be : Int)) = false := decide_eq_false (by omega)
          have d6n : decide (n < be) = false := decide_eq_false (by omega)
          have hnb : ¬ (bk ≤ n ∧ n < be) := by omega
          go_wp2_with (first
              | (go_at_call 16; refine (hbk.out _).mono ?_; rintro e wn ⟨rfl, rfl⟩)
              | (go_at_call 15; refine (hbs.out _).mono ?_; rintro e wn ⟨rfl, rfl⟩)
              | (go_at_call 18; refine (hrc.out _).mono ?_; rintro e wn ⟨rfl, rfl⟩))
          go_loopw [5] (fun s5 V => ∃ c : Nat, s5 = .int .i64 (c : Int) ∧ c ≤ 8 ∧ Hid (noC n s c) ∧ V = wr) (fun s5 _ => 8 - (intOf s5).toNat)
          case atStart => exact ⟨0, rfl, Nat.zero_le _, fun c' h => absurd h (Nat.not_lt_zero _), rfl⟩
          case round =>
            obtain ⟨c, rfl, hc, HNC, rfl⟩ := hrel
            by_cases hc8 : c < 8
            · have d1 : decide ((c : Int) < 8) = true := decide_eq_true (by omega)
              obtain ⟨rg, hrgg⟩ : ∃ rg, rg = 4096 * s + 4097 + 17 * c := ⟨_, rfl⟩
              have hrc := Lib.hid (fun w => rregion_any s c w (by omega) (by omega))
              rw [← hrgg] at hrc
              have b0 : IntKind.i64.wrap ((rg : Int) + 16) = ((rg + 16 : Nat) : Int) := (wrapI _ (by omega) (by omega)).trans (by omega)
              obtain ⟨re, hre⟩ : ∃ re, re = rg + 16 := ⟨_, rfl⟩
              rw [← hre] at b0
              have b1 : IntKind.i64.wrap ((c : Int) + 1) = (c : Int) + 1 := wrapI _ (by omega) (by omega)
              by_cases hr1 : rg ≤ n
              · have g1 : decide ((rg : Int) ≤ (n : Int)) = true := decide_eq_true (by omega)
                have g1n : decide (rg ≤ n) = true := decide_eq_true (by omega)
                by_cases hr2 : n < re
                · have g2 : decide ((n : Int) < (re : Int)) = true := decide_eq_true (by omega)
                  have g2n : decide (n < re) = true := decide_eq_true (by omega)
                  obtain ⟨pl, hpl⟩ : ∃ pl, pl = n - rg := ⟨_, rfl⟩
                  have b2 : IntKind.i64.wrap ((n : Int) - (rg : Int)) = (pl : Int) := (wrapI _ (by omega) (by omega)).trans (by omega)
                  have hv0 := plc_reg (n := n) (s := s) (c := c) (by omega) (by omega) (by omega) (by omega)
                  rw [← hrgg, ← hpl] at hv0
                  clear hrgg hpl hre
                  have hv := hend.out 2 s c pl (hv0)
                  have HV := Lib.hid hv
                  clear hv hv0
                  go_wp2_with (first
                      | (go_at_call 16; refine (hbk.out _).mono ?_; rintro e wn ⟨rfl, rfl⟩)
                      | (go_at_call 15; refine (hbs.out _).mono ?_; rintro e wn ⟨rfl, rfl⟩)
                      | (go_at_call 18; refine (hrc.out _).mono ?_; rintro e wn ⟨rfl, rfl⟩))
                  rw [HV.out]
                  have R7 := row_set4 (.int .i64 2) (.int .i64 (s : Int)) (.int .i64 (c : Int)) (.int .i64 (pl : Int)) HR.out
                  have B7 := below_set4 (b := w.heap.size) (.int .i64 2) (.int .i64 (s : Int)) (.int .i64 (c : Int)) (.int .i64 (pl : Int)) HB.out (Nat.le_refl _)
                  clear c0 c1 c2 c3 f0 f1 f2 f3
                  have k0 : World.cell? _ ⟨w.heap.size, 0, none⟩ = _ := R7.cell 0
                  have k1 : World.cell? _ ⟨w.heap.size, 1, none⟩ = _ := R7.cell 1
                  have k2 : World.cell? _ ⟨w.heap.size, 2, none⟩ = _ := R7.cell 2
                  have k3 : World.cell? _ ⟨w.heap.size, 3, none⟩ = _ := R7.cell 3
                  exact bodyPost_ret (v := .tuple #[siV 2 (s : Int) (c : Int) (pl : Int), .int .i64 0]) (by simp [results, Try.results20, go_sem, k0, k1, k2, k3]) rfl ⟨rfl, B7⟩
                · have g2 : decide ((n : Int) < (re : Int)) = false := decide_eq_false (by omega)
                  have g2n : decide (n < re) = false := decide_eq_false (by omega)
                  have hnx : Hid (noC n s (c + 1)) := fun c' h' => if h9 : c' < c then HNC.out c' h9 else by
                    obtain rfl : c' = c := by omega
                    omega
                  clear hrgg hre
                  go_wp2_with (first
                      | (go_at_call 16; refine (hbk.out _).mono ?_; rintro e wn ⟨rfl, rfl⟩)
                      | (go_at_call 15; refine (hbs.out _).mono ?_; rintro e wn ⟨rfl, rfl⟩)
                      | (go_at_call 18; refine (hrc.out _).mono ?_; rintro e wn ⟨rfl, rfl⟩))
                  go_roundw
                  case rel => exact ⟨c + 1, by go_num, by omega, hnx, by simp⟩
                  case measure => simp [intOf]; omega
              · have g1 : decide ((rg : Int) ≤ (n : Int)) = false := decide_eq_false (by omega)
                have g1n : decide (rg ≤ n) = false := decide_eq_false (by omega)
                have hnx : Hid (noC n s (c + 1)) := fun c' h' => if h9 : c' < c then HNC.out c' h9 else by
                  obtain rfl : c' = c := by omega
                  omega
                clear hrgg hre
                go_wp2_with (first
                    | (go_at_call 16; refine (hbk.out _).mono ?_; rintro e wn ⟨rfl, rfl⟩)
                    | (go_at_call 15; refine (hbs.out _).mono ?_; rintro e wn ⟨rfl, rfl⟩)
                    | (go_at_call 18; refine (hrc.out _).mono ?_; rintro e wn ⟨rfl, rfl⟩))
                go_roundw
                case rel => exact ⟨c + 1, by go_num, by omega, hnx, by simp⟩
                case measure => simp [intOf]; omega
            · have d1 : decide ((c : Int) < 8) = false := decide_eq_false (by omega)
              obtain rfl : c = 8 := by omega
              obtain ⟨pl, hp9⟩ : ∃ pl : Int, pl = (n : Int) - (bs : Int) := ⟨_, rfl⟩
              have b2 : IntKind.i64.wrap ((n : Int) - (bs : Int)) = pl := (wrapI _ (by omega) (by omega)).trans hp9.symm
              by_cases hp1 : 256 ≤ pl
              · have g1 : decide ((256 : Int) ≤ pl) = true := decide_eq_true hp1
                by_cases hp2 : pl < 4096
                · have g2 : decide (pl < 4096) = true := decide_eq_true hp2
                  obtain ⟨pn, hpn⟩ : ∃ pn : Nat, pn = n - bs := ⟨_, rfl⟩
                  obtain rfl : pl = (pn : Int) := by omega
                  have hv0 := plc_great (n := n) (s := s) (by omega) (by omega) (by omega)
                  rw [← hbss, ← hpn] at hv0
                  clear hbkk hbss hbe hp9 hpn
                  have hv := hend.out 3 s 0 pn (hv0)
                  have HV := Lib.hid hv
                  clear hv hv0
                  go_wp2_with (first
                      | (go_at_call 16; refine (hbk.out _).mono ?_; rintro e wn ⟨rfl, rfl⟩)
                      | (go_at_call 15; refine (hbs.out _).mono ?_; rintro e wn ⟨rfl, rfl⟩)
                      | (go_at_call 18; refine (hrc.out _).mono ?_; rintro e wn ⟨rfl, rfl⟩))
                  rw [HV.out]
                  have R7 := row_set4 (.int .i64 3) (.int .i64 (s : Int)) (.int .i64 0) (.int .i64 (pn : Int)) HR.out
                  have B7 := below_set4 (b := w.heap.size) (.int .i64 3) (.int .i64 (s : Int)) (.int .i64 0) (.int .i64 (pn : Int)) HB.out (Nat.le_refl _)
                  clear c0 c1 c2 c3 f0 f1 f2 f3
                  have k0 : World.cell? _ ⟨w.heap.size, 0, none⟩ = _ := R7.cell 0
                  have k1 : World.cell? _ ⟨w.heap.size, 1, none⟩ = _ := R7.cell 1
                  have k2 : World.cell? _ ⟨w.heap.size, 2, none⟩ = _ := R7.cell 2
                  have k3 : World.cell? _ ⟨w.heap.size, 3, none⟩ = _ := R7.cell 3
                  exact bodyPost_ret (v := .tuple #[siV 3 (s : Int) 0 (pn : Int), .int .i64 0]) (by simp [results, Try.results20, go_sem, k0, k1, k2, k3]) rfl ⟨rfl, B7⟩
                · have g2 : decide (pl < 4096) = false := decide_eq_false hp2
                  have g3 : decide (0 ≤ pl) = true := decide_eq_true (by omega)
                  have g4 : decide (pl < 256) = false := decide_eq_false (by omega)
                  have hnx : Hid (noS n (s + 1)) := fun s' h' => if h9 : s' < s then HNS.out s' h9 else by
                    obtain rfl : s' = s := by omega
                    omega
                  clear hbkk hbss hbe hp9
                  go_wp2_with (first
                      | (go_at_call 16; refine (hbk.out _).mono ?_; rintro e wn ⟨rfl, rfl⟩)
                      | (go_at_call 15; refine (hbs.out _).mono ?_; rintro e wn ⟨rfl, rfl⟩)
                      | (go_at_call 18; refine (hrc.out _).mono ?_; rintro e wn ⟨rfl, rfl⟩))
                  go_roundw
                  case rel => exact ⟨s + 1, by go_num, by omega, hnx, by simp⟩
                  case measure => simp [intOf]; omega
              · have g1 : decide ((256 : Int) ≤ pl) = false := decide_eq_false hp1
                by_cases hp2 : 0 ≤ pl
                · have g3 : decide (0 ≤ pl) = true := decide_eq_true hp2
                  have g4 : decide (pl < 256) = true := decide_eq_true (by omega)
                  obtain ⟨pn, hpn⟩ : ∃ pn : Nat, pn = n - bs := ⟨_, rfl⟩
                  obtain rfl : pl = (pn : Int) := by omega
                  have hv0 := plc_gap (n := n) (s := s) (by omega) (by omega) (by omega) HNC.out
                  rw [← hbss, ← hpn] at hv0
                  clear hbkk hbss hbe hp9 hpn
                  have hv := hend.out 4 s 0 pn (hv0)
                  have HV := Lib.hid hv
                  clear hv hv0
                  go_wp2_with (first
                      | (go_at_call 16; refine (hbk.out _).mono ?_; rintro e wn ⟨rfl, rfl⟩)
                      | (go_at_call 15; refine (hbs.out _).mono ?_; rintro e wn ⟨rfl, rfl⟩)
                      | (go_at_call 18; refine (hrc.out _).mono ?_; rintro e wn ⟨rfl, rfl⟩))
                  rw [HV.out]
                  have R7 := row_set4 (.int .i64 4) (.int .i64 (s : Int)) (.int .i64 0) (.int .i64 (pn : Int)) HR.out
                  have B7 := below_set4 (b := w.heap.size) (.int .i64 4) (.int .i64 (s : Int)) (.int .i64 0) (.int .i64 (pn : Int)) HB.out (Nat.le_refl _)
                  clear c0 c1 c2 c3 f0 f1 f2 f3
                  have k0 : World.cell? _ ⟨w.heap.size, 0, none⟩ = _ := R7.cell 0
                  have k1 : World.cell? _ ⟨w.heap.size, 1, none⟩ = _ := R7.cell 1
                  have k2 : World.cell? _ ⟨w.heap.size, 2, none⟩ = _ := R7.cell 2
                  have k3 : World.cell? _ ⟨w.heap.size, 3, none⟩ = _ := R7.cell 3
                  exact bodyPost_ret (v := .tuple #[siV 4 (s : Int) 0 (pn : Int), .int .i64 0]) (by simp [results, Try.results20, go_sem, k0, k1, k2, k3]) rfl ⟨rfl, B7⟩
                · have g3 : decide (0 ≤ pl) = false := decide_eq_false hp2
                  have hnx : Hid (noS n (s + 1)) := fun s' h' => if h9 : s' < s then HNS.out s' h9 else by
                    obtain rfl : s' = s := by omega
                    omega
                  clear hbkk hbss hbe hp9
                  go_wp2_with (first
                      | (go_at_call 16; refine (hbk.out _).mono ?_; rintro e wn ⟨rfl, rfl⟩)
                      | (go_at_call 15; refine (hbs.out _).mono ?_; rintro e wn ⟨rfl, rfl⟩)
                      | (go_at_call 18; refine (hrc.out _).mono ?_; rintro e wn ⟨rfl, rfl⟩))
                  go_roundw
                  case rel => exact ⟨s + 1, by go_num, by omega, hnx, by simp⟩
                  case measure => simp [intOf]; omega
      · have d5 : decide ((bk : Int) ≤ (n : Int)) = false := decide_eq_false (by omega)
        have d5n : decide (bk ≤ n) = false := decide_eq_false (by omega)
        have hnb : ¬ (bk ≤ n ∧ n < be) := by omega
        go_wp2_with (first
            | (go_at_call 16; refine (hbk.out _).mono ?_; rintro e wn ⟨rfl, rfl⟩)
            | (go_at_call 15; refine (hbs.out _).mono ?_; rintro e wn ⟨rfl, rfl⟩)
            | (go_at_call 18; refine (hrc.out _).mono ?_; rintro e wn ⟨rfl, rfl⟩))
        go_loopw [5] (fun s5 V => ∃ c : Nat, s5 = .int .i64 (c : Int) ∧ c ≤ 8 ∧ Hid (noC n s c) ∧ V = wr) (fun s5 _ => 8 - (intOf s5).toNat)
        case atStart => exact ⟨0, rfl, Nat.zero_le _, fun c' h => absurd h (Nat.not_lt_zero _), rfl⟩
        case round =>
          obtain ⟨c, rfl, hc, HNC, rfl⟩ := hrel
          by_cases hc8 : c < 8
          · have d1 : decide ((c : Int) < 8) = true := decide_eq_true (by omega)
            obtain ⟨rg, hrgg⟩ : ∃ rg, rg = 4096 * s + 4097 + 17 * c := ⟨_, rfl⟩
            have hrc := Lib.hid (fun w => rregion_any s c w (by omega) (by omega))
            rw [← hrgg] at hrc
            have b0 : IntKind.i64.wrap ((rg : Int) + 16) = ((rg + 16 : Nat) : Int) := (wrapI _ (by omega) (by omega)).trans (by omega)
            obtain ⟨re, hre⟩ : ∃ re, re = rg + 16 := ⟨_, rfl⟩
            rw [← hre] at b0
            have b1 : IntKind.i64.wrap ((c : Int) + 1) = (c : Int) + 1 := wrapI _ (by omega) (by omega)
            by_cases hr1 : rg ≤ n
            · have g1 : decide ((rg : Int) ≤ (n : Int)) = true := decide_eq_true (by omega)
              have g1n : decide (rg ≤ n) = true := decide_eq_true (by omega)
              by_cases hr2 : n < re
              · have g2 : decide ((n : Int) < (re : Int)) = true := decide_eq_true (by omega)
                have g2n : decide (n < re) = true := decide_eq_true (by omega)
                obtain ⟨pl, hpl⟩ : ∃ pl, pl = n - rg := ⟨_, rfl⟩
                have b2 : IntKind.i64.wrap ((n : Int) - (rg : Int)) = (pl : Int) := (wrapI _ (by omega) (by omega)).trans (by omega)
                have hv0 := plc_reg (n := n) (s := s) (c := c) (by omega) (by omega) (by omega) (by omega)
                rw [← hrgg, ← hpl] at hv0
                clear hrgg hpl hre
                have hv := hend.out 2 s c pl (hv0)
                have HV := Lib.hid hv
                clear hv hv0
                go_wp2_with (first
                    | (go_at_call 16; refine (hbk.out _).mono ?_; rintro e wn ⟨rfl, rfl⟩)
                    | (go_at_call 15; refine (hbs.out _).mono ?_; rintro e wn ⟨rfl, rfl⟩)
                    | (go_at_call 18; refine (hrc.out _).mono ?_; rintro e wn ⟨rfl, rfl⟩))
                rw [HV.out]
                have R7 := row_set4 (.int .i64 2) (.int .i64 (s : Int)) (.int .i64 (c : Int)) (.int .i64 (pl : Int)) HR.out
                have B7 := below_set4 (b := w.heap.size) (.int .i64 2) (.int .i64 (s : Int)) (.int .i64 (c : Int)) (.int .i64 (pl : Int)) HB.out (Nat.le_refl _)
                clear c0 c1 c2 c3 f0 f1 f2 f3
                have k0 : World.cell? _ ⟨w.heap.size, 0, none⟩ = _ := R7.cell 0
                have k1 : World.cell? _ ⟨w.heap.size, 1, none⟩ = _ := R7.cell 1
                have k2 : World.cell? _ ⟨w.heap.size, 2, none⟩ = _ := R7.cell 2
                have k3 : World.cell? _ ⟨w.heap.size, 3, none⟩ = _ := R7.cell 3
                exact bodyPost_ret (v := .tuple #[siV 2 (s : Int) (c : Int) (pl : Int), .int .i64 0]) (by simp [results, Try.results20, go_sem, k0, k1, k2, k3]) rfl ⟨rfl, B7⟩
              · have g2 : decide ((n : Int) < (re : Int)) = false := decide_eq_false (by omega)
                have g2n : decide (n < re) = false := decide_eq_false (by omega)
                have hnx : Hid (noC n s (c + 1)) := fun c' h' => if h9 : c' < c then HNC.out c' h9 else by
                  obtain rfl : c' = c := by omega
                  omega
                clear hrgg hre
                go_wp2_with (first
                    | (go_at_call 16; refine (hbk.out _).mono ?_; rintro e wn ⟨rfl, rfl⟩)
                    | (go_at_call 15; refine (hbs.out _).mono ?_; rintro e wn ⟨rfl, rfl⟩)
                    | (go_at_call 18; refine (hrc.out _).mono ?_; rintro e wn ⟨rfl, rfl⟩))
                go_roundw
                case rel => exact ⟨c + 1, by go_num, by omega, hnx, by simp⟩
                case measure => simp [intOf]; omega
            · have g1 : decide ((rg : Int) ≤ (n : Int)) = false := decide_eq_false (by omega)
              have g1n : decide (rg ≤ n) = false := decide_eq_false (by omega)
              have hnx : Hid (noC n s (c + 1)) := fun c' h' => if h9 : c' < c then HNC.out c' h9 else by
                obtain rfl : c' = c := by omega
                omega
              clear hrgg hre
              go_wp2_with (first
                  | (go_at_call 16; refine (hbk.out _).mono ?_; rintro e wn ⟨rfl, rfl⟩)
                  | (go_at_call 15; refine (hbs.out _).mono ?_; rintro e wn ⟨rfl, rfl⟩)
                  | (go_at_call 18; refine (hrc.out _).mono ?_; rintro e wn ⟨rfl, rfl⟩))
              go_roundw
              case rel => exact ⟨c + 1, by go_num, by omega, hnx, by simp⟩
              case measure => simp [intOf]; omega
          · have d1 : decide ((c : Int) < 8) = false := decide_eq_false (by omega)
            obtain rfl : c = 8 := by omega
            obtain ⟨pl, hp9⟩ : ∃ pl : Int, pl = (n : Int) - (bs : Int) := ⟨_, rfl⟩
            have b2 : IntKind.i64.wrap ((n : Int) - (bs : Int)) = pl := (wrapI _ (by omega) (by omega)).trans hp9.symm
            by_cases hp1 : 256 ≤ pl
            · have g1 : decide ((256 : Int) ≤ pl) = true := decide_eq_true hp1
              by_cases hp2 : pl < 4096
              · have g2 : decide (pl < 4096) = true := decide_eq_true hp2
                obtain ⟨pn, hpn⟩ : ∃ pn : Nat, pn = n - bs := ⟨_, rfl⟩
                obtain rfl : pl = (pn : Int) := by omega
                have hv0 := plc_great (n := n) (s := s) (by omega) (by omega) (by omega)
                rw [← hbss, ← hpn] at hv0
                clear hbkk hbss hbe hp9 hpn
                have hv := hend.out 3 s 0 pn (hv0)
                have HV := Lib.hid hv
                clear hv hv0
                go_wp2_with (first
                    | (go_at_call 16; refine (hbk.out _).mono ?_; rintro e wn ⟨rfl, rfl⟩)
                    | (go_at_call 15; refine (hbs.out _).mono ?_; rintro e wn ⟨rfl, rfl⟩)
                    | (go_at_call 18; refine (hrc.out _).mono ?_; rintro e wn ⟨rfl, rfl⟩))
                rw [HV.out]
                have R7 := row_set4 (.int .i64 3) (.int .i64 (s : Int)) (.int .i64 0) (.int .i64 (pn : Int)) HR.out
                have B7 := below_set4 (b := w.heap.size) (.int .i64 3) (.int .i64 (s : Int)) (.int .i64 0) (.int .i64 (pn : Int)) HB.out (Nat.le_refl _)
                clear c0 c1 c2 c3 f0 f1 f2 f3
                have k0 : World.cell? _ ⟨w.heap.size, 0, none⟩ = _ := R7.cell 0
                have k1 : World.cell? _ ⟨w.heap.size, 1, none⟩ = _ := R7.cell 1
                have k2 : World.cell? _ ⟨w.heap.size, 2, none⟩ = _ := R7.cell 2
                have k3 : World.cell? _ ⟨w.heap.size, 3, none⟩ = _ := R7.cell 3
                exact bodyPost_ret (v := .tuple #[siV 3 (s : Int) 0 (pn : Int), .int .i64 0]) (by simp [results, Try.results20, go_sem, k0, k1, k2, k3]) rfl ⟨rfl, B7⟩
              · have g2 : decide (pl < 4096) = false := decide_eq_false hp2
                have g3 : decide (0 ≤ pl) = true := decide_eq_true (by omega)
                have g4 : decide (pl < 256) = false := decide_eq_false (by omega)
                have hnx : Hid (noS n (s + 1)) := fun s' h' => if h9 : s' < s then HNS.out s' h9 else by
                  obtain rfl : s' = s := by omega
                  omega
                clear hbkk hbss hbe hp9
                go_wp2_with (first
                    | (go_at_call 16; refine (hbk.out _).mono ?_; rintro e wn ⟨rfl, rfl⟩)
                    | (go_at_call 15; refine (hbs.out _).mono ?_; rintro e wn ⟨rfl, rfl⟩)
                    | (go_at_call 18; refine (hrc.out _).mono ?_; rintro e wn ⟨rfl, rfl⟩))
                go_roundw
                case rel => exact ⟨s + 1, by go_num, by omega, hnx, by simp⟩
                case measure => simp [intOf]; omega
            · have g1 : decide ((256 : Int) ≤ pl) = false := decide_eq_false hp1
              by_cases hp2 : 0 ≤ pl
              · have g3 : decide (0 ≤ pl) = true := decide_eq_true hp2
                have g4 : decide (pl < 256) = true := decide_eq_true (by omega)
                obtain ⟨pn, hpn⟩ : ∃ pn : Nat, pn = n - bs := ⟨_, rfl⟩
                obtain rfl : pl = (pn : Int) := by omega
                have hv0 := plc_gap (n := n) (s := s) (by omega) (by omega) (by omega) HNC.out
                rw [← hbss, ← hpn] at hv0
                clear hbkk hbss hbe hp9 hpn
                have hv := hend.out 4 s 0 pn (hv0)
                have HV := Lib.hid hv
                clear hv hv0
                go_wp2_with (first
                    | (go_at_call 16; refine (hbk.out _).mono ?_; rintro e wn ⟨rfl, rfl⟩)
                    | (go_at_call 15; refine (hbs.out _).mono ?_; rintro e wn ⟨rfl, rfl⟩)
                    | (go_at_call 18; refine (hrc.out _).mono ?_; rintro e wn ⟨rfl, rfl⟩))
                rw [HV.out]
                have R7 := row_set4 (.int .i64 4) (.int .i64 (s : Int)) (.int .i64 0) (.int .i64 (pn : Int)) HR.out
                have B7 := below_set4 (b := w.heap.size) (.int .i64 4) (.int .i64 (s : Int)) (.int .i64 0) (.int .i64 (pn : Int)) HB.out (Nat.le_refl _)
                clear c0 c1 c2 c3 f0 f1 f2 f3
                have k0 : World.cell? _ ⟨w.heap.size, 0, none⟩ = _ := R7.cell 0
                have k1 : World.cell? _ ⟨w.heap.size, 1, none⟩ = _ := R7.cell 1
                have k2 : World.cell? _ ⟨w.heap.size, 2, none⟩ = _ := R7.cell 2
                have k3 : World.cell? _ ⟨w.heap.size, 3, none⟩ = _ := R7.cell 3
                exact bodyPost_ret (v := .tuple #[siV 4 (s : Int) 0 (pn : Int), .int .i64 0]) (by simp [results, Try.results20, go_sem, k0, k1, k2, k3]) rfl ⟨rfl, B7⟩
              · have g3 : decide (0 ≤ pl) = false := decide_eq_false hp2
                have hnx : Hid (noS n (s + 1)) := fun s' h' => if h9 : s' < s then HNS.out s' h9 else by
                  obtain rfl : s' = s := by omega
                  omega
                clear hbkk hbss hbe hp9
                go_wp2_with (first
                    | (go_at_call 16; refine (hbk.out _).mono ?_; rintro e wn ⟨rfl, rfl⟩)
                    | (go_at_call 15; refine (hbs.out _).mono ?_; rintro e wn ⟨rfl, rfl⟩)
                    | (go_at_call 18; refine (hrc.out _).mono ?_; rintro e wn ⟨rfl, rfl⟩))
                go_roundw
                case rel => exact ⟨s + 1, by go_num, by omega, hnx, by simp⟩
                case measure => simp [intOf]; omega
    · have d0 : decide ((s : Int) < 4) = false := decide_eq_false (by omega)
      obtain rfl : s = 4 := by omega
      have hv := hend.out 0 0 0 0 (plc_none HNS.out)
      have HV := Lib.hid hv
      clear hv
      go_wp2
      rw [HV.out]
      have R7 := row_set4 (.int .i64 0) (.int .i64 0) (.int .i64 0) (.int .i64 0) HR.out
      have B7 := below_set4 (b := w.heap.size) (.int .i64 0) (.int .i64 0) (.int .i64 0) (.int .i64 0) HB.out (Nat.le_refl _)
      clear c0 c1 c2 c3 f0 f1 f2 f3
      have d0 : World.cell? _ ⟨w.heap.size, 0, none⟩ = _ := R7.cell 0
      have d1 : World.cell? _ ⟨w.heap.size, 1, none⟩ = _ := R7.cell 1
      have d2 : World.cell? _ ⟨w.heap.size, 2, none⟩ = _ := R7.cell 2
      have d3 : World.cell? _ ⟨w.heap.size, 3, none⟩ = _ := R7.cell 3
      exact bodyPost_ret (v := .tuple #[siV 0 0 0 0, .int .i64 0]) (by simp [results, Try.results20, go_sem, d0, d1, d2, d3]) rfl ⟨rfl, B7⟩
end Go.Proofs.Ytkfljominljliaa
