import Derived.Test.YtelhieinkdmpfaaDoorSG
namespace Go.Proofs.YtelhieinkdmpfaaDoor.Sh
open Go.RowKit Go.Shelf
attribute [local go_sem] Oper.semAt_some

/- THE DOCUMENT's PARSE, ANY TEXT. -/
set_option maxRecDepth 100000 in
set_option maxHeartbeats 4000000 in
theorem rparse_any (s : ByteArray) (w : World) (hs : s.size ≤ 256) : Calls Tryd.prog 27 #[.string s] w (RP w (untext s.data.toList)) := by
  obtain ⟨i0, hi, hz0, hz1, hz2⟩ := info_parts int_info
  obtain ⟨L, hL⟩ : ∃ L, L = s.data.toList := ⟨_, rfl⟩
  have hLs : L.length = s.size := by rw [hL]; rfl
  have hget : ∀ k (h : k < s.size) (h' : k < L.length), s[k] = L[k] := fun k h h' => by subst hL; rfl
  rw [← hL]
  have HLS := Lib.hid hLs
  have HG := Lib.hid hget
  clear hL hLs hget
  have h1 : decide (256 < s.size) = false := decide_eq_false (by omega)
  have h2 : decide ((256 : Int) < (s.size : Int)) = false := decide_eq_false (by omega)
  go_enter Tryd.func27, Tryd.ntmps27
  go_wp2_with fail
  go_loopw [4, 5] (fun s4 s5 wr => ∃ (i : Nat) (l : Ls), i ≤ s.size ∧ s5 = .int .i64 (i : Int) ∧ Hid (untext (L.take i) = some l ∧ l.length = i) ∧ GI w s4 i l wr) (fun _ s5 _ => s.size - (_root_.Go.RowKit.intOf s5).toNat)
  case atStart => exact ⟨0, [], Nat.zero_le _, rfl, Lib.hid ⟨by rw [List.take_zero]; rfl, rfl⟩, gi_nil w⟩
  case round =>
    obtain ⟨i, l, hil, rfl, HU, Av, cv, rfl, ho, hb⟩ := hrel
    obtain ⟨w5, hw5⟩ : ∃ x : World, x = wr := ⟨_, rfl⟩
    subst hw5
    by_cases hlt : i < s.size
    · have hiL : i < L.length := by rw [HLS.out]; exact hlt
      have hx := HG.out i hlt hiL
      obtain ⟨b, hbb⟩ : ∃ b, b = L[i] := ⟨_, rfl⟩
      rw [← hbb] at hx
      have HB := Lib.hid hbb
      have HO := Lib.hid (show GI w (.slice Av i cv) i l w5 from ⟨Av, cv, rfl, ho, hb⟩)
      clear hbb ho hb
      go_wp2_with fail
      go_loopw [6, 7] (fun s6 s7 wr => ∃ k : Nat, k ≤ 5 ∧ s7 = .int .i64 (k : Int) ∧ s6 = .int .i64 (fnd b k) ∧ ∃ q, wr = w5.drewN q) (fun _ s7 _ => 5 - (_root_.Go.RowKit.intOf s7).toNat)
      case atStart => exact ⟨0, by omega, rfl, by rw [fnd_zero], 0, rfl⟩
      case round =>
        obtain ⟨k, hk5, rfl, rfl, q, rfl⟩ := hrel
        by_cases hk : k < 5
        · have j0 : (0 : Int) ≤ (k : Int) := by omega
          have j1 : (k : Int) < 5 := by omega
          have j2 : decide ((k : Int) < 5) = true := decide_eq_true j1
          have j3 : decide (k < 5) = true := decide_eq_true hk
          have j4 : k < (⟨#[102, 107, 108, 104, 103]⟩ : ByteArray).size := hk
          have hidx : (⟨#[102, 107, 108, 104, 103]⟩ : ByteArray)[k]'j4 = letter k := by
            obtain rfl | rfl | rfl | rfl | rfl : k = 0 ∨ k = 1 ∨ k = 2 ∨ k = 3 ∨ k = 4 := by omega
            all_goals rfl
          obtain ⟨f, hf⟩ : ∃ f, f = fnd b k := ⟨_, rfl⟩
          obtain ⟨ch, hch⟩ : ∃ ch, ch = letter (k : Int) := ⟨_, rfl⟩
          rw [← hch] at hidx
          rw [← hf]
          by_cases he : b = ch
          · have HH := Lib.hid (fnd_hit hk (he.trans hch))
            have e1 : ((ch.toNat : Int) == (b.toNat : Int)) = true := by rw [he]; simp
            clear hf hch he
            go_wp2_with fail
            go_quiet (fail)
            go_wp2_with fail
            go_roundw
            case rel => exact ⟨k + 1, by omega, by go_num, by rw [HH.out], _, rfl⟩
            case measure => simp [_root_.Go.RowKit.intOf]; omega
          · have HH := Lib.hid ((fnd_miss hk (fun e => he (e.trans hch.symm))).trans hf.symm)
            have e1 : ((ch.toNat : Int) == (b.toNat : Int)) = false := by
              rw [beq_eq_false_iff_ne]
              intro e
              exact he (UInt8.toNat_inj.1 (by omega))
            clear hf hch he
            go_wp2_with fail
            go_quiet (fail)
            go_wp2_with fail
            go_roundw
            case rel => exact ⟨k + 1, by omega, by go_num, by rw [HH.out], _, rfl⟩
            case measure => simp [_root_.Go.RowKit.intOf]; omega
        · obtain rfl : k = 5 := by omega
          have hown : GI w (.slice Av i cv) i l (w5.drewN q) := by
            obtain ⟨A9, c9, e9, ho, hb⟩ := HO.out
            exact ⟨A9, c9, e9, ho, below_drewN hb q⟩
          obtain ⟨wq, hwq⟩ : ∃ x, x = w5.drewN q := ⟨_, rfl⟩
          rw [← hwq] at hown ⊢
          clear hwq HO
          rw [fnd_all]
          cases hu : unletter b with
          | none =>
            have HF := Lib.hid (show untext L = none from untext_none hu (by rw [HB.out]; exact List.getElem_mem hiL))
            have HW := Lib.hid (gi_wi hown).2
            clear hown hu
            simp only [Option.getD_none]
            go_wp2_with fail
            go_ret2
            exact ⟨⟨_, by rw [HF.out]; rfl, by rw [HF.out]; exact Wi.nil_ _, fun g hg => by cases hg⟩, HW.out⟩
          | some z =>
            obtain ⟨A9, c9, e9, ho, hb⟩ := hown
            cases e9
            have hz := unletter_st hu
            have e1 : decide (z < 0) = false := decide_eq_false (by omega)
            have HU2 := Lib.hid (show untext (L.take (i + 1)) = some (l ++ [z]) ∧ (l ++ [z]).length = i + 1 from ⟨by rw [List.take_add_one, List.getElem?_eq_getElem hiL]; exact untext_snoc (by rw [← HB.out]; exact hu) HU.out.1, by simp [HU.out.2]⟩)
            have ho1 := ho.alloc (.cells #[.int .i64 z] 3)
            have hws := hb.size
            have HN := Lib.hid (fun v' w4 (a1 : World.ownsRow w4 w.heap.size 3 1 v' (i + 1) (izs l ++ [.int .i64 z])) a2 => gi_step (ob := .cells #[.int .i64 z] 3) ho hb a1 a2)
            clear ho hb hu hz
            simp only [Option.getD_some]
            go_wp2_with (at_builtin; refine wpList_append_sees rfl (.tmp 30) (.tmp 32) 34 rfl w.heap.size 3 i0 _ 1 8 Tryd.underlying34 hi hz0 hz1 hz2 rfl (by decide) _ i (izs l) rfl ho1 (wq.heap.size + 1) (some ⟨wq.heap.size, 0, none⟩) 1 1 [.int .i64 z] rfl rfl (fun _ => ⟨_, rfl, by simp, cell_one_at _ _ _⟩) (by simp [Value.oneCell']) (by unfold maxLen; omega) (by omega) (by simp; omega) ?_; intro v' w4 a1 a2 _; obtain ⟨A', c', rfl, hri⟩ := HN.out v' w4 a1 a2; have HR := Lib.hid hri; clear a1 a2 hri HN)
            go_roundw
            case rel => exact ⟨i + 1, l ++ [z], by omega, by go_num, HU2, HR.out⟩
            case measure => simp [_root_.Go.RowKit.intOf]; omega
    · obtain rfl : i = s.size := by omega
      have i2 : decide ((s.size : Int) < (s.size : Int)) = false := decide_eq_false (by omega)
      have HF := Lib.hid (show untext L = some l by rw [← HU.out.1, List.take_of_length_le (by rw [HLS.out]; exact Nat.le_refl _)])
      have HR := Lib.hid (gi_wi ⟨Av, cv, rfl, ho, hb⟩)
      have HLT := Lib.hid (fun g hg => (ho.lt g hg).1)
      clear ho hb
      go_wp2_with fail
      go_ret2
      exact ⟨⟨_, by rw [HF.out]; rfl, by rw [HF.out]; exact HR.out.1, HLT.out⟩, HR.out.2⟩
end Go.Proofs.YtelhieinkdmpfaaDoor.Sh
