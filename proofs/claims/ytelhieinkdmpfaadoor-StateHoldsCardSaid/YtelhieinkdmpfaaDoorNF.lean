import Derived.Test.YtelhieinkdmpfaaDoorNE
namespace Go.Proofs.YtelhieinkdmpfaaDoor.Sh
open Go.RowKit Go.Shelf
attribute [local go_sem] Oper.semAt_some

/- THE CODE's PARSE. -/
abbrev letters : ByteArray := ⟨#[102, 107, 108, 104, 103]⟩
def unl (b : UInt8) : Int := (unletter b).getD (-1)
theorem unl_index (b : UInt8) : firstIdx letters b = unl b := by
  rw [Lib.firstIdx_eq]
  have e : letters.data.toList = [102, 107, 108, 104, 103] := rfl
  rw [e]
  unfold unl unletter
  by_cases h0 : b = 102
  · subst h0; decide
  · rw [if_neg h0]
    by_cases h1 : b = 107
    · subst h1; decide
    · rw [if_neg h1]
      by_cases h2 : b = 108
      · subst h2; decide
      · rw [if_neg h2]
        by_cases h3 : b = 104
        · subst h3; decide
        · rw [if_neg h3]
          by_cases h4 : b = 103
          · subst h4; decide
          · rw [if_neg h4]
            have n0 : (102 == b) = false := beq_eq_false_iff_ne.2 fun e => h0 e.symm
            have n1 : (107 == b) = false := beq_eq_false_iff_ne.2 fun e => h1 e.symm
            have n2 : (108 == b) = false := beq_eq_false_iff_ne.2 fun e => h2 e.symm
            have n3 : (104 == b) = false := beq_eq_false_iff_ne.2 fun e => h3 e.symm
            have n4 : (103 == b) = false := beq_eq_false_iff_ne.2 fun e => h4 e.symm
            simp only [Lib.indexByte, n0, n1, n2, n3, n4, Bool.false_eq_true, if_false]
            rfl
theorem run_ibs (b : UInt8) (w : World) : (callFunc 46 #[.string letters, .int .u8 (b.toNat : Int)]).run Tryd.prog w = .ok (.value (.int .i64 (unl b))) w := by
  rw [run_callFunc_extern Tryd.func46 (by kernel_rfl) (by kernel_rfl) (by kernel_rfl) (e := Extern.BytealgIndexByte.indexByte) (by kernel_rfl), run_indexByte_string]
  simp only [Result.andThen, Int.toNat_natCast]
  rw [show b.toNat.toUInt8 = b from UInt8.ofNat_toNat, unl_index]
theorem lite_any (b : UInt8) (w : World) : Calls Tryd.prog 44 #[.string letters, .int .u8 (b.toNat : Int)] w fun e w' => e = .returned (.int .i64 (unl b)) ∧ w = w' := by
  have h := run_ibs b
  obtain ⟨z, hz⟩ : ∃ z, z = unl b := ⟨_, rfl⟩
  rw [← hz] at h ⊢
  clear hz
  go_enter Tryd.func44, Tryd.ntmps44
  go_wp2_with fail
  go_ret
  exact ⟨rfl, rfl⟩
theorem index_any (b : UInt8) (w : World) : Calls Tryd.prog 41 #[.string letters, .int .u8 (b.toNat : Int)] w fun e w' => e = .returned (.int .i64 (unl b)) ∧ w = w' := by
  have h := Lib.hid (lite_any b w)
  obtain ⟨z, hz⟩ : ∃ z, z = unl b := ⟨_, rfl⟩
  rw [← hz] at h ⊢
  clear hz
  go_enter Tryd.func41, Tryd.ntmps41
  go_wp2_with fail
  refine h.out.mono ?_
  rintro e w1 ⟨rfl, rfl⟩
  go_wp2_with fail
  go_ret
  exact ⟨rfl, rfl⟩
theorem zs_set (l : Ls) (z : Int) {k : Nat} (hk : 0 < k) : (l ++ zs k).set l.length z = (l ++ [z]) ++ zs (k - 1) := by
  obtain ⟨j, rfl⟩ : ∃ j, k = j + 1 := ⟨k - 1, by omega⟩
  rw [List.set_append_right _ _ (Nat.le_refl _), Nat.sub_self, show zs (j + 1) = 0 :: zs j from rfl, List.set_cons_zero]
  simp
/-- so far -/
structure Pz (w : World) (b g c n : Nat) (rest : List Value) (i : Nat) (l : Ls) (V : World) : Prop where
  rep : SRep V b g c (l ++ zs (n - i)) rest
  len : l.length = i
  lb : w.heap.size ≤ b
  lg : w.heap.size ≤ g
  below : Below w.heap.size w V
theorem Pz.step {w V V' : World} {b g c n i : Nat} {rest : List Value} {l : Ls} {z : Int} (h : Pz w b g c n rest i l V) (hb : Below V.heap.size V V') (hi : i < n) (hz : 0 ≤ z ∧ z ≤ 4) : Pz w b g c n rest (i + 1) (l ++ [z]) (V'.setCell ⟨g, i, none⟩ (.int .i64 z)) := by
  have h' := h.rep.below hb
  have e : (l ++ zs (n - i)).set i z = (l ++ [z]) ++ zs (n - (i + 1)) := by
    have := zs_set l z (show 0 < n - i by omega)
    rw [h.len] at this
    rw [this, show n - i - 1 = n - (i + 1) by omega]
  have hl : i < (l ++ zs (n - i)).length := by rw [List.length_append, h.len, zs_len]; omega
  have el : ((l ++ [z]) ++ zs (n - (i + 1))).length = (l ++ zs (n - i)).length := by rw [← e, List.length_set]
  refine ⟨⟨?_, ?_, by rw [el]; exact h'.le, by rw [el]; exact h'.most, fun y hy => ?_⟩, by rw [List.length_append, h.len]; rfl, h.lb, h.lg, (below0 h.below hb).setCell h.lg _⟩
  · rw [el]
    exact h'.obj.same (heap_set h'.ne)
  · have := h'.row.set i (.int .i64 z)
    rw [List.set_append_left _ _ (by rw [izs_len]; exact hl), izs_set, e] at this
    exact this
  · rw [← e] at hy
    rcases List.mem_or_eq_of_mem_set hy with hy | rfl
    · exact h'.sts y hy
    · exact hz
def ParseP (w : World) (o : Option Ls) (e : Ending) (w' : World) : Prop := match o with
  | some l => NewP w l e w'
  | none => e = .returned (.tuple #[.pointer none, .int .i64 241]) ∧ Below w.heap.size w w'
set_option maxRecDepth 100000 in
set_option maxHeartbeats 4000000 in
theorem parse_any (s : ByteArray) (w : World) (hs : s.size ≤ 256) : Calls Tryd.prog 26 #[.string s] w (ParseP w (untext s.data.toList)) := by
  obtain ⟨L, hL⟩ : ∃ L, L = s.data.toList := ⟨_, rfl⟩
  have hLs : L.length = s.size := by rw [hL]; rfl
  have hget : ∀ k (h : k < s.size) (h' : k < L.length), s[k] = L[k] := fun k h h' => by subst hL; rfl
  rw [← hL]
  have HLS := Lib.hid hLs
  have HG := Lib.hid hget
  have HNEW := Lib.hid (new_ok w s.size hs)
  have HIX := Lib.hid (fun b w => index_any b w)
  have HX : Hid (∀ l e w', untext L = some l → NewP w l e w' → ParseP w (untext L) e w') := Lib.hid (fun l e w' h1 h2 => by rw [h1]; exact h2)
  have HN : Hid (∀ w', untext L = none → Below w.heap.size w w' → ParseP w (untext L) (.returned (.tuple #[.pointer none, .int .i64 241])) w') := Lib.hid (fun w' h1 h2 => by rw [h1]; exact ⟨rfl, h2⟩)
  clear hL hLs hget
  go_enter Tryd.func26, Tryd.ntmps26
  go_wp2_with fail
  refine wp_scope_jump 1 fun R hR hJm => ?_
  go_wp2_with fail
  refine HNEW.out.mono ?_
  rintro e w1 ⟨b, g, c, rest, rfl, h1, h2, h3, h4⟩
  have HST := Lib.hid (show Pz w b g c s.size rest 0 [] w1 from ⟨by rw [List.nil_append]; exact h1, rfl, h2, h3, h4⟩)
  clear h1 h2 h3 h4 HNEW
  go_wp2_with fail
  go_loopw [18] (fun s18 wr => ∃ (i : Nat) (l : Ls), i ≤ s.size ∧ s18 = .int .i64 (i : Int) ∧ Hid (untext (L.take i) = some l) ∧ Pz w b g c s.size rest i l wr) (fun s18 _ => s.size - (_root_.Go.RowKit.intOf s18).toNat)
  case atStart => exact ⟨0, [], Nat.zero_le _, rfl, Lib.hid (by rw [List.take_zero]; rfl), HST.out⟩
  case round =>
    obtain ⟨i, l, hil, rfl, HU, hp⟩ := hrel
    obtain ⟨w5, hw5⟩ : ∃ x : World, x = wr := ⟨_, rfl⟩
    subst hw5
    have hc0 := hp.rep.c0
    by_cases hlt : i < s.size
    · have hiL : i < L.length := by rw [HLS.out]; exact hlt
      have hx := HG.out i hlt hiL
      have j0 : (0 : Int) ≤ (i : Int) := by omega
      have j1 : (i : Int) < (s.size : Int) := by omega
      have j2 : decide ((i : Int) < (s.size : Int)) = true := decide_eq_true j1
      have j3 : decide (i < s.size) = true := decide_eq_true hlt
      obtain ⟨x, hbb⟩ : ∃ x, x = L[i] := ⟨_, rfl⟩
      rw [← hbb] at hx
      have HB := Lib.hid hbb
      have HXX := HIX.out x w5
      have hll : (l ++ zs (s.size - i)).length = s.size := by rw [List.length_append, hp.len, zs_len]; omega
      rw [hll] at hc0
      cases hu : unletter x with
      | none =>
        have HF := Lib.hid (show untext L = none from untext_none hu (by rw [HB.out]; exact List.getElem_mem hiL))
        have HW := Lib.hid hp.below
        rw [show unl x = -1 by unfold unl; rw [hu]; rfl] at HXX
        have HXX := Lib.hid HXX
        clear hp hu hbb hll
        go_wp2_with fail
        refine HXX.out.mono ?_
        rintro e w6 ⟨rfl, rfl⟩
        go_wp2_with fail
        refine wp_goto (hJm.out _ _ _ _ _ rfl ?_)
        go_wp2_with fail
        refine hR.out _ _ _ _ (by simp) ?_
        go_ret2
        exact HN.out _ HF.out HW.out
      | some z =>
        have hz := unletter_st hu
        rw [show unl x = z by unfold unl; rw [hu]; rfl] at HXX
        have HXX := Lib.hid HXX
        have e1 : decide (z < 0) = false := decide_eq_false (by omega)
        have HU2 := Lib.hid (show untext (L.take (i + 1)) = some (l ++ [z]) from by rw [List.take_add_one, List.getElem?_eq_getElem hiL]; exact untext_snoc (by rw [← HB.out]; exact hu) HU.out)
        have HP2 := Lib.hid (hp.step (Below.refl _ _) hlt ⟨hz.1, hz.2.1⟩)
        have hl : i < (l ++ zs (s.size - i)).length := by rw [hll]; exact hlt
        obtain ⟨u, d1⟩ : ∃ u, w5.cell? ⟨g, i, none⟩ = some u := ⟨_, by
          rw [hp.rep.row.cell, List.getElem?_append_left (by rw [izs_len]; exact hl)]
          exact izs_get _ hl⟩
        have d2 : w5.frozen? ⟨g, i, none⟩ = false := hp.rep.row.frozen i
        clear hp hu hbb hll hz hl
        go_wp2_with fail
        refine HXX.out.mono ?_
        rintro e w6 ⟨rfl, rfl⟩
        go_wp2_with fail
        go_roundw
        case rel => exact ⟨i + 1, l ++ [z], by omega, by go_num, HU2, HP2.out⟩
        case measure => simp [_root_.Go.RowKit.intOf]; omega
    · obtain rfl : i = s.size := by omega
      have i2 : decide ((s.size : Int) < (s.size : Int)) = false := decide_eq_false (by omega)
      have HF := Lib.hid (show untext L = some l by rw [← HU.out, List.take_of_length_le (by rw [HLS.out]; exact Nat.le_refl _)])
      have HFIN := Lib.hid (show NewP w l (.returned (.tuple #[pb b, .int .i64 0])) w5 from by
        have := hp.rep
        rw [Nat.sub_self, show zs 0 = [] from rfl, List.append_nil] at this
        exact ⟨b, g, c, rest, rfl, this, hp.lb, hp.lg, hp.below⟩)
      clear hp hc0
      go_wp2_with fail
      refine hR.out _ _ _ _ (by simp) ?_
      go_ret2
      exact HX.out _ _ _ HF.out HFIN.out
theorem parse_long (s : ByteArray) (w : World) (hs : 256 < s.size) : Calls Tryd.prog 26 #[.string s] w fun e w' => e = .returned (.tuple #[.pointer none, .int .i64 241]) ∧ Below w.heap.size w w' := by
  have HNEW := Lib.hid (new_no w (s.size : Int) (.inr (by omega)))
  clear hs
  go_enter Tryd.func26, Tryd.ntmps26
  go_wp2_with fail
  refine wp_scope_jump 1 fun R hR hJm => ?_
  go_wp2_with fail
  refine HNEW.out.mono ?_
  rintro e w1 ⟨rfl, hb⟩
  have HB := Lib.hid hb
  clear hb HNEW
  go_wp2_with fail
  refine wp_goto (hJm.out _ _ _ _ _ rfl ?_)
  go_wp2_with fail
  refine hR.out _ _ _ _ (by simp) ?_
  go_ret2
  exact ⟨rfl, HB.out⟩
theorem sparse (s : ByteArray) (l : Ls) (w : World) (hs : s.size ≤ 256) (hu : untext s.data.toList = some l) : Calls Tryd.prog 26 #[.string s] w fun e w' => ∃ v F, e = .returned (.tuple #[v, .int .i64 0]) ∧ HasS w' v l F ∧ (∀ k, F k → w.heap.size ≤ k) ∧ Below w.heap.size w w' := by
  have h := parse_any s w hs
  rw [hu] at h
  refine h.mono ?_
  rintro e w' ⟨b, g, c, rest, rfl, h1, h2, h3, h4⟩
  exact ⟨_, _, rfl, ⟨b, g, c, rest, rfl, h1, rfl⟩, fun k hk => by rcases hk with rfl | rfl <;> assumption, h4⟩
theorem sparse_no (s : ByteArray) (w : World) (h : 256 < s.size ∨ untext s.data.toList = none) : Calls Tryd.prog 26 #[.string s] w fun e w' => e = .returned (.tuple #[.pointer none, .int .i64 241]) ∧ Below w.heap.size w w' := by
  by_cases h2 : 256 < s.size
  · exact parse_long s w h2
  · have h1 := parse_any s w (by omega)
    rw [h.resolve_left h2] at h1
    exact h1
theorem snew (w : World) (n : Nat) (h : n ≤ 256) : Calls Tryd.prog 13 #[.int .i64 (n : Int)] w fun e w' => ∃ v F, e = .returned (.tuple #[v, .int .i64 0]) ∧ HasS w' v (zs n) F ∧ (∀ k, F k → w.heap.size ≤ k) ∧ Below w.heap.size w w' := by
  refine (new_ok w n h).mono ?_
  rintro e w' ⟨b, g, c, rest, rfl, h1, h2, h3, h4⟩
  exact ⟨_, _, rfl, ⟨b, g, c, rest, rfl, h1, rfl⟩, fun k hk => by rcases hk with rfl | rfl <;> assumption, h4⟩
end Go.Proofs.YtelhieinkdmpfaaDoor.Sh
