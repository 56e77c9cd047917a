import Derived.Test.YtelhieinkdmpfaaDoorSD
namespace Go.Proofs.YtelhieinkdmpfaaDoor.Sh
open Go.RowKit Go.Shelf
attribute [local go_sem] Oper.semAt_some

/- THE DOCUMENT's PLACES. -/
set_option maxHeartbeats 1000000 in
theorem rplaces_any (l : Ls) (A : Option Addr) (n c : Nat) (t : Int) (w : World) (hl : l.length = n) (hn : n ≤ 256) (hs : Sees w w.heap.size A (izs l)) :
    Calls Tryd.prog 31 #[.slice A n c, .int .i64 t] w fun e w' => ∃ v, e = .returned v ∧ Wi w' v (hz (places l t)) ∧ Below w.heap.size w w' := by
  obtain ⟨i0, hi, hz0, hz1, hz2⟩ := info_parts int_info
  have HS := Lib.hid (fun V (hb : Below w.heap.size w V) i (hi : i < l.length) => (show ∃ ad, A = some ad ∧ V.cell? (ad.add i) = some (.int .i64 l[i]) from by
    obtain ⟨ad, e, _, hc⟩ := sees_int ((hs.below hb).more hb.size) hi
    exact ⟨ad, e, hc⟩))
  have HL := Lib.hid hl
  have HST : Hid (GI w (.slice none 0 0) (placesTo l t 0).length (hz (placesTo l t 0)) w) := Lib.hid (gi_nil w)
  clear hs hl
  go_enter Tryd.func31, Tryd.ntmps31
  go_wp2_with fail
  go_loopw [5, 6] (fun s5 s6 wr => ∃ i : Nat, s6 = .int .i64 (i : Int) ∧ i ≤ n ∧ GI w s5 (placesTo l t i).length (hz (placesTo l t i)) wr) (fun _ s6 _ => n - (_root_.Go.RowKit.intOf s6).toNat)
  case atStart => exact ⟨0, rfl, Nat.zero_le _, HST.out⟩
  case round =>
    obtain ⟨i, rfl, hin, Av, cv, rfl, ho, hb⟩ := hrel
    by_cases hlt : i < n
    · have hil : i < l.length := by rw [HL.out]; exact hlt
      have j0 : (0 : Int) ≤ (i : Int) := by omega
      have j1 : (i : Int) < (n : Int) := by omega
      have i2 : decide ((i : Int) < (n : Int)) = true := decide_eq_true j1
      obtain ⟨ad, rfl, hc⟩ := HS.out wr hb i hil
      have hst := placesTo_step l t i
      have hlen := placesTo_len l t i
      obtain ⟨m, hm⟩ : ∃ m, m = (placesTo l t i).length := ⟨_, rfl⟩
      rw [getD_get hil] at hst
      obtain ⟨x, hx⟩ : ∃ x, x = l[i] := ⟨_, rfl⟩
      rw [← hx] at hc hst
      clear hx
      by_cases he : x = t
      · subst he
        have e1 : (x == x) = true := by simp
        rw [if_pos rfl] at hst
        have ho1 := ho.alloc (.cells #[.int .i64 (i : Int)] 3)
        have hws := hb.size
        have HN := Lib.hid (fun v' w4 (a1 : World.ownsRow w4 w.heap.size 3 1 v' ((placesTo l x i).length + 1) (izs (hz (placesTo l x i)) ++ [.int .i64 (i : Int)])) a2 => gi_step (ob := .cells #[.int .i64 (i : Int)] 3) ho hb a1 a2)
        have HSTEP := Lib.hid hst
        rw [← hm] at ho1 HN hlen
        rw [← hm]
        have HM := Lib.hid hm
        clear ho hb hst hm
        go_wp2_with (at_builtin; refine wpList_append_sees rfl (.tmp 19) (.tmp 21) 34 rfl w.heap.size 3 i0 _ 1 8 Tryd.underlying34 hi hz0 hz1 hz2 rfl (by decide) _ m _ rfl ho1 (wr.heap.size + 1) (some ⟨wr.heap.size, 0, none⟩) 1 1 [.int .i64 (i : Int)] rfl rfl (fun _ => ⟨_, rfl, by simp, cell_one_at _ _ _⟩) (by simp [Value.oneCell']) (by unfold maxLen; omega) (by omega) (by simp; omega) ?_; intro v' w4 a1 a2 _; obtain ⟨A', c', rfl, hri⟩ := HN.out v' w4 a1 a2; have HR := Lib.hid hri; clear a1 a2 hri HN)
        go_roundw
        case rel => exact ⟨i + 1, by go_num, by omega, by rw [HSTEP.out, List.length_append, ← HM.out]; simpa [hz] using HR.out⟩
        case measure => simp [_root_.Go.RowKit.intOf]; omega
      · have e1 : (x == t) = false := beq_eq_false_iff_ne.2 he
        rw [if_neg he, List.append_nil] at hst
        have HR := Lib.hid (show GI w (.slice Av (placesTo l t i).length cv) (placesTo l t (i + 1)).length (hz (placesTo l t (i + 1))) wr by rw [hst]; exact ⟨Av, cv, rfl, ho, hb⟩)
        clear ho hb hst he hm
        go_wp2_with fail
        go_roundw
        case rel => exact ⟨i + 1, by go_num, by omega, HR.out⟩
        case measure => simp [_root_.Go.RowKit.intOf]; omega
    · obtain rfl : i = n := by omega
      have i2 : decide ((i : Int) < (i : Int)) = false := decide_eq_false (by omega)
      have HF := Lib.hid (show Wi wr (.slice Av (placesTo l t i).length cv) (hz (places l t)) ∧ Below w.heap.size w wr by
        unfold places
        rw [HL.out]
        exact gi_wi ⟨Av, cv, rfl, ho, hb⟩)
      clear ho hb
      go_wp2_with fail
      go_ret
      exact ⟨_, rfl, HF.out.1, HF.out.2⟩
theorem rplaces_wi (l : Ls) (v : Value) (t : Int) (w : World) (hn : l.length ≤ 256) (h : Wi w v l) :
    Calls Tryd.prog 31 #[v, .int .i64 t] w fun e w' => ∃ v, e = .returned v ∧ Wi w' v (hz (places l t)) ∧ Below w.heap.size w w' := by
  obtain ⟨A, c, rfl, _, hs⟩ := h.sees
  exact rplaces_any l A l.length c t w rfl hn hs
end Go.Proofs.YtelhieinkdmpfaaDoor.Sh
