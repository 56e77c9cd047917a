import Derived.Test.YtbiopegophdgiaaDoorIs
namespace Go.Proofs.YtbiopegophdgiaaDoor
open Go.RowKit Go.Shelf
attribute [local go_sem] Oper.semAt_some

/- BITSFINDS, BITSBOUNDS. -/

set_option maxHeartbeats 1000000 in
theorem bitsFinds_any (s : ByteArray) (k f : Int) (w : World) (ht : Tab w) (_hs : s.size ≤ maxLen) (hk2 : k ≤ 9223372036854775807) :
    Calls Tryd.prog 4 #[.string s, .int .i64 k, .int .i64 f] w fun e w' => e = .returned (.bool true) ∧ Below w.heap.size w w' := by
  have HT := Lib.hid ht
  clear ht
  by_cases hbig : 600 < s.size
  · have e1 : decide (600 < s.size) = true := decide_eq_true hbig
    have e2 : decide ((600 : Int) < (s.size : Int)) = true := decide_eq_true (by omega)
    clear hbig
    go_enter Tryd.func4, Tryd.ntmps4
    go_wp2_with fail
    refine (works_any _ HT.out).mono ?_
    rintro e w1 ⟨rfl, hb1⟩
    go_wp2_with fail
    go_ret
    exact ⟨rfl, hb1⟩
  · have e1 : decide (600 < s.size) = false := decide_eq_false hbig
    have e2 : decide ((600 : Int) < (s.size : Int)) = false := decide_eq_false (by omega)
    have hp := Lib.hid (fun w => parse_any s w (by omega))
    have hq := Lib.hid (fun w => refparse_any s w (by omega))
    rcases hpp : parsed s.data.toList with _ | l
    · rw [hpp] at hp hq
      clear hbig hpp
      go_enter Tryd.func4, Tryd.ntmps4
      go_wp2_with fail
      refine (hp.out _).mono ?_
      rintro e w1 ⟨rfl, hb1⟩
      go_wp2_with fail
      refine (hq.out _).mono ?_
      rintro e w2 ⟨rfl, hb2⟩
      have hB2 := below0 hb1 hb2
      go_wp2_with fail
      refine (num_any _ _).mono ?_
      rintro e w3 ⟨rfl, rfl⟩
      go_wp2_with fail
      refine (works_any _ (HT.out.below hB2)).mono ?_
      rintro e w3 ⟨rfl, hb3⟩
      have hB3 := below0 hB2 hb3
      go_wp2_with fail
      go_ret
      exact ⟨rfl, hB3⟩
    · rw [hpp] at hp hq
      clear hbig hpp
      go_enter Tryd.func4, Tryd.ntmps4
      go_wp2_with fail
      refine (hp.out _).mono ?_
      rintro e w1 ⟨b, g, rfl, _, _, hr1, hb1⟩
      go_wp2_with fail
      refine (hq.out _).mono ?_
      rintro e w2 ⟨v, rfl, hv2, hb2⟩
      have hB2 := below0 hb1 hb2
      have hM2 : Mk w2 (.pointer (some ⟨b, 0, none⟩)) l := .inr ⟨b, g, rfl, hr1.below hb2⟩
      have hf1 := Lib.hid (finds_any _ v l k f true w2 hM2 hv2 (HT.out.below hB2) hk2)
      go_wp2_with fail
      refine (num_any _ _).mono ?_
      rintro e w3 ⟨rfl, rfl⟩
      go_wp2_with fail
      refine (hf1.out).mono ?_
      rintro e w3 ⟨rfl, hb3⟩
      have hB3 := below0 hB2 hb3
      have hM3 := hM2.below hb3
      have hv3 := hv2.below hb3
      have hf2 := Lib.hid (finds_any _ v l k f false w3 hM3 hv3 (HT.out.below hB3) hk2)
      go_wp2_with fail
      refine (hf2.out).mono ?_
      rintro e w4 ⟨rfl, hb4⟩
      have hB4 := below0 hB3 hb4
      have hf3 := Lib.hid (is_any _ v l w4 (hM3.below hb4) (hv3.below hb4) (HT.out.below hB4))
      go_wp2_with fail
      refine (hf3.out).mono ?_
      rintro e w5 ⟨rfl, hb5⟩
      have hB5 := below0 hB4 hb5
      go_wp2_with fail
      refine (works_any _ (HT.out.below hB5)).mono ?_
      rintro e w6 ⟨rfl, hb6⟩
      have hB6 := below0 hB5 hb6
      go_wp2_with fail
      go_ret
      exact ⟨rfl, hB6⟩
end Go.Proofs.YtbiopegophdgiaaDoor
