import Derived.Test.YtbiopegophdgiaaDoorActIn
namespace Go.Proofs.YtbiopegophdgiaaDoor
open Go.RowKit Go.Shelf
attribute [local go_sem] Oper.semAt_some

/- THE CHAPTER'S ROWS. -/

theorem keep_below {w w1 w2 : World} {g : Nat} (hb : Below w.heap.size w w1) (hk : Keep (· = g) w1 w2) (hg : w.heap.size ≤ g) : Below w.heap.size w w2 :=
  hb.trans (hk.below (by rintro k rfl; exact hg) hb.size)
theorem Tab.keep {w w1 w2 : World} {g : Nat} (ht : Tab w) (hb : Below w.heap.size w w1) (hk : Keep (· = g) w1 w2) (hg : w.heap.size ≤ g) : Tab w2 := ht.below (keep_below hb hk hg)

set_option maxHeartbeats 4000000 in
theorem works_any (w : World) (ht : Tab w) : Calls Tryd.prog 8 #[] w fun e w' => e = .returned (.bool true) ∧ Below w.heap.size w w' := by
  have HT := Lib.hid ht
  have hnew := Lib.hid (fun w => new_ok 5 w (by decide))
  clear ht
  go_enter Tryd.func8, Tryd.ntmps8
  go_wp2_with fail
  refine (hnew.out _).mono ?_
  rintro e w1 ⟨b, g, rfl, hb0, hg0, hr1, hB1⟩
  have hs1 := Lib.hid (set_in b g (List.replicate 5 false) 1 true w1 hr1 (by decide))
  clear hr1
  go_wp2_with fail
  refine (hs1.out).mono ?_
  rintro e w2 ⟨rfl, hr2, hk2⟩
  have hB2 := keep_below hB1 hk2 hg0
  have hs2 := Lib.hid (set_in b g ((List.replicate 5 false).set 1 true) 4 true w2 hr2 (by decide))
  clear hr2 hB1 hk2
  rw [show ((List.replicate 5 false)[1]?).getD false = false from rfl]
  go_wp2_with fail
  refine (hs2.out).mono ?_
  rintro e w3 ⟨rfl, hr3, hk3⟩
  have hB3 := keep_below hB2 hk3 hg0
  clear hB2 hk3
  rw [show (((List.replicate 5 false).set 1 true)[4]?).getD false = false from rfl]
  obtain ⟨l, hl⟩ : ∃ l, l = ((List.replicate 5 false).set 1 true).set 4 true := ⟨_, rfl⟩
  rw [← hl] at hr3
  have HL := Lib.hid hl
  clear hl
  have hM3 : Mk w3 (.pointer (some ⟨b, 0, none⟩)) l := .inr ⟨b, g, rfl, hr3⟩
  have htx := Lib.hid (text_any _ l w3 hM3)
  rw [show str (txb l) = ⟨#[48, 49, 48, 48, 49]⟩ by rw [HL.out]; rfl] at htx
  go_wp2_with fail
  refine (htx.out).mono ?_
  rintro e w4 ⟨rfl, hb4⟩
  have hB4 := hB3.trans (hb4.mono hB3.size)
  have hr4 := hr3.below hb4
  have hM4 : Mk w4 (.pointer (some ⟨b, 0, none⟩)) l := .inr ⟨b, g, rfl, hr4⟩
  have hct := Lib.hid (count_any _ l w4 hM4)
  rw [show (l.count true : Int) = 2 by rw [HL.out]; rfl] at hct
  clear hb4 hr3 hM3 hB3
  go_wp2_with fail
  refine (hct.out).mono ?_
  rintro e w5 ⟨rfl, hb5⟩
  have hB5 := hB4.trans (hb5.mono hB4.size)
  have hr5 := hr4.below hb5
  have hM5 : Mk w5 (.pointer (some ⟨b, 0, none⟩)) l := .inr ⟨b, g, rfl, hr5⟩
  have hn1 := Lib.hid (nth_pos _ l 1 true w5 hM5 (HT.out.below hB5) (by omega) (by omega))
  rw [show nthR l 1 true = some 4 by rw [HL.out]; rfl] at hn1
  clear hb5 hr4 hM4 hB4
  go_wp2_with fail
  refine (hn1.out).mono ?_
  rintro e w6 ⟨rfl, hb6⟩
  have hB6 := hB5.trans (hb6.mono hB5.size)
  have hr6 := hr5.below hb6
  have hM6 : Mk w6 (.pointer (some ⟨b, 0, none⟩)) l := .inr ⟨b, g, rfl, hr6⟩
  have hn2 := Lib.hid (nth_pos _ l 2 false w6 hM6 (HT.out.below hB6) (by omega) (by omega))
  rw [show nthR l 2 false = some 3 by rw [HL.out]; rfl] at hn2
  clear hb6 hr5 hM5 hB5
  rw [show numO (some 4) = 4 from rfl, show (some 4).isSome = true from rfl]
  go_wp2_with fail
  refine (hn2.out).mono ?_
  rintro e w7 ⟨rfl, hb7⟩
  have hB7 := hB6.trans (hb7.mono hB6.size)
  have hr7 := hr6.below hb7
  have hM7 : Mk w7 (.pointer (some ⟨b, 0, none⟩)) l := .inr ⟨b, g, rfl, hr7⟩
  have hn3 := Lib.hid (next_any _ l 2 true w7 hM7 (HT.out.below hB7))
  rw [show nextR l 2 true = some 4 by rw [HL.out]; rfl] at hn3
  clear hb7 hr6 hM6 hB6
  rw [show numO (some 3) = 3 from rfl, show (some 3).isSome = true from rfl]
  go_wp2_with fail
  refine (hn3.out).mono ?_
  rintro e w8 ⟨rfl, hb8⟩
  have hB8 := hB7.trans (hb8.mono hB7.size)
  have hr8 := hr7.below hb8
  have hs3 := Lib.hid (set_in b g l 1 true w8 hr8 (by rw [HL.out]; decide))
  clear hb8 hr7 hM7 hB7
  rw [show numO (some 4) = 4 from rfl, show (some 4).isSome = true from rfl]
  go_wp2_with fail
  refine (hs3.out).mono ?_
  rintro e w9 ⟨rfl, hr9, hk9⟩
  have hB9 := keep_below hB8 hk9 hg0
  rw [show (l[1]?).getD false = true by rw [HL.out]; rfl]
  rw [show l.set 1 true = l by rw [HL.out]; rfl] at hr9
  have hs4 := Lib.hid (set_out b g l 5 true w9 hr9 (.inr (by rw [HL.out]; decide)))
  clear hr8 hB8 hk9
  go_wp2_with fail
  refine (hs4.out).mono ?_
  rintro e w10 ⟨rfl, hb10⟩
  have hB10 := hB9.trans (hb10.mono hB9.size)
  have hr10 := hr9.below hb10
  have hM10 : Mk w10 (.pointer (some ⟨b, 0, none⟩)) l := .inr ⟨b, g, rfl, hr10⟩
  have hn4 := Lib.hid (nth_pos _ l 2 true w10 hM10 (HT.out.below hB10) (by omega) (by omega))
  rw [show nthR l 2 true = none by rw [HL.out]; rfl] at hn4
  clear hb10 hr9 hB9
  go_wp2_with fail
  refine (hn4.out).mono ?_
  rintro e w11 ⟨rfl, hb11⟩
  have hB11 := hB10.trans (hb11.mono hB10.size)
  have hp := Lib.hid (parse_any ⟨#[48, 49, 50]⟩ w11 (by decide))
  rw [show parsed (⟨#[48, 49, 50]⟩ : ByteArray).data.toList = none from rfl] at hp
  clear hb11 hr10 hM10 hB10
  rw [show numO none = 0 from rfl, show (none : Option Nat).isSome = false from rfl]
  go_wp2_with fail
  refine (hp.out).mono ?_
  rintro e w12 ⟨rfl, hb12⟩
  have hB12 := hB11.trans (hb12.mono hB11.size)
  clear hb12 hB11
  go_wp2_with (go_at_call 14; refine (num_any _ _).mono ?_; rintro e w' ⟨rfl, rfl⟩)
  go_ret
  exact ⟨rfl, hB12⟩
end Go.Proofs.YtbiopegophdgiaaDoor
