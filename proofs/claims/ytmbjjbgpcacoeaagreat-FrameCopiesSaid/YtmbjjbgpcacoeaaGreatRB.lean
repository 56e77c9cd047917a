import Derived.Test.YtmbjjbgpcacoeaaGreatRA
namespace Go.Proofs.YtmbjjbgpcacoeaaGreat
open Go.RowKit Go.Shelf Go.Maps Go.Sort

/- THE DOCUMENT's POOL: ASKS, READ. -/
theorem reach_4 {p : Pl} {i a m : Int} {n : Nat} (hl : p.fr.length = n) (h : i < 0 ∨ (n : Int) ≤ i ∨ a < 0 ∨ 256 < a ∨ m < 0 ∨ 256 - a < m) : reachE p i a m = 4 := by
  unfold reachE
  rw [if_pos]
  simp only [frameB, holdsB, Bool.and_eq_true, decide_eq_true_eq]
  omega
theorem reach_5 {p : Pl} {k : Nat} {a m : Int} {n : Nat} (hl : p.fr.length = n) (hk : k < p.fr.length) (h3 : ¬ a < 0) (h4 : ¬ 256 < a) (h5 : ¬ m < 0) (h6 : ¬ 256 - a < m) : reachE p (k : Int) a m = if oi p.fr[k] < 0 then 5 else 0 := by
  unfold reachE
  rw [if_neg]
  · rw [Int.toNat_natCast, show frameO p k = p.fr[k] by unfold frameO; rw [List.getElem?_eq_getElem hk]; rfl]
    cases p.fr[k] with
    | none => rfl
    | some y =>
      rw [if_neg (by simp), if_neg (by simp only [oi]; omega)]
  · simp only [frameB, holdsB, Bool.and_eq_true, decide_eq_true_eq]
    omega
set_option maxRecDepth 100000 in
set_option maxHeartbeats 1000000 in
theorem asks_any (p : Pl) (A : Option Addr) (n c : Nat) (i a m : Int) (w : World) (hl : p.fr.length = n) (hA : Lies w A p.fr) :
    Calls Tryz.prog 116 #[rv p A n c, .int .i64 i, .int .i64 a, .int .i64 m] w fun e w' => e = .returned (.int .i64 (reachE p i a m : Int)) ∧ Below w.heap.size w w' := by
  obtain ⟨w1, hw1⟩ : ∃ w1, w1 = w.alloc (.cells (rc p A n c).toArray 36) := ⟨_, rfl⟩
  have hb1 : Below w.heap.size w w1 := hw1 ▸ below1 w _
  have hbx : Box w1 w.heap.size p A n c := hw1 ▸ Box.new w p A n c
  have hx0 := hbx.c0
  have HA := Lib.hid (hA.below hb1)
  have HB := Lib.hid hb1
  have hE : rv p A n c = .agg (rc p A n c).toArray := rfl
  rw [hE]
  obtain ⟨cs, hcs⟩ : ∃ cs, cs = rc p A n c := ⟨_, rfl⟩
  rw [← hcs] at hw1 ⊢
  have HL := Lib.hid hl
  have H4 := Lib.hid (fun h => reach_4 (p := p) (i := i) (a := a) (m := m) hl h)
  have HX := Lib.hid hw1
  clear hcs hE hbx hb1 hA hl
  rw [hw1] at hx0
  by_cases h1 : i < 0
  · have d1 : decide (i < 0) = true := decide_eq_true h1
    have HE := Lib.hid (H4.out (.inl h1))
    clear h1 hw1
    go_enter Tryz.func116, Tryz.ntmps116
    go_wp2_with fail
    go_ret
    exact ⟨by rw [HE.out]; rfl, HX.out ▸ HB.out⟩
  by_cases h2 : (n : Int) ≤ i
  · have d2 : decide ((n : Int) ≤ i) = true := decide_eq_true h2
    have d1 : decide (i < 0) = false := decide_eq_false h1
    have HE := Lib.hid (H4.out (.inr (.inl h2)))
    clear h1 h2 hw1
    go_enter Tryz.func116, Tryz.ntmps116
    go_wp2_with fail
    go_ret
    exact ⟨by rw [HE.out]; rfl, HX.out ▸ HB.out⟩
  by_cases h3 : a < 0
  · have d3 : decide (a < 0) = true := decide_eq_true h3
    have d1 : decide (i < 0) = false := decide_eq_false h1
    have d2 : decide ((n : Int) ≤ i) = false := decide_eq_false h2
    have HE := Lib.hid (H4.out (.inr (.inr (.inl h3))))
    clear h1 h2 h3 hw1
    go_enter Tryz.func116, Tryz.ntmps116
    go_wp2_with fail
    go_ret
    exact ⟨by rw [HE.out]; rfl, HX.out ▸ HB.out⟩
  by_cases h4 : 256 < a
  · have d4 : decide (256 < a) = true := decide_eq_true h4
    have d1 : decide (i < 0) = false := decide_eq_false h1
    have d2 : decide ((n : Int) ≤ i) = false := decide_eq_false h2
    have d3 : decide (a < 0) = false := decide_eq_false h3
    have HE := Lib.hid (H4.out (.inr (.inr (.inr (.inl h4)))))
    clear h1 h2 h3 h4 hw1
    go_enter Tryz.func116, Tryz.ntmps116
    go_wp2_with fail
    go_ret
    exact ⟨by rw [HE.out]; rfl, HX.out ▸ HB.out⟩
  by_cases h5 : m < 0
  · have d5 : decide (m < 0) = true := decide_eq_true h5
    have d1 : decide (i < 0) = false := decide_eq_false h1
    have d2 : decide ((n : Int) ≤ i) = false := decide_eq_false h2
    have d3 : decide (a < 0) = false := decide_eq_false h3
    have d4 : decide (256 < a) = false := decide_eq_false h4
    have HE := Lib.hid (H4.out (.inr (.inr (.inr (.inr (.inl h5))))))
    clear h1 h2 h3 h4 h5 hw1
    go_enter Tryz.func116, Tryz.ntmps116
    go_wp2_with fail
    go_ret
    exact ⟨by rw [HE.out]; rfl, HX.out ▸ HB.out⟩
  by_cases h6 : 256 - a < m
  · have d6 : decide (256 - a < m) = true := decide_eq_true h6
    have d1 : decide (i < 0) = false := decide_eq_false h1
    have d2 : decide ((n : Int) ≤ i) = false := decide_eq_false h2
    have d3 : decide (a < 0) = false := decide_eq_false h3
    have d4 : decide (256 < a) = false := decide_eq_false h4
    have d5 : decide (m < 0) = false := decide_eq_false h5
    have hw : IntKind.i64.wrap (256 - a) = 256 - a := wrapI _ (by omega) (by omega)
    have HE := Lib.hid (H4.out (.inr (.inr (.inr (.inr (.inr h6))))))
    clear h1 h2 h3 h4 h5 h6 hw1
    go_enter Tryz.func116, Tryz.ntmps116
    go_wp2_with fail
    go_ret
    exact ⟨by rw [HE.out]; rfl, HX.out ▸ HB.out⟩
  obtain ⟨k, rfl⟩ : ∃ k : Nat, i = k := ⟨i.toNat, by omega⟩
  have hk : k < p.fr.length := by rw [HL.out]; omega
  have h7 := reach_5 (k := k) (a := a) (m := m) HL.out hk h3 h4 h5 h6
  obtain ⟨ad, rfl, c1, _⟩ := HA.out.at_ k hk
  rw [hw1] at c1
  have d1 : decide ((k : Int) < 0) = false := decide_eq_false h1
  have d2 : decide ((n : Int) ≤ (k : Int)) = false := decide_eq_false h2
  have d3 : decide (a < 0) = false := decide_eq_false h3
  have d4 : decide (256 < a) = false := decide_eq_false h4
  have d5 : decide (m < 0) = false := decide_eq_false h5
  have d6 : decide (256 - a < m) = false := decide_eq_false h6
  have i0 : (0 : Int) ≤ (k : Int) := by omega
  have i1 : (k : Int) < (n : Int) := by omega
  have hw : IntKind.i64.wrap (256 - a) = 256 - a := wrapI _ (by omega) (by omega)
  obtain ⟨x, hx⟩ : ∃ x, x = oi p.fr[k] := ⟨_, rfl⟩
  rw [← hx] at c1 h7
  clear h1 h2 h3 h4 h5 h6 hw1 hx
  by_cases h8 : x < 0
  · have d8 : decide (x < 0) = true := decide_eq_true h8
    rw [if_pos h8] at h7
    have HE := Lib.hid h7
    clear h7 h8
    go_enter Tryz.func116, Tryz.ntmps116
    go_wp2_with fail
    go_ret
    exact ⟨by rw [HE.out]; rfl, HX.out ▸ HB.out⟩
  · have d8 : decide (x < 0) = false := decide_eq_false h8
    rw [if_neg h8] at h7
    have HE := Lib.hid h7
    clear h7 h8
    go_enter Tryz.func116, Tryz.ntmps116
    go_wp2_with fail
    go_ret
    exact ⟨by rw [HE.out]; rfl, HX.out ▸ HB.out⟩

theorem str_slice (bs : List UInt8) (a m : Nat) : (str bs).extract a (a + m) = str ((bs.drop a).take m) := by
  unfold str
  rw [ByteArray.extract_mk, Nat.add_sub_cancel_left]
set_option maxRecDepth 100000 in
set_option maxHeartbeats 1000000 in
theorem rread_any (p : Pl) (A : Option Addr) (n c : Nat) (i a m : Int) (w : World) (hl : p.fr.length = n) (hok : p.ok) (hA : Lies w A p.fr) :
    Calls Tryz.prog 44 #[rv p A n c, .int .i64 i, .int .i64 a, .int .i64 m] w fun e w' => e = .returned (.tuple #[.string (str (readP p i a m)), .int .i64 (reachE p i a m : Int)]) ∧ Below w.heap.size w w' := by
  obtain ⟨w1, hw1⟩ : ∃ w1, w1 = w.alloc (.cells (rc p A n c).toArray 36) := ⟨_, rfl⟩
  have hb1 : Below w.heap.size w w1 := hw1 ▸ below1 w _
  have hbx : Box w1 w.heap.size p A n c := hw1 ▸ Box.new w p A n c
  have HR := Lib.hid (hw1 ▸ hbx.range)
  have HC := Lib.hid (asks_any p A n c i a m w1 hl (hA.below hb1))
  have hE : rv p A n c = .agg (rc p A n c).toArray := rfl
  have HSZ := Lib.hid (refpool_size p A n c)
  have HB := Lib.hid hb1
  have hA1 := hA.below hb1
  rw [hE] at HC ⊢
  obtain ⟨cs, hcs⟩ : ∃ cs, cs = rc p A n c := ⟨_, rfl⟩
  rw [hw1] at HC
  rw [← hcs] at HC HR HSZ hw1 ⊢
  have HBX := Lib.hid hbx
  have HA := Lib.hid hA1
  have HW := Lib.hid hw1
  have hx1 := hw1 ▸ hb1
  clear hcs hE hbx hb1 hA hA1 hw1
  obtain ⟨E, hEE⟩ : ∃ E, E = reachE p i a m := ⟨_, rfl⟩
  rw [← hEE] at HC ⊢
  go_enter Tryz.func44, Tryz.ntmps44
  go_wp2_with (refine wpList_load_mid rfl 36 (.tmp 4) rfl w.heap.size 0 rfl cs _ HR.out Tryz.underlying36 rfl HSZ.out ?_)
  refine HC.out.mono ?_
  rintro e w2 ⟨rfl, hb2⟩
  have hB2 := below0 hx1 hb2
  rw [← HW.out] at hb2
  have hx0 := (HBX.out.below hb2).c0
  have hA2 := HA.out.below hb2
  by_cases hz : E = 0
  · subst hz
    obtain ⟨g1, g2, g3, g4, g5, o, bs, g6, g7⟩ := reach_some hEE.symm
    obtain ⟨k, rfl⟩ : ∃ k : Nat, i = k := ⟨i.toNat, by omega⟩
    obtain ⟨x, rfl⟩ : ∃ x : Nat, a = x := ⟨a.toNat, by omega⟩
    obtain ⟨y, rfl⟩ : ∃ y : Nat, m = y := ⟨m.toNat, by omega⟩
    have hk : k < p.fr.length := by omega
    obtain ⟨ad, rfl, _, c2⟩ := hA2.at_ k hk
    have hf : p.fr[k] = some (o, bs) := by
      have := g6
      rw [Int.toNat_natCast, List.getElem?_eq_getElem hk] at this
      exact Option.some.inj this
    rw [hf] at c2
    have hbs := (hok.own o bs (List.mem_of_getElem? g6)).2
    have hss : (sb (some (o, bs))).size = 256 := hbs
    have hv : readP p (k : Int) (x : Int) (y : Int) = (bs.drop x).take y := by
      unfold readP
      rw [if_pos hEE.symm, g7]
      rfl
    have hs2 : (sb (some (o, bs))).extract x (x + y) = str ((bs.drop x).take y) := str_slice bs x y
    have HV := Lib.hid hv
    have i0 : (0 : Int) ≤ (k : Int) := by omega
    have i1 : (k : Int) < (n : Int) := by omega
    have j1 : (x : Int) + (y : Int) ≤ 256 := by omega
    have hw : IntKind.i64.wrap ((x : Int) + (y : Int)) = ((x + y : Nat) : Int) := by rw [wrapI _ (by omega) (by omega)]; omega
    obtain ⟨S, hS⟩ : ∃ S, S = sb (some (o, bs)) := ⟨_, rfl⟩
    rw [← hS] at c2 hss hs2
    have hsl : (Instr.slice 9 (.string S) (some (.int .i64 (x : Int))) (some (.int .i64 ((x : Int) + (y : Int)))) none).run Tryz.prog w2 = .ok (.string (str ((bs.drop x).take y))) w2 := by
      rw [run_slice_string w2 9 S .i64 .i64 _ _ Tryz.underlying9 (by omega) (by omega) (by rw [hss]; omega), Int.toNat_natCast, show ((x : Int) + (y : Int)).toNat = x + y by omega, hs2]
    clear hS hv hs2 hf g1 g2 g3 g4 g5 g6 g7 hbs hEE hok hl HA HBX HW hA2
    go_wp2_with fail
    exact bodyPost_ret (v := .tuple #[.string (str ((bs.drop x).take y)), .int .i64 0]) (by simp [results, Tryz.results44, go_sem]) rfl ⟨by rw [HV.out]; rfl, hB2⟩
  · have hv : readP p i a m = [] := by
      unfold readP
      rw [if_neg (hEE ▸ hz)]
    have HV := Lib.hid hv
    have hq : (((E : Nat) : Int) != 0) = true := by simp [hz]
    clear hz hEE
    go_wp2_with fail
    exact bodyPost_ret (v := .tuple #[.string (str []), .int .i64 (E : Int)]) (by simp [results, Tryz.results44, go_sem]; rfl) rfl ⟨by rw [HV.out], hB2⟩
end Go.Proofs.YtmbjjbgpcacoeaaGreat
