import Derived.Test.YtbgpdahoochkiaaDoorPartsN
import Derived.Deep.QuietTactic
import Derived.BigQuiet
import Derived.Deep.RegionWith
namespace Go.Proofs.YtbgpdahoochkiaaDoor
open Go.RowKit Go.Shelf

def pfl (s : Int) (l : List UInt8) (k : Nat) : List (List UInt8) := (partl s l k).map Prod.snd
theorem pfl_length (s : Int) (l : List UInt8) (k : Nat) : (pfl s l k).length = k := by simp [pfl, partl_length]
theorem partl_succ (s : Int) (l : List UInt8) (k : Nat) : partl s l (k + 1) = partl s l k ++ [cutOf l (cutk s.toNat l.length k)] := by simp [partl, List.range_succ]
theorem pfl_succ (s : Int) (l : List UInt8) (k : Nat) : pfl s l (k + 1) = pfl s l k ++ [(cutOf l (cutk s.toNat l.length k)).2] := by simp [pfl, partl_succ]
theorem flat_pfl {s : Int} {l : List UInt8} (k : Nat) : flat (pfl s l k) = l.take (min (k * s.toNat) l.length) := by
  induction k with
  | zero => simp [pfl, partl, flat]
  | succ k ih =>
    rw [pfl_succ, flat_snoc, ih]
    simp only [cutOf, cutk]
    rw [Nat.add_mul, Nat.one_mul]
    rcases Nat.lt_or_ge (k * s.toNat) l.length with h | h
    · rw [show min (k * s.toNat) l.length = k * s.toNat by omega, show min (k * s.toNat + s.toNat) l.length - k * s.toNat = min s.toNat (l.length - k * s.toNat) by omega]
      rw [show min (k * s.toNat + s.toNat) l.length = k * s.toNat + min s.toNat (l.length - k * s.toNat) by omega, List.take_add]
    · rw [show min (k * s.toNat) l.length = l.length by omega, show min (k * s.toNat + s.toNat) l.length = l.length by omega]
      simp [List.drop_eq_nil_of_le h]
theorem pn_mul {s : Int} (hs : 1 ≤ s) (n : Nat) : n ≤ pn s n * s.toNat := by
  unfold pn
  rw [if_neg (by omega)]
  have h := Nat.div_add_mod (n + s.toNat - 1) s.toNat
  have h2 := Nat.mod_lt (n + s.toNat - 1) (show 0 < s.toNat by omega)
  rw [Nat.mul_comm] at h
  omega
theorem pn_lt {s : Int} {n k : Nat} (hs : 1 ≤ s) (hk : k < pn s n) : k * s.toNat < n := by
  unfold pn at hk
  rw [if_neg (by omega)] at hk
  have := (Nat.le_div_iff_mul_le (show 0 < s.toNat by omega)).1 (show k + 1 ≤ _ from hk)
  rw [Nat.add_mul, Nat.one_mul] at this
  omega
theorem flat_all {s : Int} (hs : 1 ≤ s) (l : List UInt8) : flat (pfl s l (pn s l.length)) = l := by
  rw [flat_pfl]
  have := pn_mul hs l.length
  rw [show min (pn s l.length * s.toNat) l.length = l.length by omega, List.take_length]

/-- one part of a list of parts -/
theorem Plist.at_ {B : Nat} {V : World} {v : Value} {s : Int} {l : List UInt8} {K k : Nat} (h : Plist B V v (partl s l K)) (hk : k < K) : ∃ ga ca g c m, v = .slice (some ⟨ga, 0, none⟩) K ca ∧ ga < V.heap.size ∧ m = min s.toNat (l.length - k * s.toNat) ∧
    V.cell? ⟨ga, k * 2, none⟩ = some (.int .i64 (k * s.toNat : Nat)) ∧ V.cell? ⟨ga, k * 2 + 1, none⟩ = some (.slice (some ⟨g, 0, none⟩) m c) ∧ Sees V V.heap.size (some ⟨g, 0, none⟩) (byt (cutOf l (cutk s.toNat l.length k)).2) ∧ (cutOf l (cutk s.toNat l.length k)).2.length = m ∧ 0 < m := by
  obtain ⟨cells, hown, hr⟩ := h
  rw [partl_length] at hown
  obtain ⟨ga, ca, rfl, _, hlt⟩ := hown.form (by omega)
  obtain ⟨h1, g, c, h2, _, h4, h5⟩ := hr k (by rw [partl_length]; exact hk)
  rw [partl_get] at h1 h2 h4 h5
  have hm : (cutOf l (cutk s.toNat l.length k)).2.length = min s.toNat (l.length - k * s.toNat) := by
    simp only [cutOf, cutk, List.length_take, List.length_drop]
    omega
  rw [hm] at h2 h4 h5
  refine ⟨ga, ca, g, c, _, rfl, hlt, rfl, ?_, ?_, Sees.of_own h4, hm, h5⟩
  · rw [hown.cellAt (k * 2) (by omega), Nat.mul_comm, h1]; rfl
  · rw [hown.cellAt (k * 2 + 1) (by omega), Nat.mul_comm, h2]
theorem Plist.slice {B : Nat} {V : World} {v : Value} {xs : List (Nat × List UInt8)} (h : Plist B V v xs) : ∃ A c, v = .slice A xs.length c := by
  obtain ⟨cells, hown, _⟩ := h
  exact own_slice hown
theorem Plist.below {B B' : Nat} {V V' : World} {v : Value} {xs : List (Nat × List UInt8)} (h : Plist B V v xs) (hb : Below B' V V') (hB : V.heap.size ≤ B') : Plist B V' v xs := by
  obtain ⟨cells, hown, hr⟩ := h
  refine ⟨cells, own_below hown hb hB, hr.keep (fun _ h => h) (fun k n c ys _ ho => hb.block k (by have := own_lt ho (k := k) rfl; omega))⟩

/-- the slices of the first k parts -/
def Pieces (w : World) (s : Int) (l : List UInt8) (ms : List Value) (k : Nat) : Prop :=
  ms.length = k ∧ ∀ i, i < k → ∃ g m c, ms[i]? = some (.slice (some ⟨g, 0, none⟩) m c) ∧ (cutOf l (cutk s.toNat l.length i)).2.length = m ∧ Sees w w.heap.size (some ⟨g, 0, none⟩) (byt (cutOf l (cutk s.toNat l.length i)).2)
theorem Pieces.nil_ {w : World} {s : Int} {l : List UInt8} : Pieces w s l [] 0 := ⟨rfl, fun _ h => absurd h (by omega)⟩
theorem Pieces.snoc {w : World} {s : Int} {l : List UInt8} {ms : List Value} {k g m c : Nat} (h : Pieces w s l ms k) (hm : (cutOf l (cutk s.toNat l.length k)).2.length = m) (hs : Sees w w.heap.size (some ⟨g, 0, none⟩) (byt (cutOf l (cutk s.toNat l.length k)).2)) : Pieces w s l (ms ++ [.slice (some ⟨g, 0, none⟩) m c]) (k + 1) := by
  refine ⟨by simp [h.1], fun i hi => ?_⟩
  by_cases hlt : i < k
  · obtain ⟨g', m', c', h1, h2, h3⟩ := h.2 i hlt
    exact ⟨g', m', c', by rw [List.getElem?_append_left (by rw [h.1]; exact hlt)]; exact h1, h2, h3⟩
  · obtain rfl : i = k := by omega
    exact ⟨g, m, c, by rw [List.getElem?_append_right (by rw [h.1]; exact Nat.le_refl _), h.1]; simp, hm, hs⟩
theorem Pieces.rowz {w wr : World} {s : Int} {l : List UInt8} {ms : List Value} {k : Nat} {A : Option Addr} (h : Pieces w s l ms k) (hb : Below w.heap.size w wr) (hl : l.length ≤ 140737488351232) (hs : Sees wr wr.heap.size A ms) : Rowz wr wr.heap.size A (pfl s l k) :=
  ⟨ms, by rw [h.1, pfl_length], hs, fun i hi => by
    rw [pfl_length] at hi
    obtain ⟨g, m, c, h1, h2, h3⟩ := h.2 i hi
    have e : (pfl s l k)[i]'(by rw [pfl_length]; exact hi) = (cutOf l (cutk s.toNat l.length i)).2 := by simp [pfl, partl]
    rw [e]
    refine ⟨_, _, _, h1, h2, ?_, (h3.below hb).more hb.size⟩
    rw [← h2]
    simp only [cutOf, cutk, List.length_take, List.length_drop]
    omega⟩



set_option maxRecDepth 100000 in
set_option maxHeartbeats 4000000 in
theorem wordParts_any (l : List UInt8) (c : Nat) (A : Option Addr) (s many : Int) (w : World) (ht : Tab w) (hm : l.length ≤ 140737488351232) (hr : Sees w w.heap.size A (byt l)) :
    Calls Tryd.prog 7 #[.slice A l.length c, .int .i64 s, .int .i64 many] w fun e w' => e = .returned (.bool true) ∧ Below w.heap.size w w' := by
  by_cases hbig : 3000 < (l.length : Int)
  · go_enter Tryd.func7, Tryd.ntmps7
    go_wp2_with fail
    refine (works_any _ ht).mono ?_
    rintro e w3 ⟨rfl, hb3⟩
    go_wp2_with fail
    go_ret
    exact ⟨rfl, hb3⟩
  by_cases hmany : many < 1
  · go_enter Tryd.func7, Tryd.ntmps7
    go_wp2_with fail
    refine (works_any _ ht).mono ?_
    rintro e w3 ⟨rfl, hb3⟩
    go_wp2_with fail
    go_ret
    exact ⟨rfl, hb3⟩
  go_enter Tryd.func7, Tryd.ntmps7
  go_wp2_with fail
  refine (lent_any l l.length c _ A w rfl hm hr (Nat.le_refl _)).mono ?_
  rintro e w1 ⟨g, cap, rfl, ho1, hb1⟩
  have hs1 : Sees w1 w1.heap.size (some ⟨g, 0, none⟩) (byt l) := by
    have := (Sees.of_own ho1).take (byt l).length
    simpa using this
  have hr1 := hr.below hb1
  have ht1 := ht.below hb1
  go_wp2_with fail
  refine (parts_any l cap w1.heap.size (some ⟨g, 0, none⟩) s 0 w1 (by omega) hs1 (Nat.le_refl _)).mono ?_
  rintro e w2 ⟨v1, rfl, hp1, hb2⟩
  have hs2 := hs1.below hb2
  have ho2 := own_below ho1 hb2 (Nat.le_refl _)
  have hB2 := hb1.trans (hb2.mono hb1.size)
  go_wp2_with fail
  refine (parts_any l cap w1.heap.size (some ⟨g, 0, none⟩) s many w2 (by omega) hs2 hb2.size).mono ?_
  rintro e w3 ⟨v2, rfl, hp2, hb3⟩
  have hp1' := hp1.below hb3 (Nat.le_refl _)
  have ho3 := own_below ho2 hb3 (Nat.le_refl _)
  have hB3 := hB2.trans (hb3.mono hB2.size)
  have hr3 := hr.below hB3
  have ht3 := ht.below hB3
  clear hp1 hb1 hb2 hb3 hs1 hs2 ho1 ho2 hB2 hr1 ht1
  obtain ⟨A1, c1, rfl⟩ := hp1'.slice
  obtain ⟨A2, c2, rfl⟩ := hp2.slice
  rw [partl_length] at hp1' hp2 ⊢
  rw [partl_length]
  obtain ⟨K, hK⟩ : ∃ K, K = pk s 0 l.length := ⟨_, rfl⟩
  obtain ⟨M, hM⟩ : ∃ M, M = pk s many l.length := ⟨_, rfl⟩
  rw [← hK] at hp1' ⊢
  rw [← hM] at hp2 ⊢
  have hKp : K = pn s l.length := by rw [hK]; simp [pk]
  have hMm : M = min K many.toNat := by rw [hM, hKp]; simp [pk, show ¬ many < 1 by omega]
  by_cases hs : s < 1
  · have hK0 : K = 0 := by rw [hKp]; simp [pn, hs]
    have hM0 : M = 0 := by omega
    clear hKp hMm hK hM
    subst hK0
    subst hM0
    go_wp2_with fail
    refine (works_any _ ht3).mono ?_
    rintro e w4 ⟨rfl, hb4⟩
    go_wp2_with fail
    go_ret
    exact ⟨rfl, hB3.trans (hb4.mono hB3.size)⟩
  obtain ⟨i0, hi, hz0, hz1, hz2⟩ := info_parts slice_info
  have hKn : K ≤ l.length := by
    rcases Nat.eq_zero_or_pos K with h | h
    · omega
    · have := pn_lt (k := K - 1) (n := l.length) (by omega : 1 ≤ s) (by omega)
      have := Nat.le_mul_of_pos_right (K - 1) (show 0 < s.toNat by omega)
      omega
  have HK := Lib.hid hKp
  have HM := Lib.hid hMm
  clear hKp hMm hK hM
  go_wp2_with fail
  go_loopw [10, 11, 12] (fun a m i wr => ∃ k : Nat, k ≤ K ∧ i = .int .i64 k ∧ a = .int .i64 (min (k * s.toNat) l.length : Nat) ∧ ∃ ms, wr.ownsRow w3.heap.size 23 1 m k ms ∧ Pieces w3 s l ms k ∧ Below w3.heap.size w3 wr) (fun _ _ i _ => K - (intOf i).toNat)
  case atStart => exact ⟨0, Nat.zero_le _, rfl, by simp, [], World.ownsRow_nil _ _ _ _, Pieces.nil_, Below.refl _ _⟩
  case round =>
    obtain ⟨k, hk, rfl, rfl, ms, hown, hpc, hb⟩ := hrel
    by_cases hlt : k < K
    · obtain ⟨ga, ca, g1, cc1, m, e1, hga, hm1, hca, hcb, hsb, hml, hm0⟩ := hp1'.at_ hlt
      injection e1 with e1 _ e1'
      subst e1 e1'
      have hpl := pn_lt (by omega : 1 ≤ s) (show k < pn s l.length by rw [← HK.out]; exact hlt)
      obtain ⟨p, hp⟩ : ∃ p, p = k * s.toNat := ⟨_, rfl⟩
      have hstep : min ((k + 1) * s.toNat) l.length = p + m := by
        rw [Nat.add_mul, Nat.one_mul, hm1, ← hp]
        omega
      have hlast : (m : Int) < s → (K : Int) - 1 ≤ k := fun h => by
        have h1 : ¬ k + 1 < pn s l.length := fun h' => by
          have := pn_lt (by omega : 1 ≤ s) h'
          rw [Nat.add_mul, Nat.one_mul] at this
          omega
        rw [← HK.out] at h1
        omega
      rw [← hp] at hca hm1 hpl ⊢
      rw [show min p l.length = p by omega]
      have hca' := (hb.cell (p := ⟨ga, k * 2, none⟩) hga).trans hca
      have hcb' := (hb.cell (p := ⟨ga, k * 2 + 1, none⟩) hga).trans hcb
      have hms : (m : Int) ≤ s := by omega
      have hpm : (p : Int) + m ≤ 3000 := by omega
      have hm0' : (1 : Int) ≤ m := by omega
      have Hst := Lib.hid hstep
      have Hp := Lib.hid hp
      have Hm1 := Lib.hid hm1
      have Hml := Lib.hid hml
      clear hca hcb hstep hp hm1 hml
      obtain ⟨bs, hbs⟩ : ∃ bs, bs = (cutOf l (cutk s.toNat l.length k)).2 := ⟨_, rfl⟩
      have Hbs := Lib.hid hbs
      rw [← hbs] at hsb
      have hbl : bs.length = m := by rw [hbs]; exact Hml.out
      clear hbs
      have hcvA : ∀ nq, (convert 23 9 (.slice (some ⟨g1, 0, none⟩) m cc1)).run Tryd.prog (wr.drewN nq) = .ok (.string (str bs)) (wr.drewN nq) := fun nq =>
        run_conv_sees (wr.drewN nq) Tryd.underlying23 Tryd.underlying5 Tryd.underlying9 hbl ((hsb.below hb).drewN nq)
      have Hbl := Lib.hid hbl
      clear hbl
      by_cases hkm : (k : Int) < many
      · have hkM : k < M := by rw [HM.out]; omega
        obtain ⟨gb, cb, g2, cc2, m2, e2, hgb, hm2, hda, hdb, hsd, hml2, _⟩ := hp2.at_ hkM
        injection e2 with e2 _ e2'
        subst e2 e2'
        obtain rfl : m = m2 := (hm2.trans (by rw [← Hp.out]; exact Hm1.out.symm)).symm
        rw [← Hp.out] at hda
        rw [← Hbs.out] at hsd
        have hda' := (hb.cell (p := ⟨gb, k * 2, none⟩) hgb).trans hda
        have hdb' := (hb.cell (p := ⟨gb, k * 2 + 1, none⟩) hgb).trans hdb
        have hcvB : ∀ nq, (convert 23 9 (.slice (some ⟨g2, 0, none⟩) m cc2)).run Tryd.prog (wr.drewN nq) = .ok (.string (str bs)) (wr.drewN nq) := fun nq =>
          run_conv_sees (wr.drewN nq) Tryd.underlying23 Tryd.underlying5 Tryd.underlying9 Hbl.out ((hsd.below hb).drewN nq)
        clear hda hdb hsd hml2 hm2
        have hkM' : (k : Int) < M := by omega
        by_cases hq : (m : Int) < s
        · have hq2 := hlast hq
          clear hlast
          go_wp2_with fail
          go_quiet (fail)
          go_wp2_with (at_builtin; go_must (refine wpList_append_sees rfl (.tmp 120) (.tmp 126) 43 rfl w3.heap.size 23 i0 _ 1 24 Tryd.underlying43 hi hz0 hz1 hz2 rfl (by decide) _ _ _ rfl (World.ownsRow.alloc (w := wr.drewN nq) hown _) (wr.heap.size + 1) (some ⟨wr.heap.size, 0, none⟩) 1 1 [.slice (some ⟨g1, 0, none⟩) m cc1] rfl rfl (fun _ => ⟨_, rfl, by simp, cell_one_new (wr.drewN nq) _ _⟩) (by simp [Value.oneCell']) (by unfold maxLen; omega) (by omega) (by have := hb.size; simp; omega) ?_; intro v' w5 hown5 hg5 _))
          go_roundw
          case rel =>
            have hb5 := ((below_drewN hb nq).alloc hb.size _).grown hg5 (by have := hb.size; simp; omega) (fun k e => (hown.lt k e).1)
            exact ⟨k + 1, by omega, by go_num, by rw [Hst.out]; go_num, _, hown5, hpc.snoc Hml.out (by rw [← Hbs.out]; exact hsb), hb5⟩
          case measure => simp [intOf]; omega
        · clear hlast
          go_wp2_with fail
          go_quiet (fail)
          go_wp2_with (at_builtin; go_must (refine wpList_append_sees rfl (.tmp 120) (.tmp 126) 43 rfl w3.heap.size 23 i0 _ 1 24 Tryd.underlying43 hi hz0 hz1 hz2 rfl (by decide) _ _ _ rfl (World.ownsRow.alloc (w := wr.drewN nq) hown _) (wr.heap.size + 1) (some ⟨wr.heap.size, 0, none⟩) 1 1 [.slice (some ⟨g1, 0, none⟩) m cc1] rfl rfl (fun _ => ⟨_, rfl, by simp, cell_one_new (wr.drewN nq) _ _⟩) (by simp [Value.oneCell']) (by unfold maxLen; omega) (by omega) (by have := hb.size; simp; omega) ?_; intro v' w5 hown5 hg5 _))
          go_roundw
          case rel =>
            have hb5 := ((below_drewN hb nq).alloc hb.size _).grown hg5 (by have := hb.size; simp; omega) (fun k e => (hown.lt k e).1)
            exact ⟨k + 1, by omega, by go_num, by rw [Hst.out]; go_num, _, hown5, hpc.snoc Hml.out (by rw [← Hbs.out]; exact hsb), hb5⟩
          case measure => simp [intOf]; omega
      · have hkm' : decide ((k : Int) < many) = false := by simp; omega
        clear hkm
        by_cases hq : (m : Int) < s
        · have hq2 := hlast hq
          clear hlast
          go_wp2_with fail
          go_quiet (fail)
          go_wp2_with (at_builtin; go_must (refine wpList_append_sees rfl (.tmp 120) (.tmp 126) 43 rfl w3.heap.size 23 i0 _ 1 24 Tryd.underlying43 hi hz0 hz1 hz2 rfl (by decide) _ _ _ rfl (World.ownsRow.alloc (w := wr.drewN nq) hown _) (wr.heap.size + 1) (some ⟨wr.heap.size, 0, none⟩) 1 1 [.slice (some ⟨g1, 0, none⟩) m cc1] rfl rfl (fun _ => ⟨_, rfl, by simp, cell_one_new (wr.drewN nq) _ _⟩) (by simp [Value.oneCell']) (by unfold maxLen; omega) (by omega) (by have := hb.size; simp; omega) ?_; intro v' w5 hown5 hg5 _))
          go_roundw
          case rel =>
            have hb5 := ((below_drewN hb nq).alloc hb.size _).grown hg5 (by have := hb.size; simp; omega) (fun k e => (hown.lt k e).1)
            exact ⟨k + 1, by omega, by go_num, by rw [Hst.out]; go_num, _, hown5, hpc.snoc Hml.out (by rw [← Hbs.out]; exact hsb), hb5⟩
          case measure => simp [intOf]; omega
        · clear hlast
          go_wp2_with fail
          go_quiet (fail)
          go_wp2_with (at_builtin; go_must (refine wpList_append_sees rfl (.tmp 120) (.tmp 126) 43 rfl w3.heap.size 23 i0 _ 1 24 Tryd.underlying43 hi hz0 hz1 hz2 rfl (by decide) _ _ _ rfl (World.ownsRow.alloc (w := wr.drewN nq) hown _) (wr.heap.size + 1) (some ⟨wr.heap.size, 0, none⟩) 1 1 [.slice (some ⟨g1, 0, none⟩) m cc1] rfl rfl (fun _ => ⟨_, rfl, by simp, cell_one_new (wr.drewN nq) _ _⟩) (by simp [Value.oneCell']) (by unfold maxLen; omega) (by omega) (by have := hb.size; simp; omega) ?_; intro v' w5 hown5 hg5 _))
          go_roundw
          case rel =>
            have hb5 := ((below_drewN hb nq).alloc hb.size _).grown hg5 (by have := hb.size; simp; omega) (fun k e => (hown.lt k e).1)
            exact ⟨k + 1, by omega, by go_num, by rw [Hst.out]; go_num, _, hown5, hpc.snoc Hml.out (by rw [← Hbs.out]; exact hsb), hb5⟩
          case measure => simp [intOf]; omega
    · have hkK : k = K := by omega
      subst hkK
      have hfl : flat (pfl s l k) = l := by rw [HK.out]; exact flat_all (by omega) l
      obtain ⟨Am, cm, rfl⟩ := own_slice hown
      have hrz := hpc.rowz hb (by omega) (Sees.of_own hown)
      have hBr := hB3.trans (hb.mono hB3.size)
      have hor := own_below ho3 hb (Nat.le_refl _)
      have hrr := hr3.below (hb.mono hB3.size)
      have htr := ht3.below hb
      have hfl2 : (flat (pfl s l k)).length ≤ 140737488351232 := by rw [hfl]; exact hm
      have hmn : min (k : Int) many = M := by rw [HM.out]; omega
      obtain ⟨wk, rfl⟩ : ∃ wk : World, wk = wr := ⟨_, rfl⟩
      have hj : Hid (Calls Tryd.prog 23 #[.slice Am k cm] wk.drew fun e w' => ∃ v, e = .returned v ∧ w'.ownsRow wk.heap.size 5 1 v (flat (pfl s l k)).length (byt (flat (pfl s l k))) ∧ Below wk.heap.size wk.drew w') :=
        Lib.hid (joined_any (pfl s l k) k cm wk.heap.size Am wk.drew (pfl_length _ _ _) (by omega) hfl2 hrz (Nat.le_refl _))
      have hcb0 : (convert 23 9 (.slice A l.length c)).run Tryd.prog wk.drew = .ok (.string (str l)) wk.drew :=
        run_conv_sees wk.drew Tryd.underlying23 Tryd.underlying5 Tryd.underlying9 rfl hrr.drew
      have Hmn := Lib.hid hmn
      have Hfl := Lib.hid hfl
      clear hmn hfl hfl2 hrz
      have hmix : Tryd.prog.follows .mixedOrders = true := by kernel_rfl
      by_cases hkm : (k : Int) ≤ many
      · have hMk : M = k := by rw [HM.out]; omega
        have hnl : ¬ many < (M : Int) := by omega
        clear Hmn HM
        subst hMk
        go_wp2_with fail
        refine wp_region_any hmix ?_
        refine wpAny_take (i := 0) (v := ?_) rfl (by kernel_rfl) (by kernel_rfl) (by kernel_rfl) (fun _ _ _ h => h) (Or.inl ⟨by kernel_rfl, ?_⟩) ?_
        rotate_left
        focus (intro w; go_simp; try with_reducible rfl)
        refine wpAny_take (i := 3) (v := ?_) rfl (by kernel_rfl) (by kernel_rfl) (by kernel_rfl) (fun _ _ _ h => h) (Or.inl ⟨by kernel_rfl, ?_⟩) ?_
        rotate_left
        focus (intro w; go_simp; try with_reducible rfl)
        refine wpAny_ready (rs := [1, 4]) (by kernel_rfl) (by simp) ?_
        refine AllReady.cons rfl (fun K hK => ?_) (AllReady.cons rfl (fun K hK => ?_) AllReady.nil)
        · go_simp
          refine hj.out.mono ?_
          rintro e wJ ⟨v, rfl, hownJ, hbJ⟩
          rw [Hfl.out] at hownJ
          obtain ⟨AJ, cJ, rfl⟩ := own_slice hownJ
          have hbJ2 := below_drewN hBr 1
          have hrJ : Sees wJ w.heap.size A (byt l) := hrr.drew.below (hbJ.mono hBr.size)
          have htJ : Tab wJ := Tab.below (w := wk.drew) htr hbJ
          have hoJ := own_below (w := wk.drew) hor hbJ (Nat.le_refl _)
          have hBJ : Below w.heap.size w wJ := hbJ2.trans (hbJ.mono hBr.size)
          have hcvJ := run_conv_sees (P := Tryd.prog) wJ Tryd.underlying23 Tryd.underlying5 Tryd.underlying9 (c := cJ) rfl (Sees.of_own hownJ)
          have hcbJ := run_conv_sees (P := Tryd.prog) wJ Tryd.underlying23 Tryd.underlying5 Tryd.underlying9 (c := c) rfl hrJ
          have hkp := Lib.hid (kept_any l l.length c w.heap.size g cap w.heap.size A wJ rfl hm hrJ hoJ)
          have hwk := Lib.hid (works_any wJ htJ)
          clear hownJ hoJ htJ hbJ2 hrJ
          refine hK _ _ ?_
          clear hK K
          refine wpAny_ready (rs := [2, 4]) (by kernel_rfl) (by simp) ?_
          refine AllReady.cons rfl (fun K hK => ?_) (AllReady.cons rfl (fun K hK => ?_) AllReady.nil)
          · go_simp
            refine hK _ _ ?_
            clear hK K
            refine wpAny_ready (rs := [4]) (by kernel_rfl) (by simp) ?_
            refine AllReady.cons rfl (fun K hK => ?_) AllReady.nil
            go_simp
            refine hK _ _ ?_
            clear hK K
            refine wpAny_take (i := 5) (v := ?_) rfl (by kernel_rfl) (by kernel_rfl) (by kernel_rfl) (fun _ _ _ h => h) (Or.inl ⟨by kernel_rfl, ?_⟩) ?_
            rotate_left
            focus (intro w; go_simp; try with_reducible rfl)
            refine wpAny_take (i := 6) (v := ?_) rfl (by kernel_rfl) (by kernel_rfl) (by kernel_rfl) (fun _ _ _ h => h) (Or.inl ⟨by kernel_rfl, ?_⟩) ?_
            rotate_left
            focus (intro w; go_simp; try with_reducible rfl)
            refine wpAny_take (i := 7) (v := ?_) rfl (by kernel_rfl) (by kernel_rfl) (by kernel_rfl) (fun _ _ _ h => h) (Or.inl ⟨by kernel_rfl, ?_⟩) ?_
            rotate_left
            focus (intro w; go_simp; try with_reducible rfl)
            refine wpAny_take (i := 8) (v := ?_) rfl (by kernel_rfl) (by kernel_rfl) (by kernel_rfl) (fun _ _ _ h => h) (Or.inl ⟨by kernel_rfl, ?_⟩) ?_
            rotate_left
            focus (intro w; go_simp; try with_reducible rfl)
            refine wpAny_take (i := 9) (v := ?_) rfl (by kernel_rfl) (by kernel_rfl) (by kernel_rfl) (fun _ _ _ h => h) (Or.inl ⟨by kernel_rfl, ?_⟩) ?_
            rotate_left
            focus (intro w; go_simp; try with_reducible rfl)
            refine wpAny_take (i := 10) (v := ?_) rfl (by kernel_rfl) (by kernel_rfl) (by kernel_rfl) (fun _ _ _ h => h) (Or.inl ⟨by kernel_rfl, ?_⟩) ?_
            rotate_left
            focus (intro w; go_simp; try with_reducible rfl)
            refine wpAny_take (i := 11) (v := ?_) rfl (by kernel_rfl) (by kernel_rfl) (by kernel_rfl) (fun _ _ _ h => h) (Or.inl ⟨by kernel_rfl, ?_⟩) ?_
            rotate_left
            focus (intro w; go_simp; try with_reducible rfl)
            refine wpAny_take (i := 12) (v := ?_) rfl (by kernel_rfl) (by kernel_rfl) (by kernel_rfl) (fun _ _ _ h => h) (Or.inl ⟨by kernel_rfl, ?_⟩) ?_
            rotate_left
            focus (intro w; go_simp; try with_reducible rfl)
            refine wpAny_take (i := 13) (v := .bool true) rfl (by kernel_rfl) (by kernel_rfl) (by kernel_rfl) (fun _ _ _ h => h) (Or.inl ⟨by kernel_rfl, ?_⟩) ?_
            focus (intro w; go_simp <;> first | omega | (intro h; omega) | (simp only [decide_eq_true_eq]; omega))
            refine wpAny_take (i := 14) (v := ?_) rfl (by kernel_rfl) (by kernel_rfl) (by kernel_rfl) (fun _ _ _ h => h) (Or.inl ⟨by kernel_rfl, ?_⟩) ?_
            rotate_left
            focus (intro w; go_simp; try with_reducible rfl)
            refine wpAny_take (i := 15) (v := ?_) rfl (by kernel_rfl) (by kernel_rfl) (by kernel_rfl) (fun _ _ _ h => h) (Or.inl ⟨by kernel_rfl, ?_⟩) ?_
            rotate_left
            focus (intro w; go_simp; try with_reducible rfl)
            refine wpAny_take (i := 16) (v := ?_) rfl (by kernel_rfl) (by kernel_rfl) (by kernel_rfl) (fun _ _ _ h => h) (Or.inl ⟨by kernel_rfl, ?_⟩) ?_
            rotate_left
            focus (intro w; go_simp; try with_reducible rfl)
            refine wpAny_take (i := 17) (v := ?_) rfl (by kernel_rfl) (by kernel_rfl) (by kernel_rfl) (fun _ _ _ h => h) (Or.inl ⟨by kernel_rfl, ?_⟩) ?_
            rotate_left
            focus (intro w; go_simp; try with_reducible rfl)
            refine wpAny_ready (rs := [18]) (by kernel_rfl) (by simp) ?_
            refine AllReady.cons rfl (fun K hK => ?_) AllReady.nil
            go_simp
            refine hkp.out.mono ?_
            rintro e w' ⟨rfl, rfl⟩
            refine hK _ _ ?_
            clear hK K
            refine wpAny_take (i := 19) (v := ?_) rfl (by kernel_rfl) (by kernel_rfl) (by kernel_rfl) (fun _ _ _ h => h) (Or.inl ⟨by kernel_rfl, ?_⟩) ?_
            rotate_left
            focus (intro w; go_simp; try with_reducible rfl)
            refine wpAny_take (i := 20) (v := ?_) rfl (by kernel_rfl) (by kernel_rfl) (by kernel_rfl) (fun _ _ _ h => h) (Or.inl ⟨by kernel_rfl, ?_⟩) ?_
            rotate_left
            focus (intro w; go_simp; try with_reducible rfl)
            refine wpAny_ready (rs := [21]) (by kernel_rfl) (by simp) ?_
            refine AllReady.cons rfl (fun K hK => ?_) AllReady.nil
            go_simp
            refine hwk.out.mono ?_
            rintro e wW ⟨rfl, hbW⟩
            refine hK _ _ ?_
            clear hK K
            refine wpAny_take (i := 22) (v := ?_) rfl (by kernel_rfl) (by kernel_rfl) (by kernel_rfl) (fun _ _ _ h => h) (Or.inl ⟨by kernel_rfl, ?_⟩) ?_
            rotate_left
            focus (intro w; go_simp; try with_reducible rfl)
            refine wpAny_take (i := 23) (v := ?_) rfl (by kernel_rfl) (by kernel_rfl) (by kernel_rfl) (fun _ _ _ h => h) (Or.inl ⟨by kernel_rfl, ?_⟩) ?_
            rotate_left
            focus (intro w; go_simp; try with_reducible rfl)
            refine wpAny_done (by kernel_rfl) ?_ _
            go_wp2_with fail
            go_ret
            exact ⟨rfl, hBJ.trans (hbW.mono hBJ.size)⟩
          · go_simp
            refine hK _ _ ?_
            clear hK K
            refine wpAny_ready (rs := [2]) (by kernel_rfl) (by simp) ?_
            refine AllReady.cons rfl (fun K hK => ?_) AllReady.nil
            go_simp
            refine hK _ _ ?_
            clear hK K
            refine wpAny_take (i := 5) (v := ?_) rfl (by kernel_rfl) (by kernel_rfl) (by kernel_rfl) (fun _ _ _ h => h) (Or.inl ⟨by kernel_rfl, ?_⟩) ?_
            rotate_left
            focus (intro w; go_simp; try with_reducible rfl)
            refine wpAny_take (i := 6) (v := ?_) rfl (by kernel_rfl) (by kernel_rfl) (by kernel_rfl) (fun _ _ _ h => h) (Or.inl ⟨by kernel_rfl, ?_⟩) ?_
            rotate_left
            focus (intro w; go_simp; try with_reducible rfl)
            refine wpAny_take (i := 7) (v := ?_) rfl (by kernel_rfl) (by kernel_rfl) (by kernel_rfl) (fun _ _ _ h => h) (Or.inl ⟨by kernel_rfl, ?_⟩) ?_
            rotate_left
            focus (intro w; go_simp; try with_reducible rfl)
            refine wpAny_take (i := 8) (v := ?_) rfl (by kernel_rfl) (by kernel_rfl) (by kernel_rfl) (fun _ _ _ h => h) (Or.inl ⟨by kernel_rfl, ?_⟩) ?_
            rotate_left
            focus (intro w; go_simp; try with_reducible rfl)
            refine wpAny_take (i := 9) (v := ?_) rfl (by kernel_rfl) (by kernel_rfl) (by kernel_rfl) (fun _ _ _ h => h) (Or.inl ⟨by kernel_rfl, ?_⟩) ?_
            rotate_left
            focus (intro w; go_simp; try with_reducible rfl)
            refine wpAny_take (i := 10) (v := ?_) rfl (by kernel_rfl) (by kernel_rfl) (by kernel_rfl) (fun _ _ _ h => h) (Or.inl ⟨by kernel_rfl, ?_⟩) ?_
            rotate_left
            focus (intro w; go_simp; try with_reducible rfl)
            refine wpAny_take (i := 11) (v := ?_) rfl (by kernel_rfl) (by kernel_rfl) (by kernel_rfl) (fun _ _ _ h => h) (Or.inl ⟨by kernel_rfl, ?_⟩) ?_
            rotate_left
            focus (intro w; go_simp; try with_reducible rfl)
            refine wpAny_take (i := 12) (v := ?_) rfl (by kernel_rfl) (by kernel_rfl) (by kernel_rfl) (fun _ _ _ h => h) (Or.inl ⟨by kernel_rfl, ?_⟩) ?_
            rotate_left
            focus (intro w; go_simp; try with_reducible rfl)
            refine wpAny_take (i := 13) (v := .bool true) rfl (by kernel_rfl) (by kernel_rfl) (by kernel_rfl) (fun _ _ _ h => h) (Or.inl ⟨by kernel_rfl, ?_⟩) ?_
            focus (intro w; go_simp <;> first | omega | (intro h; omega) | (simp only [decide_eq_true_eq]; omega))
            refine wpAny_take (i := 14) (v := ?_) rfl (by kernel_rfl) (by kernel_rfl) (by kernel_rfl) (fun _ _ _ h => h) (Or.inl ⟨by kernel_rfl, ?_⟩) ?_
            rotate_left
            focus (intro w; go_simp; try with_reducible rfl)
            refine wpAny_take (i := 15) (v := ?_) rfl (by kernel_rfl) (by kernel_rfl) (by kernel_rfl) (fun _ _ _ h => h) (Or.inl ⟨by kernel_rfl, ?_⟩) ?_
            rotate_left
            focus (intro w; go_simp; try with_reducible rfl)
            refine wpAny_take (i := 16) (v := ?_) rfl (by kernel_rfl) (by kernel_rfl) (by kernel_rfl) (fun _ _ _ h => h) (Or.inl ⟨by kernel_rfl, ?_⟩) ?_
            rotate_left
            focus (intro w; go_simp; try with_reducible rfl)
            refine wpAny_take (i := 17) (v := ?_) rfl (by kernel_rfl) (by kernel_rfl) (by kernel_rfl) (fun _ _ _ h => h) (Or.inl ⟨by kernel_rfl, ?_⟩) ?_
            rotate_left
            focus (intro w; go_simp; try with_reducible rfl)
            refine wpAny_ready (rs := [18]) (by kernel_rfl) (by simp) ?_
            refine AllReady.cons rfl (fun K hK => ?_) AllReady.nil
            go_simp
            refine hkp.out.mono ?_
            rintro e w' ⟨rfl, rfl⟩
            refine hK _ _ ?_
            clear hK K
            refine wpAny_take (i := 19) (v := ?_) rfl (by kernel_rfl) (by kernel_rfl) (by kernel_rfl) (fun _ _ _ h => h) (Or.inl ⟨by kernel_rfl, ?_⟩) ?_
            rotate_left
            focus (intro w; go_simp; try with_reducible rfl)
            refine wpAny_take (i := 20) (v := ?_) rfl (by kernel_rfl) (by kernel_rfl) (by kernel_rfl) (fun _ _ _ h => h) (Or.inl ⟨by kernel_rfl, ?_⟩) ?_
            rotate_left
            focus (intro w; go_simp; try with_reducible rfl)
            refine wpAny_ready (rs := [21]) (by kernel_rfl) (by simp) ?_
            refine AllReady.cons rfl (fun K hK => ?_) AllReady.nil
            go_simp
            refine hwk.out.mono ?_
            rintro e wW ⟨rfl, hbW⟩
            refine hK _ _ ?_
            clear hK K
            refine wpAny_take (i := 22) (v := ?_) rfl (by kernel_rfl) (by kernel_rfl) (by kernel_rfl) (fun _ _ _ h => h) (Or.inl ⟨by kernel_rfl, ?_⟩) ?_
            rotate_left
            focus (intro w; go_simp; try with_reducible rfl)
            refine wpAny_take (i := 23) (v := ?_) rfl (by kernel_rfl) (by kernel_rfl) (by kernel_rfl) (fun _ _ _ h => h) (Or.inl ⟨by kernel_rfl, ?_⟩) ?_
            rotate_left
            focus (intro w; go_simp; try with_reducible rfl)
            refine wpAny_done (by kernel_rfl) ?_ _
            go_wp2_with fail
            go_ret
            exact ⟨rfl, hBJ.trans (hbW.mono hBJ.size)⟩
        · go_simp
          refine hK _ _ ?_
          clear hK K
          refine wpAny_ready (rs := [1]) (by kernel_rfl) (by simp) ?_
          refine AllReady.cons rfl (fun K hK => ?_) AllReady.nil
          go_simp
          refine hj.out.mono ?_
          rintro e wJ ⟨v, rfl, hownJ, hbJ⟩
          rw [Hfl.out] at hownJ
          obtain ⟨AJ, cJ, rfl⟩ := own_slice hownJ
          have hbJ2 := below_drewN hBr 1
          have hrJ : Sees wJ w.heap.size A (byt l) := hrr.drew.below (hbJ.mono hBr.size)
          have htJ : Tab wJ := Tab.below (w := wk.drew) htr hbJ
          have hoJ := own_below (w := wk.drew) hor hbJ (Nat.le_refl _)
          have hBJ : Below w.heap.size w wJ := hbJ2.trans (hbJ.mono hBr.size)
          have hcvJ := run_conv_sees (P := Tryd.prog) wJ Tryd.underlying23 Tryd.underlying5 Tryd.underlying9 (c := cJ) rfl (Sees.of_own hownJ)
          have hcbJ := run_conv_sees (P := Tryd.prog) wJ Tryd.underlying23 Tryd.underlying5 Tryd.underlying9 (c := c) rfl hrJ
          have hkp := Lib.hid (kept_any l l.length c w.heap.size g cap w.heap.size A wJ rfl hm hrJ hoJ)
          have hwk := Lib.hid (works_any wJ htJ)
          clear hownJ hoJ htJ hbJ2 hrJ
          refine hK _ _ ?_
          clear hK K
          refine wpAny_ready (rs := [2]) (by kernel_rfl) (by simp) ?_
          refine AllReady.cons rfl (fun K hK => ?_) AllReady.nil
          go_simp
          refine hK _ _ ?_
          clear hK K
          refine wpAny_take (i := 5) (v := ?_) rfl (by kernel_rfl) (by kernel_rfl) (by kernel_rfl) (fun _ _ _ h => h) (Or.inl ⟨by kernel_rfl, ?_⟩) ?_
          rotate_left
          focus (intro w; go_simp; try with_reducible rfl)
          refine wpAny_take (i := 6) (v := ?_) rfl (by kernel_rfl) (by kernel_rfl) (by kernel_rfl) (fun _ _ _ h => h) (Or.inl ⟨by kernel_rfl, ?_⟩) ?_
          rotate_left
          focus (intro w; go_simp; try with_reducible rfl)
          refine wpAny_take (i := 7) (v := ?_) rfl (by kernel_rfl) (by kernel_rfl) (by kernel_rfl) (fun _ _ _ h => h) (Or.inl ⟨by kernel_rfl, ?_⟩) ?_
          rotate_left
          focus (intro w; go_simp; try with_reducible rfl)
          refine wpAny_take (i := 8) (v := ?_) rfl (by kernel_rfl) (by kernel_rfl) (by kernel_rfl) (fun _ _ _ h => h) (Or.inl ⟨by kernel_rfl, ?_⟩) ?_
          rotate_left
          focus (intro w; go_simp; try with_reducible rfl)
          refine wpAny_take (i := 9) (v := ?_) rfl (by kernel_rfl) (by kernel_rfl) (by kernel_rfl) (fun _ _ _ h => h) (Or.inl ⟨by kernel_rfl, ?_⟩) ?_
          rotate_left
          focus (intro w; go_simp; try with_reducible rfl)
          refine wpAny_take (i := 10) (v := ?_) rfl (by kernel_rfl) (by kernel_rfl) (by kernel_rfl) (fun _ _ _ h => h) (Or.inl ⟨by kernel_rfl, ?_⟩) ?_
          rotate_left
          focus (intro w; go_simp; try with_reducible rfl)
          refine wpAny_take (i := 11) (v := ?_) rfl (by kernel_rfl) (by kernel_rfl) (by kernel_rfl) (fun _ _ _ h => h) (Or.inl ⟨by kernel_rfl, ?_⟩) ?_
          rotate_left
          focus (intro w; go_simp; try with_reducible rfl)
          refine wpAny_take (i := 12) (v := ?_) rfl (by kernel_rfl) (by kernel_rfl) (by kernel_rfl) (fun _ _ _ h => h) (Or.inl ⟨by kernel_rfl, ?_⟩) ?_
          rotate_left
          focus (intro w; go_simp; try with_reducible rfl)
          refine wpAny_take (i := 13) (v := .bool true) rfl (by kernel_rfl) (by kernel_rfl) (by kernel_rfl) (fun _ _ _ h => h) (Or.inl ⟨by kernel_rfl, ?_⟩) ?_
          focus (intro w; go_simp <;> first | omega | (intro h; omega) | (simp only [decide_eq_true_eq]; omega))
          refine wpAny_take (i := 14) (v := ?_) rfl (by kernel_rfl) (by kernel_rfl) (by kernel_rfl) (fun _ _ _ h => h) (Or.inl ⟨by kernel_rfl, ?_⟩) ?_
          rotate_left
          focus (intro w; go_simp; try with_reducible rfl)
          refine wpAny_take (i := 15) (v := ?_) rfl (by kernel_rfl) (by kernel_rfl) (by kernel_rfl) (fun _ _ _ h => h) (Or.inl ⟨by kernel_rfl, ?_⟩) ?_
          rotate_left
          focus (intro w; go_simp; try with_reducible rfl)
          refine wpAny_take (i := 16) (v := ?_) rfl (by kernel_rfl) (by kernel_rfl) (by kernel_rfl) (fun _ _ _ h => h) (Or.inl ⟨by kernel_rfl, ?_⟩) ?_
          rotate_left
          focus (intro w; go_simp; try with_reducible rfl)
          refine wpAny_take (i := 17) (v := ?_) rfl (by kernel_rfl) (by kernel_rfl) (by kernel_rfl) (fun _ _ _ h => h) (Or.inl ⟨by kernel_rfl, ?_⟩) ?_
          rotate_left
          focus (intro w; go_simp; try with_reducible rfl)
          refine wpAny_ready (rs := [18]) (by kernel_rfl) (by simp) ?_
          refine AllReady.cons rfl (fun K hK => ?_) AllReady.nil
          go_simp
          refine hkp.out.mono ?_
          rintro e w' ⟨rfl, rfl⟩
          refine hK _ _ ?_
          clear hK K
          refine wpAny_take (i := 19) (v := ?_) rfl (by kernel_rfl) (by kernel_rfl) (by kernel_rfl) (fun _ _ _ h => h) (Or.inl ⟨by kernel_rfl, ?_⟩) ?_
          rotate_left
          focus (intro w; go_simp; try with_reducible rfl)
          refine wpAny_take (i := 20) (v := ?_) rfl (by kernel_rfl) (by kernel_rfl) (by kernel_rfl) (fun _ _ _ h => h) (Or.inl ⟨by kernel_rfl, ?_⟩) ?_
          rotate_left
          focus (intro w; go_simp; try with_reducible rfl)
          refine wpAny_ready (rs := [21]) (by kernel_rfl) (by simp) ?_
          refine AllReady.cons rfl (fun K hK => ?_) AllReady.nil
          go_simp
          refine hwk.out.mono ?_
          rintro e wW ⟨rfl, hbW⟩
          refine hK _ _ ?_
          clear hK K
          refine wpAny_take (i := 22) (v := ?_) rfl (by kernel_rfl) (by kernel_rfl) (by kernel_rfl) (fun _ _ _ h => h) (Or.inl ⟨by kernel_rfl, ?_⟩) ?_
          rotate_left
          focus (intro w; go_simp; try with_reducible rfl)
          refine wpAny_take (i := 23) (v := ?_) rfl (by kernel_rfl) (by kernel_rfl) (by kernel_rfl) (fun _ _ _ h => h) (Or.inl ⟨by kernel_rfl, ?_⟩) ?_
          rotate_left
          focus (intro w; go_simp; try with_reducible rfl)
          refine wpAny_done (by kernel_rfl) ?_ _
          go_wp2_with fail
          go_ret
          exact ⟨rfl, hBJ.trans (hbW.mono hBJ.size)⟩
      · have hMk : many = (M : Int) := by rw [HM.out]; omega
        have hMl : (M : Int) < k := by omega
        clear Hmn HM hkm
        subst hMk
        go_wp2_with fail
        refine wp_region_any hmix ?_
        refine wpAny_take (i := 0) (v := ?_) rfl (by kernel_rfl) (by kernel_rfl) (by kernel_rfl) (fun _ _ _ h => h) (Or.inl ⟨by kernel_rfl, ?_⟩) ?_
        rotate_left
        focus (intro w; go_simp; try with_reducible rfl)
        refine wpAny_take (i := 3) (v := ?_) rfl (by kernel_rfl) (by kernel_rfl) (by kernel_rfl) (fun _ _ _ h => h) (Or.inl ⟨by kernel_rfl, ?_⟩) ?_
        rotate_left
        focus (intro w; go_simp; try with_reducible rfl)
        refine wpAny_ready (rs := [1, 4]) (by kernel_rfl) (by simp) ?_
        refine AllReady.cons rfl (fun K hK => ?_) (AllReady.cons rfl (fun K hK => ?_) AllReady.nil)
        · go_simp
          refine hj.out.mono ?_
          rintro e wJ ⟨v, rfl, hownJ, hbJ⟩
          rw [Hfl.out] at hownJ
          obtain ⟨AJ, cJ, rfl⟩ := own_slice hownJ
          have hbJ2 := below_drewN hBr 1
          have hrJ : Sees wJ w.heap.size A (byt l) := hrr.drew.below (hbJ.mono hBr.size)
          have htJ : Tab wJ := Tab.below (w := wk.drew) htr hbJ
          have hoJ := own_below (w := wk.drew) hor hbJ (Nat.le_refl _)
          have hBJ : Below w.heap.size w wJ := hbJ2.trans (hbJ.mono hBr.size)
          have hcvJ := run_conv_sees (P := Tryd.prog) wJ Tryd.underlying23 Tryd.underlying5 Tryd.underlying9 (c := cJ) rfl (Sees.of_own hownJ)
          have hcbJ := run_conv_sees (P := Tryd.prog) wJ Tryd.underlying23 Tryd.underlying5 Tryd.underlying9 (c := c) rfl hrJ
          have hkp := Lib.hid (kept_any l l.length c w.heap.size g cap w.heap.size A wJ rfl hm hrJ hoJ)
          have hwk := Lib.hid (works_any wJ htJ)
          clear hownJ hoJ htJ hbJ2 hrJ
          refine hK _ _ ?_
          clear hK K
          refine wpAny_ready (rs := [2, 4]) (by kernel_rfl) (by simp) ?_
          refine AllReady.cons rfl (fun K hK => ?_) (AllReady.cons rfl (fun K hK => ?_) AllReady.nil)
          · go_simp
            refine hK _ _ ?_
            clear hK K
            refine wpAny_ready (rs := [4]) (by kernel_rfl) (by simp) ?_
            refine AllReady.cons rfl (fun K hK => ?_) AllReady.nil
            go_simp
            refine hK _ _ ?_
            clear hK K
            refine wpAny_take (i := 5) (v := ?_) rfl (by kernel_rfl) (by kernel_rfl) (by kernel_rfl) (fun _ _ _ h => h) (Or.inl ⟨by kernel_rfl, ?_⟩) ?_
            rotate_left
            focus (intro w; go_simp; try with_reducible rfl)
            refine wpAny_take (i := 6) (v := ?_) rfl (by kernel_rfl) (by kernel_rfl) (by kernel_rfl) (fun _ _ _ h => h) (Or.inl ⟨by kernel_rfl, ?_⟩) ?_
            rotate_left
            focus (intro w; go_simp; try with_reducible rfl)
            refine wpAny_take (i := 7) (v := ?_) rfl (by kernel_rfl) (by kernel_rfl) (by kernel_rfl) (fun _ _ _ h => h) (Or.inl ⟨by kernel_rfl, ?_⟩) ?_
            rotate_left
            focus (intro w; go_simp; try with_reducible rfl)
            refine wpAny_take (i := 8) (v := ?_) rfl (by kernel_rfl) (by kernel_rfl) (by kernel_rfl) (fun _ _ _ h => h) (Or.inl ⟨by kernel_rfl, ?_⟩) ?_
            rotate_left
            focus (intro w; go_simp; try with_reducible rfl)
            refine wpAny_take (i := 9) (v := ?_) rfl (by kernel_rfl) (by kernel_rfl) (by kernel_rfl) (fun _ _ _ h => h) (Or.inl ⟨by kernel_rfl, ?_⟩) ?_
            rotate_left
            focus (intro w; go_simp; try with_reducible rfl)
            refine wpAny_take (i := 10) (v := ?_) rfl (by kernel_rfl) (by kernel_rfl) (by kernel_rfl) (fun _ _ _ h => h) (Or.inl ⟨by kernel_rfl, ?_⟩) ?_
            rotate_left
            focus (intro w; go_simp; try with_reducible rfl)
            refine wpAny_take (i := 11) (v := ?_) rfl (by kernel_rfl) (by kernel_rfl) (by kernel_rfl) (fun _ _ _ h => h) (Or.inl ⟨by kernel_rfl, ?_⟩) ?_
            rotate_left
            focus (intro w; go_simp; try with_reducible rfl)
            refine wpAny_take (i := 12) (v := ?_) rfl (by kernel_rfl) (by kernel_rfl) (by kernel_rfl) (fun _ _ _ h => h) (Or.inl ⟨by kernel_rfl, ?_⟩) ?_
            rotate_left
            focus (intro w; go_simp; try with_reducible rfl)
            refine wpAny_take (i := 13) (v := .bool true) rfl (by kernel_rfl) (by kernel_rfl) (by kernel_rfl) (fun _ _ _ h => h) (Or.inl ⟨by kernel_rfl, ?_⟩) ?_
            focus (intro w; go_simp <;> first | omega | (intro h; omega) | (simp only [decide_eq_true_eq]; omega))
            refine wpAny_take (i := 14) (v := ?_) rfl (by kernel_rfl) (by kernel_rfl) (by kernel_rfl) (fun _ _ _ h => h) (Or.inl ⟨by kernel_rfl, ?_⟩) ?_
            rotate_left
            focus (intro w; go_simp; try with_reducible rfl)
            refine wpAny_take (i := 15) (v := ?_) rfl (by kernel_rfl) (by kernel_rfl) (by kernel_rfl) (fun _ _ _ h => h) (Or.inl ⟨by kernel_rfl, ?_⟩) ?_
            rotate_left
            focus (intro w; go_simp; try with_reducible rfl)
            refine wpAny_take (i := 16) (v := ?_) rfl (by kernel_rfl) (by kernel_rfl) (by kernel_rfl) (fun _ _ _ h => h) (Or.inl ⟨by kernel_rfl, ?_⟩) ?_
            rotate_left
            focus (intro w; go_simp; try with_reducible rfl)
            refine wpAny_take (i := 17) (v := ?_) rfl (by kernel_rfl) (by kernel_rfl) (by kernel_rfl) (fun _ _ _ h => h) (Or.inl ⟨by kernel_rfl, ?_⟩) ?_
            rotate_left
            focus (intro w; go_simp; try with_reducible rfl)
            refine wpAny_ready (rs := [18]) (by kernel_rfl) (by simp) ?_
            refine AllReady.cons rfl (fun K hK => ?_) AllReady.nil
            go_simp
            refine hkp.out.mono ?_
            rintro e w' ⟨rfl, rfl⟩
            refine hK _ _ ?_
            clear hK K
            refine wpAny_take (i := 19) (v := ?_) rfl (by kernel_rfl) (by kernel_rfl) (by kernel_rfl) (fun _ _ _ h => h) (Or.inl ⟨by kernel_rfl, ?_⟩) ?_
            rotate_left
            focus (intro w; go_simp; try with_reducible rfl)
            refine wpAny_take (i := 20) (v := ?_) rfl (by kernel_rfl) (by kernel_rfl) (by kernel_rfl) (fun _ _ _ h => h) (Or.inl ⟨by kernel_rfl, ?_⟩) ?_
            rotate_left
            focus (intro w; go_simp; try with_reducible rfl)
            refine wpAny_ready (rs := [21]) (by kernel_rfl) (by simp) ?_
            refine AllReady.cons rfl (fun K hK => ?_) AllReady.nil
            go_simp
            refine hwk.out.mono ?_
            rintro e wW ⟨rfl, hbW⟩
            refine hK _ _ ?_
            clear hK K
            refine wpAny_take (i := 22) (v := ?_) rfl (by kernel_rfl) (by kernel_rfl) (by kernel_rfl) (fun _ _ _ h => h) (Or.inl ⟨by kernel_rfl, ?_⟩) ?_
            rotate_left
            focus (intro w; go_simp; try with_reducible rfl)
            refine wpAny_take (i := 23) (v := ?_) rfl (by kernel_rfl) (by kernel_rfl) (by kernel_rfl) (fun _ _ _ h => h) (Or.inl ⟨by kernel_rfl, ?_⟩) ?_
            rotate_left
            focus (intro w; go_simp; try with_reducible rfl)
            refine wpAny_done (by kernel_rfl) ?_ _
            go_wp2_with fail
            go_ret
            exact ⟨rfl, hBJ.trans (hbW.mono hBJ.size)⟩
          · go_simp
            refine hK _ _ ?_
            clear hK K
            refine wpAny_ready (rs := [2]) (by kernel_rfl) (by simp) ?_
            refine AllReady.cons rfl (fun K hK => ?_) AllReady.nil
            go_simp
            refine hK _ _ ?_
            clear hK K
            refine wpAny_take (i := 5) (v := ?_) rfl (by kernel_rfl) (by kernel_rfl) (by kernel_rfl) (fun _ _ _ h => h) (Or.inl ⟨by kernel_rfl, ?_⟩) ?_
            rotate_left
            focus (intro w; go_simp; try with_reducible rfl)
            refine wpAny_take (i := 6) (v := ?_) rfl (by kernel_rfl) (by kernel_rfl) (by kernel_rfl) (fun _ _ _ h => h) (Or.inl ⟨by kernel_rfl, ?_⟩) ?_
            rotate_left
            focus (intro w; go_simp; try with_reducible rfl)
            refine wpAny_take (i := 7) (v := ?_) rfl (by kernel_rfl) (by kernel_rfl) (by kernel_rfl) (fun _ _ _ h => h) (Or.inl ⟨by kernel_rfl, ?_⟩) ?_
            rotate_left
            focus (intro w; go_simp; try with_reducible rfl)
            refine wpAny_take (i := 8) (v := ?_) rfl (by kernel_rfl) (by kernel_rfl) (by kernel_rfl) (fun _ _ _ h => h) (Or.inl ⟨by kernel_rfl, ?_⟩) ?_
            rotate_left
            focus (intro w; go_simp; try with_reducible rfl)
            refine wpAny_take (i := 9) (v := ?_) rfl (by kernel_rfl) (by kernel_rfl) (by kernel_rfl) (fun _ _ _ h => h) (Or.inl ⟨by kernel_rfl, ?_⟩) ?_
            rotate_left
            focus (intro w; go_simp; try with_reducible rfl)
            refine wpAny_take (i := 10) (v := ?_) rfl (by kernel_rfl) (by kernel_rfl) (by kernel_rfl) (fun _ _ _ h => h) (Or.inl ⟨by kernel_rfl, ?_⟩) ?_
            rotate_left
            focus (intro w; go_simp; try with_reducible rfl)
            refine wpAny_take (i := 11) (v := ?_) rfl (by kernel_rfl) (by kernel_rfl) (by kernel_rfl) (fun _ _ _ h => h) (Or.inl ⟨by kernel_rfl, ?_⟩) ?_
            rotate_left
            focus (intro w; go_simp; try with_reducible rfl)
            refine wpAny_take (i := 12) (v := ?_) rfl (by kernel_rfl) (by kernel_rfl) (by kernel_rfl) (fun _ _ _ h => h) (Or.inl ⟨by kernel_rfl, ?_⟩) ?_
            rotate_left
            focus (intro w; go_simp; try with_reducible rfl)
            refine wpAny_take (i := 13) (v := .bool true) rfl (by kernel_rfl) (by kernel_rfl) (by kernel_rfl) (fun _ _ _ h => h) (Or.inl ⟨by kernel_rfl, ?_⟩) ?_
            focus (intro w; go_simp <;> first | omega | (intro h; omega) | (simp only [decide_eq_true_eq]; omega))
            refine wpAny_take (i := 14) (v := ?_) rfl (by kernel_rfl) (by kernel_rfl) (by kernel_rfl) (fun _ _ _ h => h) (Or.inl ⟨by kernel_rfl, ?_⟩) ?_
            rotate_left
            focus (intro w; go_simp; try with_reducible rfl)
            refine wpAny_take (i := 15) (v := ?_) rfl (by kernel_rfl) (by kernel_rfl) (by kernel_rfl) (fun _ _ _ h => h) (Or.inl ⟨by kernel_rfl, ?_⟩) ?_
            rotate_left
            focus (intro w; go_simp; try with_reducible rfl)
            refine wpAny_take (i := 16) (v := ?_) rfl (by kernel_rfl) (by kernel_rfl) (by kernel_rfl) (fun _ _ _ h => h) (Or.inl ⟨by kernel_rfl, ?_⟩) ?_
            rotate_left
            focus (intro w; go_simp; try with_reducible rfl)
            refine wpAny_take (i := 17) (v := ?_) rfl (by kernel_rfl) (by kernel_rfl) (by kernel_rfl) (fun _ _ _ h => h) (Or.inl ⟨by kernel_rfl, ?_⟩) ?_
            rotate_left
            focus (intro w; go_simp; try with_reducible rfl)
            refine wpAny_ready (rs := [18]) (by kernel_rfl) (by simp) ?_
            refine AllReady.cons rfl (fun K hK => ?_) AllReady.nil
            go_simp
            refine hkp.out.mono ?_
            rintro e w' ⟨rfl, rfl⟩
            refine hK _ _ ?_
            clear hK K
            refine wpAny_take (i := 19) (v := ?_) rfl (by kernel_rfl) (by kernel_rfl) (by kernel_rfl) (fun _ _ _ h => h) (Or.inl ⟨by kernel_rfl, ?_⟩) ?_
            rotate_left
            focus (intro w; go_simp; try with_reducible rfl)
            refine wpAny_take (i := 20) (v := ?_) rfl (by kernel_rfl) (by kernel_rfl) (by kernel_rfl) (fun _ _ _ h => h) (Or.inl ⟨by kernel_rfl, ?_⟩) ?_
            rotate_left
            focus (intro w; go_simp; try with_reducible rfl)
            refine wpAny_ready (rs := [21]) (by kernel_rfl) (by simp) ?_
            refine AllReady.cons rfl (fun K hK => ?_) AllReady.nil
            go_simp
            refine hwk.out.mono ?_
            rintro e wW ⟨rfl, hbW⟩
            refine hK _ _ ?_
            clear hK K
            refine wpAny_take (i := 22) (v := ?_) rfl (by kernel_rfl) (by kernel_rfl) (by kernel_rfl) (fun _ _ _ h => h) (Or.inl ⟨by kernel_rfl, ?_⟩) ?_
            rotate_left
            focus (intro w; go_simp; try with_reducible rfl)
            refine wpAny_take (i := 23) (v := ?_) rfl (by kernel_rfl) (by kernel_rfl) (by kernel_rfl) (fun _ _ _ h => h) (Or.inl ⟨by kernel_rfl, ?_⟩) ?_
            rotate_left
            focus (intro w; go_simp; try with_reducible rfl)
            refine wpAny_done (by kernel_rfl) ?_ _
            go_wp2_with fail
            go_ret
            exact ⟨rfl, hBJ.trans (hbW.mono hBJ.size)⟩
        · go_simp
          refine hK _ _ ?_
          clear hK K
          refine wpAny_ready (rs := [1]) (by kernel_rfl) (by simp) ?_
          refine AllReady.cons rfl (fun K hK => ?_) AllReady.nil
          go_simp
          refine hj.out.mono ?_
          rintro e wJ ⟨v, rfl, hownJ, hbJ⟩
          rw [Hfl.out] at hownJ
          obtain ⟨AJ, cJ, rfl⟩ := own_slice hownJ
          have hbJ2 := below_drewN hBr 1
          have hrJ : Sees wJ w.heap.size A (byt l) := hrr.drew.below (hbJ.mono hBr.size)
          have htJ : Tab wJ := Tab.below (w := wk.drew) htr hbJ
          have hoJ := own_below (w := wk.drew) hor hbJ (Nat.le_refl _)
          have hBJ : Below w.heap.size w wJ := hbJ2.trans (hbJ.mono hBr.size)
          have hcvJ := run_conv_sees (P := Tryd.prog) wJ Tryd.underlying23 Tryd.underlying5 Tryd.underlying9 (c := cJ) rfl (Sees.of_own hownJ)
          have hcbJ := run_conv_sees (P := Tryd.prog) wJ Tryd.underlying23 Tryd.underlying5 Tryd.underlying9 (c := c) rfl hrJ
          have hkp := Lib.hid (kept_any l l.length c w.heap.size g cap w.heap.size A wJ rfl hm hrJ hoJ)
          have hwk := Lib.hid (works_any wJ htJ)
          clear hownJ hoJ htJ hbJ2 hrJ
          refine hK _ _ ?_
          clear hK K
          refine wpAny_ready (rs := [2]) (by kernel_rfl) (by simp) ?_
          refine AllReady.cons rfl (fun K hK => ?_) AllReady.nil
          go_simp
          refine hK _ _ ?_
          clear hK K
          refine wpAny_take (i := 5) (v := ?_) rfl (by kernel_rfl) (by kernel_rfl) (by kernel_rfl) (fun _ _ _ h => h) (Or.inl ⟨by kernel_rfl, ?_⟩) ?_
          rotate_left
          focus (intro w; go_simp; try with_reducible rfl)
          refine wpAny_take (i := 6) (v := ?_) rfl (by kernel_rfl) (by kernel_rfl) (by kernel_rfl) (fun _ _ _ h => h) (Or.inl ⟨by kernel_rfl, ?_⟩) ?_
          rotate_left
          focus (intro w; go_simp; try with_reducible rfl)
          refine wpAny_take (i := 7) (v := ?_) rfl (by kernel_rfl) (by kernel_rfl) (by kernel_rfl) (fun _ _ _ h => h) (Or.inl ⟨by kernel_rfl, ?_⟩) ?_
          rotate_left
          focus (intro w; go_simp; try with_reducible rfl)
          refine wpAny_take (i := 8) (v := ?_) rfl (by kernel_rfl) (by kernel_rfl) (by kernel_rfl) (fun _ _ _ h => h) (Or.inl ⟨by kernel_rfl, ?_⟩) ?_
          rotate_left
          focus (intro w; go_simp; try with_reducible rfl)
          refine wpAny_take (i := 9) (v := ?_) rfl (by kernel_rfl) (by kernel_rfl) (by kernel_rfl) (fun _ _ _ h => h) (Or.inl ⟨by kernel_rfl, ?_⟩) ?_
          rotate_left
          focus (intro w; go_simp; try with_reducible rfl)
          refine wpAny_take (i := 10) (v := ?_) rfl (by kernel_rfl) (by kernel_rfl) (by kernel_rfl) (fun _ _ _ h => h) (Or.inl ⟨by kernel_rfl, ?_⟩) ?_
          rotate_left
          focus (intro w; go_simp; try with_reducible rfl)
          refine wpAny_take (i := 11) (v := ?_) rfl (by kernel_rfl) (by kernel_rfl) (by kernel_rfl) (fun _ _ _ h => h) (Or.inl ⟨by kernel_rfl, ?_⟩) ?_
          rotate_left
          focus (intro w; go_simp; try with_reducible rfl)
          refine wpAny_take (i := 12) (v := ?_) rfl (by kernel_rfl) (by kernel_rfl) (by kernel_rfl) (fun _ _ _ h => h) (Or.inl ⟨by kernel_rfl, ?_⟩) ?_
          rotate_left
          focus (intro w; go_simp; try with_reducible rfl)
          refine wpAny_take (i := 13) (v := .bool true) rfl (by kernel_rfl) (by kernel_rfl) (by kernel_rfl) (fun _ _ _ h => h) (Or.inl ⟨by kernel_rfl, ?_⟩) ?_
          focus (intro w; go_simp <;> first | omega | (intro h; omega) | (simp only [decide_eq_true_eq]; omega))
          refine wpAny_take (i := 14) (v := ?_) rfl (by kernel_rfl) (by kernel_rfl) (by kernel_rfl) (fun _ _ _ h => h) (Or.inl ⟨by kernel_rfl, ?_⟩) ?_
          rotate_left
          focus (intro w; go_simp; try with_reducible rfl)
          refine wpAny_take (i := 15) (v := ?_) rfl (by kernel_rfl) (by kernel_rfl) (by kernel_rfl) (fun _ _ _ h => h) (Or.inl ⟨by kernel_rfl, ?_⟩) ?_
          rotate_left
          focus (intro w; go_simp; try with_reducible rfl)
          refine wpAny_take (i := 16) (v := ?_) rfl (by kernel_rfl) (by kernel_rfl) (by kernel_rfl) (fun _ _ _ h => h) (Or.inl ⟨by kernel_rfl, ?_⟩) ?_
          rotate_left
          focus (intro w; go_simp; try with_reducible rfl)
          refine wpAny_take (i := 17) (v := ?_) rfl (by kernel_rfl) (by kernel_rfl) (by kernel_rfl) (fun _ _ _ h => h) (Or.inl ⟨by kernel_rfl, ?_⟩) ?_
          rotate_left
          focus (intro w; go_simp; try with_reducible rfl)
          refine wpAny_ready (rs := [18]) (by kernel_rfl) (by simp) ?_
          refine AllReady.cons rfl (fun K hK => ?_) AllReady.nil
          go_simp
          refine hkp.out.mono ?_
          rintro e w' ⟨rfl, rfl⟩
          refine hK _ _ ?_
          clear hK K
          refine wpAny_take (i := 19) (v := ?_) rfl (by kernel_rfl) (by kernel_rfl) (by kernel_rfl) (fun _ _ _ h => h) (Or.inl ⟨by kernel_rfl, ?_⟩) ?_
          rotate_left
          focus (intro w; go_simp; try with_reducible rfl)
          refine wpAny_take (i := 20) (v := ?_) rfl (by kernel_rfl) (by kernel_rfl) (by kernel_rfl) (fun _ _ _ h => h) (Or.inl ⟨by kernel_rfl, ?_⟩) ?_
          rotate_left
          focus (intro w; go_simp; try with_reducible rfl)
          refine wpAny_ready (rs := [21]) (by kernel_rfl) (by simp) ?_
          refine AllReady.cons rfl (fun K hK => ?_) AllReady.nil
          go_simp
          refine hwk.out.mono ?_
          rintro e wW ⟨rfl, hbW⟩
          refine hK _ _ ?_
          clear hK K
          refine wpAny_take (i := 22) (v := ?_) rfl (by kernel_rfl) (by kernel_rfl) (by kernel_rfl) (fun _ _ _ h => h) (Or.inl ⟨by kernel_rfl, ?_⟩) ?_
          rotate_left
          focus (intro w; go_simp; try with_reducible rfl)
          refine wpAny_take (i := 23) (v := ?_) rfl (by kernel_rfl) (by kernel_rfl) (by kernel_rfl) (fun _ _ _ h => h) (Or.inl ⟨by kernel_rfl, ?_⟩) ?_
          rotate_left
          focus (intro w; go_simp; try with_reducible rfl)
          refine wpAny_done (by kernel_rfl) ?_ _
          go_wp2_with fail
          go_ret
          exact ⟨rfl, hBJ.trans (hbW.mono hBJ.size)⟩
end Go.Proofs.YtbgpdahoochkiaaDoor
