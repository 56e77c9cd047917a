import Derived.Test.YtodbaahnmmfgiaaLC
namespace Go.Proofs.Ytodbaahnmmfgiaa.Lk
open Go.RowKit Go.Shelf
attribute [local go_sem] Oper.semAt_some

/- THE DOCUMENT's SAME, TRY, FREE, DROP. -/
set_option maxHeartbeats 1000000 in
theorem rsame_any (a b : Ls) (A B : Option Addr) (c d n m : Nat) (w : World) (ha : a.length = n) (hb : b.length = m) (hn : n ≤ 4611686018427387904) (hA : Sees w w.heap.size A (izs a)) (hB : Sees w w.heap.size B (izs b)) :
    Calls Try.prog 17 #[.slice A n c, .slice B m d] w fun e w' => e = .returned (.bool (decide (a = b))) ∧ ∃ q, w' = w.drewN q := by
  by_cases hnm : n = m
  · subst hnm
    have hd : ((n : Int) != (n : Int)) = false := by simp
    have HA := Lib.hid hA
    have HB := Lib.hid hB
    have HLA := Lib.hid ha
    have HLB := Lib.hid hb
    have HE : Hid (∀ k (h1 : k < a.length) (h2 : k < b.length), a[k] ≠ b[k] → decide (a = b) = false) := Lib.hid (fun k h1 h2 h => decide_eq_false (fun e => h (by subst e; rfl)))
    have HT : Hid ((∀ k (h1 : k < a.length) (h2 : k < b.length), a[k] = b[k]) → decide (a = b) = true) := Lib.hid (fun h => decide_eq_true (List.ext_getElem (ha.trans hb.symm) h))
    obtain ⟨D, hD⟩ : ∃ D, D = decide (a = b) := ⟨_, rfl⟩
    rw [← hD] at HE HT ⊢
    clear hD hA hB ha hb
    go_enter Try.func17, Try.ntmps17
    go_wp2_with fail
    go_loopw [5] (fun s5 wr => ∃ k : Nat, k ≤ n ∧ s5 = .int .i64 (k : Int) ∧ Hid (∀ j (h1 : j < a.length) (h2 : j < b.length), j < k → a[j] = b[j]) ∧ ∃ q, wr = w.drewN q) (fun s5 _ => n - (_root_.Go.RowKit.intOf s5).toNat)
    case atStart => exact ⟨0, Nat.zero_le _, rfl, Lib.hid (fun j _ _ h => absurd h (by omega)), 0, rfl⟩
    case round =>
      obtain ⟨k, hk, rfl, HI, q, rfl⟩ := hrel
      by_cases hlt : k < n
      · have h1 : k < a.length := by rw [HLA.out]; exact hlt
        have h2 : k < b.length := by rw [HLB.out]; exact hlt
        obtain ⟨ad, rfl, _, a1⟩ := sees_int HA.out h1
        obtain ⟨bd, rfl, _, b1⟩ := sees_int HB.out h2
        have j0 : (0 : Int) ≤ (k : Int) := by omega
        have j1 : (k : Int) < (n : Int) := by omega
        have j2 : decide ((k : Int) < (n : Int)) = true := decide_eq_true j1
        have j3 : decide (k < n) = true := decide_eq_true hlt
        by_cases he : a[k] = b[k]
        · rw [← he] at b1
          have HI2 : Hid (∀ j (h1 : j < a.length) (h2 : j < b.length), j < k + 1 → a[j] = b[j]) := Lib.hid (fun j h1 h2 h => by
            by_cases e : j < k
            · exact HI.out j h1 h2 e
            · obtain rfl : j = k := by omega
              exact he)
          obtain ⟨x, hx⟩ : ∃ x, x = a[k] := ⟨_, rfl⟩
          rw [← hx] at a1 b1
          have e1 : (x != x) = false := by simp
          clear he hx HI
          go_wp2_with fail
          go_quiet (fail)
          go_wp2_with fail
          go_roundw
          case rel => exact ⟨k + 1, by omega, by go_num, HI2, _, rfl⟩
          case measure => simp [_root_.Go.RowKit.intOf]; omega
        · have HF := Lib.hid (HE.out k h1 h2 he)
          obtain ⟨x, hx⟩ : ∃ x, x = a[k] := ⟨_, rfl⟩
          obtain ⟨u, hu⟩ : ∃ u, u = b[k] := ⟨_, rfl⟩
          rw [← hx] at a1 he
          rw [← hu] at b1 he
          have e1 : (x != u) = true := by simp [he]
          clear he hx hu HI
          go_wp2_with fail
          go_quiet (fail)
          go_wp2_with fail
          go_ret
          exact ⟨by rw [HF.out]; rfl, _, World.drewN_drewN _ _ _⟩
      · obtain rfl : k = n := by omega
        have HF := Lib.hid (HT.out (fun j h1 h2 => HI.out j h1 h2 (by rw [← HLA.out]; exact h1)))
        clear HI
        go_wp2_with fail
        go_ret
        exact ⟨by rw [HF.out]; rfl, _, rfl⟩
  · have hd : ((n : Int) != (m : Int)) = true := by
      simp
      omega
    have HF := Lib.hid (show decide (a = b) = false from decide_eq_false (fun e => hnm (by rw [← ha, ← hb, e])))
    clear hnm
    go_enter Try.func17, Try.ntmps17
    go_wp2_with fail
    go_ret
    exact ⟨by rw [HF.out]; rfl, 0, rfl⟩
/-- of two lists: are they the same? -/
theorem rsame_wi (a b : Ls) (v u : Value) (w : World) (hn : a.length ≤ 64) (hv : Wi w v a) (hu : Wi w u b) :
    Calls Try.prog 17 #[v, u] w fun e w' => e = .returned (.bool (decide (a = b))) ∧ Below w.heap.size w w' := by
  obtain ⟨A, c, rfl, _, h1⟩ := hv.sees
  obtain ⟨B, d, rfl, _, h2⟩ := hu.sees
  refine (rsame_any a b A B c d a.length b.length w rfl rfl (by omega) h1 h2).mono ?_
  rintro e w' ⟨e1, q, rfl⟩
  exact ⟨e1, below_drewN (Below.refl _ _) q⟩

theorem asks_in {l : Ls} {t r : Int} (h : asksE l t r = 0) : ∃ k : Nat, r = (k : Int) ∧ k < l.length ∧ threadB t = true := by
  unfold asksE at h
  split at h
  · cases h
  · rename_i h1
    split at h
    · cases h
    · rename_i h2
      exact ⟨r.toNat, by omega, by omega, by simpa using h1⟩
theorem rtry_any (l : Ls) (v : Value) (t r : Int) (w : World) (hn : l.length ≤ 64) (h : Wi w v l) :
    Calls Try.prog 27 #[v, .int .i64 t, .int .i64 r] w fun e w' => ∃ v', e = .returned (.tuple #[v', .bool (tryQ l t r), .int .i64 (asksE l t r)]) ∧ Wi w' v' (tryL l t r) ∧ Below w.heap.size w w' := by
  have h' := h
  obtain ⟨A, c, rfl, _, hs⟩ := h'.sees
  have HA := Lib.hid (rasks_any l A l.length c t r w rfl hn hs)
  by_cases hE : asksE l t r = 0
  · obtain ⟨k, rfl, hk, ht⟩ := asks_in hE
    have hgd : l.getD k (-1) = l[k] := by simp [hk]
    have HC := Lib.hid (fun V (hb : Below w.heap.size w V) => (show ∃ ad, A = some ad ∧ V.cell? (ad.add k) = some (.int .i64 l[k]) from by
      obtain ⟨ad, e, _, hc⟩ := sees_int ((hs.below hb).more hb.size) hk
      exact ⟨ad, e, hc⟩))
    rw [hE] at HA ⊢
    by_cases hx : l[k] < 0
    · have HQ := Lib.hid (show tryQ l t (k : Int) = true by unfold tryQ; rw [hE, Int.toNat_natCast, hgd]; simp [hx])
      have HL := Lib.hid (show tryL l t (k : Int) = withL l k t by unfold tryL; rw [if_pos HQ.out, Int.toNat_natCast])
      have HW := Lib.hid (fun V (hb : Below w.heap.size w V) => rwith_wi l (.slice A l.length c) k t V hn hk (h.below hb))
      rw [HQ.out, HL.out]
      obtain ⟨x, hxx⟩ : ∃ x, x = l[k] := ⟨_, rfl⟩
      rw [← hxx] at HC hx
      have f1 : decide (0 ≤ x) = false := decide_eq_false (by omega)
      have j0 : (0 : Int) ≤ (k : Int) := by omega
      have j1 : (k : Int) < (l.length : Int) := by omega
      obtain ⟨n, hnn⟩ : ∃ n, n = l.length := ⟨_, rfl⟩
      rw [← hnn] at HA HW j1 ⊢
      clear h h' hs hE hgd hxx hnn hk ht hx
      go_enter Try.func27, Try.ntmps27
      go_wp2_with fail
      refine HA.out.mono ?_
      rintro e w1 ⟨rfl, hb⟩
      obtain ⟨ad, rfl, hc⟩ := HC.out _ hb
      have HB := Lib.hid hb
      clear hb
      go_wp2_with fail
      refine (HW.out _ HB.out).mono ?_
      rintro e w2 ⟨v', rfl, hwi, hb⟩
      have HF := Lib.hid (And.intro hwi (below0 HB.out hb))
      clear hwi hb hc
      go_wp2_with fail
      exact bodyPost_ret (v := .tuple #[_, _, _]) (by simp [results, Try.results27, go_sem]) rfl ⟨_, rfl, HF.out.1, HF.out.2⟩
    · have HQ := Lib.hid (show tryQ l t (k : Int) = false by unfold tryQ; rw [hE, Int.toNat_natCast, hgd]; simp [hx])
      have HL := Lib.hid (show tryL l t (k : Int) = l by unfold tryL; rw [if_neg (by rw [HQ.out]; decide)])
      have HW := Lib.hid (fun V (hb : Below w.heap.size w V) => h.below hb)
      rw [HQ.out, HL.out]
      obtain ⟨x, hxx⟩ : ∃ x, x = l[k] := ⟨_, rfl⟩
      rw [← hxx] at HC hx
      have f1 : decide (0 ≤ x) = true := decide_eq_true (by omega)
      have j0 : (0 : Int) ≤ (k : Int) := by omega
      have j1 : (k : Int) < (l.length : Int) := by omega
      obtain ⟨n, hnn⟩ : ∃ n, n = l.length := ⟨_, rfl⟩
      rw [← hnn] at HA HW j1 ⊢
      clear h h' hs hE hgd hxx hnn hk ht hx
      go_enter Try.func27, Try.ntmps27
      go_wp2_with fail
      refine HA.out.mono ?_
      rintro e w1 ⟨rfl, hb⟩
      obtain ⟨ad, rfl, hc⟩ := HC.out _ hb
      have HF := Lib.hid (And.intro (HW.out _ hb) hb)
      clear hb
      go_wp2_with fail
      exact bodyPost_ret (v := .tuple #[_, _, _]) (by simp [results, Try.results27, go_sem]) rfl ⟨_, rfl, HF.out.1, HF.out.2⟩
  · have HQ := Lib.hid (show tryQ l t r = false by unfold tryQ; rw [beq_eq_false_iff_ne.2 hE]; rfl)
    have HL := Lib.hid (show tryL l t r = l by unfold tryL; rw [if_neg (by rw [HQ.out]; decide)])
    have HW := Lib.hid (fun V (hb : Below w.heap.size w V) => h.below hb)
    rw [HQ.out, HL.out]
    obtain ⟨x, hxx⟩ : ∃ x, x = asksE l t r := ⟨_, rfl⟩
    rw [← hxx] at HA hE ⊢
    have f1 : (x != 0) = true := by simp [hE]
    obtain ⟨n, hnn⟩ : ∃ n, n = l.length := ⟨_, rfl⟩
    rw [← hnn] at HA HW ⊢
    clear h h' hs hE hxx hnn
    go_enter Try.func27, Try.ntmps27
    go_wp2_with fail
    refine HA.out.mono ?_
    rintro e w1 ⟨rfl, hb⟩
    have HF := Lib.hid (And.intro (HW.out _ hb) hb)
    clear hb
    go_wp2_with fail
    exact bodyPost_ret (v := .tuple #[_, _, _]) (by simp [results, Try.results27, go_sem]) rfl ⟨_, rfl, HF.out.1, HF.out.2⟩
theorem rfree_any (l : Ls) (v : Value) (t r : Int) (w : World) (hn : l.length ≤ 64) (h : Wi w v l) :
    Calls Try.prog 28 #[v, .int .i64 t, .int .i64 r] w fun e w' => ∃ v', e = .returned (.tuple #[v', .int .i64 (freeE l t r)]) ∧ Wi w' v' (freeL l t r) ∧ Below w.heap.size w w' := by
  have h' := h
  obtain ⟨A, c, rfl, _, hs⟩ := h'.sees
  have HT := Lib.hid (fun w => rthread_any t w)
  have HS := Lib.hid (fun (hE : freeE l t r ≠ 0) => (show freeL l t r = l by unfold freeL; rw [if_neg hE]))
  cases ht : threadB t
  · have hE := Lib.hid (show freeE l t r = 2 by unfold freeE; rw [if_pos ht])
    have HL := Lib.hid (HS.out (by rw [hE.out]; decide))
    have HW := Lib.hid h
    rw [HL.out, hE.out]
    rw [ht] at HT
    obtain ⟨n, hnn⟩ : ∃ n, n = l.length := ⟨_, rfl⟩
    rw [← hnn] at HW ⊢
    clear h h' hs hnn
    go_enter Try.func28, Try.ntmps28
    go_wp2_with fail
    refine (HT.out _).mono ?_
    rintro e w1 ⟨rfl, rfl⟩
    go_wp2_with fail
    go_ret2
    exact ⟨_, rfl, HW.out, Below.refl _ _⟩
  · rw [ht] at HT
    by_cases hr : r < 0
    · have hE := Lib.hid (show freeE l t r = 4 by unfold freeE; rw [if_neg (by rw [ht]; decide), if_pos (.inl hr)])
      have HL := Lib.hid (HS.out (by rw [hE.out]; decide))
      have HW := Lib.hid h
      rw [HL.out, hE.out]
      have e1 : decide (r < 0) = true := decide_eq_true hr
      obtain ⟨n, hnn⟩ : ∃ n, n = l.length := ⟨_, rfl⟩
      rw [← hnn] at HW ⊢
      clear h h' hs hnn ht
      go_enter Try.func28, Try.ntmps28
      go_wp2_with fail
      refine (HT.out _).mono ?_
      rintro e w1 ⟨rfl, rfl⟩
      go_wp2_with fail
      go_ret2
      exact ⟨_, rfl, HW.out, Below.refl _ _⟩
    · have e1 : decide (r < 0) = false := decide_eq_false hr
      by_cases hr2 : (l.length : Int) ≤ r
      · have hE := Lib.hid (show freeE l t r = 4 by unfold freeE; rw [if_neg (by rw [ht]; decide), if_pos (.inr hr2)])
        have HL := Lib.hid (HS.out (by rw [hE.out]; decide))
        have HW := Lib.hid h
        rw [HL.out, hE.out]
        have e2 : decide ((l.length : Int) ≤ r) = true := decide_eq_true hr2
        obtain ⟨n, hnn⟩ : ∃ n, n = l.length := ⟨_, rfl⟩
        rw [← hnn] at HW e2 ⊢
        clear h h' hs hnn ht hr2
        go_enter Try.func28, Try.ntmps28
        go_wp2_with fail
        refine (HT.out _).mono ?_
        rintro e w1 ⟨rfl, rfl⟩
        go_wp2_with fail
        go_ret2
        exact ⟨_, rfl, HW.out, Below.refl _ _⟩
      · have e2 : decide ((l.length : Int) ≤ r) = false := decide_eq_false hr2
        obtain ⟨k, rfl⟩ : ∃ k : Nat, r = k := ⟨r.toNat, by omega⟩
        have hk : k < l.length := by omega
        have hgd : l.getD k (-1) = l[k] := by simp [hk]
        obtain ⟨ad, rfl, _, hc⟩ := sees_int hs hk
        have j0 : (0 : Int) ≤ (k : Int) := by omega
        have j1 : (k : Int) < (l.length : Int) := by omega
        by_cases hx : l[k] = t
        · have hE := Lib.hid (show freeE l t (k : Int) = 0 by unfold freeE; rw [if_neg (by rw [ht]; decide), if_neg (by omega), Int.toNat_natCast, hgd, if_neg (by rw [hx]; simp)])
          have HL := Lib.hid (show freeL l t (k : Int) = withL l k (-1) by unfold freeL; rw [if_pos hE.out, Int.toNat_natCast])
          have HW := Lib.hid (rwith_wi l (.slice (some ad) l.length c) k (-1) w hn hk h)
          rw [HL.out, hE.out]
          rw [hx] at hc
          have f1 : (t != t) = false := by simp
          obtain ⟨n, hnn⟩ : ∃ n, n = l.length := ⟨_, rfl⟩
          rw [← hnn] at HW e2 j1 ⊢
          clear h h' hs hnn ht hr2 hk hgd hx
          go_enter Try.func28, Try.ntmps28
          go_wp2_with fail
          refine (HT.out _).mono ?_
          rintro e w1 ⟨rfl, rfl⟩
          go_wp2_with fail
          refine HW.out.mono ?_
          rintro e w2 ⟨v', rfl, hwi, hb⟩
          have HF := Lib.hid (And.intro hwi hb)
          clear hwi hb hc
          go_wp2_with fail
          go_ret2
          exact ⟨_, rfl, HF.out.1, HF.out.2⟩
        · have hE := Lib.hid (show freeE l t (k : Int) = 221 by unfold freeE; rw [if_neg (by rw [ht]; decide), if_neg (by omega), Int.toNat_natCast, hgd, if_pos hx])
          have HL := Lib.hid (HS.out (by rw [hE.out]; decide))
          have HW := Lib.hid h
          rw [HL.out, hE.out]
          obtain ⟨x, hxx⟩ : ∃ x, x = l[k] := ⟨_, rfl⟩
          rw [← hxx] at hc hx
          have f1 : (x != t) = true := by simp [hx]
          obtain ⟨n, hnn⟩ : ∃ n, n = l.length := ⟨_, rfl⟩
          rw [← hnn] at HW e2 j1 ⊢
          clear h h' hs hnn ht hr2 hk hgd hx hxx
          go_enter Try.func28, Try.ntmps28
          go_wp2_with fail
          refine (HT.out _).mono ?_
          rintro e w1 ⟨rfl, rfl⟩
          go_wp2_with fail
          go_ret2
          exact ⟨_, rfl, HW.out, Below.refl _ _⟩
set_option maxHeartbeats 1000000 in
theorem rdrop_any (l : Ls) (v : Value) (t : Int) (w : World) (hn : l.length ≤ 64) (h : Wi w v l) :
    Calls Try.prog 30 #[v, .int .i64 t] w fun e w' => ∃ v', e = .returned (.tuple #[v', .int .i64 ((held l t).length : Int)]) ∧ Wi w' v' (dropL l t) ∧ Below w.heap.size w w' := by
  have HH := Lib.hid (rheld_wi l v t w hn h)
  have HV := Lib.hid h
  have HK := Lib.hid (fun k (hk : k ∈ held l t) => (held_mem.1 hk).2.1)
  have HHL := Lib.hid (Nat.le_trans (held_len l t) hn)
  have HD : Hid (dropL l t = dropTo l (held l t)) := Lib.hid rfl
  obtain ⟨hs, hhs⟩ : ∃ hs, hs = held l t := ⟨_, rfl⟩
  rw [← hhs] at HH HK HHL HD ⊢
  rw [HD.out]
  obtain ⟨m, hm⟩ : ∃ m, m = hs.length := ⟨_, rfl⟩
  have HM := Lib.hid hm
  rw [← hm] at HHL ⊢
  have HST : Hid (∀ V, Below w.heap.size w V → Wi V v (dropTo l (hs.take 0)) ∧ Below w.heap.size w V) := Lib.hid (fun V hb => ⟨HV.out.below hb, hb⟩)
  have HN := Lib.hid hn
  clear h hhs hm hn
  go_enter Try.func30, Try.ntmps30
  go_wp2_with fail
  refine HH.out.mono ?_
  rintro e w1 ⟨v1, rfl, hwi, hb1⟩
  obtain ⟨A2, c2, rfl, _, hs2⟩ := hwi.sees
  rw [hz_len, ← HM.out]
  have HS2 := Lib.hid (fun V (hb : Below w1.heap.size w1 V) k (hk : k < hs.length) => (show ∃ ad, A2 = some ad ∧ V.cell? (ad.add k) = some (.int .i64 ((hs[k] : Nat) : Int)) from by
    obtain ⟨ad, e, _, hc⟩ := sees_int ((hs2.below hb).more hb.size) (k := k) (by rw [hz_len]; exact hk)
    have hx : (hz hs)[k]'(by rw [hz_len]; exact hk) = ((hs[k] : Nat) : Int) := by simp [hz]
    rw [hx] at hc
    exact ⟨ad, e, hc⟩))
  have HB1 := Lib.hid hb1
  clear hwi hs2 hb1
  go_wp2_with fail
  go_loopw [0, 7] (fun s0 s7 wr => ∃ i : Nat, s7 = .int .i64 (i : Int) ∧ i ≤ m ∧ Wi wr s0 (dropTo l (hs.take i)) ∧ Below w1.heap.size w1 wr) (fun _ s7 _ => m - (_root_.Go.RowKit.intOf s7).toNat)
  case atStart => exact ⟨0, rfl, Nat.zero_le _, (HST.out _ HB1.out).1, Below.refl _ _⟩
  case round =>
    obtain ⟨i, rfl, him, hw0, hb⟩ := hrel
    by_cases hlt : i < m
    · have hil : i < hs.length := by rw [← HM.out]; exact hlt
      have hml := HHL.out
      have j0 : (0 : Int) ≤ (i : Int) := by omega
      have j1 : (i : Int) < (m : Int) := by omega
      have i2 : decide ((i : Int) < (m : Int)) = true := decide_eq_true j1
      obtain ⟨ad, rfl, hc⟩ := HS2.out wr hb i hil
      have hkl := HK.out _ (List.getElem_mem hil)
      have HW := Lib.hid (rwith_wi (dropTo l (hs.take i)) _ hs[i] (-1) wr (by rw [dropTo_len]; exact HN.out) (by rw [dropTo_len]; exact hkl) hw0)
      have hst : dropTo l (hs.take (i + 1)) = withL (dropTo l (hs.take i)) hs[i] (-1) := by rw [List.take_succ_eq_append_getElem hil, dropTo_snoc]
      rw [← hst] at HW
      obtain ⟨x, hx⟩ : ∃ x, x = hs[i] := ⟨_, rfl⟩
      rw [← hx] at hc HW
      have HB := Lib.hid hb
      clear hx hst hkl hw0 hb
      go_wp2_with fail
      refine HW.out.mono ?_
      rintro e w2 ⟨v', rfl, hwi, hb⟩
      have HR := Lib.hid (And.intro hwi (below0 HB.out hb))
      clear hwi hb hc
      go_wp2_with fail
      go_roundw
      case rel => exact ⟨i + 1, by go_num, by omega, HR.out.1, HR.out.2⟩
      case measure => simp [_root_.Go.RowKit.intOf]; omega
    · obtain rfl : i = m := by omega
      have i2 : decide ((i : Int) < (i : Int)) = false := decide_eq_false (by omega)
      rw [List.take_of_length_le (by rw [HM.out]; exact Nat.le_refl _)] at hw0
      have HF := Lib.hid (And.intro hw0 (below0 HB1.out hb))
      clear hw0 hb
      go_wp2_with fail
      go_ret2
      exact ⟨_, rfl, HF.out.1, HF.out.2⟩
end Go.Proofs.Ytodbaahnmmfgiaa.Lk
