import Derived.Test.YtodbaahnmmfgiaaLB
namespace Go.Proofs.Ytodbaahnmmfgiaa.Lk
open Go.RowKit Go.Shelf
attribute [local go_sem] Oper.semAt_some

/- THE DOCUMENT's WITH, ASKS, TRY, FREE, DROP. -/
theorem nil_row (w : World) : (w.alloc (.cells #[] 3)).ownsRow w.heap.size 3 1 (.slice (some ⟨w.heap.size, 0, none⟩) 0 0) 0 [] :=
  ⟨rfl, .inr ⟨_, _, _, rfl, Nat.le_refl _, World.alloc_heap_new w _, Nat.le_refl _, Nat.zero_le _, rfl, rfl⟩⟩
/-- what an append of a list onto an empty one gives -/
theorem app_fin {w w4 : World} {v' : Value} {n : Nat} {l : Ls} (h1 : w4.ownsRow w.heap.size 3 1 v' n (izs l)) (h2 : (w.alloc (.cells #[] 3)).grownBy w4 (some w.heap.size)) (h3 : v'.ownBlock = some w.heap.size ∨ v'.ownBlock = some (w.heap.size + 1)) :
    ∃ g c rest, v' = .slice (some ⟨g, 0, none⟩) n c ∧ n ≤ c ∧ w.heap.size ≤ g ∧ Row w4 g 3 (izs l ++ rest) ∧ Below w.heap.size w w4 := by
  have hb : Below w.heap.size w w4 := (below1 w _).grown h2 (by simp) (fun k hk => by injection hk with hk; omega)
  obtain ⟨_, ⟨rfl, _⟩ | ⟨g, cap, cur, rfl, hg0, hg, hn, _, hc, ht⟩⟩ := h1
  · rcases h3 with h | h <;> cases h
  · refine ⟨g, cap, cur.toList.drop (n * 1), rfl, hn, hg0, ?_, hb⟩
    rw [← ht, List.take_append_drop]
    exact hg
set_option maxHeartbeats 1000000 in
theorem rwith_any (l : Ls) (A : Option Addr) (n c k : Nat) (t : Int) (w : World) (hl : l.length = n) (hn : n ≤ 64) (hk : k < n) (hs : Sees w w.heap.size A (izs l)) :
    Calls Try.prog 60 #[.slice A n c, .int .i64 (k : Int), .int .i64 t] w fun e w' => ∃ v, e = .returned v ∧ Wi w' v (withL l k t) ∧ Below w.heap.size w w' := by
  obtain ⟨i0, hi, hz0, hz1, hz2⟩ := info_parts int_info
  have hr := Lib.hid (show Sees (w.alloc (.cells #[] 3)) (w.heap.size + 1) A (izs l) from by
    have := (hs.below (below1 w (.cells #[] 3))).more (by simp : w.heap.size ≤ (w.alloc (.cells #[] 3)).heap.size)
    rw [World.size_alloc] at this
    exact this)
  have hown := nil_row w
  have HF := Lib.hid (fun w4 v' h1 h2 h3 => app_fin (w := w) (w4 := w4) (v' := v') (n := n) (l := l) h1 h2 h3)
  have HL := Lib.hid (show (izs l).length = n * 1 by rw [izs_len, hl, Nat.mul_one])
  have HO := Lib.hid (izs_one (l := l))
  have HG : Hid (∀ w4 g' c' rest, w.heap.size ≤ g' → n ≤ c' → Row w4 g' 3 (izs l ++ rest) → Below w.heap.size w w4 → (∃ u, w4.cell? ⟨g', k, none⟩ = some u) ∧ w4.frozen? ⟨g', k, none⟩ = false ∧ Wi (w4.setCell ⟨g', k, none⟩ (.int .i64 t)) (.slice (some ⟨g', 0, none⟩) n c') (withL l k t) ∧ Below w.heap.size w (w4.setCell ⟨g', k, none⟩ (.int .i64 t))) := Lib.hid (fun w4 g' c' rest a1 ac a2 a3 => by
    refine ⟨⟨.int .i64 (l[k]'(by omega)), ?_⟩, a2.frozen k, ⟨_, c', by rw [withL_len, hl], by rw [withL_len, hl]; exact ac, fun _ => ⟨g', rest, rfl, ?_⟩⟩, a3.setCell a1 _⟩
    · rw [a2.cell, List.getElem?_append_left (by rw [izs_len]; omega)]
      exact izs_get l (by omega)
    · have := a2.set k (.int .i64 t)
      rw [List.set_append_left _ _ (by rw [izs_len]; omega), izs_set] at this
      exact this)
  obtain ⟨xs, hxs⟩ : ∃ xs, xs = izs l := ⟨_, rfl⟩
  rw [← hxs] at hr HF HL HO HG
  have j0 : (0 : Int) ≤ (k : Int) := by omega
  have j1 : (k : Int) < (n : Int) := by omega
  clear hs hl hxs
  go_enter Try.func60, Try.ntmps60
  go_wp2_with (at_builtin; refine wpList_append_sees rfl (.tmp 8) (.tmp 9) 28 rfl w.heap.size 3 i0 _ 1 8 Try.underlying28 hi hz0 hz1 hz2 rfl (by decide) _ 0 [] rfl hown (w.heap.size + 1) A n c xs rfl HL.out hr.out HO.out (by unfold maxLen; omega) (by omega) (by simp) ?_; intro v' w4 h1 h2 h3; rw [Nat.zero_add, List.nil_append] at h1; have hfin := HF.out w4 v' h1 h2 (by rw [World.size_alloc] at h3; exact h3); obtain ⟨g', c', rest, rfl, hc', hg', hrow, hb'⟩ := hfin; obtain ⟨⟨u, f1⟩, f2, f3⟩ := HG.out w4 g' c' rest hg' hc' hrow hb'; have hfin := Lib.hid f3; clear h1 h2 h3 hg' hc' hrow hb' f3 HG HF)
  go_ret
  exact ⟨_, rfl, hfin.out.1, hfin.out.2⟩
theorem rwith_wi (l : Ls) (v : Value) (k : Nat) (t : Int) (w : World) (hn : l.length ≤ 64) (hk : k < l.length) (h : Wi w v l) :
    Calls Try.prog 60 #[v, .int .i64 (k : Int), .int .i64 t] w fun e w' => ∃ v, e = .returned v ∧ Wi w' v (withL l k t) ∧ Below w.heap.size w w' := by
  obtain ⟨A, c, rfl, _, hs⟩ := h.sees
  exact rwith_any l A l.length c k t w rfl hn hk hs
theorem rheld_wi (l : Ls) (v : Value) (t : Int) (w : World) (hn : l.length ≤ 64) (h : Wi w v l) :
    Calls Try.prog 31 #[v, .int .i64 t] w fun e w' => ∃ v, e = .returned v ∧ Wi w' v (hz (held l t)) ∧ Below w.heap.size w w' := by
  obtain ⟨A, c, rfl, _, hs⟩ := h.sees
  exact rheld_any l A l.length c t w rfl hn hs
set_option maxHeartbeats 1000000 in
theorem rasks_any (l : Ls) (A : Option Addr) (n c : Nat) (t r : Int) (w : World) (hl : l.length = n) (hn : n ≤ 64) (hs : Sees w w.heap.size A (izs l)) :
    Calls Try.prog 44 #[.slice A n c, .int .i64 t, .int .i64 r] w fun e w' => e = .returned (.int .i64 (asksE l t r)) ∧ Below w.heap.size w w' := by
  have HT := Lib.hid (fun w => rthread_any t w)
  have HH := Lib.hid (rheld_any l A n c t w hl hn hs)
  cases ht : threadB t
  · have hE := Lib.hid (show asksE l t r = 2 by unfold asksE; rw [if_pos ht])
    rw [ht] at HT
    clear hs hl
    go_enter Try.func44, Try.ntmps44
    go_wp2_with fail
    refine (HT.out _).mono ?_
    rintro e w1 ⟨rfl, rfl⟩
    go_wp2_with fail
    go_ret
    exact ⟨by rw [hE.out]; rfl, Below.refl _ _⟩
  · rw [ht] at HT
    by_cases hr : r < 0
    · have hE := Lib.hid (show asksE l t r = 4 by unfold asksE; rw [if_neg (by rw [ht]; decide), if_pos (.inl hr)])
      have e1 : decide (r < 0) = true := decide_eq_true hr
      clear hs hl ht
      go_enter Try.func44, Try.ntmps44
      go_wp2_with fail
      refine (HT.out _).mono ?_
      rintro e w1 ⟨rfl, rfl⟩
      go_wp2_with fail
      go_ret
      exact ⟨by rw [hE.out]; rfl, Below.refl _ _⟩
    · have e1 : decide (r < 0) = false := decide_eq_false hr
      by_cases hr2 : (n : Int) ≤ r
      · have hE := Lib.hid (show asksE l t r = 4 by unfold asksE; rw [if_neg (by rw [ht]; decide), if_pos (.inr (by rw [hl]; exact hr2))])
        have e2 : decide ((n : Int) ≤ r) = true := decide_eq_true hr2
        clear hs hl ht
        go_enter Try.func44, Try.ntmps44
        go_wp2_with fail
        refine (HT.out _).mono ?_
        rintro e w1 ⟨rfl, rfl⟩
        go_wp2_with fail
        go_ret
        exact ⟨by rw [hE.out]; rfl, Below.refl _ _⟩
      · have e2 : decide ((n : Int) ≤ r) = false := decide_eq_false hr2
        obtain ⟨k, rfl⟩ : ∃ k : Nat, r = k := ⟨r.toNat, by omega⟩
        have hE := Lib.hid (show asksE l t (k : Int) = if highB l t k then 220 else 0 by unfold asksE; rw [if_neg (by rw [ht]; decide), if_neg (by omega), Int.toNat_natCast])
        have HHS := Lib.hid (held_sorted l t)
        have HHL := Lib.hid (Nat.le_trans (held_len l t) (by omega : l.length ≤ 64))
        have HHB : Hid (highB l t k = (held l t).any fun j => decide (k ≤ j)) := Lib.hid rfl
        obtain ⟨hs', hhs⟩ : ∃ hs', hs' = held l t := ⟨_, rfl⟩
        rw [← hhs] at HH HHS HHL HHB
        obtain ⟨q, hq⟩ : ∃ q, q = highB l t k := ⟨_, rfl⟩
        rw [← hq] at hE HHB
        clear hs hl ht hhs hq
        go_enter Try.func44, Try.ntmps44
        go_wp2_with fail
        refine (HT.out _).mono ?_
        rintro e w1 ⟨rfl, rfl⟩
        go_wp2_with fail
        refine HH.out.mono ?_
        rintro e w2 ⟨v, rfl, hwi, hb⟩
        obtain ⟨A2, c2, rfl, _, hs2⟩ := hwi.sees
        rw [hz_len]
        by_cases h0 : 0 < hs'.length
        · have hlast := last_any HHS.out h0 k
          obtain ⟨m, hm⟩ : ∃ m, m = hs'.length := ⟨_, rfl⟩
          have hcell := sees_int hs2 (k := hs'.length - 1) (by rw [hz_len]; omega)
          obtain ⟨ad, rfl, _, hc⟩ := hcell
          have hx : (hz hs')[hs'.length - 1]'(by rw [hz_len]; omega) = ((hs'[hs'.length - 1] : Nat) : Int) := by simp [hz]
          rw [hx] at hc
          obtain ⟨x, hx2⟩ : ∃ x, x = hs'[hs'.length - 1] := ⟨_, rfl⟩
          rw [← hx2] at hc hlast
          rw [hlast] at HHB
          have HHB2 := HHB.out
          have hml := HHL.out
          rw [← hm] at hc h0 hml
          rw [← hm]
          have f0 : decide ((0 : Int) < (m : Int)) = true := decide_eq_true (by omega)
          have fw : IntKind.i64.wrap ((m : Int) - 1) = ((m - 1 : Nat) : Int) := by rw [wrapI _ (by omega) (by omega)]; omega
          obtain ⟨m1, hm1⟩ : ∃ m1, m1 = m - 1 := ⟨_, rfl⟩
          rw [← hm1] at hc fw
          have j0 : (0 : Int) ≤ (m1 : Int) := by omega
          have j1 : (m1 : Int) < (m : Int) := by omega
          have HB := Lib.hid hb
          clear hx hx2 hm hs2 hwi hb HHS HHL hlast HHB hm1 HH
          by_cases hkx : k ≤ x
          · have f1 : decide ((k : Int) ≤ (x : Int)) = true := decide_eq_true (by omega)
            have f2 : decide (k ≤ x) = true := decide_eq_true hkx
            rw [f2] at HHB2
            have HQ := Lib.hid HHB2
            clear HHB2 hkx
            go_wp2_with fail
            go_ret
            exact ⟨by rw [hE.out, HQ.out]; rfl, HB.out⟩
          · have f1 : decide ((k : Int) ≤ (x : Int)) = false := decide_eq_false (by omega)
            have f2 : decide (k ≤ x) = false := decide_eq_false hkx
            rw [f2] at HHB2
            have HQ := Lib.hid HHB2
            clear HHB2 hkx
            go_wp2_with fail
            go_ret
            exact ⟨by rw [hE.out, HQ.out]; rfl, HB.out⟩
        · obtain rfl : hs' = [] := List.eq_nil_of_length_eq_zero (by omega)
          have HQ := Lib.hid (show q = false from HHB.out)
          have HB := Lib.hid hb
          clear hwi hs2 hb h0
          go_wp2_with fail
          go_ret
          exact ⟨by rw [hE.out, HQ.out]; rfl, HB.out⟩
end Go.Proofs.Ytodbaahnmmfgiaa.Lk
