import Derived.Test.YtelhieinkdmpfaaDoorSC
import Derived.Deep.RegionHeld3
import Derived.Shelf.RegionOpen
namespace Go.Proofs.YtelhieinkdmpfaaDoor.Sh
open Go.RowKit Go.Shelf
attribute [local go_sem] Oper.semAt_some

/- THE DOCUMENT's MOVE, DONE. -/
theorem moveE_ok {l : Ls} {a t : Int} (h : moveE l a t = 0) : stB t = true ∧ ∃ k : Nat, a = k ∧ ∃ hk : k < l.length, mayB l[k] t = true := by
  unfold moveE at h
  cases ht : stB t
  · rw [ht] at h; cases h
  · rw [if_neg (by rw [ht]; decide)] at h
    by_cases h1 : a < 0 ∨ (l.length : Int) ≤ a
    · rw [if_pos h1] at h; cases h
    · rw [if_neg h1] at h
      have hk : a.toNat < l.length := by omega
      refine ⟨rfl, a.toNat, by omega, hk, ?_⟩
      rw [getD_get hk] at h
      cases hm : mayB l[a.toNat] t
      · rw [hm] at h; cases h
      · rfl
set_option maxRecDepth 100000 in
set_option maxHeartbeats 2000000 in
theorem rmove_ok (l : Ls) (A : Option Addr) (n c k : Nat) (t : Int) (w : World) (hl : l.length = n) (hn : n ≤ 256) (hk : k < l.length) (hs : Sees w w.heap.size A (izs l)) (ht : stB t = true) (hm : mayB l[k] t = true) :
    Calls Tryd.prog 40 #[.slice A n c, .int .i64 (k : Int), .int .i64 t] w fun e w' => ∃ v, e = .returned (.tuple #[v, .int .i64 l[k], .int .i64 0]) ∧ Wi w' v (l.set k t) ∧ Below w.heap.size w w' ∧ ∀ g, v.ownBlock = some g → w.heap.size ≤ g := by
  have HT := Lib.hid (fun w => rstate_any t w)
  have HM := Lib.hid (fun w => rmay_any l[k] t w)
  rw [hm] at HM
  rw [ht] at HT
  obtain ⟨ad, rfl, hab, hc⟩ := sees_int hs hk
  obtain ⟨i0, hi, hz0, hz1, hz2⟩ := info_parts int_info
  have hr := Lib.hid (show Sees (w.alloc (.cells #[] 3)) (w.heap.size + 1) (some ad) (izs l) from by
    have := (hs.below (below1 w (.cells #[] 3))).more (by simp : w.heap.size ≤ (w.alloc (.cells #[] 3)).heap.size)
    rw [World.size_alloc] at this
    exact this)
  have hown := nil_row w
  have HF := Lib.hid (fun w4 v' h1 h2 h3 => app_fin (w := w) (w4 := w4) (v' := v') (n := n) (l := l) h1 h2 h3)
  have HL := Lib.hid (show (izs l).length = n * 1 by rw [izs_len, hl, Nat.mul_one])
  have HO := Lib.hid (izs_one (l := l))
  have HG : Hid (∀ w4 g' c' rest, w.heap.size ≤ g' → n ≤ c' → Row w4 g' 3 (izs l ++ rest) → Below w.heap.size w w4 → (∃ u, w4.cell? ⟨g', k, none⟩ = some u) ∧ w4.frozen? ⟨g', k, none⟩ = false ∧ (w4.setCell ⟨g', k, none⟩ (.int .i64 t)).cell? (ad.add k) = some (.int .i64 l[k]) ∧ Wi (w4.setCell ⟨g', k, none⟩ (.int .i64 t)) (.slice (some ⟨g', 0, none⟩) n c') (l.set k t) ∧ Below w.heap.size w (w4.setCell ⟨g', k, none⟩ (.int .i64 t))) := Lib.hid (fun w4 g' c' rest a1 ac a2 a3 => by
    refine ⟨⟨.int .i64 (l[k]'(by omega)), ?_⟩, a2.frozen k, ?_, ⟨_, c', by rw [List.length_set, hl], by rw [List.length_set, hl]; exact ac, fun _ => ⟨g', rest, rfl, ?_⟩⟩, a3.setCell a1 _⟩
    · rw [a2.cell, List.getElem?_append_left (by rw [izs_len]; omega)]
      exact izs_get l (by omega)
    · exact ((a3.setCell (p := ⟨g', k, none⟩) a1 _).cell (by rw [add_block]; exact hab)).trans hc
    · have := a2.set k (.int .i64 t)
      rw [List.set_append_left _ _ (by rw [izs_len]; omega), izs_set] at this
      exact this)
  obtain ⟨xs, hxs⟩ : ∃ xs, xs = izs l := ⟨_, rfl⟩
  rw [← hxs] at hr HF HL HO HG
  have j0 : (0 : Int) ≤ (k : Int) := by omega
  have j1 : (k : Int) < (n : Int) := by omega
  have j2 : decide ((n : Int) ≤ (k : Int)) = false := decide_eq_false (by omega)
  have j3 : decide ((k : Int) < 0) = false := decide_eq_false (by omega)
  obtain ⟨x, hx⟩ : ∃ x, x = l[k] := ⟨_, rfl⟩
  rw [← hx] at hc HM HG ⊢
  clear hs hl hxs hx ht hm
  go_enter Tryd.func40, Tryd.ntmps40
  go_wp2_with fail
  refine (HT.out _).mono ?_
  rintro e w1 ⟨rfl, rfl⟩
  go_wp2_with fail
  refine (HM.out _).mono ?_
  rintro e w1 ⟨rfl, rfl⟩
  go_wp2_with (at_builtin; refine wpList_append_sees rfl (.tmp 31) (.tmp 32) 34 rfl w.heap.size 3 i0 _ 1 8 Tryd.underlying34 hi hz0 hz1 hz2 rfl (by decide) _ 0 [] rfl hown (w.heap.size + 1) (some ad) n c xs rfl HL.out hr.out HO.out (by unfold maxLen; omega) (by omega) (by simp) ?_; intro v' w4 h1 h2 h3; rw [Nat.zero_add, List.nil_append] at h1; have hfin := HF.out w4 v' h1 h2 (by rw [World.size_alloc] at h3; exact h3); obtain ⟨g', c', rest, rfl, hc', hg', hrow, hb'⟩ := hfin; obtain ⟨⟨u, f1⟩, f2, f4, f3⟩ := HG.out w4 g' c' rest hg' hc' hrow hb'; have hfin := Lib.hid f3; have HF4 := Lib.hid f4; have HGG := Lib.hid hg'; clear h1 h2 h3 hg' hc' hrow hb' f3 f4 HG HF)
  obtain ⟨W5, hW5⟩ : ∃ W5, W5 = w4.setCell ⟨g', k, none⟩ (.int .i64 t) := ⟨_, rfl⟩
  rw [← hW5] at hfin HF4
  rw [← hW5]
  clear hW5
  have hc9 := HF4.out
  refine wp_region_noPanic ?_
  refine wp_region_held_drew (S := fun W => W.cell? (ad.add k) = some (.int .i64 x)) (by kernel_rfl) HF4.out (fun hHeld => ?_)
  refine wpAnyH_take (i := 0) (v := ?_) rfl (by kernel_rfl) (by kernel_rfl) (by kernel_rfl) (fun _ _ _ h => h) (Or.inl ⟨by kernel_rfl, ?_⟩) hHeld ?_
  rotate_left
  focus (intro w hSw; (try dsimp only at hSw); go_simp; try with_reducible rfl)
  try simp only [Act.put]
  refine wpAnyH_take (i := 1) (v := ?_) rfl (by kernel_rfl) (by kernel_rfl) (by kernel_rfl) (fun _ _ _ h => h) (Or.inl ⟨by kernel_rfl, ?_⟩) hHeld ?_
  rotate_left
  focus (intro w hSw; (try dsimp only at hSw); go_simp; try with_reducible rfl)
  try simp only [Act.put]
  refine wpAnyH_take (i := 2) (v := ?_) rfl (by kernel_rfl) (by kernel_rfl) (by kernel_rfl) (fun _ _ _ h => h) (Or.inl ⟨by kernel_rfl, ?_⟩) hHeld ?_
  rotate_left
  focus (intro w hSw; (try dsimp only at hSw); go_simp; try with_reducible rfl)
  try simp only [Act.put]
  refine wpAnyH_take (i := 3) (v := ?_) rfl (by kernel_rfl) (by kernel_rfl) (by kernel_rfl) (fun _ _ _ h => h) (Or.inl ⟨by kernel_rfl, ?_⟩) hHeld ?_
  rotate_left
  focus (intro w hSw; (try dsimp only at hSw); go_simp; try with_reducible rfl)
  try simp only [Act.put]
  refine wpAnyH_take (i := 4) (v := ?_) rfl (by kernel_rfl) (by kernel_rfl) (by kernel_rfl) (fun _ _ _ h => h) (Or.inl ⟨by kernel_rfl, ?_⟩) hHeld ?_
  rotate_left
  focus (intro w hSw; (try dsimp only at hSw); go_simp; try with_reducible rfl)
  try simp only [Act.put]
  refine wpAnyH_take (i := 5) (v := ?_) rfl (by kernel_rfl) (by kernel_rfl) (by kernel_rfl) (fun _ _ _ h => h) (Or.inl ⟨by kernel_rfl, ?_⟩) hHeld ?_
  rotate_left
  focus (intro w hSw; (try dsimp only at hSw); go_simp; try with_reducible rfl)
  try simp only [Act.put]
  refine wpAnyH_take (i := 6) (v := ?_) rfl (by kernel_rfl) (by kernel_rfl) (by kernel_rfl) (fun _ _ _ h => h) (Or.inl ⟨by kernel_rfl, ?_⟩) hHeld ?_
  rotate_left
  focus (intro w hSw; (try dsimp only at hSw); go_simp; try with_reducible rfl)
  try simp only [Act.put]
  refine wpAnyH_ready (rs := [7]) (by kernel_rfl) (by simp) ?_
  refine AllReadyH.cons rfl (fun K hK => ?_) (AllReadyH.nil)
  go_simp
  refine hK.out _ _ HF4.out (fun hHeld => ?_)
  clear hK K
  try simp only [Act.put]
  refine wpAnyH_done (by kernel_rfl) ?_ _
  refine NoPanic.normal ?_
  have HFD := Lib.hid (And.intro (Wi.below hfin.out.1 (show Below W5.heap.size W5 W5.drew from (Below.refl _ _).drew)) (hfin.out.2.drew))
  obtain ⟨W6, hW6⟩ : ∃ W6, W6 = W5.drew := ⟨_, rfl⟩
  rw [← hW6] at HFD
  rw [← hW6]
  clear hW6 hHeld hc9 HF4
  go_wp2_with fail
  exact bodyPost_ret (v := .tuple #[.slice (some ⟨g', 0, none⟩) n c', .int .i64 x, .int .i64 0]) (by simp [results, Tryd.results40, go_sem]) rfl ⟨_, rfl, HFD.out.1, HFD.out.2, fun g h => by cases h; exact HGG.out⟩
theorem rmove_wi (l : Ls) (v : Value) (a t : Int) (w : World) (hn : l.length ≤ 256) (h : Wi w v l) :
    Calls Tryd.prog 40 #[v, .int .i64 a, .int .i64 t] w fun e w' => ∃ v', e = .returned (.tuple #[v', .int .i64 (moveW l a t), .int .i64 (moveE l a t)]) ∧ Wi w' v' (moveL l a t) ∧ Below w.heap.size w w' ∧ (v' = v ∨ ∀ g, v'.ownBlock = some g → w.heap.size ≤ g) := by
  obtain ⟨A, c, rfl, _, hs⟩ := h.sees
  by_cases hE : moveE l a t = 0
  · obtain ⟨ht, k, rfl, hk, hm⟩ := moveE_ok hE
    rw [show moveW l k t = l[k] by unfold moveW; rw [if_pos hE, Int.toNat_natCast, getD_get hk], show moveL l k t = l.set k t by unfold moveL; rw [if_pos hE, Int.toNat_natCast], hE]
    refine (rmove_ok l A l.length c k t w rfl hn hk hs ht hm).mono ?_
    rintro e w' ⟨v, e1, e2, e3, e4⟩
    exact ⟨v, e1, e2, e3, .inr e4⟩
  · rw [show moveW l a t = 0 by unfold moveW; rw [if_neg hE], show moveL l a t = l by unfold moveL; rw [if_neg hE]]
    refine (rmove_bad l A l.length c a t w rfl hs hE).mono ?_
    rintro e w' ⟨e1, rfl⟩
    exact ⟨_, e1, h, Below.refl _ _, .inl rfl⟩
end Go.Proofs.YtelhieinkdmpfaaDoor.Sh
