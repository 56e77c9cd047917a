import Derived.Test.YtelhieinkdmpfaaDoorNC
namespace Go.Proofs.YtelhieinkdmpfaaDoor.Sh
open Go.RowKit Go.Shelf
attribute [local go_sem] Oper.semAt_some

/- THE CODE's COUNT, SAME. -/
theorem count1_any (x y : Int) (m : Nat) (w : World) (hc : w.cell? ⟨m, 0, none⟩ = some (.int .i64 x)) : Calls Tryd.prog 37 #[.int .i64 y, pb m] w fun e w' => e = .returned (.bool (y == x)) ∧ w = w' := by
  go_enter Tryd.func37, Tryd.ntmps37
  go_wp2_with fail
  go_ret
  exact ⟨rfl, rfl⟩
set_option maxHeartbeats 1000000 in
theorem counted_any (x : Int) (l : Ls) (A : Option Addr) (n c m : Nat) (w : World) (hl : l.length = n) (hn : n ≤ 256) (hs : Sees w w.heap.size A (izs l)) (hc : w.cell? ⟨m, 0, none⟩ = some (.int .i64 x)) :
    Calls Tryd.prog 36 #[.func (.func 37) #[] #[pb m], .slice A n c] w fun e w' => e = .returned (.int .i64 ((places l x).length : Int)) ∧ w = w' := by
  have hent := fun args V => (enters_of Tryd.func37 (by kernel_rfl) rfl : ∀ args w, (callFunc 37 args).run Tryd.prog w = .ok (.enter 37 args) w) args V
  have HS := Lib.hid (fun i (hi : i < l.length) => (show ∃ ad, A = some ad ∧ w.cell? (ad.add i) = some (.int .i64 l[i]) from by
    obtain ⟨ad, e, _, hc⟩ := sees_int hs hi
    exact ⟨ad, e, hc⟩))
  have HC := Lib.hid (fun y => count1_any x y m w hc)
  have HL := Lib.hid hl
  clear hs hl hc
  go_enter Tryd.func36, Tryd.ntmps36
  go_wp2_with fail
  go_loopw [5, 10] (fun s5 s10 wr => ∃ i : Nat, i ≤ n ∧ s10 = .int .i64 (i : Int) ∧ s5 = .int .i64 ((placesTo l x i).length : Int) ∧ w = wr) (fun _ s10 _ => n - (_root_.Go.RowKit.intOf s10).toNat)
  case atStart => exact ⟨0, Nat.zero_le _, rfl, rfl, rfl⟩
  case round =>
    obtain ⟨i, hin, rfl, rfl, rfl⟩ := hrel
    by_cases hlt : i < n
    · have hil : i < l.length := by rw [HL.out]; exact hlt
      have j0 : (0 : Int) ≤ (i : Int) := by omega
      have j1 : (i : Int) < (n : Int) := by omega
      have j2 : decide ((i : Int) < (n : Int)) = true := decide_eq_true j1
      have j3 : decide (i < n) = true := decide_eq_true hlt
      obtain ⟨ad, rfl, hc⟩ := HS.out i hil
      have hst := placesTo_step l x i
      have hle := placesTo_len l x i
      rw [getD_get hil] at hst
      obtain ⟨y, hy⟩ : ∃ y, y = l[i] := ⟨_, rfl⟩
      rw [← hy] at hc hst
      obtain ⟨k, hk⟩ : ∃ k, k = (placesTo l x i).length := ⟨_, rfl⟩
      rw [← hk] at hle ⊢
      by_cases he : y = x
      · have e1 : (y == x) = true := by simp [he]
        have HP := Lib.hid (show (placesTo l x (i + 1)).length = k + 1 by rw [hst, if_pos he, List.length_append, hk]; rfl)
        have HCC := HC.out y
        rw [e1] at HCC
        have HCC := Lib.hid HCC
        clear he hst hy hk e1
        go_wp2_with fail
        refine HCC.out.mono ?_
        rintro e w1 ⟨rfl, rfl⟩
        go_wp2_with fail
        go_roundw
        case rel => exact ⟨i + 1, by omega, by go_num, by rw [HP.out]; go_num, by simp⟩
        case measure => simp [_root_.Go.RowKit.intOf]; omega
      · have e1 : (y == x) = false := by simp [he]
        have HP := Lib.hid (show (placesTo l x (i + 1)).length = k by rw [hst, if_neg he, List.append_nil, hk])
        have HCC := HC.out y
        rw [e1] at HCC
        have HCC := Lib.hid HCC
        clear he hst hy hk e1
        go_wp2_with fail
        refine HCC.out.mono ?_
        rintro e w1 ⟨rfl, rfl⟩
        go_wp2_with fail
        go_roundw
        case rel => exact ⟨i + 1, by omega, by go_num, by rw [HP.out], by simp⟩
        case measure => simp [_root_.Go.RowKit.intOf]; omega
    · obtain rfl : i = n := by omega
      have j2 : decide ((i : Int) < (i : Int)) = false := decide_eq_false (by omega)
      have HF := Lib.hid (show (placesTo l x i).length = (places l x).length by unfold places; rw [HL.out])
      go_wp2_with fail
      go_ret
      exact ⟨by rw [← HF.out]; rfl, rfl⟩
section
variable {w : World} {v : Value} {l : Ls} {F G : Nat → Prop}
theorem scount (x : Int) (h : HasS w v l F) : Calls Tryd.prog 19 #[v, .int .i64 x] w fun e w' => e = .returned (.int .i64 ((places l x).length : Int)) ∧ Below w.heap.size w w' := by
  obtain ⟨b, g, c, rest, rfl, h, rfl⟩ := h
  obtain ⟨W1, hW1⟩ : ∃ W1, W1 = w.alloc (.cells #[.int .i64 x] 23) := ⟨_, rfl⟩
  have hb1 : Below w.heap.size w W1 := by rw [hW1]; exact below1 _ _
  have hx : W1.cell? ⟨w.heap.size, 0, none⟩ = some (.int .i64 x) := by rw [hW1]; exact cell_alloc_new _ _ _ _
  have h1 := Lib.hid (slots_at b _ _ _ W1 (h.below hb1).c0)
  have h2 := Lib.hid (counted_any x l (some ⟨g, 0, none⟩) l.length c w.heap.size W1 rfl h.most (h.below hb1).sees hx)
  obtain ⟨n, hn⟩ : ∃ n, n = l.length := ⟨_, rfl⟩
  rw [← hn] at h1 h2
  have HB := Lib.hid hb1
  have HW := Lib.hid hW1
  obtain ⟨k, hk⟩ : ∃ k, k = (places l x).length := ⟨_, rfl⟩
  rw [← hk] at h2 ⊢
  clear h hb1 hx hn hW1 hk
  go_enter Tryd.func19, Tryd.ntmps19
  go_wp2_with fail
  rw [← HW.out]
  refine h1.out.mono ?_
  rintro e w1 ⟨rfl, rfl⟩
  go_wp2_with fail
  refine h2.out.mono ?_
  rintro e w1 ⟨rfl, rfl⟩
  go_wp2_with fail
  go_ret
  exact ⟨rfl, HB.out⟩
theorem nons_below {w' : World} (h : NonS w v G) (hb : Below w.heap.size w w') : NonS w' v G := by
  rcases h with h | ⟨b, h1, h2, h3⟩
  · exact .inl h
  · exact .inr ⟨b, h1, (hb.cell (p := ⟨b, 0, none⟩) (lt_of_cell h2)).trans h2, h3⟩
theorem count_non (x : Int) (h : NonS w v G) : Calls Tryd.prog 19 #[v, .int .i64 x] w fun e w' => e = .returned (.int .i64 0) ∧ Below w.heap.size w w' := by
  obtain ⟨W1, hW1⟩ : ∃ W1, W1 = w.alloc (.cells #[.int .i64 x] 23) := ⟨_, rfl⟩
  have hb1 : Below w.heap.size w W1 := by rw [hW1]; exact below1 _ _
  have hx : W1.cell? ⟨w.heap.size, 0, none⟩ = some (.int .i64 x) := by rw [hW1]; exact cell_alloc_new _ _ _ _
  have h1 := Lib.hid (slots_non v G W1 (nons_below h hb1))
  have h2 := Lib.hid (counted_any x [] none 0 0 w.heap.size W1 rfl (by omega) (fun hn => absurd rfl hn) hx)
  have HB := Lib.hid hb1
  have HW := Lib.hid hW1
  clear h hb1 hx hW1
  go_enter Tryd.func19, Tryd.ntmps19
  go_wp2_with fail
  rw [← HW.out]
  refine h1.out.mono ?_
  rintro e w1 ⟨rfl, rfl⟩
  go_wp2_with fail
  refine h2.out.mono ?_
  rintro e w1 ⟨rfl, rfl⟩
  go_wp2_with fail
  go_ret
  exact ⟨rfl, HB.out⟩
end
set_option maxHeartbeats 1000000 in
theorem equal_any (a b : Ls) (A B : Option Addr) (c d n m : Nat) (w : World) (ha : a.length = n) (hb : b.length = m) (hn : n ≤ 256) (hA : Sees w w.heap.size A (izs a)) (hB : Sees w w.heap.size B (izs b)) :
    Calls Tryd.prog 39 #[.slice A n c, .slice B m d] w fun e w' => e = .returned (.bool (decide (a = b))) ∧ ∃ q, w' = w.drewN q := by
  by_cases hnm : n = m
  · subst hnm
    have hd : ((n : Int) != (n : Int)) = false := by simp
    have HA := Lib.hid hA
    have HB := Lib.hid hB
    have HLA := Lib.hid ha
    have HLB := Lib.hid hb
    have HE : Hid (∀ k (h1 : k < a.length) (h2 : k < b.length), a[k] ≠ b[k] → decide (a = b) = false) := Lib.hid (fun k h1 h2 h => decide_eq_false (fun e => h (by subst e; rfl)))
    have HT : Hid ((∀ k (h1 : k < a.length) (h2 : k < b.length), a[k] = b[k]) → decide (a = b) = true) := Lib.hid (fun h => decide_eq_true (List.ext_getElem (ha.trans hb.symm) h))
    obtain ⟨D, hD⟩ : ∃ D, D = decide (a = b) := ⟨_, rfl⟩
    rw [← hD] at HE HT ⊢
    clear hD hA hB ha hb
    go_enter Tryd.func39, Tryd.ntmps39
    go_wp2_with fail
    go_loopw [13] (fun s5 wr => ∃ k : Nat, k ≤ n ∧ s5 = .int .i64 (k : Int) ∧ Hid (∀ j (h1 : j < a.length) (h2 : j < b.length), j < k → a[j] = b[j]) ∧ ∃ q, wr = w.drewN q) (fun s5 _ => n - (_root_.Go.RowKit.intOf s5).toNat)
    case atStart => exact ⟨0, Nat.zero_le _, rfl, Lib.hid (fun j _ _ h => absurd h (by omega)), 0, rfl⟩
    case round =>
      obtain ⟨k, hk, rfl, HI, q, rfl⟩ := hrel
      by_cases hlt : k < n
      · have h1 : k < a.length := by rw [HLA.out]; exact hlt
        have h2 : k < b.length := by rw [HLB.out]; exact hlt
        obtain ⟨ad, rfl, _, a1⟩ := sees_int HA.out h1
        obtain ⟨bd, rfl, _, b1⟩ := sees_int HB.out h2
        have j0 : (0 : Int) ≤ (k : Int) := by omega
        have j1 : (k : Int) < (n : Int) := by omega
        have j2 : decide ((k : Int) < (n : Int)) = true := decide_eq_true j1
        have j3 : decide (k < n) = true := decide_eq_true hlt
        by_cases he : a[k] = b[k]
        · rw [← he] at b1
          have HI2 : Hid (∀ j (h1 : j < a.length) (h2 : j < b.length), j < k + 1 → a[j] = b[j]) := Lib.hid (fun j h1 h2 h => by
            by_cases e : j < k
            · exact HI.out j h1 h2 e
            · obtain rfl : j = k := by omega
              exact he)
          obtain ⟨x, hx⟩ : ∃ x, x = a[k] := ⟨_, rfl⟩
          rw [← hx] at a1 b1
          have e1 : (x != x) = false := by simp
          clear he hx HI
          go_wp2_with fail
          go_quiet (fail)
          go_wp2_with fail
          go_roundw
          case rel => exact ⟨k + 1, by omega, by go_num, HI2, _, rfl⟩
          case measure => simp [_root_.Go.RowKit.intOf]; omega
        · have HF := Lib.hid (HE.out k h1 h2 he)
          obtain ⟨x, hx⟩ : ∃ x, x = a[k] := ⟨_, rfl⟩
          obtain ⟨u, hu⟩ : ∃ u, u = b[k] := ⟨_, rfl⟩
          rw [← hx] at a1 he
          rw [← hu] at b1 he
          have e1 : (x != u) = true := by simp [he]
          clear he hx hu HI
          go_wp2_with fail
          go_quiet (fail)
          go_wp2_with fail
          go_ret
          exact ⟨by rw [HF.out]; rfl, _, World.drewN_drewN _ _ _⟩
      · obtain rfl : k = n := by omega
        have HF := Lib.hid (HT.out (fun j h1 h2 => HI.out j h1 h2 (by rw [← HLA.out]; exact h1)))
        clear HI
        go_wp2_with fail
        go_ret
        exact ⟨by rw [HF.out]; rfl, _, rfl⟩
  · have hd : ((n : Int) != (m : Int)) = true := by
      simp
      omega
    have HF := Lib.hid (show decide (a = b) = false from decide_eq_false (fun e => hnm (by rw [← ha, ← hb, e])))
    clear hnm
    go_enter Tryd.func39, Tryd.ntmps39
    go_wp2_with fail
    go_ret
    exact ⟨by rw [HF.out]; rfl, 0, rfl⟩
section
variable {w : World} {v v' : Value} {l l' : Ls} {F F' G G' : Nat → Prop}
theorem ssame (h : HasS w v l F) (h' : HasS w v' l' F') : Calls Tryd.prog 23 #[v, v'] w fun e w' => e = .returned (.bool (decide (l = l'))) ∧ Below w.heap.size w w' := by
  obtain ⟨b, g, c, rest, rfl, h, rfl⟩ := h
  obtain ⟨b', g', c', rest', rfl, h', rfl⟩ := h'
  have hT := Lib.hid (there_at b _ _ _ w h.c0)
  have hT' := Lib.hid (there_at b' _ _ _ w h'.c0)
  have hS := Lib.hid (slots_at b _ _ _ w h.c0)
  have hS' := Lib.hid (slots_at b' _ _ _ w h'.c0)
  have hE := Lib.hid (equal_any l l' (some ⟨g, 0, none⟩) (some ⟨g', 0, none⟩) c c' l.length l'.length w rfl rfl h.most h.sees h'.sees)
  obtain ⟨q, hq⟩ : ∃ q, q = decide (l = l') := ⟨_, rfl⟩
  obtain ⟨n, hn⟩ : ∃ n, n = l.length := ⟨_, rfl⟩
  obtain ⟨m, hm⟩ : ∃ m, m = l'.length := ⟨_, rfl⟩
  rw [← hq, ← hn, ← hm] at hE
  rw [← hn] at hS
  rw [← hm] at hS'
  rw [← hq]
  clear hq hn hm h h'
  go_enter Tryd.func23, Tryd.ntmps23
  go_wp2_with fail
  refine hT.out.mono ?_
  rintro e w1 ⟨rfl, rfl⟩
  go_wp2_with fail
  refine hT'.out.mono ?_
  rintro e w1 ⟨rfl, rfl⟩
  go_wp2_with fail
  refine hS.out.mono ?_
  rintro e w1 ⟨rfl, rfl⟩
  go_wp2_with fail
  refine hS'.out.mono ?_
  rintro e w1 ⟨rfl, rfl⟩
  go_wp2_with fail
  refine hE.out.mono ?_
  rintro e w2 ⟨rfl, k, rfl⟩
  go_wp2_with fail
  go_ret
  exact ⟨rfl, below_drewN (Below.refl _ _) k⟩
/-- a sheet and none -/
theorem same_one (h : HasS w v l F) (h' : NonS w v' G) : Calls Tryd.prog 23 #[v, v'] w fun e w' => e = .returned (.bool false) ∧ Below w.heap.size w w' := by
  obtain ⟨b, g, c, rest, rfl, h, rfl⟩ := h
  have hT := Lib.hid (there_at b _ _ _ w h.c0)
  have hT' := Lib.hid (there_non v' G w h')
  clear h h'
  go_enter Tryd.func23, Tryd.ntmps23
  go_wp2_with fail
  refine hT.out.mono ?_
  rintro e w1 ⟨rfl, rfl⟩
  go_wp2_with fail
  refine hT'.out.mono ?_
  rintro e w1 ⟨rfl, rfl⟩
  go_wp2_with fail
  go_ret
  exact ⟨rfl, Below.refl _ _⟩
theorem same_two (h : HasS w v l F) (h' : NonS w v' G) : Calls Tryd.prog 23 #[v', v] w fun e w' => e = .returned (.bool false) ∧ Below w.heap.size w w' := by
  obtain ⟨b, g, c, rest, rfl, h, rfl⟩ := h
  have hT := Lib.hid (there_at b _ _ _ w h.c0)
  have hT' := Lib.hid (there_non v' G w h')
  clear h h'
  go_enter Tryd.func23, Tryd.ntmps23
  go_wp2_with fail
  refine hT'.out.mono ?_
  rintro e w1 ⟨rfl, rfl⟩
  go_wp2_with fail
  refine hT.out.mono ?_
  rintro e w1 ⟨rfl, rfl⟩
  go_wp2_with fail
  go_ret
  exact ⟨rfl, Below.refl _ _⟩
theorem same_none (h : NonS w v G) (h' : NonS w v' G') : Calls Tryd.prog 23 #[v, v'] w fun e w' => e = .returned (.bool true) ∧ Below w.heap.size w w' := by
  have hT := Lib.hid (there_non v G w h)
  have hT' := Lib.hid (there_non v' G' w h')
  have hS := Lib.hid (slots_non v G w h)
  have hS' := Lib.hid (slots_non v' G' w h')
  have hE := Lib.hid (equal_any [] [] none none 0 0 0 0 w rfl rfl (by omega) (fun hn => absurd rfl hn) (fun hn => absurd rfl hn))
  rw [decide_eq_true rfl] at hE
  clear h h'
  go_enter Tryd.func23, Tryd.ntmps23
  go_wp2_with fail
  refine hT.out.mono ?_
  rintro e w1 ⟨rfl, rfl⟩
  go_wp2_with fail
  refine hT'.out.mono ?_
  rintro e w1 ⟨rfl, rfl⟩
  go_wp2_with fail
  refine hS.out.mono ?_
  rintro e w1 ⟨rfl, rfl⟩
  go_wp2_with fail
  refine hS'.out.mono ?_
  rintro e w1 ⟨rfl, rfl⟩
  go_wp2_with fail
  refine hE.out.mono ?_
  rintro e w2 ⟨rfl, k, rfl⟩
  go_wp2_with fail
  go_ret
  exact ⟨rfl, below_drewN (Below.refl _ _) k⟩
end
end Go.Proofs.YtelhieinkdmpfaaDoor.Sh
