import Derived.Test.YtmocdokikcbjeaaRM
namespace Go.Proofs.Ytmocdokikcbjeaa
open Go.RowKit Go.Shelf Go.Maps Go.Sort
attribute [local go_sem] Oper.semAt_some

/- THE DOCUMENT's MAP, WHOLE. -/
def MapL (w3 : World) (l : Tb) (p : Int) (x : En) (s8 s9 s10 : Value) (wr : World) : Prop :=
  ∃ (i : Nat) (q : Bool), i ≤ l.length ∧ s10 = .int .i64 (i : Int) ∧ s9 = .bool q ∧ wr.ownsRow w3.heap.size 46 4 s8 (outT l p x i q).length ((outT l p x i q).flatMap encR) ∧ PutI l p i q ∧ (∀ j (h : j < l.length), j < i → l[j].2.2.2 ≠ x.2.2) ∧ Below w3.heap.size w3 wr
theorem mapL_step {w3 w4 : World} {l : Tb} {p : Int} {x : En} {i m : Nat} {q : Bool} {v' : Value} {xs : List Value} (hi : i < l.length) (hm : m = (outT l p x (i + 1) q).length) (hxs : xs = (outT l p x (i + 1) q).flatMap encR) (h4 : w4.ownsRow w3.heap.size 46 4 v' m xs)
    (hp : PutI l p (i + 1) q) (hf : ∀ j (h : j < l.length), j < i → l[j].2.2.2 ≠ x.2.2) (hfi : ¬ (l[i].2.2.2 = x.2.2)) (hb : Below w3.heap.size w3 w4) : MapL w3 l p x v' (.bool q) (.int .i64 ((i : Int) + 1)) w4 := by
  refine ⟨i + 1, q, hi, by go_num, rfl, by rw [← hm, ← hxs]; exact h4, hp, fun j hj h => ?_, hb⟩
  by_cases e : j = i
  · subst e; exact hfi
  · exact hf j hj (by omega)
theorem below_app {w3 wr w4 : World} {v : Value} {m : Nat} {xs : List Value} {ob : Obj} (hb : Below w3.heap.size w3 wr) (hown : wr.ownsRow w3.heap.size 46 4 v m xs) (hg : (wr.alloc ob).grownBy w4 v.ownBlock) : Below w3.heap.size w3 w4 :=
  (hb.alloc hb.size ob).grown hg (by rw [World.size_alloc]; have := hb.size; omega) (fun r e => (hown.lt r e).1)
set_option maxRecDepth 100000 in
set_option maxHeartbeats 4000000 in
theorem rmap_any (l : Tb) (A : Option Addr) (c : Nat) (p : Int) (x : En) (w : World) (hok : Tok l) (hcap : l.length ≤ c) (hA : Lies w A l) :
    Calls Try.prog 17 #[.agg #[.slice A l.length c], .int .i64 p, enV x] w (RefP w (mapT l p x) [.int .i64 (mapE l p x : Int)]) := by
  obtain ⟨x1, x2, x3⟩ := x
  obtain ⟨i0, hi0, hz0, hz1, hz2⟩ := info_parts row_info
  have HM := Lib.hid hok.len
  obtain ⟨w1, hw1⟩ : ∃ w1, w1 = ((w.alloc (.cells #[.slice A l.length c] 29)).alloc (.cells #[.int .i64 x1, .int .i64 x2, .int .i64 x3] 34)).alloc (.cells #[.slice none 0 0] 29) := ⟨_, rfl⟩
  have m1 : MapW w A l.length c x1 x2 x3 w1 := hw1 ▸ MapW.new w A l.length c x1 x2 x3
  have HR := Lib.hid (fun V => (show Calls Try.prog 39 #[.agg #[.int .i64 x1, .int .i64 x2, .int .i64 x3]] V (fun e w' => e = .returned (.bool (rightB (x1, x2, x3))) ∧ Below V.heap.size V w') from right_any (x1, x2, x3) V))
  have HT := Lib.hid (fun V (hV : MapW w A l.length c x1 x2 x3 V) => rat_any l A l.length c p V rfl hok.len (hA.below hV.below))
  have HOLD := Lib.hid (fun V (hV : MapW w A l.length c x1 x2 x3 V) (E : Nat) (h1 : mapE l p (x1, x2, x3) = E) (h2 : E ≠ 0) => (show (loadVar 29 ⟨w.heap.size + 1 + 1, 0, none⟩).run Try.prog (V.setCell ⟨w.heap.size + 1 + 1, 0, none⟩ (.slice A l.length c)) = .ok (.agg #[.slice A l.length c]) (V.setCell ⟨w.heap.size + 1 + 1, 0, none⟩ (.slice A l.length c)) ∧
      RefP w (mapT l p (x1, x2, x3)) [.int .i64 (mapE l p (x1, x2, x3) : Int)] (.returned (.tuple #[.agg #[.slice A l.length c], .int .i64 (E : Int)])) (V.setCell ⟨w.heap.size + 1 + 1, 0, none⟩ (.slice A l.length c)) from by
    have hT : mapT l p (x1, x2, x3) = l := by unfold mapT; rw [if_neg (by rw [h1]; exact h2)]
    refine ⟨(hV.fin _).1, ?_⟩
    rw [hT, h1]
    exact ⟨A, c, rfl, hcap, hV.old hA _, (hV.fin _).2⟩))
  have HEQ : Hid (mapE l p (x1, x2, x3) = if rightB (x1, x2, x3) = false then 2 else if pageB p = false then 4 else if (look l p).isSome then 180 else if framed l x3 then 181 else 0) := Lib.hid rfl
  have HNEW := Lib.hid (fun (w3 V : World) (hV : MapW w A l.length c x1 x2 x3 V) (h3 : w.heap.size + 3 ≤ w3.heap.size) (k : Nat) (v : Value) (o : Tb) (h1 : mapE l p (x1, x2, x3) = 0) (h2 : ins l p (x1, x2, x3) = o) (hk : o.length = k) (ho : V.ownsRow w3.heap.size 46 4 v k (o.flatMap encR)) =>
    (show (loadVar 29 ⟨w.heap.size + 1 + 1, 0, none⟩).run Try.prog (V.setCell ⟨w.heap.size + 1 + 1, 0, none⟩ v) = .ok (.agg #[v]) (V.setCell ⟨w.heap.size + 1 + 1, 0, none⟩ v) ∧
      RefP w (mapT l p (x1, x2, x3)) [.int .i64 (mapE l p (x1, x2, x3) : Int)] (.returned (.tuple #[.agg #[v], .int .i64 0])) (V.setCell ⟨w.heap.size + 1 + 1, 0, none⟩ v) from by
    have hT : mapT l p (x1, x2, x3) = o := by unfold mapT; rw [if_pos h1, h2]
    refine ⟨(hV.fin _).1, ?_⟩
    obtain ⟨A', c', rfl, hC, hL⟩ := MapW.own h3 hk ho
    rw [hT, h1]
    exact ⟨A', c', rfl, hC, hL _, (hV.fin _).2⟩))
  have HA := Lib.hid hA
  have HX := Lib.hid hw1
  have HM1 := Lib.hid m1
  obtain ⟨rb, hrb⟩ : ∃ rb, rb = rightB (x1, x2, x3) := ⟨_, rfl⟩
  rw [← hrb] at HR HEQ
  show Calls Try.prog 17 #[.agg #[.slice A l.length c], .int .i64 p, .agg #[.int .i64 x1, .int .i64 x2, .int .i64 x3]] w _
  clear hw1 m1 hrb hok hA hcap
  go_enter Try.func17, Try.ntmps17
  go_wp2_with fail
  rw [← HX.out]
  refine (HR.out _).mono ?_
  rintro e w2 ⟨rfl, hb2⟩
  have M2 := Lib.hid (HM1.out.more hb2)
  obtain ⟨t0, e0, e1, e2, r0, z0⟩ := M2.out.c
  clear hb2
  cases rb with
  | false =>
    obtain ⟨k1, k2⟩ := HOLD.out w2 M2.out 2 (by rw [HEQ.out, if_pos rfl]) (by decide)
    have K1 := Lib.hid k1
    have K2 := Lib.hid k2
    clear k1 k2
    go_wp2_with fail
    exact bodyPost_ret (res_cell2 Try.results17 rfl K1.out) rfl K2.out
  | true =>
    by_cases hp0 : p < 0
    · have d0 : decide (p < 0) = true := decide_eq_true hp0
      obtain ⟨k1, k2⟩ := HOLD.out w2 M2.out 4 (by rw [HEQ.out, if_neg (by decide), if_pos (by unfold pageB; rw [decide_eq_false (by omega)]; rfl)]) (by decide)
      have K1 := Lib.hid k1
      have K2 := Lib.hid k2
      clear k1 k2 hp0
      go_wp2_with fail
      exact bodyPost_ret (res_cell2 Try.results17 rfl K1.out) rfl K2.out
    have d0 : decide (p < 0) = false := decide_eq_false hp0
    by_cases hp1 : 65536 ≤ p
    · have d1 : decide (65536 ≤ p) = true := decide_eq_true hp1
      obtain ⟨k1, k2⟩ := HOLD.out w2 M2.out 4 (by rw [HEQ.out, if_neg (by decide), if_pos (by unfold pageB; rw [decide_eq_false (p := p < 65536) (by omega), Bool.and_false])]) (by decide)
      have K1 := Lib.hid k1
      have K2 := Lib.hid k2
      clear k1 k2 hp0 hp1
      go_wp2_with fail
      exact bodyPost_ret (res_cell2 Try.results17 rfl K1.out) rfl K2.out
    have d1 : decide (65536 ≤ p) = false := decide_eq_false hp1
    have HPG := Lib.hid (show pageB p = true from pageB_iff.2 ⟨by omega, by omega⟩)
    clear hp0 hp1
    go_wp2_with fail
    refine (HT.out w2 M2.out).mono ?_
    rintro e w3 ⟨rfl, hb3⟩
    have M3 := Lib.hid (M2.out.more hb3)
    clear t0 e0 e1 e2 r0 z0 hb3
    obtain ⟨t0, e0, e1, e2, r0, z0⟩ := M3.out.c
    rcases at_look (l := l) (z := p) with ⟨h1, h2⟩ | ⟨k, hk, h1, h2, h3⟩
    · -- not mapped
      have d2 : decide ((0 : Int) ≤ -1) = false := rfl
      have HLK := Lib.hid h2
      rw [h1]
      have HS3 := Lib.hid M3.out.s
      have HST : Hid (MapL w3 l p (x1, x2, x3) (.slice none 0 0) (.bool false) (.int .i64 0) w3) := Lib.hid ⟨0, false, Nat.zero_le _, rfl, rfl, World.ownsRow_nil _ _ _ _, ⟨fun h => (by cases h), fun _ r hr => by simp at hr⟩, fun j _ h => absurd h (by omega), Below.refl _ _⟩
      clear h1 h2
      go_wp2_with fail
      go_loopw [8, 9, 10] (fun s8 s9 s10 wr => MapL w3 l p (x1, x2, x3) s8 s9 s10 wr) (fun _ _ s10 _ => l.length - (_root_.Go.RowKit.intOf s10).toNat)
      case atStart => exact HST.out
      case round =>
        obtain ⟨i, q, hi, rfl, rfl, hown, hput, hfr, hb⟩ := hrel
        have MR := Lib.hid (M3.out.more hb)
        clear t0 e0 e1 e2 r0 z0
        obtain ⟨t0, e0, e1, e2, r0, z0⟩ := MR.out.c
        have hml := out_len l p (x1, x2, x3) i q
        have hnn := HM.out
        have HSZ := Lib.hid hb.size
        obtain ⟨m, hm⟩ : ∃ m, m = (outT l p (x1, x2, x3) i q).length := ⟨_, rfl⟩
        obtain ⟨xs, hxs⟩ : ∃ xs, xs = (outT l p (x1, x2, x3) i q).flatMap encR := ⟨_, rfl⟩
        rw [← hm] at hml hown
        rw [← hxs] at hown
        obtain ⟨Av, cv, rfl⟩ := own_slice hown
        have HMX := Lib.hid (And.intro hm hxs)
        have HB := Lib.hid hb
        have HPUT := Lib.hid hput
        have HFR := Lib.hid hfr
        clear hm hxs hput hfr
        by_cases hlt : i < l.length
        · have hil := hlt
          obtain ⟨ad, hAd, hrow⟩ := (HA.out.below MR.out.below).at_ i hil
          subst hAd
          have k0 := hrow.c0
          have k1 := hrow.c1
          have k2 := hrow.c2
          have k3 := hrow.c3
          have j0 : (0 : Int) ≤ (i : Int) := by omega
          have j1 : (i : Int) < (l.length : Int) := by omega
          have j2 : decide ((i : Int) < (l.length : Int)) = true := decide_eq_true j1
          have i3 : i < 65536 := by omega
          have HNE := Lib.hid (show l[i].1 ≠ p from look_none.1 HLK.out _ (List.getElem_mem hil))
          have HROW := Lib.hid (fun (V : World) (hV : Below w3.heap.size w3 V) => (show RowAt V ad i l[i] from by
            obtain ⟨ad', e, hr⟩ := (HA.out.below (M3.out.more hV).below).at_ i hil
            obtain rfl := Option.some.inj e
            exact hr))
          obtain ⟨r, hr⟩ : ∃ r, r = l[i] := ⟨_, rfl⟩
          have HRE := Lib.hid hr
          rw [← hr] at k0 k1 k2 k3 HNE HROW
          clear hr hrow hb
          obtain ⟨y0, y1, y2, y3⟩ := r
          simp only at k0 k1 k2 k3 HNE
          by_cases hfe : y3 = x3
          · have q3 : (y3 == x3) = true := by simpa using hfe
            have hfm : framed l x3 = true := framed_hit hil (by rw [← HRE.out]; exact hfe)
            have KK := Lib.hid (fun nq => HOLD.out (wr.drewN nq) (MR.out.more (below_drewN (Below.refl _ _) nq)) 181 (by rw [HEQ.out, if_neg (by decide), if_neg (by rw [HPG.out]; decide), if_neg (by rw [HLK.out]; decide), if_pos hfm]) (by decide))
            clear hfm hfe hown
            go_wp2_with fail
            go_quiet (fail)
            go_wp2_with fail
            exact bodyPost_ret (res_cell2 Try.results17 rfl (KK.out _).1) rfl (KK.out _).2
          · have q3 : (y3 == x3) = false := by simpa using hfe
            go_wp2_with fail
            go_quiet (fail)
            rename_i nq
            obtain ⟨W, hW⟩ : ∃ W, W = wr.drewN nq := ⟨_, rfl⟩
            rw [← hW]
            have hbW : Below w3.heap.size w3 W := hW ▸ below_drewN HB.out nq
            have hownW : W.ownsRow w3.heap.size 46 4 (.slice Av m cv) m xs := by rw [hW]; exact hown
            clear hW hown t0 e0 e1 e2 r0 z0 k0 k1 k2 k3 q3 MR HSZ
            have HSZ := Lib.hid hbW.size
            obtain ⟨t0, e0, e1, e2, r0, z0⟩ := (M3.out.more hbW).c
            obtain ⟨k0, k1, k2, k3⟩ := HROW.out W hbW
            simp only at k0 k1 k2 k3
            cases q with
            | true =>
              have hown1 := hownW.alloc (.cells #[.int .i64 y0, .int .i64 y1, .int .i64 y2, .int .i64 y3] 46)
              have HY := Lib.hid (fun w4 (v' : Value) (ob : Obj) (h4 : w4.ownsRow w3.heap.size 46 4 v' (m + 1) (xs ++ encR (y0, y1, y2, y3))) (hg : (W.alloc ob).grownBy w4 (Value.slice Av m cv).ownBlock) => (show MapL w3 l p (x1, x2, x3) v' (.bool true) (.int .i64 ((i : Int) + 1)) w4 from
                mapL_step hil (by rw [(put_on (x1, x2, x3) hil HPUT.out).2, List.length_append, ← HMX.out.1]; rfl) (by rw [(put_on (x1, x2, x3) hil HPUT.out).2, List.flatMap_append, ← HMX.out.2, ← HRE.out]; simp) h4 (put_on (x1, x2, x3) hil HPUT.out).1 HFR.out (by rw [← HRE.out]; exact hfe) (below_app hbW hownW hg)))
              clear hbW hfe
              go_wp2_with (at_builtin; refine wpList_append_sees rfl (.tmp 63) (.tmp 69) 27 rfl w3.heap.size 46 i0 _ 4 32 Try.underlying27 hi0 hz0 hz1 hz2 rfl (by decide) _ m xs rfl hown1 (W.heap.size + 1) (some ⟨W.heap.size, 0, none⟩) 1 1 (encR (y0, y1, y2, y3)) rfl rfl (fun _ => ⟨_, rfl, by simp, cells_row_new W (encR (y0, y1, y2, y3)) 46⟩) (by simp [encR, Value.oneCell']) (by unfold maxLen; omega) (by omega) (by have := HSZ.out; simp; omega) ?_; intro v' w4 hown4 hg4 hv4; obtain ⟨Av4, cv4, rfl⟩ := own_slice hown4; have HZ := Lib.hid (HY.out w4 _ _ hown4 hg4); clear hown4 hg4 hv4)
              go_roundw
              case rel => exact HZ.out
              case measure => simp [_root_.Go.RowKit.intOf]; omega
            | false =>
              by_cases hp : p < y0
              · have q4 : decide (p < y0) = true := decide_eq_true hp
                have hown0 := hownW.alloc (.cells #[.int .i64 p, .int .i64 x1, .int .i64 x2, .int .i64 x3] 46)
                have HX1 := Lib.hid (fun w4 (v' : Value) (ob : Obj) (h4 : w4.ownsRow w3.heap.size 46 4 v' (m + 1) (xs ++ encR (p, x1, x2, x3))) (hg : (W.alloc ob).grownBy w4 (Value.slice Av m cv).ownBlock) => (show Below w3.heap.size w3 w4 from below_app hbW hownW hg))
                have HPN := Lib.hid (put_new (x1, x2, x3) hil HPUT.out (by rw [← HRE.out]; exact hp))
                have HY := Lib.hid (fun w4 w5 (v' v'' : Value) (ob : Obj) (hb4 : Below w3.heap.size w3 w4) (h4 : w4.ownsRow w3.heap.size 46 4 v' (m + 1) (xs ++ encR (p, x1, x2, x3))) (h5 : w5.ownsRow w3.heap.size 46 4 v'' (m + 1 + 1) (xs ++ encR (p, x1, x2, x3) ++ encR (y0, y1, y2, y3))) (hg : (w4.alloc ob).grownBy w5 v'.ownBlock) => (show MapL w3 l p (x1, x2, x3) v'' (.bool true) (.int .i64 ((i : Int) + 1)) w5 from
                  mapL_step hil (by rw [HPN.out.2, List.length_append, List.length_append, ← HMX.out.1]; rfl) (by rw [HPN.out.2, List.flatMap_append, List.flatMap_append, ← HMX.out.2, ← HRE.out]; simp) h5 HPN.out.1 HFR.out (by rw [← HRE.out]; exact hfe) (below_app hb4 h4 hg)))
                clear hbW hfe hp
                go_wp2_with (first
                  | (at_builtin; refine wpList_append_sees rfl (.tmp 57) (.tmp 61) 27 rfl w3.heap.size 46 i0 _ 4 32 Try.underlying27 hi0 hz0 hz1 hz2 rfl (by decide) _ m xs rfl hown0 (W.heap.size + 1) (some ⟨W.heap.size, 0, none⟩) 1 1 (encR (p, x1, x2, x3)) rfl rfl (fun _ => ⟨_, rfl, by simp, cells_row_new W (encR (p, x1, x2, x3)) 46⟩) (by simp [encR, Value.oneCell']) (by unfold maxLen; omega) (by omega) (by have := HSZ.out; simp; omega) ?_; intro v' w4 hown4 hg4 hv4; obtain ⟨Av4, cv4, rfl⟩ := own_slice hown4; have hb4 := HX1.out w4 _ _ hown4 hg4; obtain ⟨t0', e0', e1', e2', r0', z0'⟩ := (M3.out.more hb4).c; obtain ⟨k0', k1', k2', k3'⟩ := HROW.out w4 hb4; simp only at k0' k1' k2' k3'; have hown5 := hown4.alloc (.cells #[.int .i64 y0, .int .i64 y1, .int .i64 y2, .int .i64 y3] 46); have HSZ4 := Lib.hid hb4.size; have HB4 := Lib.hid hb4; have HO4 := Lib.hid hown4; clear hb4 hown4 hg4 hv4)
                  | (at_builtin; refine wpList_append_sees rfl (.tmp 63) (.tmp 69) 27 rfl w3.heap.size 46 i0 _ 4 32 Try.underlying27 hi0 hz0 hz1 hz2 rfl (by decide) _ (m + 1) (xs ++ encR (p, x1, x2, x3)) rfl hown5 (w4.heap.size + 1) (some ⟨w4.heap.size, 0, none⟩) 1 1 (encR (y0, y1, y2, y3)) rfl rfl (fun _ => ⟨_, rfl, by simp, cells_row_new w4 (encR (y0, y1, y2, y3)) 46⟩) (by simp [encR, Value.oneCell']) (by unfold maxLen; omega) (by omega) (by have := HSZ4.out; simp; omega) ?_; intro v'' w5 hown6 hg6 hv6; obtain ⟨Av5, cv5, rfl⟩ := own_slice hown6; have HZ := Lib.hid (HY.out w4 w5 _ _ _ HB4.out HO4.out hown6 hg6); clear hown6 hg6 hv6))
                go_roundw
                case rel => exact HZ.out
                case measure => simp [_root_.Go.RowKit.intOf]; omega
              · have q4 : decide (p < y0) = false := decide_eq_false hp
                have HPN := Lib.hid (put_not (x1, x2, x3) hil HPUT.out (by rw [← HRE.out]; exact hp) (by rw [← HRE.out]; exact HNE.out))
                have hown1 := hownW.alloc (.cells #[.int .i64 y0, .int .i64 y1, .int .i64 y2, .int .i64 y3] 46)
                have HY := Lib.hid (fun w4 (v' : Value) (ob : Obj) (h4 : w4.ownsRow w3.heap.size 46 4 v' (m + 1) (xs ++ encR (y0, y1, y2, y3))) (hg : (W.alloc ob).grownBy w4 (Value.slice Av m cv).ownBlock) => (show MapL w3 l p (x1, x2, x3) v' (.bool false) (.int .i64 ((i : Int) + 1)) w4 from
                  mapL_step hil (by rw [HPN.out.2, List.length_append, ← HMX.out.1]; rfl) (by rw [HPN.out.2, List.flatMap_append, ← HMX.out.2, ← HRE.out]; simp) h4 HPN.out.1 HFR.out (by rw [← HRE.out]; exact hfe) (below_app hbW hownW hg)))
                clear hbW hfe
                go_wp2_with (at_builtin; refine wpList_append_sees rfl (.tmp 63) (.tmp 69) 27 rfl w3.heap.size 46 i0 _ 4 32 Try.underlying27 hi0 hz0 hz1 hz2 rfl (by decide) _ m xs rfl hown1 (W.heap.size + 1) (some ⟨W.heap.size, 0, none⟩) 1 1 (encR (y0, y1, y2, y3)) rfl rfl (fun _ => ⟨_, rfl, by simp, cells_row_new W (encR (y0, y1, y2, y3)) 46⟩) (by simp [encR, Value.oneCell']) (by unfold maxLen; omega) (by omega) (by have := HSZ.out; simp; omega) ?_; intro v' w4 hown4 hg4 hv4; obtain ⟨Av4, cv4, rfl⟩ := own_slice hown4; have HZ := Lib.hid (HY.out w4 _ _ hown4 hg4); clear hown4 hg4 hv4)
                go_roundw
                case rel => exact HZ.out
                case measure => simp [_root_.Go.RowKit.intOf]; omega
        · have hll : i = l.length := by omega
          subst hll
          have hE0 : mapE l p (x1, x2, x3) = 0 := by
            rw [HEQ.out, if_neg (by decide), if_neg (by rw [HPG.out]; decide), if_neg (by rw [HLK.out]; decide), if_neg (by rw [framed_miss (fun j hj => HFR.out j hj hj)]; decide)]
          cases q with
          | true =>
            obtain ⟨g1, g2⟩ := HNEW.out w3 wr MR.out HS3.out m (.slice Av m cv) _ hE0 (put_done (x1, x2, x3)) HMX.out.1.symm (by rw [← HMX.out.2]; exact hown)
            have K1 := Lib.hid g1
            have K2 := Lib.hid g2
            clear g1 g2 hE0
            clear hown hb
            go_wp2_with fail
            exact bodyPost_ret (res_cell2 Try.results17 rfl K1.out) rfl K2.out
          | false =>
            have hown0 := hown.alloc (.cells #[.int .i64 p, .int .i64 x1, .int .i64 x2, .int .i64 x3] 46)
            have HY := Lib.hid (fun w4 (v' : Value) (ob : Obj) (h4 : w4.ownsRow w3.heap.size 46 4 v' (m + 1) (xs ++ encR (p, x1, x2, x3))) (hg : (wr.alloc ob).grownBy w4 (Value.slice Av m cv).ownBlock) => HNEW.out w3 w4 (M3.out.more (below_app HB.out hown hg)) HS3.out (m + 1) v' (outT l p (x1, x2, x3) l.length false ++ [(p, (x1, x2, x3))]) hE0 (put_end (x1, x2, x3) HPUT.out) (by rw [List.length_append, ← HMX.out.1]; rfl) (by rw [List.flatMap_append, ← HMX.out.2]; simpa using h4))
            have HC4 := Lib.hid (fun w4 (v' : Value) (ob : Obj) (h4 : w4.ownsRow w3.heap.size 46 4 v' (m + 1) (xs ++ encR (p, x1, x2, x3))) (hg : (wr.alloc ob).grownBy w4 (Value.slice Av m cv).ownBlock) => (M3.out.more (below_app HB.out hown hg)).c)
            clear hown hb hE0
            go_wp2_with (at_builtin; refine wpList_append_sees rfl (.tmp 73) (.tmp 77) 27 rfl w3.heap.size 46 i0 _ 4 32 Try.underlying27 hi0 hz0 hz1 hz2 rfl (by decide) _ m xs rfl hown0 (wr.heap.size + 1) (some ⟨wr.heap.size, 0, none⟩) 1 1 (encR (p, x1, x2, x3)) rfl rfl (fun _ => ⟨_, rfl, by simp, cells_row_new wr (encR (p, x1, x2, x3)) 46⟩) (by simp [encR, Value.oneCell']) (by unfold maxLen; omega) (by omega) (by have := HSZ.out; simp; omega) ?_; intro v' w4 hown4 hg4 hv4; obtain ⟨Av4, cv4, rfl⟩ := own_slice hown4; obtain ⟨K1, K2⟩ := HY.out w4 _ _ hown4 hg4; obtain ⟨t0', e0', e1', e2', r0', z0'⟩ := HC4.out w4 _ _ hown4 hg4; have K1 := Lib.hid K1; have K2 := Lib.hid K2; clear hown4 hg4 hv4)
            exact bodyPost_ret (res_cell2 Try.results17 rfl K1.out) rfl K2.out
    · -- mapped
      have d2 : decide ((0 : Int) ≤ (k : Int)) = true := decide_eq_true (by omega)
      obtain ⟨k1, k2⟩ := HOLD.out w3 M3.out 180 (by rw [HEQ.out, if_neg (by decide), if_neg (by rw [HPG.out]; decide), if_pos (by rw [h3]; rfl)]) (by decide)
      have K1 := Lib.hid k1
      have K2 := Lib.hid k2
      rw [h1]
      clear k1 k2 h1 h2 h3
      go_wp2_with fail
      exact bodyPost_ret (res_cell2 Try.results17 rfl K1.out) rfl K2.out
end Go.Proofs.Ytmocdokikcbjeaa
