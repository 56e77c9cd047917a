import Derived.Test.YtbgpdahoochkiaaDoorRows2
import Derived.Test.YtbgpdahoochkiaaDoorWorks
namespace Go.Proofs.YtbgpdahoochkiaaDoor
open Go.RowKit

/-- what the law reckons of the lengths -/
def tot : List (List UInt8) → Nat
  | [] => 0
  | l :: r => (30 + min l.length 3001) + tot r
theorem tot_snoc : ∀ (ls : List (List UInt8)) (l : List UInt8), tot (ls ++ [l]) = tot ls + (30 + min l.length 3001)
  | [], l => by simp [tot]
  | x :: ls, l => by simp only [List.cons_append, tot, tot_snoc ls l]; omega
theorem tot_take {ls : List (List UInt8)} {k : Nat} (h : k < ls.length) : tot (ls.take (k + 1)) = tot (ls.take k) + (30 + min ls[k].length 3001) := by
  rw [List.take_succ_eq_append_getElem h, tot_snoc]
theorem tot_ge : ∀ (ls : List (List UInt8)), tot ls ≤ 3000 → 30 * ls.length + (flat ls).length ≤ tot ls
  | [], _ => by simp [tot, flat]
  | x :: ls, h => by
    simp only [tot] at h ⊢
    have := tot_ge ls (by omega)
    simp only [flat, List.length_cons, List.length_append]
    omega

theorem run_add_str {P : Program} (a b : List UInt8) (h : a.length + b.length ≤ 9223372036854775807) (w : World) : (Op.stringOp .add (str a) (str b)).run P w = .ok (.string (str (a ++ b))) w := by
  rw [run_string_add_sum w _ _ (by simpa [str, ByteArray.size] using h)]
  simp [str, ByteArray.mk_append_mk]

theorem byt_set {ys : List UInt8} {j : Nat} (h : j < ys.length) : (byt ys).set j (.int .u8 (((ys[j].toNat : Int) + 1) % 256)) = byt (ys.set j (ys[j] + 1)) := by
  simp only [byt, List.map_set]
  congr 2

/-- rows of two types lie apart -/
theorem own_apart {w : World} {B B' : Nat} {e e' : TypeId} {size size' : Nat} {v v' : Value} {n n' : Nat} {xs xs' : List Value} (h : w.ownsRow B e size v n xs) (h' : w.ownsRow B' e' size' v' n' xs') (hne : e ≠ e') :
    v.ownBlock = none ∨ v.ownBlock ≠ v'.ownBlock := by
  rcases h.2 with ⟨rfl, _⟩ | ⟨g, cap, cur, rfl, _, hg, _⟩
  · exact .inl rfl
  · right
    rcases h'.2 with ⟨rfl, _⟩ | ⟨g', cap', cur', rfl, _, hg', _⟩
    · simp [Value.ownBlock]
    · intro e1
      simp only [Value.ownBlock, Option.some.injEq] at e1
      subst e1
      rw [hg] at hg'
      injection hg' with hg'
      injection hg' with _ ht
      exact hne ht

/-- each of the values is a slice lent of the bytes, one more behind -/
def Lents (w : World) (B : Nat) (ms : List Value) (ls : List (List UInt8)) : Prop :=
  ms.length = ls.length ∧ ∀ i (h : i < ls.length), ∃ g cap, ms[i]? = some (.slice (some ⟨g, 0, none⟩) ls[i].length cap) ∧
    w.ownsRow B 5 1 (.slice (some ⟨g, 0, none⟩) (ls[i].length + 1) cap) (ls[i].length + 1) (byt ls[i] ++ [.int .u8 77])
theorem Lents.nil_ (w : World) (B : Nat) : Lents w B [] [] := ⟨rfl, fun i h => absurd h (by simp)⟩
theorem Lents.below {w w' : World} {B B' : Nat} {ms : List Value} {ls : List (List UInt8)} (h : Lents w B ms ls) (hb : Below B' w w') (hB : w.heap.size ≤ B') : Lents w' B ms ls :=
  ⟨h.1, fun i hi => by
    obtain ⟨g, cap, h1, h2⟩ := h.2 i hi
    exact ⟨g, cap, h1, own_below h2 hb hB⟩⟩
theorem Lents.grown {w w' : World} {B B' : Nat} {ms : List Value} {ls : List (List UInt8)} {e : TypeId} {size n : Nat} {v : Value} {xs : List Value} (h : Lents w B ms ls) (ho : w.ownsRow B' e size v n xs) (hne : 5 ≠ e) (hg : w.grownBy w' v.ownBlock) : Lents w' B ms ls :=
  ⟨h.1, fun i hi => by
    obtain ⟨g, cap, h1, h2⟩ := h.2 i hi
    exact ⟨g, cap, h1, h2.kept hg (own_apart h2 ho hne)⟩⟩
theorem Lents.alloc {w : World} {B : Nat} {ms : List Value} {ls : List (List UInt8)} (h : Lents w B ms ls) (o : Obj) : Lents (w.alloc o) B ms ls :=
  ⟨h.1, fun i hi => by
    obtain ⟨g, cap, h1, h2⟩ := h.2 i hi
    exact ⟨g, cap, h1, h2.alloc o⟩⟩
theorem Lents.snoc {w : World} {B : Nat} {ms : List Value} {ls : List (List UInt8)} {l : List UInt8} {g n cap : Nat} (h : Lents w B ms ls) (hn : l.length = n)
    (ho : w.ownsRow B 5 1 (.slice (some ⟨g, 0, none⟩) (n + 1) cap) (n + 1) (byt l ++ [.int .u8 77])) : Lents w B (ms ++ [.slice (some ⟨g, 0, none⟩) n cap]) (ls ++ [l]) := by
  subst hn
  refine ⟨by simp [h.1], fun i hi => ?_⟩
  by_cases hlt : i < ls.length
  · obtain ⟨g', cap', h1, h2⟩ := h.2 i hlt
    refine ⟨g', cap', ?_, ?_⟩
    · rw [List.getElem?_append_left (by rw [h.1]; exact hlt), List.getElem_append_left hlt]
      exact h1
    · rw [List.getElem_append_left hlt]
      exact h2
  · have : i = ls.length := by simp at hi; omega
    subst this
    refine ⟨g, cap, ?_, ?_⟩
    · simp [h.1]
    · simpa using ho
theorem Lents.rowz {w : World} {B : Nat} {A : Option Addr} {ms : List Value} {ls : List (List UInt8)} (h : Lents w B ms ls) (hs : Sees w w.heap.size A ms) (hl : ∀ i (h : i < ls.length), ls[i].length ≤ 140737488351232) : Rowz w w.heap.size A ls :=
  ⟨ms, h.1, hs, fun i hi => by
    obtain ⟨g, cap, h1, h2⟩ := h.2 i hi
    exact ⟨_, _, _, h1, rfl, hl i hi, by simpa using (Sees.of_own h2).take (byt ls[i]).length⟩⟩

theorem slice_info : (Tryd.prog.info? 23).map (fun i => (i.zero, i.size, i.bytes)) = some (some (.slice none 0 0), 1, 24) := by kernel_rfl

section
variable (ls : List (List UInt8)) (n c : Nat) (A : Option Addr) (w : World)

set_option maxHeartbeats 2000000 in
theorem wordJoins_any (ht : Tab w) (hn : ls.length = n) (hm : n ≤ 140737488351232) (hr : Rowz w w.heap.size A ls) :
    Calls Tryd.prog 8 #[.slice A n c] w fun e w' => e = .returned (.bool true) ∧ Below w.heap.size w w' := by
  obtain ⟨i0, hi, hz0, hz1, hz2⟩ := info_parts slice_info
  subst hn
  go_enter Tryd.func8, Tryd.ntmps8
  go_wp2
  go_loop [3, 4] (fun s i => ∃ k : Nat, k ≤ ls.length ∧ i = .int .i64 k ∧ ∃ N : Nat, s = .int .i64 N ∧ Hid (N = tot (ls.take k)) ∧ N ≤ 6100) (fun _ i => ls.length - (intOf i).toNat)
  case atStart => exact ⟨0, Nat.zero_le _, rfl, 0, rfl, rfl, by omega⟩
  case round =>
    obtain ⟨k, hk, rfl, N, rfl, H, hN⟩ := hrel
    by_cases hbig : 3000 < N
    · -- too long
      have hbig' : decide ((N : Int) ≤ 3000) = false := by simp; omega
      by_cases hlt : k < ls.length
      · go_wp2_with fail
        refine (works_any _ ht).mono ?_
        rintro e w3 ⟨rfl, hb3⟩
        go_wp2_with fail
        go_ret
        exact ⟨rfl, hb3⟩
      · go_wp2_with fail
        refine (works_any _ ht).mono ?_
        rintro e w3 ⟨rfl, hb3⟩
        go_wp2_with fail
        go_ret
        exact ⟨rfl, hb3⟩
    · by_cases hlt : k < ls.length
      · obtain ⟨ad, Ai, ni, ci, rfl, hab, hc, hln, hni, hsi⟩ := hr.at_ hlt
        have Ht := Lib.hid (tot_take hlt)
        have Hln := Lib.hid hln
        clear hln
        by_cases hmin : ni ≤ 3001
        · go_wp2
          go_round
          case rel => exact ⟨k + 1, by omega, by go_num, N + 30 + ni, by go_num, by show _ = _; rw [Ht.out, ← H.out, Hln.out]; omega, by omega⟩
          case measure => simp [intOf]; omega
        · have hmin' : 3001 < ni := by omega
          clear hmin
          go_wp2
          go_round
          case rel => exact ⟨k + 1, by omega, by go_num, N + 30 + 3001, by go_num, by show _ = _; rw [Ht.out, ← H.out, Hln.out]; omega, by omega⟩
          case measure => simp [intOf]; omega
      · have htot : tot ls ≤ 3000 := by
          have := H.out
          rw [List.take_of_length_le (by omega)] at this
          omega
        have hge := tot_ge ls htot
        clear H
        go_wp2
        go_loopw [5, 6, 7] (fun m s i wr => ∃ j : Nat, j ≤ ls.length ∧ i = .int .i64 j ∧ s = .string (str (flat (ls.take j))) ∧ ∃ ms, wr.ownsRow w.heap.size 23 1 m j ms ∧ Lents wr w.heap.size ms (ls.take j) ∧ Rowz wr w.heap.size A ls ∧ Below w.heap.size w wr) (fun _ _ i _ => ls.length - (intOf i).toNat)
        case atStart => exact ⟨0, Nat.zero_le _, rfl, rfl, [], World.ownsRow_nil _ _ _ _, Lents.nil_ _ _, hr, Below.refl _ _⟩
        case round =>
          obtain ⟨j, hj, rfl, rfl, ms, hown, hle, hrj, hb⟩ := hrel
          by_cases hlt2 : j < ls.length
          · obtain ⟨ad, Ai, ni, ci, rfl, hab, hc, hln, hni, hsi⟩ := hrj.at_ hlt2
            have hfs := flat_step hlt2
            go_wp2_with fail
            refine (lent_any ls[j] ni ci _ Ai wr hln hni (hsi.more hb.size) (Nat.le_refl _)).mono ?_
            rintro e w1 ⟨g, cap, rfl, ho1, hb1⟩
            have hown1 := own_below hown hb1 (Nat.le_refl _)
            have hle1 := (hle.below hb1 (Nat.le_refl _)).snoc hln (own_mono ho1 hb.size)
            have hB1 := hb.trans (hb1.mono hb.size)
            clear hle ho1 hown
            go_wp2_with (at_builtin; go_must (refine wpList_append_sees rfl (.tmp 39) (.tmp 45) 43 rfl w.heap.size 23 i0 _ 1 24 Tryd.underlying43 hi hz0 hz1 hz2 rfl (by decide) _ _ _ rfl (hown1.alloc _) (w1.heap.size + 1) (some ⟨w1.heap.size, 0, none⟩) 1 1 [.slice (some ⟨g, 0, none⟩) ni cap] rfl rfl (fun _ => ⟨_, rfl, by simp, cell_one_new _ _ _⟩) (by simp [Value.oneCell']) (by unfold maxLen; omega) (by omega) (by have := hB1.size; simp; omega) ?_; intro v' w2 hown2 hg2 _; have hB2 : Below w.heap.size w w2 := (hB1.alloc hB1.size _).grown hg2 (by have := hB1.size; simp; omega) (fun k e => (hown1.lt k e).1); have hle2 := (hle1.alloc _).grown (hown1.alloc _) (by decide) hg2; have hr2 := hr.below hB2; obtain ⟨ad2, Ai2, ni2, ci2, e2, _, hc2, hln2, _, hsi2⟩ := hr2.at_ hlt2; injection e2 with e2; subst e2; have hcv := run_conv_sees (P := Tryd.prog) w2 Tryd.underlying23 Tryd.underlying5 Tryd.underlying9 (c := ci2) hln2 hsi2; have hadd := run_add_str (P := Tryd.prog) (flat (ls.take j)) ls[j] (by omega) w2; clear hc hle1 hg2 hln hln2 hb1))
            go_roundw
            case rel => exact ⟨j + 1, by omega, by go_num, by rw [flat_take hlt2], _, hown2, by rw [List.take_succ_eq_append_getElem hlt2]; exact hle2, hr2, hB2⟩
            case measure => simp [intOf]; omega
          · obtain rfl : j = ls.length := by omega
            obtain ⟨wj, rfl⟩ : ∃ wj : World, wj = wr := ⟨_, rfl⟩
            rw [List.take_length] at hle
            have Hft : Hid (flat (ls.take ls.length) = flat ls) := Lib.hid (by rw [List.take_length])
            obtain ⟨Am, cm, rfl⟩ := own_slice hown
            have hall : ∀ i (h : i < ls.length), ls[i].length ≤ 140737488351232 := fun i h => by have := flat_step h; omega
            have hrm := hle.rowz (Sees.of_own hown) hall
            have htr := ht.below hb
            go_wp2_with fail
            refine (joined_any ls ls.length cm _ Am wj rfl hm (by omega) hrm (Nat.le_refl _)).mono ?_
            rintro e w3 ⟨v3, rfl, hown3, hb3⟩
            obtain ⟨A3, c3, rfl⟩ := own_slice hown3
            have hcv := run_conv_sees (P := Tryd.prog) w3 Tryd.underlying23 Tryd.underlying5 Tryd.underlying9 (c := c3) rfl (Sees.of_own hown3)
            rw [Hft.out]
            go_wp2_with fail
            clear hcv hrm hall htr
            go_loopw [9] (fun i wx => ∃ (j : Nat) (ys : List UInt8), j ≤ (flat ls).length ∧ i = .int .i64 j ∧ wx.ownsRow wj.heap.size 5 1 (.slice A3 (flat ls).length c3) (flat ls).length (byt ys) ∧ Below wj.heap.size wj wx) (fun i _ => (flat ls).length - (intOf i).toNat)
            case atStart => exact ⟨0, flat ls, Nat.zero_le _, rfl, hown3, hb3⟩
            case round =>
              obtain ⟨j, ys, hj, rfl, hox, hbx⟩ := hrel
              by_cases hlt3 : j < (flat ls).length
              · have hyl : j < ys.length := by have := hox.1; rw [byt_length] at this; omega
                obtain ⟨g3, c3', e3, hg3, _⟩ := hox.form (by omega)
                injection e3 with e3 _ e3'
                subst e3 e3'
                have hcx : wr.cell? ⟨g3, j, none⟩ = some (.int .u8 (ys[j].toNat : Int)) := by rw [hox.cellAt j (by omega), byt_get hyl]
                have hfx := hox.frozenAt j
                go_wp2
                go_roundw
                case rel => exact ⟨j + 1, ys.set j (ys[j] + 1), by omega, by go_num, by rw [← byt_set hyl]; exact (hox.stored j _).1, hbx.setCell hg3 _⟩
                case measure => simp [intOf]; omega
              · have hB := hb.trans (hbx.mono hb.size)
                have hle2 := hle.below hbx (Nat.le_refl _)
                have hown2 := own_below hown hbx (Nat.le_refl _)
                have hr2 := hr.below hB
                obtain ⟨wk, rfl⟩ : ∃ wk : World, wk = wr := ⟨_, rfl⟩
                clear hown3 hox hb3 hbx hle hown
                go_wp2_with fail
                go_loopw [10] (fun i wx => ∃ j : Nat, j ≤ ls.length ∧ i = .int .i64 j ∧ wx.ownsRow w.heap.size 23 1 (.slice Am ls.length cm) ls.length ms ∧ Lents wx w.heap.size ms ls ∧ Rowz wx w.heap.size A ls ∧ Below w.heap.size w wx) (fun i _ => ls.length - (intOf i).toNat)
                case atStart => exact ⟨0, Nat.zero_le _, rfl, hown2, hle2, hr2, hB⟩
                case round =>
                  obtain ⟨j, hj, rfl, hox, hlx, hrx, hbx⟩ := hrel
                  by_cases hlt4 : j < ls.length
                  · obtain ⟨gm, cm', em, hgm, _⟩ := hox.form (by omega)
                    injection em with em _ em'
                    subst em em'
                    obtain ⟨g, cap, hms, hol⟩ := hlx.2 j hlt4
                    have hcm : wr.cell? ⟨gm, j, none⟩ = some (.slice (some ⟨g, 0, none⟩) ls[j].length cap) := by rw [hox.cellAt j (by omega)]; exact hms
                    obtain ⟨ad, Ai, ni, ci, rfl, hab, hc, hln, hni, hsi⟩ := hrx.at_ hlt4
                    rw [hln] at hcm hol
                    have hkp : ∀ nq : Nat, Hid (Calls Tryd.prog 16 #[.slice (some ⟨g, 0, none⟩) ni cap, .slice Ai ni ci] (wr.drewN nq) fun e w' => e = .returned (.bool true) ∧ wr.drewN nq = w') :=
                      fun nq => Lib.hid (kept_any ls[j] ni ci w.heap.size g cap w.heap.size Ai (wr.drewN nq) hln hni hsi hol)
                    go_wp2_with fail
                    go_quiet ((go_at_call 16; exact quiet_l (hkp _).out))
                    go_wp2_with fail
                    go_roundw
                    case rel => exact ⟨j + 1, by omega, by go_num, hox, hlx, hrx, below_drewN hbx _⟩
                    case measure => simp [intOf]; omega
                  · go_wp2_with fail
                    refine (works_any _ (ht.below hbx)).mono ?_
                    rintro e w5 ⟨rfl, hb5⟩
                    go_wp2_with fail
                    go_ret
                    exact ⟨rfl, hbx.trans (hb5.mono hbx.size)⟩
end
end Go.Proofs.YtbgpdahoochkiaaDoor
