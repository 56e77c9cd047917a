import Derived.Test.YtbiopegophdgiaaDoorRef
namespace Go.Proofs.YtbiopegophdgiaaDoor
open Go.RowKit Go.Shelf
attribute [local go_sem] Oper.semAt_some

/- THE DOCUMENT'S ANSWERS: next, text, parse, with, same. -/

def nextI (r : Option Nat) : Int := match r with | some x => (x : Int) | none => -1
theorem nextO_append (n : Int) (a b : List Nat) : nextO' (a ++ b) n = (nextO' a n).or (nextO' b n) := by simp [nextO', List.find?_append]

set_option maxHeartbeats 1000000 in
theorem next_ref (l : List Bool) (m : Int) (is : Bool) (A : Option Addr) (c : Nat) (w : World) (hl : l.length ≤ 4096) (hr : Sees w w.heap.size A (bls l)) :
    Calls Tryd.prog 46 #[.slice A l.length c, .int .i64 m, .bool is] w fun e w' => e = .returned (.int .i64 (nextI (nextR l m is))) ∧ w = w' := by
  obtain ⟨n, hn⟩ : ∃ n, n = l.length := ⟨_, rfl⟩
  rw [← hn] at hl ⊢
  have HN := Lib.hid hn
  clear hn
  go_enter Tryd.func46, Tryd.ntmps46
  go_wp2_with fail
  go_loop [7] (fun i => ∃ (k : Nat), k ≤ n ∧ i = .int .i64 k ∧ Hid (nextO' (idxs 0 ((such is l).take k)) m = none)) (fun i => n - (intOf i).toNat)
  case atStart => exact ⟨0, Nat.zero_le _, rfl, Lib.hid (by simp [idxs, nextO'])⟩
  case round =>
    obtain ⟨k, hk, rfl, HX⟩ := hrel
    by_cases hlt : k < n
    · have hkl : k < l.length := by rw [← HN.out]; exact hlt
      obtain ⟨ad, rfl, hadb, hc⟩ := hr.at_ (k := k) (by rw [bls_len]; exact hkl)
      rw [bls_get hkl] at hc
      have hts : (such is l).take (k + 1) = (such is l).take k ++ [l[k] == is] := by
        rw [List.take_add_one, such_get, List.getElem?_eq_getElem hkl]; rfl
      have hix : idxs 0 ((such is l).take (k + 1)) = idxs 0 ((such is l).take k) ++ (if (l[k] == is) then [k] else []) := by
        rw [hts, idxs_append]
        congr 1
        have hle : ((such is l).take k).length = k := by simp [such]; omega
        rw [hle, Nat.zero_add]
        cases l[k] == is <;> rfl
      have hnx : nextO' (idxs 0 ((such is l).take (k + 1))) m = nextO' (if (l[k] == is) then [k] else []) m := by
        rw [hix, nextO_append, HX.out]; rfl
      have hsp : nextR l m is = (nextO' (idxs 0 ((such is l).take (k + 1))) m).or (nextO' (idxs (k + 1) ((such is l).drop (k + 1))) m) := by
        unfold nextR
        conv => lhs; rw [← List.take_append_drop (k + 1) (such is l), idxs_append, nextO_append]
        have hle : ((such is l).take (k + 1)).length = k + 1 := by simp [such]; omega
        rw [hle, Nat.zero_add]
      obtain ⟨x, hx⟩ : ∃ x, x = l[k] := ⟨_, rfl⟩
      rw [← hx] at hc hnx
      rw [hnx] at hsp
      have HNX := Lib.hid hnx
      have HSP := Lib.hid hsp
      clear hx hts hix hnx hsp
      by_cases hge : m ≤ (k : Int)
      · have hg1 : decide (m ≤ (k : Int)) = true := decide_eq_true hge
        by_cases he : x = is
        · have hd : (x == is) = true := by simpa using he
          have hfin := Lib.hid (show nextR l m is = some k from by rw [HSP.out, hd]; simp [nextO', hge])
          clear he HSP HNX hge
          go_wp2_with fail
          go_ret
          exact ⟨by rw [hfin.out]; rfl, rfl⟩
        · have hd : (x == is) = false := by simpa using he
          have hfin := Lib.hid (show nextO' (idxs 0 ((such is l).take (k + 1))) m = none from by rw [HNX.out, hd]; rfl)
          clear he HSP HNX hge
          go_wp2_with fail
          go_round
          case rel => exact ⟨k + 1, by omega, by go_num, hfin⟩
          case measure => simp [intOf]; omega
      · have hg1 : decide (m ≤ (k : Int)) = false := decide_eq_false hge
        have hfin := Lib.hid (show nextO' (idxs 0 ((such is l).take (k + 1))) m = none from by
          rw [HNX.out]
          cases x == is <;> simp [nextO', hg1])
        clear HSP HNX hge
        go_wp2_with fail
        go_round
        case rel => exact ⟨k + 1, by omega, by go_num, hfin⟩
        case measure => simp [intOf]; omega
    · obtain rfl : k = n := by omega
      have hfin := Lib.hid (show nextR l m is = none from by
        have h := HX.out
        rw [List.take_of_length_le (by rw [such_len, HN.out]; exact Nat.le_refl _)] at h
        exact h)
      clear HX
      go_wp2_with fail
      go_ret
      exact ⟨by rw [hfin.out]; rfl, rfl⟩

set_option maxHeartbeats 1000000 in
theorem text_ref (l : List Bool) (A : Option Addr) (c : Nat) (w : World) (hl : l.length ≤ 4096) (hr : Sees w w.heap.size A (bls l)) :
    Calls Tryd.prog 45 #[.slice A l.length c] w fun e w' => e = .returned (.string (str (txb l))) ∧ Below w.heap.size w w' := by
  obtain ⟨i0, hi, hz0, hz1, hz2⟩ := info_parts byte_info
  obtain ⟨n, hn⟩ : ∃ n, n = l.length := ⟨_, rfl⟩
  rw [← hn] at hl ⊢
  have HN := Lib.hid hn
  clear hn
  go_enter Tryd.func45, Tryd.ntmps45
  go_wp2_with fail
  go_loopw [3, 4] (fun v i wr => ∃ (k : Nat), k ≤ n ∧ i = .int .i64 k ∧ wr.ownsRow w.heap.size 5 1 v k (byt (txb (l.take k))) ∧ Sees wr w.heap.size A (bls l) ∧ Below w.heap.size w wr) (fun _ i _ => n - (intOf i).toNat)
  case atStart => exact ⟨0, Nat.zero_le _, rfl, by rw [List.take_zero]; exact World.ownsRow_nil _ _ _ _, hr, Below.refl _ _⟩
  case round =>
    obtain ⟨k, hk, rfl, hown, hrr, hB⟩ := hrel
    by_cases hlt : k < n
    · have hkl : k < l.length := by rw [← HN.out]; exact hlt
      obtain ⟨ad, rfl, hadb, hc⟩ := hrr.at_ (k := k) (by rw [bls_len]; exact hkl)
      rw [bls_get hkl] at hc
      have hnx : byt (txb (l.take (k + 1))) = byt (txb (l.take k)) ++ [.int .u8 ((bitc l[k]).toNat : Int)] := by
        rw [List.take_succ_eq_append_getElem hkl, txb, List.map_append, byt_append]; rfl
      obtain ⟨x, hx⟩ : ∃ x, x = l[k] := ⟨_, rfl⟩
      rw [← hx] at hc hnx
      have HNX := Lib.hid hnx
      obtain ⟨Av, cv, rfl⟩ := own_slice hown
      clear hx hnx hkl
      cases x
      · have hown1 := hown.alloc (.cells #[.int .u8 48] 5)
        go_wp2_with (at_builtin; refine wpList_append_sees rfl (.tmp 18) (.tmp 19) 65 rfl w.heap.size 5 i0 _ 1 1 Tryd.underlying65 hi hz0 hz1 hz2 rfl (by decide) _ k _ rfl hown1 (wr.heap.size + 1) (some ⟨wr.heap.size, 0, none⟩) 1 1 [.int .u8 48] rfl rfl (fun _ => ⟨_, rfl, by simp, cell_one_new _ _ _⟩) (by simp [Value.oneCell']) (by unfold maxLen; omega) (by omega) (by simp; have := hB.size; omega) ?_; intro v' w4 hown4 hg4 hv4)
        go_roundw
        case rel =>
          refine ⟨k + 1, by omega, by go_num, by rw [HNX.out]; exact hown4, ?_, ?_⟩
          · exact (hrr.alloc hB.size _).grown hg4 (by simp; have := hB.size; omega) (fun g e => (hown1.lt g e).1)
          · exact (hB.alloc hB.size _).grown hg4 (by simp; have := hB.size; omega) (fun g e => (hown1.lt g e).1)
        case measure => simp [intOf]; omega
      · have hown1 := hown.alloc (.cells #[.int .u8 49] 5)
        go_wp2_with (at_builtin; refine wpList_append_sees rfl (.tmp 15) (.tmp 16) 65 rfl w.heap.size 5 i0 _ 1 1 Tryd.underlying65 hi hz0 hz1 hz2 rfl (by decide) _ k _ rfl hown1 (wr.heap.size + 1) (some ⟨wr.heap.size, 0, none⟩) 1 1 [.int .u8 49] rfl rfl (fun _ => ⟨_, rfl, by simp, cell_one_new _ _ _⟩) (by simp [Value.oneCell']) (by unfold maxLen; omega) (by omega) (by simp; have := hB.size; omega) ?_; intro v' w4 hown4 hg4 hv4)
        go_roundw
        case rel =>
          refine ⟨k + 1, by omega, by go_num, by rw [HNX.out]; exact hown4, ?_, ?_⟩
          · exact (hrr.alloc hB.size _).grown hg4 (by simp; have := hB.size; omega) (fun g e => (hown1.lt g e).1)
          · exact (hB.alloc hB.size _).grown hg4 (by simp; have := hB.size; omega) (fun g e => (hown1.lt g e).1)
        case measure => simp [intOf]; omega
    · obtain rfl : k = n := by omega
      obtain ⟨Av, cv, rfl⟩ := own_slice hown
      rw [List.take_of_length_le (by rw [HN.out]; exact Nat.le_refl _)] at hown
      have hcv := run_conv_sees (P := Tryd.prog) wr Tryd.underlying65 Tryd.underlying5 Tryd.underlying9 (c := cv) ((txb_len l).trans HN.out.symm) (Sees.of_own hown)
      clear hown
      go_wp2_with fail
      go_ret
      exact ⟨rfl, hB⟩

theorem same_ref (l l' : List Bool) (A A' : Option Addr) (c c' : Nat) (w : World) (hl : l.length ≤ 4096) (hl' : l'.length ≤ 4096) (hr : Sees w w.heap.size A (bls l)) (hr' : Sees w w.heap.size A' (bls l')) :
    Calls Tryd.prog 28 #[.slice A l.length c, .slice A' l'.length c'] w fun e w' => e = .returned (.bool (eqB l l')) ∧ Below w.heap.size w w' := by
  have h1 := Lib.hid (text_ref l A c w hl hr)
  have he : Hid (((str (txb l)).toList == (str (txb l')).toList) = eqB l l') := Lib.hid (by
    unfold eqB
    rw [str_toList, str_toList, Bool.eq_iff_iff, beq_iff_eq, beq_iff_eq]
    exact ⟨fun h => txb_inj h, fun h => by rw [h]⟩)
  obtain ⟨s, hs⟩ : ∃ s, s = str (txb l) := ⟨_, rfl⟩
  obtain ⟨s', hs'⟩ : ∃ s', s' = str (txb l') := ⟨_, rfl⟩
  rw [← hs] at h1 he
  rw [← hs'] at he
  have HS' := Lib.hid hs'
  clear hs hs'
  go_enter Tryd.func28, Tryd.ntmps28
  go_wp2_with fail
  refine (h1.out).mono ?_
  rintro e w1 ⟨rfl, hb1⟩
  go_wp2_with fail
  refine (text_ref l' A' c' w1 hl' ((hr'.below hb1).more hb1.size)).mono ?_
  rintro e w2 ⟨rfl, hb2⟩
  rw [← HS'.out]
  have hB := below0 hb1 hb2
  go_wp2_with fail
  go_ret
  exact ⟨by rw [← he.out]; rfl, hB⟩

def RefParseP (w : World) (r : Option (List Bool)) (e : Ending) (w' : World) : Prop :=
  match r with
  | none => e = .returned (.tuple #[.slice none 0 0, .int .i64 140]) ∧ Below w.heap.size w w'
  | some l => TwoB w l e w'
theorem refparse_long (s : ByteArray) (w : World) (_hs : s.size ≤ maxLen) (h : 4096 < s.size) : Calls Tryd.prog 25 #[.string s] w fun e w' => e = .returned (.tuple #[.slice none 0 0, .int .i64 140]) ∧ Below w.heap.size w w' := by
  have h1 : decide (4096 < s.size) = true := decide_eq_true h
  have h2 : decide ((4096 : Int) < (s.size : Int)) = true := decide_eq_true (by omega)
  clear h
  go_enter Tryd.func25, Tryd.ntmps25
  go_wp2
  go_ret2
  exact ⟨rfl, Below.refl _ _⟩

set_option maxHeartbeats 1000000 in
theorem refparse_any (s : ByteArray) (w : World) (hs : s.size ≤ 4096) : Calls Tryd.prog 25 #[.string s] w (RefParseP w (parsed s.data.toList)) := by
  obtain ⟨i0, hi, hz0, hz1, hz2⟩ := info_parts bool_info
  obtain ⟨L, hL⟩ : ∃ L, L = s.data.toList := ⟨_, rfl⟩
  have hLs : L.length = s.size := by rw [hL]; rfl
  have hget : ∀ k (h : k < s.size) (h' : k < L.length), s[k] = L[k] := fun k h h' => by subst hL; rfl
  rw [← hL]
  have HLS := Lib.hid hLs
  have HG := Lib.hid hget
  clear hL hLs hget
  have h1 : decide (4096 < s.size) = false := decide_eq_false (by omega)
  have h2 : decide ((4096 : Int) < (s.size : Int)) = false := decide_eq_false (by omega)
  go_enter Tryd.func25, Tryd.ntmps25
  go_wp2_with fail
  go_loopw [4, 5] (fun v i wr => ∃ k : Nat, k ≤ s.size ∧ i = .int .i64 k ∧ Hid (∀ j (h : j < L.length), j < k → okC L[j] = true) ∧ wr.ownsRow w.heap.size 4 1 v k (bls ((L.take k).map bitB)) ∧ Below w.heap.size w wr) (fun _ i _ => s.size - (intOf i).toNat)
  case atStart => exact ⟨0, Nat.zero_le _, rfl, Lib.hid (fun j _ h => absurd h (by omega)), by rw [List.take_zero]; exact World.ownsRow_nil _ _ _ _, Below.refl _ _⟩
  case round =>
    obtain ⟨k, hk, rfl, HO, hown, hB⟩ := hrel
    by_cases hlt : k < s.size
    · have hkL : k < L.length := by rw [HLS.out]; exact hlt
      have hx := HG.out k hlt hkL
      have hnx : bls ((L.take (k + 1)).map bitB) = bls ((L.take k).map bitB) ++ [.bool (bitB L[k])] := by
        rw [List.take_succ_eq_append_getElem hkL, List.map_append, bls_append]; rfl
      obtain ⟨x, hxx⟩ : ∃ x, x = L[k] := ⟨_, rfl⟩
      rw [← hxx] at hx hnx
      obtain ⟨Av, cv, rfl⟩ := own_slice hown
      by_cases h48 : x = 48
      · rw [show bitB x = false by rw [h48]; rfl] at hnx
        have HNX := Lib.hid hnx
        have HO2 : Hid (∀ j (h : j < L.length), j < k + 1 → okC L[j] = true) := Lib.hid (fun j h hj => by
          by_cases e : j = k
          · subst e; rw [← hxx, h48]; rfl
          · exact HO.out j h (by omega))
        have hn : (s[k].toNat : Int) = 48 := by rw [hx, h48]; rfl
        have hown1 := hown.alloc (.cells #[.bool false] 4)
        clear hx hxx hnx h48 HG
        go_wp2_with (at_builtin; refine wpList_append_sees rfl (.tmp 25) (.tmp 30) 28 rfl w.heap.size 4 i0 _ 1 1 Tryd.underlying28 hi hz0 hz1 hz2 rfl (by decide) _ k _ rfl hown1 (wr.heap.size + 1) (some ⟨wr.heap.size, 0, none⟩) 1 1 [.bool false] rfl rfl (fun _ => ⟨_, rfl, by simp, cell_one_new _ _ _⟩) (by simp [Value.oneCell']) (by unfold maxLen; omega) (by omega) (by simp; have := hB.size; omega) ?_; intro v' w4 hown4 hg4 hv4)
        go_roundw
        case rel => exact ⟨k + 1, by omega, by go_num, HO2, by rw [HNX.out]; exact hown4, (hB.alloc hB.size _).grown hg4 (by simp; have := hB.size; omega) (fun g e => (hown1.lt g e).1)⟩
        case measure => simp [intOf]; omega
      by_cases h49 : x = 49
      · rw [show bitB x = true by rw [h49]; rfl] at hnx
        have HNX := Lib.hid hnx
        have HO2 : Hid (∀ j (h : j < L.length), j < k + 1 → okC L[j] = true) := Lib.hid (fun j h hj => by
          by_cases e : j = k
          · subst e; rw [← hxx, h49]; rfl
          · exact HO.out j h (by omega))
        have hn : (s[k].toNat : Int) = 49 := by rw [hx, h49]; rfl
        have hown1 := hown.alloc (.cells #[.bool true] 4)
        clear hx hxx hnx h48 h49 HG
        go_wp2_with (at_builtin; refine wpList_append_sees rfl (.tmp 25) (.tmp 30) 28 rfl w.heap.size 4 i0 _ 1 1 Tryd.underlying28 hi hz0 hz1 hz2 rfl (by decide) _ k _ rfl hown1 (wr.heap.size + 1) (some ⟨wr.heap.size, 0, none⟩) 1 1 [.bool true] rfl rfl (fun _ => ⟨_, rfl, by simp, cell_one_new _ _ _⟩) (by simp [Value.oneCell']) (by unfold maxLen; omega) (by omega) (by simp; have := hB.size; omega) ?_; intro v' w4 hown4 hg4 hv4)
        go_roundw
        case rel => exact ⟨k + 1, by omega, by go_num, HO2, by rw [HNX.out]; exact hown4, (hB.alloc hB.size _).grown hg4 (by simp; have := hB.size; omega) (fun g e => (hown1.lt g e).1)⟩
        case measure => simp [intOf]; omega
      have hno : Hid (parsed L = none) := Lib.hid (by
        unfold parsed
        rw [if_neg]
        rintro ⟨_, h⟩
        have h2 := List.all_eq_true.1 h L[k] (List.getElem_mem hkL)
        rw [← hxx] at h2
        simp [okC, h48, h49] at h2)
      have e1 : ((s[k].toNat : Int) != 48) = true := by
        rw [bne_iff_ne, hx]
        intro h
        exact h48 (UInt8.toNat.inj (show x.toNat = 48 by omega))
      have e2 : ((s[k].toNat : Int) != 49) = true := by
        rw [bne_iff_ne, hx]
        intro h
        exact h49 (UInt8.toNat.inj (show x.toNat = 49 by omega))
      clear hx hxx h48 h49 HG hnx hown
      go_wp2_with fail
      go_ret2
      rw [hno.out]
      exact ⟨rfl, hB⟩
    · obtain rfl : k = s.size := by omega
      obtain ⟨Av, cv, rfl⟩ := own_slice hown
      have hyes : Hid (parsed L = some (L.map bitB)) := Lib.hid (by
        have hall : L.all okC = true := by
          rw [List.all_eq_true]
          intro c hc
          obtain ⟨j, hj, rfl⟩ := List.mem_iff_getElem.1 hc
          exact HO.out j hj (by rw [← HLS.out]; exact hj)
        unfold parsed
        rw [if_pos ⟨by rw [HLS.out]; exact hs, hall⟩])
      rw [← HLS.out, List.take_length, HLS.out] at hown
      have hfin := Lib.hid (show TwoB w (L.map bitB) (.returned (.tuple #[.slice Av s.size cv, .int .i64 0])) wr from
        ⟨_, rfl, ⟨Av, cv, by simp [HLS.out], Sees.of_own hown⟩, hB⟩)
      clear hown
      go_wp2_with fail
      go_ret2
      rw [hyes.out]
      exact hfin.out
end Go.Proofs.YtbiopegophdgiaaDoor
