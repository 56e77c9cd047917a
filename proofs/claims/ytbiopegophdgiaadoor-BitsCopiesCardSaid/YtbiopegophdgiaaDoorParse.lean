import Derived.Test.YtbiopegophdgiaaDoorText
namespace Go.Proofs.YtbiopegophdgiaaDoor
open Go.RowKit Go.Shelf
attribute [local go_sem] Oper.semAt_some

/- PARSE. -/

def okC (c : UInt8) : Bool := c == 48 || c == 49
def bitB (c : UInt8) : Bool := c == 49
/-- the marks of a text, if it is one's -/
def parsed (L : List UInt8) : Option (List Bool) := if L.length ≤ 4096 ∧ L.all okC = true then some (L.map bitB) else none
theorem bitB_bitc (b : Bool) : bitB (bitc b) = b := by cases b <;> rfl
theorem okC_bitc (b : Bool) : okC (bitc b) = true := by cases b <;> rfl
theorem bitc_bitB {c : UInt8} (h : okC c = true) : bitc (bitB c) = c := by
  unfold okC at h
  rw [Bool.or_eq_true] at h
  rcases h with h | h
  · rw [beq_iff_eq] at h; subst h; rfl
  · rw [beq_iff_eq] at h; subst h; rfl
theorem parsed_txb (l : List Bool) (h : l.length ≤ 4096) : parsed (txb l) = some l := by
  unfold parsed
  rw [if_pos ⟨by rw [txb_len]; exact h, by simp [txb, okC_bitc]⟩]
  simp [txb, Function.comp_def, bitB_bitc]
theorem parsed_some {L : List UInt8} {l : List Bool} (h : parsed L = some l) : l.length = L.length ∧ l.length ≤ 4096 ∧ txb l = L := by
  unfold parsed at h
  split at h
  · rename_i hc
    injection h with h
    subst h
    refine ⟨by simp, by simpa using hc.1, ?_⟩
    unfold txb
    rw [List.map_map]
    have h2 := List.all_eq_true.1 hc.2
    conv => rhs; rw [← List.map_id L]
    exact List.map_congr_left fun c hcm => bitc_bitB (h2 c hcm)
  · cases h

/-- the marks so far: what was read, and none else -/
def soFar (L : List UInt8) (k : Nat) : List Bool := (L.take k).map bitB ++ List.replicate (L.length - k) false
theorem soFar_len (L : List UInt8) (k : Nat) (h : k ≤ L.length) : (soFar L k).length = L.length := by simp [soFar]; omega
theorem soFar_set (L : List UInt8) (k : Nat) (h : k < L.length) : (soFar L k).set k (bitB L[k]) = soFar L (k + 1) := by
  apply List.ext_getElem?
  intro j
  have hl1 := soFar_len L k (by omega)
  have hkl : ((L.take k).map bitB).length = k := by simp; omega
  have hkl1 : ((L.take (k + 1)).map bitB).length = k + 1 := by simp; omega
  by_cases e : j = k
  · subst e
    rw [List.getElem?_set_self (by rw [hl1]; exact h), soFar, List.getElem?_append_left (by omega)]
    simp [h]
  · rw [List.getElem?_set_ne (Ne.symm e), soFar, soFar]
    by_cases hlt : j < k
    · rw [List.getElem?_append_left (by omega), List.getElem?_append_left (by omega)]
      simp [List.getElem?_take]
      rw [if_pos hlt, if_pos (by omega)]
    · rw [List.getElem?_append_right (by omega), List.getElem?_append_right (by omega), hkl, hkl1, List.getElem?_replicate, List.getElem?_replicate]
      by_cases hj : j < L.length
      · rw [if_pos (by omega), if_pos (by omega)]
      · rw [if_neg (by omega), if_neg (by omega)]

def ParseP (w : World) (r : Option (List Bool)) (e : Ending) (w' : World) : Prop :=
  match r with
  | none => e = .returned (.tuple #[.pointer none, .int .i64 140]) ∧ Below w.heap.size w w'
  | some l => NewP w l e w'

theorem parse_long (s : ByteArray) (w : World) (_hs : s.size ≤ maxLen) (h : 4096 < s.size) : Calls Tryd.prog 24 #[.string s] w fun e w' => e = .returned (.tuple #[.pointer none, .int .i64 140]) ∧ Below w.heap.size w w' := by
  have h1 := Lib.hid (fun w => new_no (s.size : Int) w (.inr (by omega)))
  clear h
  go_enter Tryd.func24, Tryd.ntmps24
  go_wp2_with fail
  refine wp_scope_jump 1 fun R hR hJm => ?_
  go_wp2_with fail
  refine (h1.out _).mono ?_
  rintro e w1 ⟨rfl, rfl⟩
  go_wp2_with fail
  refine wp_goto (hJm.out _ _ _ _ _ rfl ?_)
  go_wp2_with fail
  refine hR.out _ _ _ _ (by simp) ?_
  go_ret2
  exact ⟨rfl, Below.refl _ _⟩

set_option maxHeartbeats 1000000 in
theorem parse_any (s : ByteArray) (w : World) (hs : s.size ≤ 4096) : Calls Tryd.prog 24 #[.string s] w (ParseP w (parsed s.data.toList)) := by
  have h1 := Lib.hid (new_ok s.size w hs)
  obtain ⟨L, hL⟩ : ∃ L, L = s.data.toList := ⟨_, rfl⟩
  have hLs : L.length = s.size := by rw [hL]; rfl
  have hget : ∀ k (h : k < s.size) (h' : k < L.length), s[k] = L[k] := fun k h h' => by subst hL; rfl
  rw [← hL]
  have HLS := Lib.hid hLs
  have HG := Lib.hid hget
  clear hL hLs hget
  go_enter Tryd.func24, Tryd.ntmps24
  go_wp2_with fail
  refine wp_scope_jump 1 fun R hR hJm => ?_
  go_wp2_with fail
  refine (h1.out).mono ?_
  rintro e w1 ⟨b, g, rfl, hb0, hg0, hrep, hB⟩
  go_wp2_with fail
  go_loopw [17] (fun i wr => ∃ k : Nat, k ≤ s.size ∧ i = .int .i64 k ∧ Hid (∀ j (h : j < L.length), j < k → okC L[j] = true) ∧ Rep wr b g (soFar L k) ∧ Below w.heap.size w wr) (fun i _ => s.size - (intOf i).toNat)
  case atStart =>
    refine ⟨0, Nat.zero_le _, rfl, Lib.hid (fun j _ h => absurd h (by omega)), ?_, hB⟩
    rw [show soFar L 0 = List.replicate s.size false by simp [soFar, HLS.out]]
    exact hrep
  case round =>
    obtain ⟨k, hk, rfl, HO, hr, hBr⟩ := hrel
    by_cases hlt : k < s.size
    · have hkL : k < L.length := by rw [HLS.out]; exact hlt
      have hx := HG.out k hlt hkL
      obtain ⟨x, hxx⟩ : ∃ x, x = L[k] := ⟨_, rfl⟩
      rw [← hxx] at hx
      by_cases h48 : x = 48
      · have hnx := soFar_set L k hkL
        rw [← hxx, show bitB x = false by rw [h48]; rfl] at hnx
        have HNX := Lib.hid hnx
        have hst := Lib.hid (set_in b g (soFar L k) k false wr hr (by rw [soFar_len L k (by omega)]; exact hkL))
        have HO2 : Hid (∀ j (h : j < L.length), j < k + 1 → okC L[j] = true) := Lib.hid (fun j h hj => by
          by_cases e : j = k
          · subst e; rw [← hxx, h48]; rfl
          · exact HO.out j h (by omega))
        have hn : (s[k].toNat : Int) = 48 := by rw [hx, h48]; rfl
        clear hx hxx hnx h48 HG hr
        go_wp2_with fail
        refine (hst.out).mono ?_
        rintro e w2 ⟨rfl, hr2, hk2⟩
        have hB2 : Below w.heap.size w w2 := hBr.trans (hk2.below (by rintro k rfl; exact hg0) hBr.size)
        go_wp2_with fail
        go_roundw
        case rel => exact ⟨k + 1, by omega, by go_num, HO2, by rw [← HNX.out]; exact hr2, hB2⟩
        case measure => simp [intOf]; omega
      by_cases h49 : x = 49
      · have hnx := soFar_set L k hkL
        rw [← hxx, show bitB x = true by rw [h49]; rfl] at hnx
        have HNX := Lib.hid hnx
        have hst := Lib.hid (set_in b g (soFar L k) k true wr hr (by rw [soFar_len L k (by omega)]; exact hkL))
        have HO2 : Hid (∀ j (h : j < L.length), j < k + 1 → okC L[j] = true) := Lib.hid (fun j h hj => by
          by_cases e : j = k
          · subst e; rw [← hxx, h49]; rfl
          · exact HO.out j h (by omega))
        have hn : (s[k].toNat : Int) = 49 := by rw [hx, h49]; rfl
        clear hx hxx hnx h49 HG hr
        go_wp2_with fail
        refine (hst.out).mono ?_
        rintro e w2 ⟨rfl, hr2, hk2⟩
        have hB2 : Below w.heap.size w w2 := hBr.trans (hk2.below (by rintro k rfl; exact hg0) hBr.size)
        go_wp2_with fail
        go_roundw
        case rel => exact ⟨k + 1, by omega, by go_num, HO2, by rw [← HNX.out]; exact hr2, hB2⟩
        case measure => simp [intOf]; omega
      have hno : Hid (parsed L = none) := Lib.hid (by
        unfold parsed
        rw [if_neg]
        rintro ⟨_, h⟩
        have h2 := List.all_eq_true.1 h L[k] (List.getElem_mem hkL)
        rw [← hxx] at h2
        simp [okC, h48, h49] at h2)
      have e1 : ((s[k].toNat : Int) != 48) = true := by
        rw [bne_iff_ne, hx]
        intro h
        exact h48 (UInt8.toNat.inj (show x.toNat = 48 by omega))
      have e2 : ((s[k].toNat : Int) != 49) = true := by
        rw [bne_iff_ne, hx]
        intro h
        exact h49 (UInt8.toNat.inj (show x.toNat = 49 by omega))
      clear hx hxx h48 h49 HG hr
      go_wp2_with fail
      refine wp_goto (hJm.out _ _ _ _ _ rfl ?_)
      go_wp2_with fail
      refine hR.out _ _ _ _ (by simp) ?_
      go_ret2
      rw [hno.out]
      exact ⟨rfl, hBr⟩
    · obtain rfl : k = s.size := by omega
      have hyes : Hid (parsed L = some (soFar L s.size)) := Lib.hid (by
        have hall : L.all okC = true := by
          rw [List.all_eq_true]
          intro c hc
          obtain ⟨j, hj, rfl⟩ := List.mem_iff_getElem.1 hc
          exact HO.out j hj (by rw [← HLS.out]; exact hj)
        unfold parsed
        rw [if_pos ⟨by rw [HLS.out]; exact hs, hall⟩]
        simp [soFar, ← HLS.out])
      go_wp2_with fail
      refine hR.out _ _ _ _ (by simp) ?_
      go_ret2
      rw [hyes.out]
      exact ⟨b, g, rfl, hb0, hg0, hr, hBr⟩
end Go.Proofs.YtbiopegophdgiaaDoor
