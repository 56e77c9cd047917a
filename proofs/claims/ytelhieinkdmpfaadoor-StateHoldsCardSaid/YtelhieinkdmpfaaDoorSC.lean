import Derived.Test.YtelhieinkdmpfaaDoorSB
import Derived.Test.YtelhieinkdmpfaaDoorMake
namespace Go.Proofs.YtelhieinkdmpfaaDoor.Sh
open Go.RowKit Go.Shelf
attribute [local go_sem] Oper.semAt_some

/- THE DOCUMENT's NEW, MOVE. -/
def zs (n : Nat) : Ls := List.replicate n 0
theorem zs_len (n : Nat) : (zs n).length = n := List.length_replicate
theorem zs_sts (n : Nat) : Sts (zs n) := fun z hz => by rw [List.eq_of_mem_replicate hz]; omega
theorem rnew_ok (n : Nat) (w : World) (h : n ≤ 256) : Calls Tryd.prog 14 #[.int .i64 (n : Int)] w fun e w' => ∃ v, e = .returned (.tuple #[v, .int .i64 0]) ∧ Wi w' v (zs n) ∧ Below w.heap.size w w' ∧ ∀ k, v.ownBlock = some k → w.heap.size ≤ k := by
  obtain ⟨i0, hi, hz0, hz1, hz2⟩ := info_parts int_info
  have h1 : decide ((n : Int) < 0) = false := decide_eq_false (by omega)
  have h2 : decide ((256 : Int) < (n : Int)) = false := decide_eq_false (by omega)
  have hm := Lib.hid (fun W => make_one (P := Tryd.prog) Tryd.underlying34 hi hz0 hz1 rfl n n (Nat.le_refl _) (by rw [hz2]; omega) (by omega) W)
  have HF := Lib.hid (show Wi (w.alloc (.cells (List.replicate n (.int .i64 0)).toArray 3)) (.slice (some ⟨w.heap.size, 0, none⟩) n n) (zs n) from ⟨some ⟨w.heap.size, 0, none⟩, n, by rw [zs_len], by rw [zs_len]; exact Nat.le_refl _, fun _ => ⟨w.heap.size, [], rfl, by
    have := Row.new w 3 (List.replicate n (.int .i64 0))
    rw [List.append_nil]
    rw [show izs (zs n) = List.replicate n (.int .i64 0) by unfold izs zs; rw [List.map_replicate]]
    exact this⟩⟩)
  clear hi hz0 hz1 hz2
  go_enter Tryd.func14, Tryd.ntmps14
  have hmm := hm.out w
  go_wp2_with fail
  go_ret2
  exact ⟨_, rfl, HF.out, below1 _ _, fun k hk => by cases hk; exact Nat.le_refl _⟩
/-- a state of a list that is seen -/
theorem getD_get {l : Ls} {k : Nat} (h : k < l.length) : l.getD k 0 = l[k] := by simp [h]
set_option maxHeartbeats 1000000 in
theorem rmove_bad (l : Ls) (A : Option Addr) (n c : Nat) (a t : Int) (w : World) (hl : l.length = n) (hs : Sees w w.heap.size A (izs l)) (hE : moveE l a t ≠ 0) :
    Calls Tryd.prog 40 #[.slice A n c, .int .i64 a, .int .i64 t] w fun e w' => e = .returned (.tuple #[.slice A n c, .int .i64 0, .int .i64 (moveE l a t)]) ∧ w = w' := by
  have HT := Lib.hid (fun w => rstate_any t w)
  cases ht : stB t
  · have hE := Lib.hid (show moveE l a t = 2 by unfold moveE; rw [if_pos ht])
    rw [ht] at HT
    clear hs hl
    go_enter Tryd.func40, Tryd.ntmps40
    go_wp2_with fail
    refine (HT.out _).mono ?_
    rintro e w1 ⟨rfl, rfl⟩
    go_wp2_with fail
    exact bodyPost_ret (v := .tuple #[.slice A n c, .int .i64 0, .int .i64 2]) (by simp [results, Tryd.results40, go_sem]) rfl ⟨by rw [hE.out], rfl⟩
  · rw [ht] at HT
    by_cases ha : a < 0
    · have hE := Lib.hid (show moveE l a t = 4 by unfold moveE; rw [if_neg (by rw [ht]; decide), if_pos (.inl ha)])
      have e1 : decide (a < 0) = true := decide_eq_true ha
      clear hs hl ht
      go_enter Tryd.func40, Tryd.ntmps40
      go_wp2_with fail
      refine (HT.out _).mono ?_
      rintro e w1 ⟨rfl, rfl⟩
      go_wp2_with fail
      exact bodyPost_ret (v := .tuple #[.slice A n c, .int .i64 0, .int .i64 4]) (by simp [results, Tryd.results40, go_sem]) rfl ⟨by rw [hE.out], rfl⟩
    · have e1 : decide (a < 0) = false := decide_eq_false ha
      by_cases ha2 : (n : Int) ≤ a
      · have hE := Lib.hid (show moveE l a t = 4 by unfold moveE; rw [if_neg (by rw [ht]; decide), if_pos (.inr (by rw [hl]; exact ha2))])
        have e2 : decide ((n : Int) ≤ a) = true := decide_eq_true ha2
        clear hs hl ht
        go_enter Tryd.func40, Tryd.ntmps40
        go_wp2_with fail
        refine (HT.out _).mono ?_
        rintro e w1 ⟨rfl, rfl⟩
        go_wp2_with fail
        exact bodyPost_ret (v := .tuple #[.slice A n c, .int .i64 0, .int .i64 4]) (by simp [results, Tryd.results40, go_sem]) rfl ⟨by rw [hE.out], rfl⟩
      · obtain ⟨k, rfl⟩ : ∃ k : Nat, a = k := ⟨a.toNat, by omega⟩
        have hk : k < l.length := by omega
        have e2 : decide ((n : Int) ≤ (k : Int)) = false := decide_eq_false (by omega)
        have hx : moveE l k t = if mayB l[k] t = false then 240 else 0 := by
          unfold moveE
          rw [if_neg (by rw [ht]; decide), if_neg (by omega), Int.toNat_natCast, getD_get hk]
        cases hmay : mayB l[k] t
        · rw [hmay, if_pos rfl] at hx
          have HM := Lib.hid (fun w => rmay_any l[k] t w)
          rw [hmay] at HM
          have HX := Lib.hid hx
          obtain ⟨ad, rfl, _, hc⟩ := sees_int hs hk
          have j0 : (0 : Int) ≤ (k : Int) := by omega
          have j1 : (k : Int) < (n : Int) := by omega
          obtain ⟨x, hxx⟩ : ∃ x, x = l[k] := ⟨_, rfl⟩
          rw [← hxx] at hc HM
          clear hs hl ht hmay hE hx ha ha2 hxx
          go_enter Tryd.func40, Tryd.ntmps40
          go_wp2_with fail
          refine (HT.out _).mono ?_
          rintro e w1 ⟨rfl, rfl⟩
          go_wp2_with fail
          refine (HM.out _).mono ?_
          rintro e w1 ⟨rfl, rfl⟩
          go_wp2_with fail
          exact bodyPost_ret (v := .tuple #[.slice (some ad) n c, .int .i64 0, .int .i64 240]) (by simp [results, Tryd.results40, go_sem]) rfl ⟨by rw [HX.out], rfl⟩
        · rw [hmay, if_neg (by decide)] at hx
          exact absurd hx hE
end Go.Proofs.YtelhieinkdmpfaaDoor.Sh
