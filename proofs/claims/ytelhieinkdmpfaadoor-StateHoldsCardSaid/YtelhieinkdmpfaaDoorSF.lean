import Derived.Test.YtelhieinkdmpfaaDoorSE
import Derived.Laws.Concat
namespace Go.Proofs.YtelhieinkdmpfaaDoor.Sh
open Go.RowKit Go.Shelf
attribute [local go_sem] Oper.semAt_some

/- TWO LISTS, COMPARED; THE DOCUMENT's TEXT. -/
set_option maxHeartbeats 1000000 in
theorem ints_any (a b : Ls) (A B : Option Addr) (c d n m : Nat) (w : World) (ha : a.length = n) (hb : b.length = m) (hn : n ≤ 4611686018427387904) (hA : Sees w w.heap.size A (izs a)) (hB : Sees w w.heap.size B (izs b)) :
    Calls Tryd.prog 30 #[.slice A n c, .slice B m d] w fun e w' => e = .returned (.bool (decide (a = b))) ∧ ∃ q, w' = w.drewN q := by
  by_cases hnm : n = m
  · subst hnm
    have hd : ((n : Int) != (n : Int)) = false := by simp
    have HA := Lib.hid hA
    have HB := Lib.hid hB
    have HLA := Lib.hid ha
    have HLB := Lib.hid hb
    have HE : Hid (∀ k (h1 : k < a.length) (h2 : k < b.length), a[k] ≠ b[k] → decide (a = b) = false) := Lib.hid (fun k h1 h2 h => decide_eq_false (fun e => h (by subst e; rfl)))
    have HT : Hid ((∀ k (h1 : k < a.length) (h2 : k < b.length), a[k] = b[k]) → decide (a = b) = true) := Lib.hid (fun h => decide_eq_true (List.ext_getElem (ha.trans hb.symm) h))
    obtain ⟨D, hD⟩ : ∃ D, D = decide (a = b) := ⟨_, rfl⟩
    rw [← hD] at HE HT ⊢
    clear hD hA hB ha hb
    go_enter Tryd.func30, Tryd.ntmps30
    go_wp2_with fail
    go_loopw [5] (fun s5 wr => ∃ k : Nat, k ≤ n ∧ s5 = .int .i64 (k : Int) ∧ Hid (∀ j (h1 : j < a.length) (h2 : j < b.length), j < k → a[j] = b[j]) ∧ ∃ q, wr = w.drewN q) (fun s5 _ => n - (_root_.Go.RowKit.intOf s5).toNat)
    case atStart => exact ⟨0, Nat.zero_le _, rfl, Lib.hid (fun j _ _ h => absurd h (by omega)), 0, rfl⟩
    case round =>
      obtain ⟨k, hk, rfl, HI, q, rfl⟩ := hrel
      by_cases hlt : k < n
      · have h1 : k < a.length := by rw [HLA.out]; exact hlt
        have h2 : k < b.length := by rw [HLB.out]; exact hlt
        obtain ⟨ad, rfl, _, a1⟩ := sees_int HA.out h1
        obtain ⟨bd, rfl, _, b1⟩ := sees_int HB.out h2
        have j0 : (0 : Int) ≤ (k : Int) := by omega
        have j1 : (k : Int) < (n : Int) := by omega
        have j2 : decide ((k : Int) < (n : Int)) = true := decide_eq_true j1
        have j3 : decide (k < n) = true := decide_eq_true hlt
        by_cases he : a[k] = b[k]
        · rw [← he] at b1
          have HI2 : Hid (∀ j (h1 : j < a.length) (h2 : j < b.length), j < k + 1 → a[j] = b[j]) := Lib.hid (fun j h1 h2 h => by
            by_cases e : j < k
            · exact HI.out j h1 h2 e
            · obtain rfl : j = k := by omega
              exact he)
          obtain ⟨x, hx⟩ : ∃ x, x = a[k] := ⟨_, rfl⟩
          rw [← hx] at a1 b1
          have e1 : (x != x) = false := by simp
          clear he hx HI
          go_wp2_with fail
          go_quiet (fail)
          go_wp2_with fail
          go_roundw
          case rel => exact ⟨k + 1, by omega, by go_num, HI2, _, rfl⟩
          case measure => simp [_root_.Go.RowKit.intOf]; omega
        · have HF := Lib.hid (HE.out k h1 h2 he)
          obtain ⟨x, hx⟩ : ∃ x, x = a[k] := ⟨_, rfl⟩
          obtain ⟨u, hu⟩ : ∃ u, u = b[k] := ⟨_, rfl⟩
          rw [← hx] at a1 he
          rw [← hu] at b1 he
          have e1 : (x != u) = true := by simp [he]
          clear he hx hu HI
          go_wp2_with fail
          go_quiet (fail)
          go_wp2_with fail
          go_ret
          exact ⟨by rw [HF.out]; rfl, _, World.drewN_drewN _ _ _⟩
      · obtain rfl : k = n := by omega
        have HF := Lib.hid (HT.out (fun j h1 h2 => HI.out j h1 h2 (by rw [← HLA.out]; exact h1)))
        clear HI
        go_wp2_with fail
        go_ret
        exact ⟨by rw [HF.out]; rfl, _, rfl⟩
  · have hd : ((n : Int) != (m : Int)) = true := by
      simp
      omega
    have HF := Lib.hid (show decide (a = b) = false from decide_eq_false (fun e => hnm (by rw [← ha, ← hb, e])))
    clear hnm
    go_enter Tryd.func30, Tryd.ntmps30
    go_wp2_with fail
    go_ret
    exact ⟨by rw [HF.out]; rfl, 0, rfl⟩
theorem ints_wi {w : World} {u v : Value} {a b : Ls} (hn : a.length ≤ 4611686018427387904) (ha : Wi w u a) (hb : Wi w v b) : Calls Tryd.prog 30 #[u, v] w fun e w' => e = .returned (.bool (decide (a = b))) ∧ Below w.heap.size w w' := by
  obtain ⟨A, c, rfl, _, hs⟩ := ha.sees
  obtain ⟨B, d, rfl, _, hs2⟩ := hb.sees
  refine (ints_any a b A B c d _ _ w rfl rfl hn hs hs2).mono ?_
  rintro e w' ⟨e1, q, rfl⟩
  exact ⟨e1, below_drewN (Below.refl _ _) q⟩
theorem run_add_str {P : Program} (a b : List UInt8) (h : a.length + b.length ≤ 9223372036854775807) (w : World) : (Op.stringOp .add (str a) (str b)).run P w = .ok (.string (str (a ++ b))) w := by
  rw [run_string_add_sum w _ _ (by simpa [str, ByteArray.size] using h)]
  simp [str, ByteArray.mk_append_mk]
theorem letter_slice {x : Int} (h : 0 ≤ x ∧ x ≤ 4) (w : World) : (Instr.slice 9 (.string ⟨#[102, 107, 108, 104, 103]⟩) (some (.int .i64 x)) (some (.int .i64 (x + 1))) none).run Tryd.prog w = .ok (.string (str [letter x])) w := by
  rw [run_slice_string w 9 _ .i64 .i64 _ _ Tryd.underlying9 (by omega) (by omega) (by show x + 1 ≤ 5; omega)]
  obtain rfl | rfl | rfl | rfl | rfl : x = 0 ∨ x = 1 ∨ x = 2 ∨ x = 3 ∨ x = 4 := by omega
  all_goals rfl
set_option maxHeartbeats 1000000 in
theorem rtext_any (l : Ls) (A : Option Addr) (n c : Nat) (w : World) (hl : l.length = n) (hn : n ≤ 256) (hst : Sts l) (hs : Sees w w.heap.size A (izs l)) :
    Calls Tryd.prog 29 #[.slice A n c] w fun e w' => e = .returned (.string (str (text l))) ∧ Below w.heap.size w w' := by
  have HS := Lib.hid (fun i (hi : i < l.length) => (show ∃ ad, A = some ad ∧ w.cell? (ad.add i) = some (.int .i64 l[i]) from by
    obtain ⟨ad, e, _, hc⟩ := sees_int hs hi
    exact ⟨ad, e, hc⟩))
  have HX := Lib.hid (fun i (hi : i < l.length) => hst l[i] (List.getElem_mem hi))
  have HL := Lib.hid hl
  clear hs hl hst
  go_enter Tryd.func29, Tryd.ntmps29
  go_wp2_with fail
  go_loopw [3, 4] (fun s3 s4 wr => ∃ (i : Nat) (S1 : ByteArray), s4 = .int .i64 (i : Int) ∧ i ≤ n ∧ s3 = .string S1 ∧ Hid (S1 = str (text (l.take i))) ∧ ∃ q, wr = w.drewN q) (fun _ s4 _ => n - (_root_.Go.RowKit.intOf s4).toNat)
  case atStart => exact ⟨0, _, rfl, Nat.zero_le _, rfl, Lib.hid rfl, 0, rfl⟩
  case round =>
    obtain ⟨i, S1, rfl, hin, rfl, HS1, q, rfl⟩ := hrel
    by_cases hlt : i < n
    · have hil : i < l.length := by rw [HL.out]; exact hlt
      have j0 : (0 : Int) ≤ (i : Int) := by omega
      have j1 : (i : Int) < (n : Int) := by omega
      have i2 : decide ((i : Int) < (n : Int)) = true := decide_eq_true j1
      have i3 : decide (i < n) = true := decide_eq_true hlt
      obtain ⟨ad, rfl, hc⟩ := HS.out i hil
      have hx := HX.out i hil
      have hsl := letter_slice hx
      have hcat : ∀ W : World, (Op.stringOp .add S1 (str [letter l[i]])).run Tryd.prog W = .ok (.string (str (text (l.take (i + 1))))) W := fun W => by
        rw [HS1.out, run_add_str _ _ (by rw [text_len, List.length_take]; simp; omega)]
        rw [List.take_add_one, text_app, List.getElem?_eq_getElem hil]
        rfl
      have ew : IntKind.i64.wrap (l[i] + 1) = l[i] + 1 := wrapI _ (by omega) (by omega)
      obtain ⟨x, hxx⟩ : ∃ x, x = l[i] := ⟨_, rfl⟩
      rw [← hxx] at hc hx hsl hcat ew
      obtain ⟨y, hy⟩ : ∃ y, y = x + 1 := ⟨_, rfl⟩
      rw [← hy] at hsl ew
      have ew' : IntKind.i64.wrap (x + 1) = y := by rw [hy] at ew ⊢; exact ew
      obtain ⟨S2, hS2⟩ : ∃ S2, S2 = str [letter x] := ⟨_, rfl⟩
      obtain ⟨S3, hS3⟩ : ∃ S3, S3 = str (text (l.take (i + 1))) := ⟨_, rfl⟩
      rw [← hS2] at hsl hcat
      rw [← hS3] at hcat
      have HS3 := Lib.hid hS3
      clear hxx hy hS2 hS3 HS1 ew hx
      go_wp2_with fail
      go_quiet (fail)
      go_wp2_with fail
      go_roundw
      case rel => exact ⟨i + 1, S3, by go_num, by omega, rfl, HS3, _, rfl⟩
      case measure => simp [_root_.Go.RowKit.intOf]; omega
    · obtain rfl : i = n := by omega
      have i2 : decide ((i : Int) < (i : Int)) = false := decide_eq_false (by omega)
      have HF := Lib.hid (show S1 = str (text l) by rw [HS1.out, List.take_of_length_le (by rw [HL.out]; exact Nat.le_refl _)])
      clear HS1
      go_wp2_with fail
      go_ret
      exact ⟨by rw [HF.out]; rfl, below_drewN (Below.refl _ _) q⟩
theorem rtext_wi (l : Ls) (v : Value) (w : World) (hn : l.length ≤ 256) (hst : Sts l) (h : Wi w v l) :
    Calls Tryd.prog 29 #[v] w fun e w' => e = .returned (.string (str (text l))) ∧ Below w.heap.size w w' := by
  obtain ⟨A, c, rfl, _, hs⟩ := h.sees
  exact rtext_any l A l.length c w rfl hn hst hs
end Go.Proofs.YtelhieinkdmpfaaDoor.Sh
