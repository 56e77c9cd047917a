import Derived.Test.YtelhieinkdmpfaaDoorND
import Derived.Laws.Externs
import Derived.Lib.Bytealg
import Derived.OwnWalk
namespace Go.Proofs.YtelhieinkdmpfaaDoor.Sh
open Go.RowKit Go.Shelf
attribute [local go_sem] Oper.semAt_some

/- THE CODE's TEXT. -/
theorem byte_info : (Tryd.prog.info? 5).map (fun i => (i.zero, i.size, i.bytes)) = some (some (.int .u8 0), 1, 1) := by kernel_rfl
/-- bytes that are gathered one by one -/
def GB (w : World) (v : Value) (n : Nat) (l : List UInt8) (wr : World) : Prop := ∃ A c, v = .slice A n c ∧ wr.ownsRow w.heap.size 5 1 (.slice A n c) n (byt l) ∧ Below w.heap.size w wr
theorem gb_step {w wr w4 : World} {v' : Value} {n : Nat} {l : List UInt8} {z : UInt8} {A : Option Addr} {c : Nat} {ob : Obj} (ho0 : wr.ownsRow w.heap.size 5 1 (.slice A n c) n (byt l)) (hb : Below w.heap.size w wr)
    (ho : w4.ownsRow w.heap.size 5 1 v' (n + 1) (byt l ++ [.int .u8 (z.toNat : Int)])) (hg : (wr.alloc ob).grownBy w4 (Value.slice A n c).ownBlock) : ∃ A' c', v' = .slice A' (n + 1) c' ∧ GB w (.slice A' (n + 1) c') (n + 1) (l ++ [z]) w4 := by
  obtain ⟨A', c', rfl⟩ := own_slice ho
  refine ⟨A', c', rfl, A', c', rfl, ?_, ?_⟩
  · rw [byt_append]
    exact ho
  · exact (hb.alloc hb.size ob).grown hg (by rw [World.size_alloc]; have := hb.size; omega) (fun k hk => (ho0.lt k hk).1)
theorem gb_sees {w wr : World} {A : Option Addr} {n c : Nat} {l : List UInt8} (h : wr.ownsRow w.heap.size 5 1 (.slice A n c) n (byt l)) : ∃ B, Sees wr B A (byt l) := by
  obtain ⟨h1, ⟨e, h0⟩ | ⟨g, cap, cur, e, hb, hg, hn, _, hc, ht⟩⟩ := h
  · refine ⟨0, fun hn => absurd ?_ hn⟩
    exact List.eq_nil_of_length_eq_zero (by omega)
  · injection e with e1 e2 e3
    subst e1
    refine ⟨wr.heap.size, fun _ => ⟨_, rfl, (Array.getElem?_eq_some_iff.1 hg).1, fun j u hu => ?_⟩⟩
    rw [add_plain, Nat.zero_add]
    have hu2 := hu
    rw [← ht, List.getElem?_take] at hu2
    split at hu2
    · rw [cell_of_row _ _ j _ _ _ hg]
      simpa using hu2
    · cases hu2
theorem letters_at {k : Nat} (hk : k < 5) (h4 : k < (⟨#[102, 107, 108, 104, 103]⟩ : ByteArray).size) : (⟨#[102, 107, 108, 104, 103]⟩ : ByteArray)[k]'h4 = letter k := by
  obtain rfl | rfl | rfl | rfl | rfl : k = 0 ∨ k = 1 ∨ k = 2 ∨ k = 3 ∨ k = 4 := by omega
  all_goals rfl
set_option maxHeartbeats 1000000 in
theorem text_any (l : Ls) (A : Option Addr) (n c : Nat) (v : Value) (w : World) (hl : l.length = n) (hn : n ≤ 256) (hst : Sts l) (hs : Sees w w.heap.size A (izs l))
    (hlen : ∀ w1, Below w.heap.size w w1 → Calls Tryd.prog 18 #[v] w1 fun e w' => e = .returned (.int .i64 (n : Int)) ∧ Below w1.heap.size w1 w')
    (hsl : ∀ w1, Below w.heap.size w w1 → Calls Tryd.prog 35 #[v] w1 fun e w' => e = .returned (.slice A n c) ∧ w1 = w') :
    Calls Tryd.prog 21 #[v] w fun e w' => e = .returned (.string (str (text l))) ∧ Below w.heap.size w w' := by
  obtain ⟨i0, hi, hz0, hz1, hz2⟩ := info_parts byte_info
  have HS := Lib.hid (fun V (hb : Below w.heap.size w V) i (hi : i < l.length) => (show ∃ ad, A = some ad ∧ V.cell? (ad.add i) = some (.int .i64 l[i]) from by
    obtain ⟨ad, e, _, hc⟩ := sees_int ((hs.below hb).more hb.size) hi
    exact ⟨ad, e, hc⟩))
  have HX := Lib.hid (fun i (hi : i < l.length) => hst l[i] (List.getElem_mem hi))
  have HL := Lib.hid hl
  have HLEN := Lib.hid (hlen w (Below.refl _ _))
  have HSL := Lib.hid hsl
  clear hs hl hst hlen hsl
  go_enter Tryd.func21, Tryd.ntmps21
  go_wp2_with fail
  refine HLEN.out.mono ?_
  rintro e w1 ⟨rfl, hb1⟩
  have HB1 := Lib.hid hb1
  have hs1 := hb1.size
  clear hb1
  go_wp2_with (refine wpList_make_own _ rfl _ _ 77 rfl w.heap.size 5 i0 _ 1 Tryd.underlying77 hi hz0 hz1 .i64 .i64 (n : Int) n rfl rfl rfl (by rw [hz2]; omega) (by unfold maxLen; omega) hs1 ?_; intro w2 hown hgr; have HST := Lib.hid (show GB w (.slice (some ⟨w1.heap.size, 0, none⟩) 0 n) 0 (text (l.take 0)) w2 from ⟨_, _, rfl, hown, HB1.out.grown hgr (by omega) (fun r e => by cases e)⟩); clear hown hgr)
  have HB2 := Lib.hid (by obtain ⟨_, _, _, _, hb⟩ := HST.out; exact hb : Below w.heap.size w w2)
  refine (HSL.out w2 HB2.out).mono ?_
  rintro e w3 ⟨rfl, rfl⟩
  go_wp2_with fail
  go_loopw [3, 12] (fun s3 s12 wr => ∃ i : Nat, i ≤ n ∧ s12 = .int .i64 (i : Int) ∧ GB w s3 i (text (l.take i)) wr) (fun _ s12 _ => n - (_root_.Go.RowKit.intOf s12).toNat)
  case atStart => exact ⟨0, Nat.zero_le _, rfl, HST.out⟩
  case round =>
    obtain ⟨i, hin, rfl, Av, cv, rfl, ho, hb⟩ := hrel
    by_cases hlt : i < n
    · have hil : i < l.length := by rw [HL.out]; exact hlt
      have j0 : (0 : Int) ≤ (i : Int) := by omega
      have j1 : (i : Int) < (n : Int) := by omega
      have j2 : decide ((i : Int) < (n : Int)) = true := decide_eq_true j1
      have j3 : decide (i < n) = true := decide_eq_true hlt
      obtain ⟨ad, rfl, hc⟩ := HS.out wr hb i hil
      have hx := HX.out i hil
      have HT : Hid (text (l.take i) ++ [letter l[i]] = text (l.take (i + 1))) := Lib.hid (by
        rw [List.take_add_one, text_app, List.getElem?_eq_getElem hil]
        rfl)
      obtain ⟨xs, hxs⟩ : ∃ xs, xs = text (l.take i) := ⟨_, rfl⟩
      obtain ⟨x, hxx⟩ : ∃ x, x = l[i] := ⟨_, rfl⟩
      rw [← hxx] at hc hx HT
      rw [← hxs] at ho HT
      obtain ⟨k, rfl⟩ : ∃ k : Nat, x = k := ⟨x.toNat, by omega⟩
      have k5 : k < 5 := by omega
      have k0 : (0 : Int) ≤ (k : Int) := by omega
      have k1 : (k : Int) < 5 := by omega
      have j4 : k < (⟨#[102, 107, 108, 104, 103]⟩ : ByteArray).size := k5
      have hidx := letters_at k5 j4
      obtain ⟨ch, hch⟩ : ∃ ch, ch = letter (k : Int) := ⟨_, rfl⟩
      rw [← hch] at hidx HT
      have ho1 := ho.alloc (.cells #[.int .u8 (ch.toNat : Int)] 5)
      have hws := hb.size
      have HN := Lib.hid (fun v' w4 (a1 : World.ownsRow w4 w.heap.size 5 1 v' (i + 1) (byt xs ++ [.int .u8 (ch.toNat : Int)])) a2 => gb_step (ob := .cells #[.int .u8 (ch.toNat : Int)] 5) ho hb a1 a2)
      clear ho hb hxs hxx hch hx
      go_wp2_with (at_builtin; refine wpList_append_sees rfl (.tmp 16) (.tmp 19) 77 rfl w.heap.size 5 i0 _ 1 1 Tryd.underlying77 hi hz0 hz1 hz2 rfl (by decide) _ i (byt xs) rfl ho1 (wr.heap.size + 1) (some ⟨wr.heap.size, 0, none⟩) 1 1 [.int .u8 (ch.toNat : Int)] rfl rfl (fun _ => ⟨_, rfl, by simp, cell_one_at _ _ _⟩) (by simp [Value.oneCell']) (by unfold maxLen; omega) (by omega) (by simp; omega) ?_; intro v' w4 a1 a2 _; obtain ⟨A', c', rfl, hri⟩ := HN.out v' w4 a1 a2; have HR := Lib.hid hri; clear a1 a2 hri HN)
      go_roundw
      case rel => exact ⟨i + 1, by omega, by go_num, by rw [← HT.out]; exact HR.out⟩
      case measure => simp [_root_.Go.RowKit.intOf]; omega
    · obtain rfl : i = n := by omega
      have j2 : decide ((i : Int) < (i : Int)) = false := decide_eq_false (by omega)
      rw [List.take_of_length_le (by rw [HL.out]; exact Nat.le_refl _)] at ho
      obtain ⟨B, hsee⟩ := gb_sees ho
      have hcv := run_conv_sees (P := Tryd.prog) wr (src := 77) (dst := 9) (c := cv) Tryd.underlying77 Tryd.underlying5 Tryd.underlying9 (n := i) (by rw [text_len, HL.out]) hsee
      obtain ⟨S, hS⟩ : ∃ S, S = str (text l) := ⟨_, rfl⟩
      rw [← hS] at hcv
      have HSS := Lib.hid hS
      have HB := Lib.hid hb
      clear ho hb hsee hS
      go_wp2_with fail
      go_ret
      exact ⟨by rw [← HSS.out]; rfl, HB.out⟩
section
variable {w : World} {v : Value} {l : Ls} {F G : Nat → Prop}
theorem HasS.low {w' : World} (h : HasS w v l F) (hb : Below w.heap.size w w') : HasS w' v l F := by
  obtain ⟨b, g, c, rest, rfl, h, rfl⟩ := h
  exact ⟨b, g, c, rest, rfl, h.below hb, rfl⟩
theorem stext (h : HasS w v l F) : Calls Tryd.prog 21 #[v] w fun e w' => e = .returned (.string (str (text l))) ∧ Below w.heap.size w w' := by
  have h0 := h
  obtain ⟨b, g, c, rest, rfl, h, rfl⟩ := h
  exact text_any l (some ⟨g, 0, none⟩) l.length c (pb b) w rfl h.most h.sts h.sees (fun w1 hb => slen (h0.low hb)) (fun w1 hb => slots_at b _ _ _ w1 (h.below hb).c0)
theorem text_non (h : NonS w v G) : Calls Tryd.prog 21 #[v] w fun e w' => e = .returned (.string ⟨#[]⟩) ∧ Below w.heap.size w w' :=
  text_any [] none 0 0 v w rfl (by omega) (fun _ hz => by cases hz) (fun hn => absurd rfl hn) (fun w1 hb => len_non (nons_below h hb)) (fun w1 hb => slots_non v G w1 (nons_below h hb))
end
end Go.Proofs.YtelhieinkdmpfaaDoor.Sh
