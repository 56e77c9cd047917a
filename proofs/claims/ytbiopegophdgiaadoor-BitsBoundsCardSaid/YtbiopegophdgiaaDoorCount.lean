import Derived.Test.YtbiopegophdgiaaDoorFind
import Derived.Deep.RegionHeld3
namespace Go.Proofs.YtbiopegophdgiaaDoor
open Go.RowKit Go.Shelf
attribute [local go_sem] Oper.semAt_some

/- COUNT, LEN, HAS. -/

theorem count_next (l : List Bool) (k : Nat) : (l.take (64 * (k + 1))).count true = (l.take (64 * k)).count true + (chunk l k).count true := by
  rw [take_word, List.count_append]
theorem ones1_any (n : Nat) (l : List Bool) (x : Nat) (w : World) (hn : n ≤ 4096) (hx : x = val l) (hl : l.length ≤ 64) : Calls Tryd.prog 55 #[.int .i64 (n : Int), .int .u64 (x : Int)] w fun e w' => e = .returned (.int .i64 ((n + l.count true : Nat) : Int)) ∧ w = w' := by
  have hlt : x < 18446744073709551616 := by
    rw [hx]
    have h1 := val_lt l
    have h2 : 2 ^ l.length ≤ 2 ^ 64 := Nat.pow_le_pow_right (by omega) hl
    omega
  have h := Lib.hid (fun w => ones_any x w hlt)
  have hc := List.count_le_length (a := true) (l := l)
  rw [hx, pop_val l hl, ← hx] at h
  obtain ⟨c, hcc⟩ : ∃ c, c = l.count true := ⟨_, rfl⟩
  rw [← hcc] at h hc ⊢
  clear hcc hx
  obtain ⟨d, hd⟩ : ∃ d, d = n + c := ⟨_, rfl⟩
  have he : ((n : Int) + (c : Int)) = (d : Int) := by omega
  rw [← hd]
  clear hd
  go_enter Tryd.func55, Tryd.ntmps55
  go_wp2_with fail
  refine (h.out _).mono ?_
  rintro e w1 ⟨rfl, rfl⟩
  go_wp2
  go_ret
  exact ⟨rfl, rfl⟩
set_option maxHeartbeats 1000000 in
theorem folded_any (l : List Bool) (A : Option Addr) (c : Nat) (w : World) (hl : l.length ≤ 4096) (hsrc : Src w A l) :
    Calls Tryd.prog 54 #[.int .i64 0, .func (.func 55) #[] #[], .slice A (nw l.length) c] w fun e w' => e = .returned (.int .i64 (l.count true : Int)) ∧ w = w' := by
  obtain ⟨n, hn⟩ : ∃ n, n = nw l.length := ⟨_, rfl⟩
  have hn64 : n ≤ 64 := by rw [hn]; unfold nw; omega
  rw [← hn]
  have HN := Lib.hid hn
  clear hn
  go_enter Tryd.func54, Tryd.ntmps54
  go_wp2_with fail
  go_loop [0, 11] (fun s i => ∃ k : Nat, k ≤ n ∧ i = .int .i64 k ∧ ∃ S : Nat, s = .int .i64 (S : Int) ∧ Hid (S = (l.take (64 * k)).count true)) (fun _ i => n - (intOf i).toNat)
  case atStart => exact ⟨0, Nat.zero_le _, rfl, 0, rfl, Lib.hid (by simp)⟩
  case round =>
    obtain ⟨k, hk, rfl, S, rfl, HS⟩ := hrel
    by_cases hlt : k < n
    · obtain ⟨g, rfl, hcell⟩ := hsrc.word (by rw [← HN.out]; exact hlt)
      obtain ⟨x, hx⟩ : ∃ x, x = val (chunk l k) := ⟨_, rfl⟩
      rw [← hx] at hcell
      have hSl : S ≤ 4096 := by
        rw [HS.out]
        have h1 := List.count_le_length (a := true) (l := l.take (64 * k))
        have h2 : (l.take (64 * k)).length ≤ l.length := by rw [List.length_take]; omega
        omega
      have ho := Lib.hid (fun w => ones1_any S (chunk l k) x w hSl hx (chunk_len l k))
      have hnx := Lib.hid (count_next l k)
      obtain ⟨d, hd⟩ : ∃ d, d = S + (chunk l k).count true := ⟨_, rfl⟩
      rw [← hd] at ho
      have HD := Lib.hid hd
      clear hd hx
      go_wp2_with fail
      refine (ho.out _).mono ?_
      rintro e w1 ⟨rfl, rfl⟩
      go_wp2_with fail
      go_round
      case rel => exact ⟨k + 1, by omega, by go_num, d, rfl, Lib.hid (by rw [HD.out, HS.out, hnx.out])⟩
      case measure => simp [intOf]; omega
    · obtain rfl : k = n := by omega
      rw [List.take_of_length_le (by rw [HN.out]; unfold nw; omega)] at HS
      go_wp2
      go_ret
      exact ⟨by rw [← HS.out]; rfl, rfl⟩
theorem onesW_any (l : List Bool) (A : Option Addr) (c : Nat) (w : World) (hl : l.length ≤ 4096) (hsrc : Src w A l) :
    Calls Tryd.prog 42 #[.slice A (nw l.length) c] w fun e w' => e = .returned (.int .i64 (l.count true : Int)) ∧ w = w' := by
  have h := Lib.hid (folded_any l A c w hl hsrc)
  go_enter Tryd.func42, Tryd.ntmps42
  go_wp2_with fail
  refine (h.out).mono ?_
  rintro e w1 ⟨rfl, rfl⟩
  go_wp2
  go_ret
  exact ⟨rfl, rfl⟩
theorem count_any (m : Value) (l : List Bool) (w : World) (h : Mk w m l) : Calls Tryd.prog 17 #[m] w fun e w' => e = .returned (.int .i64 (l.count true : Int)) ∧ Below w.heap.size w w' := by
  have hs := Lib.hid (suchM_any true l m w h)
  have hm := h.most
  clear h
  go_enter Tryd.func17, Tryd.ntmps17
  go_wp2_with fail
  refine (hs.out).mono ?_
  rintro e w1 ⟨A, c, rfl, hA, hsrc, hb1⟩
  rw [such_true] at hsrc ⊢
  have ho := Lib.hid (onesW_any l A c w1 hm hsrc)
  go_wp2_with fail
  refine (ho.out).mono ?_
  rintro e w2 ⟨rfl, rfl⟩
  go_wp2
  go_ret
  exact ⟨rfl, hb1⟩
theorem len_any (m : Value) (l : List Bool) (w : World) (h : Mk w m l) : Calls Tryd.prog 16 #[m] w fun e w' => e = .returned (.int .i64 (l.length : Int)) ∧ w = w' := by
  rcases h with ⟨h, rfl⟩ | ⟨b, g, rfl, h⟩
  · have h1 := Lib.hid (none_any w m h)
    go_enter Tryd.func16, Tryd.ntmps16
    go_wp2_with fail
    refine (h1.out).mono ?_
    rintro e w1 ⟨rfl, rfl⟩
    go_wp2
    go_ret
    exact ⟨rfl, rfl⟩
  · have h1 := Lib.hid (none_not w b _ (h.obj.cell 0) (h.obj.cell 2))
    have hc0 : w.cell? ⟨b, 0, none⟩ = some (.int .i64 (l.length : Int)) := h.obj.cell 0
    go_enter Tryd.func16, Tryd.ntmps16
    go_wp2_with fail
    refine (h1.out).mono ?_
    rintro e w1 ⟨rfl, rfl⟩
    go_wp2
    go_ret
    exact ⟨rfl, rfl⟩

theorem has_none (m : Value) (at_ : Int) (w : World) (h : Non w m) : Calls Tryd.prog 15 #[m, .int .i64 at_] w fun e w' => e = .returned (.bool false) ∧ Below w.heap.size w w' := by
  have h1 := Lib.hid (none_any w m h)
  go_enter Tryd.func15, Tryd.ntmps15
  go_wp2_with fail
  refine (h1.out).mono ?_
  rintro e w1 ⟨rfl, rfl⟩
  go_wp2
  go_ret
  exact ⟨rfl, Below.refl _ _⟩
theorem has_out (b g : Nat) (l : List Bool) (at_ : Int) (w : World) (h : Rep w b g l) (ha : at_ < 0 ∨ (l.length : Int) ≤ at_) : Calls Tryd.prog 15 #[.pointer (some ⟨b, 0, none⟩), .int .i64 at_] w fun e w' => e = .returned (.bool false) ∧ Below w.heap.size w w' := by
  have h1 := Lib.hid (none_not w b _ (h.obj.cell 0) (h.obj.cell 2))
  have hc0 : w.cell? ⟨b, 0, none⟩ = some (.int .i64 (l.length : Int)) := h.obj.cell 0
  have h2 := Lib.hid (holds_out l.length at_ w ha)
  clear ha
  go_enter Tryd.func15, Tryd.ntmps15
  go_wp2_with fail
  refine (h1.out).mono ?_
  rintro e w1 ⟨rfl, rfl⟩
  go_wp2_with fail
  refine (h2.out).mono ?_
  rintro e w1 ⟨rfl, rfl⟩
  go_wp2
  go_ret
  exact ⟨rfl, Below.refl _ _⟩

theorem and_pow (x i : Nat) : x &&& 2 ^ i = if x.testBit i then 2 ^ i else 0 := by
  apply Nat.eq_of_testBit_eq
  intro j
  rw [Nat.testBit_and, Nat.testBit_two_pow]
  by_cases h : i = j
  · subst h
    cases hx : x.testBit i <;> simp
  · cases hx : x.testBit i <;> simp [h]
/-- is a place of words marked? -/
theorem bit_of (l : List Bool) (k x : Nat) (hx : x = val (chunk l (k / 64))) : (bits BinOp.and .u64 (x : Int) ((2 ^ (k % 64) : Nat) : Int) != 0) = (l[k]?).getD false := by
  have hm : k % 64 < 64 := Nat.mod_lt _ (by omega)
  have hlt := chunk_lt l (k / 64)
  rw [← hx] at hlt
  rw [bits_and_u64_nat _ _ hlt (pow64 hm)]
  have hb := val_bit (chunk l (k / 64)) (k % 64)
  rw [← hx, chunk_get, if_pos hm, Nat.div_add_mod] at hb
  rw [← hb]
  have hp : 0 < 2 ^ (k % 64) := Nat.pow_pos (by omega)
  rw [and_pow]
  cases x.testBit (k % 64)
  · rfl
  · rw [bne_iff_ne]
    show ((2 ^ (k % 64) : Nat) : Int) ≠ 0
    omega
set_option maxHeartbeats 1000000 in
theorem has_in (b g : Nat) (l : List Bool) (k : Nat) (w : World) (h : Rep w b g l) (hk : k < l.length) : Calls Tryd.prog 15 #[.pointer (some ⟨b, 0, none⟩), .int .i64 (k : Int)] w fun e w' => e = .returned (.bool ((l[k]?).getD false)) ∧ Below w.heap.size w w' := by
  have hm := h.most
  have h1 := Lib.hid (none_not w b _ (h.obj.cell 0) (h.obj.cell 2))
  have hc0 : w.cell? ⟨b, 0, none⟩ = some (.int .i64 (l.length : Int)) := h.obj.cell 0
  have h2 := Lib.hid (holds_in l.length k w hk)
  have h3 := Lib.hid (placeOf_in k w (by omega))
  obtain ⟨n, hn⟩ : ∃ n, n = nw l.length := ⟨_, rfl⟩
  have hn64 : n ≤ 64 := by rw [hn]; unfold nw; omega
  have hkn : k / 64 < n := by rw [hn]; unfold nw; omega
  have hq : k % 64 < 64 := Nat.mod_lt _ (by omega)
  have hc1 : w.cell? ⟨b, 1, none⟩ = some (.slice (some ⟨g, 0, none⟩) n n) := by rw [hn]; exact h.obj.cell 1
  have hcg : w.cell? ⟨g, k / 64, none⟩ = some (.int .u64 ((val (chunk l (k / 64)) : Nat) : Int)) := by
    rw [h.row.cell (k / 64)]
    exact wds_get _ (words_get l (by rw [← hn]; exact hkn))
  obtain ⟨x, hx⟩ : ∃ x, x = val (chunk l (k / 64)) := ⟨_, rfl⟩
  have hbit := Lib.hid (bit_of l k x hx)
  rw [← hx] at hcg
  obtain ⟨p, hp⟩ : ∃ p, p = k / 64 := ⟨_, rfl⟩
  obtain ⟨q, hqq⟩ : ∃ q, q = k % 64 := ⟨_, rfl⟩
  rw [← hp] at hcg h3 hkn
  rw [← hqq] at h3 hbit hq
  have hbl := h.obj.lt
  have hgl := h.row.lt
  have h4 := Lib.hid (fun w => bit_any (p : Int) q w hq)
  obtain ⟨r, hr⟩ : ∃ r, r = 2 ^ q := ⟨_, rfl⟩
  rw [← hr] at h4 hbit
  clear hp hqq hx hn hk h hr
  go_enter Tryd.func15, Tryd.ntmps15
  go_wp2_with fail
  refine (h1.out).mono ?_
  rintro e w1 ⟨rfl, rfl⟩
  go_wp2_with fail
  refine (h2.out).mono ?_
  rintro e w1 ⟨rfl, rfl⟩
  go_wp2_with fail
  refine (h3.out).mono ?_
  rintro e w1 ⟨rfl, hb1⟩
  have hd1 := (hb1.cell (p := ⟨b, 1, none⟩) hbl).trans hc1
  have hdg := (hb1.cell (p := ⟨g, p, none⟩) hgl).trans hcg
  have hzb : b < w1.heap.size := Nat.lt_of_lt_of_le hbl hb1.size
  have hzg : g < w1.heap.size := Nat.lt_of_lt_of_le hgl hb1.size
  have h0p : (0 : Int) ≤ (p : Int) := by omega
  have h1p : (p : Int) < (n : Int) := by omega
  have hB1 := hb1
  clear hc0 hc1 hcg hb1
  go_wp2_with fail
  obtain ⟨w2, hw2⟩ : ∃ w2, w2 = w1.alloc (.cells #[.int .i64 (p : Int), .int .i64 (q : Int)] 71) := ⟨_, rfl⟩
  have hs2 : w2.heap.size = w1.heap.size + 1 := by rw [hw2]; simp
  have he1 : w2.cell? ⟨b, 1, none⟩ = some (.slice (some ⟨g, 0, none⟩) n n) := by rw [hw2, World.cell?_alloc_lt _ _ _ hzb]; exact hd1
  have heg : w2.cell? ⟨g, p, none⟩ = some (.int .u64 (x : Int)) := by rw [hw2, World.cell?_alloc_lt _ _ _ hzg]; exact hdg
  have hep : w2.cell? ⟨w1.heap.size, 0, none⟩ = some (.int .i64 (p : Int)) := by rw [hw2]; exact cell_alloc_new _ _ _ _
  have heq : w2.cell? ⟨w1.heap.size, 1, none⟩ = some (.int .i64 (q : Int)) := by rw [hw2]; exact cell_alloc_new _ _ _ _
  have hB2 : Below w.heap.size w w2 := by rw [hw2]; exact hB1.alloc hB1.size _
  rw [← hw2]
  clear hw2 hd1 hdg hB1
  have hzb2 : b < w2.heap.size := by omega
  have hzg2 : g < w2.heap.size := by omega
  have hzp2 : w1.heap.size < w2.heap.size := by omega
  go_region_held3 (fun W => W.cell? ⟨b, 1, none⟩ = some (.slice (some ⟨g, 0, none⟩) n n) ∧ W.cell? ⟨g, p, none⟩ = some (.int .u64 (x : Int)) ∧ W.cell? ⟨w1.heap.size, 0, none⟩ = some (.int .i64 (p : Int)) ∧ W.cell? ⟨w1.heap.size, 1, none⟩ = some (.int .i64 (q : Int))) (go_keep)
    (first | (go_at_call 36; refine (h4.out _).mono ?_; rintro e w' ⟨rfl, rfl⟩))
  go_wp2
  go_ret
  exact ⟨by rw [← hbit.out]; rfl, (hB2.alloc hB2.size _).drew⟩
end Go.Proofs.YtbiopegophdgiaaDoor
