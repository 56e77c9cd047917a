import Derived.Test.YtiahmccchpmdgaaGreatDoorFAO
namespace Go.Proofs.YtiahmccchpmdgaaGreatDoor.Me
open Go.RowKit Go.Shelf
attribute [local go_sem] Oper.semAt_some

/- METAGREATLY OVER ANY BOOKS: WHAT STANDS THERE, AND IS NO GREAT RECORD, IS TOLD. -/
theorem great_in (f : Byts) (o : Nat) (x0 x1 x2 x3 x4 x5 x6 x7 x8 x9 x10 x11 x12 x13 x14 x15 : UInt8) : greatAt (putB f o [x0, x1, x2, x3, x4, x5, x6, x7, x8, x9, x10, x11, x12, x13, x14, x15]) o =
    if x0.toNat ≤ 4 ∧ x1 = 0 ∧ (x4.toNat + 256 * x5.toNat) + 65536 * (x6.toNat + 256 * x7.toNat) ≤ 262144 ∧ (x8.toNat + 256 * x9.toNat) + 65536 * (x10.toNat + 256 * x11.toNat) ≤ 65535 ∧ (x12.toNat + 256 * x13.toNat) + 65536 * (x14.toNat + 256 * x15.toNat) = 0 then
      some (x0.toNat, x2.toNat + 256 * x3.toNat, (x4.toNat + 256 * x5.toNat) + 65536 * (x6.toNat + 256 * x7.toNat), (x8.toNat + 256 * x9.toNat) + 65536 * (x10.toNat + 256 * x11.toNat)) else none := by
  unfold greatAt le4 le2
  have h := fun k hk => putB_in f o [x0, x1, x2, x3, x4, x5, x6, x7, x8, x9, x10, x11, x12, x13, x14, x15] k hk
  have h0 := putB_in0 f o [x0, x1, x2, x3, x4, x5, x6, x7, x8, x9, x10, x11, x12, x13, x14, x15] (by simp)
  have h1 := h 1 (by simp)
  have h2 := h 2 (by simp)
  have h3 := h 3 (by simp)
  have h4 := h 4 (by simp)
  have h5 := h 5 (by simp)
  have h6 := h 6 (by simp)
  have h7 := h 7 (by simp)
  have h8 := h 8 (by simp)
  have h9 := h 9 (by simp)
  have h10 := h 10 (by simp)
  have h11 := h 11 (by simp)
  have h12 := h 12 (by simp)
  have h13 := h 13 (by simp)
  have h14 := h 14 (by simp)
  have h15 := h 15 (by simp)
  simp only [Nat.add_assoc, Nat.reduceAdd]
  rw [h0, h1, h2, h3, h4, h5, h6, h7, h8, h9, h10, h11, h12, h13, h14, h15]
  rfl
/-- a number out of bytes, the lowest ahead -/
def leN : List UInt8 → Nat
  | [] => 0
  | b :: l => b.toNat + 256 * leN l
theorem leN_lt : ∀ l : List UInt8, leN l < 256 ^ l.length
  | [] => by decide
  | b :: l => by
    have := leN_lt l
    have := b.toNat_lt
    rw [List.length_cons, Nat.pow_succ]
    unfold leN
    omega
theorem leN_drop {l : List UInt8} {j : Nat} (h : j < l.length) : leN (l.drop j) = l[j].toNat + 256 * leN (l.drop (j + 1)) := by
  rw [List.drop_eq_getElem_cons h, leN]
theorem leN_bound {l : List UInt8} (h : l.length = 4) (j : Nat) : leN (l.drop j) < 4294967296 := by
  have h1 := leN_lt (l.drop j)
  have h2 : (l.drop j).length ≤ 4 := by simp; omega
  exact Nat.lt_of_lt_of_le h1 (Nat.pow_le_pow_right (n := 256) (by decide) h2)
theorem keep_drew {F : Nat → Prop} {w V : World} (h : Keep F w V) : Keep F w V.drew := ⟨h.os, h.tape, h.output, h.size, h.block⟩
theorem cell_in (x0 x1 x2 x3 x4 x5 x6 x7 x8 x9 x10 x11 x12 x13 x14 x15 : UInt8) (j : Nat) (h : j < 4) : (byt [x0, x1, x2, x3, x4, x5, x6, x7, x8, x9, x10, x11, x12, x13, x14, x15])[4 + j]? = some (.int .u8 (([x4, x5, x6, x7] : List UInt8)[j]'(by simpa using h)).toNat) ∧ (byt [x0, x1, x2, x3, x4, x5, x6, x7, x8, x9, x10, x11, x12, x13, x14, x15])[8 + j]? = some (.int .u8 (([x8, x9, x10, x11] : List UInt8)[j]'(by simpa using h)).toNat) := by
  rcases (show j = 0 ∨ j = 1 ∨ j = 2 ∨ j = 3 by omega) with rfl | rfl | rfl | rfl <;> exact ⟨rfl, rfl⟩
section
variable {T : World → Prop} {Has : HasT} (H : MBase T Has)
include H
def good (x0 x1 : UInt8) (P Q R : Nat) : Prop := x0.toNat ≤ 4 ∧ x1 = 0 ∧ P ≤ 262144 ∧ Q ≤ 65535 ∧ R = 0
def GCase (x0 x1 x2 x3 : UInt8) (P Q R : Nat) (a b c d er : Int) : Prop := (good x0 x1 P Q R ∧ a = (x0.toNat : Int) ∧ b = ((x2.toNat + 256 * x3.toNat : Nat) : Int) ∧ c = (P : Int) ∧ d = (Q : Int) ∧ er = 0) ∨ (¬ good x0 x1 P Q R ∧ a = 0 ∧ b = 0 ∧ c = 0 ∧ d = 0 ∧ er = 251)
theorem great_call (i : Nat) (x0 x1 x2 x3 x4 x5 x6 x7 x8 x9 x10 x11 x12 x13 x14 x15 : UInt8) (hi : i < 384) {w : World} {v : Value} {B : Bks} {n : Nat} {F : Nat → Prop} (ht : T w) (h : Has w v (upd B 2 (some (putB zeroB (greatO i) [x0, x1, x2, x3, x4, x5, x6, x7, x8, x9, x10, x11, x12, x13, x14, x15]))) n F) :
    Calls Tryz.prog 22 #[v, .int .i64 2, .int .i64 (i : Int)] w fun e w' => ∃ a b c d er : Int, e = .returned (.tuple #[gtV a b c d, .int .i64 er]) ∧ Nx Has w v (upd B 2 (some (putB zeroB (greatO i) [x0, x1, x2, x3, x4, x5, x6, x7, x8, x9, x10, x11, x12, x13, x14, x15]))) n F w' ∧
      GCase x0 x1 x2 x3 ((x4.toNat + 256 * x5.toNat) + 65536 * (x6.toNat + 256 * x7.toNat)) ((x8.toNat + 256 * x9.toNat) + 65536 * (x10.toNat + 256 * x11.toNat)) ((x12.toNat + 256 * x13.toNat) + 65536 * (x14.toNat + 256 * x15.toNat)) a b c d er := by
  have hg := great_in zeroB (greatO i) x0 x1 x2 x3 x4 x5 x6 x7 x8 x9 x10 x11 x12 x13 x14 x15
  by_cases hc : good x0 x1 ((x4.toNat + 256 * x5.toNat) + 65536 * (x6.toNat + 256 * x7.toNat)) ((x8.toNat + 256 * x9.toNat) + 65536 * (x10.toNat + 256 * x11.toNat)) ((x12.toNat + 256 * x13.toNat) + 65536 * (x14.toNat + 256 * x15.toNat))
  · have hc' := hc
    unfold good at hc'
    rw [if_pos hc'] at hg
    exact (H.ggetYes 2 i ht h (by omega) hi (upd_same _ _ _) hg).mono fun e w' ⟨e1, e2⟩ => ⟨_, _, _, _, _, e1, e2, .inl ⟨hc, rfl, rfl, rfl, rfl, rfl⟩⟩
  · have hc' := hc
    unfold good at hc'
    rw [if_neg hc'] at hg
    exact (H.ggetBad 2 i ht h (by omega) hi (upd_same _ _ _) hg).mono fun e w' ⟨e1, e2⟩ => ⟨_, _, _, _, _, e1, e2, .inr ⟨hc, rfl, rfl, rfl, rfl, rfl⟩⟩
set_option maxRecDepth 100000 in
set_option maxHeartbeats 4000000 in
theorem greatly_any (i : Int) (x0 x1 x2 x3 x4 x5 x6 x7 x8 x9 x10 x11 x12 x13 x14 x15 : UInt8) (w : World) (ht : T w) : Calls Tryz.prog 6 #[.int .i64 i, .agg #[u8V x0, u8V x1, u8V x2, u8V x3, u8V x4, u8V x5, u8V x6, u8V x7, u8V x8, u8V x9, u8V x10, u8V x11, u8V x12, u8V x13, u8V x14, u8V x15]] w fun e w' => e = .returned (.bool true) ∧ Below w.heap.size w w' := by
  have HT := Lib.hid (fun W (hb : Below w.heap.size w W) => H.tb ht hb)
  have hW := Lib.hid (fun W (hb : Below w.heap.size w W) => works_any H W (HT.out W hb))
  obtain ⟨w1, hw1⟩ : ∃ w1, w1 = w.alloc (.cells #[u8V x0, u8V x1, u8V x2, u8V x3, u8V x4, u8V x5, u8V x6, u8V x7, u8V x8, u8V x9, u8V x10, u8V x11, u8V x12, u8V x13, u8V x14, u8V x15] 67) := ⟨_, rfl⟩
  have hq1 : Row w1 w.heap.size 67 (byt [x0, x1, x2, x3, x4, x5, x6, x7, x8, x9, x10, x11, x12, x13, x14, x15]) := by rw [hw1]; exact Row.new w 67 (byt [x0, x1, x2, x3, x4, x5, x6, x7, x8, x9, x10, x11, x12, x13, x14, x15])
  have hb : Below w.heap.size w w1 := by rw [hw1]; exact below1 _ _
  have hM := Lib.hid (H.mem w1 (HT.out w1 hb))
  clear ht
  go_enter Tryz.func6, Tryz.ntmps6
  go_wp2_with fail
  rw [← hw1]
  clear hw1
  go_wp2_with fail
  refine hM.out.mono ?_
  rintro e w2 ⟨v, F, rfl, hH, hF, hb'⟩
  obtain ⟨ad, rfl⟩ := H.ptr hH
  have hs1 : w.heap.size < w1.heap.size := hq1.lt
  have hq := hq1.below hb'
  have hb := hb.trans (hb'.mono hb.size)
  clear hb' hq1 hM
  by_cases h0 : i < 0
  · have d0 : decide (i < 0) = true := decide_eq_true h0
    go_wp2_with fail
    refine (hW.out _ hb).mono ?_
    rintro e w4 ⟨rfl, hb'⟩
    have hb := hb.trans (hb'.mono hb.size)
    clear hb'
    go_wp2_with fail
    go_ret
    exact ⟨rfl, hb⟩
  · by_cases h1 : 384 ≤ i
    · have d0 : decide (i < 0) = false := decide_eq_false h0
      have d1 : decide (384 ≤ i) = true := decide_eq_true h1
      go_wp2_with fail
      refine (hW.out _ hb).mono ?_
      rintro e w4 ⟨rfl, hb'⟩
      have hb := hb.trans (hb'.mono hb.size)
      clear hb'
      go_wp2_with fail
      go_ret
      exact ⟨rfl, hb⟩
    · obtain ⟨i', rfl⟩ : ∃ i' : Nat, i = (i' : Int) := ⟨i.toNat, by omega⟩
      have hi : i' < 384 := by omega
      have d0 : decide ((i' : Int) < 0) = false := decide_eq_false h0
      have d1 : decide ((384 : Int) ≤ (i' : Int)) = false := decide_eq_false h1
      have d1n : ¬ 384 ≤ i' := by omega
      have hO := Lib.hid (H.openYes 2 (HT.out _ hb) hH (by rw [openA, if_neg (by decide), if_neg (by simp), if_neg (by omega)]))
      clear h0 h1
      go_wp2_with fail
      refine hO.out.mono ?_
      rintro e w4 ⟨rfl, F4, hH4, hk4, hF4⟩
      have hq4 : Row w4 w.heap.size 67 (byt [x0, x1, x2, x3, x4, x5, x6, x7, x8, x9, x10, x11, x12, x13, x14, x15]) := hk4.row hq (fun hf => by have := hF _ hf; omega)
      have hF5 : ∀ k, F4 k → w.heap.size + 1 ≤ k := fun k hk => by
        rcases hF4 k hk with h | h
        · have := hF k h; omega
        · have := hq.lt; omega
      have hb := hb.trans (hk4.below (fun k hk => by have := hF k hk; omega) hb.size)
      clear hq hH hO hk4 hF4 hF
      go_wp2_with fail
      refine (num_any _ _).mono ?_
      rintro e wx ⟨rfl, rfl⟩
      have hB := Lib.hid (fun W => (show Calls Tryz.prog 19 #[.int .i64 2] W (fun e w' => e = .returned (.int .i64 129) ∧ W = w') from rbook_any 2 W (by omega)))
      have hB2 : IntKind.i64.wrap 153 = 153 := by decide
      have hB3 : IntKind.i64.wrap 39168 = 39168 := by decide
      have g2 : IntKind.i64.wrap (16 * (i' : Int)) = ((16 * i' : Nat) : Int) := (wrapI _ (by omega) (by omega)).trans (by omega)
      have g3 : IntKind.i64.wrap (39168 + ((16 * i' : Nat) : Int)) = ((256 * (64 * 2 + 1) + greatO i' : Nat) : Int) := (wrapI _ (by omega) (by omega)).trans (by unfold greatO; omega)
      have g4 : IntKind.u32.wrap ((256 * (64 * 2 + 1) + greatO i' : Nat) : Int) = ((256 * (64 * 2 + 1) + greatO i' : Nat) : Int) := by unfold greatO; rw [IntKind.wrap_u32]; omega
      have hHd : Has w4.drew (.pointer (some ad)) (upd (fun _ => none) 2 (some zeroB)) (100 - 48) F4 := H.keep hH4 (fun _ _ => rfl)
      have hP := H.poke 2 (greatO i') [x0, x1, x2, x3, x4, x5, x6, x7, x8, x9, x10, x11, x12, x13, x14, x15] (some ⟨w.heap.size, 0, none⟩) 16 (HT.out w4.drew hb.drew) hHd (by omega) (upd_same _ _ _) (by unfold greatO; simp; omega) (by simp) (by simp) (by simp) (Row.sees (show Row w4.drew w.heap.size 67 (byt [x0, x1, x2, x3, x4, x5, x6, x7, x8, x9, x10, x11, x12, x13, x14, x15]) from hq4)) (fun ad e hf => by injection e with e; subst e; have := hF5 _ hf; simp only at this; omega)
      rw [upd_upd, show [x0, x1, x2, x3, x4, x5, x6, x7, x8, x9, x10, x11, x12, x13, x14, x15].length = 16 from rfl] at hP
      obtain ⟨aa, haa⟩ : ∃ a, a = 256 * (64 * 2 + 1) + greatO i' := ⟨_, rfl⟩
      rw [← haa] at hP g3 g4
      obtain ⟨z2, hz2⟩ : ∃ z, z = 16 * i' := ⟨_, rfl⟩
      rw [← hz2] at g2 g3
      have hP := Lib.hid hP
      have hsl : ∀ W : World, (Instr.sliceAt 67 (.pointer (some ⟨w.heap.size, 0, none⟩)) none none none).run Tryz.prog W = .ok (.slice (some ⟨w.heap.size, 0, none⟩) 16 16) W := fun W => by kernel_rfl
      have hb := hb.drew
      clear hz2 haa hH4 hHd
      go_wp2_with fail
      refine wp_region_noPanic ?_
      refine wp_region_held_drew (S := fun _ => True) (by kernel_rfl) trivial (fun hHeld => ?_)
      refine wpAnyH_take (i := 0) (v := ?_) rfl (by kernel_rfl) (by kernel_rfl) (by kernel_rfl) (fun _ _ _ h => h) (Or.inl ⟨by kernel_rfl, ?_⟩) hHeld ?_
      rotate_left
      focus (intro w hSw; (try dsimp only at hSw); go_simp; try with_reducible rfl)
      simp only [Act.put]
      refine wpAnyH_take (i := 4) (v := ?_) rfl (by kernel_rfl) (by kernel_rfl) (by kernel_rfl) (fun _ _ _ h => h) (Or.inl ⟨by kernel_rfl, ?_⟩) hHeld ?_
      rotate_left
      focus (intro w hSw; (try dsimp only at hSw); go_simp; try with_reducible rfl)
      simp only [Act.put]
      refine wpAnyH_take (i := 5) (v := ?_) rfl (by kernel_rfl) (by kernel_rfl) (by kernel_rfl) (fun _ _ _ h => h) (Or.inl ⟨by kernel_rfl, ?_⟩) hHeld ?_
      rotate_left
      focus (intro w hSw; (try dsimp only at hSw); go_simp; try with_reducible rfl)
      simp only [Act.put]
      refine wpAnyH_take (i := 8) (v := ?_) rfl (by kernel_rfl) (by kernel_rfl) (by kernel_rfl) (fun _ _ _ h => h) (Or.inl ⟨by kernel_rfl, ?_⟩) hHeld ?_
      rotate_left
      focus (intro w hSw; (try dsimp only at hSw); go_simp; try with_reducible rfl)
      simp only [Act.put]
      refine wpAnyH_ready (rs := [1]) (by kernel_rfl) (by simp) ?_
      refine AllReadyH.cons rfl (fun K hK => ?_) (AllReadyH.nil)
      go_simp
      refine (hB.out _).mono ?_
      rintro e w2 ⟨rfl, rfl⟩
      refine hK.out _ _ trivial (fun hHeld => ?_)
      clear hK K
      try simp only [Act.put]
      refine wpAnyH_take (i := 2) (v := ?_) rfl (by kernel_rfl) (by kernel_rfl) (by kernel_rfl) (fun _ _ _ h => h) (Or.inl ⟨by kernel_rfl, ?_⟩) hHeld ?_
      rotate_left
      focus (intro w hSw; (try dsimp only at hSw); go_simp; try with_reducible rfl)
      simp only [Act.put]
      refine wpAnyH_take (i := 3) (v := ?_) rfl (by kernel_rfl) (by kernel_rfl) (by kernel_rfl) (fun _ _ _ h => h) (Or.inl ⟨by kernel_rfl, ?_⟩) hHeld ?_
      rotate_left
      focus (intro w hSw; (try dsimp only at hSw); go_simp; try with_reducible rfl)
      simp only [Act.put]
      refine wpAnyH_take (i := 6) (v := ?_) rfl (by kernel_rfl) (by kernel_rfl) (by kernel_rfl) (fun _ _ _ h => h) (Or.inl ⟨by kernel_rfl, ?_⟩) hHeld ?_
      rotate_left
      focus (intro w hSw; (try dsimp only at hSw); go_simp; try with_reducible rfl)
      simp only [Act.put]
      refine wpAnyH_take (i := 7) (v := ?_) rfl (by kernel_rfl) (by kernel_rfl) (by kernel_rfl) (fun _ _ _ h => h) (Or.inl ⟨by kernel_rfl, ?_⟩) hHeld ?_
      rotate_left
      focus (intro w hSw; (try dsimp only at hSw); go_simp; try with_reducible rfl)
      simp only [Act.put]
      refine wpAnyH_ready (rs := [9]) (by kernel_rfl) (by simp) ?_
      refine AllReadyH.cons rfl (fun K hK => ?_) (AllReadyH.nil)
      go_simp
      refine hP.out.mono ?_
      rintro e w5 ⟨rfl, F6, hH6, hk6, hF6⟩
      have hq6 : Row w5 w.heap.size 67 (byt [x0, x1, x2, x3, x4, x5, x6, x7, x8, x9, x10, x11, x12, x13, x14, x15]) := hk6.row (show Row w4.drew w.heap.size 67 (byt [x0, x1, x2, x3, x4, x5, x6, x7, x8, x9, x10, x11, x12, x13, x14, x15]) from hq4) (fun hf => by have := hF5 _ hf; omega)
      have hb := hb.trans (hk6.below (fun k hk => by have := hF5 k hk; omega) hb.size)
      have hF7 : ∀ k, F6 k → w.heap.size + 1 ≤ k := fun k hk => by
        rcases hF6 k hk with h | h
        · exact hF5 k h
        · have := hq4.lt
          have e : w4.drew.heap.size = w4.heap.size := rfl
          omega
      clear hq4 hk6 hF6 hP hF5
      refine hK.out _ _ trivial (fun hHeld => ?_)
      clear hK K
      try simp only [Act.put]
      refine wpAnyH_ready (rs := [10]) (by kernel_rfl) (by simp) ?_
      refine AllReadyH.cons rfl (fun K hK => ?_) (AllReadyH.nil)
      go_simp
      refine hK.out _ _ trivial (fun hHeld => ?_)
      clear hK K
      try simp only [Act.put]
      refine wpAnyH_done (by kernel_rfl) (NoPanic.normal ?_) _
      clear g2 g3 g4 hB2 hB3 hsl hHeld hB d0 d1 d1n
      go_wp2_with fail
      refine (num_any _ _).mono ?_
      rintro e wx ⟨rfl, rfl⟩
      have hGG := Lib.hid (great_call H i' x0 x1 x2 x3 x4 x5 x6 x7 x8 x9 x10 x11 x12 x13 x14 x15 hi (HT.out _ hb) hH6)
      go_wp2_with fail
      refine hGG.out.mono ?_
      rintro e w6 ⟨a, b, c, d, er, rfl, ⟨F8, _, hk7, _⟩, hcase⟩
      have HCASE := Lib.hid hcase
      have hq7 : Row w6 w.heap.size 67 (byt [x0, x1, x2, x3, x4, x5, x6, x7, x8, x9, x10, x11, x12, x13, x14, x15]) := hk7.row hq6 (fun hf => by have := hF7 _ hf; omega)
      have hb := hb.trans (hk7.below (fun k hk => by have := hF7 k hk; omega) hb.size)
      obtain ⟨w8, hw8⟩ : ∃ w8, w8 = (w6.alloc (.cells #[.int .i64 a, .int .i64 b, .int .i64 c, .int .i64 d] 43)).alloc (.cells #[.int .u64 0, .int .u64 0] 71) := ⟨_, rfl⟩
      have hq8 : Row w8 w.heap.size 67 (byt [x0, x1, x2, x3, x4, x5, x6, x7, x8, x9, x10, x11, x12, x13, x14, x15]) := by rw [hw8]; exact (hq7.below (below1 _ _)).below (below1 _ _)
      have hg8 : Row w8 w6.heap.size 43 [.int .i64 a, .int .i64 b, .int .i64 c, .int .i64 d] := by rw [hw8]; exact (Row.new w6 43 [.int .i64 a, .int .i64 b, .int .i64 c, .int .i64 d]).below (below1 _ _)
      have hn8 : Row w8 (w6.heap.size + 1) 71 [.int .u64 0, .int .u64 0] := by rw [hw8]; exact Row.new_at _ _ _ (by simp)
      have hb8 : Below w.heap.size w w8 := by rw [hw8]; exact (hb.alloc hb.size _).alloc (by rw [World.size_alloc]; have := hb.size; omega) _
      have hlt6 := hq7.lt
      clear hcase hk7 hq7 hq6 hH6 hF7 hGG hb
      go_wp2_with fail
      rw [← hw8]
      clear hw8
      obtain ⟨L, hL⟩ : ∃ L : List UInt8, L = [x4, x5, x6, x7] := ⟨_, rfl⟩
      obtain ⟨M, hM⟩ : ∃ M : List UInt8, M = [x8, x9, x10, x11] := ⟨_, rfl⟩
      have hL4 : L.length = 4 := by rw [hL]; rfl
      have hM4 : M.length = 4 := by rw [hM]; rfl
      have HCI : Hid (∀ j (h : j < 4), (byt [x0, x1, x2, x3, x4, x5, x6, x7, x8, x9, x10, x11, x12, x13, x14, x15])[4 + j]? = some (.int .u8 (L[j]'(by omega)).toNat) ∧ (byt [x0, x1, x2, x3, x4, x5, x6, x7, x8, x9, x10, x11, x12, x13, x14, x15])[8 + j]? = some (.int .u8 (M[j]'(by omega)).toNat)) := Lib.hid (fun j h => by subst hL; subst hM; exact cell_in x0 x1 x2 x3 x4 x5 x6 x7 x8 x9 x10 x11 x12 x13 x14 x15 j h)
      have HL := Lib.hid hL
      have HMM := Lib.hid hM
      clear hL hM
      go_loopw [12] (fun t wr => Hid (Keep (· = w6.heap.size + 1) w8 wr) ∧ ((t = .int .i64 (-1) ∧ Hid (Row wr (w6.heap.size + 1) 71 [.int .u64 (leN L : Int), .int .u64 (leN M : Int)])) ∨ ∃ j : Nat, j < 4 ∧ t = .int .i64 (j : Int) ∧ Hid (Row wr (w6.heap.size + 1) 71 [.int .u64 (leN (L.drop (j + 1)) : Int), .int .u64 (leN (M.drop (j + 1)) : Int)]))) (fun t _ => (_root_.Go.RowKit.intOf t + 1).toNat)
      case atStart => exact ⟨Lib.hid (Keep.refl _), .inr ⟨3, by omega, rfl, Lib.hid (by rw [show (3 : Nat) + 1 = L.length by omega, List.drop_length, hL4, ← hM4, List.drop_length]; exact hn8)⟩⟩
      case round =>
        obtain ⟨HK, ⟨rfl, HR⟩ | ⟨j, hj, rfl, HR⟩⟩ := hrel
        · have hR := HR.out
          have hq9 : Row wr w.heap.size 67 (byt [x0, x1, x2, x3, x4, x5, x6, x7, x8, x9, x10, x11, x12, x13, x14, x15]) := HK.out.row hq8 (fun e => by omega)
          have hg9 : Row wr w6.heap.size 43 [.int .i64 a, .int .i64 b, .int .i64 c, .int .i64 d] := HK.out.row hg8 (fun e => by omega)
          have hbr : Below w.heap.size w wr := hb8.trans (HK.out.below (fun k e => by have := hb8.size; omega) hb8.size)
          have hLe : leN L = (x4.toNat + 256 * x5.toNat) + 65536 * (x6.toNat + 256 * x7.toNat) := by rw [HL.out]; simp only [leN]; omega
          have hMe : leN M = (x8.toNat + 256 * x9.toNat) + 65536 * (x10.toNat + 256 * x11.toNat) := by rw [HMM.out]; simp only [leN]; omega
          obtain ⟨P, hP⟩ : ∃ P, P = leN L := ⟨_, rfl⟩
          obtain ⟨Q, hQ⟩ : ∃ Q, Q = leN M := ⟨_, rfl⟩
          obtain ⟨R0, hR0⟩ : ∃ R, R = (x12.toNat + 256 * x13.toNat) + 65536 * (x14.toNat + 256 * x15.toNat) := ⟨_, rfl⟩
          rw [← hP, ← hQ] at hR
          have hcs := HCASE.out
          rw [← hLe, ← hMe, ← hR0, ← hP, ← hQ] at hcs
          have hP32 : P < 4294967296 := by rw [hP]; exact leN_bound hL4 0
          have hQ32 : Q < 4294967296 := by rw [hQ]; exact leN_bound hM4 0
          have n0 : wr.cell? ⟨w6.heap.size + 1, 0, none⟩ = some (.int .u64 (P : Int)) := hR.cell 0
          have n1 : wr.cell? ⟨w6.heap.size + 1, 1, none⟩ = some (.int .u64 (Q : Int)) := hR.cell 1
          have r0 : wr.cell? ⟨w6.heap.size, 0, none⟩ = some (.int .i64 a) := hg9.cell 0
          have r1 : wr.cell? ⟨w6.heap.size, 1, none⟩ = some (.int .i64 b) := hg9.cell 1
          have r2 : wr.cell? ⟨w6.heap.size, 2, none⟩ = some (.int .i64 c) := hg9.cell 2
          have r3 : wr.cell? ⟨w6.heap.size, 3, none⟩ = some (.int .i64 d) := hg9.cell 3
          have c0 : wr.cell? ⟨w.heap.size, 0, none⟩ = some (.int .u8 (x0.toNat : Int)) := hq9.cell 0
          have c1 : wr.cell? ⟨w.heap.size, 1, none⟩ = some (.int .u8 (x1.toNat : Int)) := hq9.cell 1
          have c2 : wr.cell? ⟨w.heap.size, 2, none⟩ = some (.int .u8 (x2.toNat : Int)) := hq9.cell 2
          have c3 : wr.cell? ⟨w.heap.size, 3, none⟩ = some (.int .u8 (x3.toNat : Int)) := hq9.cell 3
          have c12 : wr.cell? ⟨w.heap.size, 12, none⟩ = some (.int .u8 (x12.toNat : Int)) := hq9.cell 12
          have c13 : wr.cell? ⟨w.heap.size, 13, none⟩ = some (.int .u8 (x13.toNat : Int)) := hq9.cell 13
          have c14 : wr.cell? ⟨w.heap.size, 14, none⟩ = some (.int .u8 (x14.toNat : Int)) := hq9.cell 14
          have c15 : wr.cell? ⟨w.heap.size, 15, none⟩ = some (.int .u8 (x15.toNat : Int)) := hq9.cell 15
          have HG9 := Lib.hid hg9
          clear hLe hMe HL HMM HCI HCASE hR hg9 hq9 hP hQ HR HK hq8 hg8 hn8 hb8
          unfold GCase at hcs
          rcases hcs with ⟨hgd, rfl, rfl, rfl, rfl, rfl⟩ | ⟨hgd, rfl, rfl, rfl, rfl, rfl⟩
          · obtain ⟨h0, h1, h2, h3, h4⟩ := hgd
            have z0 : x12.toNat = 0 ∧ x13.toNat = 0 ∧ x14.toNat = 0 ∧ x15.toNat = 0 := by omega
            obtain ⟨z12, z13, z14, z15⟩ := z0
            have g0 : decide ((4 : Int) < (x0.toNat : Int)) = false := decide_eq_false (by omega)
            have g0n : ¬ 4 < x0.toNat := by omega
            have g1n : x1.toNat = 0 := by rw [h1]; rfl
            have g2 : decide ((262144 : Int) < (P : Int)) = false := decide_eq_false (by omega)
            have g2n : ¬ 262144 < P := by omega
            have g3 : decide ((65535 : Int) < (Q : Int)) = false := decide_eq_false (by omega)
            have g3n : ¬ 65535 < Q := by omega
            have t2 := x2.toNat_lt
            have t3 := x3.toNat_lt
            have wi : ∀ x : UInt8, IntKind.i64.wrap (x.toNat : Int) = (x.toNat : Int) := fun x => by have := x.toNat_lt; exact wrapI _ (by omega) (by omega)
            have m3 : IntKind.i64.wrap (256 * (x3.toNat : Int)) = ((256 * x3.toNat : Nat) : Int) := (wrapI _ (by omega) (by omega)).trans (by omega)
            obtain ⟨S, hS⟩ : ∃ S, S = x2.toNat + 256 * x3.toNat := ⟨_, rfl⟩
            have m4 : IntKind.i64.wrap ((x2.toNat : Int) + ((256 * x3.toNat : Nat) : Int)) = (S : Int) := (wrapI _ (by omega) (by omega)).trans (by omega)
            obtain ⟨M3, hM3⟩ : ∃ M, M = 256 * x3.toNat := ⟨_, rfl⟩
            rw [← hM3] at m3 m4
            have m5 : IntKind.i64.wrap (P : Int) = (P : Int) := wrapI _ (by omega) (by omega)
            have m6 : IntKind.i64.wrap (Q : Int) = (Q : Int) := wrapI _ (by omega) (by omega)
            rw [← hS] at r1
            have hbr2 := hbr.alloc hbr.size (.cells #[Value.int .i64 (x0.toNat : Int), Value.int .i64 (S : Int), Value.int .i64 (P : Int), Value.int .i64 (Q : Int)] 43)
            have HB2 := Lib.hid hbr2
            have hl9 := HG9.out.below (below1 wr (.cells #[Value.int .i64 (x0.toNat : Int), Value.int .i64 (S : Int), Value.int .i64 (P : Int), Value.int .i64 (Q : Int)] 43))
            rw [← hS] at hl9
            have l0 : (wr.alloc (.cells #[Value.int .i64 (x0.toNat : Int), Value.int .i64 (S : Int), Value.int .i64 (P : Int), Value.int .i64 (Q : Int)] 43)).cell? ⟨w6.heap.size, 0, none⟩ = some (.int .i64 (x0.toNat : Int)) := hl9.cell 0
            have l1 : (wr.alloc (.cells #[Value.int .i64 (x0.toNat : Int), Value.int .i64 (S : Int), Value.int .i64 (P : Int), Value.int .i64 (Q : Int)] 43)).cell? ⟨w6.heap.size, 1, none⟩ = some (.int .i64 (S : Int)) := hl9.cell 1
            have l2 : (wr.alloc (.cells #[Value.int .i64 (x0.toNat : Int), Value.int .i64 (S : Int), Value.int .i64 (P : Int), Value.int .i64 (Q : Int)] 43)).cell? ⟨w6.heap.size, 2, none⟩ = some (.int .i64 (P : Int)) := hl9.cell 2
            have l3 : (wr.alloc (.cells #[Value.int .i64 (x0.toNat : Int), Value.int .i64 (S : Int), Value.int .i64 (P : Int), Value.int .i64 (Q : Int)] 43)).cell? ⟨w6.heap.size, 3, none⟩ = some (.int .i64 (Q : Int)) := hl9.cell 3
            clear hS hM3 t2 t3 h0 h1 h2 h3 h4 hR0 hP32 hQ32 hbr2 hl9
            go_wp2_with fail
            refine (num_any _ _).mono ?_
            rintro e wx ⟨rfl, rfl⟩
            go_wp2_with fail
            refine (hW.out _ HB2.out).mono ?_
            rintro e w9 ⟨rfl, hb'⟩
            have hb := HB2.out.trans (hb'.mono HB2.out.size)
            clear hb'
            go_wp2_with fail
            go_ret
            exact ⟨rfl, hb⟩
          · by_cases h : x0.toNat ≤ 4
            · have g0 : decide ((4 : Int) < (x0.toNat : Int)) = false := decide_eq_false (by omega)
              have g0n : ¬ 4 < x0.toNat := by omega
              have g0x := h
              clear h
              by_cases h : x1.toNat = 0
              · have g1n : x1.toNat = 0 := h
                clear h
                by_cases h : P ≤ 262144
                · have g2 : decide ((262144 : Int) < (P : Int)) = false := decide_eq_false (by omega)
                  have g2n : ¬ 262144 < P := by omega
                  have g2x := h
                  clear h
                  by_cases h : Q ≤ 65535
                  · have g3 : decide ((65535 : Int) < (Q : Int)) = false := decide_eq_false (by omega)
                    have g3n : ¬ 65535 < Q := by omega
                    have g3x := h
                    clear h
                    by_cases h : x12.toNat = 0
                    · have g12n : x12.toNat = 0 := h
                      clear h
                      by_cases h : x13.toNat = 0
                      · have g13n : x13.toNat = 0 := h
                        clear h
                        by_cases h : x14.toNat = 0
                        · have g14n : x14.toNat = 0 := h
                          clear h
                          by_cases h : x15.toNat = 0
                          · have g15n : x15.toNat = 0 := h
                            clear h
                            exact absurd ⟨g0x, UInt8.toNat_inj.1 (g1n.trans rfl), g2x, g3x, by rw [hR0]; omega⟩ hgd
                          · have g15 : ((x15.toNat : Int) == 0) = false := beq_eq_false_iff_ne.2 (by omega)
                            have g15n : ¬ x15.toNat = 0 := h
                            clear h hgd
                            go_wp2_with fail
                            refine (num_any _ _).mono ?_
                            rintro e wx ⟨rfl, rfl⟩
                            go_wp2_with fail
                            refine (hW.out _ hbr).mono ?_
                            rintro e w9 ⟨rfl, hb'⟩
                            have hb := (hbr).trans (hb'.mono (hbr).size)
                            clear hb'
                            go_wp2_with fail
                            go_ret
                            exact ⟨rfl, hb⟩
                        · have g14 : ((x14.toNat : Int) == 0) = false := beq_eq_false_iff_ne.2 (by omega)
                          have g14n : ¬ x14.toNat = 0 := h
                          clear h hgd
                          go_wp2_with fail
                          refine (num_any _ _).mono ?_
                          rintro e wx ⟨rfl, rfl⟩
                          go_wp2_with fail
                          refine (hW.out _ hbr).mono ?_
                          rintro e w9 ⟨rfl, hb'⟩
                          have hb := (hbr).trans (hb'.mono (hbr).size)
                          clear hb'
                          go_wp2_with fail
                          go_ret
                          exact ⟨rfl, hb⟩
                      · have g13 : ((x13.toNat : Int) == 0) = false := beq_eq_false_iff_ne.2 (by omega)
                        have g13n : ¬ x13.toNat = 0 := h
                        clear h hgd
                        go_wp2_with fail
                        refine (num_any _ _).mono ?_
                        rintro e wx ⟨rfl, rfl⟩
                        go_wp2_with fail
                        refine (hW.out _ hbr).mono ?_
                        rintro e w9 ⟨rfl, hb'⟩
                        have hb := (hbr).trans (hb'.mono (hbr).size)
                        clear hb'
                        go_wp2_with fail
                        go_ret
                        exact ⟨rfl, hb⟩
                    · have g12 : ((x12.toNat : Int) == 0) = false := beq_eq_false_iff_ne.2 (by omega)
                      have g12n : ¬ x12.toNat = 0 := h
                      clear h hgd
                      go_wp2_with fail
                      refine (num_any _ _).mono ?_
                      rintro e wx ⟨rfl, rfl⟩
                      go_wp2_with fail
                      refine (hW.out _ hbr).mono ?_
                      rintro e w9 ⟨rfl, hb'⟩
                      have hb := (hbr).trans (hb'.mono (hbr).size)
                      clear hb'
                      go_wp2_with fail
                      go_ret
                      exact ⟨rfl, hb⟩
                  · have g3 : decide ((65535 : Int) < (Q : Int)) = true := decide_eq_true (by omega)
                    have g3n : 65535 < Q := by omega
                    clear h hgd
                    go_wp2_with fail
                    refine (num_any _ _).mono ?_
                    rintro e wx ⟨rfl, rfl⟩
                    go_wp2_with fail
                    refine (hW.out _ hbr).mono ?_
                    rintro e w9 ⟨rfl, hb'⟩
                    have hb := (hbr).trans (hb'.mono (hbr).size)
                    clear hb'
                    go_wp2_with fail
                    go_ret
                    exact ⟨rfl, hb⟩
                · have g2 : decide ((262144 : Int) < (P : Int)) = true := decide_eq_true (by omega)
                  have g2n : 262144 < P := by omega
                  clear h hgd
                  go_wp2_with fail
                  refine (num_any _ _).mono ?_
                  rintro e wx ⟨rfl, rfl⟩
                  go_wp2_with fail
                  refine (hW.out _ hbr).mono ?_
                  rintro e w9 ⟨rfl, hb'⟩
                  have hb := (hbr).trans (hb'.mono (hbr).size)
                  clear hb'
                  go_wp2_with fail
                  go_ret
                  exact ⟨rfl, hb⟩
              · have g1 : ((x1.toNat : Int) == 0) = false := beq_eq_false_iff_ne.2 (by omega)
                have g1n : ¬ x1.toNat = 0 := h
                clear h hgd
                go_wp2_with fail
                refine (num_any _ _).mono ?_
                rintro e wx ⟨rfl, rfl⟩
                go_wp2_with fail
                refine (hW.out _ hbr).mono ?_
                rintro e w9 ⟨rfl, hb'⟩
                have hb := (hbr).trans (hb'.mono (hbr).size)
                clear hb'
                go_wp2_with fail
                go_ret
                exact ⟨rfl, hb⟩
            · have g0 : decide ((4 : Int) < (x0.toNat : Int)) = true := decide_eq_true (by omega)
              have g0n : 4 < x0.toNat := by omega
              clear h hgd
              go_wp2_with fail
              refine (num_any _ _).mono ?_
              rintro e wx ⟨rfl, rfl⟩
              go_wp2_with fail
              refine (hW.out _ hbr).mono ?_
              rintro e w9 ⟨rfl, hb'⟩
              have hb := (hbr).trans (hb'.mono (hbr).size)
              clear hb'
              go_wp2_with fail
              go_ret
              exact ⟨rfl, hb⟩
        · have d0 : decide ((0 : Int) ≤ (j : Int)) = true := decide_eq_true (by omega)
          obtain ⟨b0, hb0⟩ : ∃ b : Nat, b = (L[j]'(by omega)).toNat := ⟨_, rfl⟩
          obtain ⟨b1, hb1⟩ : ∃ b : Nat, b = (M[j]'(by omega)).toNat := ⟨_, rfl⟩
          have hbl0 : b0 < 256 := by rw [hb0]; exact (L[j]'(by omega)).toNat_lt
          have hbl1 : b1 < 256 := by rw [hb1]; exact (M[j]'(by omega)).toNat_lt
          have hA := leN_drop (l := L) (j := j) (by omega)
          have hB := leN_drop (l := M) (j := j) (by omega)
          have hA4 := leN_bound hL4 j
          have hB4 := leN_bound hM4 j
          have hR := HR.out
          obtain ⟨A, hAe⟩ : ∃ A, A = leN (L.drop (j + 1)) := ⟨_, rfl⟩
          obtain ⟨B, hBe⟩ : ∃ B, B = leN (M.drop (j + 1)) := ⟨_, rfl⟩
          obtain ⟨A', hAn⟩ : ∃ A, A = leN (L.drop j) := ⟨_, rfl⟩
          obtain ⟨B', hBn⟩ : ∃ B, B = leN (M.drop j) := ⟨_, rfl⟩
          rw [← hAe, ← hAn, ← hb0] at hA
          rw [← hBe, ← hBn, ← hb1] at hB
          rw [← hAn] at hA4
          rw [← hBn] at hB4
          rw [← hAe, ← hBe] at hR
          obtain ⟨ci0, ci1⟩ := HCI.out j hj
          rw [← hb0] at ci0
          rw [← hb1] at ci1
          have hq9 : Row wr w.heap.size 67 (byt [x0, x1, x2, x3, x4, x5, x6, x7, x8, x9, x10, x11, x12, x13, x14, x15]) := HK.out.row hq8 (fun e => by omega)
          have HAN := Lib.hid hAn
          have HBN := Lib.hid hBn
          have u1 : IntKind.u64.wrap (256 * (A : Int)) = ((256 * A : Nat) : Int) := (wrapN (256 * A) (by omega)) ▸ by rw [Int.natCast_mul]; rfl
          have u2 : IntKind.u64.wrap (256 * (B : Int)) = ((256 * B : Nat) : Int) := (wrapN (256 * B) (by omega)) ▸ by rw [Int.natCast_mul]; rfl
          have u3 : IntKind.u64.wrap ((b0 : Int)) = (b0 : Int) := wrapN b0 (by omega)
          have u4 : IntKind.u64.wrap ((b1 : Int)) = (b1 : Int) := wrapN b1 (by omega)
          have u5 : IntKind.u64.wrap (((256 * A : Nat) : Int) + (b0 : Int)) = (A' : Int) := by rw [← Int.natCast_add, wrapN _ (by omega)]; omega
          have u6 : IntKind.u64.wrap (((256 * B : Nat) : Int) + (b1 : Int)) = (B' : Int) := by rw [← Int.natCast_add, wrapN _ (by omega)]; omega
          have v1 : IntKind.i64.wrap (4 + (j : Int)) = ((4 + j : Nat) : Int) := (wrapI _ (by omega) (by omega)).trans (by omega)
          have v2 : IntKind.i64.wrap (8 + (j : Int)) = ((8 + j : Nat) : Int) := (wrapI _ (by omega) (by omega)).trans (by omega)
          obtain ⟨Y0, hY0⟩ : ∃ y, y = 4 + j := ⟨_, rfl⟩
          obtain ⟨Y1, hY1⟩ : ∃ y, y = 8 + j := ⟨_, rfl⟩
          have y0 : (0 : Int) ≤ (Y0 : Int) ∧ (Y0 : Int) < 16 ∧ Y0 < 16 := by omega
          have y1 : (0 : Int) ≤ (Y1 : Int) ∧ (Y1 : Int) < 16 ∧ Y1 < 16 := by omega
          obtain ⟨y01, y02, y03⟩ := y0
          obtain ⟨y11, y12, y13⟩ := y1
          rw [← hY0] at v1 ci0
          rw [← hY1] at v2 ci1
          obtain ⟨q0, hq0⟩ : ∃ q, q = 256 * A := ⟨_, rfl⟩
          obtain ⟨q1, hq1⟩ : ∃ q, q = 256 * B := ⟨_, rfl⟩
          rw [← hq0] at u1 u5
          rw [← hq1] at u2 u6
          have k0 : wr.drew.cell? ⟨w.heap.size, Y0, none⟩ = some (.int .u8 (b0 : Int)) := (hq9.cell Y0).trans ci0
          have a0 : wr.cell? ⟨w6.heap.size + 1, 0, none⟩ = some (.int .u64 (A : Int)) := hR.cell 0
          have a1 : wr.cell? ⟨w6.heap.size + 1, 1, none⟩ = some (.int .u64 (B : Int)) := hR.cell 1
          have f0 := hR.frozen 0
          have hR1 := hR.set 0 (.int .u64 (A' : Int))
          have hne : w.heap.size ≠ w6.heap.size + 1 := by omega
          have k0' : (wr.setCell ⟨w6.heap.size + 1, 0, none⟩ (.int .u64 (A' : Int))).drew.cell? ⟨w.heap.size, Y0, none⟩ = some (.int .u8 (b0 : Int)) := (World.cell?_of_block (heap_set hne)).trans k0
          have k1 : (wr.setCell ⟨w6.heap.size + 1, 0, none⟩ (.int .u64 (A' : Int))).drew.drew.cell? ⟨w.heap.size, Y1, none⟩ = some (.int .u8 (b1 : Int)) := (World.cell?_of_block (heap_set hne)).trans ((hq9.cell Y1).trans ci1)
          have k1x : (wr.setCell ⟨w6.heap.size + 1, 0, none⟩ (.int .u64 (A' : Int))).cell? ⟨w.heap.size, Y1, none⟩ = some (.int .u8 (b1 : Int)) := k1
          have a1' : (wr.setCell ⟨w6.heap.size + 1, 0, none⟩ (.int .u64 (A' : Int))).cell? ⟨w6.heap.size + 1, 1, none⟩ = some (.int .u64 (B : Int)) := hR1.cell 1
          have f1' := hR1.frozen 1
          have k1' : ((wr.setCell ⟨w6.heap.size + 1, 0, none⟩ (.int .u64 (A' : Int))).setCell ⟨w6.heap.size + 1, 1, none⟩ (.int .u64 (B' : Int))).cell? ⟨w.heap.size, Y1, none⟩ = some (.int .u8 (b1 : Int)) := (World.cell?_of_block (heap_set hne)).trans k1x
          have HR2 := Lib.hid (hR1.set 1 (.int .u64 (B' : Int)))
          have HK2 := Lib.hid ((HK.out.set (b := w6.heap.size + 1) (o := 0) (.int .u64 (A' : Int)) (.inl rfl)).set (b := w6.heap.size + 1) (o := 1) (.int .u64 (B' : Int)) (.inl rfl))
          clear hR hR1 hne hq9
          clear hq0 hq1 hY0 hY1 hA hB hA4 hB4 hAe hBe hAn hBn hb0 hb1 hbl0 hbl1 ci0 ci1
          go_wp2_with fail
          refine wp_region_noPanic ?_
          refine wp_region_held_drew (S := fun W => W.cell? ⟨w.heap.size, Y0, none⟩ = some (.int .u8 (b0 : Int))) (by kernel_rfl) k0 (fun hHeld => ?_)
          refine wpAnyH_take (i := 0) (v := ?_) rfl (by kernel_rfl) (by kernel_rfl) (by kernel_rfl) (fun _ _ _ h => h) (Or.inl ⟨by kernel_rfl, ?_⟩) hHeld ?_
          rotate_left
          focus (intro w hSw; (try dsimp only at hSw); go_simp; try with_reducible rfl)
          simp only [Act.put]
          refine wpAnyH_take (i := 3) (v := ?_) rfl (by kernel_rfl) (by kernel_rfl) (by kernel_rfl) (fun _ _ _ h => h) (Or.inl ⟨by kernel_rfl, ?_⟩) hHeld ?_
          rotate_left
          focus (intro w hSw; (try dsimp only at hSw); go_simp; try with_reducible rfl)
          simp only [Act.put]
          refine wpAnyH_take (i := 4) (v := ?_) rfl (by kernel_rfl) (by kernel_rfl) (by kernel_rfl) (fun _ _ _ h => h) (Or.inl ⟨by kernel_rfl, ?_⟩) hHeld ?_
          rotate_left
          focus (intro w hSw; (try dsimp only at hSw); go_simp; try with_reducible rfl)
          simp only [Act.put]
          refine wpAnyH_take (i := 5) (v := ?_) rfl (by kernel_rfl) (by kernel_rfl) (by kernel_rfl) (fun _ _ _ h => h) (Or.inl ⟨by kernel_rfl, ?_⟩) hHeld ?_
          rotate_left
          focus (intro w hSw; (try dsimp only at hSw); go_simp; try with_reducible rfl)
          simp only [Act.put]
          refine wpAnyH_take (i := 6) (v := ?_) rfl (by kernel_rfl) (by kernel_rfl) (by kernel_rfl) (fun _ _ _ h => h) (Or.inl ⟨by kernel_rfl, ?_⟩) hHeld ?_
          rotate_left
          focus (intro w hSw; (try dsimp only at hSw); go_simp; try with_reducible rfl)
          simp only [Act.put]
          refine wpAnyH_take (i := 7) (v := ?_) rfl (by kernel_rfl) (by kernel_rfl) (by kernel_rfl) (fun _ _ _ h => h) (Or.inl ⟨by kernel_rfl, ?_⟩) hHeld ?_
          rotate_left
          focus (intro w hSw; (try dsimp only at hSw); go_simp; try with_reducible rfl)
          simp only [Act.put]
          refine wpAnyH_ready (rs := [1]) (by kernel_rfl) (by simp) ?_
          refine AllReadyH.cons rfl (fun K hK => ?_) (AllReadyH.nil)
          go_simp
          refine hK.out _ _ k0 (fun hHeld => ?_)
          clear hK K
          try simp only [Act.put]
          refine wpAnyH_take (i := 2) (v := ?_) rfl (by kernel_rfl) (by kernel_rfl) (by kernel_rfl) (fun _ _ _ h => h) (Or.inl ⟨by kernel_rfl, ?_⟩) hHeld ?_
          rotate_left
          focus (intro w hSw; (try dsimp only at hSw); go_simp; try with_reducible rfl)
          simp only [Act.put]
          refine wpAnyH_take (i := 8) (v := ?_) rfl (by kernel_rfl) (by kernel_rfl) (by kernel_rfl) (fun _ _ _ h => h) (Or.inl ⟨by kernel_rfl, ?_⟩) hHeld ?_
          rotate_left
          focus (intro w hSw; (try dsimp only at hSw); go_simp; try with_reducible rfl)
          simp only [Act.put]
          refine wpAnyH_take (i := 9) (v := ?_) rfl (by kernel_rfl) (by kernel_rfl) (by kernel_rfl) (fun _ _ _ h => h) (Or.inl ⟨by kernel_rfl, ?_⟩) hHeld ?_
          rotate_left
          focus (intro w hSw; (try dsimp only at hSw); go_simp; try with_reducible rfl)
          simp only [Act.put]
          refine wpAnyH_ready (rs := [10]) (by kernel_rfl) (by simp) ?_
          refine AllReadyH.cons rfl (fun K hK => ?_) (AllReadyH.nil)
          go_simp
          refine hK.out _ _ k0' (fun hHeld => ?_)
          clear hK K
          try simp only [Act.put]
          refine wpAnyH_done (by kernel_rfl) (NoPanic.normal ?_) _
          go_wp2_with fail
          refine wp_region_noPanic ?_
          refine wp_region_held_drew (S := fun W => W.cell? ⟨w.heap.size, Y1, none⟩ = some (.int .u8 (b1 : Int))) (by kernel_rfl) k1 (fun hHeld => ?_)
          refine wpAnyH_take (i := 0) (v := ?_) rfl (by kernel_rfl) (by kernel_rfl) (by kernel_rfl) (fun _ _ _ h => h) (Or.inl ⟨by kernel_rfl, ?_⟩) hHeld ?_
          rotate_left
          focus (intro w hSw; (try dsimp only at hSw); go_simp; try with_reducible rfl)
          simp only [Act.put]
          refine wpAnyH_take (i := 3) (v := ?_) rfl (by kernel_rfl) (by kernel_rfl) (by kernel_rfl) (fun _ _ _ h => h) (Or.inl ⟨by kernel_rfl, ?_⟩) hHeld ?_
          rotate_left
          focus (intro w hSw; (try dsimp only at hSw); go_simp; try with_reducible rfl)
          simp only [Act.put]
          refine wpAnyH_take (i := 4) (v := ?_) rfl (by kernel_rfl) (by kernel_rfl) (by kernel_rfl) (fun _ _ _ h => h) (Or.inl ⟨by kernel_rfl, ?_⟩) hHeld ?_
          rotate_left
          focus (intro w hSw; (try dsimp only at hSw); go_simp; try with_reducible rfl)
          simp only [Act.put]
          refine wpAnyH_take (i := 5) (v := ?_) rfl (by kernel_rfl) (by kernel_rfl) (by kernel_rfl) (fun _ _ _ h => h) (Or.inl ⟨by kernel_rfl, ?_⟩) hHeld ?_
          rotate_left
          focus (intro w hSw; (try dsimp only at hSw); go_simp; try with_reducible rfl)
          simp only [Act.put]
          refine wpAnyH_take (i := 6) (v := ?_) rfl (by kernel_rfl) (by kernel_rfl) (by kernel_rfl) (fun _ _ _ h => h) (Or.inl ⟨by kernel_rfl, ?_⟩) hHeld ?_
          rotate_left
          focus (intro w hSw; (try dsimp only at hSw); go_simp; try with_reducible rfl)
          simp only [Act.put]
          refine wpAnyH_take (i := 7) (v := ?_) rfl (by kernel_rfl) (by kernel_rfl) (by kernel_rfl) (fun _ _ _ h => h) (Or.inl ⟨by kernel_rfl, ?_⟩) hHeld ?_
          rotate_left
          focus (intro w hSw; (try dsimp only at hSw); go_simp; try with_reducible rfl)
          simp only [Act.put]
          refine wpAnyH_ready (rs := [1]) (by kernel_rfl) (by simp) ?_
          refine AllReadyH.cons rfl (fun K hK => ?_) (AllReadyH.nil)
          go_simp
          refine hK.out _ _ k1 (fun hHeld => ?_)
          clear hK K
          try simp only [Act.put]
          refine wpAnyH_take (i := 2) (v := ?_) rfl (by kernel_rfl) (by kernel_rfl) (by kernel_rfl) (fun _ _ _ h => h) (Or.inl ⟨by kernel_rfl, ?_⟩) hHeld ?_
          rotate_left
          focus (intro w hSw; (try dsimp only at hSw); go_simp; try with_reducible rfl)
          simp only [Act.put]
          refine wpAnyH_take (i := 8) (v := ?_) rfl (by kernel_rfl) (by kernel_rfl) (by kernel_rfl) (fun _ _ _ h => h) (Or.inl ⟨by kernel_rfl, ?_⟩) hHeld ?_
          rotate_left
          focus (intro w hSw; (try dsimp only at hSw); go_simp; try with_reducible rfl)
          simp only [Act.put]
          refine wpAnyH_take (i := 9) (v := ?_) rfl (by kernel_rfl) (by kernel_rfl) (by kernel_rfl) (fun _ _ _ h => h) (Or.inl ⟨by kernel_rfl, ?_⟩) hHeld ?_
          rotate_left
          focus (intro w hSw; (try dsimp only at hSw); go_simp; try with_reducible rfl)
          simp only [Act.put]
          refine wpAnyH_ready (rs := [10]) (by kernel_rfl) (by simp) ?_
          refine AllReadyH.cons rfl (fun K hK => ?_) (AllReadyH.nil)
          go_simp
          refine hK.out _ _ k1' (fun hHeld => ?_)
          clear hK K
          try simp only [Act.put]
          refine wpAnyH_done (by kernel_rfl) (NoPanic.normal ?_) _
          by_cases hj0 : j = 0
          · subst hj0
            have hz := HAN.out
            have hz2 := HBN.out
            rw [List.drop_zero] at hz hz2
            have HR3 := Lib.hid (show Row (((wr.setCell ⟨w6.heap.size + 1, 0, none⟩ (.int .u64 (A' : Int))).setCell ⟨w6.heap.size + 1, 1, none⟩ (.int .u64 (B' : Int))).drew.drew) (w6.heap.size + 1) 71 [.int .u64 (leN L : Int), .int .u64 (leN M : Int)] from by rw [← hz, ← hz2]; exact HR2.out)
            clear hz hz2
            go_wp2_with fail
            go_roundw
            case rel => exact ⟨Lib.hid (keep_drew (keep_drew HK2.out)), .inl ⟨by first | rfl | go_num, HR3⟩⟩
            case measure => simp [_root_.Go.RowKit.intOf]
          · obtain ⟨j', rfl⟩ : ∃ j', j = j' + 1 := ⟨j - 1, by omega⟩
            have e1 : IntKind.i64.wrap (((j' + 1 : Nat) : Int) - 1) = (j' : Int) := (wrapI _ (by omega) (by omega)).trans (by omega)
            have HR3 := Lib.hid (show Row (((wr.setCell ⟨w6.heap.size + 1, 0, none⟩ (.int .u64 (A' : Int))).setCell ⟨w6.heap.size + 1, 1, none⟩ (.int .u64 (B' : Int))).drew.drew) (w6.heap.size + 1) 71 [.int .u64 (leN (L.drop (j' + 1)) : Int), .int .u64 (leN (M.drop (j' + 1)) : Int)] from by rw [← HAN.out, ← HBN.out]; exact HR2.out)
            go_wp2_with fail
            go_roundw
            case rel => exact ⟨Lib.hid (keep_drew (keep_drew HK2.out)), .inr ⟨j', by omega, by first | rfl | go_num, HR3⟩⟩
            case measure => simp [_root_.Go.RowKit.intOf]; omega
end
end Go.Proofs.YtiahmccchpmdgaaGreatDoor.Me

namespace Go.Proofs.YtiahmccchpmdgaaGreatDoor.Me
open Go.RowKit Go.Shelf
attribute [local go_sem] Oper.semAt_some

/- WHAT IS PUT IS GOT, WHATEVER IS PUT ELSEWHERE, PLAINLY; A LAW's STATE: A MEMORY, BESIDE BLOCKS OF ITS OWN. -/
theorem ofNat_toNat (n : Nat) : (UInt8.ofNat n).toNat = n % 256 := by simp [UInt8.toNat_ofNat']
theorem rec_back (f : Byts) (o st sz no : Nat) (h1 : st ≤ 4) (h2 : sz ≤ 65535) (h3 : no < 4294967296) : recAt (putB f o (recB st sz no)) o = some (st, sz, no) := by
  have := rec_in f o (UInt8.ofNat st) 0 (UInt8.ofNat sz) (UInt8.ofNat (sz / 256)) (UInt8.ofNat no) (UInt8.ofNat (no / 256)) (UInt8.ofNat (no / 65536)) (UInt8.ofNat (no / 65536 / 256))
  simp only [ofNat_toNat] at this
  rw [if_pos ⟨by omega, by first | trivial | rfl⟩] at this
  have e : recB st sz no = [UInt8.ofNat st, 0, UInt8.ofNat sz, UInt8.ofNat (sz / 256), UInt8.ofNat no, UInt8.ofNat (no / 256), UInt8.ofNat (no / 65536), UInt8.ofNat (no / 65536 / 256)] := rfl
  rw [e, this]
  congr 1
  refine Prod.ext (by simp only; omega) (Prod.ext (by simp only; omega) (by simp only; omega))
theorem great_back (f : Byts) (o st pg sz fi : Nat) (h1 : st ≤ 4) (h2 : pg ≤ 65535) (h3 : sz ≤ 262144) (h4 : fi ≤ 65535) : greatAt (putB f o (greatB st pg sz fi)) o = some (st, pg, sz, fi) := by
  have := great_in f o (UInt8.ofNat st) 0 (UInt8.ofNat pg) (UInt8.ofNat (pg / 256)) (UInt8.ofNat sz) (UInt8.ofNat (sz / 256)) (UInt8.ofNat (sz / 65536)) (UInt8.ofNat (sz / 65536 / 256)) (UInt8.ofNat fi) (UInt8.ofNat (fi / 256)) (UInt8.ofNat (fi / 65536)) (UInt8.ofNat (fi / 65536 / 256)) (UInt8.ofNat 0) (UInt8.ofNat (0 / 256)) (UInt8.ofNat (0 / 65536)) (UInt8.ofNat (0 / 65536 / 256))
  simp only [ofNat_toNat] at this
  rw [if_pos ⟨by omega, by first | trivial | rfl, by first | trivial | omega, by first | trivial | omega, by first | trivial | omega | rfl⟩] at this
  have e : greatB st pg sz fi = [UInt8.ofNat st, 0, UInt8.ofNat pg, UInt8.ofNat (pg / 256), UInt8.ofNat sz, UInt8.ofNat (sz / 256), UInt8.ofNat (sz / 65536), UInt8.ofNat (sz / 65536 / 256), UInt8.ofNat fi, UInt8.ofNat (fi / 256), UInt8.ofNat (fi / 65536), UInt8.ofNat (fi / 65536 / 256), UInt8.ofNat 0, UInt8.ofNat (0 / 256), UInt8.ofNat (0 / 65536), UInt8.ofNat (0 / 65536 / 256)] := rfl
  rw [e, this]
  congr 1
  refine Prod.ext (by simp only; omega) (Prod.ext (by simp only; omega) (Prod.ext (by simp only; omega) (by simp only; omega)))
theorem recB_len (st sz no : Nat) : (recB st sz no).length = 8 := rfl
theorem greatB_len (st pg sz fi : Nat) : (greatB st pg sz fi).length = 16 := rfl
theorem rec_out (f : Byts) (o o' : Nat) (bs : List UInt8) (h : o + 8 ≤ o' ∨ o' + bs.length ≤ o) : recAt (putB f o' bs) o = recAt f o := by
  unfold recAt le4 le2
  have hk : ∀ k, k < 8 → putB f o' bs (o + k) = f (o + k) := fun k hk => putB_out f o' bs _ (by omega)
  have h0 := hk 0 (by omega)
  simp only [Nat.add_zero] at h0
  simp only [Nat.add_assoc, Nat.reduceAdd]
  rw [h0, hk 1 (by omega), hk 2 (by omega), hk 3 (by omega), hk 4 (by omega), hk 5 (by omega), hk 6 (by omega), hk 7 (by omega)]
theorem great_out (f : Byts) (o o' : Nat) (bs : List UInt8) (h : o + 16 ≤ o' ∨ o' + bs.length ≤ o) : greatAt (putB f o' bs) o = greatAt f o := by
  unfold greatAt le4 le2
  have hk : ∀ k, k < 16 → putB f o' bs (o + k) = f (o + k) := fun k hk => putB_out f o' bs _ (by omega)
  have h0 := hk 0 (by omega)
  simp only [Nat.add_zero] at h0
  simp only [Nat.add_assoc, Nat.reduceAdd]
  rw [h0, hk 1 (by omega), hk 2 (by omega), hk 3 (by omega), hk 4 (by omega), hk 5 (by omega), hk 6 (by omega), hk 7 (by omega), hk 8 (by omega), hk 9 (by omega), hk 10 (by omega), hk 11 (by omega), hk 12 (by omega), hk 13 (by omega), hk 14 (by omega), hk 15 (by omega)]
theorem rec_zero (o : Nat) : recAt zeroB o = some (0, 0, 0) := by
  unfold recAt le4 le2 zeroB
  rfl
theorem great_zero (o : Nat) : greatAt zeroB o = some (0, 0, 0, 0) := by
  unfold greatAt le4 le2 zeroB
  rfl
theorem rec_lt {c i : Nat} (hc : c < 8) (hi : i < cnt c) : recO c i + 8 ≤ 6144 := by
  have := (cnt_le hc).2.1
  unfold recO
  omega
theorem rec_apart {c i c' i' : Nat} (hc : c < 8) (hi : i < cnt c) (hc' : c' < 8) (hi' : i' < cnt c') (h : ¬ (c = c' ∧ i = i')) : recO c i + 8 ≤ recO c' i' ∨ recO c' i' + 8 ≤ recO c i := by
  have := (cnt_le hc).2.1
  have := (cnt_le hc').2.1
  unfold recO
  omega
abbrev Rw := Nat × TypeId × List Value
section
variable {T : World → Prop} {Has : HasT} (H : MBase T Has)
structure St (Has : HasT) (W0 : World) (v : Value) (B : Bks) (n : Nat) (L : List Rw) (V : World) : Prop where
  has : ∃ F, Has V v B n F ∧ (∀ k, F k → W0.heap.size ≤ k) ∧ ∀ x ∈ L, Row V x.1 x.2.1 x.2.2 ∧ ¬ F x.1
  low : Below W0.heap.size W0 V
variable {W0 V V' : World} {v : Value} {B B' : Bks} {n n' : Nat} {L : List Rw}
theorem St.row (h : St Has W0 v B n L V) (k : Nat) (x : Rw) (hx : L[k]? = some x) : Row V x.1 x.2.1 x.2.2 := by
  obtain ⟨F, _, _, h3⟩ := h.has
  exact (h3 x (List.mem_of_getElem? hx)).1
theorem St.tail {x : Rw} (h : St Has W0 v B n (x :: L) V) : St Has W0 v B n L V := by
  obtain ⟨F, h1, h2, h3⟩ := h.has
  exact ⟨⟨F, h1, h2, fun y hy => h3 y (List.mem_cons_of_mem _ hy)⟩, h.low⟩
include H
theorem St.t (h : St Has W0 v B n L V) (ht : T W0) : T V := H.tb ht h.low
theorem St.ptr (h : St Has W0 v B n L V) : ∃ ad, v = .pointer (some ad) := by
  obtain ⟨F, h1, _⟩ := h.has
  exact H.ptr h1
theorem St.below (h : St Has W0 v B n L V) (hb : Below V.heap.size V V') : St Has W0 v B n L V' := by
  obtain ⟨F, h1, h2, h3⟩ := h.has
  exact ⟨⟨F, H.keep h1 (fun k hk => hb.block _ (H.lt h1 k hk)), h2, fun x hx => ⟨(h3 x hx).1.below hb, (h3 x hx).2⟩⟩, below0 h.low hb⟩
theorem St.alloc (h : St Has W0 v B n L V) (t : TypeId) (cs : List Value) : St Has W0 v B n ((V.heap.size, t, cs) :: L) (V.alloc (.cells cs.toArray t)) := by
  obtain ⟨F, h1, h2, h3⟩ := (h.below H (below1 V (.cells cs.toArray t))).has
  obtain ⟨F0, g1, g2, g3⟩ := h.has
  refine ⟨⟨F0, H.keep g1 (fun k hk => Below.heap_alloc _ _ _ (H.lt g1 k hk)), g2, fun x hx => ?_⟩, below0 h.low (below1 _ _)⟩
  rcases List.mem_cons.1 hx with rfl | hx
  · exact ⟨Row.new V t cs, fun hf => by have := H.lt g1 _ hf; simp only at this; omega⟩
  · exact ⟨(g3 x hx).1.below (below1 _ _), (g3 x hx).2⟩
omit H in
theorem St.call (h : St Has W0 v B n L V) {f : Nat} {args : Array Value} {P : Ending → Prop} (hc : ∀ F, Has V v B n F → Calls Tryz.prog f args V fun e V' => P e ∧ Nx Has V v B' n' F V') : Calls Tryz.prog f args V fun e V' => P e ∧ St Has W0 v B' n' L V' := by
  obtain ⟨F, h1, h2, h3⟩ := h.has
  refine (hc F h1).mono fun e V' ⟨e1, F', g1, g2, g3⟩ => ⟨e1, ⟨F', g1, fun k hk => ?_, fun x hx => ⟨g2.row (h3 x hx).1 (h3 x hx).2, fun hf => ?_⟩⟩, h.low.trans (g2.below (fun k hk => h2 k hk) h.low.size)⟩
  · rcases g3 k hk with h | h'
    · exact h2 k h
    · exact Nat.le_trans h.low.size h'
  · rcases g3 _ hf with h' | h'
    · exact (h3 x hx).2 h'
    · have := (h3 x hx).1.lt
      omega
omit H in
theorem asks_zero {s c i : Int} (h : asksS s c i = 0) : ∃ s' c' i' : Nat, s = (s' : Int) ∧ c = (c' : Int) ∧ i = (i' : Int) ∧ okS s' c' i' := by
  rcases asks_cases s c i with ⟨_, h'⟩ | ⟨_, _, h'⟩ | ⟨_, _, _, h'⟩ | ⟨a, k, rfl, rfl, h1, h2, ⟨j, rfl, h3, _⟩ | ⟨_, h'⟩⟩
  · omega
  · omega
  · omega
  · exact ⟨a, k, j, rfl, rfl, rfl, h1, h2, h3⟩
  · omega
omit H in
theorem openE_some {B : Bks} {s : Nat} {f : Byts} (h : B s = some f) : openE B (s : Int) = 0 := by
  unfold openE
  rw [Int.toNat_natCast, h]
  rfl
theorem St.put (h : St Has W0 v B n L V) (ht : T W0) {s : Nat} {f : Byts} (hf : B s = some f) (c i st sz : Int) (no : Nat) (hno : no < 4294967296) :
    (∃ c' i' st' sz' : Nat, c = (c' : Int) ∧ i = (i' : Int) ∧ st = (st' : Int) ∧ sz = (sz' : Int) ∧ c' < 8 ∧ i' < cnt c' ∧ st' ≤ 4 ∧ sz' ≤ 65535 ∧ Calls Tryz.prog 23 #[v, spV (s : Int) c i, rcV st sz no] V fun e V' => e = .returned (.int .i64 0) ∧ St Has W0 v (upd B s (some (putB f (recO c' i') (recB st' sz' no)))) n L V') ∨
    (∃ E : Int, E ≠ 0 ∧ Calls Tryz.prog 23 #[v, spV (s : Int) c i, rcV st sz no] V fun e V' => e = .returned (.int .i64 E) ∧ St Has W0 v B n L V') := by
  by_cases ha : asksS (s : Int) c i = 0
  · obtain ⟨s', c', i', e1, rfl, rfl, hok⟩ := asks_zero ha
    obtain rfl : s = s' := by omega
    by_cases hr : rightR st sz
    · obtain ⟨r1, r2, r3, r4⟩ := hr
      obtain ⟨st', rfl⟩ : ∃ k : Nat, st = (k : Int) := ⟨st.toNat, by omega⟩
      obtain ⟨sz', rfl⟩ : ∃ k : Nat, sz = (k : Int) := ⟨sz.toNat, by omega⟩
      exact .inl ⟨c', i', st', sz', rfl, rfl, rfl, rfl, hok.2.1, hok.2.2, by omega, by omega, h.call (fun _ hF => H.putYes s c' i' st' sz' no (h.t H ht) hF hok (by omega) (by omega) hno hf)⟩
    · have hE : putE B (s : Int) (c' : Int) (i' : Int) st sz = 2 := by unfold putE; rw [if_pos (.inr hr)]
      refine .inr ⟨2, by decide, h.call (fun _ hF => ?_)⟩
      have := H.putNo (s : Int) (c' : Int) (i' : Int) st sz no (h.t H ht) hF hno (by rw [hE]; decide)
      rw [hE] at this
      exact this
  · have hE : putE B (s : Int) c i st sz ≠ 0 := by
      unfold putE
      by_cases h2 : asksS (s : Int) c i = 2 ∨ ¬ rightR st sz
      · rw [if_pos h2]; decide
      · rw [if_neg h2]
        unfold getE
        rw [if_pos ha]
        exact ha
    exact .inr ⟨_, hE, h.call (fun _ hF => H.putNo (s : Int) c i st sz no (h.t H ht) hF hno hE)⟩
theorem St.gput (h : St Has W0 v B n L V) (ht : T W0) {s : Nat} (hs : s < 4) {f : Byts} (hf : B s = some f) (i' : Nat) (hi : i' < 384) (st pg sz fi : Int) :
    (∃ st' pg' sz' fi' : Nat, st = (st' : Int) ∧ pg = (pg' : Int) ∧ sz = (sz' : Int) ∧ fi = (fi' : Int) ∧ st' ≤ 4 ∧ pg' ≤ 65535 ∧ sz' ≤ 262144 ∧ fi' ≤ 65535 ∧ Calls Tryz.prog 24 #[v, .int .i64 (s : Int), .int .i64 (i' : Int), gtV st pg sz fi] V fun e V' => e = .returned (.int .i64 0) ∧ St Has W0 v (upd B s (some (putB f (greatO i') (greatB st' pg' sz' fi')))) n L V') ∨
    (Calls Tryz.prog 24 #[v, .int .i64 (s : Int), .int .i64 (i' : Int), gtV st pg sz fi] V fun e V' => e = .returned (.int .i64 2) ∧ St Has W0 v B n L V') := by
  by_cases hr : rightG st pg sz fi
  · have hr0 := hr
    obtain ⟨r1, r2, r3, r4, r5, r6, r7, r8⟩ := hr
    obtain ⟨st', rfl⟩ : ∃ k : Nat, st = (k : Int) := ⟨st.toNat, by omega⟩
    obtain ⟨pg', rfl⟩ : ∃ k : Nat, pg = (k : Int) := ⟨pg.toNat, by omega⟩
    obtain ⟨sz', rfl⟩ : ∃ k : Nat, sz = (k : Int) := ⟨sz.toNat, by omega⟩
    obtain ⟨fi', rfl⟩ : ∃ k : Nat, fi = (k : Int) := ⟨fi.toNat, by omega⟩
    exact .inl ⟨st', pg', sz', fi', rfl, rfl, rfl, rfl, by omega, by omega, by omega, by omega, h.call (fun _ hF => H.gputYes s i' st' pg' sz' fi' (h.t H ht) hF hs hi hr0 hf)⟩
  · have hE : gputE B (s : Int) (i' : Int) st pg sz fi = 2 := by unfold gputE; rw [if_pos (.inr hr)]
    refine .inr (h.call (fun _ hF => ?_))
    have := H.gputNo (s : Int) (i' : Int) st pg sz fi (h.t H ht) hF (by rw [hE]; decide)
    rw [hE] at this
    exact this
theorem St.get (h : St Has W0 v B n L V) (ht : T W0) {s c i st sz no : Nat} {f : Byts} (hok : okS s c i) (hf : B s = some f) (hr : recAt f (recO c i) = some (st, sz, no)) : Calls Tryz.prog 21 #[v, spV (s : Int) (c : Int) (i : Int)] V fun e V' => e = .returned (.tuple #[rcV (st : Int) (sz : Int) no, .int .i64 0]) ∧ St Has W0 v B n L V' :=
  h.call (fun _ hF => H.getYes s c i (h.t H ht) hF hok hf hr)
theorem St.gget (h : St Has W0 v B n L V) (ht : T W0) {s i st pg sz fi : Nat} {f : Byts} (hs : s < 4) (hi : i < 384) (hf : B s = some f) (hr : greatAt f (greatO i) = some (st, pg, sz, fi)) : Calls Tryz.prog 22 #[v, .int .i64 (s : Int), .int .i64 (i : Int)] V fun e V' => e = .returned (.tuple #[gtV (st : Int) (pg : Int) (sz : Int) (fi : Int), .int .i64 0]) ∧ St Has W0 v B n L V' :=
  h.call (fun _ hF => H.ggetYes s i (h.t H ht) hF hs hi hf hr)
theorem St.open_ (h : St Has W0 v B n L V) (ht : T W0) {s : Nat} (hs : s < 4) (hf : B s = none) (hn : 48 ≤ n) : Calls Tryz.prog 18 #[v, .int .i64 (s : Int), .int .i64 63] V fun e V' => e = .returned (.int .i64 0) ∧ St Has W0 v (upd B s (some zeroB)) (n - 48) L V' :=
  h.call (fun _ hF => H.openYes s (h.t H ht) hF (by
    have hi : isB (s : Int) 4 = true := isB_yes (n := 4) hs
    rw [openA, if_neg (by rw [hi]; simp), if_neg (by rw [Int.toNat_natCast, hf]; simp), if_neg (by omega)]))
theorem St.load (h : St Has W0 v B n L V) (ht : T W0) {s o owner : Nat} {f : Byts} (hs : s < 4) (how : owner < 4) (hf : B s = some f) (ho : o < 48) : Calls Tryz.prog 25 #[v, .int .i64 (owner : Int), .int .u32 ((256 * (64 * s + 1 + o) : Nat) : Int), .int .i64 1] V fun e V' => (∃ x, e = .returned (.tuple #[x, .int .i64 190])) ∧ St Has W0 v B n L V' :=
  h.call (fun _ hF => (H.load s o owner (h.t H ht) hF hs how hf ho).mono fun _ _ ⟨x, e1, e2⟩ => ⟨⟨x, e1⟩, e2⟩)
theorem St.store (h : St Has W0 v B n L V) (ht : T W0) {s o owner : Nat} {f : Byts} (A : Option Addr) (ca : Nat) (hA : Sees V V.heap.size A (byt [1])) (hs : s < 4) (how : owner < 4) (hf : B s = some f) (ho : o < 48) : Calls Tryz.prog 26 #[v, .int .i64 (owner : Int), .int .u32 ((256 * (64 * s + 1 + o) : Nat) : Int), .slice A 1 ca] V fun e V' => e = .returned (.int .i64 190) ∧ St Has W0 v B n L V' :=
  h.call (fun _ hF => H.store s o owner A ca (h.t H ht) hF hs how hf ho hA)
end
end Go.Proofs.YtiahmccchpmdgaaGreatDoor.Me
