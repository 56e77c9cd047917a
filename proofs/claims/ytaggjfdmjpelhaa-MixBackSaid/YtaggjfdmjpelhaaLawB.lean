import Derived.Test.YtaggjfdmjpelhaaLawS
import Derived.Deep.RegionHeld3
namespace Go.Proofs.Ytaggjfdmjpelhaa
open Go.RowKit Go.Shelf
attribute [local go_sem] Oper.semAt_some

/- MIXBACK. -/

section
variable (key a b : Nat) (l k : List Nat) (A B : Option Addr) (c f : Nat) (w : World)

theorem mixBack_far (hfar : 20 < l.length ∨ 20 < k.length) :
    Calls Try.prog 7 #[.int .u64 (key : Int), .agg #[.int .u64 (a : Int), .int .u64 (b : Int)], .agg #[.slice A l.length c, .slice B k.length f]] w fun e w' => e = .returned (.bool true) ∧ Below w.heap.size w w' := by
  have hB2 := below2 w (.cells #[.int .u64 (a : Int), .int .u64 (b : Int)] 42) (.cells #[.slice A l.length c, .slice B k.length f] 43)
  by_cases h1 : 20 < l.length
  · have e1 : decide (20 < (l.length : Int)) = true := decide_eq_true (by omega)
    clear hfar h1
    go_enter Try.func7, Try.ntmps7
    go_wp2_with fail
    refine (works_any _).mono ?_
    rintro e w3 ⟨rfl, hb3⟩
    have hB3 := hB2.trans (hb3.mono hB2.size)
    go_wp2_with fail
    go_ret
    exact ⟨rfl, hB3⟩
  · have e1 : decide (20 < (l.length : Int)) = false := decide_eq_false (by omega)
    have e2 : decide (20 < (k.length : Int)) = true := decide_eq_true (by omega)
    clear hfar h1
    go_enter Try.func7, Try.ntmps7
    go_wp2_with fail
    refine (works_any _).mono ?_
    rintro e w3 ⟨rfl, hb3⟩
    have hB3 := hB2.trans (hb3.mono hB2.size)
    go_wp2_with fail
    go_ret
    exact ⟨rfl, hB3⟩

set_option maxRecDepth 100000 in
set_option maxHeartbeats 4000000 in
theorem mixBack_near (hkey : key < 18446744073709551616) (ha : a < 18446744073709551616) (hb : b < 18446744073709551616) (hl : Fit l) (hk : Fit k) (n m : Nat) (HN : Hid (l.length = n)) (HM : Hid (k.length = m)) (hn : n ≤ 20) (hm : m ≤ 20)
    (hA : Sees w w.heap.size A (wds l)) (hBs : Sees w w.heap.size B (wds k)) :
    Calls Try.prog 7 #[.int .u64 (key : Int), .agg #[.int .u64 (a : Int), .int .u64 (b : Int)], .agg #[.slice A n c, .slice B m f]] w fun e w' => e = .returned (.bool true) ∧ Below w.heap.size w w' := by
  obtain ⟨i0, hi, hz0, hz1, hz2⟩ := info_parts word_info
  -- the two boxes
  obtain ⟨w0, hw0⟩ : ∃ w0, w0 = (w.alloc (.cells #[.int .u64 (a : Int), .int .u64 (b : Int)] 42)).alloc (.cells #[.slice A n c, .slice B m f] 43) := ⟨_, rfl⟩
  have hB0 : Below w.heap.size w w0 := by rw [hw0]; exact below2 _ _ _
  have hz : w0.heap.size = w.heap.size + 2 := by rw [hw0]; simp
  have hr0 : Row w0 w.heap.size 42 [.int .u64 (a : Int), .int .u64 (b : Int)] := by rw [hw0]; exact (Row.new _ _ _).below (below1 _ _)
  have hr1 : Row w0 (w.heap.size + 1) 43 [.slice A n c, .slice B m f] := by rw [hw0]; exact Row.new_at _ _ _ (by simp)
  -- what is reckoned
  have hmix := Lib.hid (fun x W (hx : x < 18446744073709551616) => mix_any key x W hkey hx)
  have hun := Lib.hid (fun x W (hx : x < 18446744073709551616) => undo_any key x W hkey hx)
  have m1 := Lib.hid (fun W => hmix.out a W ha)
  have m2 := Lib.hid (fun W => hmix.out b W hb)
  have u1 := Lib.hid (fun W => hun.out _ W (mixN_lt (key := key) ha))
  have u2 := Lib.hid (fun W => hun.out a W ha)
  have m3 := Lib.hid (fun W => hmix.out _ W (undoN_lt (key := key) ha))
  rw [undo_mix ha] at u1
  rw [mix_undo ha] at m3
  have exy : ((mixN key a : Int) == (mixN key b : Int)) = ((a : Int) == (b : Int)) := by
    have h := mix_inj (key := key) ha hb
    by_cases hab : a = b
    · rw [hab]; simp
    · have h2 : ¬ mixN key a = mixN key b := fun e => hab (h.1 e)
      rw [beq_eq_false_iff_ne.2 (by omega), beq_eq_false_iff_ne.2 (by omega)]
  obtain ⟨x, hx⟩ : ∃ x, x = mixN key a := ⟨_, rfl⟩
  obtain ⟨y, hy⟩ : ∃ y, y = mixN key b := ⟨_, rfl⟩
  obtain ⟨z, hzz⟩ : ∃ z, z = undoN key a := ⟨_, rfl⟩
  rw [← hx] at m1 u1 exy
  rw [← hy] at m2 exy
  rw [← hzz] at u2 m3
  obtain ⟨qq, hq0⟩ : ∃ qq, qq = ((a : Int) == (b : Int)) := ⟨_, rfl⟩
  rw [← hq0] at exy
  have hqq := hq0.symm
  clear hq0
  have eqq : (qq != qq) = false := by simp
  have e1 : decide (20 < (n : Int)) = false := decide_eq_false (by omega)
  have e2 : decide (20 < (m : Int)) = false := decide_eq_false (by omega)
  have c0 : w0.cell? ⟨w.heap.size, 0, none⟩ = some (.int .u64 (a : Int)) := hr0.cell 0
  have c1 : w0.cell? ⟨w.heap.size, 1, none⟩ = some (.int .u64 (b : Int)) := hr0.cell 1
  have d0 : w0.cell? ⟨w.heap.size + 1, 0, none⟩ = some (.slice A n c) := hr1.cell 0
  have d1 : w0.cell? ⟨w.heap.size + 1, 1, none⟩ = some (.slice B m f) := hr1.cell 1
  clear hmix hun hx hy hzz
  go_enter Try.func7, Try.ntmps7
  go_wp2_with fail
  rw [← hw0]
  clear hw0
  go_quiet (fail)
  go_wp2_with fail
  refine (m1.out _).mono ?_
  rintro e w1 ⟨rfl, hb1⟩
  go_wp2_with fail
  refine (m2.out _).mono ?_
  rintro e w2 ⟨rfl, hb2⟩
  go_wp2_with fail
  refine (u1.out _).mono ?_
  rintro e w3 ⟨rfl, hb3⟩
  go_wp2_with fail
  refine (u2.out _).mono ?_
  rintro e w4 ⟨rfl, hb4⟩
  go_wp2_with fail
  refine (m3.out _).mono ?_
  rintro e w5 ⟨rfl, hb5⟩
  have hW5 : Below w0.heap.size w0 w5 := ((((below_drewN (Below.refl w0.heap.size w0) _).trans (hb1.mono (Nat.le_refl _))).trans (hb2.mono hb1.size)).trans (hb3.mono (Nat.le_trans hb1.size hb2.size))).trans ((hb4.trans (hb5.mono hb4.size)).mono (Nat.le_trans (Nat.le_trans hb1.size hb2.size) hb3.size))
  clear hb1 hb2 hb3 hb4 hb5 m1 m2 m3 u1 u2 c0 c1 d0 d1
  have hr5 := hr1.below hW5
  have hB5 := hB0.trans (hW5.mono hB0.size)
  have hA5 := hA.below hB5
  have hs5 := hW5.size
  have d0 : (w5.alloc (.cells #[] 23)).cell? ⟨w.heap.size + 1, 0, none⟩ = some (.slice A n c) := (World.cell?_alloc_lt _ _ _ (by simp; omega)).trans (hr5.cell 0)
  have hown5 : (w5.alloc (.cells #[] 23)).ownsRow w5.heap.size 23 1 (.slice (some ⟨w5.heap.size, 0, none⟩) 0 0) 0 [] := World.ownsRow_lit w5 #[] 0 (Nat.le_refl _) (Nat.zero_le _) rfl
  have hA6 := hA5.alloc hB5.size (.cells #[] 23)
  have hb6 : Below w5.heap.size w5 (w5.alloc (.cells #[] 23)) := below1 _ _
  have hll : (wds l).length = n * 1 := by rw [wds_len, HN.out]; omega
  go_wp2_with (first
    | (at_builtin; refine wpList_append_sees rfl (.tmp 57) (.tmp 59) 36 rfl w5.heap.size 23 i0 _ 1 8 Try.underlying36 hi hz0 hz1 hz2 rfl (by decide) _ _ _ rfl hown5 w.heap.size A n c (wds l) rfl hll hA6 wds_one (by unfold maxLen; omega) (by omega) (by simp) ?_; intro v1 w6 hown6 hg6 hv6)
    | (at_builtin; refine wpList_append_sees rfl (.tmp 60) (.tmp 62) 36 rfl w5.heap.size 23 i0 _ 1 8 Try.underlying36 hi hz0 hz1 hz2 rfl (by decide) _ _ _ rfl (hown6.alloc _) (w6.heap.size + 1) (some ⟨w6.heap.size, 0, none⟩) 1 1 [.int .u64 (a : Int)] rfl rfl (fun _ => ⟨_, rfl, by simp, cell_one_new _ _ _⟩) (by simp [Value.oneCell']) (by unfold maxLen; omega) (by omega) (by have := hg6.size; simp at this; simp; omega) ?_; intro v2 w7 hown7 hg7 hv7; obtain ⟨g, cap, rfl, hcap, hlt⟩ := hown7.form (by omega); have hcp := (own_cap hown7).1))
  have hs6 := hg6.size
  have hb7 := hb6.grown hg6 (by simp) (fun k hk => (hown5.lt k hk).1)
  have hb8 := (hb7.alloc hb7.size _).grown hg7 (by have := hb7.size; simp; omega) (fun k hk => (hown6.lt k hk).1)
  have hW7 : Below w0.heap.size w0 w7 := hW5.trans (hb8.mono hs5)
  have hS7 : Sees w7 w7.heap.size (some ⟨g, 0, none⟩) (wds (l ++ [a])) := by
    have h := Sees.of_own hown7
    rw [show wds (l ++ [a]) = wds l ++ [.int .u64 (a : Int)] by simp [wds]]
    simpa using h
  have hlen1 : (l ++ [a]).length = n + 1 := by rw [List.length_append, HN.out]; rfl
  have hla : Fit (l ++ [a]) := fun q hq => by
    rcases List.mem_append.1 hq with h | h
    · exact hl q h
    · rw [List.mem_singleton.1 h]; exact ha
  have hF := foldN_lt hl
  have hG : stepF (foldN l) a = foldN (l ++ [a]) := (foldN_one l a).symm
  have hxor := bits_xor_u64_nat (mixN a (foldN l)) a (mixN_lt hF) ha
  rw [show mixN a (foldN l) ^^^ a = foldN (l ++ [a]) from hG] at hxor
  have hB7 := hB0.trans (hW7.mono hB0.size)
  have k1 := Lib.hid (fun (W : World) (hb : Below w7.heap.size w7 W) => (show Calls Try.prog 18 #[.slice (some ⟨g, 0, none⟩) (n + 1) cap] W (fun e w' => e = .returned (.int .u64 (foldN (l ++ [a]) : Int)) ∧ Below w7.heap.size w7 w') from by
    have h := fold_any (l ++ [a]) (some ⟨g, 0, none⟩) cap W hla (by rw [hlen1]; omega) ((hS7.below hb).more hb.size)
    rw [hlen1] at h
    exact h.mono fun e w' ⟨h1, h2⟩ => ⟨h1, hb.trans (h2.mono hb.size)⟩))
  have k2 := Lib.hid (fun (W : World) (hb : Below w7.heap.size w7 W) => (show Calls Try.prog 18 #[.slice A n c] W (fun e w' => e = .returned (.int .u64 (foldN l : Int)) ∧ Below w7.heap.size w7 w') from by
    have h := fold_any l A c W hl (by rw [HN.out]; omega) ((hA.below (hB7.trans (hb.mono hB7.size))).more (Nat.le_trans hB7.size hb.size))
    rw [HN.out] at h
    exact h.mono fun e w' ⟨h1, h2⟩ => ⟨h1, hb.trans (h2.mono hb.size)⟩))
  have k3 := Lib.hid (fun (W : World) (hb : Below w7.heap.size w7 W) => (show Calls Try.prog 14 #[.int .u64 (a : Int), .int .u64 (foldN l : Int)] W (fun e w' => e = .returned (.int .u64 (mixN a (foldN l) : Int)) ∧ Below w7.heap.size w7 w') from
    (mix_any a (foldN l) W ha hF).mono fun e w' ⟨h1, h2⟩ => ⟨h1, hb.trans (h2.mono hb.size)⟩))
  obtain ⟨M0, hM0⟩ : ∃ M0, M0 = mixN a (foldN l) := ⟨_, rfl⟩
  obtain ⟨F0, hF0⟩ : ∃ F0, F0 = foldN l := ⟨_, rfl⟩
  obtain ⟨G0, hG0⟩ : ∃ G0, G0 = foldN (l ++ [a]) := ⟨_, rfl⟩
  rw [← hM0] at k3 hxor
  rw [← hF0] at k2 k3
  rw [← hG0] at k1 hxor
  have HF0 := Lib.hid hF0
  have HG0 := Lib.hid hG0
  have hr7 := hr1.below hW7
  have hw7 : w.heap.size + 2 ≤ w7.heap.size := by have := hW7.size; omega
  have HSA := Lib.hid (fun W (hb : Below w7.heap.size w7 W) => (show W.cell? ⟨w.heap.size + 1, 0, none⟩ = some (.slice A n c) ∧ W.cell? ⟨w.heap.size + 1, 1, none⟩ = some (.slice B m f) ∧ Below w7.heap.size w7 W from
    ⟨(hb.cell (p := ⟨w.heap.size + 1, 0, none⟩) (by simp; omega)).trans (hr7.cell 0), (hb.cell (p := ⟨w.heap.size + 1, 1, none⟩) (by simp; omega)).trans (hr7.cell 1), hb⟩))
  have hdr := Lib.hid (show Below w7.heap.size w7 w7.drew from (Below.refl _ _).drew)
  have HR := Lib.hid (show Row w7 (w.heap.size + 1) 43 [.slice A n c, .slice B m f] from hr7)
  have HB7 := Lib.hid hB7
  have HS7 := Lib.hid hS7
  clear hM0 hF0 hG0 hF hG hla hr7 hB7 hS7 hown5 hA6 hA5 hb6 hll hown6 hg6 hv6 hown7 hg7 hv7 hcap hlt hcp hs6 hb7 hb8 hr5 hB5 hW5 hs5 d0 hr0 hr1 exy eqq hqq hlen1
  go_region_held3 (fun W => W.cell? ⟨w.heap.size + 1, 0, none⟩ = some (.slice A n c) ∧ W.cell? ⟨w.heap.size + 1, 1, none⟩ = some (.slice B m f) ∧ Below w7.heap.size w7 W)
    (first | exact HSA.out _ hdr.out | (exact HSA.out _ (by assumption)) | (exact HSA.out _ (Below.drew (by assumption))) | (go_split_ands; exact HSA.out _ (by assumption)))
    (first | (go_at_call 18; refine (k1.out _ (by go_split_ands; assumption)).mono ?_; rintro e w8 ⟨rfl, hb8⟩) | (go_at_call 18; refine (k2.out _ (by go_split_ands; assumption)).mono ?_; rintro e w9 ⟨rfl, hb9⟩) | (go_at_call 14; refine (k3.out _ (by go_split_ands; assumption)).mono ?_; rintro e w10 ⟨rfl, hb10⟩))
  have hB10 : Below w.heap.size w w10 := HB7.out.trans (hb10.mono HB7.out.size)
  have hr10 := HR.out.below hb10
  have hS10 := (HS7.out.below hb10).more hb10.size
  have hs10 := hb10.size
  clear HSA hdr k1 k2 k3 HB7 HR HS7 hb8 hb9 hW7
  have hw10 : w.heap.size + 2 ≤ w10.heap.size := by omega
  have d1 : (w10.alloc (.cells #[] 23)).cell? ⟨w.heap.size + 1, 1, none⟩ = some (.slice B m f) := (World.cell?_alloc_lt _ _ _ (by simp; omega)).trans (hr10.cell 1)
  have hown5 : (w10.alloc (.cells #[] 23)).ownsRow w10.heap.size 23 1 (.slice (some ⟨w10.heap.size, 0, none⟩) 0 0) 0 [] := World.ownsRow_lit w10 #[] 0 (Nat.le_refl _) (Nat.zero_le _) rfl
  have hA6 := (hBs.below hB10).alloc hB10.size (.cells #[] 23)
  have hb6 : Below w10.heap.size w10 (w10.alloc (.cells #[] 23)) := below1 _ _
  have hll : (wds k).length = m * 1 := by rw [wds_len, HM.out]; omega
  clear hb10
  go_wp2_with (first
    | (at_builtin; refine wpList_append_sees rfl (.tmp 74) (.tmp 76) 36 rfl w10.heap.size 23 i0 _ 1 8 Try.underlying36 hi hz0 hz1 hz2 rfl (by decide) _ _ _ rfl hown5 w.heap.size B m f (wds k) rfl hll hA6 wds_one (by unfold maxLen; omega) (by omega) (by simp) ?_; intro v1 w11 hown6 hg6 hv6)
    | (at_builtin; refine wpList_append_sees rfl (.tmp 77) (.tmp 79) 36 rfl w10.heap.size 23 i0 _ 1 8 Try.underlying36 hi hz0 hz1 hz2 rfl (by decide) _ _ _ rfl (hown6.alloc _) (w11.heap.size + 1) (some ⟨w11.heap.size, 0, none⟩) 1 1 [.int .u64 (a : Int)] rfl rfl (fun _ => ⟨_, rfl, by simp, cell_one_new _ _ _⟩) (by simp [Value.oneCell']) (by unfold maxLen; omega) (by omega) (by have := hg6.size; simp at this; simp; omega) ?_; intro v2 w12 hown7 hg7 hv7; obtain ⟨g2, cap2, rfl, hcap, hlt⟩ := hown7.form (by omega); have hcp := (own_cap hown7).1))
  have hs6 := hg6.size
  have hb7 := hb6.grown hg6 (by simp) (fun k hk => (hown5.lt k hk).1)
  have hb8 := (hb7.alloc hb7.size _).grown hg7 (by have := hb7.size; simp; omega) (fun k hk => (hown6.lt k hk).1)
  have hS12 : Sees w12 w12.heap.size (some ⟨g2, 0, none⟩) (wds (k ++ [a])) := by
    have h := Sees.of_own hown7
    rw [show wds (k ++ [a]) = wds k ++ [.int .u64 (a : Int)] by simp [wds]]
    simpa using h
  have hS12b := (hS10.below hb8).more hb8.size
  have hr12 := hr10.below hb8
  have hB12 : Below w.heap.size w w12 := hB10.trans (hb8.mono hB10.size)
  have hw12 : w.heap.size + 2 ≤ w12.heap.size := by have := hb8.size; omega
  clear hown5 hA6 hb6 hll hown6 hg6 hv6 hown7 hg7 hv7 hcap hlt hcp hs6 hb7 hb8 d1 hS10 hr10 hB10
  have fitM : ∀ {l : List Nat}, Fit l → Fit (l ++ [a]) := fun {l} hl q hq => by
    rcases List.mem_append.1 hq with h | h
    · exact hl q h
    · rw [List.mem_singleton.1 h]; exact ha
  have foldW : ∀ (l : List Nat) (n : Nat) (A : Option Addr) (c : Nat), Fit l → l.length = n → n ≤ 21 → Sees w12 w12.heap.size A (wds l) → ∀ (W : World), Below w12.heap.size w12 W → Calls Try.prog 18 #[.slice A n c] W (fun e w' => e = .returned (.int .u64 (foldN l : Int)) ∧ Below w12.heap.size w12 w') := fun l n A c hl hn hm hs W hb => by
    have h := fold_any l A c W hl (by omega) ((hs.below hb).more hb.size)
    rw [hn] at h
    exact h.mono fun e w' ⟨h1, h2⟩ => ⟨h1, hb.trans (h2.mono hb.size)⟩
  have k1 := Lib.hid (foldW l n A c hl HN.out (by omega) ((hA.below hB12).more hB12.size))
  have k2 := Lib.hid (foldW k m B f hk HM.out (by omega) ((hBs.below hB12).more hB12.size))
  have k3 := Lib.hid (foldW (l ++ [a]) (n + 1) (some ⟨g, 0, none⟩) cap (fitM hl) (by rw [List.length_append, HN.out]; rfl) (by omega) hS12b)
  have k4 := Lib.hid (foldW (k ++ [a]) (m + 1) (some ⟨g2, 0, none⟩) cap2 (fitM hk) (by rw [List.length_append, HM.out]; rfl) (by omega) hS12)
  have k5 := Lib.hid (fun (W : World) (hb : Below w12.heap.size w12 W) => (show Calls Try.prog 13 #[] W (fun e w' => e = .returned (.bool true) ∧ Below w12.heap.size w12 w') from
    (works_any W).mono fun e w' ⟨h1, h2⟩ => ⟨h1, hb.trans (h2.mono hb.size)⟩))
  have efg : ((foldN (l ++ [a]) : Int) == (foldN (k ++ [a]) : Int)) = ((foldN l : Int) == (foldN k : Int)) := by
    have h := fold_more (x := a) hl hk
    by_cases hab : foldN l = foldN k
    · have h2 := h.2 hab
      rw [hab, h2]; simp
    · have h2 : ¬ foldN (l ++ [a]) = foldN (k ++ [a]) := fun e => hab (h.1 e)
      rw [beq_eq_false_iff_ne.2 (by omega), beq_eq_false_iff_ne.2 (by omega)]
  rw [← HF0.out] at k1 efg
  rw [← HG0.out] at k3 efg
  obtain ⟨F1, hF1⟩ : ∃ F1, F1 = foldN k := ⟨_, rfl⟩
  obtain ⟨G1, hG1⟩ : ∃ G1, G1 = foldN (k ++ [a]) := ⟨_, rfl⟩
  rw [← hF1] at k2 efg
  rw [← hG1] at k4 efg
  obtain ⟨q2, hq2⟩ : ∃ q2, q2 = ((F0 : Int) == (F1 : Int)) := ⟨_, rfl⟩
  rw [← hq2] at efg
  have eF := hq2.symm
  have eq2 : (q2 == q2) = true := by simp
  have HSA := Lib.hid (fun W (hb : Below w12.heap.size w12 W) => (show W.cell? ⟨w.heap.size + 1, 0, none⟩ = some (.slice A n c) ∧ W.cell? ⟨w.heap.size + 1, 1, none⟩ = some (.slice B m f) ∧ Below w12.heap.size w12 W from
    ⟨(hb.cell (p := ⟨w.heap.size + 1, 0, none⟩) (by simp; omega)).trans (hr12.cell 0), (hb.cell (p := ⟨w.heap.size + 1, 1, none⟩) (by simp; omega)).trans (hr12.cell 1), hb⟩))
  have hdr := Lib.hid (show Below w12.heap.size w12 w12.drew from (Below.refl _ _).drew)
  have HB12 := Lib.hid hB12
  clear foldW fitM hF1 hG1 hq2 hS12 hS12b hr12 hB12 HF0 HG0 hA hBs hl hk HN HM hxor hi hz0 hz1 hz2 hB0 hz hs10
  go_region_held3 (fun W => W.cell? ⟨w.heap.size + 1, 0, none⟩ = some (.slice A n c) ∧ W.cell? ⟨w.heap.size + 1, 1, none⟩ = some (.slice B m f) ∧ Below w12.heap.size w12 W)
    (first | exact HSA.out _ hdr.out | (exact HSA.out _ (by assumption)) | (exact HSA.out _ (Below.drew (by assumption))) | (go_split_ands; exact HSA.out _ (by assumption)))
    (first | (go_at_call 18; refine (k1.out _ (by go_split_ands; assumption)).mono ?_; rintro e w13 ⟨rfl, hb13⟩) | (go_at_call 18; refine (k2.out _ (by go_split_ands; assumption)).mono ?_; rintro e w14 ⟨rfl, hb14⟩) | (go_at_call 18; refine (k3.out _ (by go_split_ands; assumption)).mono ?_; rintro e w15 ⟨rfl, hb15⟩) | (go_at_call 18; refine (k4.out _ (by go_split_ands; assumption)).mono ?_; rintro e w16 ⟨rfl, hb16⟩) | (go_at_call 13; refine (k5.out _ (by go_split_ands; assumption)).mono ?_; rintro e w17 ⟨rfl, hb17⟩))
  have hfin := Lib.hid (HB12.out.trans (hb17.mono HB12.out.size))
  clear hb13 hb14 hb15 hb16 hb17 HSA hdr k1 k2 k3 k4 k5
  go_wp2_with fail
  go_ret
  exact ⟨rfl, hfin.out⟩

theorem mixBack_any (hkey : key < 18446744073709551616) (ha : a < 18446744073709551616) (hb : b < 18446744073709551616) (hl : Fit l) (hk : Fit k) (hA : Sees w w.heap.size A (wds l)) (hBs : Sees w w.heap.size B (wds k)) :
    Calls Try.prog 7 #[.int .u64 (key : Int), .agg #[.int .u64 (a : Int), .int .u64 (b : Int)], .agg #[.slice A l.length c, .slice B k.length f]] w fun e w' => e = .returned (.bool true) ∧ Below w.heap.size w w' := by
  by_cases h : 20 < l.length ∨ 20 < k.length
  · exact mixBack_far key a b l k A B c f w h
  · exact mixBack_near key a b l k A B c f w hkey ha hb hl hk _ _ rfl rfl (by omega) (by omega) hA hBs
end
end Go.Proofs.Ytaggjfdmjpelhaa
