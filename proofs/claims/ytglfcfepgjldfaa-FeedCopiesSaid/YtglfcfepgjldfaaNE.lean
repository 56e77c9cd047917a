import Derived.Test.YtglfcfepgjldfaaND
namespace Go.Proofs.Ytglfcfepgjldfaa.Fe
open Go.RowKit Go.Shelf
attribute [local go_sem] Oper.semAt_some

/- DRAW, TAKE, SEEK, AT, LEFT, COPY, SAME. -/
section
variable {w : World} {v : Value} {l : List UInt8} {p : Nat} {F : Nat → Prop}
theorem fdraw (h : HasF w v l p F) : Calls Try.prog 19 #[v] w fun e w' => e = .returned (.tuple #[.int .u32 (le ((l.drop p).take 4) : Int), .int .i64 0]) ∧ Nx HasF w v l (p + min 4 (l.length - p)) F w' := by
  obtain ⟨b, g, rfl, h, rfl⟩ := h
  have hA := Lib.hid (ask_one h [] w.heap.size rfl)
  have hP := Lib.hid (fun w1 (hb : Below w.heap.size w w1) => taken_u32 (h.below hb) 4 (by omega) 37 #[] (enters_of Try.func37 (by kernel_rfl) rfl) (fun v V' => v = .int .u32 (le ((l.drop p).take 4) : Int) ∧ Nx HasF w (pb b) l (p + min 4 (l.length - p)) (fun k => k = b ∨ k = g) V')
    (fun V hV hk => (number_any (adr g p l.length) ((l.drop p).take 4) (min 4 (l.length - p)) (l.length - p) V (part_sees hV 4) (part_len l p 4) (by omega)).mono fun e V' ⟨e1, e2⟩ =>
      ⟨_, e1, rfl, by rw [← e2]; exact nx_of hV ((Keep.of_below hb).trans hk fun _ _ h => h)⟩))
  obtain ⟨x, hx⟩ : ∃ x, x = le ((l.drop p).take 4) := ⟨_, rfl⟩
  rw [← hx] at hP ⊢
  clear h hx
  go_enter Try.func19, Try.ntmps19
  go_wp2_with fail
  refine wp_scope_jump 1 fun R hR hJm => ?_
  go_wp2_with fail
  refine hA.out.mono ?_
  rintro e w1 ⟨rfl, hB⟩
  have hPP := Lib.hid (hP.out w1 hB.below)
  clear hB hP hA
  go_wp2_with fail
  refine hPP.out.mono ?_
  rintro e w2 ⟨v, rfl, rfl, hn⟩
  have hfin := Lib.hid hn
  clear hn hPP
  go_wp2_with fail
  refine hR.out _ _ _ _ (by simp) ?_
  go_ret2
  exact ⟨rfl, hfin.out⟩
theorem draw_non (h : NonF w v) : Calls Try.prog 19 #[v] w fun e w' => e = .returned (.tuple #[.int .u32 0, .int .i64 1]) ∧ Below w.heap.size w w' := by
  have hA := Lib.hid (ask_non h [] w.heap.size rfl [] 1 rfl (by omega))
  obtain ⟨pv, rfl⟩ := h.ptr
  clear h
  go_enter Try.func19, Try.ntmps19
  go_wp2_with fail
  refine wp_scope_jump 1 fun R hR hJm => ?_
  go_wp2_with fail
  refine hA.out.mono ?_
  rintro e w1 ⟨rfl, hB⟩
  have hfin := Lib.hid hB.below
  clear hB hA
  go_wp2_with fail
  refine wp_goto (hJm.out _ _ _ _ _ rfl ?_)
  go_wp2_with fail
  refine hR.out _ _ _ _ (by simp) ?_
  go_ret2
  exact ⟨rfl, hfin.out⟩
def TakeQ (w : World) (b g : Nat) (l : List UInt8) (p m : Nat) (v : Value) (w' : World) : Prop :=
  ∃ A c, v = .slice A ((l.drop p).take m).length c ∧ Nx HasF w (pb b) l (p + min m (l.length - p)) (fun k => k = b ∨ k = g) w' ∧
    ((l.drop p).take m ≠ [] → ∃ g' rest, w.heap.size ≤ g' ∧ A = some ⟨g', 0, none⟩ ∧ Row w' g' 5 (byt ((l.drop p).take m) ++ rest))
theorem take2_any {w : World} (ad : Addr) (xs : List UInt8) (n c : Nat) (hA : Sees w w.heap.size (some ad) (byt xs)) (hl : xs.length = n) (h300 : n ≤ 300) : Calls Try.prog 32 #[.slice (some ad) n c] w (CloneP w xs) := by
  have h1 := Lib.hid (clone_any ad n c xs w hl h300 hA)
  clear hA
  go_enter Try.func32, Try.ntmps32
  go_wp2_with fail
  refine h1.out.mono ?_
  rintro e w1 ⟨g, c', rest, rfl, e1, e2, e3⟩
  have hfin := Lib.hid (show CloneP w xs (.returned (.slice (some ⟨g, 0, none⟩) n c')) w1 from ⟨g, c', rest, by rw [hl], e1, e2, e3⟩)
  clear e1 e2 e3 h1
  go_wp2_with fail
  go_ret
  exact hfin.out
theorem ftake (m : Nat) (h : HasF w v l p F) (hm : m ≤ 9223372036854775807) : Calls Try.prog 14 #[v, .int .i64 (m : Int)] w fun e w' => ∃ A c, e = .returned (.tuple #[.slice A ((l.drop p).take m).length c, .int .i64 0]) ∧ Nx HasF w v l (p + min m (l.length - p)) F w' ∧
    ((l.drop p).take m ≠ [] → ∃ g rest, w.heap.size ≤ g ∧ A = some ⟨g, 0, none⟩ ∧ Row w' g 5 (byt ((l.drop p).take m) ++ rest)) := by
  obtain ⟨b, g, rfl, h, rfl⟩ := h
  have hA := ask_two h [(.int .i64 (m : Int), 3)] (w.heap.size + 1) rfl 30 #[pb w.heap.size] 2 (decide ((0 : Int) ≤ (m : Int))) (enters_of Try.func30 (by kernel_rfl) rfl) (fun V hV => take1_any _ (m : Int) V (hV.cell 0 _ rfl))
  rw [decide_eq_true (show (0 : Int) ≤ (m : Int) by omega), if_pos rfl] at hA
  have hA := Lib.hid hA
  have hP := Lib.hid (fun w1 (hb : Below w.heap.size w w1) => taken_bytes (h.below hb) m hm 32 #[] (enters_of Try.func32 (by kernel_rfl) rfl) (TakeQ w b g l p m)
    (fun V hV hk => (take2_any _ ((l.drop p).take m) (min m (l.length - p)) (l.length - p) (part_sees hV m) (part_len l p m) (by have := h.most; omega)).mono fun e V' ⟨g', c', rest, e1, e2, e3, e4⟩ =>
      ⟨_, _, _, e1, _, _, rfl, nx_of (hV.below e4) (fkeep_below ((Keep.of_below hb).trans hk fun _ _ h => h) e4), fun _ => ⟨g', rest, by have := hb.size; have := hk.size; omega, rfl, e3⟩⟩))
  have hG : Hid (∀ (A : Option Addr) (k c : Nat) (W : World), TakeQ w b g l p m (.slice A k c) W → ∃ A2 c2, (Ending.returned (.tuple #[.slice A k c, .int .i64 0]) = .returned (.tuple #[.slice A2 ((l.drop p).take m).length c2, .int .i64 0])) ∧ Nx HasF w (pb b) l (p + min m (l.length - p)) (fun k => k = b ∨ k = g) W ∧
    ((l.drop p).take m ≠ [] → ∃ g rest, w.heap.size ≤ g ∧ A2 = some ⟨g, 0, none⟩ ∧ Row W g 5 (byt ((l.drop p).take m) ++ rest))) := Lib.hid (fun A k c W ⟨A2, c2, e1, e2, e3⟩ => ⟨A2, c2, by rw [e1], e2, e3⟩)
  have hsl : Hid (∀ (v : Value) W, TakeQ w b g l p m v W → ∃ A k c, v = .slice A k c) := Lib.hid (fun v W ⟨A, c, e, _⟩ => ⟨A, _, c, e⟩)
  have hT : Hid (∀ v W, TakeQ w b g l p m v W → TakeQ w b g l p m v W) := Lib.hid (fun _ _ h => h)
  clear h
  go_enter Try.func14, Try.ntmps14
  go_wp2_with fail
  refine wp_scope_jump 1 fun R hR hJm => ?_
  go_wp2_with fail
  refine hA.out.mono ?_
  rintro e w1 ⟨rfl, hB⟩
  have hPP := Lib.hid (hP.out w1 hB.below)
  have hc0 : w1.cell? ⟨w.heap.size, 0, none⟩ = some (.int .i64 (m : Int)) := hB.cell 0 _ rfl
  clear hB hP hA
  go_wp2_with fail
  refine hPP.out.mono ?_
  rintro e w2 ⟨v, rfl, hn⟩
  obtain ⟨A, k, c, rfl⟩ := hsl.out _ _ hn
  have hfin := Lib.hid (hG.out _ _ _ _ hn)
  clear hn hPP hsl hG hT
  go_wp2_with fail
  refine hR.out _ _ _ _ (by simp) ?_
  go_ret2
  exact hfin.out
theorem ftake_no (z : Int) (h : HasF w v l p F) (hz : z < 0) : Calls Try.prog 14 #[v, .int .i64 z] w fun e w' => ∃ A c, e = .returned (.tuple #[.slice A 0 c, .int .i64 2]) ∧ Nx HasF w v l p F w' := by
  obtain ⟨b, g, rfl, h, rfl⟩ := h
  have hA := ask_two h [(.int .i64 z, 3)] (w.heap.size + 1) rfl 30 #[pb w.heap.size] 2 (decide ((0 : Int) ≤ z)) (enters_of Try.func30 (by kernel_rfl) rfl) (fun V hV => take1_any _ z V (hV.cell 0 _ rfl))
  rw [decide_eq_false (show ¬ (0 : Int) ≤ z by omega), if_neg (by simp)] at hA
  have hA := Lib.hid hA
  have hN := Lib.hid (fun w' hb => nx_low (w' := w') h hb)
  clear h hz
  go_enter Try.func14, Try.ntmps14
  go_wp2_with fail
  refine wp_scope_jump 1 fun R hR hJm => ?_
  go_wp2_with fail
  refine hA.out.mono ?_
  rintro e w1 ⟨rfl, hB⟩
  have hfin := Lib.hid (hN.out w1 hB.below)
  clear hB hN hA
  go_wp2_with fail
  refine wp_goto (hJm.out _ _ _ _ _ rfl ?_)
  go_wp2_with fail
  refine hR.out _ _ _ _ (by simp) ?_
  go_ret2
  exact ⟨_, _, rfl, hfin.out⟩
theorem take_non (h : NonF w v) (z : Int) : Calls Try.prog 14 #[v, .int .i64 z] w fun e w' => e = .returned (.tuple #[.slice none 0 0, .int .i64 1]) ∧ Below w.heap.size w w' := by
  have hA := Lib.hid (ask_non h [(.int .i64 z, 3)] (w.heap.size + 1) rfl [⟨30, #[], #[pb w.heap.size], 2, true⟩] 2 rfl (by omega))
  obtain ⟨pv, rfl⟩ := h.ptr
  clear h
  go_enter Try.func14, Try.ntmps14
  go_wp2_with fail
  refine wp_scope_jump 1 fun R hR hJm => ?_
  go_wp2_with fail
  refine hA.out.mono ?_
  rintro e w1 ⟨rfl, hB⟩
  have hfin := Lib.hid hB.below
  clear hB hA
  go_wp2_with fail
  refine wp_goto (hJm.out _ _ _ _ _ rfl ?_)
  go_wp2_with fail
  refine hR.out _ _ _ _ (by simp) ?_
  go_ret2
  exact ⟨rfl, hfin.out⟩
theorem fat (h : HasF w v l p F) : Calls Try.prog 16 #[v] w fun e w' => e = .returned (.int .i64 (p : Int)) ∧ Below w.heap.size w w' := by
  obtain ⟨b, g, rfl, h, rfl⟩ := h
  have hT := Lib.hid (there_at b _ _ _ w h.c0)
  have hc1 := h.c1
  clear h
  go_enter Try.func16, Try.ntmps16
  go_wp2_with fail
  refine hT.out.mono ?_
  rintro e w1 ⟨rfl, rfl⟩
  go_wp2_with fail
  go_ret
  exact ⟨rfl, Below.refl _ _⟩
theorem at_non (h : NonF w v) : Calls Try.prog 16 #[v] w fun e w' => e = .returned (.int .i64 0) ∧ Below w.heap.size w w' := by
  have hT := Lib.hid (there_non v w h)
  obtain ⟨pv, rfl⟩ := h.ptr
  clear h
  go_enter Try.func16, Try.ntmps16
  go_wp2_with fail
  refine hT.out.mono ?_
  rintro e w1 ⟨rfl, rfl⟩
  go_wp2_with fail
  go_ret
  exact ⟨rfl, Below.refl _ _⟩
theorem fleft (h : HasF w v l p F) : Calls Try.prog 17 #[v] w fun e w' => e = .returned (.int .i64 ((l.length - p : Nat) : Int)) ∧ Below w.heap.size w w' := by
  obtain ⟨b, g, rfl, h, rfl⟩ := h
  have hT := Lib.hid (left_any h)
  obtain ⟨k, hk⟩ : ∃ k, k = l.length - p := ⟨_, rfl⟩
  rw [← hk] at hT ⊢
  clear h hk
  go_enter Try.func17, Try.ntmps17
  go_wp2_with fail
  refine hT.out.mono ?_
  rintro e w1 ⟨rfl, hb⟩
  go_wp2_with fail
  go_ret
  exact ⟨rfl, hb⟩
theorem fleft_non (h : NonF w v) : Calls Try.prog 17 #[v] w fun e w' => e = .returned (.int .i64 0) ∧ Below w.heap.size w w' := by
  have hT := Lib.hid (left_non v w h)
  obtain ⟨pv, rfl⟩ := h.ptr
  clear h
  go_enter Try.func17, Try.ntmps17
  go_wp2_with fail
  refine hT.out.mono ?_
  rintro e w1 ⟨rfl, rfl⟩
  go_wp2_with fail
  go_ret
  exact ⟨rfl, Below.refl _ _⟩

theorem copy_non (h : NonF w v) : Calls Try.prog 12 #[v] w fun e w' => e = .returned (.pointer none) ∧ Below w.heap.size w w' := by
  have hT := Lib.hid (there_non v w h)
  obtain ⟨pv, rfl⟩ := h.ptr
  clear h
  go_enter Try.func12, Try.ntmps12
  go_wp2_with fail
  refine hT.out.mono ?_
  rintro e w1 ⟨rfl, rfl⟩
  go_wp2_with fail
  go_ret
  exact ⟨rfl, Below.refl _ _⟩
theorem fcopy (h : HasF w v l p F) : Calls Try.prog 12 #[v] w fun e w' => ∃ v' F', e = .returned v' ∧ HasF w' v' l p F' ∧ (∀ k, F' k → w.heap.size ≤ k) ∧ Below w.heap.size w w' := by
  obtain ⟨b, g, rfl, h, rfl⟩ := h
  have hT := Lib.hid (there_at b _ _ _ w h.c0)
  have hN := Lib.hid (new_any w (some ⟨g, 0, none⟩) l.length l.length l h.row.sees rfl h.most)
  have hc0 := h.c0
  have hc1 := h.c1
  have lb := h.obj.lt
  have hF : Hid (∀ b' g' w', w.heap.size ≤ b' → w.heap.size ≤ g' → FRep w' b' g' l 0 → Below w.heap.size w w' → ∃ v2 F', Ending.returned (pb b') = .returned v2 ∧ HasF (w'.setCell ⟨b', 1, none⟩ (.int .i64 (p : Int))) v2 l p F' ∧ (∀ k, F' k → w.heap.size ≤ k) ∧ Below w.heap.size w (w'.setCell ⟨b', 1, none⟩ (.int .i64 (p : Int)))) := Lib.hid (fun b' g' w' a1 a2 a3 a4 =>
    ⟨_, _, rfl, ⟨b', g', rfl, a3.at_ h.le, rfl⟩, fun k hk => by rcases hk with rfl | rfl; exact a1; exact a2, a4.setCell a1 _⟩)
  obtain ⟨n, hn⟩ : ∃ n, n = l.length := ⟨_, rfl⟩
  rw [← hn] at hc0 hN
  clear h hn
  go_enter Try.func12, Try.ntmps12
  go_wp2_with fail
  refine hT.out.mono ?_
  rintro e w1 ⟨rfl, rfl⟩
  go_wp2_with fail
  refine hN.out.mono ?_
  rintro e w2 ⟨b', g', rfl, a1, a2, a3, a4⟩
  have hfin := Lib.hid (hF.out b' g' w2 a1 a2 a3 a4)
  have d1 : w2.cell? ⟨b, 1, none⟩ = some (.int .i64 (p : Int)) := (a4.cell (p := ⟨b, 1, none⟩) lb).trans hc1
  have d2 : w2.cell? ⟨b', 1, none⟩ = some (.int .i64 ((0 : Nat) : Int)) := a3.c1
  have d3 : w2.frozen? ⟨b', 1, none⟩ = false := a3.obj.frozen 1
  clear hF a1 a2 a3 a4 hT hN
  go_wp2_with fail
  go_ret
  exact hfin.out
theorem equal_any {w : World} (A B : Option Addr) (xs ys : List UInt8) (n m c d : Nat) (hA : Sees w w.heap.size A (byt xs)) (hB : Sees w w.heap.size B (byt ys)) (hn : xs.length = n) (hm : ys.length = m) :
    Calls Try.prog 27 #[.slice A n c, .slice B m d] w fun e w' => e = .returned (.bool (decide (xs = ys))) ∧ w = w' := by
  have h1 := fun W (hW : Below w.heap.size w W) => run_conv_sees (P := Try.prog) W (src := 22) (dst := 9) (c := c) Try.underlying22 Try.underlying5 Try.underlying9 hn (hA.below hW)
  have h2 := fun W (hW : Below w.heap.size w W) => run_conv_sees (P := Try.prog) W (src := 22) (dst := 9) (c := d) Try.underlying22 Try.underlying5 Try.underlying9 hm (hB.below hW)
  have h1w := h1 w (Below.refl _ _)
  have h2w := h2 w (Below.refl _ _)
  have hq : ((str xs).toList == (str ys).toList) = decide (xs = ys) := by
    rw [str_toList, str_toList]
    by_cases h : xs = ys
    · rw [decide_eq_true h, beq_iff_eq.2 h]
    · rw [decide_eq_false h, beq_eq_false_iff_ne.2 h]
  obtain ⟨q, hq2⟩ : ∃ q, q = decide (xs = ys) := ⟨_, rfl⟩
  rw [← hq2] at hq ⊢
  obtain ⟨X, hX⟩ : ∃ X, X = str xs := ⟨_, rfl⟩
  obtain ⟨Y, hY⟩ : ∃ Y, Y = str ys := ⟨_, rfl⟩
  rw [← hX] at h1w hq
  rw [← hY] at h2w hq
  clear h1 h2 hA hB hX hY hq2
  go_enter Try.func27, Try.ntmps27
  go_wp2_with fail
  go_ret
  exact ⟨rfl, rfl⟩
theorem fsame {v' : Value} {l' : List UInt8} {p' : Nat} {F' : Nat → Prop} (h : HasF w v l p F) (h' : HasF w v' l' p' F') : Calls Try.prog 11 #[v, v'] w fun e w' => e = .returned (.bool (decide (l.drop p = l'.drop p'))) ∧ Below w.heap.size w w' := by
  obtain ⟨b, g, rfl, h, rfl⟩ := h
  obtain ⟨b', g', rfl, h', rfl⟩ := h'
  have hT := Lib.hid (fun W (hb : Below w.heap.size w W) => there_at b _ _ _ W (h.below hb).c0)
  have hT' := Lib.hid (fun W (hb : Below w.heap.size w W) => there_at b' _ _ _ W (h'.below hb).c0)
  have hL := Lib.hid (fun W (hb : Below w.heap.size w W) => (left_any (h.below hb)))
  have hL' := Lib.hid (fun W (hb : Below w.heap.size w W) => (left_any (h'.below hb)))
  have hE := Lib.hid (fun W (hb : Below w.heap.size w W) => equal_any (w := W) (adr g p l.length) (adr g' p' l'.length) (l.drop p) (l'.drop p') (l.length - p) (l'.length - p') (l.length - p) (l'.length - p') (adr_sees (h.below hb).row) (adr_sees (h'.below hb).row) (by simp) (by simp))
  obtain ⟨q, hq⟩ : ∃ q, q = decide (l.drop p = l'.drop p') := ⟨_, rfl⟩
  obtain ⟨A, hA⟩ : ∃ A, A = adr g p l.length := ⟨_, rfl⟩
  obtain ⟨B, hB⟩ : ∃ B, B = adr g' p' l'.length := ⟨_, rfl⟩
  obtain ⟨n, hn⟩ : ∃ n, n = l.length - p := ⟨_, rfl⟩
  obtain ⟨m, hm⟩ : ∃ m, m = l'.length - p' := ⟨_, rfl⟩
  rw [← hA, ← hn] at hL
  rw [← hB, ← hm] at hL'
  rw [← hA, ← hB, ← hn, ← hm, ← hq] at hE
  rw [← hq]
  have H0 := Lib.hid (Below.refl w.heap.size w)
  clear hq hA hB hn hm h h'
  go_enter Try.func11, Try.ntmps11
  go_wp2_with fail
  refine (hT.out _ H0.out).mono ?_
  rintro e w1 ⟨rfl, rfl⟩
  go_wp2_with fail
  refine (hT'.out _ H0.out).mono ?_
  rintro e w1 ⟨rfl, rfl⟩
  go_wp2_with fail
  refine (hL.out _ H0.out).mono ?_
  rintro e w1 ⟨rfl, hb1⟩
  have Hb1 := Lib.hid hb1
  clear hb1
  go_wp2_with fail
  refine (hL'.out _ Hb1.out).mono ?_
  rintro e w2 ⟨rfl, hb2⟩
  have Hb2 := Lib.hid (Hb1.out.trans (hb2.mono Hb1.out.size))
  clear hb2
  go_wp2_with fail
  refine (hE.out _ Hb2.out).mono ?_
  rintro e w3 ⟨rfl, rfl⟩
  go_wp2_with fail
  go_ret
  exact ⟨rfl, Hb2.out⟩
/-- a feed and none -/
theorem same_one {v' : Value} (h : HasF w v l p F) (h' : NonF w v') : Calls Try.prog 11 #[v, v'] w fun e w' => e = .returned (.bool false) ∧ Below w.heap.size w w' := by
  obtain ⟨b, g, rfl, h, rfl⟩ := h
  have hT := Lib.hid (there_at b _ _ _ w h.c0)
  have hT' := Lib.hid (there_non v' w h')
  obtain ⟨pv, rfl⟩ := h'.ptr
  clear h h'
  go_enter Try.func11, Try.ntmps11
  go_wp2_with fail
  refine hT.out.mono ?_
  rintro e w1 ⟨rfl, rfl⟩
  go_wp2_with fail
  refine hT'.out.mono ?_
  rintro e w1 ⟨rfl, rfl⟩
  go_wp2_with fail
  go_ret
  exact ⟨rfl, Below.refl _ _⟩
theorem same_two {v' : Value} (h : HasF w v l p F) (h' : NonF w v') : Calls Try.prog 11 #[v', v] w fun e w' => e = .returned (.bool false) ∧ Below w.heap.size w w' := by
  obtain ⟨b, g, rfl, h, rfl⟩ := h
  have hT := Lib.hid (there_at b _ _ _ w h.c0)
  have hT' := Lib.hid (there_non v' w h')
  obtain ⟨pv, rfl⟩ := h'.ptr
  clear h h'
  go_enter Try.func11, Try.ntmps11
  go_wp2_with fail
  refine hT'.out.mono ?_
  rintro e w1 ⟨rfl, rfl⟩
  go_wp2_with fail
  refine hT.out.mono ?_
  rintro e w1 ⟨rfl, rfl⟩
  go_wp2_with fail
  go_ret
  exact ⟨rfl, Below.refl _ _⟩
theorem same_non {v' : Value} (h : NonF w v) (h' : NonF w v') : Calls Try.prog 11 #[v, v'] w fun e w' => e = .returned (.bool true) ∧ Below w.heap.size w w' := by
  have hT := Lib.hid (there_non v w h)
  have hT' := Lib.hid (there_non v' w h')
  have hL := Lib.hid (left_non v w h)
  have hL' := Lib.hid (left_non v' w h')
  have hE := Lib.hid (equal_any (w := w) none none [] [] 0 0 0 0 (fun h => absurd rfl h) (fun h => absurd rfl h) rfl rfl)
  obtain ⟨pv, rfl⟩ := h.ptr
  obtain ⟨pv', rfl⟩ := h'.ptr
  clear h h'
  go_enter Try.func11, Try.ntmps11
  go_wp2_with fail
  refine hT.out.mono ?_
  rintro e w1 ⟨rfl, rfl⟩
  go_wp2_with fail
  refine hT'.out.mono ?_
  rintro e w1 ⟨rfl, rfl⟩
  go_wp2_with fail
  refine hL.out.mono ?_
  rintro e w1 ⟨rfl, rfl⟩
  go_wp2_with fail
  refine hL'.out.mono ?_
  rintro e w1 ⟨rfl, rfl⟩
  go_wp2_with fail
  refine hE.out.mono ?_
  rintro e w3 ⟨rfl, rfl⟩
  go_wp2_with fail
  go_ret
  exact ⟨rfl, Below.refl _ _⟩
end
end Go.Proofs.Ytglfcfepgjldfaa.Fe
