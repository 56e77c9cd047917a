import Derived.Test.YtkfljominljliaaGreatVc
namespace Go.Proofs.YtkfljominljliaaGreat.Vm
open Go.RowKit Go.Shelf Go.Maps Go.Sort
attribute [local go_sem] Oper.semAt_some

/- A REACH: MAY IT BE, IS IT WITHIN; IS EACH PAGE SUCH. -/

theorem pts_mem : ∀ (n a : Nat), a + n ≤ 16777216 → ∀ x ∈ pts a n, x.1 < 65536 ∧ x.2.1 < 256 ∧ 0 < x.2.2 ∧ x.2.1 + x.2.2 ≤ 256 := by
  intro n
  induction n using Nat.strongRecOn with
  | _ n ih =>
    intro a h x hx
    rcases Nat.eq_zero_or_pos n with rfl | hn
    · rw [pts_zero] at hx
      cases hx
    · rw [pts_pos hn] at hx
      rcases List.mem_cons.1 hx with rfl | hx
      · simp only
        omega
      · exact ih _ (by omega) _ (by omega) x hx
def properB (n : Int) : Bool := decide (1 ≤ n) && decide (n ≤ 16777216)
theorem proper_any (a : Nat) (n : Int) (w : World) : Calls Tryz.prog 93 #[.agg #[.int .u32 (a : Int), .int .i64 n]] w fun e w' => e = .returned (.bool (properB n)) ∧ Below w.heap.size w w' := by
  unfold properB
  have hb := Lib.hid (below1 w (.cells #[.int .u32 (a : Int), .int .i64 n] 68))
  go_enter Tryz.func93, Tryz.ntmps93
  by_cases h0 : 1 ≤ n
  · have e0 : decide (1 ≤ n) = true := decide_eq_true h0
    obtain ⟨q, hq⟩ : ∃ q, q = decide (n ≤ 16777216) := ⟨_, rfl⟩
    rw [← hq]
    go_wp2
    go_ret
    exact ⟨by simp [hq, h0], hb.out⟩
  · have e0 : decide (1 ≤ n) = false := decide_eq_false h0
    go_wp2
    go_ret
    exact ⟨by simp, hb.out⟩
def withinB (a : Nat) (n : Int) : Bool := decide (a < 16777216) && decide (n ≤ 16777216 - (a : Int))
theorem within_any (a : Nat) (n : Int) (w : World) (ha : a < 4294967296) : Calls Tryz.prog 94 #[.agg #[.int .u32 (a : Int), .int .i64 n]] w fun e w' => e = .returned (.bool (withinB a n)) ∧ Below w.heap.size w w' := by
  unfold withinB
  have hb := Lib.hid (below1 w (.cells #[.int .u32 (a : Int), .int .i64 n] 68))
  have ew : IntKind.i64.wrap ((a : Nat) : Int) = (a : Int) := wrapI _ (by omega) (by omega)
  have e2 : IntKind.i64.wrap (16777216 - (a : Int)) = 16777216 - (a : Int) := wrapI _ (by omega) (by omega)
  go_enter Tryz.func94, Tryz.ntmps94
  by_cases h0 : a < 16777216
  · have e0 : decide ((a : Int) < 16777216) = true := decide_eq_true (by omega)
    have e1 : decide (a < 16777216) = true := decide_eq_true h0
    obtain ⟨q, hq⟩ : ∃ q, q = decide (n ≤ 16777216 - (a : Int)) := ⟨_, rfl⟩
    rw [← hq, e1]
    have hq' := hq.symm
    clear hq h0
    go_wp2
    go_ret
    exact ⟨by simp, hb.out⟩
  · have e0 : decide ((a : Int) < 16777216) = false := decide_eq_false (by omega)
    have e1 : decide (a < 16777216) = false := decide_eq_false h0
    rw [e1]
    clear h0
    go_wp2
    go_ret
    exact ⟨by simp, hb.out⟩
theorem parts_any (a n : Nat) (w : World) : Calls Tryz.prog 97 #[.agg #[.int .u32 (a : Int), .int .i64 (n : Int)]] w fun e w' => e = .returned (.func (.func 102) #[] #[bx w.heap.size]) ∧ w' = w.alloc (.cells #[.int .u32 (a : Int), .int .i64 (n : Int)] 68) := by
  go_enter Tryz.func97, Tryz.ntmps97
  go_wp2
  go_ret
  exact ⟨rfl, rfl⟩
/-- what holds between two parts -/
def SnI (w : World) (f : Nat → Bool) (g gf : Nat) (fv : Value) (pre : List (Nat × Nat × Nat)) (_O : Nat → Prop) (V : World) : Prop :=
  Boxed V g 4 (.bool true) ∧ Boxed V gf 58 fv ∧ (∀ x ∈ pre, f x.1 = true) ∧ Below w.heap.size w V
def SnX (w : World) (f : Nat → Bool) (g ex : Nat) (cc : Code) (pre : List (Nat × Nat × Nat)) (_O : Nat → Prop) (V : World) : Prop :=
  cc = .exit ex ∧ Boxed V g 4 (.bool false) ∧ (∃ x ∈ pre, f x.1 = false) ∧ Below w.heap.size w V
theorem SnI.abid {w : World} {f : Nat → Bool} {g gf B : Nat} {fv : Value} (h : g < B ∧ gf < B ∧ w.heap.size ≤ B) : Abid B (SnI w f g gf fv) := by
  rintro pre O V V' row ⟨h1, h2, h3, h4⟩ hg hr
  exact ⟨h1.kept hg (fun e => by have := hr g e.symm; omega), h2.kept hg (fun e => by have := hr gf e.symm; omega), h3, h4.grown hg h4.size (fun k e => by have := hr k e; omega)⟩
theorem SnX.abid {w : World} {f : Nat → Bool} {g ex B : Nat} (h : g < B ∧ w.heap.size ≤ B) (cc : Code) : Abid B (SnX w f g ex cc) := by
  rintro pre O V V' row ⟨h0, h1, h2, h3⟩ hg hr
  exact ⟨h0, h1.kept hg (fun e => by have := hr g e.symm; omega), h2, h3.grown hg h3.size (fun k e => by have := hr k e; omega)⟩
def seenB (f : Nat → Bool) (a n : Nat) : Bool := (pts a n).all fun x => f x.1
set_option maxHeartbeats 2000000 in
theorem seen_any (f : Nat → Bool) (a n cf : Nat) (cap : Array Value) (w : World) (han : a + n ≤ 16777216) (eg : ∀ args w, (callFunc cf args).run Tryz.prog w = .ok (.enter cf args) w)
    (HF : ∀ (z : Nat) V, z < 65536 → Below w.heap.size w V → Calls Tryz.prog cf (#[.int .i64 (z : Int)] ++ cap) V fun e V' => e = .returned (.bool (f z)) ∧ Below V.heap.size V V') :
    Calls Tryz.prog 96 #[.agg #[.int .u32 (a : Int), .int .i64 (n : Int)], .func (.func cf) #[] cap] w fun e w' => e = .returned (.bool (seenB f a n)) ∧ Below w.heap.size w w' := by
  have HFF := Lib.hid HF
  clear HF
  refine calls_marks Tryz.func96 rfl ?_
  simp only [Tryz.ntmps96, List.size_toArray, List.length_cons, List.length_nil, Nat.reduceAdd, Nat.reduceSub, Array.replicate_succ, Array.replicate_zero, List.push_toArray, List.append_toArray, List.nil_append, List.cons_append]
  go_wp2_with fail
  refine wp_scope_jump 0 fun R hR hJm => ?_
  go_wp2_with fail
  refine wp_label ?_
  go_wp2_with fail
  obtain ⟨W4, hW4⟩ : ∃ W4, W4 = (((w.alloc (.cells #[.int .u32 (a : Int), .int .i64 (n : Int)] 68)).alloc (.cells #[.func (.func cf) #[] cap] 58)).alloc (.cells #[.bool true] 4)) := ⟨_, rfl⟩
  have hs4 : W4.heap.size = w.heap.size + 3 := by rw [hW4]; simp
  have hB4 : Below w.heap.size w W4 := by rw [hW4]; exact (below2 _ _ _).alloc (by simp; omega) _
  have hX1 : Boxed W4 (w.heap.size + 1) 58 (.func (.func cf) #[] cap) := by
    have h := Boxed.new (w.alloc (.cells #[.int .u32 (a : Int), .int .i64 (n : Int)] 68)) 58 (.func (.func cf) #[] cap)
    rw [World.size_alloc] at h
    rw [hW4]
    exact h.alloc _
  have hX2 : Boxed W4 (w.heap.size + 1 + 1) 4 (.bool true) := by
    have h := Boxed.new ((w.alloc (.cells #[.int .u32 (a : Int), .int .i64 (n : Int)] 68)).alloc (.cells #[.func (.func cf) #[] cap] 58)) 4 (.bool true)
    rw [World.size_alloc, World.size_alloc] at h
    rw [hW4]
    exact h
  rw [← hW4]
  clear hW4
  refine (parts_any a n W4).mono ?_
  rintro e W5 ⟨rfl, hW5⟩
  have hb5 : Below W4.heap.size W4 W5 := by rw [hW5]; exact below1 _ _
  have hs5 : W5.heap.size = W4.heap.size + 1 := by rw [hW5]; simp
  have hr5 : Row W5 W4.heap.size 68 (rc2 a n) := by rw [hW5]; exact Row.new W4 68 (rc2 a n)
  have hit := parts1_it a n W4.heap.size W5 han hr5
  rw [hs4] at hit
  have hY1 := (hb5.block _ (by omega)).trans hX1
  have hY2 := (hb5.block _ (by omega)).trans hX2
  have hB5 := below0 hB4 hb5
  have hmem := Lib.hid (pts_mem n a han)
  clear hW5 hb5 hX1 hX2 hB4
  go_wp2_with fail
  refine wpIn_wide.1 (wpIn_range_box (gf := 102) (lb := #[bx (w.heap.size + 3)]) rfl (enters_of Tryz.func102 (by kernel_rfl) rfl) hit (by rintro k rfl; omega) (fun _ => rfl) (fun _ _ _ _ _ h => h)
    (SnI w f (w.heap.size + 1 + 1) (w.heap.size + 1) (.func (.func cf) #[] cap)) (SnX w f (w.heap.size + 1 + 1) 0) (SnI.abid (by omega)) (SnX.abid (by omega)) ⟨hY2, hY1, fun _ h => (by cases h), hB5⟩
    (fun g x => { tmps := #[.agg #[.int .u32 (a : Int), .int .i64 (n : Int)], .func (.func cf) #[] cap, .pointer (some ⟨w.heap.size, 0, none⟩), .pointer (some ⟨w.heap.size + 1, 0, none⟩), .bool false, .pointer (some ⟨w.heap.size + 1 + 1, 0, none⟩), .pointer (some ⟨g, 0, none⟩), .agg #[.int .u32 (a : Int), .int .i64 (n : Int)], .func (.func 102) #[] #[bx (w.heap.size + 3)], enc3 x, undef, undef, undef, undef, undef, undef, undef], defers := [] })
    (fun x => .cells #[.int .i64 (x.1 : Int), .int .i64 (x.2.1 : Int), .int .i64 (x.2.2 : Int)] 111) ?assign ?body ?done ?stop)
  case assign =>
    intro l' x W' K hK
    simp only [encX, enc3]
    gi_wp2
    exact hK
  case body =>
    rintro l' pre x O V hVs hO ⟨hbV, hfV, hpre, hblV⟩ ⟨post, hpost⟩ _
    obtain ⟨V1, hV1⟩ : ∃ V1, V1 = V.alloc (.cells #[.int .i64 (x.1 : Int), .int .i64 (x.2.1 : Int), .int .i64 (x.2.2 : Int)] 111) := ⟨_, rfl⟩
    have hb1 : Below V.heap.size V V1 := by rw [hV1]; exact below1 _ _
    have hz1 : V1.heap.size = V.heap.size + 1 := by rw [hV1]; simp
    have c0 : V1.cell? ⟨V.heap.size, 0, none⟩ = some (.int .i64 (x.1 : Int)) := by rw [hV1]; exact cell_alloc_new _ _ _ _
    have hx1 : x.1 < 65536 := (hmem.out x (by rw [hpost]; simp)).1
    have hbV1 : Boxed V1 (w.heap.size + 1 + 1) 4 (.bool true) := (hb1.block _ (by omega)).trans hbV
    have hfV1 : Boxed V1 (w.heap.size + 1) 58 (.func (.func cf) #[] cap) := (hb1.block _ (by omega)).trans hfV
    have hbl1 := below0 hblV hb1
    have HCALL := Lib.hid (HFF.out x.1 V1 hx1 hbl1)
    obtain ⟨r, hr⟩ : ∃ r, r = f x.1 := ⟨_, rfl⟩
    rw [← hr] at HCALL
    have HR := Lib.hid hr
    have HPRE := Lib.hid hpre
    have e0 := hfV1.cell
    rw [← hV1]
    clear hr hV1 hpost hpre hblV hx1 hit hY1 hY2 hB5 hbV hfV
    gi_wp2_with fail
    refine ⟨trivial, rfl, CallsIn.inRound l' ((callsIn_wide.2 HCALL.out).mono ?_)⟩
    rintro e V2 ⟨rfl, hb2⟩
    have hs2 := hb2.size
    have hbV2 : Boxed V2 (w.heap.size + 1 + 1) 4 (.bool true) := (hb2.block _ (by omega)).trans hbV1
    have hfV2 : Boxed V2 (w.heap.size + 1) 58 (.func (.func cf) #[] cap) := (hb2.block _ (by omega)).trans hfV1
    have HBX := Lib.hid (hbV2.set (.bool r))
    have HFX := Lib.hid (show Boxed (V2.setCell ⟨w.heap.size + 1 + 1, 0, none⟩ (.bool r)) (w.heap.size + 1) 58 (.func (.func cf) #[] cap) from (heap_set (by omega)).trans hfV2)
    have HBL := Lib.hid (show Below w.heap.size w (V2.setCell ⟨w.heap.size + 1 + 1, 0, none⟩ (.bool r)) from (below0 hbl1 hb2).setCell (by show w.heap.size ≤ w.heap.size + 1 + 1; omega) (.bool r))
    have HKS := Lib.hid (show Keeps (· = w.heap.size + 3) W5.heap.size O (fun _ => False) V (V2.setCell ⟨w.heap.size + 1 + 1, 0, none⟩ (.bool r)) from
      ⟨by rw [World.size_setCell]; omega, fun k hk hp => (heap_set (by rcases hp with h | ⟨h, _⟩ <;> omega)).trans ((hb2.block k (by omega)).trans (hb1.block k hk))⟩)
    have f1 := hbV2.frozen
    have f2 := hbV2.cell
    have f3 := HBX.out.cell
    clear hbV1 hfV1 hbl1 hb1 hb2 hbV2 hfV2 c0 e0
    cases r
    · gi_wp2_with fail
      exact ⟨HKS.out, rfl, HBX.out, ⟨x, by simp, HR.out.symm⟩, HBL.out⟩
    · gi_wp2_with fail
      refine ⟨HKS.out, HBX.out, HFX.out, fun y hy => ?_, HBL.out⟩
      rcases List.mem_append.1 hy with hy | hy
      · exact HPRE.out y hy
      · obtain rfl := List.mem_singleton.1 hy
        exact HR.out.symm
  case done =>
    intro xs O Z hall hI hD
    obtain ⟨hbx2, _, hpre, hbl⟩ := hI
    have hz := hbx2.cell
    have hfin := Lib.hid (show seenB f a n = true from by
      unfold seenB
      rw [List.all_eq_true, ← show xs = pts a n from hall]
      exact hpre)
    have HBE := Lib.hid (show Below w.heap.size w (Z.putObj W5.heap.size (.deferred none)) from hbl.grown (putObj_grown Z _ _) hbl.size (fun r e => by cases e; omega))
    have HD := Lib.hid hD
    clear hall hbx2 hpre hbl hit hY1 hY2 hD
    go_wp2_with fail
    refine hR.out _ _ _ _ (by simp) ?_
    refine ⟨by simp, .inl ⟨_, _, rfl, run_takeDeferred HD.out, ?_⟩⟩
    exact ⟨_, results_tmp (t := 4) rfl _ _ _, by rw [hfin.out]; rfl, HBE.out⟩
  case stop =>
    rintro c' xs O Z ⟨post, hpost⟩ ⟨rfl, hbx2, hno, hbl⟩ hD
    have hz := hbx2.cell
    have hfin := Lib.hid (show seenB f a n = false from by
      unfold seenB
      obtain ⟨y, hy, hfy⟩ := hno
      rw [List.all_eq_false, hpost]
      exact ⟨y, by simp [hy], by simp [hfy]⟩)
    have HBE := Lib.hid (show Below w.heap.size w (Z.putObj W5.heap.size (.deferred none)) from hbl.grown (putObj_grown Z _ _) hbl.size (fun r e => by cases e; omega))
    have HD := Lib.hid hD
    clear hpost hbx2 hno hbl hit hY1 hY2 hD
    refine wpIn_wide.2 ?_
    go_wp2_with fail
    refine hR.out _ _ _ _ (by simp) ?_
    refine ⟨by simp, .inl ⟨_, _, rfl, run_takeDeferred HD.out, ?_⟩⟩
    exact ⟨_, results_tmp (t := 4) rfl _ _ _, by rw [hfin.out]; rfl, HBE.out⟩
end Go.Proofs.YtkfljominljliaaGreat.Vm
