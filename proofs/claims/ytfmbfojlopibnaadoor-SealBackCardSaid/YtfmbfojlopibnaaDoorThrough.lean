import Derived.Test.YtfmbfojlopibnaaDoorOn
import Derived.Test.YtfmbfojlopibnaaDoorRegion
namespace Go.Proofs.YtfmbfojlopibnaaDoor
open Go.RowKit Go.Shelf
attribute [local go_sem] Oper.semAt_some

/- ALL ROUNDS OF A KEY, WITH WHATEVER A ROUND DOES. -/

/-- the rounds that there are, from start on -/
def rsOf (start by_ : Int) : List Nat := (seqR start by_ 8).map Int.toNat
theorem rs_ups : rsOf 0 1 = ups := by decide
theorem rs_downs : rsOf 7 (-1) = downs := by decide
def known (x : Int) : Bool := decide (0 ≤ x) && decide (x ≤ 7)

section
variable (k g : Nat) (start by_ : Int) (f : Nat × Nat → Nat → Nat × Nat) (h0 : Nat × Nat) (w : World) (cf : Nat)
/-- what holds between two rounds -/
def tI (pre : List Int) (_ : Nat → Prop) (V : World) : Prop :=
  pre.length ≤ 8 ∧ Boxed V (w.heap.size + 1) 105 (.func (.func cf) #[] #[.pointer (some ⟨g, 0, none⟩)]) ∧ Rh V g (goes f k (pre.map Int.toNat) h0) ∧ Keep (· = g) w V
/-- what holds when there is no such round -/
def tX (c : Code) (_ : List Int) (_ : Nat → Prop) (V : World) : Prop :=
  c = .exit 0 ∧ Rh V g (goes f k (rsOf start by_) h0) ∧ Keep (· = g) w V
end
section
variable {k g : Nat} {start by_ : Int} {f : Nat × Nat → Nat → Nat × Nat} {h0 : Nat × Nat} {w : World} {cf : Nat}
theorem Rh.grown {V V' : World} {h : Nat × Nat} {row : Option Nat} (hr : Rh V g h) (hg : V.grownBy V' row) (hn : some g ≠ row) : Rh V' g h := ⟨hr.1.same (hg.block _ hr.1.lt hn), hr.2⟩
theorem Keep.grown {F : Nat → Prop} {w V V' : World} {row : Option Nat} (h : Keep F w V) (hg : V.grownBy V' row) (hr : ∀ r, row = some r → w.heap.size ≤ r ∨ F r) : Keep F w V' :=
  ⟨hg.os.trans h.os, hg.tape.trans h.tape, hg.output.trans h.output, Nat.le_trans h.size hg.size, fun k hk hf => (hg.block k (Nat.lt_of_lt_of_le hk h.size) (fun e => by
    rcases hr k e.symm with h1 | h1
    · omega
    · exact hf h1)).trans (h.block k hk hf)⟩
theorem tI.abid {B : Nat} (hB : w.heap.size + 2 ≤ B) (hg : g < w.heap.size) : Abid B (tI k g f h0 w cf) := by
  rintro s O V V' row ⟨h1, h2, h3, h4⟩ hgr hr
  have hne : ∀ k, k < B → some k ≠ row := fun k hk e => by have := (hr k e.symm).1; omega
  exact ⟨h1, h2.kept hgr (hne _ (by omega)), h3.grown hgr (hne _ (by omega)), h4.grown hgr (fun r e => by have := (hr r e).1; omega)⟩
theorem tX.abid {B : Nat} (hB : w.heap.size + 2 ≤ B) (hg : g < w.heap.size) (c : Code) : Abid B (tX k g start by_ f h0 w c) := by
  rintro s O V V' row ⟨h1, h3, h4⟩ hgr hr
  have hne : ∀ k, k < B → some k ≠ row := fun k hk e => by have := (hr k e.symm).1; omega
  exact ⟨h1, h3.grown hgr (hne _ (by omega)), h4.grown hgr (fun r e => by have := (hr r e).1; omega)⟩
end

set_option maxHeartbeats 2000000 in
theorem through_any (k g cf : Nat) (start by_ : Int) (f : Nat × Nat → Nat → Nat × Nat) (h0 : Nat × Nat) (w : World) (hk : k < 18446744073709551616) (hsb : (start = 0 ∧ by_ = 1) ∨ (start = 7 ∧ by_ = -1))
    (eg : ∀ args w, (callFunc cf args).run Tryd.prog w = .ok (.enter cf args) w) (hd : Does cf g f) (hr : Rh w g h0) :
    Calls Tryd.prog 59 #[.agg #[.int .u64 (k : Int), .int .i64 start], .int .i64 by_, .func (.func cf) #[] #[.pointer (some ⟨g, 0, none⟩)]] w fun e w' =>
      e = .returned (.tuple #[]) ∧ Rh w' g (goes f k (rsOf start by_) h0) ∧ Keep (· = g) w w' := by
  have hgl := hr.1.lt
  refine calls_marks Tryd.func59 rfl ?_
  simp only [Tryd.ntmps59, List.size_toArray, List.length_cons, List.length_nil, Nat.reduceAdd, Nat.reduceSub, Array.replicate_succ, Array.replicate_zero, List.push_toArray, List.append_toArray, List.nil_append, List.cons_append]
  go_wp2_with fail
  refine wp_scope_jump 0 fun R hR hJm => ?_
  go_wp2_with fail
  go_step3
  go_wp2_with fail
  refine (on_any k start by_ _).mono ?_
  rintro e w2' ⟨rfl, rfl⟩
  obtain ⟨wa, hwa⟩ : ∃ wa, wa = (w.alloc (.cells #[.int .u64 (k : Int), .int .i64 start] 101)).alloc (.cells #[.func (.func cf) #[] #[.pointer (some ⟨g, 0, none⟩)]] 105) := ⟨_, rfl⟩
  have hsa : wa.heap.size = w.heap.size + 2 := by rw [hwa]; simp
  have hBa : Below w.heap.size w wa := by rw [hwa]; exact below2 _ _ _
  have hXa : Boxed wa (w.heap.size + 1) 105 (.func (.func cf) #[] #[.pointer (some ⟨g, 0, none⟩)]) := by
    rw [hwa]
    have h := Boxed.new (w.alloc (.cells #[.int .u64 (k : Int), .int .i64 start] 101)) 105 (.func (.func cf) #[] #[.pointer (some ⟨g, 0, none⟩)])
    rw [World.size_alloc] at h
    exact h
  rw [← hwa]
  clear hwa
  rw [hsa]
  obtain ⟨w2, hw2⟩ : ∃ w2, w2 = (wa.alloc (.cells #[.int .u64 (k : Int), .int .i64 start] 101)).alloc (.cells #[.int .i64 by_] 3) := ⟨_, rfl⟩
  have hs2 : w2.heap.size = w.heap.size + 4 := by rw [hw2]; simp; omega
  have hBb : Below wa.heap.size wa w2 := by rw [hw2]; exact below2 _ _ _
  have hB2 : Below w.heap.size w w2 := hBa.trans (hBb.mono hBa.size)
  have hX2 : Boxed w2 (w.heap.size + 1) 105 (.func (.func cf) #[] #[.pointer (some ⟨g, 0, none⟩)]) := (hBb.block _ (by omega)).trans hXa
  have hk2 : Row w2 (w.heap.size + 2) 101 [.int .u64 (k : Int), .int .i64 start] := by
    rw [hw2]; exact (Row.new_at wa _ _ hsa).below (below1 _ _)
  have hb2 : Row w2 (w.heap.size + 2 + 1) 3 [.int .i64 by_] := by
    rw [hw2]; exact Row.new_at _ _ _ (by simp; omega)
  have hit := on1_it k start by_ 8 (w.heap.size + 2) (w.heap.size + 2 + 1) w2 (by rcases hsb with h | h; exact .inl h.2; exact .inr h.2) (by rcases hsb with ⟨h, _⟩ | ⟨h, _⟩ <;> rw [h] <;> omega) (by omega) hk2 hb2
  have hr2 : Rh w2 g h0 := ⟨hr.1.below hB2, hr.2⟩
  rw [← hw2]
  clear hw2 hXa
  go_wp2_with fail
  refine wpIn_wide.1 (wpIn_range_boxN (gf := 83) (lb := #[.pointer (some ⟨w.heap.size + 2, 0, none⟩), .pointer (some ⟨w.heap.size + 2 + 1, 0, none⟩)]) rfl (enters_of Tryd.func83 (by kernel_rfl) rfl) hit (fun b hb => by rcases hb with rfl | rfl <;> omega) (fun _ => rfl) (fun _ _ _ _ _ h => h)
    (tI k g f h0 w cf) (tX k g start by_ f h0 w) (tI.abid (by omega) hgl) (tX.abid (by omega) hgl) ⟨by simp, hX2, hr2, Keep.of_below hB2⟩ (fun _ _ _ h => h.1)
    (fun b x => { tmps := #[.agg #[.int .u64 (k : Int), .int .i64 start], .int .i64 by_, .func (.func cf) #[] #[.pointer (some ⟨g, 0, none⟩)], .pointer (some ⟨w.heap.size, 0, none⟩), undef, .pointer (some ⟨w.heap.size + 1, 0, none⟩), .pointer (some ⟨b, 0, none⟩), .agg #[.int .u64 (k : Int), .int .i64 start], .int .i64 by_, .func (.func 83) #[] #[.pointer (some ⟨w.heap.size + 2, 0, none⟩), .pointer (some ⟨w.heap.size + 2 + 1, 0, none⟩)], .agg #[.int .u64 (k : Int), .int .i64 x], undef, undef, undef, undef, undef, undef, undef], defers := [] }) (fun x => .cells #[.int .u64 (k : Int), .int .i64 x] 101) ?assign ?body ?done ?stop)
  case assign =>
    intro l' x W' K hK
    simp only [encR]
    gi_wp2
    exact hK
  case body =>
    rintro l' pre x O V hVs hO ⟨hlen, hx1, hrh, hkp⟩ hpx _
    obtain ⟨V1, hV1⟩ : ∃ V1, V1 = V.alloc (.cells #[.int .u64 (k : Int), .int .i64 x] 101) := ⟨_, rfl⟩
    have hb1 : Below V.heap.size V V1 := by rw [hV1]; exact below1 _ _
    have hz1 : V1.heap.size = V.heap.size + 1 := by rw [hV1]; simp
    have hy0 : Row V1 V.heap.size 101 [.int .u64 (k : Int), .int .i64 x] := by rw [hV1]; exact Row.new _ _ _
    have hy1 : Boxed V1 (w.heap.size + 1) 105 (.func (.func cf) #[] #[.pointer (some ⟨g, 0, none⟩)]) := (hb1.block _ (by omega)).trans hx1
    have hkn := Lib.hid (fun W => known_any k x W)
    have e0 : V1.cell? ⟨V.heap.size, 0, none⟩ = some (.int .u64 (k : Int)) := hy0.cell 0
    have e1 : V1.cell? ⟨V.heap.size, 1, none⟩ = some (.int .i64 x) := hy0.cell 1
    have HPX := Lib.hid hpx
    rw [← hV1]
    clear hV1 hit hX2 hk2 hb2 hr2 hpx
    by_cases hkx : 0 ≤ x ∧ x ≤ 7
    · rw [show (decide (0 ≤ x) && decide (x ≤ 7)) = true by simp [hkx.1, hkx.2]] at hkn
      gi_wp2_with fail
      refine ⟨trivial, rfl, CallsIn.inRound l' ((callsIn_wide.2 (hkn.out _)).mono ?_)⟩
      rintro e w1 ⟨rfl, hb2⟩
      have hB := hb1.trans (hb2.mono hb1.size)
      obtain ⟨n, rfl⟩ := Int.eq_ofNat_of_zero_le hkx.1
      have hn8 : n < 8 := by omega
      have hr1 := hrh.1.below hB
      have HRH := Lib.hid (show Rh w1 g (goes f k (pre.map Int.toNat) h0) from ⟨hr1, hrh.2⟩)
      have m0 : w1.cell? ⟨w.heap.size + 1, 0, none⟩ = some (.func (.func cf) #[] #[.pointer (some ⟨g, 0, none⟩)]) := Boxed.cell ((hb2.block _ (by omega)).trans hy1)
      have l0 := lt_of_cell m0
      have m1 : w1.cell? ⟨V.heap.size, 0, none⟩ = some (.int .u64 (k : Int)) := (hb2.cell (p := ⟨V.heap.size, 0, none⟩) (by simp; omega)).trans e0
      have m2 : w1.cell? ⟨V.heap.size, 1, none⟩ = some (.int .i64 (n : Int)) := (hb2.cell (p := ⟨V.heap.size, 1, none⟩) (by simp; omega)).trans e1
      have hnum := Lib.hid (fun W (_hb : Below w1.heap.size w1 W) => number_any k n W hk hn8)
      have hdr : Below w1.heap.size w1 w1.drew := (Below.refl _ _).drew
      have hpost := Lib.hid (fun (w3 : World) (hb3 : Below w1.drew.heap.size w1.drew w3) (w4 : World) (hrh4 : Rh w4 g (f (goes f k (pre.map Int.toNat) h0) (rnum k n))) (hk4 : Keep (· = g) w3 w4) =>
        (show Keeps (fun b => b = w.heap.size + 2 ∨ b = w.heap.size + 2 + 1) w2.heap.size O (fun _ => False) V w4 ∧ tI k g f h0 w cf (pre ++ [(n : Int)]) (nextO O (fun _ => False) V w4) w4 from by
          have hB3 : Below V.heap.size V w3 := hB.trans ((hdr.trans (hb3.mono (Nat.le_refl _))).mono hB.size)
          have hK4 : Keep (· = g) V w4 := (Keep.of_below (F := (· = g)) hB3).trans hk4 (fun _ _ h => h)
          have hlen2 : pre.length < 8 := by
            have := HPX.out.2
            rcases hsb with ⟨h1, h2⟩ | ⟨h1, h2⟩ <;> rw [h1, h2] at this <;> omega
          refine ⟨⟨hK4.size, fun b hb hp => hK4.block b hb (show ¬ b = g from ?_)⟩, by simp; omega, (hK4.block _ (by omega) (show ¬ _ = g by omega)).trans hx1, ?_, hkp.trans hK4 (fun _ _ h => h)⟩
          · rcases hp with (h | h) | ⟨h, _⟩ <;> omega
          · rw [List.map_append, List.map_singleton, Int.toNat_natCast, goes_one]
            exact hrh4))
      have hcl := Lib.hid (fun (w3 : World) (hb3 : Below w1.drew.heap.size w1.drew w3) => hd (goes f k (pre.map Int.toNat) h0) (rnum k n) w3 ⟨hr1.below (hdr.trans (hb3.mono (Nat.le_refl _))), hrh.2⟩)
      clear hr1 HRH hrh hkp hB hb1 hb2 hy0 hy1
      gi_wp2_with fail
      refine region_round l' (by kernel_rfl) (by kernel_rfl) ?_
      refine wpAnyIn_ready (rs := [0, 1]) (by kernel_rfl) (by simp) ?_
      refine AllReadyIn.cons rfl (fun K hK => ?_) (AllReadyIn.cons rfl (fun K hK => ?_) AllReadyIn.nil)
      · go_simp
        refine hK _ _ ?_
        clear hK K
        refine wpAnyIn_ready (rs := [1]) (by kernel_rfl) (by simp) ?_
        refine AllReadyIn.cons rfl (fun K hK => ?_) AllReadyIn.nil
        go_simp
        refine hK _ _ ?_
        clear hK K
        refine wpAnyIn_ready (rs := [2]) (by kernel_rfl) (by simp) ?_
        refine AllReadyIn.cons rfl (fun K hK => ?_) AllReadyIn.nil
        go_simp
        refine ⟨trivial, rfl, (callsIn_wide.2 (hnum.out _ hdr)).mono ?_⟩
        rintro e w3 ⟨rfl, hb3⟩
        have n0 := (hb3.cell (p := ⟨w.heap.size + 1, 0, none⟩) l0).trans m0
        refine hK _ _ ?_
        clear hK K
        refine wpAnyIn_ready (rs := [3]) (by kernel_rfl) (by simp) ?_
        refine AllReadyIn.cons rfl (fun K hK => ?_) AllReadyIn.nil
        go_simp
        refine ⟨trivial, rfl, (callsIn_wide.2 (hcl.out _ hb3)).mono ?_⟩
        rintro e w4 ⟨rfl, hrh4, hk4⟩
        refine hK _ _ ?_
        clear hK K
        refine wpAnyIn_done (by kernel_rfl) ?_ _
        have hfin := Lib.hid (hpost.out _ hb3 _ hrh4 hk4)
        clear hrh4 hk4 hb3 n0
        gi_wp2
        exact hfin.out
      · go_simp
        refine hK _ _ ?_
        clear hK K
        refine wpAnyIn_ready (rs := [0, 2]) (by kernel_rfl) (by simp) ?_
        refine AllReadyIn.cons rfl (fun K hK => ?_) (AllReadyIn.cons rfl (fun K hK => ?_) AllReadyIn.nil)
        · go_simp
          refine hK _ _ ?_
          clear hK K
          refine wpAnyIn_ready (rs := [2]) (by kernel_rfl) (by simp) ?_
          refine AllReadyIn.cons rfl (fun K hK => ?_) AllReadyIn.nil
          go_simp
          refine ⟨trivial, rfl, (callsIn_wide.2 (hnum.out _ hdr)).mono ?_⟩
          rintro e w3 ⟨rfl, hb3⟩
          have n0 := (hb3.cell (p := ⟨w.heap.size + 1, 0, none⟩) l0).trans m0
          refine hK _ _ ?_
          clear hK K
          refine wpAnyIn_ready (rs := [3]) (by kernel_rfl) (by simp) ?_
          refine AllReadyIn.cons rfl (fun K hK => ?_) AllReadyIn.nil
          go_simp
          refine ⟨trivial, rfl, (callsIn_wide.2 (hcl.out _ hb3)).mono ?_⟩
          rintro e w4 ⟨rfl, hrh4, hk4⟩
          refine hK _ _ ?_
          clear hK K
          refine wpAnyIn_done (by kernel_rfl) ?_ _
          have hfin := Lib.hid (hpost.out _ hb3 _ hrh4 hk4)
          clear hrh4 hk4 hb3 n0
          gi_wp2
          exact hfin.out
        · go_simp
          refine ⟨trivial, rfl, (callsIn_wide.2 (hnum.out _ hdr)).mono ?_⟩
          rintro e w3 ⟨rfl, hb3⟩
          have n0 := (hb3.cell (p := ⟨w.heap.size + 1, 0, none⟩) l0).trans m0
          refine hK _ _ ?_
          clear hK K
          refine wpAnyIn_ready (rs := [0]) (by kernel_rfl) (by simp) ?_
          refine AllReadyIn.cons rfl (fun K hK => ?_) AllReadyIn.nil
          go_simp
          refine hK _ _ ?_
          clear hK K
          refine wpAnyIn_ready (rs := [3]) (by kernel_rfl) (by simp) ?_
          refine AllReadyIn.cons rfl (fun K hK => ?_) AllReadyIn.nil
          go_simp
          refine ⟨trivial, rfl, (callsIn_wide.2 (hcl.out _ hb3)).mono ?_⟩
          rintro e w4 ⟨rfl, hrh4, hk4⟩
          refine hK _ _ ?_
          clear hK K
          refine wpAnyIn_done (by kernel_rfl) ?_ _
          have hfin := Lib.hid (hpost.out _ hb3 _ hrh4 hk4)
          clear hrh4 hk4 hb3 n0
          gi_wp2
          exact hfin.out
    · rw [show (decide (0 ≤ x) && decide (x ≤ 7)) = false by simp; omega] at hkn
      gi_wp2_with fail
      refine ⟨trivial, rfl, CallsIn.inRound l' ((callsIn_wide.2 (hkn.out _)).mono ?_)⟩
      rintro e w1 ⟨rfl, hb2⟩
      have hB := hb1.trans (hb2.mono hb1.size)
      have hfin : Hid (Keeps (fun b => b = w.heap.size + 2 ∨ b = w.heap.size + 2 + 1) w2.heap.size O (fun _ => False) V w1 ∧ tX k g start by_ f h0 w (.exit 0) (pre ++ [x]) (nextO O (fun _ => False) V w1) w1) := Lib.hid (by
        refine ⟨⟨hB.size, fun b hb _ => hB.block b hb⟩, rfl, ?_, hkp.trans (Keep.of_below (F := (· = g)) hB) (fun _ _ h => h)⟩
        have hl8 : pre.length = 8 := by
          have := HPX.out.2
          rcases hsb with ⟨h1, h2⟩ | ⟨h1, h2⟩ <;> rw [h1, h2] at this <;> omega
        have hpe : pre.map Int.toNat = rsOf start by_ := by
          have := HPX.out.1
          unfold someR at this
          rw [hl8] at this
          rw [this, rsOf]
        rw [hpe] at hrh
        exact ⟨hrh.1.below hB, hrh.2⟩)
      clear hB hb2
      gi_wp2
      exact hfin.out
  case done => intro xs O V h; exact h.elim
  case stop =>
    rintro c' pre' O V hsp ⟨rfl, hrh, hkp⟩ hD
    have hfin := Lib.hid (show Rh (V.putObj w2.heap.size (.deferred none)) g (goes f k (rsOf start by_) h0) ∧ Keep (· = g) w (V.putObj w2.heap.size (.deferred none)) from
      ⟨hrh.grown (putObj_grown V _ _) (fun e => by injection e with e; omega), hkp.grown (putObj_grown V _ _) (fun r e => by cases e; exact .inl (by omega))⟩)
    clear hit hX2 hk2 hb2 hr2 hrh hkp hsp
    refine wpIn_wide.2 ?_
    go_wp2
    refine hR.out _ _ _ _ (by simp) ?_
    refine ⟨by simp, .inl ⟨_, _, rfl, run_takeDeferred hD, ?_⟩⟩
    exact ⟨_, results_none rfl _ _ _, rfl, hfin.out⟩
end Go.Proofs.YtfmbfojlopibnaaDoor
