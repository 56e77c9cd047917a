import Derived.Test.YtfmbfojlopibnaaDoorSpoilt
namespace Go.Proofs.YtfmbfojlopibnaaDoor
open Go.RowKit Go.Shelf
attribute [local go_sem] Oper.semAt_some

/- WHAT IS SPOILT FIRST. -/

theorem spoilt_any (x0 x1 x2 x3 y0 y1 y2 : Value) (w : World) : Calls Tryd.prog 48 #[.agg #[x0, x1, x2, x3], .agg #[y0, y1, y2]] w fun e w' =>
    e = .returned (.func (.func 64) #[] #[.pointer (some ⟨w.heap.size, 0, none⟩), .pointer (some ⟨w.heap.size + 1, 0, none⟩)]) ∧
      (w.alloc (.cells #[x0, x1, x2, x3] 77)).alloc (.cells #[y0, y1, y2] 60) = w' := by
  go_enter Tryd.func48, Tryd.ntmps48
  go_wp2_with fail
  go_ret
  exact ⟨rfl, rfl⟩

def firstOf : List Int → Int
  | [] => 0
  | x :: _ => x

section
variable (w : World)
def oI (pre : List Int) (_ : Nat → Prop) (V : World) : Prop := pre = [] ∧ Row V (w.heap.size + 1 + 1) 44 [.int .i64 0] ∧ Below w.heap.size w V
def oX (c : Code) (pre : List Int) (_ : Nat → Prop) (V : World) : Prop := c = .exit 0 ∧ ∃ x, pre = [x] ∧ Row V (w.heap.size + 1 + 1) 44 [.int .i64 x] ∧ Below w.heap.size w V
end
section
variable {w : World}
theorem oI.abid {B : Nat} (hB : w.heap.size + 3 ≤ B) : Abid B (oI w) := by
  rintro s O V V' row ⟨h1, h2, h3⟩ hg hr
  have hne : ∀ k, k < B → some k ≠ row := fun k hk e => by have := (hr k e.symm).1; omega
  exact ⟨h1, h2.same (hg.block _ h2.lt (hne _ (by omega))), h3.grown hg h3.size (fun r e => by have := (hr r e).1; omega)⟩
theorem oX.abid {B : Nat} (hB : w.heap.size + 3 ≤ B) (c : Code) : Abid B (oX w c) := by
  rintro s O V V' row ⟨h1, x, e1, h2, h3⟩ hg hr
  have hne : ∀ k, k < B → some k ≠ row := fun k hk e => by have := (hr k e.symm).1; omega
  exact ⟨h1, x, e1, h2.same (hg.block _ h2.lt (hne _ (by omega))), h3.grown hg h3.size (fun r e => by have := (hr r e).1; omega)⟩
end

set_option maxHeartbeats 2000000 in
theorem first_any (k at_ c s n : Nat) (A1 A2 : Option Addr) (n1 c1 n2 c2 : Nat) (l1 l2 : List UInt8) (w : World) (ht : Tab w) (hk : k < 18446744073709551616) (ha : at_ < 4294967296) (hc : c < 8) (hs : s ≤ 65535) (hn : n < 4294967296)
    (hn1 : l1.length = n1) (hm1 : n1 ≤ 140737488351232) (hn2 : l2.length = n2) (hm2 : n2 ≤ 140737488351232) (hr1 : Sees w w.heap.size A1 (byt l1)) (hr2 : Sees w w.heap.size A2 (byt l2)) :
    Calls Tryd.prog 34 #[.agg #[.int .u64 (k : Int), .int .u32 (at_ : Int), .slice A1 n1 c1, .slice A2 n2 c2], .agg #[.int .i64 (c : Int), .int .i64 (s : Int), .int .u32 (n : Int)]] w fun e w' =>
      e = .returned (.int .i64 (firstOf (spL l1 l2 (sealB (foldN [k, at_]) (tagW c s n)) (sealB (foldN [at_, k]) (tagW c s n))))) ∧ Below w.heap.size w w' := by
  obtain ⟨L, hL⟩ : ∃ L, L = spL l1 l2 (sealB (foldN [k, at_]) (tagW c s n)) (sealB (foldN [at_, k]) (tagW c s n)) := ⟨_, rfl⟩
  rw [← hL]
  obtain ⟨w1, hw1⟩ : ∃ w1, w1 = ((w.alloc (.cells #[.int .u64 (k : Int), .int .u32 (at_ : Int), .slice A1 n1 c1, .slice A2 n2 c2] 77)).alloc (.cells #[.int .i64 (c : Int), .int .i64 (s : Int), .int .u32 (n : Int)] 60)).alloc (.cells #[.int .i64 0] 44) := ⟨_, rfl⟩
  have hB1 : Below w.heap.size w w1 := by rw [hw1]; exact below3 _ _ _ _
  have hs1 : w1.heap.size = w.heap.size + 3 := by rw [hw1]; simp
  have hq1 : Row w1 (w.heap.size + 1 + 1) 44 [.int .i64 0] := by rw [hw1]; exact Row.new_at _ _ _ (by simp)
  refine calls_marks Tryd.func34 rfl ?_
  simp only [Tryd.ntmps34, List.size_toArray, List.length_cons, List.length_nil, Nat.reduceAdd, Nat.reduceSub, Array.replicate_succ, Array.replicate_zero, List.push_toArray, List.append_toArray, List.nil_append, List.cons_append]
  go_wp2_with fail
  refine wp_scope_jump 0 fun R hR hJm => ?_
  go_wp2_with fail
  go_step3
  go_wp2_with fail
  rw [← hw1]
  clear hw1
  refine (spoilt_any _ _ _ _ _ _ _ w1).mono ?_
  rintro e w2' ⟨rfl, rfl⟩
  rw [hs1]
  obtain ⟨w2, hw2⟩ : ∃ w2, w2 = (w1.alloc (.cells #[.int .u64 (k : Int), .int .u32 (at_ : Int), .slice A1 n1 c1, .slice A2 n2 c2] 77)).alloc (.cells #[.int .i64 (c : Int), .int .i64 (s : Int), .int .u32 (n : Int)] 60) := ⟨_, rfl⟩
  have hb2 : Below w1.heap.size w1 w2 := by rw [hw2]; exact below2 _ _ _
  have hs2 : w2.heap.size = w.heap.size + 5 := by rw [hw2]; simp; omega
  have hB2 := hB1.trans (hb2.mono hB1.size)
  have hq2 := hq1.below hb2
  have hE : EndsAt (w.heap.size + 3) (w.heap.size + 3 + 1) k at_ c s n A1 A2 n1 c1 n2 c2 l1 l2 w2 :=
    ⟨by rw [hw2]; exact (Row.new_at _ _ _ hs1).below (below1 _ _), by rw [hw2]; exact Row.new_at _ _ _ (by simp; omega), ht.below hB2, (hr1.below hB2).more hB2.size, (hr2.below hB2).more hB2.size⟩
  have hit := spoilt1_it (w.heap.size + 3) (w.heap.size + 3 + 1) k at_ c s n A1 A2 n1 c1 n2 c2 l1 l2 w2 hk ha hc hs hn hn1 hm1 hn2 hm2 hE
  rw [← hL] at hit
  have hpl : ∀ b, privE (w.heap.size + 3) (w.heap.size + 3 + 1) A1 A2 l1 l2 b → b < w2.heap.size ∧ b ≠ w.heap.size + 1 + 1 := by
    intro b hb
    refine ⟨hb.lt hE, ?_⟩
    rcases hb with rfl | rfl | rfl | ⟨ad, e, rfl, hne⟩ | ⟨ad, e, rfl, hne⟩
    · omega
    · omega
    · have := ht.lt; omega
    · obtain ⟨ad', e', hl, _⟩ := hr1 hne
      rw [e] at e'
      injection e' with e'
      subst e'
      omega
    · obtain ⟨ad', e', hl, _⟩ := hr2 hne
      rw [e] at e'
      injection e' with e'
      subst e'
      omega
  rw [← hw2]
  clear hw2 ht hk ha hc hs hn hn1 hm1 hn2 hm2 hE hL hr1 hr2 hb2 hq1
  go_wp2_with fail
  refine wpIn_wide.1 (wpIn_range_it (gf := 64) (lb := #[.pointer (some ⟨w.heap.size + 3, 0, none⟩), .pointer (some ⟨w.heap.size + 3 + 1, 0, none⟩)]) rfl (enters_of Tryd.func64 (by kernel_rfl) rfl) hit (fun b hb => (hpl b hb).1) (fun _ => rfl) (fun _ _ _ _ _ h => h)
    (oI w) (oX w) (oI.abid (by omega)) (oX.abid (by omega)) ⟨rfl, hq2, hB2⟩
    (fun x => { tmps := #[.agg #[.int .u64 (k : Int), .int .u32 (at_ : Int), .slice A1 n1 c1, .slice A2 n2 c2], .agg #[.int .i64 (c : Int), .int .i64 (s : Int), .int .u32 (n : Int)], .pointer (some ⟨w.heap.size, 0, none⟩), .pointer (some ⟨w.heap.size + 1, 0, none⟩), .int .i64 0, .pointer (some ⟨w.heap.size + 1 + 1, 0, none⟩), .int .i64 x, .agg #[.int .u64 (k : Int), .int .u32 (at_ : Int), .slice A1 n1 c1, .slice A2 n2 c2], .agg #[.int .i64 (c : Int), .int .i64 (s : Int), .int .u32 (n : Int)], .func (.func 64) #[] #[.pointer (some ⟨w.heap.size + 3, 0, none⟩), .pointer (some ⟨w.heap.size + 3 + 1, 0, none⟩)], .int .i64 x, undef, undef], defers := [] }) ?assign ?body ?done ?stop)
  case assign =>
    intro l' x W' K hK
    gi_wp2
    exact hK
  case body =>
    rintro l' pre x O V hVs hO ⟨rfl, hq, hbv⟩ _ _
    have d0 : V.cell? ⟨w.heap.size + 1 + 1, 0, none⟩ = some (.int .i64 0) := hq.cell 0
    have f0 := hq.frozen 0
    have hfin := Lib.hid (show Keeps (privE (w.heap.size + 3) (w.heap.size + 3 + 1) A1 A2 l1 l2) w2.heap.size O (fun _ => False) V (V.setCell ⟨w.heap.size + 1 + 1, 0, none⟩ (.int .i64 x)) ∧ oX w (.exit 0) ([] ++ [x]) (nextO O (fun _ => False) V (V.setCell ⟨w.heap.size + 1 + 1, 0, none⟩ (.int .i64 x))) (V.setCell ⟨w.heap.size + 1 + 1, 0, none⟩ (.int .i64 x)) from
      ⟨⟨by simp [World.setCell], fun b hb hp => heap_set (by
        rcases hp with hp | ⟨hp, _⟩
        · exact (hpl b hp).2
        · omega)⟩, rfl, x, rfl, hq.set 0 (.int .i64 x), hbv.setCell (by simp; omega) _⟩)
    clear hit hq2 hB2 hq hbv hs2 hpl
    gi_wp2
    exact hfin.out
  case done =>
    rintro xs O V hxs ⟨h0, hq, hbv⟩ hD
    have hL0 : firstOf L = 0 := by rw [← hxs, h0]; rfl
    have d0 : V.cell? ⟨w.heap.size + 1 + 1, 0, none⟩ = some (.int .i64 0) := hq.cell 0
    have hB' := Lib.hid (show Below w.heap.size w (V.putObj w2.heap.size (.deferred none)) from hbv.grown (putObj_grown V _ _) hbv.size (fun r e => by cases e; omega))
    have HL0 := Lib.hid hL0
    clear hit hq2 hB2 hq hbv hpl hL0 hxs h0
    go_wp2
    refine hR.out _ _ _ _ (by simp) ?_
    refine ⟨by simp, .inl ⟨_, _, rfl, run_takeDeferred hD, ?_⟩⟩
    exact ⟨_, results_tmp (t := 4) rfl _ _ _, by rw [HL0.out]; rfl, hB'.out⟩
  case stop =>
    rintro c' pre O V ⟨post, hpo⟩ ⟨rfl, x, rfl, hq, hbv⟩ hD
    have hL0 : firstOf L = x := by rw [hpo]; rfl
    have d0 : V.cell? ⟨w.heap.size + 1 + 1, 0, none⟩ = some (.int .i64 x) := hq.cell 0
    have hB' := Lib.hid (show Below w.heap.size w (V.putObj w2.heap.size (.deferred none)) from hbv.grown (putObj_grown V _ _) hbv.size (fun r e => by cases e; omega))
    have HL0 := Lib.hid hL0
    clear hit hq2 hB2 hq hbv hpl hL0 hpo
    refine wpIn_wide.2 ?_
    go_wp2
    refine hR.out _ _ _ _ (by simp) ?_
    refine ⟨by simp, .inl ⟨_, _, rfl, run_takeDeferred hD, ?_⟩⟩
    exact ⟨_, results_tmp (t := 4) rfl _ _ _, by rw [HL0.out]; rfl, hB'.out⟩

/-- what is told as spoilt -/
def lookN (k at_ c s n : Nat) (l1 l2 : List UInt8) : Int := firstOf (spL l1 l2 (sealB (foldN [k, at_]) (tagW c s n)) (sealB (foldN [at_, k]) (tagW c s n)))

set_option maxHeartbeats 1000000 in
theorem toldS_ok (k at_ c s n : Nat) (A1 A2 : Option Addr) (n1 c1 n2 c2 : Nat) (l1 l2 : List UInt8) (w : World) (ht : Tab w) (hk : k < 18446744073709551616) (ha : at_ < 4294967296) (hc : c < 8) (hs : s ≤ 65535) (hn : n < 4294967296)
    (hn1 : l1.length = n1) (hm1 : n1 ≤ 140737488351232) (hn2 : l2.length = n2) (hm2 : n2 ≤ 140737488351232) (hr1 : Sees w w.heap.size A1 (byt l1)) (hr2 : Sees w w.heap.size A2 (byt l2)) :
    Calls Tryd.prog 33 #[.agg #[.int .i64 (c : Int), .int .i64 (s : Int), .int .u32 (n : Int)], .func (.func 34) #[.agg #[.int .u64 (k : Int), .int .u32 (at_ : Int), .slice A1 n1 c1, .slice A2 n2 c2]] #[]] w fun e w' =>
      e = .returned (.tuple #[.int .i64 (lookN k at_ c s n l1 l2), .int .i64 0]) ∧ Below w.heap.size w w' := by
  have h1 := Lib.hid (fun W => tknown_any (c : Int) s n W)
  rw [okT_iff.2 (show (0 : Int) ≤ c ∧ (c : Int) < 8 ∧ (0 : Int) ≤ s ∧ (s : Int) ≤ 65535 by omega)] at h1
  obtain ⟨w0, hw0⟩ : ∃ w0, w0 = (w.alloc (.cells #[.int .i64 (c : Int), .int .i64 (s : Int), .int .u32 (n : Int)] 27)).alloc (.cells #[.int .i64 (c : Int), .int .i64 (s : Int), .int .u32 (n : Int)] 60) := ⟨_, rfl⟩
  have hB0 : Below w.heap.size w w0 := by rw [hw0]; exact below2 _ _ _
  have hr0 : Row w0 (w.heap.size + 1) 60 [.int .i64 (c : Int), .int .i64 (s : Int), .int .u32 (n : Int)] := by rw [hw0]; exact Row.new_at _ _ _ (by simp)
  have x0 : w0.cell? ⟨w.heap.size + 1, 0, none⟩ = some (.int .i64 (c : Int)) := hr0.cell 0
  have x1 : w0.cell? ⟨w.heap.size + 1, 1, none⟩ = some (.int .i64 (s : Int)) := hr0.cell 1
  have x2 : w0.cell? ⟨w.heap.size + 1, 2, none⟩ = some (.int .u32 (n : Int)) := hr0.cell 2
  have h2 := Lib.hid (fun W (hB : Below w.heap.size w W) => first_any k at_ c s n A1 A2 n1 c1 n2 c2 l1 l2 W (ht.below hB) hk ha hc hs hn hn1 hm1 hn2 hm2 ((hr1.below hB).more hB.size) ((hr2.below hB).more hB.size))
  obtain ⟨x, hx⟩ : ∃ x, x = lookN k at_ c s n l1 l2 := ⟨_, rfl⟩
  rw [show firstOf (spL l1 l2 (sealB (foldN [k, at_]) (tagW c s n)) (sealB (foldN [at_, k]) (tagW c s n))) = x from hx.symm] at h2
  rw [← hx]
  clear hx ht hk ha hc hs hn hn1 hm1 hn2 hm2 hr1 hr2
  go_enter Tryd.func33, Tryd.ntmps33
  go_wp2_with fail
  refine wp_scope_jump 1 fun R hR hJm => ?_
  go_wp2_with fail
  rw [← hw0]
  clear hw0
  refine (h1.out _).mono ?_
  rintro e w1 ⟨rfl, hb⟩
  have hr1 := hr0.below hb
  have hB1 := below0 hB0 hb
  have y0 : w1.cell? ⟨w.heap.size + 1, 0, none⟩ = some (.int .i64 (c : Int)) := hr1.cell 0
  have y1 : w1.cell? ⟨w.heap.size + 1, 1, none⟩ = some (.int .i64 (s : Int)) := hr1.cell 1
  have y2 : w1.cell? ⟨w.heap.size + 1, 2, none⟩ = some (.int .u32 (n : Int)) := hr1.cell 2
  clear hr0 hb hB0 hr1
  go_wp2_with fail
  refine (h2.out _ hB1).mono ?_
  rintro e w2 ⟨rfl, hb⟩
  have hB2 := below0 hB1 hb
  go_wp2_with fail
  refine hR.out _ _ _ _ (by simp) ?_
  go_ret2
  exact ⟨rfl, hB2⟩

set_option maxHeartbeats 1000000 in
theorem look_no (k at_ : Int) (c s n : Int) (A1 A2 : Option Addr) (n1 c1 n2 c2 : Nat) (w : World) (h : okT c s = false) :
    Calls Tryd.prog 17 #[.int .u64 k, .int .u32 at_, .agg #[.int .i64 c, .int .i64 s, .int .u32 n], .slice A1 n1 c1, .slice A2 n2 c2] w fun e w' => e = .returned (.tuple #[.int .i64 0, .int .i64 2]) ∧ Below w.heap.size w w' := by
  have h1 := Lib.hid (fun v W => toldS_no c s n v W h)
  have hB0 := below1 w (.cells #[.int .i64 c, .int .i64 s, .int .u32 n] 27)
  clear h
  go_enter Tryd.func17, Tryd.ntmps17
  go_wp2_with fail
  refine (h1.out _ _).mono ?_
  rintro e w1 ⟨rfl, hb⟩
  have hB1 := below0 hB0 hb
  go_wp2_with fail
  go_ret2
  exact ⟨rfl, hB1⟩
set_option maxHeartbeats 1000000 in
theorem look_ok (k at_ c s n : Nat) (A1 A2 : Option Addr) (n1 c1 n2 c2 : Nat) (l1 l2 : List UInt8) (w : World) (ht : Tab w) (hk : k < 18446744073709551616) (ha : at_ < 4294967296) (hc : c < 8) (hs : s ≤ 65535) (hn : n < 4294967296)
    (hn1 : l1.length = n1) (hm1 : n1 ≤ 140737488351232) (hn2 : l2.length = n2) (hm2 : n2 ≤ 140737488351232) (hr1 : Sees w w.heap.size A1 (byt l1)) (hr2 : Sees w w.heap.size A2 (byt l2)) :
    Calls Tryd.prog 17 #[.int .u64 (k : Int), .int .u32 (at_ : Int), .agg #[.int .i64 (c : Int), .int .i64 (s : Int), .int .u32 (n : Int)], .slice A1 n1 c1, .slice A2 n2 c2] w fun e w' =>
      e = .returned (.tuple #[.int .i64 (lookN k at_ c s n l1 l2), .int .i64 0]) ∧ Below w.heap.size w w' := by
  obtain ⟨w0, hw0⟩ : ∃ w0, w0 = w.alloc (.cells #[.int .i64 (c : Int), .int .i64 (s : Int), .int .u32 (n : Int)] 27) := ⟨_, rfl⟩
  have hB0 : Below w.heap.size w w0 := by rw [hw0]; exact below1 _ _
  have h1 := Lib.hid (toldS_ok k at_ c s n A1 A2 n1 c1 n2 c2 l1 l2 w0 (ht.below hB0) hk ha hc hs hn hn1 hm1 hn2 hm2 ((hr1.below hB0).more hB0.size) ((hr2.below hB0).more hB0.size))
  obtain ⟨x, hx⟩ : ∃ x, x = lookN k at_ c s n l1 l2 := ⟨_, rfl⟩
  rw [← hx] at h1 ⊢
  clear hx ht hk ha hc hs hn hn1 hm1 hn2 hm2 hr1 hr2
  go_enter Tryd.func17, Tryd.ntmps17
  go_wp2_with fail
  rw [← hw0]
  clear hw0
  refine (h1.out).mono ?_
  rintro e w1 ⟨rfl, hb⟩
  have hB1 := below0 hB0 hb
  go_wp2_with fail
  go_ret2
  exact ⟨rfl, hB1⟩
end Go.Proofs.YtfmbfojlopibnaaDoor
