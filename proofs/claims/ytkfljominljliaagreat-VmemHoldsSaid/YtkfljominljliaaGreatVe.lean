import Derived.Test.YtkfljominljliaaGreatVd
namespace Go.Proofs.YtkfljominljliaaGreat.Vm
open Go.RowKit Go.Shelf Go.Maps Go.Sort
attribute [local go_sem] Oper.semAt_some

/- WHAT IS DONE PART BY PART. -/

abbrev Part := Nat × Nat × Nat
abbrev Sl3 := Option Addr × Nat × Nat
abbrev slV (s : Sl3) : Value := .slice s.1 s.2.1 s.2.2
/-- what is done of each part, with what came of it the time before: it turns what is older than w, and what it laid itself -/
structure Does (w : World) (a n cf : Nat) (cap : Array Value) (F : Nat → Prop) (Rel : List Part → Sl3 → (Nat → Prop) → World → Prop) : Prop where
  enters : ∀ args w, (callFunc cf args).run Tryz.prog w = .ok (.enter cf args) w
  low : ∀ k, F k → k < w.heap.size
  keep : ∀ pre v O V V', Rel pre v O V → V.heap.size ≤ V'.heap.size → (∀ k, k < V.heap.size → (k < w.heap.size ∨ O k) → V'.heap[k]? = V.heap[k]?) → Rel pre v O V'
  more : ∀ pre v (O O2 : Nat → Prop) V, (∀ k, O k → O2 k) → Rel pre v O V → Rel pre v O2 V
  call : ∀ pre (x : Part) v O V, (∃ post, pts a n = pre ++ x :: post) → w.heap.size ≤ V.heap.size → (∀ k, O k → w.heap.size ≤ k ∧ k < V.heap.size) → Rel pre v O V →
    Calls Tryz.prog cf (#[slV v, enc3 x] ++ cap) V fun e V' => ∃ v', e = .returned (slV v') ∧ V.heap.size ≤ V'.heap.size ∧ Rel (pre ++ [x]) v' (fun k => O k ∨ (V.heap.size ≤ k ∧ k < V'.heap.size)) V' ∧ Keep (fun k => F k ∨ O k) V V'
/-- what holds between two parts -/
def PwI (w : World) (F : Nat → Prop) (g gf : Nat) (ty tf : TypeId) (fv : Value) (Rel : List Part → Sl3 → (Nat → Prop) → World → Prop) (pre : List Part) (O : Nat → Prop) (V : World) : Prop :=
  ∃ v, Boxed V g ty (slV v) ∧ Boxed V gf tf fv ∧ Rel pre v O V ∧ Keep F w V
theorem PwI.abid {w : World} {a n cf : Nat} {cap : Array Value} {g gf B : Nat} {ty tf : TypeId} {fv : Value} {F : Nat → Prop} {Rel : List Part → Sl3 → (Nat → Prop) → World → Prop} (hd : Does w a n cf cap F Rel) (h : g < B ∧ gf < B ∧ w.heap.size ≤ B) : Abid B (PwI w F g gf ty tf fv Rel) := by
  rintro pre O V V' row ⟨v, h1, h2, h3, h4⟩ hg hr
  exact ⟨v, h1.kept hg (fun e => by have := hr g e.symm; omega), h2.kept hg (fun e => by have := hr gf e.symm; omega), hd.keep pre v O V V' h3 hg.size (fun k hk hp => hg.block k hk (fun e => by
    have := hr k e.symm
    rcases hp with hp | hp
    · omega
    · exact this.2 hp)), h4.grown hg (fun r e => .inl (by have := hr r e; omega))⟩
set_option maxHeartbeats 2000000 in
theorem partwiseB_any (a n cf : Nat) (cap : Array Value) (A0 : Option Addr) (m0 c0 : Nat) (w : World) (F : Nat → Prop) (Rel : List Part → Sl3 → (Nat → Prop) → World → Prop) (han : a + n ≤ 16777216) (hd : Does w a n cf cap F Rel) (h0 : Rel [] (A0, m0, c0) (fun _ => False) w) :
    Calls Tryz.prog 77 #[.agg #[.int .u32 (a : Int), .int .i64 (n : Int)], .slice A0 m0 c0, .func (.func cf) #[] cap] w fun e w' => ∃ v O, e = .returned (slV v) ∧ Rel (pts a n) v O w' ∧ (∀ k, O k → w.heap.size ≤ k) ∧ Keep F w w' := by
  have HD := Lib.hid hd
  have eg := hd.enters
  refine calls_marks Tryz.func77 rfl ?_
  simp only [Tryz.ntmps77, List.size_toArray, List.length_cons, List.length_nil, Nat.reduceAdd, Nat.reduceSub, Array.replicate_succ, Array.replicate_zero, List.push_toArray, List.append_toArray, List.nil_append, List.cons_append]
  clear hd
  go_wp2_with fail
  obtain ⟨W4, hW4⟩ : ∃ W4, W4 = (((w.alloc (.cells #[.int .u32 (a : Int), .int .i64 (n : Int)] 68)).alloc (.cells #[.slice A0 m0 c0] 35)).alloc (.cells #[.func (.func cf) #[] cap] 113)) := ⟨_, rfl⟩
  have hs4 : W4.heap.size = w.heap.size + 3 := by rw [hW4]; simp
  have hB4 : Below w.heap.size w W4 := by rw [hW4]; exact (below2 _ _ _).alloc (by simp; omega) _
  have hX1 : Boxed W4 (w.heap.size + 1) 35 (.slice A0 m0 c0) := by
    have h := Boxed.new (w.alloc (.cells #[.int .u32 (a : Int), .int .i64 (n : Int)] 68)) 35 (.slice A0 m0 c0)
    rw [World.size_alloc] at h
    rw [hW4]
    exact h.alloc _
  have hX2 : Boxed W4 (w.heap.size + 1 + 1) 113 (.func (.func cf) #[] cap) := by
    have h := Boxed.new ((w.alloc (.cells #[.int .u32 (a : Int), .int .i64 (n : Int)] 68)).alloc (.cells #[.slice A0 m0 c0] 35)) 113 (.func (.func cf) #[] cap)
    rw [World.size_alloc, World.size_alloc] at h
    rw [hW4]
    exact h
  rw [← hW4]
  clear hW4
  refine (parts_any a n W4).mono ?_
  rintro e W5 ⟨rfl, hW5⟩
  have hb5 : Below W4.heap.size W4 W5 := by rw [hW5]; exact below1 _ _
  have hs5 : W5.heap.size = W4.heap.size + 1 := by rw [hW5]; simp
  have hr5 : Row W5 W4.heap.size 68 (rc2 a n) := by rw [hW5]; exact Row.new W4 68 (rc2 a n)
  have hit := parts1_it a n W4.heap.size W5 han hr5
  rw [hs4] at hit
  have hY1 := (hb5.block _ (by omega)).trans hX1
  have hY2 := (hb5.block _ (by omega)).trans hX2
  have hB5 := below0 hB4 hb5
  have hR5 : Rel [] (A0, m0, c0) (fun _ => False) W5 := HD.out.keep [] (A0, m0, c0) _ w W5 h0 hB5.size (fun k hk _ => hB5.block k hk)
  clear hW5 hb5 hX1 hX2 hB4 h0
  go_wp2_with fail
  refine wpIn_wide.1 (wpIn_range_box (gf := 102) (lb := #[bx (w.heap.size + 3)]) rfl (enters_of Tryz.func102 (by kernel_rfl) rfl) hit (by rintro k rfl; omega) (fun _ => rfl) (fun _ _ _ _ _ h => h)
    (fun pre O V => PwI w F (w.heap.size + 1) (w.heap.size + 1 + 1) 35 113 (.func (.func cf) #[] cap) Rel pre O V ∧ ∀ k, O k → W5.heap.size + 2 ≤ k) (fun _ _ _ _ => False) ?hI (fun _ _ _ _ _ _ h => h.elim) ⟨⟨(A0, m0, c0), hY1, hY2, hR5, Keep.of_below hB5⟩, fun _ h => h.elim⟩
    (fun g x => { tmps := #[.agg #[.int .u32 (a : Int), .int .i64 (n : Int)], .slice A0 m0 c0, .func (.func cf) #[] cap, .pointer (some ⟨w.heap.size, 0, none⟩), .pointer (some ⟨w.heap.size + 1, 0, none⟩), .pointer (some ⟨w.heap.size + 1 + 1, 0, none⟩), .slice none 0 0, .pointer (some ⟨g, 0, none⟩), .agg #[.int .u32 (a : Int), .int .i64 (n : Int)], .func (.func 102) #[] #[bx (w.heap.size + 3)], enc3 x, undef, undef, undef, undef, undef], defers := [] })
    (fun x => .cells #[.int .i64 (x.1 : Int), .int .i64 (x.2.1 : Int), .int .i64 (x.2.2 : Int)] 111) ?assign ?body ?done ?stop)
  case hI => exact fun s O V V' row hp hg hr => ⟨PwI.abid HD.out (by omega) s O V V' row hp.1 hg hr, hp.2⟩
  case assign =>
    intro l' x W' K hK
    simp only [encX, enc3]
    gi_wp2
    exact hK
  case body =>
    rintro l' pre x O V hVs hO ⟨⟨⟨vA, vm, vc⟩, hbV, hfV, hrel, hkV⟩, hOw⟩ ⟨post, hpost⟩ _
    obtain ⟨V1, hV1⟩ : ∃ V1, V1 = V.alloc (.cells #[.int .i64 (x.1 : Int), .int .i64 (x.2.1 : Int), .int .i64 (x.2.2 : Int)] 111) := ⟨_, rfl⟩
    have hb1 : Below V.heap.size V V1 := by rw [hV1]; exact below1 _ _
    have hz1 : V1.heap.size = V.heap.size + 1 := by rw [hV1]; simp
    have hrow : Row V1 V.heap.size 111 [.int .i64 (x.1 : Int), .int .i64 (x.2.1 : Int), .int .i64 (x.2.2 : Int)] := by rw [hV1]; exact Row.new V 111 [.int .i64 (x.1 : Int), .int .i64 (x.2.1 : Int), .int .i64 (x.2.2 : Int)]
    have c0 : V1.cell? ⟨V.heap.size, 0, none⟩ = some (.int .i64 (x.1 : Int)) := hrow.cell 0
    have c1 : V1.cell? ⟨V.heap.size, 1, none⟩ = some (.int .i64 (x.2.1 : Int)) := hrow.cell 1
    have c2 : V1.cell? ⟨V.heap.size, 2, none⟩ = some (.int .i64 (x.2.2 : Int)) := hrow.cell 2
    have hbV1 : Boxed V1 (w.heap.size + 1) 35 (.slice vA vm vc) := (hb1.block _ (by omega)).trans hbV
    have hfV1 : Boxed V1 (w.heap.size + 1 + 1) 113 (.func (.func cf) #[] cap) := (hb1.block _ (by omega)).trans hfV
    have hrel1 := HD.out.keep pre (vA, vm, vc) O V V1 hrel hb1.size (fun k hk _ => hb1.block k hk)
    have HCALL := Lib.hid (HD.out.call pre x (vA, vm, vc) O V1 ⟨post, hpost⟩ (by omega) (fun k hk => by have := hO k hk; omega) hrel1)
    have e0 := hfV1.cell
    have e1 := hbV1.cell
    rw [← hV1]
    simp only [enc3, slV] at HCALL
    clear hV1 hpost hrel hrel1 hit hY1 hY2 hB5 hbV hfV hrow hR5
    gi_wp2_with fail
    refine ⟨trivial, rfl, CallsIn.inRound l' ((callsIn_wide.2 HCALL.out).mono ?_)⟩
    rintro e V2 ⟨⟨uA, um, uc⟩, rfl, hs2, hrel2, hK2⟩
    have hk2 : ∀ k, k < V1.heap.size → w.heap.size ≤ k → ¬ O k → V2.heap[k]? = V1.heap[k]? := fun k hk hw ho => hK2.block k hk (fun h => h.elim (fun hf => by have := HD.out.low k hf; omega) ho)
    have hkW : Keep F w V2 := (hkV.trans (Keep.of_below (F := F) hb1) (fun k _ h => h)).trans hK2 (fun k hk h => h.elim id (fun ho => by have := hO k ho; omega))
    have HKW := Lib.hid (show Keep F w (V2.setCell ⟨w.heap.size + 1, 0, none⟩ (.slice uA um uc)) from hkW.set (o := 0) _ (.inr (by omega)))
    have hno : ∀ k, (k = w.heap.size + 1 ∨ k = w.heap.size + 1 + 1 ∨ k = w.heap.size + 3) → V2.heap[k]? = V1.heap[k]? := fun k hk => hk2 k (by omega) (by omega) (fun h => by have := hO k h; omega)
    have hbV2 : Boxed V2 (w.heap.size + 1) 35 (.slice vA vm vc) := (hno _ (.inl rfl)).trans hbV1
    have hfV2 : Boxed V2 (w.heap.size + 1 + 1) 113 (.func (.func cf) #[] cap) := (hno _ (.inr (.inl rfl))).trans hfV1
    have HBX := Lib.hid (hbV2.set (.slice uA um uc))
    have HFX := Lib.hid (show Boxed (V2.setCell ⟨w.heap.size + 1, 0, none⟩ (.slice uA um uc)) (w.heap.size + 1 + 1) 113 (.func (.func cf) #[] cap) from (heap_set (by omega)).trans hfV2)
    have HRL := Lib.hid (show Rel (pre ++ [x]) (uA, um, uc) (nextO O (fun _ => False) V (V2.setCell ⟨w.heap.size + 1, 0, none⟩ (.slice uA um uc))) (V2.setCell ⟨w.heap.size + 1, 0, none⟩ (.slice uA um uc)) from by
      refine HD.out.more _ _ _ _ _ (fun k hk => ?_) (HD.out.keep _ _ _ V2 _ hrel2 (by rw [World.size_setCell]; omega) (fun k hk hp => heap_set ?_))
      · rcases hk with hk | hk
        · exact .inl hk
        · exact .inr (.inr ⟨by omega, by rw [World.size_setCell]; omega⟩)
      · rintro rfl
        rcases hp with hp | hp | hp
        · omega
        · have := hO _ hp; omega
        · omega)
    have HKS := Lib.hid (show Keeps (· = w.heap.size + 3) W5.heap.size O (fun _ => False) V (V2.setCell ⟨w.heap.size + 1, 0, none⟩ (.slice uA um uc)) from
      ⟨by rw [World.size_setCell]; omega, fun k hk hp => (heap_set (by rcases hp with h | ⟨h, _⟩ <;> omega)).trans ((hk2 k (by omega) (by rcases hp with h | ⟨h, _⟩ <;> omega) (by
        rcases hp with h | ⟨_, h, _⟩
        · exact fun ho => by have := hO k ho; omega
        · exact h)).trans (hb1.block k hk))⟩)
    have HOW := Lib.hid (show ∀ k, nextO O (fun _ => False) V (V2.setCell ⟨w.heap.size + 1, 0, none⟩ (.slice uA um uc)) k → W5.heap.size + 2 ≤ k from by
      rintro k (h | h | h)
      · exact hOw k h
      · exact h.elim
      · omega)
    have f1 := hbV2.frozen
    have f2 := hbV2.cell
    clear hbV1 hfV1 hb1 hbV2 hfV2 c0 c1 c2 e0 e1 hrel2 hk2 hno hK2 hkW hkV
    gi_wp2_with fail
    exact ⟨HKS.out, ⟨(uA, um, uc), HBX.out, HFX.out, HRL.out, HKW.out⟩, HOW.out⟩
  case done =>
    intro xs O Z hall hI hD
    obtain ⟨⟨⟨vA, vm, vc⟩, hbx, _, hrel, hkZ⟩, hOw⟩ := hI
    have hz : (Z.putObj W5.heap.size (.deferred none)).cell? ⟨w.heap.size + 1, 0, none⟩ = some (.slice vA vm vc) := (World.cell?_of_block (World.putObj_heap_other (by show w.heap.size + 1 ≠ W5.heap.size; omega))).trans hbx.cell
    have hzz := hbx.cell
    have hZs : W5.heap.size < Z.heap.size := (Array.getElem?_eq_some_iff.1 hD).1
    have HR := Lib.hid (show Rel (pts a n) (vA, vm, vc) O (Z.putObj W5.heap.size (.deferred none)) from by
      rw [← show xs = pts a n from hall]
      refine HD.out.keep _ _ _ Z _ hrel (by simp) (fun k hk hp => World.putObj_heap_other (fun e => ?_))
      rcases hp with hp | hp
      · omega
      · have := hOw k hp; omega)
    have HS := Lib.hid (show Keep F w (Z.putObj W5.heap.size (.deferred none)) from hkZ.grown (putObj_grown Z _ _) (fun r e => by cases e; exact .inl (by omega)))
    have HOO := Lib.hid (show ∀ k, O k → w.heap.size ≤ k from fun k hk => by have := hOw k hk; omega)
    have HDD := Lib.hid hD
    clear hall hbx hrel hit hY1 hY2 hR5 hD hz hOw hZs hkZ
    go_wp2_with fail
    refine ⟨by simp, .inl ⟨_, _, rfl, run_takeDeferred HDD.out, ?_⟩⟩
    exact ⟨_, results_tmp (t := 6) rfl _ _ _, (vA, vm, vc), O, rfl, HR.out, HOO.out, HS.out⟩
  case stop => exact fun _ _ _ _ _ h => h.elim
set_option maxHeartbeats 2000000 in
theorem partwiseL_any (a n cf : Nat) (cap : Array Value) (A0 : Option Addr) (m0 c0 : Nat) (w : World) (F : Nat → Prop) (Rel : List Part → Sl3 → (Nat → Prop) → World → Prop) (han : a + n ≤ 16777216) (hd : Does w a n cf cap F Rel) (h0 : Rel [] (A0, m0, c0) (fun _ => False) w) :
    Calls Tryz.prog 81 #[.agg #[.int .u32 (a : Int), .int .i64 (n : Int)], .slice A0 m0 c0, .func (.func cf) #[] cap] w fun e w' => ∃ v O, e = .returned (slV v) ∧ Rel (pts a n) v O w' ∧ (∀ k, O k → w.heap.size ≤ k) ∧ Keep F w w' := by
  have HD := Lib.hid hd
  have eg := hd.enters
  refine calls_marks Tryz.func81 rfl ?_
  simp only [Tryz.ntmps81, List.size_toArray, List.length_cons, List.length_nil, Nat.reduceAdd, Nat.reduceSub, Array.replicate_succ, Array.replicate_zero, List.push_toArray, List.append_toArray, List.nil_append, List.cons_append]
  clear hd
  go_wp2_with fail
  obtain ⟨W4, hW4⟩ : ∃ W4, W4 = (((w.alloc (.cells #[.int .u32 (a : Int), .int .i64 (n : Int)] 68)).alloc (.cells #[.slice A0 m0 c0] 114)).alloc (.cells #[.func (.func cf) #[] cap] 117)) := ⟨_, rfl⟩
  have hs4 : W4.heap.size = w.heap.size + 3 := by rw [hW4]; simp
  have hB4 : Below w.heap.size w W4 := by rw [hW4]; exact (below2 _ _ _).alloc (by simp; omega) _
  have hX1 : Boxed W4 (w.heap.size + 1) 114 (.slice A0 m0 c0) := by
    have h := Boxed.new (w.alloc (.cells #[.int .u32 (a : Int), .int .i64 (n : Int)] 68)) 114 (.slice A0 m0 c0)
    rw [World.size_alloc] at h
    rw [hW4]
    exact h.alloc _
  have hX2 : Boxed W4 (w.heap.size + 1 + 1) 117 (.func (.func cf) #[] cap) := by
    have h := Boxed.new ((w.alloc (.cells #[.int .u32 (a : Int), .int .i64 (n : Int)] 68)).alloc (.cells #[.slice A0 m0 c0] 114)) 117 (.func (.func cf) #[] cap)
    rw [World.size_alloc, World.size_alloc] at h
    rw [hW4]
    exact h
  rw [← hW4]
  clear hW4
  refine (parts_any a n W4).mono ?_
  rintro e W5 ⟨rfl, hW5⟩
  have hb5 : Below W4.heap.size W4 W5 := by rw [hW5]; exact below1 _ _
  have hs5 : W5.heap.size = W4.heap.size + 1 := by rw [hW5]; simp
  have hr5 : Row W5 W4.heap.size 68 (rc2 a n) := by rw [hW5]; exact Row.new W4 68 (rc2 a n)
  have hit := parts1_it a n W4.heap.size W5 han hr5
  rw [hs4] at hit
  have hY1 := (hb5.block _ (by omega)).trans hX1
  have hY2 := (hb5.block _ (by omega)).trans hX2
  have hB5 := below0 hB4 hb5
  have hR5 : Rel [] (A0, m0, c0) (fun _ => False) W5 := HD.out.keep [] (A0, m0, c0) _ w W5 h0 hB5.size (fun k hk _ => hB5.block k hk)
  clear hW5 hb5 hX1 hX2 hB4 h0
  go_wp2_with fail
  refine wpIn_wide.1 (wpIn_range_box (gf := 102) (lb := #[bx (w.heap.size + 3)]) rfl (enters_of Tryz.func102 (by kernel_rfl) rfl) hit (by rintro k rfl; omega) (fun _ => rfl) (fun _ _ _ _ _ h => h)
    (fun pre O V => PwI w F (w.heap.size + 1) (w.heap.size + 1 + 1) 114 117 (.func (.func cf) #[] cap) Rel pre O V ∧ ∀ k, O k → W5.heap.size + 2 ≤ k) (fun _ _ _ _ => False) ?hI (fun _ _ _ _ _ _ h => h.elim) ⟨⟨(A0, m0, c0), hY1, hY2, hR5, Keep.of_below hB5⟩, fun _ h => h.elim⟩
    (fun g x => { tmps := #[.agg #[.int .u32 (a : Int), .int .i64 (n : Int)], .slice A0 m0 c0, .func (.func cf) #[] cap, .pointer (some ⟨w.heap.size, 0, none⟩), .pointer (some ⟨w.heap.size + 1, 0, none⟩), .pointer (some ⟨w.heap.size + 1 + 1, 0, none⟩), .slice none 0 0, .pointer (some ⟨g, 0, none⟩), .agg #[.int .u32 (a : Int), .int .i64 (n : Int)], .func (.func 102) #[] #[bx (w.heap.size + 3)], enc3 x, undef, undef, undef, undef, undef], defers := [] })
    (fun x => .cells #[.int .i64 (x.1 : Int), .int .i64 (x.2.1 : Int), .int .i64 (x.2.2 : Int)] 111) ?assign ?body ?done ?stop)
  case hI => exact fun s O V V' row hp hg hr => ⟨PwI.abid HD.out (by omega) s O V V' row hp.1 hg hr, hp.2⟩
  case assign =>
    intro l' x W' K hK
    simp only [encX, enc3]
    gi_wp2
    exact hK
  case body =>
    rintro l' pre x O V hVs hO ⟨⟨⟨vA, vm, vc⟩, hbV, hfV, hrel, hkV⟩, hOw⟩ ⟨post, hpost⟩ _
    obtain ⟨V1, hV1⟩ : ∃ V1, V1 = V.alloc (.cells #[.int .i64 (x.1 : Int), .int .i64 (x.2.1 : Int), .int .i64 (x.2.2 : Int)] 111) := ⟨_, rfl⟩
    have hb1 : Below V.heap.size V V1 := by rw [hV1]; exact below1 _ _
    have hz1 : V1.heap.size = V.heap.size + 1 := by rw [hV1]; simp
    have hrow : Row V1 V.heap.size 111 [.int .i64 (x.1 : Int), .int .i64 (x.2.1 : Int), .int .i64 (x.2.2 : Int)] := by rw [hV1]; exact Row.new V 111 [.int .i64 (x.1 : Int), .int .i64 (x.2.1 : Int), .int .i64 (x.2.2 : Int)]
    have c0 : V1.cell? ⟨V.heap.size, 0, none⟩ = some (.int .i64 (x.1 : Int)) := hrow.cell 0
    have c1 : V1.cell? ⟨V.heap.size, 1, none⟩ = some (.int .i64 (x.2.1 : Int)) := hrow.cell 1
    have c2 : V1.cell? ⟨V.heap.size, 2, none⟩ = some (.int .i64 (x.2.2 : Int)) := hrow.cell 2
    have hbV1 : Boxed V1 (w.heap.size + 1) 114 (.slice vA vm vc) := (hb1.block _ (by omega)).trans hbV
    have hfV1 : Boxed V1 (w.heap.size + 1 + 1) 117 (.func (.func cf) #[] cap) := (hb1.block _ (by omega)).trans hfV
    have hrel1 := HD.out.keep pre (vA, vm, vc) O V V1 hrel hb1.size (fun k hk _ => hb1.block k hk)
    have HCALL := Lib.hid (HD.out.call pre x (vA, vm, vc) O V1 ⟨post, hpost⟩ (by omega) (fun k hk => by have := hO k hk; omega) hrel1)
    have e0 := hfV1.cell
    have e1 := hbV1.cell
    rw [← hV1]
    simp only [enc3, slV] at HCALL
    clear hV1 hpost hrel hrel1 hit hY1 hY2 hB5 hbV hfV hrow hR5
    gi_wp2_with fail
    refine ⟨trivial, rfl, CallsIn.inRound l' ((callsIn_wide.2 HCALL.out).mono ?_)⟩
    rintro e V2 ⟨⟨uA, um, uc⟩, rfl, hs2, hrel2, hK2⟩
    have hk2 : ∀ k, k < V1.heap.size → w.heap.size ≤ k → ¬ O k → V2.heap[k]? = V1.heap[k]? := fun k hk hw ho => hK2.block k hk (fun h => h.elim (fun hf => by have := HD.out.low k hf; omega) ho)
    have hkW : Keep F w V2 := (hkV.trans (Keep.of_below (F := F) hb1) (fun k _ h => h)).trans hK2 (fun k hk h => h.elim id (fun ho => by have := hO k ho; omega))
    have HKW := Lib.hid (show Keep F w (V2.setCell ⟨w.heap.size + 1, 0, none⟩ (.slice uA um uc)) from hkW.set (o := 0) _ (.inr (by omega)))
    have hno : ∀ k, (k = w.heap.size + 1 ∨ k = w.heap.size + 1 + 1 ∨ k = w.heap.size + 3) → V2.heap[k]? = V1.heap[k]? := fun k hk => hk2 k (by omega) (by omega) (fun h => by have := hO k h; omega)
    have hbV2 : Boxed V2 (w.heap.size + 1) 114 (.slice vA vm vc) := (hno _ (.inl rfl)).trans hbV1
    have hfV2 : Boxed V2 (w.heap.size + 1 + 1) 117 (.func (.func cf) #[] cap) := (hno _ (.inr (.inl rfl))).trans hfV1
    have HBX := Lib.hid (hbV2.set (.slice uA um uc))
    have HFX := Lib.hid (show Boxed (V2.setCell ⟨w.heap.size + 1, 0, none⟩ (.slice uA um uc)) (w.heap.size + 1 + 1) 117 (.func (.func cf) #[] cap) from (heap_set (by omega)).trans hfV2)
    have HRL := Lib.hid (show Rel (pre ++ [x]) (uA, um, uc) (nextO O (fun _ => False) V (V2.setCell ⟨w.heap.size + 1, 0, none⟩ (.slice uA um uc))) (V2.setCell ⟨w.heap.size + 1, 0, none⟩ (.slice uA um uc)) from by
      refine HD.out.more _ _ _ _ _ (fun k hk => ?_) (HD.out.keep _ _ _ V2 _ hrel2 (by rw [World.size_setCell]; omega) (fun k hk hp => heap_set ?_))
      · rcases hk with hk | hk
        · exact .inl hk
        · exact .inr (.inr ⟨by omega, by rw [World.size_setCell]; omega⟩)
      · rintro rfl
        rcases hp with hp | hp | hp
        · omega
        · have := hO _ hp; omega
        · omega)
    have HKS := Lib.hid (show Keeps (· = w.heap.size + 3) W5.heap.size O (fun _ => False) V (V2.setCell ⟨w.heap.size + 1, 0, none⟩ (.slice uA um uc)) from
      ⟨by rw [World.size_setCell]; omega, fun k hk hp => (heap_set (by rcases hp with h | ⟨h, _⟩ <;> omega)).trans ((hk2 k (by omega) (by rcases hp with h | ⟨h, _⟩ <;> omega) (by
        rcases hp with h | ⟨_, h, _⟩
        · exact fun ho => by have := hO k ho; omega
        · exact h)).trans (hb1.block k hk))⟩)
    have HOW := Lib.hid (show ∀ k, nextO O (fun _ => False) V (V2.setCell ⟨w.heap.size + 1, 0, none⟩ (.slice uA um uc)) k → W5.heap.size + 2 ≤ k from by
      rintro k (h | h | h)
      · exact hOw k h
      · exact h.elim
      · omega)
    have f1 := hbV2.frozen
    have f2 := hbV2.cell
    clear hbV1 hfV1 hb1 hbV2 hfV2 c0 c1 c2 e0 e1 hrel2 hk2 hno hK2 hkW hkV
    gi_wp2_with fail
    exact ⟨HKS.out, ⟨(uA, um, uc), HBX.out, HFX.out, HRL.out, HKW.out⟩, HOW.out⟩
  case done =>
    intro xs O Z hall hI hD
    obtain ⟨⟨⟨vA, vm, vc⟩, hbx, _, hrel, hkZ⟩, hOw⟩ := hI
    have hz : (Z.putObj W5.heap.size (.deferred none)).cell? ⟨w.heap.size + 1, 0, none⟩ = some (.slice vA vm vc) := (World.cell?_of_block (World.putObj_heap_other (by show w.heap.size + 1 ≠ W5.heap.size; omega))).trans hbx.cell
    have hzz := hbx.cell
    have hZs : W5.heap.size < Z.heap.size := (Array.getElem?_eq_some_iff.1 hD).1
    have HR := Lib.hid (show Rel (pts a n) (vA, vm, vc) O (Z.putObj W5.heap.size (.deferred none)) from by
      rw [← show xs = pts a n from hall]
      refine HD.out.keep _ _ _ Z _ hrel (by simp) (fun k hk hp => World.putObj_heap_other (fun e => ?_))
      rcases hp with hp | hp
      · omega
      · have := hOw k hp; omega)
    have HS := Lib.hid (show Keep F w (Z.putObj W5.heap.size (.deferred none)) from hkZ.grown (putObj_grown Z _ _) (fun r e => by cases e; exact .inl (by omega)))
    have HOO := Lib.hid (show ∀ k, O k → w.heap.size ≤ k from fun k hk => by have := hOw k hk; omega)
    have HDD := Lib.hid hD
    clear hall hbx hrel hit hY1 hY2 hR5 hD hz hOw hZs hkZ
    go_wp2_with fail
    refine ⟨by simp, .inl ⟨_, _, rfl, run_takeDeferred HDD.out, ?_⟩⟩
    exact ⟨_, results_tmp (t := 6) rfl _ _ _, (vA, vm, vc), O, rfl, HR.out, HOO.out, HS.out⟩
  case stop => exact fun _ _ _ _ _ h => h.elim
end Go.Proofs.YtkfljominljliaaGreat.Vm
