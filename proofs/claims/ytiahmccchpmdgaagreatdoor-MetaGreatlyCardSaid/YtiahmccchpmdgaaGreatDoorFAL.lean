import Derived.Test.YtiahmccchpmdgaaGreatDoorFAK
import Derived.Deep.RegionHeld3
namespace Go.Proofs.YtiahmccchpmdgaaGreatDoor.Vm
open Go.RowKit Go.Shelf Go.Maps Go.Sort
attribute [local go_sem] Oper.semAt_some

/- WHAT IS DONE PART BY PART. -/

abbrev Part := Nat × Nat × Nat
abbrev Sl3 := Option Addr × Nat × Nat
abbrev slV (s : Sl3) : Value := .slice s.1 s.2.1 s.2.2
/-- what is done of each part, with what came of it the time before: it turns what is older than w, and what it laid itself -/
structure Does (w : World) (a n cf : Nat) (cap : Array Value) (F : Nat → Prop) (Rel : List Part → Sl3 → (Nat → Prop) → World → Prop) : Prop where
  enters : ∀ args w, (callFunc cf args).run Tryz.prog w = .ok (.enter cf args) w
  low : ∀ k, F k → k < w.heap.size
  keep : ∀ pre v O V V', Rel pre v O V → V.heap.size ≤ V'.heap.size → (∀ k, k < V.heap.size → (k < w.heap.size ∨ O k) → V'.heap[k]? = V.heap[k]?) → Rel pre v O V'
  more : ∀ pre v (O O2 : Nat → Prop) V, (∀ k, O k → O2 k) → Rel pre v O V → Rel pre v O2 V
  call : ∀ pre (x : Part) v O V, (∃ post, pts a n = pre ++ x :: post) → w.heap.size ≤ V.heap.size → (∀ k, O k → w.heap.size ≤ k ∧ k < V.heap.size) → Rel pre v O V →
    Calls Tryz.prog cf (#[slV v, enc3 x] ++ cap) V fun e V' => ∃ v', e = .returned (slV v') ∧ V.heap.size ≤ V'.heap.size ∧ Rel (pre ++ [x]) v' (fun k => O k ∨ (V.heap.size ≤ k ∧ k < V'.heap.size)) V' ∧ Keep (fun k => F k ∨ O k) V V'
/-- what holds between two parts -/
def PwI (w : World) (F : Nat → Prop) (g gf : Nat) (ty tf : TypeId) (fv : Value) (Rel : List Part → Sl3 → (Nat → Prop) → World → Prop) (pre : List Part) (O : Nat → Prop) (V : World) : Prop :=
  ∃ v, Boxed V g ty (slV v) ∧ Boxed V gf tf fv ∧ Rel pre v O V ∧ Keep F w V
theorem PwI.abid {w : World} {a n cf : Nat} {cap : Array Value} {g gf B : Nat} {ty tf : TypeId} {fv : Value} {F : Nat → Prop} {Rel : List Part → Sl3 → (Nat → Prop) → World → Prop} (hd : Does w a n cf cap F Rel) (h : g < B ∧ gf < B ∧ w.heap.size ≤ B) : Abid B (PwI w F g gf ty tf fv Rel) := by
  rintro pre O V V' row ⟨v, h1, h2, h3, h4⟩ hg hr
  exact ⟨v, h1.kept hg (fun e => by have := hr g e.symm; omega), h2.kept hg (fun e => by have := hr gf e.symm; omega), hd.keep pre v O V V' h3 hg.size (fun k hk hp => hg.block k hk (fun e => by
    have := hr k e.symm
    rcases hp with hp | hp
    · omega
    · exact this.2 hp)), h4.grown hg (fun r e => .inl (by have := hr r e; omega))⟩
set_option maxHeartbeats 2000000 in
theorem partwiseB_any (a n cf : Nat) (cap : Array Value) (A0 : Option Addr) (m0 c0 : Nat) (w : World) (F : Nat → Prop) (Rel : List Part → Sl3 → (Nat → Prop) → World → Prop) (han : a + n ≤ 16777216) (hd : Does w a n cf cap F Rel) (h0 : Rel [] (A0, m0, c0) (fun _ => False) w) :
    Calls Tryz.prog 113 #[.agg #[.int .u32 (a : Int), .int .i64 (n : Int)], .slice A0 m0 c0, .func (.func cf) #[] cap] w fun e w' => ∃ v O, e = .returned (slV v) ∧ Rel (pts a n) v O w' ∧ (∀ k, O k → w.heap.size ≤ k) ∧ Keep F w w' := by
  have HD := Lib.hid hd
  have eg := hd.enters
  refine calls_marks Tryz.func113 rfl ?_
  simp only [Tryz.ntmps113, List.size_toArray, List.length_cons, List.length_nil, Nat.reduceAdd, Nat.reduceSub, Array.replicate_succ, Array.replicate_zero, List.push_toArray, List.append_toArray, List.nil_append, List.cons_append]
  clear hd
  go_wp2_with fail
  obtain ⟨W4, hW4⟩ : ∃ W4, W4 = (((w.alloc (.cells #[.int .u32 (a : Int), .int .i64 (n : Int)] 123)).alloc (.cells #[.slice A0 m0 c0] 62)).alloc (.cells #[.func (.func cf) #[] cap] 195)) := ⟨_, rfl⟩
  have hs4 : W4.heap.size = w.heap.size + 3 := by rw [hW4]; simp
  have hB4 : Below w.heap.size w W4 := by rw [hW4]; exact (below2 _ _ _).alloc (by simp; omega) _
  have hX1 : Boxed W4 (w.heap.size + 1) 62 (.slice A0 m0 c0) := by
    have h := Boxed.new (w.alloc (.cells #[.int .u32 (a : Int), .int .i64 (n : Int)] 123)) 62 (.slice A0 m0 c0)
    rw [World.size_alloc] at h
    rw [hW4]
    exact h.alloc _
  have hX2 : Boxed W4 (w.heap.size + 1 + 1) 195 (.func (.func cf) #[] cap) := by
    have h := Boxed.new ((w.alloc (.cells #[.int .u32 (a : Int), .int .i64 (n : Int)] 123)).alloc (.cells #[.slice A0 m0 c0] 62)) 195 (.func (.func cf) #[] cap)
    rw [World.size_alloc, World.size_alloc] at h
    rw [hW4]
    exact h
  rw [← hW4]
  clear hW4
  refine (parts_any a n W4).mono ?_
  rintro e W5 ⟨rfl, hW5⟩
  have hb5 : Below W4.heap.size W4 W5 := by rw [hW5]; exact below1 _ _
  have hs5 : W5.heap.size = W4.heap.size + 1 := by rw [hW5]; simp
  have hr5 : Row W5 W4.heap.size 123 (rc2 a n) := by rw [hW5]; exact Row.new W4 123 (rc2 a n)
  have hit := parts1_it a n W4.heap.size W5 han hr5
  rw [hs4] at hit
  have hY1 := (hb5.block _ (by omega)).trans hX1
  have hY2 := (hb5.block _ (by omega)).trans hX2
  have hB5 := below0 hB4 hb5
  have hR5 : Rel [] (A0, m0, c0) (fun _ => False) W5 := HD.out.keep [] (A0, m0, c0) _ w W5 h0 hB5.size (fun k hk _ => hB5.block k hk)
  clear hW5 hb5 hX1 hX2 hB4 h0
  go_wp2_with fail
  refine wpIn_wide.1 (wpIn_range_box (gf := 262) (lb := #[bx (w.heap.size + 3)]) rfl (enters_of Tryz.func262 (by kernel_rfl) rfl) hit (by rintro k rfl; omega) (fun _ => rfl) (fun _ _ _ _ _ h => h)
    (fun pre O V => PwI w F (w.heap.size + 1) (w.heap.size + 1 + 1) 62 195 (.func (.func cf) #[] cap) Rel pre O V ∧ ∀ k, O k → W5.heap.size + 2 ≤ k) (fun _ _ _ _ => False) ?hI (fun _ _ _ _ _ _ h => h.elim) ⟨⟨(A0, m0, c0), hY1, hY2, hR5, Keep.of_below hB5⟩, fun _ h => h.elim⟩
    (fun g x => { tmps := #[.agg #[.int .u32 (a : Int), .int .i64 (n : Int)], .slice A0 m0 c0, .func (.func cf) #[] cap, .pointer (some ⟨w.heap.size, 0, none⟩), .pointer (some ⟨w.heap.size + 1, 0, none⟩), .pointer (some ⟨w.heap.size + 1 + 1, 0, none⟩), .slice none 0 0, .pointer (some ⟨g, 0, none⟩), .agg #[.int .u32 (a : Int), .int .i64 (n : Int)], .func (.func 262) #[] #[bx (w.heap.size + 3)], enc3 x, undef, undef, undef, undef, undef], defers := [] })
    (fun x => .cells #[.int .i64 (x.1 : Int), .int .i64 (x.2.1 : Int), .int .i64 (x.2.2 : Int)] 193) ?assign ?body ?done ?stop)
  case hI => exact fun s O V V' row hp hg hr => ⟨PwI.abid HD.out (by omega) s O V V' row hp.1 hg hr, hp.2⟩
  case assign =>
    intro l' x W' K hK
    simp only [encX, enc3]
    gi_wp2
    exact hK
  case body =>
    rintro l' pre x O V hVs hO ⟨⟨⟨vA, vm, vc⟩, hbV, hfV, hrel, hkV⟩, hOw⟩ ⟨post, hpost⟩ _
    obtain ⟨V1, hV1⟩ : ∃ V1, V1 = V.alloc (.cells #[.int .i64 (x.1 : Int), .int .i64 (x.2.1 : Int), .int .i64 (x.2.2 : Int)] 193) := ⟨_, rfl⟩
    have hb1 : Below V.heap.size V V1 := by rw [hV1]; exact below1 _ _
    have hz1 : V1.heap.size = V.heap.size + 1 := by rw [hV1]; simp
    have hrow : Row V1 V.heap.size 193 [.int .i64 (x.1 : Int), .int .i64 (x.2.1 : Int), .int .i64 (x.2.2 : Int)] := by rw [hV1]; exact Row.new V 193 [.int .i64 (x.1 : Int), .int .i64 (x.2.1 : Int), .int .i64 (x.2.2 : Int)]
    have c0 : V1.cell? ⟨V.heap.size, 0, none⟩ = some (.int .i64 (x.1 : Int)) := hrow.cell 0
    have c1 : V1.cell? ⟨V.heap.size, 1, none⟩ = some (.int .i64 (x.2.1 : Int)) := hrow.cell 1
    have c2 : V1.cell? ⟨V.heap.size, 2, none⟩ = some (.int .i64 (x.2.2 : Int)) := hrow.cell 2
    have hbV1 : Boxed V1 (w.heap.size + 1) 62 (.slice vA vm vc) := (hb1.block _ (by omega)).trans hbV
    have hfV1 : Boxed V1 (w.heap.size + 1 + 1) 195 (.func (.func cf) #[] cap) := (hb1.block _ (by omega)).trans hfV
    have hrel1 := HD.out.keep pre (vA, vm, vc) O V V1 hrel hb1.size (fun k hk _ => hb1.block k hk)
    have HCALL := Lib.hid (HD.out.call pre x (vA, vm, vc) O V1 ⟨post, hpost⟩ (by omega) (fun k hk => by have := hO k hk; omega) hrel1)
    have e0 := hfV1.cell
    have e1 := hbV1.cell
    rw [← hV1]
    simp only [enc3, slV] at HCALL
    clear hV1 hpost hrel hrel1 hit hY1 hY2 hB5 hbV hfV hrow hR5
    gi_wp2_with fail
    refine ⟨trivial, rfl, CallsIn.inRound l' ((callsIn_wide.2 HCALL.out).mono ?_)⟩
    rintro e V2 ⟨⟨uA, um, uc⟩, rfl, hs2, hrel2, hK2⟩
    have hk2 : ∀ k, k < V1.heap.size → w.heap.size ≤ k → ¬ O k → V2.heap[k]? = V1.heap[k]? := fun k hk hw ho => hK2.block k hk (fun h => h.elim (fun hf => by have := HD.out.low k hf; omega) ho)
    have hkW : Keep F w V2 := (hkV.trans (Keep.of_below (F := F) hb1) (fun k _ h => h)).trans hK2 (fun k hk h => h.elim id (fun ho => by have := hO k ho; omega))
    have HKW := Lib.hid (show Keep F w (V2.setCell ⟨w.heap.size + 1, 0, none⟩ (.slice uA um uc)) from hkW.set (o := 0) _ (.inr (by omega)))
    have hno : ∀ k, (k = w.heap.size + 1 ∨ k = w.heap.size + 1 + 1 ∨ k = w.heap.size + 3) → V2.heap[k]? = V1.heap[k]? := fun k hk => hk2 k (by omega) (by omega) (fun h => by have := hO k h; omega)
    have hbV2 : Boxed V2 (w.heap.size + 1) 62 (.slice vA vm vc) := (hno _ (.inl rfl)).trans hbV1
    have hfV2 : Boxed V2 (w.heap.size + 1 + 1) 195 (.func (.func cf) #[] cap) := (hno _ (.inr (.inl rfl))).trans hfV1
    have HBX := Lib.hid (hbV2.set (.slice uA um uc))
    have HFX := Lib.hid (show Boxed (V2.setCell ⟨w.heap.size + 1, 0, none⟩ (.slice uA um uc)) (w.heap.size + 1 + 1) 195 (.func (.func cf) #[] cap) from (heap_set (by omega)).trans hfV2)
    have HRL := Lib.hid (show Rel (pre ++ [x]) (uA, um, uc) (nextO O (fun _ => False) V (V2.setCell ⟨w.heap.size + 1, 0, none⟩ (.slice uA um uc))) (V2.setCell ⟨w.heap.size + 1, 0, none⟩ (.slice uA um uc)) from by
      refine HD.out.more _ _ _ _ _ (fun k hk => ?_) (HD.out.keep _ _ _ V2 _ hrel2 (by rw [World.size_setCell]; omega) (fun k hk hp => heap_set ?_))
      · rcases hk with hk | hk
        · exact .inl hk
        · exact .inr (.inr ⟨by omega, by rw [World.size_setCell]; omega⟩)
      · rintro rfl
        rcases hp with hp | hp | hp
        · omega
        · have := hO _ hp; omega
        · omega)
    have HKS := Lib.hid (show Keeps (· = w.heap.size + 3) W5.heap.size O (fun _ => False) V (V2.setCell ⟨w.heap.size + 1, 0, none⟩ (.slice uA um uc)) from
      ⟨by rw [World.size_setCell]; omega, fun k hk hp => (heap_set (by rcases hp with h | ⟨h, _⟩ <;> omega)).trans ((hk2 k (by omega) (by rcases hp with h | ⟨h, _⟩ <;> omega) (by
        rcases hp with h | ⟨_, h, _⟩
        · exact fun ho => by have := hO k ho; omega
        · exact h)).trans (hb1.block k hk))⟩)
    have HOW := Lib.hid (show ∀ k, nextO O (fun _ => False) V (V2.setCell ⟨w.heap.size + 1, 0, none⟩ (.slice uA um uc)) k → W5.heap.size + 2 ≤ k from by
      rintro k (h | h | h)
      · exact hOw k h
      · exact h.elim
      · omega)
    have f1 := hbV2.frozen
    have f2 := hbV2.cell
    clear hbV1 hfV1 hb1 hbV2 hfV2 c0 c1 c2 e0 e1 hrel2 hk2 hno hK2 hkW hkV
    gi_wp2_with fail
    exact ⟨HKS.out, ⟨(uA, um, uc), HBX.out, HFX.out, HRL.out, HKW.out⟩, HOW.out⟩
  case done =>
    intro xs O Z hall hI hD
    obtain ⟨⟨⟨vA, vm, vc⟩, hbx, _, hrel, hkZ⟩, hOw⟩ := hI
    have hz : (Z.putObj W5.heap.size (.deferred none)).cell? ⟨w.heap.size + 1, 0, none⟩ = some (.slice vA vm vc) := (World.cell?_of_block (World.putObj_heap_other (by show w.heap.size + 1 ≠ W5.heap.size; omega))).trans hbx.cell
    have hzz := hbx.cell
    have hZs : W5.heap.size < Z.heap.size := (Array.getElem?_eq_some_iff.1 hD).1
    have HR := Lib.hid (show Rel (pts a n) (vA, vm, vc) O (Z.putObj W5.heap.size (.deferred none)) from by
      rw [← show xs = pts a n from hall]
      refine HD.out.keep _ _ _ Z _ hrel (by simp) (fun k hk hp => World.putObj_heap_other (fun e => ?_))
      rcases hp with hp | hp
      · omega
      · have := hOw k hp; omega)
    have HS := Lib.hid (show Keep F w (Z.putObj W5.heap.size (.deferred none)) from hkZ.grown (putObj_grown Z _ _) (fun r e => by cases e; exact .inl (by omega)))
    have HOO := Lib.hid (show ∀ k, O k → w.heap.size ≤ k from fun k hk => by have := hOw k hk; omega)
    have HDD := Lib.hid hD
    clear hall hbx hrel hit hY1 hY2 hR5 hD hz hOw hZs hkZ
    go_wp2_with fail
    refine ⟨by simp, .inl ⟨_, _, rfl, run_takeDeferred HDD.out, ?_⟩⟩
    exact ⟨_, results_tmp (t := 6) rfl _ _ _, (vA, vm, vc), O, rfl, HR.out, HOO.out, HS.out⟩
  case stop => exact fun _ _ _ _ _ h => h.elim
set_option maxHeartbeats 2000000 in
theorem partwiseL_any (a n cf : Nat) (cap : Array Value) (A0 : Option Addr) (m0 c0 : Nat) (w : World) (F : Nat → Prop) (Rel : List Part → Sl3 → (Nat → Prop) → World → Prop) (han : a + n ≤ 16777216) (hd : Does w a n cf cap F Rel) (h0 : Rel [] (A0, m0, c0) (fun _ => False) w) :
    Calls Tryz.prog 143 #[.agg #[.int .u32 (a : Int), .int .i64 (n : Int)], .slice A0 m0 c0, .func (.func cf) #[] cap] w fun e w' => ∃ v O, e = .returned (slV v) ∧ Rel (pts a n) v O w' ∧ (∀ k, O k → w.heap.size ≤ k) ∧ Keep F w w' := by
  have HD := Lib.hid hd
  have eg := hd.enters
  refine calls_marks Tryz.func143 rfl ?_
  simp only [Tryz.ntmps143, List.size_toArray, List.length_cons, List.length_nil, Nat.reduceAdd, Nat.reduceSub, Array.replicate_succ, Array.replicate_zero, List.push_toArray, List.append_toArray, List.nil_append, List.cons_append]
  clear hd
  go_wp2_with fail
  obtain ⟨W4, hW4⟩ : ∃ W4, W4 = (((w.alloc (.cells #[.int .u32 (a : Int), .int .i64 (n : Int)] 123)).alloc (.cells #[.slice A0 m0 c0] 210)).alloc (.cells #[.func (.func cf) #[] cap] 213)) := ⟨_, rfl⟩
  have hs4 : W4.heap.size = w.heap.size + 3 := by rw [hW4]; simp
  have hB4 : Below w.heap.size w W4 := by rw [hW4]; exact (below2 _ _ _).alloc (by simp; omega) _
  have hX1 : Boxed W4 (w.heap.size + 1) 210 (.slice A0 m0 c0) := by
    have h := Boxed.new (w.alloc (.cells #[.int .u32 (a : Int), .int .i64 (n : Int)] 123)) 210 (.slice A0 m0 c0)
    rw [World.size_alloc] at h
    rw [hW4]
    exact h.alloc _
  have hX2 : Boxed W4 (w.heap.size + 1 + 1) 213 (.func (.func cf) #[] cap) := by
    have h := Boxed.new ((w.alloc (.cells #[.int .u32 (a : Int), .int .i64 (n : Int)] 123)).alloc (.cells #[.slice A0 m0 c0] 210)) 213 (.func (.func cf) #[] cap)
    rw [World.size_alloc, World.size_alloc] at h
    rw [hW4]
    exact h
  rw [← hW4]
  clear hW4
  refine (parts_any a n W4).mono ?_
  rintro e W5 ⟨rfl, hW5⟩
  have hb5 : Below W4.heap.size W4 W5 := by rw [hW5]; exact below1 _ _
  have hs5 : W5.heap.size = W4.heap.size + 1 := by rw [hW5]; simp
  have hr5 : Row W5 W4.heap.size 123 (rc2 a n) := by rw [hW5]; exact Row.new W4 123 (rc2 a n)
  have hit := parts1_it a n W4.heap.size W5 han hr5
  rw [hs4] at hit
  have hY1 := (hb5.block _ (by omega)).trans hX1
  have hY2 := (hb5.block _ (by omega)).trans hX2
  have hB5 := below0 hB4 hb5
  have hR5 : Rel [] (A0, m0, c0) (fun _ => False) W5 := HD.out.keep [] (A0, m0, c0) _ w W5 h0 hB5.size (fun k hk _ => hB5.block k hk)
  clear hW5 hb5 hX1 hX2 hB4 h0
  go_wp2_with fail
  refine wpIn_wide.1 (wpIn_range_box (gf := 262) (lb := #[bx (w.heap.size + 3)]) rfl (enters_of Tryz.func262 (by kernel_rfl) rfl) hit (by rintro k rfl; omega) (fun _ => rfl) (fun _ _ _ _ _ h => h)
    (fun pre O V => PwI w F (w.heap.size + 1) (w.heap.size + 1 + 1) 210 213 (.func (.func cf) #[] cap) Rel pre O V ∧ ∀ k, O k → W5.heap.size + 2 ≤ k) (fun _ _ _ _ => False) ?hI (fun _ _ _ _ _ _ h => h.elim) ⟨⟨(A0, m0, c0), hY1, hY2, hR5, Keep.of_below hB5⟩, fun _ h => h.elim⟩
    (fun g x => { tmps := #[.agg #[.int .u32 (a : Int), .int .i64 (n : Int)], .slice A0 m0 c0, .func (.func cf) #[] cap, .pointer (some ⟨w.heap.size, 0, none⟩), .pointer (some ⟨w.heap.size + 1, 0, none⟩), .pointer (some ⟨w.heap.size + 1 + 1, 0, none⟩), .slice none 0 0, .pointer (some ⟨g, 0, none⟩), .agg #[.int .u32 (a : Int), .int .i64 (n : Int)], .func (.func 262) #[] #[bx (w.heap.size + 3)], enc3 x, undef, undef, undef, undef, undef], defers := [] })
    (fun x => .cells #[.int .i64 (x.1 : Int), .int .i64 (x.2.1 : Int), .int .i64 (x.2.2 : Int)] 193) ?assign ?body ?done ?stop)
  case hI => exact fun s O V V' row hp hg hr => ⟨PwI.abid HD.out (by omega) s O V V' row hp.1 hg hr, hp.2⟩
  case assign =>
    intro l' x W' K hK
    simp only [encX, enc3]
    gi_wp2
    exact hK
  case body =>
    rintro l' pre x O V hVs hO ⟨⟨⟨vA, vm, vc⟩, hbV, hfV, hrel, hkV⟩, hOw⟩ ⟨post, hpost⟩ _
    obtain ⟨V1, hV1⟩ : ∃ V1, V1 = V.alloc (.cells #[.int .i64 (x.1 : Int), .int .i64 (x.2.1 : Int), .int .i64 (x.2.2 : Int)] 193) := ⟨_, rfl⟩
    have hb1 : Below V.heap.size V V1 := by rw [hV1]; exact below1 _ _
    have hz1 : V1.heap.size = V.heap.size + 1 := by rw [hV1]; simp
    have hrow : Row V1 V.heap.size 193 [.int .i64 (x.1 : Int), .int .i64 (x.2.1 : Int), .int .i64 (x.2.2 : Int)] := by rw [hV1]; exact Row.new V 193 [.int .i64 (x.1 : Int), .int .i64 (x.2.1 : Int), .int .i64 (x.2.2 : Int)]
    have c0 : V1.cell? ⟨V.heap.size, 0, none⟩ = some (.int .i64 (x.1 : Int)) := hrow.cell 0
    have c1 : V1.cell? ⟨V.heap.size, 1, none⟩ = some (.int .i64 (x.2.1 : Int)) := hrow.cell 1
    have c2 : V1.cell? ⟨V.heap.size, 2, none⟩ = some (.int .i64 (x.2.2 : Int)) := hrow.cell 2
    have hbV1 : Boxed V1 (w.heap.size + 1) 210 (.slice vA vm vc) := (hb1.block _ (by omega)).trans hbV
    have hfV1 : Boxed V1 (w.heap.size + 1 + 1) 213 (.func (.func cf) #[] cap) := (hb1.block _ (by omega)).trans hfV
    have hrel1 := HD.out.keep pre (vA, vm, vc) O V V1 hrel hb1.size (fun k hk _ => hb1.block k hk)
    have HCALL := Lib.hid (HD.out.call pre x (vA, vm, vc) O V1 ⟨post, hpost⟩ (by omega) (fun k hk => by have := hO k hk; omega) hrel1)
    have e0 := hfV1.cell
    have e1 := hbV1.cell
    rw [← hV1]
    simp only [enc3, slV] at HCALL
    clear hV1 hpost hrel hrel1 hit hY1 hY2 hB5 hbV hfV hrow hR5
    gi_wp2_with fail
    refine ⟨trivial, rfl, CallsIn.inRound l' ((callsIn_wide.2 HCALL.out).mono ?_)⟩
    rintro e V2 ⟨⟨uA, um, uc⟩, rfl, hs2, hrel2, hK2⟩
    have hk2 : ∀ k, k < V1.heap.size → w.heap.size ≤ k → ¬ O k → V2.heap[k]? = V1.heap[k]? := fun k hk hw ho => hK2.block k hk (fun h => h.elim (fun hf => by have := HD.out.low k hf; omega) ho)
    have hkW : Keep F w V2 := (hkV.trans (Keep.of_below (F := F) hb1) (fun k _ h => h)).trans hK2 (fun k hk h => h.elim id (fun ho => by have := hO k ho; omega))
    have HKW := Lib.hid (show Keep F w (V2.setCell ⟨w.heap.size + 1, 0, none⟩ (.slice uA um uc)) from hkW.set (o := 0) _ (.inr (by omega)))
    have hno : ∀ k, (k = w.heap.size + 1 ∨ k = w.heap.size + 1 + 1 ∨ k = w.heap.size + 3) → V2.heap[k]? = V1.heap[k]? := fun k hk => hk2 k (by omega) (by omega) (fun h => by have := hO k h; omega)
    have hbV2 : Boxed V2 (w.heap.size + 1) 210 (.slice vA vm vc) := (hno _ (.inl rfl)).trans hbV1
    have hfV2 : Boxed V2 (w.heap.size + 1 + 1) 213 (.func (.func cf) #[] cap) := (hno _ (.inr (.inl rfl))).trans hfV1
    have HBX := Lib.hid (hbV2.set (.slice uA um uc))
    have HFX := Lib.hid (show Boxed (V2.setCell ⟨w.heap.size + 1, 0, none⟩ (.slice uA um uc)) (w.heap.size + 1 + 1) 213 (.func (.func cf) #[] cap) from (heap_set (by omega)).trans hfV2)
    have HRL := Lib.hid (show Rel (pre ++ [x]) (uA, um, uc) (nextO O (fun _ => False) V (V2.setCell ⟨w.heap.size + 1, 0, none⟩ (.slice uA um uc))) (V2.setCell ⟨w.heap.size + 1, 0, none⟩ (.slice uA um uc)) from by
      refine HD.out.more _ _ _ _ _ (fun k hk => ?_) (HD.out.keep _ _ _ V2 _ hrel2 (by rw [World.size_setCell]; omega) (fun k hk hp => heap_set ?_))
      · rcases hk with hk | hk
        · exact .inl hk
        · exact .inr (.inr ⟨by omega, by rw [World.size_setCell]; omega⟩)
      · rintro rfl
        rcases hp with hp | hp | hp
        · omega
        · have := hO _ hp; omega
        · omega)
    have HKS := Lib.hid (show Keeps (· = w.heap.size + 3) W5.heap.size O (fun _ => False) V (V2.setCell ⟨w.heap.size + 1, 0, none⟩ (.slice uA um uc)) from
      ⟨by rw [World.size_setCell]; omega, fun k hk hp => (heap_set (by rcases hp with h | ⟨h, _⟩ <;> omega)).trans ((hk2 k (by omega) (by rcases hp with h | ⟨h, _⟩ <;> omega) (by
        rcases hp with h | ⟨_, h, _⟩
        · exact fun ho => by have := hO k ho; omega
        · exact h)).trans (hb1.block k hk))⟩)
    have HOW := Lib.hid (show ∀ k, nextO O (fun _ => False) V (V2.setCell ⟨w.heap.size + 1, 0, none⟩ (.slice uA um uc)) k → W5.heap.size + 2 ≤ k from by
      rintro k (h | h | h)
      · exact hOw k h
      · exact h.elim
      · omega)
    have f1 := hbV2.frozen
    have f2 := hbV2.cell
    clear hbV1 hfV1 hb1 hbV2 hfV2 c0 c1 c2 e0 e1 hrel2 hk2 hno hK2 hkW hkV
    gi_wp2_with fail
    exact ⟨HKS.out, ⟨(uA, um, uc), HBX.out, HFX.out, HRL.out, HKW.out⟩, HOW.out⟩
  case done =>
    intro xs O Z hall hI hD
    obtain ⟨⟨⟨vA, vm, vc⟩, hbx, _, hrel, hkZ⟩, hOw⟩ := hI
    have hz : (Z.putObj W5.heap.size (.deferred none)).cell? ⟨w.heap.size + 1, 0, none⟩ = some (.slice vA vm vc) := (World.cell?_of_block (World.putObj_heap_other (by show w.heap.size + 1 ≠ W5.heap.size; omega))).trans hbx.cell
    have hzz := hbx.cell
    have hZs : W5.heap.size < Z.heap.size := (Array.getElem?_eq_some_iff.1 hD).1
    have HR := Lib.hid (show Rel (pts a n) (vA, vm, vc) O (Z.putObj W5.heap.size (.deferred none)) from by
      rw [← show xs = pts a n from hall]
      refine HD.out.keep _ _ _ Z _ hrel (by simp) (fun k hk hp => World.putObj_heap_other (fun e => ?_))
      rcases hp with hp | hp
      · omega
      · have := hOw k hp; omega)
    have HS := Lib.hid (show Keep F w (Z.putObj W5.heap.size (.deferred none)) from hkZ.grown (putObj_grown Z _ _) (fun r e => by cases e; exact .inl (by omega)))
    have HOO := Lib.hid (show ∀ k, O k → w.heap.size ≤ k from fun k hk => by have := hOw k hk; omega)
    have HDD := Lib.hid hD
    clear hall hbx hrel hit hY1 hY2 hR5 hD hz hOw hZs hkZ
    go_wp2_with fail
    refine ⟨by simp, .inl ⟨_, _, rfl, run_takeDeferred HDD.out, ?_⟩⟩
    exact ⟨_, results_tmp (t := 6) rfl _ _ _, (vA, vm, vc), O, rfl, HR.out, HOO.out, HS.out⟩
  case stop => exact fun _ _ _ _ _ h => h.elim
end Go.Proofs.YtiahmccchpmdgaaGreatDoor.Vm

namespace Go.Proofs.YtiahmccchpmdgaaGreatDoor.Vm
open Go.RowKit Go.Shelf Go.Maps Go.Sort
attribute [local go_sem] Oper.semAt_some

/- WHAT IS READ, PART BY PART. -/

theorem own_ne {w : World} {B1 B2 s1 s2 n1 n2 k : Nat} {e1 e2 : TypeId} {v1 v2 : Value} {xs1 xs2 : List Value} (h1 : w.ownsRow B1 e1 s1 v1 n1 xs1) (h2 : w.ownsRow B2 e2 s2 v2 n2 xs2) (he : e1 ≠ e2) (hk : v1.ownBlock = some k) : v2.ownBlock ≠ some k := by
  intro hk2
  obtain ⟨_, ⟨rfl, rfl⟩ | ⟨g, c, cur, rfl, hg, hh, _⟩⟩ := h1
  · cases hk
  · obtain ⟨_, ⟨rfl, rfl⟩ | ⟨g', c', cur', rfl, hg', hh', _⟩⟩ := h2
    · cases hk2
    · have e1 : g = k := Option.some.inj hk
      have e2 : g' = k := Option.some.inj hk2
      subst e1
      subst e2
      have := hh.symm.trans hh'
      injection this with this
      injection this with _ h _
      exact he h
section
variable {w w' : World} {b t q : Nat} {l : Pg.Tb} {p : Pl} {F1 F2 : Nat → Prop}
theorem MRep.keep (h : MRep w b t q l p F1 F2) (hk : ∀ k, (k = b ∨ F1 k ∨ F2 k) → w'.heap[k]? = w.heap[k]?) : MRep w' b t q l p F1 F2 :=
  ⟨h.obj.same (hk b (.inl rfl)), h.tab.keep fun k hf => hk k (.inr (.inl hf)), h.pool.keep fun k hf => hk k (.inr (.inr hf)), h.apart, h.b1, h.b2⟩
theorem MRep.lt (h : MRep w b t q l p F1 F2) : ∀ k, (k = b ∨ F1 k ∨ F2 k) → k < w.heap.size := by
  rintro k (rfl | hf | hf)
  · exact h.obj.lt
  · exact h.tab.lt k hf
  · exact h.pool.lt k hf
end
theorem getX_i64 {l : Pg.Tb} (h : Pg.Tok l) (z : Int) : Pg.I64 (Pg.getX l z).2.2 := by
  unfold Pg.getX
  cases hl : Pg.look l z with
  | none => simp [Pg.zeroEn, Pg.I64]
  | some e => exact (h.big _ ((Pg.look_mem h.sorted).1 hl)).2.2
/-- a part's bytes -/
def pce (p : Pl) (l : Pg.Tb) (x : Part) : List UInt8 := readP p (Pg.getX l (x.1 : Int)).2.2 (x.2.1 : Int) (x.2.2 : Int)
/-- a slice of bytes that lies in a block of one's own -/
def Mine (w : World) (O : Nat → Prop) (V : World) (u : Value) (bs : List UInt8) : Prop := ∃ A n c, u = .slice A n c ∧ n = bs.length ∧ V.ownsRow w.heap.size 5 1 (.slice A n c) n (byt bs) ∧ ∀ k, (Value.slice A n c).ownBlock = some k → O k
structure RdRel (w : World) (gm b t q : Nat) (l : Pg.Tb) (p : Pl) (F1 F2 : Nat → Prop) (pre : List Part) (s : Sl3) (O : Nat → Prop) (V : World) : Prop where
  many : s.2.1 = pre.length
  size : w.heap.size ≤ V.heap.size
  list : ∃ vs : List Value, vs.length = pre.length ∧ V.ownsRow w.heap.size 62 1 (slV s) pre.length vs ∧ (∀ k, (slV s).ownBlock = some k → O k) ∧ ∀ i (h : i < pre.length), ∃ u, vs[i]? = some u ∧ Mine w O V u (pce p l pre[i])
  mem : MRep V b t q l p F1 F2
  box : V.cell? ⟨gm, 0, none⟩ = some (bx b)
theorem Mine.keep {w V V' : World} {O O2 : Nat → Prop} {u : Value} {bs : List UInt8} (h : Mine w O V u bs) (hO : ∀ k, O k → O2 k) (hk : ∀ k, O k → u.ownBlock = some k → V'.heap[k]? = V.heap[k]?) : Mine w O2 V' u bs := by
  obtain ⟨A, n, c, rfl, h1, h2, h3⟩ := h
  exact ⟨A, n, c, rfl, h1, own_same h2 (fun k e => hk k (h3 k e) e), fun k e => hO k (h3 k e)⟩
theorem Mine.lt {w V : World} {O : Nat → Prop} {u : Value} {bs : List UInt8} (h : Mine w O V u bs) {k : Nat} (hk : u.ownBlock = some k) : k < V.heap.size := by
  obtain ⟨A, n, c, rfl, h1, h2, h3⟩ := h
  exact own_lt h2 hk
theorem slice_info : (Tryz.prog.info? 62).map (fun i => (i.zero, i.size, i.bytes)) = some (some (.slice none 0 0), 1, 24) := by kernel_rfl
set_option maxRecDepth 100000 in
set_option maxHeartbeats 2000000 in
theorem read1_any {w V : World} {gm b t q : Nat} {l : Pg.Tb} {p : Pl} {F1 F2 O : Nat → Prop} {pre : List Part} {s : Sl3} (h0 : MRep w b t q l p F1 F2) (hg : gm < w.heap.size) (hgF : gm ≠ b ∧ ¬ F1 gm ∧ ¬ F2 gm) (hO : ∀ k, O k → w.heap.size ≤ k ∧ k < V.heap.size) (h : RdRel w gm b t q l p F1 F2 pre s O V) (hlen : pre.length ≤ 1000000) (x : Part) (hx : x.1 < 65536) (hx2 : x.2.1 < 256) (hx3 : x.2.2 ≤ 256) :
    Calls Tryz.prog 144 (#[slV s, enc3 x] ++ #[bx gm]) V fun e V' => ∃ v', e = .returned (slV v') ∧ V.heap.size ≤ V'.heap.size ∧ RdRel w gm b t q l p F1 F2 (pre ++ [x]) v' (fun k => O k ∨ (V.heap.size ≤ k ∧ k < V'.heap.size)) V' ∧ Keep (fun k => False ∨ O k) V V' := by
  obtain ⟨i0, hi, hz0, hz1, hz2⟩ := info_parts slice_info
  obtain ⟨sA, sm, sc⟩ := s
  obtain ⟨h1, hsz, ⟨vs, hvl, hown, hvO, hmine⟩, hmem, hbox⟩ := h
  simp only at h1
  subst h1
  obtain ⟨pg, pl, k⟩ := x
  simp only at hx hx2 hx3
  obtain ⟨L, hL⟩ : ∃ L, L = pre.length := ⟨_, rfl⟩
  obtain ⟨V1, hV1⟩ : ∃ V1, V1 = V.alloc (.cells #[.int .i64 (pg : Int), .int .i64 (pl : Int), .int .i64 (k : Int)] 193) := ⟨_, rfl⟩
  have hb1 : Below V.heap.size V V1 := by rw [hV1]; exact below1 _ _
  have hz1' : V1.heap.size = V.heap.size + 1 := by rw [hV1]; simp
  have hrow : Row V1 V.heap.size 193 [.int .i64 (pg : Int), .int .i64 (pl : Int), .int .i64 (k : Int)] := by rw [hV1]; exact Row.new V 193 [.int .i64 (pg : Int), .int .i64 (pl : Int), .int .i64 (k : Int)]
  have HSS := Lib.hid (fun (W : World) (hb : Below V1.heap.size V1 W) => (show W.cell? ⟨gm, 0, none⟩ = some (bx b) ∧ W.cell? ⟨b, 0, none⟩ = some (bx t) ∧ W.cell? ⟨b, 1, none⟩ = some (bx q) ∧ W.cell? ⟨V.heap.size, 0, none⟩ = some (.int .i64 (pg : Int)) ∧ W.cell? ⟨V.heap.size, 1, none⟩ = some (.int .i64 (pl : Int)) ∧ W.cell? ⟨V.heap.size, 2, none⟩ = some (.int .i64 (k : Int)) from
    ⟨((below0 hb1 hb).cell (p := ⟨gm, 0, none⟩) (by show gm < _; omega)).trans hbox, (hmem.below (below0 hb1 hb)).c0, (hmem.below (below0 hb1 hb)).c1, (hrow.below hb).cell 0, (hrow.below hb).cell 1, (hrow.below hb).cell 2⟩))
  have HFR := Lib.hid (fun (W : World) (hb : Below V1.heap.size V1 W) => framed_any (hmem.below (below0 hb1 hb)).tab (pg : Int) (by unfold Pg.I64; omega))
  have hfi := getX_i64 hmem.tab.ok (pg : Int)
  unfold Pg.I64 at hfi
  have HRD := Lib.hid (fun (W : World) (hb : Below V1.heap.size V1 W) => read_any (hmem.below (below0 hb1 hb)).pool (Pg.getX l (pg : Int)).2.2 (pl : Int) (k : Int) hfi.2 (by omega))
  have hpce : pce p l (pg, pl, k) = readP p (Pg.getX l (pg : Int)).2.2 (pl : Int) (k : Int) := rfl
  obtain ⟨f, hf⟩ : ∃ f, f = (Pg.getX l (pg : Int)).2.2 := ⟨_, rfl⟩
  rw [← hf] at HFR HRD hpce
  obtain ⟨E, hE⟩ : ∃ E, E = reachE p f (pl : Int) (k : Int) := ⟨_, rfl⟩
  rw [← hE] at HRD
  rw [← hpce] at HRD
  have HF := Lib.hid (And.intro hmem (And.intro hbox (And.intro hvO hmine)))
  have HVL := Lib.hid (And.intro hvl hsz)
  have HHL := Lib.hid hL
  have HO := Lib.hid hO
  have HN := Lib.hid hlen
  have HB1 := Lib.hid (And.intro hb1 hz1')
  have HM0 := Lib.hid (And.intro h0 (And.intro hg hgF))
  have hownV : Hid (V.ownsRow w.heap.size 62 1 (.slice sA L sc) pre.length vs) := by rw [hL]; exact Lib.hid hown
  have HOWN := Lib.hid (fun W (hb : Below V1.heap.size V1 W) => (own_same hown (fun kk e => (below0 hb1 hb).block kk (own_lt hown e)) : W.ownsRow w.heap.size 62 1 (slV (sA, pre.length, sc)) pre.length vs))
  rw [← hL] at HOWN ⊢
  simp only [slV] at HOWN
  show Calls _ _ #[.slice sA L sc, .agg #[.int .i64 (pg : Int), .int .i64 (pl : Int), .int .i64 (k : Int)], bx gm] _ _
  clear hfi hpce hf hE hmem hbox hvO hmine hvl hsz hL hO hlen hb1 hz1' h0 hg hgF hown hrow hx hx2 hx3
  go_enter Tryz.func144, Tryz.ntmps144
  go_wp2_with fail
  rw [← hV1]
  clear hV1
  have hdr : Below V1.heap.size V1 V1.drew := (Below.refl _ _).drew
  refine wp_region_held_drew (S := fun W => W.cell? ⟨gm, 0, none⟩ = some (bx b) ∧ W.cell? ⟨b, 0, none⟩ = some (bx t) ∧ W.cell? ⟨b, 1, none⟩ = some (bx q) ∧ W.cell? ⟨V.heap.size, 0, none⟩ = some (.int .i64 (pg : Int)) ∧ W.cell? ⟨V.heap.size, 1, none⟩ = some (.int .i64 (pl : Int)) ∧ W.cell? ⟨V.heap.size, 2, none⟩ = some (.int .i64 (k : Int))) (by kernel_rfl) (HSS.out _ hdr) (fun hHeld => ?_)
  refine wpAnyH_take (i := 0) (v := ?_) rfl (by kernel_rfl) (by kernel_rfl) (by kernel_rfl) (fun _ _ _ h => h) (Or.inl ⟨by kernel_rfl, ?_⟩) hHeld ?_
  rotate_left
  focus (intro w hSw; (try dsimp only at hSw); go_simp; try with_reducible rfl)
  simp only [Act.put]
  refine wpAnyH_take (i := 1) (v := ?_) rfl (by kernel_rfl) (by kernel_rfl) (by kernel_rfl) (fun _ _ _ h => h) (Or.inl ⟨by kernel_rfl, ?_⟩) hHeld ?_
  rotate_left
  focus (intro w hSw; (try dsimp only at hSw); go_simp; try with_reducible rfl)
  simp only [Act.put]
  refine wpAnyH_take (i := 2) (v := ?_) rfl (by kernel_rfl) (by kernel_rfl) (by kernel_rfl) (fun _ _ _ h => h) (Or.inl ⟨by kernel_rfl, ?_⟩) hHeld ?_
  rotate_left
  focus (intro w hSw; (try dsimp only at hSw); go_simp; try with_reducible rfl)
  simp only [Act.put]
  refine wpAnyH_take (i := 3) (v := ?_) rfl (by kernel_rfl) (by kernel_rfl) (by kernel_rfl) (fun _ _ _ h => h) (Or.inl ⟨by kernel_rfl, ?_⟩) hHeld ?_
  rotate_left
  focus (intro w hSw; (try dsimp only at hSw); go_simp; try with_reducible rfl)
  simp only [Act.put]
  refine wpAnyH_take (i := 4) (v := ?_) rfl (by kernel_rfl) (by kernel_rfl) (by kernel_rfl) (fun _ _ _ h => h) (Or.inl ⟨by kernel_rfl, ?_⟩) hHeld ?_
  rotate_left
  focus (intro w hSw; (try dsimp only at hSw); go_simp; try with_reducible rfl)
  simp only [Act.put]
  refine wpAnyH_take (i := 5) (v := ?_) rfl (by kernel_rfl) (by kernel_rfl) (by kernel_rfl) (fun _ _ _ h => h) (Or.inl ⟨by kernel_rfl, ?_⟩) hHeld ?_
  rotate_left
  focus (intro w hSw; (try dsimp only at hSw); go_simp; try with_reducible rfl)
  simp only [Act.put]
  refine wpAnyH_take (i := 6) (v := ?_) rfl (by kernel_rfl) (by kernel_rfl) (by kernel_rfl) (fun _ _ _ h => h) (Or.inl ⟨by kernel_rfl, ?_⟩) hHeld ?_
  rotate_left
  focus (intro w hSw; (try dsimp only at hSw); go_simp; try with_reducible rfl)
  simp only [Act.put]
  refine wpAnyH_take (i := 7) (v := ?_) rfl (by kernel_rfl) (by kernel_rfl) (by kernel_rfl) (fun _ _ _ h => h) (Or.inl ⟨by kernel_rfl, ?_⟩) hHeld ?_
  rotate_left
  focus (intro w hSw; (try dsimp only at hSw); go_simp; try with_reducible rfl)
  simp only [Act.put]
  refine wpAnyH_take (i := 8) (v := ?_) rfl (by kernel_rfl) (by kernel_rfl) (by kernel_rfl) (fun _ _ _ h => h) (Or.inl ⟨by kernel_rfl, ?_⟩) hHeld ?_
  rotate_left
  focus (intro w hSw; (try dsimp only at hSw); go_simp; try with_reducible rfl)
  simp only [Act.put]
  refine wpAnyH_take (i := 9) (v := ?_) rfl (by kernel_rfl) (by kernel_rfl) (by kernel_rfl) (fun _ _ _ h => h) (Or.inl ⟨by kernel_rfl, ?_⟩) hHeld ?_
  rotate_left
  focus (intro w hSw; (try dsimp only at hSw); go_simp; try with_reducible rfl)
  simp only [Act.put]
  refine wpAnyH_take (i := 11) (v := ?_) rfl (by kernel_rfl) (by kernel_rfl) (by kernel_rfl) (fun _ _ _ h => h) (Or.inl ⟨by kernel_rfl, ?_⟩) hHeld ?_
  rotate_left
  focus (intro w hSw; (try dsimp only at hSw); go_simp; try with_reducible rfl)
  simp only [Act.put]
  refine wpAnyH_take (i := 12) (v := ?_) rfl (by kernel_rfl) (by kernel_rfl) (by kernel_rfl) (fun _ _ _ h => h) (Or.inl ⟨by kernel_rfl, ?_⟩) hHeld ?_
  rotate_left
  focus (intro w hSw; (try dsimp only at hSw); go_simp; try with_reducible rfl)
  simp only [Act.put]
  refine wpAnyH_take (i := 13) (v := ?_) rfl (by kernel_rfl) (by kernel_rfl) (by kernel_rfl) (fun _ _ _ h => h) (Or.inl ⟨by kernel_rfl, ?_⟩) hHeld ?_
  rotate_left
  focus (intro w hSw; (try dsimp only at hSw); go_simp; try with_reducible rfl)
  simp only [Act.put]
  refine wpAnyH_take (i := 14) (v := ?_) rfl (by kernel_rfl) (by kernel_rfl) (by kernel_rfl) (fun _ _ _ h => h) (Or.inl ⟨by kernel_rfl, ?_⟩) hHeld ?_
  rotate_left
  focus (intro w hSw; (try dsimp only at hSw); go_simp; try with_reducible rfl)
  simp only [Act.put]
  refine wpAnyH_ready (rs := [10]) (by kernel_rfl) (by simp) ?_
  refine AllReadyH.cons rfl (fun K hK => ?_) (AllReadyH.nil)
  go_simp
  refine (HFR.out _ hdr).mono ?_
  rintro e W1 ⟨rfl, hb2⟩
  replace hb2 := below0 hdr hb2
  refine hK.out _ _ (HSS.out _ hb2) (fun hHeld => ?_)
  clear hK K
  try simp only [Act.put]
  refine wpAnyH_ready (rs := [15]) (by kernel_rfl) (by simp) ?_
  refine AllReadyH.cons rfl (fun K hK => ?_) (AllReadyH.nil)
  go_simp
  refine (HRD.out _ hb2).mono ?_
  rintro e W2 ⟨A, n, c, rfl, hn, hnc, hown2, hb3⟩
  have HP := Lib.hid (And.intro hn (And.intro hown2 (And.intro hb2 hb3)))
  replace hb3 := below0 hb2 hb3
  refine hK.out _ _ (HSS.out _ hb3) (fun hHeld => ?_)
  clear hK K hown2 hn hnc hb2 hdr
  try simp only [Act.put]
  refine wpAnyH_take (i := 16) (v := ?_) rfl (by kernel_rfl) (by kernel_rfl) (by kernel_rfl) (fun _ _ _ h => h) (Or.inl ⟨by kernel_rfl, ?_⟩) hHeld ?_
  rotate_left
  focus (intro w hSw; (try dsimp only at hSw); go_simp; try with_reducible rfl)
  simp only [Act.put]
  refine wpAnyH_take (i := 17) (v := ?_) rfl (by kernel_rfl) (by kernel_rfl) (by kernel_rfl) (fun _ _ _ h => h) (Or.inl ⟨by kernel_rfl, ?_⟩) hHeld ?_
  rotate_left
  focus (intro w hSw; (try dsimp only at hSw); go_simp; try with_reducible rfl)
  simp only [Act.put]
  refine wpAnyH_take (i := 18) (v := ?_) rfl (by kernel_rfl) (by kernel_rfl) (by kernel_rfl) (fun _ _ _ h => h) (Or.inl ⟨by kernel_rfl, ?_⟩) hHeld ?_
  rotate_left
  focus (intro w hSw; (try dsimp only at hSw); go_simp; try with_reducible rfl)
  simp only [Act.put]
  refine wpAnyH_ready (rs := [19]) (by kernel_rfl) (by simp) ?_
  refine AllReadyH.cons rfl (fun K hK => ?_) (AllReadyH.nil)
  go_simp
  refine hK.out _ _ (HSS.out _ hb3) (fun hHeld => ?_)
  clear hK K
  try simp only [Act.put]
  refine wpAnyH_ready (rs := [20]) (by kernel_rfl) (by simp) ?_
  refine AllReadyH.cons rfl (fun K hK => ?_) (AllReadyH.nil)
  go_simp
  refine hK.out _ _ (HSS.out _ hb3) (fun hHeld => ?_)
  clear hK K
  try simp only [Act.put]
  refine wpAnyH_done (by kernel_rfl) ?_ _
  clear HSS HFR HRD
  have hownA := (HOWN.out _ hb3).alloc (.cells #[.slice A n c] 62)
  have HB3 := Lib.hid hb3
  have hsz3 : w.heap.size ≤ W2.heap.size + 1 := by have := hb3.size; have := HB1.out.2; have := HVL.out.2; omega
  have hLn := HN.out
  rw [← HHL.out] at hLn
  clear hb3 HOWN
  go_wp2_with (at_builtin; go_loud (refine wpList_append_sees rfl (.tmp 27) (.tmp 29) 210 rfl w.heap.size 62 i0 _ 1 24 Tryz.underlying210 hi hz0 hz1 hz2 rfl (by decide) (.slice sA L sc) L vs rfl hownA _ (some ⟨W2.heap.size, 0, none⟩) 1 1 [.slice A n c] rfl rfl (Row.new W2 62 [.slice A n c]).sees (by simp [Value.oneCell']) (by unfold maxLen; omega) (by omega) (by simp; omega) ?_; intro v' w1 hown' hg1 hgg; obtain ⟨A', c', rfl⟩ := own_slice hown'))
  have HFIN := Lib.hid (show V.heap.size ≤ w1.heap.size ∧ RdRel w gm b t q l p F1 F2 (pre ++ [(pg, pl, k)]) (A', L + 1, c') (fun kk => O kk ∨ (V.heap.size ≤ kk ∧ kk < w1.heap.size)) w1 ∧ Keep (fun kk => False ∨ O kk) V w1 from by
    obtain ⟨hmem, hbox, hvO, hmine⟩ := HF.out
    obtain ⟨hvl, hsz⟩ := HVL.out
    obtain ⟨hn, hown2, hb12, hb22⟩ := HP.out
    obtain ⟨h0, hg, hgF⟩ := HM0.out
    obtain ⟨hb1, hz1'⟩ := HB1.out
    have hbV := below0 hb1 HB3.out
    have hbA := hbV.alloc hbV.size (.cells #[.slice A n c] 62)
    have hgs := hg1.size
    have hs3 := hbV.size
    have hs1 := hb1.size
    have hs12 := hb12.size
    rw [World.size_alloc] at hgs
    have hLL := HHL.out
    have hO := HO.out
    have hown0 : ∀ kk, (Value.slice sA L sc).ownBlock = some kk → O kk := by rw [hLL]; exact hvO
    have hk : ∀ kk, kk < V.heap.size → some kk ≠ (Value.slice sA L sc).ownBlock → w1.heap[kk]? = V.heap[kk]? := fun kk h1 h2 => (hg1.block kk (by rw [World.size_alloc]; omega) h2).trans (hbA.block kk h1)
    have hkw : ∀ kk, kk < w.heap.size → w1.heap[kk]? = V.heap[kk]? := fun kk h1 => hk kk (by omega) (fun e => by have := hO kk (hown0 kk e.symm); omega)
    refine ⟨by omega, ⟨by simp [hLL], by omega, ⟨vs ++ [.slice A n c], by simp [hvl], ?_, ?_, ?_⟩, hmem.keep fun kk hkk => hkw kk (h0.lt kk hkk), (World.cell?_of_block (hkw gm hg)).trans hbox⟩, (Keep.of_below hbA).grown hg1 (fun r e => .inr (.inr (hown0 r e)))⟩
    · rw [List.length_append, ← hLL]
      exact hown'
    · intro kk e
      rcases hgg with h | h
      · exact .inl (hown0 kk (by rw [← h]; exact e))
      · have := own_lt hown' e
        have e2 : some kk = some (W2.heap.size + 1) := by rw [← World.size_alloc W2, ← h]; exact e.symm
        injection e2 with e2
        exact .inr ⟨by omega, this⟩
    · intro i hi9
      rw [List.length_append, List.length_singleton] at hi9
      by_cases hil : i < pre.length
      · obtain ⟨u, hu, hm⟩ := hmine i hil
        refine ⟨u, by rw [List.getElem?_append_left (by omega)]; exact hu, ?_⟩
        rw [List.getElem_append_left hil]
        refine hm.keep (fun kk h => .inl h) (fun kk ho e => hk kk (hm.lt e) (fun e2 => ?_))
        obtain ⟨A9, n9, c9, rfl, _, hh, _⟩ := hm
        exact own_ne hh hownV.out (by decide) e e2.symm
      · obtain rfl : i = pre.length := by omega
        refine ⟨.slice A n c, by rw [List.getElem?_append_right (by omega)]; simp [hvl], ?_⟩
        rw [List.getElem_append_right (by omega)]
        simp only [Nat.sub_self, List.getElem_cons_zero]
        refine ⟨A, n, c, rfl, hn, ?_, ?_⟩
        · refine own_mono (own_same hown2 fun kk e => ?_) (by omega)
          have h9 := hown2.lt kk e
          have hkl := own_lt hown2 e
          exact (hg1.block kk (by rw [World.size_alloc]; omega) (fun e2 => by have := hO kk (hown0 kk e2.symm); omega)).trans (Below.heap_alloc _ _ _ hkl)
        · intro kk e
          have h9 := hown2.lt kk e
          have hkl := own_lt hown2 e
          exact .inr ⟨by omega, by omega⟩)
  clear hg1 hgg hown' hownA
  go_ret
  exact ⟨(A', L + 1, c'), rfl, HFIN.out⟩
end Go.Proofs.YtiahmccchpmdgaaGreatDoor.Vm

namespace Go.Proofs.YtiahmccchpmdgaaGreatDoor.Vm
open Go.RowKit Go.Shelf Go.Maps Go.Sort
attribute [local go_sem] Oper.semAt_some

/- READ: THE BYTES OF A REACH. -/

set_option maxRecDepth 100000 in
theorem pts_len : ∀ (n a : Nat), (pts a n).length * 256 ≤ a % 256 + n + 255 := by
  intro n
  induction n using Nat.strongRecOn with
  | _ n ih =>
    intro a
    rcases Nat.eq_zero_or_pos n with rfl | hn
    · rw [pts_zero]
      simp
    · rw [pts_pos hn, List.length_cons]
      by_cases h : n ≤ 256 - a % 256
      · have e : n - min n (256 - a % 256) = 0 := by omega
        rw [e, pts_zero]
        simp only [List.length_nil]
        omega
      · obtain ⟨k, hk⟩ : ∃ k, k = 256 - a % 256 := ⟨_, rfl⟩
        have e1 : min n (256 - a % 256) = k := by omega
        have h2 := ih (n - k) (by omega) (a + k)
        have e2 : (a + k) % 256 = 0 := by omega
        rw [e1]
        rw [e2] at h2
        obtain ⟨m, hm⟩ : ∃ m, m = n - k := ⟨_, rfl⟩
        rw [← hm] at h2 ⊢
        generalize (pts (a + k) m).length = L at h2 ⊢
        clear e2 e1 ih
        omega
theorem sees_own {w : World} {base size n c : Nat} {A : Option Addr} {e : TypeId} {xs : List Value} (h : w.ownsRow base e size (.slice A n c) n xs) : Sees w w.heap.size A xs := fun hn => by
  have h0 : 0 < n := by
    rcases Nat.eq_zero_or_pos n with h0 | h0
    · have := h.1
      rw [h0, Nat.zero_mul] at this
      exact absurd (List.eq_nil_of_length_eq_zero this) hn
    · exact h0
  obtain ⟨g, cap, hv, _, hlt⟩ := h.form h0
  have hA : A = some ⟨g, 0, none⟩ := by injection hv
  subst hA
  exact ⟨_, rfl, hlt, h.cells (g := g) rfl⟩
theorem readP_le (p : Pl) (i a m : Int) : (readP p i a m).length ≤ m.toNat := by
  unfold readP
  split
  · split
    · rw [List.length_take]; omega
    · simp
  · simp
/-- the bytes of a reach -/
def rdB (p : Pl) (l : Pg.Tb) (a n : Nat) : List UInt8 := flat ((pts a n).map (pce p l))
theorem flat_le : ∀ (ls : List (List UInt8)), (∀ x ∈ ls, x.length ≤ 256) → (flat ls).length ≤ 256 * ls.length
  | [], _ => by simp [flat]
  | x :: r, h => by
    have h1 := h x (by simp)
    have h2 := flat_le r (fun y hy => h y (by simp [hy]))
    rw [flat, List.length_append, List.length_cons]
    omega
theorem rd_does {w : World} {gm b t q : Nat} {l : Pg.Tb} {p : Pl} {F1 F2 : Nat → Prop} (h0 : MRep w b t q l p F1 F2) (hg : gm < w.heap.size) (hgF : gm ≠ b ∧ ¬ F1 gm ∧ ¬ F2 gm) (a n : Nat) (han : a + n ≤ 16777216) :
    Does w a n 144 #[bx gm] (fun _ => False) (RdRel w gm b t q l p F1 F2) := by
  refine ⟨enters_of Tryz.func144 (by kernel_rfl) rfl, fun _ h => h.elim, ?_, ?_, ?_⟩
  · rintro pre v O V V' ⟨h1, h2, ⟨vs, h3, h4, h5, h6⟩, h7, h8⟩ hs hk
    refine ⟨h1, by omega, ⟨vs, h3, own_same h4 (fun k e => hk k (own_lt h4 e) (.inr (h5 k e))), h5, fun i hi => ?_⟩, h7.keep fun k hkk => hk k (h7.lt k hkk) (.inl (h0.lt k hkk)), (World.cell?_of_block (hk gm (by omega) (.inl hg))).trans h8⟩
    obtain ⟨u, hu, hm⟩ := h6 i hi
    exact ⟨u, hu, hm.keep (fun k h => h) (fun k ho e => hk k (hm.lt e) (.inr ho))⟩
  · rintro pre v O O2 V hO ⟨h1, h2, ⟨vs, h3, h4, h5, h6⟩, h7, h8⟩
    refine ⟨h1, h2, ⟨vs, h3, h4, fun k e => hO k (h5 k e), fun i hi => ?_⟩, h7, h8⟩
    obtain ⟨u, hu, hm⟩ := h6 i hi
    exact ⟨u, hu, hm.keep hO (fun k ho e => rfl)⟩
  · rintro pre x v O V ⟨post, hpost⟩ hsz hO h
    have hx := pts_mem n a han x (by rw [hpost]; simp)
    have hl := pts_len n a
    rw [hpost, List.length_append] at hl
    exact read1_any h0 hg hgF hO h (by omega) x hx.1 hx.2.1 (by omega)
set_option maxHeartbeats 1000000 in
theorem readM_any {w : World} {b t q : Nat} {l : Pg.Tb} {p : Pl} {F1 F2 : Nat → Prop} (h : MRep w b t q l p F1 F2) (a n : Nat) (han : a + n ≤ 16777216) :
    Calls Tryz.prog 71 #[bx b, .agg #[.int .u32 (a : Int), .int .i64 (n : Int)]] w fun e w' => ∃ v, e = .returned v ∧ w'.ownsRow w.heap.size 5 1 v (rdB p l a n).length (byt (rdB p l a n)) ∧ Below w.heap.size w w' := by
  obtain ⟨W, hW⟩ : ∃ W, W = (w.alloc (.cells #[bx b] 24)).alloc (.cells #[.int .u32 (a : Int), .int .i64 (n : Int)] 123) := ⟨_, rfl⟩
  have hbW : Below w.heap.size w W := by rw [hW]; exact below2 _ _ _
  have hc : W.cell? ⟨w.heap.size, 0, none⟩ = some (bx b) := by
    rw [hW]
    exact (World.cell?_alloc_lt _ _ _ (by simp)).trans (cell_alloc_new _ _ _ _)
  have hsW : W.heap.size = w.heap.size + 1 + 1 := by rw [hW]; simp
  have h0 := h.below hbW
  have hgF : w.heap.size ≠ b ∧ ¬ F1 w.heap.size ∧ ¬ F2 w.heap.size := ⟨fun e => by have := h.lt b (.inl rfl); omega, fun hf => by have := h.lt _ (.inr (.inl hf)); omega, fun hf => by have := h.lt _ (.inr (.inr hf)); omega⟩
  have HP := Lib.hid (partwiseL_any a n 144 #[bx w.heap.size] none 0 0 W (fun _ => False) (RdRel W w.heap.size b t q l p F1 F2) han (rd_does h0 (by omega) hgF a n han)
    ⟨rfl, Nat.le_refl _, ⟨[], rfl, World.ownsRow_nil _ _ _ _, fun k h => (by cases h), fun i h => absurd h (by simp)⟩, h0, hc⟩)
  have HB := Lib.hid (And.intro hbW hsW)
  clear h h0 hgF hc hbW hsW
  go_enter Tryz.func71, Tryz.ntmps71
  go_wp2_with fail
  rw [← hW]
  clear hW
  refine (HP.out).mono ?_
  rintro e w1 ⟨⟨sA, sm, sc⟩, O, rfl, h1, hO, hK⟩
  obtain ⟨h1, h2, ⟨vs, h3, h4, h5, h6⟩, _, _⟩ := h1
  simp only at h1
  subst h1
  have hb1 := hK.below (n := w.heap.size) (fun _ h => h.elim) (by have := HB.out.2; omega)
  have hl := pts_len n a
  obtain ⟨L, hL⟩ : ∃ L, L = (pts a n).length := ⟨_, rfl⟩
  have hls : ∀ x ∈ (pts a n).map (pce p l), x.length ≤ 256 := by
    intro x hx
    obtain ⟨y, hy, rfl⟩ := List.mem_map.1 hx
    have := pts_mem n a han y hy
    have h9 := readP_le p (Pg.getX l (y.1 : Int)).2.2 (y.2.1 : Int) (y.2.2 : Int)
    unfold pce
    omega
  have hfl := flat_le _ hls
  rw [List.length_map] at hfl
  have HJ := Lib.hid (joined_any ((pts a n).map (pce p l)) L sc w1.heap.size sA w1 (by rw [List.length_map, hL]) (by omega) (by omega) ⟨vs, by rw [h3, List.length_map], sees_own h4, fun i hi => by
    rw [List.length_map] at hi
    obtain ⟨u, hu, A, m, c, rfl, g1, g2, g3⟩ := h6 i hi
    refine ⟨A, m, c, hu, by rw [List.getElem_map, g1], ?_, by rw [List.getElem_map]; exact sees_own g2⟩
    have := hls _ (List.mem_map_of_mem (List.getElem_mem hi))
    omega⟩ (Nat.le_refl _))
  have HB1 := Lib.hid (below0 HB.out.1 (by exact hK.below (n := W.heap.size) (fun _ h => h.elim) (Nat.le_refl _)))
  rw [← hL]
  clear h2 h3 h4 h5 h6 hb1 hl hL hls hfl hO hK
  simp only [slV]
  go_wp2_with fail
  refine (HJ.out).mono ?_
  rintro e w2 ⟨v, rfl, hown, hb2⟩
  obtain ⟨A, c, rfl⟩ := own_slice hown
  have HF := Lib.hid (show w2.ownsRow w.heap.size 5 1 (.slice A (flat ((pts a n).map (pce p l))).length c) (rdB p l a n).length (byt (rdB p l a n)) ∧ Below w.heap.size w w2 from ⟨own_mono hown HB1.out.size, below0 HB1.out hb2⟩)
  clear hown hb2
  go_wp2_with fail
  go_ret
  exact ⟨_, rfl, HF.out⟩
end Go.Proofs.YtiahmccchpmdgaaGreatDoor.Vm
