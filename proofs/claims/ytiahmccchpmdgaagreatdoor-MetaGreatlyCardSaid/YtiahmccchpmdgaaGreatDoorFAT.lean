import Derived.Test.YtiahmccchpmdgaaGreatDoorFAS
import Derived.Test.YtiahmccchpmdgaaGreatDoorFAA
import Derived.OrdersIn
import Derived.Deep.RegionHeld3
namespace Go.Proofs.YtiahmccchpmdgaaGreatDoor.Me
open Go.RowKit Go.Shelf
attribute [local go_sem] Oper.semAt_some

/- A RECORD OUT OF ITS NUMBERS. -/
def okN (l : List Prt) (nv : Nat → Nat) (k : Nat) : Prop := nv k ≤ (prt l k).mo
def readL (l : List Prt) (nv : Nat → Nat) : Prop := ∀ k, k < l.length → okN l nv k
def RdI (w : World) (l : List Prt) (nv : Nat → Nat) (st : Nat → List Value) (tr : TypeId) (fv : Value) (pre : List Nat) (_O : Nat → Prop) (V : World) : Prop :=
  Boxed V w.heap.size 291 fv ∧ Row V (w.heap.size + 1) tr (st 0) ∧ Boxed V (w.heap.size + 1 + 1) 4 (.bool false) ∧ Row V (w.heap.size + 1 + 1 + 1) tr (st pre.length) ∧ Row V (w.heap.size + 1 + 1 + 1 + 1) tr (st 0) ∧ (∀ k, k < pre.length → okN l nv k) ∧ Below w.heap.size w V
def RdX (w : World) (l : List Prt) (nv : Nat → Nat) (st : Nat → List Value) (tr : TypeId) (cc : Code) (_pre : List Nat) (_O : Nat → Prop) (V : World) : Prop :=
  cc = .ret ∧ Row V (w.heap.size + 1) tr (st 0) ∧ Boxed V (w.heap.size + 1 + 1) 4 (.bool false) ∧ (¬ readL l nv) ∧ Below w.heap.size w V
theorem RdI.abid {w : World} {l : List Prt} {nv : Nat → Nat} {st : Nat → List Value} {tr : TypeId} {fv : Value} {B : Nat} (h : w.heap.size + 5 ≤ B) : Abid B (RdI w l nv st tr fv) := by
  rintro pre O V V' row ⟨h1, h2, h3, h4, h5, h6, h7⟩ hg hr
  have ne : ∀ k, k < w.heap.size + 5 → some k ≠ row := fun k hk e => by have := hr k e.symm; omega
  exact ⟨h1.kept hg (ne _ (by omega)), row_kept h2 hg (ne _ (by omega)), h3.kept hg (ne _ (by omega)), row_kept h4 hg (ne _ (by omega)), row_kept h5 hg (ne _ (by omega)), h6, h7.grown hg h7.size (fun k e => by have := hr k e; omega)⟩
theorem RdX.abid {w : World} {l : List Prt} {nv : Nat → Nat} {st : Nat → List Value} {tr : TypeId} {B : Nat} (h : w.heap.size + 5 ≤ B) (cc : Code) : Abid B (RdX w l nv st tr cc) := by
  rintro pre O V V' row ⟨h0, h2, h3, h6, h7⟩ hg hr
  have ne : ∀ k, k < w.heap.size + 5 → some k ≠ row := fun k hk e => by have := hr k e.symm; omega
  exact ⟨h0, row_kept h2 hg (ne _ (by omega)), h3.kept hg (ne _ (by omega)), h6, h7.grown hg h7.size (fun k e => by have := hr k e; omega)⟩
set_option maxRecDepth 100000 in
set_option maxHeartbeats 4000000 in
theorem read_Rec (a0 a1 a2 : Int) (cf : Nat) (cap : Array Value) (nv : Nat → Nat) (st : Nat → List Value) (l : List Prt) (g n c : Nat) (t : TypeId) (w : World) (hrow : Row w g t (prtCells l)) (hn : l.length = n) (hm : n ≤ 6) (hc : n ≤ c) (hf : ∀ k, k ≤ n → frm l k ≤ 1000)
    (hst : st 0 = [.int .i64 0, .int .i64 0, .int .u32 0]) (hfin : st n = [.int .i64 a0, .int .i64 a1, .int .u32 a2])
    (eg : ∀ args w, (callFunc cf args).run Tryz.prog w = .ok (.enter cf args) w)
    (HN : ∀ k, k < l.length → ∀ W, Below w.heap.size w W → Calls Tryz.prog cf (#[.int .i64 (frm l k : Int), .int .i64 ((prt l k).wd : Int)] ++ cap) W fun e W' => e = .returned (.int .i64 (nv k : Int)) ∧ Below W.heap.size W W')
    (EG : ∀ k, k < l.length → ∀ args w, (callFunc (prt l k).sf args).run Tryz.prog w = .ok (.enter (prt l k).sf args) w)
    (HS : ∀ k, k < l.length → okN l nv k → ∀ (b : Nat) W, Row W b 41 (st k) → Calls Tryz.prog (prt l k).sf #[.pointer (some ⟨b, 0, none⟩), .int .i64 (nv k : Int)] W fun e W' => (∃ u, e = .returned u) ∧ Row W' b 41 (st (k + 1)) ∧ Keep (· = b) W W') :
    Calls Tryz.prog 211 #[.func (.func cf) #[] cap, .slice (some ⟨g, 0, none⟩) n c] w fun e w' => ∃ r, e = .returned (.tuple #[.agg (if r = true then (st n).toArray else (st 0).toArray), .bool r]) ∧ (r = true ↔ readL l nv) ∧ Below w.heap.size w w' := by
  have HEG := Lib.hid EG
  have HNN := Lib.hid HN
  have HSS := Lib.hid HS
  have HFN := Lib.hid hfin
  have HST0 := Lib.hid hst
  clear EG HN HS hfin
  refine calls_marks Tryz.func211 rfl ?_
  simp only [Tryz.ntmps211, List.size_toArray, List.length_cons, List.length_nil, Nat.reduceAdd, Nat.reduceSub, Array.replicate_succ, Array.replicate_zero, List.push_toArray, List.append_toArray, List.nil_append, List.cons_append]
  go_wp2_with fail
  obtain ⟨W4, hW4⟩ : ∃ W4, W4 = (((((w.alloc (.cells #[.func (.func cf) #[] cap] 291)).alloc (.cells #[.int .i64 0, .int .i64 0, .int .u32 0] 41)).alloc (.cells #[.bool false] 4)).alloc (.cells #[.int .i64 0, .int .i64 0, .int .u32 0] 41)).alloc (.cells #[.int .i64 0, .int .i64 0, .int .u32 0] 41)) := ⟨_, rfl⟩
  have hs4 : W4.heap.size = w.heap.size + 1 + 1 + 1 + 1 + 1 := by rw [hW4]; simp
  have hB4 : Below w.heap.size w W4 := by rw [hW4]; exact (((((Below.refl _ _).alloc (Nat.le_refl _) _).alloc (by simp) _).alloc (by simp; omega) _).alloc (by simp; omega) _).alloc (by simp; omega) _
  have hX0 : Row W4 (w.heap.size) 291 [.func (.func cf) #[] cap] := by rw [hW4]; exact ((((Row.new w _ _).below (below1 _ _)).below (below1 _ _)).below (below1 _ _)).below (below1 _ _)
  have hX1 : Row W4 (w.heap.size + 1) 41 (st 0) := by rw [hW4, hst]; exact (((Row.new_at _ _ _ (by simp)).below (below1 _ _)).below (below1 _ _)).below (below1 _ _)
  have hX2 : Row W4 (w.heap.size + 1 + 1) 4 [.bool false] := by rw [hW4]; exact ((Row.new_at _ _ _ (by simp)).below (below1 _ _)).below (below1 _ _)
  have hX3 : Row W4 (w.heap.size + 1 + 1 + 1) 41 (st 0) := by rw [hW4, hst]; exact (Row.new_at _ _ _ (by simp)).below (below1 _ _)
  have hX4 : Row W4 (w.heap.size + 1 + 1 + 1 + 1) 41 (st 0) := by rw [hW4, hst]; exact Row.new_at _ _ _ (by simp)
  rw [← hW4]
  clear hW4 hst
  refine (placed_Rec _ _ _ _).mono ?_
  rintro e W5 ⟨rfl, hW5⟩
  have hb5 : Below W4.heap.size W4 W5 := by rw [hW5]; exact below1 _ _
  have hs5 : W5.heap.size = W4.heap.size + 1 := by rw [hW5]; simp
  have hr5 : Row W5 W4.heap.size 136 [.slice (some ⟨g, 0, none⟩) n c] := by rw [hW5]; exact Row.new W4 _ _
  have hB5 := below0 hB4 hb5
  have hpl : Pls W5 W4.heap.size g n l t c := ⟨hr5.cell 0, hrow.below hB5⟩
  have hit := placed1_Rec W4.heap.size g n c l t W5 hpl hn hm hc hf
  have hpv := hpl.lt
  rw [hs4] at hit hpv
  have hI0 : RdI w l nv st 41 (.func (.func cf) #[] cap) [] (fun _ => False) W5 := ⟨hX0.below hb5, hX1.below hb5, hX2.below hb5, hX3.below hb5, hX4.below hb5, fun _ h => absurd h (Nat.not_lt_zero _), hB5⟩
  have hgl := hrow.lt
  clear hW5 hb5 hX0 hX1 hX2 hX3 hX4 hB4 hr5 hpl hrow hf
  go_wp2_with fail
  refine wpIn_wide.1 (wpIn_range_box (gf := 268) (lb := #[.pointer (some ⟨w.heap.size + 1 + 1 + 1 + 1 + 1, 0, none⟩)]) rfl (enters_of Tryz.func268 (by kernel_rfl) rfl) hit hpv (fun _ => rfl) (fun _ _ _ _ _ h => h)
    (RdI w l nv st 41 (.func (.func cf) #[] cap)) (RdX w l nv st 41) (RdI.abid (by omega)) (RdX.abid (by omega)) hI0
    (fun gg x => { tmps := #[.func (.func cf) #[] cap, .slice (some ⟨g, 0, none⟩) n c, .pointer (some ⟨w.heap.size, 0, none⟩), undef, .pointer (some ⟨w.heap.size + 1, 0, none⟩), .pointer (some ⟨w.heap.size + 1 + 1, 0, none⟩), .pointer (some ⟨w.heap.size + 1 + 1 + 1, 0, none⟩), .pointer (some ⟨w.heap.size + 1 + 1 + 1 + 1, 0, none⟩), .int .i64 (frm l x : Int), .pointer (some ⟨gg, 0, none⟩), undef, .slice (some ⟨g, 0, none⟩) n c, .func (.func 268) #[] #[.pointer (some ⟨w.heap.size + 1 + 1 + 1 + 1 + 1, 0, none⟩)], .int .i64 (frm l x : Int), .agg #[.int .i64 ((prt l x).wd : Int), .int .i64 ((prt l x).mo : Int), .func (.func (prt l x).tf) #[] #[], .func (.func (prt l x).sf) #[] #[]], undef, undef, undef, undef, undef, undef, undef, undef, undef, undef, undef, undef, undef, undef, undef], defers := [] })
    (fun x => .cells #[.int .i64 ((prt l x).wd : Int), .int .i64 ((prt l x).mo : Int), .func (.func (prt l x).tf) #[] #[], .func (.func (prt l x).sf) #[] #[]] 129) ?assign ?body ?done ?stop)
  case assign =>
    intro l' x W' K hK
    simp only [encP_eq]
    gi_wp2
    exact hK
  case body =>
    rintro l' pre x O V hVs hO ⟨h1, h2, h3, h4, h5, h6, h7⟩ ⟨hxp, hxl⟩ _
    rw [← hxp] at h4
    obtain ⟨V1, hV1⟩ : ∃ V1, V1 = V.alloc (.cells #[.int .i64 ((prt l x).wd : Int), .int .i64 ((prt l x).mo : Int), .func (.func (prt l x).tf) #[] #[], .func (.func (prt l x).sf) #[] #[]] 129) := ⟨_, rfl⟩
    have hb1 : Below V.heap.size V V1 := by rw [hV1]; exact below1 _ _
    have hz1 : V1.heap.size = V.heap.size + 1 := by rw [hV1]; simp
    have hrp : Row V1 V.heap.size 129 [.int .i64 ((prt l x).wd : Int), .int .i64 ((prt l x).mo : Int), .func (.func (prt l x).tf) #[] #[], .func (.func (prt l x).sf) #[] #[]] := by rw [hV1]; exact Row.new _ _ _
    have h71 := below0 h7 hb1
    have HCALL := Lib.hid (HNN.out x hxl V1 h71)
    have eg2 := HEG.out x hxl
    have HSAY := Lib.hid (fun ho b W => HSS.out x hxl ho b W)
    have hok : okN l nv x = (nv x ≤ (prt l x).mo) := rfl
    have HNOT : Hid (¬ okN l nv x → ¬ readL l nv) := Lib.hid (fun h hr => h (hr x hxl))
    obtain ⟨p, hp⟩ : ∃ p, p = prt l x := ⟨_, rfl⟩
    rw [← hp] at HCALL eg2 HSAY hok hrp ⊢
    obtain ⟨a, b, tf, sf⟩ := p
    simp only at HCALL eg2 HSAY hok hrp ⊢
    obtain ⟨y, hy⟩ : ∃ y, y = nv x := ⟨_, rfl⟩
    rw [← hy] at HCALL HSAY hok
    rw [← hp] at hV1
    simp only at hV1
    rw [← hV1]
    have c0 : V1.cell? ⟨V.heap.size, 0, none⟩ = _ := hrp.cell 0
    have cf0 : V1.cell? ⟨w.heap.size, 0, none⟩ = some (.func (.func cf) #[] cap) := (Boxed.cell ((hb1.block _ (by omega)).trans h1))
    have HOK := Lib.hid hok
    have HB1 := Lib.hid hb1
    have HRP := Lib.hid hrp
    have HR := Lib.hid (And.intro h1 (And.intro h2 (And.intro h3 (And.intro h4 (And.intro h5 (And.intro h6 h71))))))
    have HXP := Lib.hid hxp
    clear hp hy hV1 hb1 hrp hok h1 h2 h3 h4 h5 h6 h7 h71 hit hI0 hxp
    gi_wp2_with fail
    refine ⟨trivial, rfl, CallsIn.inRound l' ((callsIn_wide.2 HCALL.out).mono ?_)⟩
    rintro e V2 ⟨rfl, hb2⟩
    obtain ⟨h1, h2, h3, h4, h5, h6, h71⟩ := HR.out
    have hb1 := HB1.out
    have hs2 := hb2.size
    have hbb : Below V.heap.size V V2 := below0 hb1 hb2
    have g1 : Boxed V2 (w.heap.size) 291 (.func (.func cf) #[] cap) := (hbb.block _ (by omega)).trans h1
    have g2 : Row V2 (w.heap.size + 1) 41 (st 0) := h2.below hbb
    have g3 : Boxed V2 (w.heap.size + 1 + 1) 4 (.bool false) := (hbb.block _ (by omega)).trans h3
    have g4 : Row V2 (w.heap.size + 1 + 1 + 1) 41 (st x) := h4.below hbb
    have g5 : Row V2 (w.heap.size + 1 + 1 + 1 + 1) 41 (st 0) := h5.below hbb
    have g7 := below0 h71 hb2
    have c1 : V2.cell? ⟨V.heap.size, 1, none⟩ = _ := (HRP.out.below hb2).cell 1
    have c3 : V2.cell? ⟨V.heap.size, 3, none⟩ = _ := (HRP.out.below hb2).cell 3
    clear h1 h2 h3 h4 h5 h71 hb1 c0 cf0
    by_cases hyb : y ≤ b
    · have e0 : decide ((y : Int) > (b : Int)) = false := decide_eq_false (by omega)
      have e1 : decide ((b : Int) < (y : Int)) = false := decide_eq_false (by omega)
      have e2 : decide (b < y) = false := decide_eq_false (by omega)
      have hok : okN l nv x := by rw [HOK.out]; exact hyb
      have HC2 := Lib.hid (HSAY.out hok _ V2 g4)
      have HFIN : Hid (∀ W', Row W' (w.heap.size + 1 + 1 + 1) 41 (st (x + 1)) → Keep (· = w.heap.size + 1 + 1 + 1) V2 W' → Keeps (pvL (w.heap.size + 1 + 1 + 1 + 1 + 1) g) W5.heap.size O (fun _ => False) V W' ∧ RdI w l nv st 41 (.func (.func cf) #[] cap) (pre ++ [x]) (nextO O (fun _ => False) V W') W') := Lib.hid fun W' q1 q2 => by
        have qs := q2.size
        refine ⟨⟨by omega, fun k hk hp => (q2.block k (by omega) (by rcases hp with (h | h) | ⟨h, _⟩ <;> omega)).trans (hbb.block k hk)⟩, (q2.block _ (by omega) (by omega)).trans g1, q2.row g2 (by omega), (q2.block _ (by omega) (by omega)).trans g3, ?_, q2.row g5 (by omega), fun k hk => ?_, g7.trans (q2.below (fun k hk => by omega) (by omega))⟩
        · have hl : (pre ++ [x]).length = x + 1 := by rw [List.length_append, HXP.out]; rfl
          rw [hl]
          exact q1
        · rw [List.length_append] at hk
          by_cases hkp : k < pre.length
          · exact h6 k hkp
          · have hkx : k = x := by
              have h1 := HXP.out
              simp only [List.length_cons, List.length_nil] at hk
              omega
            subst hkx
            exact hok
      clear g1 g2 g3 g4 g5 g7 hbb h6 hok hyb hb2
      gi_wp2_with fail
      refine ⟨trivial, rfl, CallsIn.inRound l' ((callsIn_wide.2 HC2.out).mono ?_)⟩
      rintro e V3 ⟨⟨u, rfl⟩, q1, q2⟩
      have HQ := Lib.hid (HFIN.out V3 q1 q2)
      clear q1 q2
      gi_wp2_with fail
      exact HQ.out
    · have e0 : decide ((y : Int) > (b : Int)) = true := decide_eq_true (by omega)
      have e1 : decide ((b : Int) < (y : Int)) = true := decide_eq_true (by omega)
      have e2 : decide (b < y) = true := decide_eq_true (by omega)
      have hno : ¬ okN l nv x := by rw [HOK.out]; exact hyb
      have HNO := Lib.hid (HNOT.out hno)
      rw [HST0.out] at g2 g5
      have HG2 := Lib.hid g2
      have HG3 := Lib.hid g3
      have HG7 := Lib.hid g7
      have HBB := Lib.hid hbb
      have z0 : V2.cell? ⟨w.heap.size + 1 + 1 + 1 + 1, 0, none⟩ = _ := g5.cell 0
      have w0 : V2.cell? ⟨w.heap.size + 1, 0, none⟩ = _ := g2.cell 0
      have f0w := g2.frozen 0
      have z1 : V2.cell? ⟨w.heap.size + 1 + 1 + 1 + 1, 1, none⟩ = _ := g5.cell 1
      have w1 : V2.cell? ⟨w.heap.size + 1, 1, none⟩ = _ := g2.cell 1
      have f1w := g2.frozen 1
      have z2 : V2.cell? ⟨w.heap.size + 1 + 1 + 1 + 1, 2, none⟩ = _ := g5.cell 2
      have w2 : V2.cell? ⟨w.heap.size + 1, 2, none⟩ = _ := g2.cell 2
      have f2w := g2.frozen 2
      have f3 := g3.frozen
      have f4 := g3.cell
      clear g1 g2 g3 g4 g5 g7 hbb h6 hno hyb hb2 HSAY
      gi_wp2_with fail
      have R8 := row_set3 (.int .i64 0) (.int .i64 0) (.int .u32 0) HG2.out
      have B8 := below_set3 (b := w.heap.size + 1) (.int .i64 0) (.int .i64 0) (.int .u32 0) HG7.out (by omega)
      have G8 : Boxed (((V2.setCell ⟨w.heap.size + 1, 0, none⟩ (.int .i64 0)).setCell ⟨w.heap.size + 1, 1, none⟩ (.int .i64 0)).setCell ⟨w.heap.size + 1, 2, none⟩ (.int .u32 0)) (w.heap.size + 1 + 1) 4 (.bool false) := ((heap_set (by omega)).trans ((heap_set (by omega)).trans ((heap_set (by omega)).trans HG3.out)))
      clear z0 w0 f0w z1 w1 f1w z2 w2 f2w f3 f4
      have R9 := R8.same (heap_set (b := w.heap.size + 1 + 1) (o := 0) (v := .bool false) (by omega))
      refine ⟨⟨by simp; omega, fun k hk hp => ?_⟩, rfl, by rw [HST0.out]; exact R9, G8.set (.bool false), HNO.out, B8.setCell (p := ⟨w.heap.size + 1 + 1, 0, none⟩) (by show w.heap.size ≤ w.heap.size + 1 + 1; omega) _⟩
      have hkn : k ≠ w.heap.size + 1 ∧ k ≠ w.heap.size + 1 + 1 := by rcases hp with (h | h) | ⟨h, _⟩ <;> omega
      exact (heap_set hkn.2).trans ((heap_set hkn.1).trans ((heap_set hkn.1).trans ((heap_set hkn.1).trans (HBB.out.block k hk))))
  case done =>
    intro xs O Z hall hI hD
    obtain ⟨h1, h2, h3, h4, h5, h6, h7⟩ := hI
    have hxs : xs.length = n := by rw [show xs.length = l.length from hall, hn]
    rw [hxs] at h4 h6
    have hrd : readL l nv := fun k hk => h6 k (by omega)
    have hne : ∀ k, k < W5.heap.size → k < w.heap.size + 5 → (Z.putObj W5.heap.size (.deferred none)).heap[k]? = Z.heap[k]? := fun k hk _ => World.putObj_heap_other (by omega)
    have HBE := Lib.hid (show Below w.heap.size w (Z.putObj W5.heap.size (.deferred none)) from h7.grown (putObj_grown Z _ _) h7.size (fun r e => by cases e; omega))
    have HRD := Lib.hid hrd
    rw [HFN.out] at h4
    rw [HST0.out] at h2
    have z0 : Z.cell? ⟨w.heap.size + 1 + 1 + 1, 0, none⟩ = _ := h4.cell 0
    have w0 : Z.cell? ⟨w.heap.size + 1, 0, none⟩ = _ := h2.cell 0
    have f0w := h2.frozen 0
    have z1 : Z.cell? ⟨w.heap.size + 1 + 1 + 1, 1, none⟩ = _ := h4.cell 1
    have w1 : Z.cell? ⟨w.heap.size + 1, 1, none⟩ = _ := h2.cell 1
    have f1w := h2.frozen 1
    have z2 : Z.cell? ⟨w.heap.size + 1 + 1 + 1, 2, none⟩ = _ := h4.cell 2
    have w2 : Z.cell? ⟨w.heap.size + 1, 2, none⟩ = _ := h2.cell 2
    have f2w := h2.frozen 2
    have f3 := h3.frozen
    have f4 := h3.cell
    have HG2 := Lib.hid h2
    have HG3 := Lib.hid h3
    have H7 := Lib.hid h7
    have HD := Lib.hid hD
    clear h1 h2 h3 h4 h5 h6 h7 hit hI0 hD hall hxs hrd hne
    have R8 := row_set3 (.int .i64 a0) (.int .i64 a1) (.int .u32 a2) HG2.out
    have B8 := below_set3 (b := w.heap.size + 1) (.int .i64 a0) (.int .i64 a1) (.int .u32 a2) H7.out (by omega)
    have G8 : Boxed (((Z.setCell ⟨w.heap.size + 1, 0, none⟩ (.int .i64 a0)).setCell ⟨w.heap.size + 1, 1, none⟩ (.int .i64 a1)).setCell ⟨w.heap.size + 1, 2, none⟩ (.int .u32 a2)) (w.heap.size + 1 + 1) 4 (.bool false) := ((heap_set (by omega)).trans ((heap_set (by omega)).trans ((heap_set (by omega)).trans HG3.out)))
    clear HG2
    have R9 : Row ((((Z.setCell ⟨w.heap.size + 1, 0, none⟩ (.int .i64 a0)).setCell ⟨w.heap.size + 1, 1, none⟩ (.int .i64 a1)).setCell ⟨w.heap.size + 1, 2, none⟩ (.int .u32 a2)).setCell ⟨w.heap.size + 1 + 1, 0, none⟩ (.bool true)) (w.heap.size + 1) 41 [.int .i64 a0, .int .i64 a1, .int .u32 a2] := R8.same (heap_set (by omega))
    have G9 := G8.set (.bool true)
    have B9 : Below w.heap.size w ((((Z.setCell ⟨w.heap.size + 1, 0, none⟩ (.int .i64 a0)).setCell ⟨w.heap.size + 1, 1, none⟩ (.int .i64 a1)).setCell ⟨w.heap.size + 1, 2, none⟩ (.int .u32 a2)).setCell ⟨w.heap.size + 1 + 1, 0, none⟩ (.bool true)) := B8.setCell (p := ⟨w.heap.size + 1 + 1, 0, none⟩) (by show w.heap.size ≤ w.heap.size + 1 + 1; omega) _
    have D9 : ((((Z.setCell ⟨w.heap.size + 1, 0, none⟩ (.int .i64 a0)).setCell ⟨w.heap.size + 1, 1, none⟩ (.int .i64 a1)).setCell ⟨w.heap.size + 1, 2, none⟩ (.int .u32 a2)).setCell ⟨w.heap.size + 1 + 1, 0, none⟩ (.bool true)).heap[W5.heap.size]? = some (.deferred (some [])) := (heap_set (by omega)).trans ((heap_set (by omega)).trans ((heap_set (by omega)).trans ((heap_set (by omega)).trans HD.out)))
    obtain ⟨WZ, hWZ⟩ : ∃ WZ, WZ = ((((Z.setCell ⟨w.heap.size + 1, 0, none⟩ (.int .i64 a0)).setCell ⟨w.heap.size + 1, 1, none⟩ (.int .i64 a1)).setCell ⟨w.heap.size + 1, 2, none⟩ (.int .u32 a2)).setCell ⟨w.heap.size + 1 + 1, 0, none⟩ (.bool true)) := ⟨_, rfl⟩
    rw [← hWZ] at R9 G9 B9 D9
    have HWZ := Lib.hid hWZ
    have HALL := Lib.hid (And.intro (And.intro R9 G9) (And.intro B9 D9))
    clear R8 B8 G8 R9 G9 B9 D9 hWZ
    go_wp2_with fail
    rw [← HWZ.out]
    obtain ⟨⟨R9, G9⟩, B9, D9⟩ := HALL.out
    refine ⟨by simp, .inl ⟨_, _, rfl, run_takeDeferred D9, ?_⟩⟩
    have R10 : Row (WZ.putObj W5.heap.size (.deferred none)) (w.heap.size + 1) 41 [.int .i64 a0, .int .i64 a1, .int .u32 a2] := R9.same (World.putObj_heap_other (by omega))
    have G10 : Boxed (WZ.putObj W5.heap.size (.deferred none)) (w.heap.size + 1 + 1) 4 (.bool true) := (World.putObj_heap_other (by omega)).trans G9
    have d0 := R10.cell 0
    have d1 := R10.cell 1
    have d2 := R10.cell 2
    have d9 := G10.cell
    exact ⟨.tuple #[.agg #[.int .i64 a0, .int .i64 a1, .int .u32 a2], .bool true], by simp [results, Tryz.results211, go_sem, d0, d1, d2, d9], ⟨true, by rw [HFN.out]; rfl, ⟨fun _ => HRD.out, fun _ => rfl⟩, B9.grown (putObj_grown WZ _ _) B9.size (fun r e => by cases e; omega)⟩⟩
  case stop =>
    rintro c' xs O Z _ ⟨rfl, h2, h3, h6, h7⟩ hD
    rw [HST0.out] at h2
    have HBE := Lib.hid (show Below w.heap.size w (Z.putObj W5.heap.size (.deferred none)) from h7.grown (putObj_grown Z _ _) h7.size (fun r e => by cases e; omega))
    have HG2 := Lib.hid (show Row (Z.putObj W5.heap.size (.deferred none)) (w.heap.size + 1) 41 [.int .i64 0, .int .i64 0, .int .u32 0] from h2.same (World.putObj_heap_other (by omega)))
    have HG3 := Lib.hid (show Boxed (Z.putObj W5.heap.size (.deferred none)) (w.heap.size + 1 + 1) 4 (.bool false) from (World.putObj_heap_other (by omega)).trans h3)
    have HNR := Lib.hid h6
    have HD := Lib.hid hD
    clear h2 h3 h6 h7 hit hI0 hD
    refine wpIn_wide.2 ?_
    go_wp2_with fail
    refine ⟨by simp, .inl ⟨_, _, rfl, run_takeDeferred HD.out, ?_⟩⟩
    have d0 := HG2.out.cell 0
    have d1 := HG2.out.cell 1
    have d2 := HG2.out.cell 2
    have d9 := HG3.out.cell
    exact ⟨.tuple #[.agg #[.int .i64 0, .int .i64 0, .int .u32 0], .bool false], by simp [results, Tryz.results211, go_sem, d0, d1, d2, d9], ⟨false, by rw [HST0.out]; rfl, ⟨fun h => (by cases h), fun h => absurd h HNR.out⟩, HBE.out⟩⟩
set_option maxRecDepth 100000 in
set_option maxHeartbeats 4000000 in
theorem read_Gre (a0 a1 a2 a3 : Int) (cf : Nat) (cap : Array Value) (nv : Nat → Nat) (st : Nat → List Value) (l : List Prt) (g n c : Nat) (t : TypeId) (w : World) (hrow : Row w g t (prtCells l)) (hn : l.length = n) (hm : n ≤ 6) (hc : n ≤ c) (hf : ∀ k, k ≤ n → frm l k ≤ 1000)
    (hst : st 0 = [.int .i64 0, .int .i64 0, .int .i64 0, .int .i64 0]) (hfin : st n = [.int .i64 a0, .int .i64 a1, .int .i64 a2, .int .i64 a3])
    (eg : ∀ args w, (callFunc cf args).run Tryz.prog w = .ok (.enter cf args) w)
    (HN : ∀ k, k < l.length → ∀ W, Below w.heap.size w W → Calls Tryz.prog cf (#[.int .i64 (frm l k : Int), .int .i64 ((prt l k).wd : Int)] ++ cap) W fun e W' => e = .returned (.int .i64 (nv k : Int)) ∧ Below W.heap.size W W')
    (EG : ∀ k, k < l.length → ∀ args w, (callFunc (prt l k).sf args).run Tryz.prog w = .ok (.enter (prt l k).sf args) w)
    (HS : ∀ k, k < l.length → okN l nv k → ∀ (b : Nat) W, Row W b 43 (st k) → Calls Tryz.prog (prt l k).sf #[.pointer (some ⟨b, 0, none⟩), .int .i64 (nv k : Int)] W fun e W' => (∃ u, e = .returned u) ∧ Row W' b 43 (st (k + 1)) ∧ Keep (· = b) W W') :
    Calls Tryz.prog 216 #[.func (.func cf) #[] cap, .slice (some ⟨g, 0, none⟩) n c] w fun e w' => ∃ r, e = .returned (.tuple #[.agg (if r = true then (st n).toArray else (st 0).toArray), .bool r]) ∧ (r = true ↔ readL l nv) ∧ Below w.heap.size w w' := by
  have HEG := Lib.hid EG
  have HNN := Lib.hid HN
  have HSS := Lib.hid HS
  have HFN := Lib.hid hfin
  have HST0 := Lib.hid hst
  clear EG HN HS hfin
  refine calls_marks Tryz.func216 rfl ?_
  simp only [Tryz.ntmps216, List.size_toArray, List.length_cons, List.length_nil, Nat.reduceAdd, Nat.reduceSub, Array.replicate_succ, Array.replicate_zero, List.push_toArray, List.append_toArray, List.nil_append, List.cons_append]
  go_wp2_with fail
  obtain ⟨W4, hW4⟩ : ∃ W4, W4 = (((((w.alloc (.cells #[.func (.func cf) #[] cap] 291)).alloc (.cells #[.int .i64 0, .int .i64 0, .int .i64 0, .int .i64 0] 43)).alloc (.cells #[.bool false] 4)).alloc (.cells #[.int .i64 0, .int .i64 0, .int .i64 0, .int .i64 0] 43)).alloc (.cells #[.int .i64 0, .int .i64 0, .int .i64 0, .int .i64 0] 43)) := ⟨_, rfl⟩
  have hs4 : W4.heap.size = w.heap.size + 1 + 1 + 1 + 1 + 1 := by rw [hW4]; simp
  have hB4 : Below w.heap.size w W4 := by rw [hW4]; exact (((((Below.refl _ _).alloc (Nat.le_refl _) _).alloc (by simp) _).alloc (by simp; omega) _).alloc (by simp; omega) _).alloc (by simp; omega) _
  have hX0 : Row W4 (w.heap.size) 291 [.func (.func cf) #[] cap] := by rw [hW4]; exact ((((Row.new w _ _).below (below1 _ _)).below (below1 _ _)).below (below1 _ _)).below (below1 _ _)
  have hX1 : Row W4 (w.heap.size + 1) 43 (st 0) := by rw [hW4, hst]; exact (((Row.new_at _ _ _ (by simp)).below (below1 _ _)).below (below1 _ _)).below (below1 _ _)
  have hX2 : Row W4 (w.heap.size + 1 + 1) 4 [.bool false] := by rw [hW4]; exact ((Row.new_at _ _ _ (by simp)).below (below1 _ _)).below (below1 _ _)
  have hX3 : Row W4 (w.heap.size + 1 + 1 + 1) 43 (st 0) := by rw [hW4, hst]; exact (Row.new_at _ _ _ (by simp)).below (below1 _ _)
  have hX4 : Row W4 (w.heap.size + 1 + 1 + 1 + 1) 43 (st 0) := by rw [hW4, hst]; exact Row.new_at _ _ _ (by simp)
  rw [← hW4]
  clear hW4 hst
  refine (placed_Gre _ _ _ _).mono ?_
  rintro e W5 ⟨rfl, hW5⟩
  have hb5 : Below W4.heap.size W4 W5 := by rw [hW5]; exact below1 _ _
  have hs5 : W5.heap.size = W4.heap.size + 1 := by rw [hW5]; simp
  have hr5 : Row W5 W4.heap.size 145 [.slice (some ⟨g, 0, none⟩) n c] := by rw [hW5]; exact Row.new W4 _ _
  have hB5 := below0 hB4 hb5
  have hpl : Pls W5 W4.heap.size g n l t c := ⟨hr5.cell 0, hrow.below hB5⟩
  have hit := placed1_Gre W4.heap.size g n c l t W5 hpl hn hm hc hf
  have hpv := hpl.lt
  rw [hs4] at hit hpv
  have hI0 : RdI w l nv st 43 (.func (.func cf) #[] cap) [] (fun _ => False) W5 := ⟨hX0.below hb5, hX1.below hb5, hX2.below hb5, hX3.below hb5, hX4.below hb5, fun _ h => absurd h (Nat.not_lt_zero _), hB5⟩
  have hgl := hrow.lt
  clear hW5 hb5 hX0 hX1 hX2 hX3 hX4 hB4 hr5 hpl hrow hf
  go_wp2_with fail
  refine wpIn_wide.1 (wpIn_range_box (gf := 271) (lb := #[.pointer (some ⟨w.heap.size + 1 + 1 + 1 + 1 + 1, 0, none⟩)]) rfl (enters_of Tryz.func271 (by kernel_rfl) rfl) hit hpv (fun _ => rfl) (fun _ _ _ _ _ h => h)
    (RdI w l nv st 43 (.func (.func cf) #[] cap)) (RdX w l nv st 43) (RdI.abid (by omega)) (RdX.abid (by omega)) hI0
    (fun gg x => { tmps := #[.func (.func cf) #[] cap, .slice (some ⟨g, 0, none⟩) n c, .pointer (some ⟨w.heap.size, 0, none⟩), undef, .pointer (some ⟨w.heap.size + 1, 0, none⟩), .pointer (some ⟨w.heap.size + 1 + 1, 0, none⟩), .pointer (some ⟨w.heap.size + 1 + 1 + 1, 0, none⟩), .pointer (some ⟨w.heap.size + 1 + 1 + 1 + 1, 0, none⟩), .int .i64 (frm l x : Int), .pointer (some ⟨gg, 0, none⟩), undef, .slice (some ⟨g, 0, none⟩) n c, .func (.func 271) #[] #[.pointer (some ⟨w.heap.size + 1 + 1 + 1 + 1 + 1, 0, none⟩)], .int .i64 (frm l x : Int), .agg #[.int .i64 ((prt l x).wd : Int), .int .i64 ((prt l x).mo : Int), .func (.func (prt l x).tf) #[] #[], .func (.func (prt l x).sf) #[] #[]], undef, undef, undef, undef, undef, undef, undef, undef, undef, undef, undef, undef, undef, undef, undef], defers := [] })
    (fun x => .cells #[.int .i64 ((prt l x).wd : Int), .int .i64 ((prt l x).mo : Int), .func (.func (prt l x).tf) #[] #[], .func (.func (prt l x).sf) #[] #[]] 140) ?assign ?body ?done ?stop)
  case assign =>
    intro l' x W' K hK
    simp only [encP_eq]
    gi_wp2
    exact hK
  case body =>
    rintro l' pre x O V hVs hO ⟨h1, h2, h3, h4, h5, h6, h7⟩ ⟨hxp, hxl⟩ _
    rw [← hxp] at h4
    obtain ⟨V1, hV1⟩ : ∃ V1, V1 = V.alloc (.cells #[.int .i64 ((prt l x).wd : Int), .int .i64 ((prt l x).mo : Int), .func (.func (prt l x).tf) #[] #[], .func (.func (prt l x).sf) #[] #[]] 140) := ⟨_, rfl⟩
    have hb1 : Below V.heap.size V V1 := by rw [hV1]; exact below1 _ _
    have hz1 : V1.heap.size = V.heap.size + 1 := by rw [hV1]; simp
    have hrp : Row V1 V.heap.size 140 [.int .i64 ((prt l x).wd : Int), .int .i64 ((prt l x).mo : Int), .func (.func (prt l x).tf) #[] #[], .func (.func (prt l x).sf) #[] #[]] := by rw [hV1]; exact Row.new _ _ _
    have h71 := below0 h7 hb1
    have HCALL := Lib.hid (HNN.out x hxl V1 h71)
    have eg2 := HEG.out x hxl
    have HSAY := Lib.hid (fun ho b W => HSS.out x hxl ho b W)
    have hok : okN l nv x = (nv x ≤ (prt l x).mo) := rfl
    have HNOT : Hid (¬ okN l nv x → ¬ readL l nv) := Lib.hid (fun h hr => h (hr x hxl))
    obtain ⟨p, hp⟩ : ∃ p, p = prt l x := ⟨_, rfl⟩
    rw [← hp] at HCALL eg2 HSAY hok hrp ⊢
    obtain ⟨a, b, tf, sf⟩ := p
    simp only at HCALL eg2 HSAY hok hrp ⊢
    obtain ⟨y, hy⟩ : ∃ y, y = nv x := ⟨_, rfl⟩
    rw [← hy] at HCALL HSAY hok
    rw [← hp] at hV1
    simp only at hV1
    rw [← hV1]
    have c0 : V1.cell? ⟨V.heap.size, 0, none⟩ = _ := hrp.cell 0
    have cf0 : V1.cell? ⟨w.heap.size, 0, none⟩ = some (.func (.func cf) #[] cap) := (Boxed.cell ((hb1.block _ (by omega)).trans h1))
    have HOK := Lib.hid hok
    have HB1 := Lib.hid hb1
    have HRP := Lib.hid hrp
    have HR := Lib.hid (And.intro h1 (And.intro h2 (And.intro h3 (And.intro h4 (And.intro h5 (And.intro h6 h71))))))
    have HXP := Lib.hid hxp
    clear hp hy hV1 hb1 hrp hok h1 h2 h3 h4 h5 h6 h7 h71 hit hI0 hxp
    gi_wp2_with fail
    refine ⟨trivial, rfl, CallsIn.inRound l' ((callsIn_wide.2 HCALL.out).mono ?_)⟩
    rintro e V2 ⟨rfl, hb2⟩
    obtain ⟨h1, h2, h3, h4, h5, h6, h71⟩ := HR.out
    have hb1 := HB1.out
    have hs2 := hb2.size
    have hbb : Below V.heap.size V V2 := below0 hb1 hb2
    have g1 : Boxed V2 (w.heap.size) 291 (.func (.func cf) #[] cap) := (hbb.block _ (by omega)).trans h1
    have g2 : Row V2 (w.heap.size + 1) 43 (st 0) := h2.below hbb
    have g3 : Boxed V2 (w.heap.size + 1 + 1) 4 (.bool false) := (hbb.block _ (by omega)).trans h3
    have g4 : Row V2 (w.heap.size + 1 + 1 + 1) 43 (st x) := h4.below hbb
    have g5 : Row V2 (w.heap.size + 1 + 1 + 1 + 1) 43 (st 0) := h5.below hbb
    have g7 := below0 h71 hb2
    have c1 : V2.cell? ⟨V.heap.size, 1, none⟩ = _ := (HRP.out.below hb2).cell 1
    have c3 : V2.cell? ⟨V.heap.size, 3, none⟩ = _ := (HRP.out.below hb2).cell 3
    clear h1 h2 h3 h4 h5 h71 hb1 c0 cf0
    by_cases hyb : y ≤ b
    · have e0 : decide ((y : Int) > (b : Int)) = false := decide_eq_false (by omega)
      have e1 : decide ((b : Int) < (y : Int)) = false := decide_eq_false (by omega)
      have e2 : decide (b < y) = false := decide_eq_false (by omega)
      have hok : okN l nv x := by rw [HOK.out]; exact hyb
      have HC2 := Lib.hid (HSAY.out hok _ V2 g4)
      have HFIN : Hid (∀ W', Row W' (w.heap.size + 1 + 1 + 1) 43 (st (x + 1)) → Keep (· = w.heap.size + 1 + 1 + 1) V2 W' → Keeps (pvL (w.heap.size + 1 + 1 + 1 + 1 + 1) g) W5.heap.size O (fun _ => False) V W' ∧ RdI w l nv st 43 (.func (.func cf) #[] cap) (pre ++ [x]) (nextO O (fun _ => False) V W') W') := Lib.hid fun W' q1 q2 => by
        have qs := q2.size
        refine ⟨⟨by omega, fun k hk hp => (q2.block k (by omega) (by rcases hp with (h | h) | ⟨h, _⟩ <;> omega)).trans (hbb.block k hk)⟩, (q2.block _ (by omega) (by omega)).trans g1, q2.row g2 (by omega), (q2.block _ (by omega) (by omega)).trans g3, ?_, q2.row g5 (by omega), fun k hk => ?_, g7.trans (q2.below (fun k hk => by omega) (by omega))⟩
        · have hl : (pre ++ [x]).length = x + 1 := by rw [List.length_append, HXP.out]; rfl
          rw [hl]
          exact q1
        · rw [List.length_append] at hk
          by_cases hkp : k < pre.length
          · exact h6 k hkp
          · have hkx : k = x := by
              have h1 := HXP.out
              simp only [List.length_cons, List.length_nil] at hk
              omega
            subst hkx
            exact hok
      clear g1 g2 g3 g4 g5 g7 hbb h6 hok hyb hb2
      gi_wp2_with fail
      refine ⟨trivial, rfl, CallsIn.inRound l' ((callsIn_wide.2 HC2.out).mono ?_)⟩
      rintro e V3 ⟨⟨u, rfl⟩, q1, q2⟩
      have HQ := Lib.hid (HFIN.out V3 q1 q2)
      clear q1 q2
      gi_wp2_with fail
      exact HQ.out
    · have e0 : decide ((y : Int) > (b : Int)) = true := decide_eq_true (by omega)
      have e1 : decide ((b : Int) < (y : Int)) = true := decide_eq_true (by omega)
      have e2 : decide (b < y) = true := decide_eq_true (by omega)
      have hno : ¬ okN l nv x := by rw [HOK.out]; exact hyb
      have HNO := Lib.hid (HNOT.out hno)
      rw [HST0.out] at g2 g5
      have HG2 := Lib.hid g2
      have HG3 := Lib.hid g3
      have HG7 := Lib.hid g7
      have HBB := Lib.hid hbb
      have z0 : V2.cell? ⟨w.heap.size + 1 + 1 + 1 + 1, 0, none⟩ = _ := g5.cell 0
      have w0 : V2.cell? ⟨w.heap.size + 1, 0, none⟩ = _ := g2.cell 0
      have f0w := g2.frozen 0
      have z1 : V2.cell? ⟨w.heap.size + 1 + 1 + 1 + 1, 1, none⟩ = _ := g5.cell 1
      have w1 : V2.cell? ⟨w.heap.size + 1, 1, none⟩ = _ := g2.cell 1
      have f1w := g2.frozen 1
      have z2 : V2.cell? ⟨w.heap.size + 1 + 1 + 1 + 1, 2, none⟩ = _ := g5.cell 2
      have w2 : V2.cell? ⟨w.heap.size + 1, 2, none⟩ = _ := g2.cell 2
      have f2w := g2.frozen 2
      have z3 : V2.cell? ⟨w.heap.size + 1 + 1 + 1 + 1, 3, none⟩ = _ := g5.cell 3
      have w3 : V2.cell? ⟨w.heap.size + 1, 3, none⟩ = _ := g2.cell 3
      have f3w := g2.frozen 3
      have f3 := g3.frozen
      have f4 := g3.cell
      clear g1 g2 g3 g4 g5 g7 hbb h6 hno hyb hb2 HSAY
      gi_wp2_with fail
      have R8 := row_set4 (.int .i64 0) (.int .i64 0) (.int .i64 0) (.int .i64 0) HG2.out
      have B8 := below_set4 (b := w.heap.size + 1) (.int .i64 0) (.int .i64 0) (.int .i64 0) (.int .i64 0) HG7.out (by omega)
      have G8 : Boxed ((((V2.setCell ⟨w.heap.size + 1, 0, none⟩ (.int .i64 0)).setCell ⟨w.heap.size + 1, 1, none⟩ (.int .i64 0)).setCell ⟨w.heap.size + 1, 2, none⟩ (.int .i64 0)).setCell ⟨w.heap.size + 1, 3, none⟩ (.int .i64 0)) (w.heap.size + 1 + 1) 4 (.bool false) := ((heap_set (by omega)).trans ((heap_set (by omega)).trans ((heap_set (by omega)).trans ((heap_set (by omega)).trans HG3.out))))
      clear z0 w0 f0w z1 w1 f1w z2 w2 f2w z3 w3 f3w f3 f4
      have R9 := R8.same (heap_set (b := w.heap.size + 1 + 1) (o := 0) (v := .bool false) (by omega))
      refine ⟨⟨by simp; omega, fun k hk hp => ?_⟩, rfl, by rw [HST0.out]; exact R9, G8.set (.bool false), HNO.out, B8.setCell (p := ⟨w.heap.size + 1 + 1, 0, none⟩) (by show w.heap.size ≤ w.heap.size + 1 + 1; omega) _⟩
      have hkn : k ≠ w.heap.size + 1 ∧ k ≠ w.heap.size + 1 + 1 := by rcases hp with (h | h) | ⟨h, _⟩ <;> omega
      exact (heap_set hkn.2).trans ((heap_set hkn.1).trans ((heap_set hkn.1).trans ((heap_set hkn.1).trans ((heap_set hkn.1).trans (HBB.out.block k hk)))))
  case done =>
    intro xs O Z hall hI hD
    obtain ⟨h1, h2, h3, h4, h5, h6, h7⟩ := hI
    have hxs : xs.length = n := by rw [show xs.length = l.length from hall, hn]
    rw [hxs] at h4 h6
    have hrd : readL l nv := fun k hk => h6 k (by omega)
    have hne : ∀ k, k < W5.heap.size → k < w.heap.size + 5 → (Z.putObj W5.heap.size (.deferred none)).heap[k]? = Z.heap[k]? := fun k hk _ => World.putObj_heap_other (by omega)
    have HBE := Lib.hid (show Below w.heap.size w (Z.putObj W5.heap.size (.deferred none)) from h7.grown (putObj_grown Z _ _) h7.size (fun r e => by cases e; omega))
    have HRD := Lib.hid hrd
    rw [HFN.out] at h4
    rw [HST0.out] at h2
    have z0 : Z.cell? ⟨w.heap.size + 1 + 1 + 1, 0, none⟩ = _ := h4.cell 0
    have w0 : Z.cell? ⟨w.heap.size + 1, 0, none⟩ = _ := h2.cell 0
    have f0w := h2.frozen 0
    have z1 : Z.cell? ⟨w.heap.size + 1 + 1 + 1, 1, none⟩ = _ := h4.cell 1
    have w1 : Z.cell? ⟨w.heap.size + 1, 1, none⟩ = _ := h2.cell 1
    have f1w := h2.frozen 1
    have z2 : Z.cell? ⟨w.heap.size + 1 + 1 + 1, 2, none⟩ = _ := h4.cell 2
    have w2 : Z.cell? ⟨w.heap.size + 1, 2, none⟩ = _ := h2.cell 2
    have f2w := h2.frozen 2
    have z3 : Z.cell? ⟨w.heap.size + 1 + 1 + 1, 3, none⟩ = _ := h4.cell 3
    have w3 : Z.cell? ⟨w.heap.size + 1, 3, none⟩ = _ := h2.cell 3
    have f3w := h2.frozen 3
    have f3 := h3.frozen
    have f4 := h3.cell
    have HG2 := Lib.hid h2
    have HG3 := Lib.hid h3
    have H7 := Lib.hid h7
    have HD := Lib.hid hD
    clear h1 h2 h3 h4 h5 h6 h7 hit hI0 hD hall hxs hrd hne
    have R8 := row_set4 (.int .i64 a0) (.int .i64 a1) (.int .i64 a2) (.int .i64 a3) HG2.out
    have B8 := below_set4 (b := w.heap.size + 1) (.int .i64 a0) (.int .i64 a1) (.int .i64 a2) (.int .i64 a3) H7.out (by omega)
    have G8 : Boxed ((((Z.setCell ⟨w.heap.size + 1, 0, none⟩ (.int .i64 a0)).setCell ⟨w.heap.size + 1, 1, none⟩ (.int .i64 a1)).setCell ⟨w.heap.size + 1, 2, none⟩ (.int .i64 a2)).setCell ⟨w.heap.size + 1, 3, none⟩ (.int .i64 a3)) (w.heap.size + 1 + 1) 4 (.bool false) := ((heap_set (by omega)).trans ((heap_set (by omega)).trans ((heap_set (by omega)).trans ((heap_set (by omega)).trans HG3.out))))
    clear HG2
    have R9 : Row (((((Z.setCell ⟨w.heap.size + 1, 0, none⟩ (.int .i64 a0)).setCell ⟨w.heap.size + 1, 1, none⟩ (.int .i64 a1)).setCell ⟨w.heap.size + 1, 2, none⟩ (.int .i64 a2)).setCell ⟨w.heap.size + 1, 3, none⟩ (.int .i64 a3)).setCell ⟨w.heap.size + 1 + 1, 0, none⟩ (.bool true)) (w.heap.size + 1) 43 [.int .i64 a0, .int .i64 a1, .int .i64 a2, .int .i64 a3] := R8.same (heap_set (by omega))
    have G9 := G8.set (.bool true)
    have B9 : Below w.heap.size w (((((Z.setCell ⟨w.heap.size + 1, 0, none⟩ (.int .i64 a0)).setCell ⟨w.heap.size + 1, 1, none⟩ (.int .i64 a1)).setCell ⟨w.heap.size + 1, 2, none⟩ (.int .i64 a2)).setCell ⟨w.heap.size + 1, 3, none⟩ (.int .i64 a3)).setCell ⟨w.heap.size + 1 + 1, 0, none⟩ (.bool true)) := B8.setCell (p := ⟨w.heap.size + 1 + 1, 0, none⟩) (by show w.heap.size ≤ w.heap.size + 1 + 1; omega) _
    have D9 : (((((Z.setCell ⟨w.heap.size + 1, 0, none⟩ (.int .i64 a0)).setCell ⟨w.heap.size + 1, 1, none⟩ (.int .i64 a1)).setCell ⟨w.heap.size + 1, 2, none⟩ (.int .i64 a2)).setCell ⟨w.heap.size + 1, 3, none⟩ (.int .i64 a3)).setCell ⟨w.heap.size + 1 + 1, 0, none⟩ (.bool true)).heap[W5.heap.size]? = some (.deferred (some [])) := (heap_set (by omega)).trans ((heap_set (by omega)).trans ((heap_set (by omega)).trans ((heap_set (by omega)).trans ((heap_set (by omega)).trans HD.out))))
    obtain ⟨WZ, hWZ⟩ : ∃ WZ, WZ = (((((Z.setCell ⟨w.heap.size + 1, 0, none⟩ (.int .i64 a0)).setCell ⟨w.heap.size + 1, 1, none⟩ (.int .i64 a1)).setCell ⟨w.heap.size + 1, 2, none⟩ (.int .i64 a2)).setCell ⟨w.heap.size + 1, 3, none⟩ (.int .i64 a3)).setCell ⟨w.heap.size + 1 + 1, 0, none⟩ (.bool true)) := ⟨_, rfl⟩
    rw [← hWZ] at R9 G9 B9 D9
    have HWZ := Lib.hid hWZ
    have HALL := Lib.hid (And.intro (And.intro R9 G9) (And.intro B9 D9))
    clear R8 B8 G8 R9 G9 B9 D9 hWZ
    go_wp2_with fail
    rw [← HWZ.out]
    obtain ⟨⟨R9, G9⟩, B9, D9⟩ := HALL.out
    refine ⟨by simp, .inl ⟨_, _, rfl, run_takeDeferred D9, ?_⟩⟩
    have R10 : Row (WZ.putObj W5.heap.size (.deferred none)) (w.heap.size + 1) 43 [.int .i64 a0, .int .i64 a1, .int .i64 a2, .int .i64 a3] := R9.same (World.putObj_heap_other (by omega))
    have G10 : Boxed (WZ.putObj W5.heap.size (.deferred none)) (w.heap.size + 1 + 1) 4 (.bool true) := (World.putObj_heap_other (by omega)).trans G9
    have d0 := R10.cell 0
    have d1 := R10.cell 1
    have d2 := R10.cell 2
    have d3 := R10.cell 3
    have d9 := G10.cell
    exact ⟨.tuple #[.agg #[.int .i64 a0, .int .i64 a1, .int .i64 a2, .int .i64 a3], .bool true], by simp [results, Tryz.results216, go_sem, d0, d1, d2, d3, d9], ⟨true, by rw [HFN.out]; rfl, ⟨fun _ => HRD.out, fun _ => rfl⟩, B9.grown (putObj_grown WZ _ _) B9.size (fun r e => by cases e; omega)⟩⟩
  case stop =>
    rintro c' xs O Z _ ⟨rfl, h2, h3, h6, h7⟩ hD
    rw [HST0.out] at h2
    have HBE := Lib.hid (show Below w.heap.size w (Z.putObj W5.heap.size (.deferred none)) from h7.grown (putObj_grown Z _ _) h7.size (fun r e => by cases e; omega))
    have HG2 := Lib.hid (show Row (Z.putObj W5.heap.size (.deferred none)) (w.heap.size + 1) 43 [.int .i64 0, .int .i64 0, .int .i64 0, .int .i64 0] from h2.same (World.putObj_heap_other (by omega)))
    have HG3 := Lib.hid (show Boxed (Z.putObj W5.heap.size (.deferred none)) (w.heap.size + 1 + 1) 4 (.bool false) from (World.putObj_heap_other (by omega)).trans h3)
    have HNR := Lib.hid h6
    have HD := Lib.hid hD
    clear h2 h3 h6 h7 hit hI0 hD
    refine wpIn_wide.2 ?_
    go_wp2_with fail
    refine ⟨by simp, .inl ⟨_, _, rfl, run_takeDeferred HD.out, ?_⟩⟩
    have d0 := HG2.out.cell 0
    have d1 := HG2.out.cell 1
    have d2 := HG2.out.cell 2
    have d3 := HG2.out.cell 3
    have d9 := HG3.out.cell
    exact ⟨.tuple #[.agg #[.int .i64 0, .int .i64 0, .int .i64 0, .int .i64 0], .bool false], by simp [results, Tryz.results216, go_sem, d0, d1, d2, d3, d9], ⟨false, by rw [HST0.out]; rfl, ⟨fun h => (by cases h), fun h => absurd h HNR.out⟩, HBE.out⟩⟩
end Go.Proofs.YtiahmccchpmdgaaGreatDoor.Me

namespace Go.Proofs.YtiahmccchpmdgaaGreatDoor
open Go.RowKit

/- A DRAWN REGION, SOME OF WHOSE LAST OPERATIONS WAIT FOR ALL THAT STAND AHEAD OF THEM (a yield behind loads and calls): what stands ahead is walked as outside of a fence ('go_region_held3', 'wpAnyH ..'), what is left within it. -/

/-- may the region be cut behind its first m operations? -/
def cutOk (ops : Array Oper) (m : Nat) : Bool :=
  (decide (0 < m) && decide (m ≤ ops.size)) && (List.range ops.size).all fun j => match ops[j]? with
    | none => true
    | some o => (o.after.all fun e => !Region.binds .any e || decide (e.on < j)) &&
        ((decide (j < m) || o.after.any fun e => Region.binds .any e && decide (m ≤ e.on + 1)) &&
        ((decide (m ≤ j + 1) || (List.range m).any fun k => ((ops[k]?).map fun ok => ok.after.any fun e => Region.binds .any e && e.on == j).getD false) &&
        (match o.guard with | none => true | some g => decide (g.1 < m) || decide (m ≤ j))))

section
variable {ops : Array Oper} {m : Nat}
theorem cut_size (h : cutOk ops m = true) : 0 < m ∧ m ≤ ops.size := by
  unfold cutOk at h
  simp only [Bool.and_eq_true, decide_eq_true_eq] at h
  exact h.1
theorem cut_op (h : cutOk ops m = true) {j : Nat} {o : Oper} (ho : ops[j]? = some o) :
    (∀ e ∈ o.after, Region.binds .any e = true → e.on < j) ∧ (j < m ∨ ∃ e ∈ o.after, Region.binds .any e = true ∧ m ≤ e.on + 1) ∧
      (m ≤ j + 1 ∨ ∃ k, k < m ∧ ∃ ok, ops[k]? = some ok ∧ ∃ e ∈ ok.after, Region.binds .any e = true ∧ e.on = j) ∧ (∀ g, o.guard = some g → g.1 < m ∨ m ≤ j) := by
  unfold cutOk at h
  simp only [Bool.and_eq_true, List.all_eq_true, List.mem_range] at h
  have h := h.2 j (Array.getElem?_eq_some_iff.1 ho).1
  rw [ho] at h
  simp only [Bool.and_eq_true, Bool.or_eq_true, decide_eq_true_eq, Array.all_eq_true', Array.any_eq_true', List.any_eq_true, List.mem_range, Bool.not_eq_true'] at h
  obtain ⟨h1, h2, h3, h4⟩ := h
  refine ⟨fun e he hb => ?_, ?_, ?_, fun g hg => ?_⟩
  · rcases h1 e he with h | h
    · rw [hb] at h; cases h
    · exact h
  · exact h2
  · rcases h3 with h | ⟨k, hk, h⟩
    · exact .inl h
    · right
      refine ⟨k, hk, ?_⟩
      cases hok : ops[k]? with
      | none => rw [hok] at h; simp at h
      | some ok =>
        rw [hok] at h
        simp only [Option.map_some, Option.getD_some, Array.any_eq_true', Bool.and_eq_true, beq_iff_eq] at h
        obtain ⟨e, he, hb, hon⟩ := h
        exact ⟨ok, rfl, e, he, hb, hon⟩
  · rw [hg] at h4
    simpa using h4
end

theorem rowsIn_wide {n : Nat} {P : Program} {row : String} {args : Array Value} {w : World} {R : Value → World → Prop} (h : Rows P row args w R) : RowsIn Fence.wide n P row args w R :=
  fun c cs _ => let ⟨v, w', r, s⟩ := h c cs; ⟨v, w', r, stepsIn_wide.2 s⟩
/-- an operation that goes outside of a fence, with no panic, goes within the wide one -/
theorem oper_in {n : Nat} {P : Program} {o : Oper} {a : Act} {w : World} {K : Act → World → Prop} {Q Q' : Exit → Act → World → Prop} (hp : ∀ c a w, ¬ Q (.panic c) a w) (ho : ∀ a w, ¬ Q .outgrown a w)
    (h : o.wp P a w K Q) : o.wpIn Fence.wide n P a w K Q' := by
  refine ⟨fun _ _ => trivial, ?_⟩
  rw [show Fence.wide.round = none from rfl, Oper.semAt_none]
  unfold Oper.wp at h
  generalize (execOp a.eval o).run P w = r at h ⊢
  cases r with
  | ok x w' =>
    cases x <;> simp only [Oper.upon] at h <;> simp only [Oper.uponIn]
    case value u => exact h
    case skip => exact h
    case defer d => exact h
    case enter f args =>
      refine ⟨fun h => (by simp [Fence.wide] at h), callsIn_wide.2 (h.mono fun e w'' he => ?_)⟩
      cases e with
      | returned u => exact he
      | panicked c => exact absurd he (hp _ _ _)
      | outgrown => obtain ⟨a', w3, h3⟩ := he; exact absurd h3 (ho _ _)
    case row row args => exact ⟨fun h => (by simp [Fence.wide] at h), rowsIn_wide h⟩
  | halt x w' =>
    cases x <;> simp only [Oper.upon] at h
    case panic u => exact absurd h (hp _ _ _)

theorem wpAnyIn_more {F : Fence} {n : Nat} {P : Program} {md : Region.Mode} {ops : Array Oper} {Q : Exit → Act → World → Prop} : ∀ (fuel : Nat) (L : Array Bool) (a : Act) (w : World), wpAnyIn F n P md ops Q fuel L a w → wpAnyIn F n P md ops Q (fuel + 1) L a w
  | 0, _, _, _, h => ⟨fun _ => h.2, by rw [h.1]; simp⟩
  | fuel + 1, _, _, _, h => ⟨h.1, fun i hi => wpOpIn_mono (fun a w => wpAnyIn_more fuel _ a w) (h.2 i hi)⟩
theorem wpAnyIn_far {F : Fence} {n : Nat} {P : Program} {md : Region.Mode} {ops : Array Oper} {Q : Exit → Act → World → Prop} {fuel : Nat} {L : Array Bool} {a : Act} {w : World} (h : wpAnyIn F n P md ops Q fuel L a w) : ∀ k, wpAnyIn F n P md ops Q (k + fuel) L a w
  | 0 => by rw [Nat.zero_add]; exact h
  | k + 1 => by rw [Nat.add_right_comm]; exact wpAnyIn_more _ _ _ _ (wpAnyIn_far h k)

/-- the first m have come up, no other one -/
def full (m N : Nat) : Array Bool := (List.replicate m true ++ List.replicate (N - m) false).toArray
/-- what follows on the first m -/
def restQ (n : Nat) (P : Program) (ops : Array Oper) (Q : Exit → Act → World → Prop) (m : Nat) : Exit → Act → World → Prop
  | .normal, a, w => wpAnyIn Fence.wide n P .any ops Q (ops.size - m) (full m ops.size) a w
  | _, _, _ => False

theorem getD_rep (N j : Nat) : (Array.replicate N false).getD j false = false := by
  rw [Array.getD_eq_getD_getElem?, Array.getElem?_replicate]
  split <;> rfl
theorem getD_lt {L : Array Bool} {j : Nat} (h : j < L.size) (b c : Bool) : L.getD j b = L.getD j c := by simp [h]
theorem getD_set {L : Array Bool} {i j : Nat} (hi : i < L.size) (b : Bool) : (L.setIfInBounds i true).getD j b = if i = j then true else L.getD j b := by
  by_cases h : i = j
  · subst h
    simp [hi]
  · rw [if_neg h, getD_set_ne b h]

section
variable {n : Nat} {P : Program} {ops pre : Array Oper} {Q : Exit → Act → World → Prop} {m : Nat}
theorem cut_go (hc : cutOk ops m = true) (hs : pre.size = m) (hpre : ∀ j, j < m → pre[j]? = ops[j]?) : ∀ (fuel : Nat) (L L' : Array Bool) (a : Act) (w : World), L.size = ops.size → L'.size = m →
    (∀ j, j < m → L'.getD j false = L.getD j false) → (∀ j, m ≤ j → j < ops.size → L.getD j false = false) →
    (∀ k ok, ops[k]? = some ok → L.getD k false = true → ∀ e ∈ ok.after, Region.binds .any e = true → L.getD e.on false = true) → L.getD (m - 1) false = false →
    wpAny P .any pre (restQ n P ops Q m) fuel L' a w → wpAnyIn Fence.wide n P .any ops Q (fuel + (ops.size - m)) L a w := by
  have hm := cut_size hc
  -- while the last of the first m is still to come, one may come up
  have some_ready : ∀ (L L' : Array Bool), L.size = ops.size → L'.size = m → (∀ j, j < m → L'.getD j false = L.getD j false) → L.getD (m - 1) false = false → ∃ i, i ∈ Region.ready .any ops L ∧ i ∈ Region.ready .any pre L' := by
    intro L L' hL hL' hLL hlast
    have key : ∀ j, j < m → L.getD j false = false → ∃ i, i < m ∧ L.getD i false = false ∧ ∀ k, k < i → L.getD k false = true := by
      intro j
      induction j using Nat.strongRecOn with
      | ind j ih =>
        intro hj hu
        by_cases h : ∃ k, k < j ∧ L.getD k false = false
        · obtain ⟨k, hk, hku⟩ := h
          exact ih k hk (by omega) hku
        · refine ⟨j, hj, hu, fun k hk => ?_⟩
          cases hb : L.getD k false
          · exact absurd ⟨k, hk, hb⟩ h
          · rfl
    obtain ⟨i, hi, hu, hall⟩ := key (m - 1) (by omega) hlast
    obtain ⟨o, ho⟩ : ∃ o, ops[i]? = some o := ⟨ops[i]'(by omega), Array.getElem?_eq_getElem _⟩
    have h1 := (cut_op hc ho).1
    refine ⟨i, mem_ready.2 ⟨by rw [getD_lt (by omega) true false]; exact hu, o, ho, fun e he hb => hall _ (h1 e he hb)⟩,
      mem_ready.2 ⟨by rw [getD_lt (by omega) true false, hLL i hi]; exact hu, o, by rw [hpre i hi]; exact ho, fun e he hb => ?_⟩⟩
    have := h1 e he hb
    rw [hLL _ (by omega)]
    exact hall _ this
  intro fuel
  induction fuel with
  | zero =>
    intro L L' a w hL hL' hLL _ _ hlast h
    obtain ⟨i, _, hi⟩ := some_ready L L' hL hL' hLL hlast
    rw [h.1] at hi
    cases hi
  | succ fuel ih =>
    intro L L' a w hL hL' hLL hgt hcl hlast h
    rw [Nat.add_right_comm]
    refine ⟨fun h0 => ?_, fun i hi => ?_⟩
    · obtain ⟨i, hi, _⟩ := some_ready L L' hL hL' hLL hlast
      rw [h0] at hi
      cases hi
    · obtain ⟨hu, o, ho, hall⟩ := mem_ready.1 hi
      obtain ⟨c1, c2, c3, c4⟩ := cut_op hc ho
      have hlt : i < ops.size := (Array.getElem?_eq_some_iff.1 ho).1
      have him : i < m := by
        rcases c2 with h | ⟨e, he, hb, hon⟩
        · exact h
        · have := hall e he hb
          by_cases hel : e.on = m - 1
          · rw [hel, hlast] at this; cases this
          · have h2 : e.on < ops.size := by have := c1 e he hb; omega
            rw [hgt e.on (by omega) h2] at this; cases this
      have hir : i ∈ Region.ready .any pre L' := mem_ready.2 ⟨by rw [getD_lt (by omega) true false, hLL i him, ← getD_lt (by omega) true false]; exact hu, o, by rw [hpre i him]; exact ho, fun e he hb => by
        have := c1 e he hb
        rw [hLL _ (by omega)]
        exact hall e he hb⟩
      have hstep := h.2 i hir
      have hnext : ∀ a' w', wpAny P .any pre (restQ n P ops Q m) fuel (L'.setIfInBounds i true) a' w' → wpAnyIn Fence.wide n P .any ops Q (fuel + (ops.size - m)) (L.setIfInBounds i true) a' w' := by
        intro a' w' h'
        have hLL2 : ∀ j, j < m → (L'.setIfInBounds i true).getD j false = (L.setIfInBounds i true).getD j false := fun j hj => by
          rw [getD_set (by omega), getD_set (by omega), hLL j hj]
        have hgt2 : ∀ j, m ≤ j → j < ops.size → (L.setIfInBounds i true).getD j false = false := fun j hj hj2 => by
          rw [getD_set (by omega), if_neg (by omega)]
          exact hgt j hj hj2
        have hcl2 : ∀ k ok, ops[k]? = some ok → (L.setIfInBounds i true).getD k false = true → ∀ e ∈ ok.after, Region.binds .any e = true → (L.setIfInBounds i true).getD e.on false = true := by
          intro k ok hok hk e he hb
          by_cases hik : i = k
          · subst hik
            rw [ho] at hok
            injection hok with hok
            subst hok
            exact getD_set_true (hall e he hb)
          · rw [getD_set_ne false hik] at hk
            exact getD_set_true (hcl k ok hok hk e he hb)
        by_cases hil : i = m - 1
        · -- all of the first m have come up
          have hlisted : ∀ d j, j + d + 1 = m → (L.setIfInBounds i true).getD j false = true := by
            intro d
            induction d using Nat.strongRecOn with
            | ind d ihd =>
              intro j hj
              by_cases hjl : j = m - 1
              · rw [getD_set (by omega), if_pos (by omega)]
              · obtain ⟨oj, hoj⟩ : ∃ oj, ops[j]? = some oj := ⟨ops[j]'(by omega), Array.getElem?_eq_getElem _⟩
                rcases (cut_op hc hoj).2.2.1 with h | ⟨k, hk, ok, hok, e, he, hb, hon⟩
                · omega
                · have hkj := (cut_op hc hok).1 e he hb
                  rw [← hon]
                  exact hcl2 k ok hok (ihd (m - 1 - k) (by omega) k (by omega)) e he hb
          have hnone : Region.ready .any pre (L'.setIfInBounds i true) = [] := by
            apply List.eq_nil_iff_forall_not_mem.2
            intro j hj
            obtain ⟨hju, oj, hoj, _⟩ := mem_ready.1 hj
            have hjm : j < m := by rw [← hs]; exact (Array.getElem?_eq_some_iff.1 hoj).1
            rw [getD_lt (by simp; omega) true false, hLL2 j hjm, hlisted (m - 1 - j) j (by omega)] at hju
            cases hju
          have hend : restQ n P ops Q m .normal a' w' := by
            cases fuel with
            | zero => exact h'.2
            | succ fuel => exact h'.1 hnone
          have hfull : L.setIfInBounds i true = full m ops.size := by
            apply Array.ext
            · rw [Array.size_setIfInBounds, hL]; simp [full]; omega
            · intro j h1 h2
              have h1' : j < ops.size := by simpa [hL] using h1
              have e1 : (L.setIfInBounds i true)[j] = (L.setIfInBounds i true).getD j false := by rw [Array.getD_eq_getD_getElem?, Array.getElem?_eq_getElem h1]; rfl
              rw [e1]
              by_cases hjm : j < m
              · rw [hlisted (m - 1 - j) j (by omega)]
                simp [full, hjm]
              · rw [hgt2 j (by omega) h1']
                simp [full, List.getElem_append, hjm]
          rw [hfull]
          exact wpAnyIn_far hend fuel
        · exact ih _ _ a' w' (by simpa using hL) (by simpa using hL') hLL2 hgt2 hcl2 (by rw [getD_set (by omega), if_neg hil]; exact hlast) h'
      unfold wpOp at hstep
      rw [hpre i him, ho] at hstep
      unfold wpOpIn
      rw [ho]
      have hw : Region.wanted o (yielded pre a.tmps) = Region.wanted o (yielded ops a.tmps) := by
        unfold Region.wanted
        cases hg : o.guard with
        | none => rfl
        | some g =>
          have hgm : g.1 < m := by
            rcases c4 g hg with h | h
            · exact h
            · omega
          obtain ⟨g1, g2⟩ := g
          simp only [yielded, hpre g1 hgm]
      simp only [hw] at hstep
      simp only
      split at hstep
      · rename_i hww
        rw [if_pos hww]
        rcases hstep with h1 | ⟨_, a2, w2, h2⟩
        · exact oper_in (fun _ _ _ h => h) (fun _ _ h => h) (Oper.wp_mono hnext h1)
        · exact h2.elim
      · rename_i hww
        rw [if_neg hww]
        exact ⟨fun _ _ => trivial, hnext _ _ hstep⟩

end
end Go.Proofs.YtiahmccchpmdgaaGreatDoor

namespace Go.Proofs.YtiahmccchpmdgaaGreatDoor
open Go.RowKit

/-- an operation that is no deferred call -/
def Oper.plainB (o : Oper) : Bool := match o.op with | .defer _ => false | _ => true
theorem plain_ne {o : Oper} (h : Oper.plainB o = true) : ∀ c, o.op ≠ .defer c := by
  intro c hc
  unfold Oper.plainB at h
  rw [hc] at h
  cases h

section
variable {n : Nat} {P : Program} {Q : Exit → Act → World → Prop}
theorem wpIn_oper_round (l : Nat) {o : Oper} {a : Act} {w : World} {next : Act → World → Prop} (ho : Oper.plainB o = true) (h : o.wpIn Fence.wide n P a w next Q) : o.wpIn (Fence.wide.inRound l) n P a w next Q := by
  refine ⟨fun _ _ => trivial, ?_⟩
  have h2 := h.2
  have e1 : Oper.semAt (Fence.wide.inRound l).round a.eval o = Oper.semAt Fence.wide.round a.eval o := Oper.semAt_some l _ _ (plain_ne ho)
  rw [e1]
  generalize (Oper.semAt Fence.wide.round a.eval o).run P w = r at h2 ⊢
  cases r with
  | ok x w' => cases x <;> exact h2
  | halt x w' => cases x <;> exact h2

/-- within a round the operations of a region go as they go outside of one, where none is a deferred call -/
theorem wpAnyIn_round (l : Nat) {md : Region.Mode} {ops : Array Oper} (hp : ∀ (i : Nat) o, ops[i]? = some o → Oper.plainB o = true) : ∀ (fuel : Nat) (listed : Array Bool) (a : Act) (w : World),
    wpAnyIn Fence.wide n P md ops Q fuel listed a w → wpAnyIn (Fence.wide.inRound l) n P md ops Q fuel listed a w
  | 0, _, _, _, h => h
  | fuel + 1, listed, a, w, h => by
    refine ⟨h.1, fun i hi => ?_⟩
    have hi2 := h.2 i hi
    unfold wpOpIn at hi2 ⊢
    split
    · rename_i ho
      rw [ho] at hi2
      exact wpAnyIn_round l hp fuel _ _ _ hi2
    · rename_i o ho
      rw [ho] at hi2
      simp only at hi2
      split
      · rename_i hw
        rw [if_pos hw] at hi2
        exact Oper.wpIn_mono (fun a w h => wpAnyIn_round l hp fuel _ _ _ h) (wpIn_oper_round l (hp i o ho) hi2)
      · rename_i hw
        rw [if_neg hw] at hi2
        exact ⟨fun _ _ => trivial, wpAnyIn_round l hp fuel _ _ _ hi2.2⟩

theorem region_round (l : Nat) {id : Nat} {ops : Array Oper} {a : Act} {w : World} (hm : P.follows .mixedOrders = true) (hp : (ops.all Oper.plainB) = true)
    (h : wpAnyIn Fence.wide n P .any ops Q ops.size (Array.replicate ops.size false) a w.drew) : (Code.region id ops true).wpIn (Fence.wide.inRound l) n P Q a w :=
  wpIn_region_any hm (wpAnyIn_round l (fun i o ho => by
    obtain ⟨hi, rfl⟩ := Array.getElem?_eq_some_iff.1 ho
    exact Array.all_eq_true.1 hp i hi) _ _ _ _ h)
end
end Go.Proofs.YtiahmccchpmdgaaGreatDoor

namespace Go.Proofs.YtiahmccchpmdgaaGreatDoor
open Go.RowKit

/- A DRAWN REGION WITHIN A ROUND, WALKED AS OUTSIDE OF ONE: NO CALLS IN IT. -/
theorem wpIn_region_heldH {n : Nat} {P : Program} {Q : Exit → Act → World → Prop} (l' : Nat) {l : List Oper} (m : Nat) {id : Nat} {a : Act} {w : World} (S : World → Prop) (hm : P.follows .mixedOrders = true) (hp : (l.toArray.all Oper.plainB) = true) (hc : cutOk l.toArray m = true) (hS : S w.drew)
    (h : S w.drew → wpAnyH P .any (l.take m).toArray (restQ n P l.toArray Q m) S m (Array.replicate m false) a w.drew) : (Code.region id l.toArray true).wpIn (Fence.wide.inRound l') n P Q a w := by
  have hz := cut_size hc
  refine region_round l' hm hp ?_
  have hf : l.toArray.size = m + (l.toArray.size - m) := by omega
  rw [hf]
  have hall : ∀ j, (Array.replicate (m + (l.toArray.size - m)) false).getD j false = false := getD_rep _
  refine cut_go (pre := (l.take m).toArray) hc (by simp at hz ⊢; omega) (fun j hj => by simp [hj]) m _ (Array.replicate m false) a _ (by simp at hz ⊢; omega) (by simp) (fun j _ => by rw [hall, getD_rep]) (fun j _ _ => hall j) (fun k ok _ hk => by rw [hall] at hk; cases hk) (hall _) ?_
  exact wpAny_of_held _ _ _ _ (h hS)
end Go.Proofs.YtiahmccchpmdgaaGreatDoor
