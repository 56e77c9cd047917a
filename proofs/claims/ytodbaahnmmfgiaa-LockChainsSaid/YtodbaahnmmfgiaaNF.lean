import Derived.Test.YtodbaahnmmfgiaaNE
import Derived.Maps.RangeWalk
import Derived.Laws.IdiomRangeMap
import Derived.Deep.LoopGhost
namespace Go.Proofs.Ytodbaahnmmfgiaa.Lk
open Go.RowKit Go.Shelf Go.Maps
attribute [local go_sem] Oper.semAt_some

/- LOCKS AS A MAP: PLAINLY; MAPS.INSERT, MAPS.COLLECT. -/
abbrev Ps := List (Nat × Int)
def keyed (ps : Ps) (z : Int) : Bool := ps.any fun p => decide ((p.1 : Int) = z)
structure IsMp (D : DataW Unit) (ps : Ps) : Prop where
  tidy : Tidy D
  size : Maps.size D = ps.length
  has : ∀ z : Int, Maps.has D (.int .i64 z) = keyed ps z
  at_ : ∀ p ∈ ps, ∀ zd, D.atKey (.int .i64 (p.1 : Int)) zd = .lit (.int .i64 p.2)
theorem isMp_nil : IsMp (.map []) [] := ⟨tidy_empty, rfl, fun _ => rfl, fun p hp => by cases hp⟩
theorem keyLit (z : Int) : WideAt.IsKeyLit (.int .i64 z) := by trivial
theorem isMp_put {D : DataW Unit} {ps : Ps} {x : Nat × Int} (h : IsMp D ps) (hx : ∀ p ∈ ps, p.1 ≠ x.1) : IsMp (D.put (.int .i64 (x.1 : Int)) (.lit (.int .i64 x.2))) (ps ++ [x]) := by
  have hh : Maps.has D (.int .i64 (x.1 : Int)) = false := by
    rw [h.has]
    unfold keyed
    rw [List.any_eq_false]
    intro p hp hd
    have := of_decide_eq_true hd
    exact hx p hp (by omega)
  refine ⟨h.tidy.put (keyLit _) _, ?_, fun z => ?_, fun p hp zd => ?_⟩
  · rw [size_put h.tidy, hh, if_neg (by simp), h.size]
    simp
  · by_cases hz : (x.1 : Int) = z
    · subst hz
      rw [has_put_same h.tidy.isMap (keyLit _)]
      simp [keyed]
    · rw [has_put_other (fun e => hz (by injection e with _ e; exact e.symm)), h.has]
      simp [keyed, hz]
  · rcases List.mem_append.1 hp with hp | hp
    · rw [atKey_put_other (fun e => hx p hp (by injection e with _ e; omega))]
      exact h.at_ p hp zd
    · obtain rfl := List.mem_singleton.1 hp
      exact atKey_put_same h.tidy.isMap (keyLit _) _ _
def Rising (ps : Ps) : Prop := ps.Pairwise fun a b => a.1 < b.1
theorem prTo_rising (l : Ls) : ∀ i, Rising (prTo l i)
  | 0 => List.Pairwise.nil
  | i + 1 => by
    rw [prTo]
    refine List.pairwise_append.2 ⟨prTo_rising l i, ?_, fun a ha b hb => ?_⟩
    · unfold prAt
      split
      · exact List.Pairwise.nil
      · exact List.pairwise_singleton _ _
    · have h1 := (prTo_mem l i a ha).1
      unfold prAt at hb
      split at hb
      · cases hb
      · obtain rfl := List.mem_singleton.1 hb
        exact h1
theorem prs_rising (l : Ls) : Rising (prs l) := prTo_rising l _
theorem rising_new {L pre post : Ps} {x : Nat × Int} (h : Rising L) (e : L = pre ++ x :: post) : ∀ p ∈ pre, p.1 ≠ x.1 := by
  intro p hp
  subst e
  have := (List.pairwise_append.1 h).2.2 p hp x (by simp)
  omega
theorem keep_grown {F : Nat → Prop} {w V V' : World} {row : Option Nat} (h : Keep F w V) (hg : V.grownBy V' row) (hr : ∀ r, row = some r → w.heap.size ≤ r ∨ F r) : Keep F w V' :=
  ⟨hg.os.trans h.os, hg.tape.trans h.tape, hg.output.trans h.output, Nat.le_trans h.size hg.size, fun k hk hf => (hg.block k (Nat.lt_of_lt_of_le hk h.size) (fun e => by
    rcases hr k e.symm with h1 | h1
    · omega
    · exact hf h1)).trans (h.block k hk hf)⟩
abbrev MapI (w : World) (bm n : Nat) (D : DataW Unit) : Prop := w.ownsMap Try.prog 3 (plainElem Try.prog 3) bm n D
def InS (w : World) (bm : Nat) (pre : Ps) (_ : Nat → Prop) (V : World) : Prop :=
  ∃ D, Boxed V w.heap.size 78 (.map (some bm)) ∧ MapI V bm pre.length D ∧ IsMp D pre ∧ Keep (· = bm) w V
theorem InS.abid {w : World} {bm : Nat} (hb : bm < w.heap.size) : Abid (w.heap.size + 1) (InS w bm) := by
  rintro pre O V V' row ⟨D, h1, h2, h3, h4⟩ hg hr
  have hne : ∀ k, k < w.heap.size + 1 → some k ≠ row := fun k hk e => by
    have := (hr k e.symm).1
    omega
  exact ⟨D, h1.kept hg (hne _ (by omega)), h2.kept hg (hne _ (by omega)), h3, keep_grown h4 hg (fun r e => .inl (by have := (hr r e).1; omega))⟩
set_option maxHeartbeats 2000000 in
theorem insert_any {l : Ls} (hl : l.length ≤ 64) (hth : Ths l) {lb : Array Value} {Pv : Nat → Prop} {w : World} (hit : It Try.prog 66 lb encP (fun _ _ => False) (preA (prs l)) Pv (allA (prs l)) (someA (prs l)) w) (bm : Nat) (hpv : ∀ k, Pv k → k < w.heap.size ∧ k ≠ bm) (hm : MapI w bm 0 (.map [])) :
    Calls Try.prog 62 #[.map (some bm), .func (.func 66) #[] lb] w fun e w' => e = .returned (.tuple #[]) ∧ (∃ D n, n ≤ 64 ∧ MapI w' bm n D ∧ IsMp D (prs l)) ∧ Keep (· = bm) w w' := by
  have hbm := hm.lt
  have HLEN := Lib.hid (Nat.le_trans (prTo_len l l.length) hl)
  have HRI := Lib.hid (prs_rising l)
  have HKEY := Lib.hid (fun x (hx : x ∈ prs l) => (show (x.1 < 64) ∧ -1 ≤ x.2 ∧ x.2 < 4 from by
    have h1 := prTo_mem l _ x hx
    have h2 := getD_th hth x.1
    rw [← h1.2.2] at h2
    exact ⟨by omega, h2⟩))
  obtain ⟨L, hL⟩ : ∃ L, L = prs l := ⟨_, rfl⟩
  have hLEN2 : Hid (L.length ≤ 64) := Lib.hid (by rw [hL]; exact HLEN.out)
  rw [← hL] at hit HRI HKEY ⊢
  clear hL HLEN
  obtain ⟨w1, hw1⟩ : ∃ w1, w1 = w.alloc (.cells #[.map (some bm)] 78) := ⟨_, rfl⟩
  have hs1 : w1.heap.size = w.heap.size + 1 := by rw [hw1]; simp
  have hB1 : Below w.heap.size w w1 := by rw [hw1]; exact below1 _ _
  have hx1 : Boxed w1 w.heap.size 78 (.map (some bm)) := by rw [hw1]; exact Boxed.new w _ _
  have hm1 : MapI w1 bm 0 (.map []) := owns_same hm (hB1.block _ hbm)
  have hit1 := It.later hit (fun k hk => hB1.block k (hpv k hk).1) hB1.size
  refine calls_marks Try.func62 rfl ?_
  simp only [Try.ntmps62, List.size_toArray, List.length_cons, List.length_nil, Nat.reduceAdd, Nat.reduceSub, Array.replicate_succ, Array.replicate_zero, List.push_toArray, List.append_toArray, List.nil_append, List.cons_append]
  go_wp2_with fail
  rw [← hw1]
  clear hw1
  go_wp2_with fail
  refine wpIn_wide.1 (wpIn_range_it (gf := 66) (lb := lb) rfl (enters_of Try.func66 (by kernel_rfl) rfl) hit1 (fun k hk => Nat.lt_of_lt_of_le (hpv k hk).1 hB1.size) (fun _ => rfl) (fun _ _ _ _ _ h => h)
    (InS w bm) (fun _ _ _ _ => False) (by rw [hs1]; exact InS.abid hbm) (fun _ _ _ _ _ _ h => h.elim) ?h0
    (fun x => { tmps := #[.map (some bm), .func (.func 66) #[] lb, .pointer (some ⟨w.heap.size, 0, none⟩), undef, .int .i64 (x.1 : Int), .int .i64 x.2, .func (.func 66) #[] lb, .int .i64 (x.1 : Int), .int .i64 x.2, undef, undef, undef], defers := [] }) ?assign ?body ?done ?stop)
  case h0 => exact ⟨_, hx1, hm1, isMp_nil, Keep.of_below hB1⟩
  case assign =>
    intro l' x W' K hK
    simp only [encP]
    gi_wp2
    exact hK
  case body =>
    rintro l' pre x O V hVs hO ⟨D, hbx, hmp, hD, hk⟩ hx _
    obtain ⟨post, eL⟩ := hx
    have hkx := HKEY.out x (by rw [eL]; simp)
    have hpl : pre.length ≤ 64 := by
      have h1 := hLEN2.out
      rw [eL] at h1
      simp only [List.length_append, List.length_cons] at h1
      omega
    have hkey := keyZ (a := (x.1 : Int)) (by omega) (by omega)
    have hval : plainElem (H := Unit) Try.prog 3 (.int .i64 x.2) = some (.lit (.int .i64 x.2), []) := plainElem_int Try.underlying3 (wf_i64 (by omega) (by omega))
    have hrow : ∀ w2, V.grownBy w2 (some bm) → Keeps Pv (w.heap.size + 1) O (fun _ => False) V w2 := fun w2 hg => ⟨hg.size, fun j hj hp => hg.block j hj (fun e => by
      injection e with e
      rcases hp with hp | ⟨hp, _⟩
      · exact (hpv j hp).2 e
      · omega)⟩
    have HF := Lib.hid (fun (w2 : World) (hm2 : MapI w2 bm (pre.length + 1) (D.put (.int .i64 (x.1 : Int)) (.lit (.int .i64 x.2)))) (hg : V.grownBy w2 (some bm)) => (show Keeps Pv (w.heap.size + 1) O (fun _ => False) V w2 ∧ InS w bm (pre ++ [x]) (nextO O (fun _ => False) V w2) w2 from
      ⟨hrow w2 hg, _, hbx.kept hg (by intro e; injection e with e; omega), by rw [List.length_append, List.length_singleton]; exact hm2, isMp_put hD (rising_new HRI.out eL), keep_grown hk hg (fun r e => Or.inr (Option.some.inj e).symm)⟩))
    have hcb := hbx.cell
    obtain ⟨n, hn⟩ : ∃ n, n = pre.length := ⟨_, rfl⟩
    rw [← hn] at HF hmp hpl
    clear hrow hD hk eL hkx hit hit1 hn hx1 hm1 hm
    gi_wp2_with (gi_at_mapUpdate; refine wpListIn_mapUpdate_own _ rfl _ _ _ 78 rfl 3 3 law Try.underlying78 (plainElem Try.prog 3) bm n D rfl hmp (by unfold maxLen; omega) _ _ _ rfl rfl hkey _ _ hval ?_; intro w2 hmap2 hg2; have hfin := HF.out w2 hmap2 hg2; clear hmap2 hg2)
    exact hfin
  case done =>
    rintro xs O V hall ⟨D, hbx, hmp, hD, hk⟩ hD0
    have hg := putObj_grown V w1.heap.size (.deferred none)
    have hfin := Lib.hid (show (∃ D n, n ≤ 64 ∧ MapI (V.putObj w1.heap.size (.deferred none)) bm n D ∧ IsMp D L) ∧ Keep (· = bm) w (V.putObj w1.heap.size (.deferred none)) from by
      have e : xs = L := hall
      rw [e] at hmp hD
      exact ⟨⟨D, L.length, hLEN2.out, hmp.kept hg (by intro e; injection e with e; omega), hD⟩, keep_grown hk hg (fun r e => .inl (by injection e with e; omega))⟩)
    clear hall hbx hmp hD hk hg
    go_wp2
    refine ⟨by simp, .inl ⟨_, _, rfl, run_takeDeferred hD0, ?_⟩⟩
    exact ⟨_, results_none rfl _ _ _, rfl, hfin.out⟩
  case stop => exact fun _ _ _ _ _ h _ => h.elim
end Go.Proofs.Ytodbaahnmmfgiaa.Lk

namespace Go.Proofs.Ytodbaahnmmfgiaa.Lk
open Go.RowKit Go.Shelf Go.Maps
attribute [local go_sem] Oper.semAt_some

/- MAPS.COLLECT, MAPS.EQUAL. -/
def ColP (w : World) (ps : Ps) (e : Ending) (w' : World) : Prop := ∃ bm D n, e = .returned (.map (some bm)) ∧ n ≤ 64 ∧ MapI w' bm n D ∧ IsMp D ps ∧ Below w.heap.size w w'
theorem collect_any {l : Ls} (hl : l.length ≤ 64) (hth : Ths l) {lb : Array Value} {Pv : Nat → Prop} {w : World} (hit : It Try.prog 66 lb encP (fun _ _ => False) (preA (prs l)) Pv (allA (prs l)) (someA (prs l)) w) (hpv : ∀ k, Pv k → k < w.heap.size) :
    Calls Try.prog 35 #[.func (.func 66) #[] lb] w (ColP w (prs l)) := by
  have hmm := @run_makeMap Try.prog
  have hb := below1 w (.map #[] 0)
  have HI : Hid (Calls Try.prog 62 #[.map (some w.heap.size), .func (.func 66) #[] lb] (w.alloc (.map #[] 0)) fun e w' => e = .returned (.tuple #[]) ∧ ColP w (prs l) (.returned (.map (some w.heap.size))) w') :=
    Lib.hid ((insert_any hl hth (It.later hit (fun k hk => hb.block k (hpv k hk)) hb.size) w.heap.size (fun k hk => ⟨by have := hpv k hk; simp; omega, by have := hpv k hk; omega⟩) (World.ownsMap_made w Try.prog 3 (plainElem Try.prog 3))).mono
    fun e w' ⟨e1, ⟨D, n, h1, h2, h3⟩, h4⟩ => ⟨e1, w.heap.size, D, n, rfl, h1, h2, h3, ⟨h4.os.trans hb.os, h4.tape.trans hb.tape, h4.output.trans hb.output, Nat.le_trans hb.size h4.size, fun k hk => (h4.block k (by simp; omega) (by omega)).trans (hb.block k hk)⟩⟩)
  clear hit
  go_enter Try.func35, Try.ntmps35
  go_wp2_with fail
  refine HI.out.mono ?_
  rintro e w1 ⟨rfl, h1⟩
  have hfin := Lib.hid h1
  clear h1 HI
  go_wp2_with fail
  go_ret
  exact hfin.out

theorem sub_of : ∀ (l2 l1 : Ps), Rising l1 → Rising l2 → (∀ r ∈ l1, r ∈ l2) → l1.Sublist l2
  | [], l1, _, _, h => by
    cases l1 with
    | nil => exact List.Sublist.refl _
    | cons a t => exact absurd (h a (by simp)) (by simp)
  | b :: t2, [], _, _, _ => List.nil_sublist _
  | b :: t2, a :: t1, h1, h2, h => by
    obtain ⟨g1, g2⟩ := List.pairwise_cons.1 h1
    obtain ⟨k1, k2⟩ := List.pairwise_cons.1 h2
    by_cases hab : a = b
    · subst hab
      refine List.Sublist.cons_cons _ (sub_of t2 t1 g2 k2 fun r hr => ?_)
      rcases List.mem_cons.1 (h r (by simp [hr])) with e | e
      · have := g1 r hr
        rw [e] at this
        omega
      · exact e
    · refine List.Sublist.cons _ (sub_of t2 (a :: t1) h1 k2 fun r hr => ?_)
      have ha : a ∈ t2 := by
        rcases List.mem_cons.1 (h a (by simp)) with e | e
        · exact absurd e hab
        · exact e
      have hba := k1 a ha
      rcases List.mem_cons.1 (h r hr) with e | e
      · rcases List.mem_cons.1 hr with e2 | e2
        · rw [e] at e2
          exact absurd e2.symm hab
        · have := g1 r e2
          rw [e] at this
          omega
      · exact e
theorem eq_of_sub {l1 l2 : Ps} (h1 : Rising l1) (h2 : Rising l2) (hl : l1.length = l2.length) (hs : ∀ r ∈ l1, r ∈ l2) : l1 = l2 :=
  (sub_of l2 l1 h1 h2 hs).eq_of_length hl
theorem keyed_mem {ps : Ps} {z : Int} (h : keyed ps z = true) : ∃ p ∈ ps, (p.1 : Int) = z := by
  unfold keyed at h
  obtain ⟨p, hp, e⟩ := List.any_eq_true.1 h
  exact ⟨p, hp, of_decide_eq_true e⟩
theorem rising_uniq {ps : Ps} (h : Rising ps) {p q : Nat × Int} (hp : p ∈ ps) (hq : q ∈ ps) (e : p.1 = q.1) : p = q := by
  obtain ⟨i, hi, rfl⟩ := List.getElem_of_mem hp
  obtain ⟨j, hj, rfl⟩ := List.getElem_of_mem hq
  rcases Nat.lt_trichotomy i j with h1 | h1 | h1
  · have := List.pairwise_iff_getElem.1 h i j hi hj h1
    omega
  · subst h1; rfl
  · have := List.pairwise_iff_getElem.1 h j i hj hi h1
    omega
theorem zeroE (w : World) : (zeroValue 3).run Try.prog w = .ok (.int .i64 0) w := by kernel_rfl
theorem same_i (a b : Int) : Lit.sameKey (.int .i64 a) (.int .i64 b) = decide (a = b) := by simp [Lit.sameKey]
set_option maxRecDepth 100000 in
set_option maxHeartbeats 4000000 in
theorem equal_any {b1 b2 n1 n2 : Nat} {D1 D2 : DataW Unit} {p1 p2 : Ps} {w : World} (k1 : IsMp D1 p1) (k2 : IsMp D2 p2) (r1 : Rising p1) (r2 : Rising p2) (h1 : MapI w b1 n1 D1) (h2 : MapI w b2 n2 D2) :
    Calls Try.prog 34 #[.map (some b1), .map (some b2)] w fun e w' => e = .returned (.bool (decide (p1 = p2))) ∧ Below w.heap.size w w' := by
  have g1 := fun ty => World.ownsMap.len (t := 78) h1 Try.underlying78 ty
  have g2 := fun ty => World.ownsMap.len (t := 78) h2 Try.underlying78 ty
  rw [k1.size] at g1
  rw [k2.size] at g2
  by_cases hsz : p1.length = p2.length
  · rw [hsz] at g1
    have HEQ := Lib.hid (fun (h : ∀ p ∈ p1, p ∈ p2) => eq_of_sub r1 r2 hsz h)
    have HH2 := Lib.hid k2.has
    have HA2 := Lib.hid k2.at_
    have HK1 := Lib.hid k1.has
    have HA1 := Lib.hid k1.at_
    have HU1 := Lib.hid (fun p q hp hq e => rising_uniq r1 (p := p) (q := q) hp hq e)
    have HU2 := Lib.hid (fun p q hp hq e => rising_uniq r2 (p := p) (q := q) hp hq e)
    have H2 := Lib.hid h2
    have HLT := Lib.hid (And.intro h1.lt h2.lt)
    clear h2 k1 k2 r1 r2
    go_enter Try.func34, Try.ntmps34
    go_wp2_with (first
      | (at_range; refine wpList_range_own _ rfl _ 78 rfl 3 3 law Try.underlying78 (plainElem Try.prog 3) b1 n1 D1 rfl h1 ?_; intro w0 hrg0 hg0 hs0)
      | go_in)
    go_frame
    go_loopw [16] (fun _ wr => ∃ (left : Lit → Bool) (cnt : Nat), wr.ranges Try.prog 3 (plainElem Try.prog 3) b1 w.heap.size n1 D1 left cnt ∧ Below w.heap.size w wr ∧ Hid (∀ p ∈ p1, left (.int .i64 (p.1 : Int)) = false → p ∈ p2)) (fun _ wr => wr.rangeLeft b1 w.heap.size)
    case atStart =>
      refine ⟨_, _, hrg0, (Below.refl _ _).grown hg0 (Nat.le_refl _) (fun r e => by cases e), Lib.hid fun p hp hl => ?_⟩
      rw [HK1.out] at hl
      unfold keyed at hl
      rw [List.any_eq_false] at hl
      exact absurd (decide_eq_true rfl) (hl p hp)
    case round =>
      obtain ⟨left, cnt, hrg, hb0, HG⟩ := hrel
      go_wp2_with (first
        | (at_next; refine wpList_next_ranges_ii _ rfl _ rfl 3 3 .i64 .i64 law Try.underlying3 Try.underlying3 b1 w.heap.size n1 _ _ _ rfl hrg ?_ ?_)
        | go_in)
      · intro _ hl0
        have he := Lib.hid (decide_eq_true (HEQ.out fun p hp => HG.out p hp (hl0 _)))
        clear hrg hl0
        go_wp2
        go_ret
        exact ⟨by rw [he.out]; rfl, hb0⟩
      · intro z c w2 cnt2 hwz hwc hlz hat hrg2 hlt hg2 hs2 hen
        have hk : Maps.has D1 (.int .i64 z) = true := has_true_of_atKey hat
        rw [HK1.out] at hk
        obtain ⟨p, hp, hpz⟩ := keyed_mem hk
        have hpc : p.2 = c := by
          have h3 := HA1.out p hp (.map [])
          rw [hpz, hat] at h3
          injection h3 with h3
          injection h3 with _ h3
          exact h3.symm
        have hrl := hrg.lt
        have hb2 : Below w.heap.size w w2 := hb0.grown hg2 hb0.size (fun r e => by cases e; omega)
        have h22 : w2.ownsMap Try.prog 3 (plainElem Try.prog 3) b2 n2 D2 := owns_same H2.out (hb2.block _ HLT.out.2)
        have hh2 := HH2.out z
        have hkey : keyOf Try.prog 3 (.int .i64 z) = some (.int .i64 z) := keyOf_int_mk Try.underlying3 hwz
        have HB2 := Lib.hid hb2
        have HLEFT := Lib.hid (And.intro hrg2.left_eq hrg.left_eq)
        have HR2 := Lib.hid hrg2
        have HLT2 := Lib.hid hlt
        have HNO := Lib.hid (fun (h : p ∉ p2) => (show decide (p1 = p2) = false from decide_eq_false (fun e => h (e ▸ hp))))
        have HYES := Lib.hid (fun (h : p ∈ p2) (p' : Nat × Int) (h1 : p' ∈ p1) (h2 : (left (.int .i64 (p'.1 : Int)) && !(Lit.int .i64 (p'.1 : Int)).sameKey (.int .i64 z)) = false) => (show p' ∈ p2 from by
          by_cases ez : (p'.1 : Int) = z
          · have : p' = p := HU1.out p' p h1 hp (by omega)
            rw [this]
            exact h
          · refine HG.out p' h1 ?_
            rw [same_i, decide_eq_false ez] at h2
            simpa using h2))
        have HP := Lib.hid (And.intro hpz hpc)
        clear hrg hrg2 hb0 hat hg2 hs2 hlt hwz hwc hk hpz hpc hb2 hrl hlz
        cases hlk : keyed p2 z with
        | false =>
          rw [hlk] at hh2
          have hn := Lib.hid (HNO.out (fun hm => by
            have : keyed p2 z = true := List.any_eq_true.2 ⟨p, hm, decide_eq_true HP.out.1⟩
            rw [hlk] at this
            cases this))
          clear HNO HYES hlk
          go_wp2_with (at_lookup; refine wpList_lookup_own_ok_int _ rfl _ _ 78 rfl 3 3 .i64 law Try.underlying78 Try.underlying3 (zeroE _) b2 n2 D2 rfl h22 _ _ rfl hkey ?_; intro c2 hat2 hwc2; rw [hh2]; clear hat2 hwc2)
          go_ret
          exact ⟨by rw [hn.out]; rfl, HB2.out⟩
        | true =>
          rw [hlk] at hh2
          obtain ⟨p', hp', hpz'⟩ := keyed_mem hlk
          have HC2 := Lib.hid (fun (c2 : Int) (h : D2.atKey (.int .i64 z) (.lit (.int .i64 0)) = .lit (.int .i64 c2)) => (show c2 = p'.2 from by
            have h3 := HA2.out p' hp' (.lit (.int .i64 0))
            rw [hpz', h] at h3
            injection h3 with h3
            injection h3 with _ h3))
          by_cases hcc : p'.2 = c
          · have he : p' = p := Prod.ext (by have := HP.out.1; omega) (by rw [hcc, HP.out.2])
            have hn := Lib.hid (HYES.out (he ▸ hp'))
            rw [hcc] at HC2
            have e0 : (c != c) = false := by simp
            clear HNO HYES hlk he hp' hpz' hcc
            go_wp2_with (at_lookup; refine wpList_lookup_own_ok_int _ rfl _ _ 78 rfl 3 3 .i64 law Try.underlying78 Try.underlying3 (zeroE _) b2 n2 D2 rfl h22 _ _ rfl hkey ?_; intro c2 hat2 hwc2; rw [hh2]; obtain rfl := HC2.out c2 hat2; clear hat2 hwc2)
            go_roundw
            case rel => exact ⟨_, cnt2, HR2.out, HB2.out, Lib.hid hn.out⟩
            case measure => rw [HLEFT.out.2, HLEFT.out.1]; exact HLT2.out
          · have hn := Lib.hid (HNO.out (fun hm => by
              have := HU2.out p p' hm hp' (by have := HP.out.1; omega)
              exact hcc (by rw [← this, HP.out.2])))
            obtain ⟨c', hc'⟩ : ∃ c', c' = p'.2 := ⟨_, rfl⟩
            rw [← hc'] at HC2 hcc
            have e0 : (c != c') = true := by simp; omega
            clear HNO HYES hlk hp' hpz' hcc hc'
            go_wp2_with (at_lookup; refine wpList_lookup_own_ok_int _ rfl _ _ 78 rfl 3 3 .i64 law Try.underlying78 Try.underlying3 (zeroE _) b2 n2 D2 rfl h22 _ _ rfl hkey ?_; intro c2 hat2 hwc2; rw [hh2]; obtain rfl := HC2.out c2 hat2; clear hat2 hwc2)
            go_ret
            exact ⟨by rw [hn.out]; rfl, HB2.out⟩
  · have HF := Lib.hid (show decide (p1 = p2) = false from decide_eq_false (fun e => hsz (by rw [e])))
    have hne : ((p1.length : Int) != (p2.length : Int)) = true := by
      simp
      omega
    clear k1 k2 h1 h2 r1 r2
    go_enter Try.func34, Try.ntmps34
    go_wp2
    go_ret
    exact ⟨by rw [HF.out]; rfl, Below.refl _ _⟩

/-! Same -/
theorem prs_inj {l l' : Ls} (h : Ths l) (h' : Ths l') (hl : l.length = l'.length) (e : prs l = prs l') : l = l' := by
  rw [← setAll_end h, ← setAll_end h', e, hl]
theorem lsame_nn {w : World} {v v' : Value} (h : NonL w v) (h' : NonL w v') : Calls Try.prog 14 #[v, v'] w fun e w' => e = .returned (.bool true) ∧ Below w.heap.size w w' := by
  have h2 := Lib.hid (lthere_non v' w h')
  have h3 := Lib.hid (lthere_non v w h)
  obtain ⟨pv, rfl⟩ := h.ptr
  obtain ⟨pv', rfl⟩ := h'.ptr
  clear h h'
  go_enter Try.func14, Try.ntmps14
  go_wp2_with fail
  refine h3.out.mono ?_
  rintro e w1 ⟨rfl, rfl⟩
  go_wp2_with fail
  refine h3.out.mono ?_
  rintro e w1 ⟨rfl, rfl⟩
  go_wp2_with fail
  refine h2.out.mono ?_
  rintro e w1 ⟨rfl, rfl⟩
  go_wp2_with fail
  go_ret
  exact ⟨rfl, Below.refl _ _⟩
end Go.Proofs.Ytodbaahnmmfgiaa.Lk

namespace Go.Proofs.Ytodbaahnmmfgiaa.Lk
open Go.RowKit Go.Shelf Go.Maps
attribute [local go_sem] Oper.semAt_some

/- SAME. -/
theorem lsame_nr {w : World} {v v' : Value} {l' : Ls} {F' : Nat → Prop} (h : NonL w v) (h' : HasL w v' l' F') : Calls Try.prog 14 #[v, v'] w fun e w' => e = .returned (.bool false) ∧ Below w.heap.size w w' := by
  obtain ⟨bl, b, g, c, cs, rfl, h', rfl⟩ := h'
  have h2 := Lib.hid (lthere_at bl _ w h'.cel)
  have h3 := Lib.hid (lthere_non v w h)
  obtain ⟨pv, rfl⟩ := h.ptr
  clear h h'
  go_enter Try.func14, Try.ntmps14
  go_wp2_with fail
  refine h3.out.mono ?_
  rintro e w1 ⟨rfl, rfl⟩
  go_wp2_with fail
  refine h3.out.mono ?_
  rintro e w1 ⟨rfl, rfl⟩
  go_wp2_with fail
  refine h2.out.mono ?_
  rintro e w1 ⟨rfl, rfl⟩
  go_wp2_with fail
  go_ret
  exact ⟨rfl, Below.refl _ _⟩
theorem lsame_rn {w : World} {v v' : Value} {l : Ls} {F : Nat → Prop} (h : HasL w v l F) (h' : NonL w v') : Calls Try.prog 14 #[v, v'] w fun e w' => e = .returned (.bool false) ∧ Below w.heap.size w w' := by
  obtain ⟨bl, b, g, c, cs, rfl, h, rfl⟩ := h
  have h3 := Lib.hid (lthere_at bl _ w h.cel)
  have h2 := Lib.hid (lthere_non v' w h')
  obtain ⟨pv, rfl⟩ := h'.ptr
  clear h h'
  go_enter Try.func14, Try.ntmps14
  go_wp2_with fail
  refine h3.out.mono ?_
  rintro e w1 ⟨rfl, rfl⟩
  go_wp2_with fail
  refine h2.out.mono ?_
  rintro e w1 ⟨rfl, rfl⟩
  go_wp2_with fail
  refine h3.out.mono ?_
  rintro e w1 ⟨rfl, rfl⟩
  go_wp2_with fail
  refine h2.out.mono ?_
  rintro e w1 ⟨rfl, rfl⟩
  go_wp2_with fail
  go_ret
  exact ⟨rfl, Below.refl _ _⟩
set_option maxHeartbeats 2000000 in
theorem lsame_len {w : World} {v v' : Value} {l l' : Ls} {F F' : Nat → Prop} (h : HasL w v l F) (h' : HasL w v' l' F') (hne : l.length ≠ l'.length) : Calls Try.prog 14 #[v, v'] w fun e w' => e = .returned (.bool false) ∧ Below w.heap.size w w' := by
  obtain ⟨bl, b, g, c, cs, rfl, h, rfl⟩ := h
  obtain ⟨bl', b', g', c', cs', rfl, h', rfl⟩ := h'
  have t1 := Lib.hid (lthere_at bl _ w h.cel)
  have t2 := Lib.hid (lthere_at bl' _ w h'.cel)
  have HSA := Lib.hid (fun W (hB : Below w.heap.size w W) => (show W.cell? ⟨bl, 0, none⟩ = some (bx b) ∧ W.cell? ⟨bl', 0, none⟩ = some (bx b') ∧ Below w.heap.size w W from ⟨(h.below hB).cel, (h'.below hB).cel, hB⟩))
  have d1 := h.cel
  have d2 := h'.cel
  have hdr := Lib.hid (show Below w.heap.size w w.drew from (Below.refl _ _).drew)
  have HL1 := Lib.hid (fun W (hB : Below w.heap.size w W) => (show Calls Try.prog 33 #[bx b] W (fun e w' => e = .returned (.int .i64 (l.length : Int)) ∧ W = w') from by have := Ce.len_at b g c cs W (h.below hB).rep; rw [h.len] at this; exact this))
  have HL2 := Lib.hid (fun W (hB : Below w.heap.size w W) => (show Calls Try.prog 33 #[bx b'] W (fun e w' => e = .returned (.int .i64 (l'.length : Int)) ∧ W = w') from by have := Ce.len_at b' g' c' cs' W (h'.below hB).rep; rw [h'.len] at this; exact this))
  obtain ⟨n, hn⟩ : ∃ n, n = l.length := ⟨_, rfl⟩
  obtain ⟨m, hm⟩ : ∃ m, m = l'.length := ⟨_, rfl⟩
  rw [← hn] at HL1 hne
  rw [← hm] at HL2 hne
  have e0 : ((n : Int) == (m : Int)) = false := beq_eq_false_iff_ne.2 (by omega)
  clear h h' hne hn hm
  go_enter Try.func14, Try.ntmps14
  go_wp2_with fail
  refine t1.out.mono ?_
  rintro e w1 ⟨rfl, rfl⟩
  go_wp2_with fail
  refine t2.out.mono ?_
  rintro e w1 ⟨rfl, rfl⟩
  clear t1 t2
  go_wp2_with fail
  refine wp_region_held_drew (S := fun W => W.cell? ⟨bl, 0, none⟩ = some (bx b) ∧ W.cell? ⟨bl', 0, none⟩ = some (bx b') ∧ Below w.heap.size w W) (by kernel_rfl) (HSA.out _ hdr.out) (fun hHeld => ?_)
  refine wpAnyH_take (i := 0) (v := ?_) rfl (by kernel_rfl) (by kernel_rfl) (by kernel_rfl) (fun _ _ _ h => h) (Or.inl ⟨by kernel_rfl, ?_⟩) hHeld ?_
  rotate_left
  focus (intro w hSw; (try dsimp only at hSw); go_simp; try with_reducible rfl)
  simp only [Act.put]
  refine wpAnyH_take (i := 1) (v := ?_) rfl (by kernel_rfl) (by kernel_rfl) (by kernel_rfl) (fun _ _ _ h => h) (Or.inl ⟨by kernel_rfl, ?_⟩) hHeld ?_
  rotate_left
  focus (intro w hSw; (try dsimp only at hSw); go_simp; try with_reducible rfl)
  simp only [Act.put]
  refine wpAnyH_take (i := 2) (v := ?_) rfl (by kernel_rfl) (by kernel_rfl) (by kernel_rfl) (fun _ _ _ h => h) (Or.inl ⟨by kernel_rfl, ?_⟩) hHeld ?_
  rotate_left
  focus (intro w hSw; (try dsimp only at hSw); go_simp; try with_reducible rfl)
  simp only [Act.put]
  refine wpAnyH_take (i := 3) (v := ?_) rfl (by kernel_rfl) (by kernel_rfl) (by kernel_rfl) (fun _ _ _ h => h) (Or.inl ⟨by kernel_rfl, ?_⟩) hHeld ?_
  rotate_left
  focus (intro w hSw; (try dsimp only at hSw); go_simp; try with_reducible rfl)
  simp only [Act.put]
  refine wpAnyH_take (i := 4) (v := ?_) rfl (by kernel_rfl) (by kernel_rfl) (by kernel_rfl) (fun _ _ _ h => h) (Or.inl ⟨by kernel_rfl, ?_⟩) hHeld ?_
  rotate_left
  focus (intro w hSw; (try dsimp only at hSw); go_simp; try with_reducible rfl)
  simp only [Act.put]
  refine wpAnyH_take (i := 6) (v := ?_) rfl (by kernel_rfl) (by kernel_rfl) (by kernel_rfl) (fun _ _ _ h => h) (Or.inl ⟨by kernel_rfl, ?_⟩) hHeld ?_
  rotate_left
  focus (intro w hSw; (try dsimp only at hSw); go_simp; try with_reducible rfl)
  simp only [Act.put]
  refine wpAnyH_take (i := 7) (v := ?_) rfl (by kernel_rfl) (by kernel_rfl) (by kernel_rfl) (fun _ _ _ h => h) (Or.inl ⟨by kernel_rfl, ?_⟩) hHeld ?_
  rotate_left
  focus (intro w hSw; (try dsimp only at hSw); go_simp; try with_reducible rfl)
  simp only [Act.put]
  refine wpAnyH_take (i := 8) (v := ?_) rfl (by kernel_rfl) (by kernel_rfl) (by kernel_rfl) (fun _ _ _ h => h) (Or.inl ⟨by kernel_rfl, ?_⟩) hHeld ?_
  rotate_left
  focus (intro w hSw; (try dsimp only at hSw); go_simp; try with_reducible rfl)
  simp only [Act.put]
  refine wpAnyH_take (i := 9) (v := ?_) rfl (by kernel_rfl) (by kernel_rfl) (by kernel_rfl) (fun _ _ _ h => h) (Or.inl ⟨by kernel_rfl, ?_⟩) hHeld ?_
  rotate_left
  focus (intro w hSw; (try dsimp only at hSw); go_simp; try with_reducible rfl)
  simp only [Act.put]
  refine wpAnyH_take (i := 10) (v := ?_) rfl (by kernel_rfl) (by kernel_rfl) (by kernel_rfl) (fun _ _ _ h => h) (Or.inl ⟨by kernel_rfl, ?_⟩) hHeld ?_
  rotate_left
  focus (intro w hSw; (try dsimp only at hSw); go_simp; try with_reducible rfl)
  simp only [Act.put]
  refine wpAnyH_ready (rs := [5]) (by kernel_rfl) (by simp) ?_
  refine AllReadyH.cons rfl (fun K hK => ?_) (AllReadyH.nil)
  go_simp
  refine (HL1.out _ hdr.out).mono ?_
  rintro e w1 ⟨rfl, rfl⟩
  refine hK.out _ _ (HSA.out _ hdr.out) (fun hHeld => ?_)
  clear hK K
  try simp only [Act.put]
  refine wpAnyH_ready (rs := [11]) (by kernel_rfl) (by simp) ?_
  refine AllReadyH.cons rfl (fun K hK => ?_) (AllReadyH.nil)
  go_simp
  refine (HL2.out _ hdr.out).mono ?_
  rintro e w1 ⟨rfl, rfl⟩
  refine hK.out _ _ (HSA.out _ hdr.out) (fun hHeld => ?_)
  clear hK K
  try simp only [Act.put]
  refine wpAnyH_take (i := 12) (v := ?_) rfl (by kernel_rfl) (by kernel_rfl) (by kernel_rfl) (fun _ _ _ h => h) (Or.inl ⟨by kernel_rfl, ?_⟩) hHeld ?_
  rotate_left
  focus (intro w hSw; (try dsimp only at hSw); go_simp; try with_reducible rfl)
  simp only [Act.put]
  refine wpAnyH_take (i := 13) (v := ?_) rfl (by kernel_rfl) (by kernel_rfl) (by kernel_rfl) (fun _ _ _ h => h) (Or.inl ⟨by kernel_rfl, ?_⟩) hHeld ?_
  rotate_left
  focus (intro w hSw; (try dsimp only at hSw); go_simp; try with_reducible rfl)
  simp only [Act.put]
  refine wpAnyH_take (i := 14) (v := undef) rfl (by kernel_rfl) (by kernel_rfl) (by kernel_rfl) (fun _ _ _ h => h) (Or.inr ⟨by kernel_rfl, rfl⟩) hHeld ?_
  simp only [Act.put]
  refine wpAnyH_take (i := 15) (v := undef) rfl (by kernel_rfl) (by kernel_rfl) (by kernel_rfl) (fun _ _ _ h => h) (Or.inr ⟨by kernel_rfl, rfl⟩) hHeld ?_
  simp only [Act.put]
  refine wpAnyH_take (i := 16) (v := undef) rfl (by kernel_rfl) (by kernel_rfl) (by kernel_rfl) (fun _ _ _ h => h) (Or.inr ⟨by kernel_rfl, rfl⟩) hHeld ?_
  simp only [Act.put]
  refine wpAnyH_take (i := 17) (v := undef) rfl (by kernel_rfl) (by kernel_rfl) (by kernel_rfl) (fun _ _ _ h => h) (Or.inr ⟨by kernel_rfl, rfl⟩) hHeld ?_
  simp only [Act.put]
  refine wpAnyH_take (i := 18) (v := undef) rfl (by kernel_rfl) (by kernel_rfl) (by kernel_rfl) (fun _ _ _ h => h) (Or.inr ⟨by kernel_rfl, rfl⟩) hHeld ?_
  simp only [Act.put]
  refine wpAnyH_take (i := 19) (v := undef) rfl (by kernel_rfl) (by kernel_rfl) (by kernel_rfl) (fun _ _ _ h => h) (Or.inr ⟨by kernel_rfl, rfl⟩) hHeld ?_
  simp only [Act.put]
  refine wpAnyH_take (i := 20) (v := undef) rfl (by kernel_rfl) (by kernel_rfl) (by kernel_rfl) (fun _ _ _ h => h) (Or.inr ⟨by kernel_rfl, rfl⟩) hHeld ?_
  simp only [Act.put]
  refine wpAnyH_ready (rs := [21]) (by kernel_rfl) (by simp) ?_
  refine AllReadyH.cons rfl (fun K hK => ?_) (AllReadyH.nil)
  go_simp
  refine hK.out _ _ (HSA.out _ hdr.out) (fun hHeld => ?_)
  clear hK K
  try simp only [Act.put]
  refine wpAnyH_ready (rs := [22]) (by kernel_rfl) (by simp) ?_
  refine AllReadyH.cons rfl (fun K hK => ?_) (AllReadyH.nil)
  go_simp
  refine hK.out _ _ (HSA.out _ hdr.out) (fun hHeld => ?_)
  clear hK K
  try simp only [Act.put]
  refine wpAnyH_done (by kernel_rfl) ?_ _
  go_wp2
  go_ret
  exact ⟨by simp, hdr.out⟩
set_option maxHeartbeats 2000000 in
theorem lsame_eq {w : World} {v v' : Value} {l l' : Ls} {F F' : Nat → Prop} (h : HasL w v l F) (h' : HasL w v' l' F') (hne : l.length = l'.length) : Calls Try.prog 14 #[v, v'] w fun e w' => e = .returned (.bool (decide (l = l'))) ∧ Below w.heap.size w w' := by
  have HA1 := Lib.hid (fun W (hB : Below w.heap.size w W) => lall_any (h.any.below hB))
  have HA2 := Lib.hid (fun W (hB : Below w.heap.size w W) => lall_any (h'.any.below hB))
  obtain ⟨bl, b, g, c, cs, rfl, h, rfl⟩ := h
  obtain ⟨bl', b', g', c', cs', rfl, h', rfl⟩ := h'
  have t1 := Lib.hid (lthere_at bl _ w h.cel)
  have t2 := Lib.hid (lthere_at bl' _ w h'.cel)
  have HSA := Lib.hid (fun W (hB : Below w.heap.size w W) => (show W.cell? ⟨bl, 0, none⟩ = some (bx b) ∧ W.cell? ⟨bl', 0, none⟩ = some (bx b') ∧ Below w.heap.size w W from ⟨(h.below hB).cel, (h'.below hB).cel, hB⟩))
  have d1 := h.cel
  have d2 := h'.cel
  have hdr := Lib.hid (show Below w.heap.size w w.drew from (Below.refl _ _).drew)
  have HL1 := Lib.hid (fun W (hB : Below w.heap.size w W) => (show Calls Try.prog 33 #[bx b] W (fun e w' => e = .returned (.int .i64 (l.length : Int)) ∧ W = w') from by have := Ce.len_at b g c cs W (h.below hB).rep; rw [h.len] at this; exact this))
  have HL2 := Lib.hid (fun W (hB : Below w.heap.size w W) => (show Calls Try.prog 33 #[bx b'] W (fun e w' => e = .returned (.int .i64 (l'.length : Int)) ∧ W = w') from by have := Ce.len_at b' g' c' cs' W (h'.below hB).rep; rw [h'.len] at this; exact this))
  have HC1 := Lib.hid (fun W lb Pv hit hpv => collect_any h.most h.th (lb := lb) (Pv := Pv) (w := W) hit hpv)
  have HC2 := Lib.hid (fun W lb Pv hit hpv => collect_any h'.most h'.th (lb := lb) (Pv := Pv) (w := W) hit hpv)
  have HEQ := Lib.hid (fun W D1 D2 b1 b2 n1 n2 k1 k2 m1 m2 => equal_any (w := W) (D1 := D1) (D2 := D2) (b1 := b1) (b2 := b2) (n1 := n1) (n2 := n2) (p1 := prs l) (p2 := prs l') k1 k2 (prs_rising l) (prs_rising l') m1 m2)
  have hq : decide (prs l = prs l') = decide (l = l') := by
    by_cases e : l = l'
    · rw [e, decide_eq_true rfl, decide_eq_true rfl]
    · rw [decide_eq_false e, decide_eq_false (fun e2 => e (prs_inj h.th h'.th hne e2))]
  rw [hq] at HEQ
  obtain ⟨q, hqq⟩ : ∃ q, q = decide (l = l') := ⟨_, rfl⟩
  rw [← hqq] at HEQ ⊢
  obtain ⟨n, hn⟩ : ∃ n, n = l.length := ⟨_, rfl⟩
  rw [← hn] at HL1
  rw [← hne, ← hn] at HL2
  have e0 : ((n : Int) == (n : Int)) = true := beq_iff_eq.2 rfl
  clear h h' hne hn hq hqq
  go_enter Try.func14, Try.ntmps14
  go_wp2_with fail
  refine t1.out.mono ?_
  rintro e w1 ⟨rfl, rfl⟩
  go_wp2_with fail
  refine t2.out.mono ?_
  rintro e w1 ⟨rfl, rfl⟩
  clear t1 t2
  go_wp2_with fail
  refine wp_region_held_drew (S := fun W => W.cell? ⟨bl, 0, none⟩ = some (bx b) ∧ W.cell? ⟨bl', 0, none⟩ = some (bx b') ∧ Below w.heap.size w W) (by kernel_rfl) (HSA.out _ hdr.out) (fun hHeld => ?_)
  refine wpAnyH_take (i := 0) (v := ?_) rfl (by kernel_rfl) (by kernel_rfl) (by kernel_rfl) (fun _ _ _ h => h) (Or.inl ⟨by kernel_rfl, ?_⟩) hHeld ?_
  rotate_left
  focus (intro w hSw; (try dsimp only at hSw); go_simp; try with_reducible rfl)
  simp only [Act.put]
  refine wpAnyH_take (i := 1) (v := ?_) rfl (by kernel_rfl) (by kernel_rfl) (by kernel_rfl) (fun _ _ _ h => h) (Or.inl ⟨by kernel_rfl, ?_⟩) hHeld ?_
  rotate_left
  focus (intro w hSw; (try dsimp only at hSw); go_simp; try with_reducible rfl)
  simp only [Act.put]
  refine wpAnyH_take (i := 2) (v := ?_) rfl (by kernel_rfl) (by kernel_rfl) (by kernel_rfl) (fun _ _ _ h => h) (Or.inl ⟨by kernel_rfl, ?_⟩) hHeld ?_
  rotate_left
  focus (intro w hSw; (try dsimp only at hSw); go_simp; try with_reducible rfl)
  simp only [Act.put]
  refine wpAnyH_take (i := 3) (v := ?_) rfl (by kernel_rfl) (by kernel_rfl) (by kernel_rfl) (fun _ _ _ h => h) (Or.inl ⟨by kernel_rfl, ?_⟩) hHeld ?_
  rotate_left
  focus (intro w hSw; (try dsimp only at hSw); go_simp; try with_reducible rfl)
  simp only [Act.put]
  refine wpAnyH_take (i := 4) (v := ?_) rfl (by kernel_rfl) (by kernel_rfl) (by kernel_rfl) (fun _ _ _ h => h) (Or.inl ⟨by kernel_rfl, ?_⟩) hHeld ?_
  rotate_left
  focus (intro w hSw; (try dsimp only at hSw); go_simp; try with_reducible rfl)
  simp only [Act.put]
  refine wpAnyH_take (i := 6) (v := ?_) rfl (by kernel_rfl) (by kernel_rfl) (by kernel_rfl) (fun _ _ _ h => h) (Or.inl ⟨by kernel_rfl, ?_⟩) hHeld ?_
  rotate_left
  focus (intro w hSw; (try dsimp only at hSw); go_simp; try with_reducible rfl)
  simp only [Act.put]
  refine wpAnyH_take (i := 7) (v := ?_) rfl (by kernel_rfl) (by kernel_rfl) (by kernel_rfl) (fun _ _ _ h => h) (Or.inl ⟨by kernel_rfl, ?_⟩) hHeld ?_
  rotate_left
  focus (intro w hSw; (try dsimp only at hSw); go_simp; try with_reducible rfl)
  simp only [Act.put]
  refine wpAnyH_take (i := 8) (v := ?_) rfl (by kernel_rfl) (by kernel_rfl) (by kernel_rfl) (fun _ _ _ h => h) (Or.inl ⟨by kernel_rfl, ?_⟩) hHeld ?_
  rotate_left
  focus (intro w hSw; (try dsimp only at hSw); go_simp; try with_reducible rfl)
  simp only [Act.put]
  refine wpAnyH_take (i := 9) (v := ?_) rfl (by kernel_rfl) (by kernel_rfl) (by kernel_rfl) (fun _ _ _ h => h) (Or.inl ⟨by kernel_rfl, ?_⟩) hHeld ?_
  rotate_left
  focus (intro w hSw; (try dsimp only at hSw); go_simp; try with_reducible rfl)
  simp only [Act.put]
  refine wpAnyH_take (i := 10) (v := ?_) rfl (by kernel_rfl) (by kernel_rfl) (by kernel_rfl) (fun _ _ _ h => h) (Or.inl ⟨by kernel_rfl, ?_⟩) hHeld ?_
  rotate_left
  focus (intro w hSw; (try dsimp only at hSw); go_simp; try with_reducible rfl)
  simp only [Act.put]
  refine wpAnyH_ready (rs := [5]) (by kernel_rfl) (by simp) ?_
  refine AllReadyH.cons rfl (fun K hK => ?_) (AllReadyH.nil)
  go_simp
  refine (HL1.out _ hdr.out).mono ?_
  rintro e w1 ⟨rfl, rfl⟩
  refine hK.out _ _ (HSA.out _ hdr.out) (fun hHeld => ?_)
  clear hK K
  try simp only [Act.put]
  refine wpAnyH_ready (rs := [11]) (by kernel_rfl) (by simp) ?_
  refine AllReadyH.cons rfl (fun K hK => ?_) (AllReadyH.nil)
  go_simp
  refine (HL2.out _ hdr.out).mono ?_
  rintro e w1 ⟨rfl, rfl⟩
  refine hK.out _ _ (HSA.out _ hdr.out) (fun hHeld => ?_)
  clear hK K
  try simp only [Act.put]
  refine wpAnyH_take (i := 12) (v := ?_) rfl (by kernel_rfl) (by kernel_rfl) (by kernel_rfl) (fun _ _ _ h => h) (Or.inl ⟨by kernel_rfl, ?_⟩) hHeld ?_
  rotate_left
  focus (intro w hSw; (try dsimp only at hSw); go_simp; try with_reducible rfl)
  simp only [Act.put]
  refine wpAnyH_take (i := 13) (v := ?_) rfl (by kernel_rfl) (by kernel_rfl) (by kernel_rfl) (fun _ _ _ h => h) (Or.inl ⟨by kernel_rfl, ?_⟩) hHeld ?_
  rotate_left
  focus (intro w hSw; (try dsimp only at hSw); go_simp; try with_reducible rfl)
  simp only [Act.put]
  refine wpAnyH_take (i := 14) (v := ?_) rfl (by kernel_rfl) (by kernel_rfl) (by kernel_rfl) (fun _ _ _ h => h) (Or.inl ⟨by kernel_rfl, ?_⟩) hHeld ?_
  rotate_left
  focus (intro w hSw; (try dsimp only at hSw); go_simp; try with_reducible rfl)
  simp only [Act.put]
  refine wpAnyH_take (i := 17) (v := ?_) rfl (by kernel_rfl) (by kernel_rfl) (by kernel_rfl) (fun _ _ _ h => h) (Or.inl ⟨by kernel_rfl, ?_⟩) hHeld ?_
  rotate_left
  focus (intro w hSw; (try dsimp only at hSw); go_simp; try with_reducible rfl)
  simp only [Act.put]
  refine wpAnyH_ready (rs := [15]) (by kernel_rfl) (by simp) ?_
  refine AllReadyH.cons rfl (fun K hK => ?_) (AllReadyH.nil)
  go_simp
  refine (HA1.out _ hdr.out).mono ?_
  rintro e w1 ⟨lb1, Pv1, rfl, it1, pv1, hb1⟩
  have hB1 := below0 hdr.out hb1
  refine hK.out _ _ (HSA.out _ hB1) (fun hHeld => ?_)
  clear hK K
  try simp only [Act.put]
  refine wpAnyH_ready (rs := [16]) (by kernel_rfl) (by simp) ?_
  refine AllReadyH.cons rfl (fun K hK => ?_) (AllReadyH.nil)
  go_simp
  refine (HC1.out _ lb1 Pv1 it1 (fun k hk => (pv1 k hk).2)).mono ?_
  rintro e w2 ⟨bm1, D1, n1, rfl, _, mm1, im1, hb2⟩
  have hB2 := below0 hB1 hb2
  refine hK.out _ _ (HSA.out _ hB2) (fun hHeld => ?_)
  clear hK K
  try simp only [Act.put]
  refine wpAnyH_ready (rs := [18]) (by kernel_rfl) (by simp) ?_
  refine AllReadyH.cons rfl (fun K hK => ?_) (AllReadyH.nil)
  go_simp
  refine (HA2.out _ hB2).mono ?_
  rintro e w3 ⟨lb2, Pv2, rfl, it2, pv2, hb3⟩
  have hB3 := below0 hB2 hb3
  have mm1b := owns_same mm1 (hb3.block _ mm1.lt)
  refine hK.out _ _ (HSA.out _ hB3) (fun hHeld => ?_)
  clear hK K
  try simp only [Act.put]
  refine wpAnyH_ready (rs := [19]) (by kernel_rfl) (by simp) ?_
  refine AllReadyH.cons rfl (fun K hK => ?_) (AllReadyH.nil)
  go_simp
  refine (HC2.out _ lb2 Pv2 it2 (fun k hk => (pv2 k hk).2)).mono ?_
  rintro e w4 ⟨bm2, D2, n2, rfl, _, mm2, im2, hb4⟩
  have hB4 := below0 hB3 hb4
  have mm1c := owns_same mm1b (hb4.block _ mm1b.lt)
  refine hK.out _ _ (HSA.out _ hB4) (fun hHeld => ?_)
  clear hK K
  try simp only [Act.put]
  refine wpAnyH_ready (rs := [20]) (by kernel_rfl) (by simp) ?_
  refine AllReadyH.cons rfl (fun K hK => ?_) (AllReadyH.nil)
  go_simp
  refine (HEQ.out w4 D1 D2 bm1 bm2 n1 n2 im1 im2 mm1c mm2).mono ?_
  rintro e w5 ⟨rfl, hb5⟩
  have hB5 := below0 hB4 hb5
  refine hK.out _ _ (HSA.out _ hB5) (fun hHeld => ?_)
  clear hK K
  try simp only [Act.put]
  refine wpAnyH_ready (rs := [21]) (by kernel_rfl) (by simp) ?_
  refine AllReadyH.cons rfl (fun K hK => ?_) (AllReadyH.nil)
  go_simp
  refine hK.out _ _ (HSA.out _ hB5) (fun hHeld => ?_)
  clear hK K
  try simp only [Act.put]
  refine wpAnyH_ready (rs := [22]) (by kernel_rfl) (by simp) ?_
  refine AllReadyH.cons rfl (fun K hK => ?_) (AllReadyH.nil)
  go_simp
  refine hK.out _ _ (HSA.out _ hB5) (fun hHeld => ?_)
  clear hK K
  try simp only [Act.put]
  refine wpAnyH_done (by kernel_rfl) ?_ _
  go_wp2
  go_ret
  exact ⟨by simp, hB5⟩
theorem lsame_any {w : World} {v v' : Value} {l l' : Ls} {F F' : Nat → Prop} (h : HasL w v l F) (h' : HasL w v' l' F') : Calls Try.prog 14 #[v, v'] w fun e w' => e = .returned (.bool (decide (l = l'))) ∧ Below w.heap.size w w' := by
  by_cases hne : l.length = l'.length
  · exact lsame_eq h h' hne
  · rw [show decide (l = l') = false from decide_eq_false (fun e => hne (by rw [e]))]
    exact lsame_len h h' hne
end Go.Proofs.Ytodbaahnmmfgiaa.Lk
