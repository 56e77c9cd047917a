import Derived.Test.YtbiopegophdgiaaDoorRefT
namespace Go.Proofs.YtbiopegophdgiaaDoor
open Go.RowKit Go.Shelf
attribute [local go_sem] Oper.semAt_some

/- THE LAW'S LIST OF THOSE THAT ARE MARKED. -/

section
variable {w : World} {B2 many : Nat}
/-- what holds between two of the places: the list lies in block bl, how many in block bm -/
def SLI (w : World) (bm bl B2 : Nat) (many : Nat) (pre : List Nat) (O : Nat → Prop) (V : World) : Prop :=
  ∃ v, Boxed V bl 42 v ∧ Boxed V bm 3 (.int .i64 (many : Int)) ∧ V.ownsRow B2 3 1 v pre.length (ins pre) ∧ (∀ k, v.ownBlock = some k → O k) ∧ Below w.heap.size w V
theorem SLI.abid {bm bl : Nat} (h : bm < B2 ∧ bl < B2 ∧ w.heap.size ≤ B2) : Abid B2 (SLI w bm bl B2 many) := by
  rintro pre O V V' row ⟨v, h1, h2, h3, h4, h6⟩ hg hr
  have hne : ∀ k, (k < B2 ∨ O k) → some k ≠ row := fun k hk e => by
    have := hr k e.symm
    rcases hk with hk | hk
    · omega
    · exact this.2 hk
  exact ⟨v, h1.kept hg (hne _ (.inl (by omega))), h2.kept hg (hne _ (.inl (by omega))), own_same h3 (fun k hk => hg.block k (own_lt h3 hk) (hne k (.inr (h4 k hk)))), h4,
    h6.grown hg h6.size (fun k e => by have := hr k e; omega)⟩
def sinv (w : World) (bm bl B2 : Nat) (many : Nat) (pre : List Nat) (O : Nat → Prop) (V : World) : Prop := SLI w bm bl B2 many pre O V ∧ pre.length < many ∧ ∀ k, O k → B2 + 2 ≤ k
def sstop (w : World) (bm bl B2 : Nat) (many : Nat) (c : Code) (pre : List Nat) (O : Nat → Prop) (V : World) : Prop := c = .exit 0 ∧ SLI w bm bl B2 many pre O V ∧ pre.length = many ∧ ∀ k, O k → B2 + 2 ≤ k
theorem sinv.abid {bm bl : Nat} (h : bm < B2 ∧ bl < B2 ∧ w.heap.size ≤ B2) : Abid B2 (sinv w bm bl B2 many) :=
  fun s O V V' row hp hg hr => ⟨SLI.abid h s O V V' row hp.1 hg hr, hp.2⟩
theorem sstop.abid {bm bl : Nat} (h : bm < B2 ∧ bl < B2 ∧ w.heap.size ≤ B2) (c : Code) : Abid B2 (sstop w bm bl B2 many c) :=
  fun s O V V' row hp hg hr => ⟨hp.1, SLI.abid h s O V V' row hp.2.1 hg hr, hp.2.2⟩
end
theorem got_done {l : List Bool} {xs : List Nat} {many : Nat} (h : allA l xs) (hm : xs.length < many) : xs = (idxs 0 l).take many := by
  rw [← show xs = idxs 0 l from h, List.take_of_length_le (by omega)]
theorem got_stop {l : List Bool} {xs : List Nat} {many : Nat} (h : someP l xs) (hm : xs.length = many) : xs = (idxs 0 l).take many := by
  obtain ⟨post, h⟩ := h
  rw [h, ← hm, List.take_left]

/-- what a round does -/
theorem slround {w V w4 : World} {bm bl B2 many g4 cap4 cv x : Nat} {Pv : Nat → Prop} {pre : List Nat} {O : Nat → Prop} {Av : Option Addr} {o : Obj} (hbx : bm < B2 ∧ bl < B2 ∧ w.heap.size ≤ B2) (hbl0 : w.heap.size ≤ bl) (hmb : bm ≠ bl) (hPv : ∀ k, Pv k → k < B2 ∧ k ≠ bl)
    (hOw : ∀ k, O k → B2 + 2 ≤ k) (hvO : ∀ k, (Value.slice Av pre.length cv).ownBlock = some k → O k) (hVs : B2 + 2 ≤ V.heap.size)
    (hown4 : w4.ownsRow B2 3 1 (.slice (some ⟨g4, 0, none⟩) (pre.length + 1) cap4) (pre.length + 1) (ins pre ++ [.int .i64 (x : Int)]))
    (hg4 : (V.alloc o).grownBy w4 (Value.slice Av pre.length cv).ownBlock) (hv4 : (Value.slice (some ⟨g4, 0, none⟩) (pre.length + 1) cap4).ownBlock = (Value.slice Av pre.length cv).ownBlock ∨ (Value.slice (some ⟨g4, 0, none⟩) (pre.length + 1) cap4).ownBlock = some (V.alloc o).heap.size)
    (hbx4 : Boxed w4 bl 42 (.slice Av pre.length cv)) (hbm4 : Boxed w4 bm 3 (.int .i64 (many : Int))) (hbl : Below w.heap.size w V) (hsz : (V.alloc o).heap.size = V.heap.size + 1) :
    Keeps Pv B2 O (fun _ => False) V (w4.setCell ⟨bl, 0, none⟩ (.slice (some ⟨g4, 0, none⟩) (pre.length + 1) cap4)) ∧
      SLI w bm bl B2 many (pre ++ [x]) (nextO O (fun _ => False) V (w4.setCell ⟨bl, 0, none⟩ (.slice (some ⟨g4, 0, none⟩) (pre.length + 1) cap4))) (w4.setCell ⟨bl, 0, none⟩ (.slice (some ⟨g4, 0, none⟩) (pre.length + 1) cap4)) ∧
      ∀ k, nextO O (fun _ => False) V (w4.setCell ⟨bl, 0, none⟩ (.slice (some ⟨g4, 0, none⟩) (pre.length + 1) cap4)) k → B2 + 2 ≤ k := by
  have hgs := hg4.size
  rw [hsz] at hgs
  obtain ⟨w5, hw5⟩ : ∃ w5, w5 = w4.setCell ⟨bl, 0, none⟩ (.slice (some ⟨g4, 0, none⟩) (pre.length + 1) cap4) := ⟨_, rfl⟩
  have hs5 : w5.heap.size = w4.heap.size := by rw [hw5]; simp [World.setCell]
  have hk5 : ∀ k, k ≠ bl → w5.heap[k]? = w4.heap[k]? := fun k hk => by rw [hw5]; exact Below.heap_setCell _ _ _ _ hk
  have hB5 : Boxed w5 bl 42 (.slice (some ⟨g4, 0, none⟩) (pre.length + 1) cap4) := by rw [hw5]; exact hbx4.set _
  have hM5 : Boxed w5 bm 3 (.int .i64 (many : Int)) := (hk5 _ hmb).trans hbm4
  have hwV := hbl.size
  have hb5 : Below w.heap.size w w5 := by
    rw [hw5]
    exact ((hbl.alloc hwV o).grown hg4 (by omega) (fun k hk => by have := hOw _ (hvO k hk); omega)).setCell hbl0 _
  rw [← hw5]
  refine ⟨⟨by omega, fun k hkl hp => ?_⟩, ⟨_, hB5, hM5, ?_, ?_, hb5⟩, nextO_ge hOw (fun _ h => h.elim) hVs⟩
  · have hno : ¬ O k := by
      rcases hp with h | ⟨_, h, _⟩
      · exact fun ho => by have := hOw k ho; have := (hPv k h).1; omega
      · exact h
    have hne : k ≠ bl := by
      rcases hp with h | ⟨h, _⟩
      · exact (hPv k h).2
      · omega
    exact (hk5 k hne).trans ((hg4.block k (by omega) (fun e => hno (hvO k e.symm))).trans (Below.heap_alloc _ _ _ hkl))
  · rw [List.length_append, List.length_singleton, show ins (pre ++ [x]) = ins pre ++ [.int .i64 (x : Int)] by simp [ins]]
    exact own_same hown4 (fun k e => hk5 k (by have := (hown4.lt k e).1; omega))
  · intro k hk
    have hlt := (hown4.lt k hk).2
    rcases hv4 with h | h
    · exact .inl (hvO k (h ▸ hk))
    · rw [hk] at h
      injection h with h
      exact .inr (.inr ⟨by omega, by omega⟩)

set_option maxHeartbeats 2000000 in
theorem all_any (m : Value) (l : List Bool) (many : Nat) (w : World) (hM : Mk w m l) (ht : Tab w) (hm1 : 1 ≤ many) (hm : many ≤ 5000) :
    Calls Tryd.prog 18 #[m, .int .i64 (many : Int)] w (OneI w ((idxs 0 l).take many)) := by
  have hnn : ∀ bo w, (binOp .eql 59 (.func (.func 47) #[] #[.pointer (some ⟨bo, 0, none⟩)]) .nilFunc).run Tryd.prog w = .ok (.bool false) w := fun bo w => by kernel_rfl
  obtain ⟨i0, hi, hz0, hz1, hz2⟩ := info_parts int_info
  have hmost := hM.most
  refine calls_marks Tryd.func18 rfl ?_
  simp only [Tryd.ntmps18, List.size_toArray, List.length_cons, List.length_nil, Nat.reduceAdd, Nat.reduceSub, Array.replicate_succ, Array.replicate_zero, List.push_toArray, List.append_toArray, List.nil_append, List.cons_append]
  go_wp2_with fail
  refine (allF_any m l _ (hM.below (below2 _ _ _))).mono ?_
  rintro e w2 ⟨A1, c1, bw1, rfl, _, _, _, _, hb1⟩
  have hnn1 := hnn bw1 w2
  have hs2 : w.heap.size + 2 ≤ w2.heap.size := by have := hb1.size; simpa using this
  have hM2 : Boxed w2 w.heap.size 3 (.int .i64 (many : Int)) := (hb1.block _ (by simp only [World.size_alloc]; omega)).trans ((Boxed.new w _ _).alloc _)
  have hL2 : Boxed w2 (w.heap.size + 1) 42 (.slice none 0 0) := (hb1.block _ (by simp only [World.size_alloc]; omega)).trans (by have := Boxed.new (w.alloc (.cells #[.int .i64 (many : Int)] 3)) 42 (.slice none 0 0); rwa [World.size_alloc] at this)
  have hB2 : Below w.heap.size w w2 := (below2 _ _ _).trans (hb1.mono (by simp only [World.size_alloc]; omega))
  clear hb1 hnn
  go_wp2_with fail
  refine (allF_any m l w2 (hM.below hB2)).mono ?_
  rintro e w3 ⟨A, c, bw, rfl, hbw, hA, hcw, hsrc, hb2⟩
  have hs3 : w.heap.size + 2 ≤ w3.heap.size := by have := hb2.size; omega
  have hM3 : Boxed w3 w.heap.size 3 (.int .i64 (many : Int)) := (hb2.block _ (by omega)).trans hM2
  have hL3 : Boxed w3 (w.heap.size + 1) 42 (.slice none 0 0) := (hb2.block _ (by omega)).trans hL2
  have hB3 : Below w.heap.size w w3 := hB2.trans (hb2.mono (by omega))
  have ht3 : Tab w3 := ht.below hB3
  have hit := all1_it l A c bw w3 hmost hcw hsrc ht3
  have htl := ht.lt
  have hPv : ∀ k, privA bw A k → k < w3.heap.size ∧ k ≠ w.heap.size + 1 := by
    rintro k (rfl | h | h)
    · exact ⟨lt_of_cell hcw, by omega⟩
    · exact ⟨hsrc.lt h, by have := hA k h; omega⟩
    · exact ⟨by omega, by omega⟩
  clear hM2 hL2 hB2 hb2 hA hcw hsrc
  go_wp2_with fail
  refine wpIn_wide.1 (wpIn_range_it (gf := 47) (lb := #[.pointer (some ⟨bw, 0, none⟩)]) rfl (enters_of Tryd.func47 (by kernel_rfl) rfl) hit (fun k hk => (hPv k hk).1) (fun _ => rfl) (fun _ _ _ _ _ h => h)
    (sinv w w.heap.size (w.heap.size + 1) w3.heap.size many) (sstop w w.heap.size (w.heap.size + 1) w3.heap.size many) (sinv.abid (by omega)) (sstop.abid (by omega)) ?h0
    (fun x => { tmps := #[m, .int .i64 (many : Int), undef, .pointer (some ⟨w.heap.size, 0, none⟩), .slice none 0 0, .pointer (some ⟨w.heap.size + 1, 0, none⟩), .int .i64 (x : Int), m, .func (.func 47) #[] #[.pointer (some ⟨bw1, 0, none⟩)], .bool false, m, .func (.func 47) #[] #[.pointer (some ⟨bw, 0, none⟩)], .int .i64 (x : Int), undef, undef, undef, undef, undef, undef, undef, undef, undef], defers := [] }) ?assign ?body ?done ?stop)
  case h0 => exact ⟨⟨_, hL3, hM3, World.ownsRow_nil _ _ _ _, fun k h => (by cases h), hB3⟩, by simp; omega, fun _ h => h.elim⟩
  case assign =>
    intro l' x W' K hK
    simp only [encAt]
    gi_wp2
    exact hK
  case body =>
    rintro l' pre x O V hVs hO ⟨⟨v, hbx, hbm, hown, hvO, hbl⟩, hlen, hOw⟩ hx _
    have hn : pre.length ≤ 5000 := by omega
    clear hx hnn1 hit hM3 hL3
    obtain ⟨Av, cv, rfl⟩ := own_slice hown
    have hown1 := hown.alloc (.cells #[.int .i64 (x : Int)] 3)
    have hbx1 := hbx.alloc (.cells #[.int .i64 (x : Int)] 3)
    have hbm1 := hbm.alloc (.cells #[.int .i64 (x : Int)] 3)
    have hce := hbx.cell
    have hce1 := hbx1.cell
    have hb1 := hbx.not_row (by decide) hown
    have hb2 : some w.heap.size ≠ (Value.slice Av pre.length cv).ownBlock := fun e => by have := hOw _ (hvO _ e.symm); omega
    clear hbx hbm
    gi_wp2_with (gi_at_builtin; refine wpListIn_append_sees rfl (.tmp 13) (.tmp 15) 42 rfl w3.heap.size 3 i0 _ 1 8 Tryd.underlying42 hi hz0 hz1 hz2 rfl (by decide) _ pre.length (ins pre) rfl hown1 (V.heap.size + 1) (some ⟨V.heap.size, 0, none⟩) 1 1 [.int .i64 (x : Int)] rfl rfl (fun _ => ⟨_, rfl, by simp, cell_one_new _ _ _⟩) (by simp [Value.oneCell']) (by unfold maxLen; omega) (by omega) (by simp; omega) ?_; intro v' w4 hown4 hg4 hv4; obtain ⟨g4, cap4, rfl⟩ := ownsRow_succ hown4; have hbx4 := hbx1.kept hg4 hb1; have hbm4 := hbm1.kept hg4 hb2; have hx4c := hbx4.cell; have hx4f := hbx4.frozen; have hm4c := hbm4.cell)
    all_goals
      have hg5 : (V.alloc (.cells #[.int .i64 (x : Int)] 3)).grownBy w4 (Value.slice Av pre.length cv).ownBlock := hg4
      have hfin := Lib.hid (slround (x := x) (by omega) (by omega) (by omega) hPv hOw hvO hVs hown4 hg5 hv4 hbx4 hbm4 hbl (by simp))
    · obtain ⟨k1, k2, k3⟩ := hfin.out
      exact ⟨k1, rfl, k2, by simp; omega, k3⟩
    · obtain ⟨k1, k2, k3⟩ := hfin.out
      exact ⟨k1, k2, by simp; omega, k3⟩
  case done =>
    intro xs O V hall hI hD
    have hnO : ¬ O w3.heap.size := fun h => by have := hI.2.2 _ h; omega
    obtain ⟨v, hbx, hbm, hown, hvO, hbl⟩ := hI.1
    obtain ⟨v1, hbx', _, hown', _, hbl'⟩ := SLI.abid (by omega) _ _ _ _ (some w3.heap.size) hI.1 (putObj_grown V w3.heap.size (.deferred none)) (fun r e => by cases e; exact ⟨Nat.le_refl _, hnO⟩)
    have hvv : v = v1 := by
      have h := hbx.kept (putObj_grown V w3.heap.size (.deferred none)) (by simp; omega)
      have h1 := h.cell.symm.trans hbx'.cell
      injection h1
    subst hvv
    obtain ⟨Av, cv, rfl⟩ := own_slice hown
    have hcv := hbx.cell
    have hfin := Lib.hid (show OneI w ((idxs 0 l).take many) (.returned (.slice Av xs.length cv)) (V.putObj w3.heap.size (.deferred none)) from by
      rw [← got_done hall hI.2.1]
      exact ⟨_, rfl, ⟨Av, cv, rfl, Sees.of_own hown'⟩, hbl'⟩)
    clear hall hI hbx hbm hown hvO hbl hbx' hown' hbl'
    go_wp2
    refine ⟨by simp, .inl ⟨_, _, rfl, run_takeDeferred hD, ?_⟩⟩
    exact ⟨_, results_tmp (t := 4) rfl _ _ _, hfin.out⟩
  case stop =>
    rintro c' xs O V hall ⟨rfl, hI, hlen, hOw⟩ hD
    have hnO : ¬ O w3.heap.size := fun h => by have := hOw _ h; omega
    have hI2 := hI
    obtain ⟨v, hbx, hbm, hown, hvO, hbl⟩ := hI
    obtain ⟨v1, hbx', _, hown', _, hbl'⟩ := SLI.abid (by omega) _ _ _ _ (some w3.heap.size) hI2 (putObj_grown V w3.heap.size (.deferred none)) (fun r e => by cases e; exact ⟨Nat.le_refl _, hnO⟩)
    have hvv : v = v1 := by
      have h := hbx.kept (putObj_grown V w3.heap.size (.deferred none)) (by simp; omega)
      have h1 := h.cell.symm.trans hbx'.cell
      injection h1
    subst hvv
    obtain ⟨Av, cv, rfl⟩ := own_slice hown
    have hcv := hbx.cell
    have hfin := Lib.hid (show OneI w ((idxs 0 l).take many) (.returned (.slice Av xs.length cv)) (V.putObj w3.heap.size (.deferred none)) from by
      rw [← got_stop hall hlen]
      exact ⟨_, rfl, ⟨Av, cv, rfl, Sees.of_own hown'⟩, hbl'⟩)
    clear hall hI2 hbx hbm hown hvO hbl hbx' hown' hbl' hlen
    refine wpIn_wide.2 ?_
    go_wp2
    refine ⟨by simp, .inl ⟨_, _, rfl, run_takeDeferred hD, ?_⟩⟩
    exact ⟨_, results_tmp (t := 4) rfl _ _ _, hfin.out⟩
end Go.Proofs.YtbiopegophdgiaaDoor
