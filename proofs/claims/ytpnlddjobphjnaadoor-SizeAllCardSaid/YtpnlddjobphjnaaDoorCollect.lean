import Derived.Test.YtpnlddjobphjnaaDoorAll
namespace Go.Proofs.YtpnlddjobphjnaaDoor
open Go.RowKit Go.Shelf
attribute [local go_sem] Oper.semAt_some

theorem two_info : (Tryd.prog.info? 45).map (fun i => (i.zero, i.size, i.bytes)) = some (some (.agg #[.int .i64 0, .int .i64 0]), 2, 16) := by kernel_rfl
/-- classes as cells -/
def flat (l : List Nat) : List Value := l.flatMap fun k : Nat => [.int .i64 (k : Int), .int .i64 (pay k : Int)]
theorem flat_length (l : List Nat) : (flat l).length = l.length * 2 := by
  induction l with
  | nil => rfl
  | cons x l ih => simp only [flat, List.flatMap_cons, List.length_append, List.length_cons, List.length_nil] at ih ⊢; omega
theorem flat_snoc (l : List Nat) (k : Nat) : flat (l ++ [k]) = flat l ++ [.int .i64 (k : Int), .int .i64 (pay k : Int)] := by simp [flat]

/-- what came -/
def Got (many : Nat) (xs : List Nat) : Prop := xs = List.range (min 8 many)

/-- what holds between two of the classes -/
def SLI (w : World) (B2 : Nat) (many : Nat) (pre : List Nat) (O : Nat → Prop) (V : World) : Prop :=
  ∃ v, Boxed V (w.heap.size + 1) 43 v ∧ Boxed V w.heap.size 3 (.int .i64 (many : Int)) ∧ V.ownsRow B2 45 2 v pre.length (flat pre) ∧ (∀ k, v.ownBlock = some k → O k) ∧ Below w.heap.size w V
theorem SLI.abid {w : World} {B2 : Nat} {many : Nat} (h : w.heap.size + 2 ≤ B2) : Abid B2 (SLI w B2 many) := by
  rintro pre O V V' row ⟨v, h1, h2, h3, h4, h6⟩ hg hr
  have hne : ∀ k, (k < B2 ∨ O k) → some k ≠ row := fun k hk e => by
    have := hr k e.symm
    rcases hk with hk | hk
    · omega
    · exact this.2 hk
  exact ⟨v, h1.kept hg (hne _ (.inl (by omega))), h2.kept hg (hne _ (.inl (by omega))), own_same h3 (fun k hk => hg.block k (own_lt h3 hk) (hne k (.inr (h4 k hk)))), h4,
    h6.grown hg (by have := h1.lt; omega) (fun k e => by have := hr k e; omega)⟩
def sinv (w : World) (B2 : Nat) (many : Nat) (pre : List Nat) (O : Nat → Prop) (V : World) : Prop := SLI w B2 many pre O V ∧ pre.length < many ∧ ∀ k, O k → B2 + 2 ≤ k
def sstop (w : World) (B2 : Nat) (many : Nat) (c : Code) (pre : List Nat) (O : Nat → Prop) (V : World) : Prop := c = .exit 0 ∧ SLI w B2 many pre O V ∧ pre.length = many ∧ ∀ k, O k → B2 + 2 ≤ k
theorem sinv.abid {w : World} {B2 : Nat} {many : Nat} (h : w.heap.size + 2 ≤ B2) : Abid B2 (sinv w B2 many) :=
  fun s O V V' row hp hg hr => ⟨SLI.abid h s O V V' row hp.1 hg hr, hp.2⟩
theorem sstop.abid {w : World} {B2 : Nat} {many : Nat} (h : w.heap.size + 2 ≤ B2) (c : Code) : Abid B2 (sstop w B2 many c) :=
  fun s O V V' row hp hg hr => ⟨hp.1, SLI.abid h s O V V' row hp.2.1 hg hr, hp.2.2⟩
theorem got_done {many : Nat} {xs : List Nat} (h : allK xs) (hm : xs.length < many) : Got many xs := by
  have h' : xs = List.range 8 := h
  rw [h', List.length_range] at hm
  rw [Got, h']
  congr 1
  omega
theorem got_stop {many : Nat} {xs : List Nat} (h : someK xs) (hm : xs.length = many) : Got many xs := by
  have h1 := h.1
  have h2 := h.2
  rw [hm] at h1 h2
  rw [Got, h1]
  congr 1
  omega

/-- what a round does -/
theorem slround {w V w4 : World} {B2 many g4 cap4 cv x : Nat} {pre : List Nat} {O : Nat → Prop} {Av : Option Addr} {o : Obj} (hs3 : w.heap.size + 2 ≤ B2) (hPv : ∀ k, payG k → k < B2 ∧ k ≠ w.heap.size + 1)
    (_hO : ∀ k, O k → B2 + 2 ≤ k ∧ k < V.heap.size) (hOw : ∀ k, O k → B2 + 2 ≤ k) (hvO : ∀ k, (Value.slice Av pre.length cv).ownBlock = some k → O k) (hVs : B2 + 2 ≤ V.heap.size)
    (_hown : V.ownsRow B2 45 2 (.slice Av pre.length cv) pre.length (flat pre)) (hown4 : w4.ownsRow B2 45 2 (.slice (some ⟨g4, 0, none⟩) (pre.length + 1) cap4) (pre.length + 1) (flat pre ++ [.int .i64 (x : Int), .int .i64 (pay x : Int)]))
    (hg4 : (V.alloc o).grownBy w4 (Value.slice Av pre.length cv).ownBlock) (hv4 : (Value.slice (some ⟨g4, 0, none⟩) (pre.length + 1) cap4).ownBlock = (Value.slice Av pre.length cv).ownBlock ∨ (Value.slice (some ⟨g4, 0, none⟩) (pre.length + 1) cap4).ownBlock = some (V.alloc o).heap.size)
    (hbx4 : Boxed w4 (w.heap.size + 1) 43 (.slice Av pre.length cv)) (hbm4 : Boxed w4 w.heap.size 3 (.int .i64 (many : Int))) (hbl : Below w.heap.size w V) (hsz : (V.alloc o).heap.size = V.heap.size + 1) :
    Keeps payG B2 O (fun _ => False) V (w4.setCell ⟨w.heap.size + 1, 0, none⟩ (.slice (some ⟨g4, 0, none⟩) (pre.length + 1) cap4)) ∧
      SLI w B2 many (pre ++ [x]) (nextO O (fun _ => False) V (w4.setCell ⟨w.heap.size + 1, 0, none⟩ (.slice (some ⟨g4, 0, none⟩) (pre.length + 1) cap4))) (w4.setCell ⟨w.heap.size + 1, 0, none⟩ (.slice (some ⟨g4, 0, none⟩) (pre.length + 1) cap4)) ∧
      ∀ k, nextO O (fun _ => False) V (w4.setCell ⟨w.heap.size + 1, 0, none⟩ (.slice (some ⟨g4, 0, none⟩) (pre.length + 1) cap4)) k → B2 + 2 ≤ k := by
  have hgs := hg4.size
  rw [hsz] at hgs
  obtain ⟨w5, hw5⟩ : ∃ w5, w5 = w4.setCell ⟨w.heap.size + 1, 0, none⟩ (.slice (some ⟨g4, 0, none⟩) (pre.length + 1) cap4) := ⟨_, rfl⟩
  have hs5 : w5.heap.size = w4.heap.size := by rw [hw5]; simp [World.setCell]
  have hk5 : ∀ k, k ≠ w.heap.size + 1 → w5.heap[k]? = w4.heap[k]? := fun k hk => by rw [hw5]; exact Below.heap_setCell _ _ _ _ hk
  have hB5 : Boxed w5 (w.heap.size + 1) 43 (.slice (some ⟨g4, 0, none⟩) (pre.length + 1) cap4) := by rw [hw5]; exact hbx4.set _
  have hM5 : Boxed w5 w.heap.size 3 (.int .i64 (many : Int)) := (hk5 _ (by omega)).trans hbm4
  have hwV := hbl.size
  have hb5 : Below w.heap.size w w5 := by
    rw [hw5]
    exact ((hbl.alloc hwV o).grown hg4 (by omega) (fun k hk => by have := hOw _ (hvO k hk); omega)).setCell (by simp) _
  rw [← hw5]
  refine ⟨⟨by omega, fun k hkl hp => ?_⟩, ⟨_, hB5, hM5, ?_, ?_, hb5⟩, nextO_ge hOw (fun _ h => h.elim) hVs⟩
  · have hno : ¬ O k := by
      rcases hp with h | ⟨_, h, _⟩
      · exact fun ho => by have := hOw k ho; have := (hPv k h).1; omega
      · exact h
    have hne : k ≠ w.heap.size + 1 := by
      rcases hp with h | ⟨h, _⟩
      · exact (hPv k h).2
      · omega
    exact (hk5 k hne).trans ((hg4.block k (by omega) (fun e => hno (hvO k e.symm))).trans (Below.heap_alloc _ _ _ hkl))
  · rw [List.length_append, List.length_singleton, flat_snoc]
    exact own_same hown4 (fun k e => hk5 k (by have := (hown4.lt k e).1; omega))
  · intro k hk
    have hlt := (hown4.lt k hk).2
    rcases hv4 with h | h
    · exact .inl (hvO k (h ▸ hk))
    · rw [hk] at h
      injection h with h
      exact .inr (.inr ⟨by omega, by omega⟩)

theorem sees_two (V : World) (x y : Value) (t : TypeId) : Sees (V.alloc (.cells #[x, y] t)) (V.heap.size + 1) (some ⟨V.heap.size, 0, none⟩) [x, y] := fun _ =>
  ⟨_, rfl, Nat.lt_succ_self _, fun j u hu => by rw [add_plain, Nat.zero_add, cell_alloc_new]; simpa using hu⟩

set_option maxHeartbeats 2000000 in
theorem classes_any (many : Nat) (w : World) (ht : Tab w) (hm1 : 1 ≤ many) (hm : many ≤ 20) :
    Calls Tryd.prog 23 #[.int .i64 (many : Int)] w fun e w' => ∃ v xs, e = .returned v ∧ Got many xs ∧ w'.ownsRow w.heap.size 45 2 v xs.length (flat xs) ∧ Below w.heap.size w w' := by
  have hnn : ∀ w, (binOp .eql 62 (.func (.func 46) #[] #[]) .nilFunc).run Tryd.prog w = .ok (.bool false) w := fun w => by kernel_rfl
  obtain ⟨i0, hi, hz0, hz1, hz2⟩ := info_parts two_info
  refine calls_marks Tryd.func23 rfl ?_
  simp only [Tryd.ntmps23, List.size_toArray, List.length_cons, List.length_nil, Nat.reduceAdd, Nat.reduceSub, Array.replicate_succ, Array.replicate_zero, List.push_toArray, List.append_toArray, List.nil_append, List.cons_append]
  go_wp2_with fail
  refine (allF_any _).mono ?_
  rintro e w2 ⟨rfl, rfl⟩
  go_wp2_with fail
  refine (allF_any _).mono ?_
  rintro e w3' ⟨rfl, rfl⟩
  obtain ⟨w3, hw3⟩ : ∃ w3, w3 = (w.alloc (.cells #[.int .i64 (many : Int)] 3)).alloc (.cells #[.slice none 0 0] 43) := ⟨_, rfl⟩
  have hs3 : w.heap.size + 2 ≤ w3.heap.size := by rw [hw3]; simp
  have hM3 : Boxed w3 w.heap.size 3 (.int .i64 (many : Int)) := by rw [hw3]; exact (Boxed.new w _ _).alloc _
  have hL3 : Boxed w3 (w.heap.size + 1) 43 (.slice none 0 0) := by rw [hw3]; have := Boxed.new (w.alloc (.cells #[.int .i64 (many : Int)] 3)) 43 (.slice none 0 0); rwa [World.size_alloc] at this
  have hB3 : Below w.heap.size w w3 := by rw [hw3]; exact below2 _ _ _
  have ht3 : Tab w3 := ht.below hB3
  have hgl : 0 < w.heap.size := ht.lt
  have hit := all1_it w3 ht3
  have hPv : ∀ k, payG k → k < w3.heap.size ∧ k ≠ w.heap.size + 1 := by
    rintro k rfl
    exact ⟨ht3.lt, by omega⟩
  rw [← hw3]
  clear hw3 hnn
  go_wp2_with fail
  refine wpIn_wide.1 (wpIn_range_it (gf := 46) (lb := #[]) rfl (enters_of Tryd.func46 (by kernel_rfl) rfl) hit (fun k hk => (hPv k hk).1) (fun _ => rfl) (fun _ _ _ _ _ h => h)
    (sinv w w3.heap.size many) (sstop w w3.heap.size many) (sinv.abid hs3) (sstop.abid hs3) ?h0
    (fun x => { tmps := #[.int .i64 (many : Int), .pointer (some ⟨w.heap.size, 0, none⟩), .slice none 0 0, .pointer (some ⟨w.heap.size + 1, 0, none⟩), .int .i64 (x : Int), .int .i64 (pay x : Int), .func (.func 46) #[] #[], .bool false, .func (.func 46) #[] #[], .int .i64 (x : Int), .int .i64 (pay x : Int), undef, undef, undef, undef, undef, undef, undef, undef, undef, undef, undef], defers := [] }) ?assign ?body ?done ?stop)
  case h0 => exact ⟨⟨_, hL3, hM3, World.ownsRow_nil _ _ _ _, fun k h => (by cases h), hB3⟩, by simp; omega, fun _ h => h.elim⟩
  case assign =>
    intro l' x W' K hK
    simp only [encTwo]
    gi_wp2
    exact hK
  case body =>
    rintro l' pre x O V hVs hO ⟨⟨v, hbx, hbm, hown, hvO, hbl⟩, hlen, hOw⟩ _ _
    have hn : pre.length ≤ 20 := by omega
    clear hit hM3 hL3
    obtain ⟨Av, cv, rfl⟩ := own_slice hown
    have hown1 := hown.alloc (.cells #[.int .i64 (x : Int), .int .i64 (pay x : Int)] 45)
    have hbx1 := hbx.alloc (.cells #[.int .i64 (x : Int), .int .i64 (pay x : Int)] 45)
    have hbm1 := hbm.alloc (.cells #[.int .i64 (x : Int), .int .i64 (pay x : Int)] 45)
    have hce := hbx.cell
    have hce1 := hbx1.cell
    have hb1 := hbx.not_row (by decide) hown
    have hb2 := hbm.not_row (by decide) hown
    clear hbx hbm
    gi_wp2_with (gi_at_builtin; refine wpListIn_append_sees rfl (.tmp 11) (.tmp 15) 43 rfl w3.heap.size 45 i0 _ 2 16 Tryd.underlying43 hi hz0 hz1 hz2 rfl (by decide) _ pre.length (flat pre) rfl hown1 (V.heap.size + 1) (some ⟨V.heap.size, 0, none⟩) 1 1 [.int .i64 (x : Int), .int .i64 (pay x : Int)] rfl rfl (sees_two V _ _ _) (by simp [Value.oneCell']) (by unfold maxLen; omega) (by omega) (by simp; omega) ?_; intro v' w4 hown4 hg4 hv4; obtain ⟨g4, cap4, rfl⟩ := ownsRow_succ hown4; have hbx4 := hbx1.kept hg4 hb1; have hbm4 := hbm1.kept hg4 hb2; have hx4c := hbx4.cell; have hx4f := hbx4.frozen; have hm4c := hbm4.cell)
    all_goals
      have hg5 : (V.alloc (.cells #[.int .i64 (x : Int), .int .i64 (pay x : Int)] 45)).grownBy w4 (Value.slice Av pre.length cv).ownBlock := hg4
      have hfin := Lib.hid (slround hs3 hPv hO hOw hvO hVs hown hown4 hg5 hv4 hbx4 hbm4 hbl (by simp))
    · obtain ⟨k1, k2, k3⟩ := hfin.out
      exact ⟨k1, rfl, k2, by simp; omega, k3⟩
    · obtain ⟨k1, k2, k3⟩ := hfin.out
      exact ⟨k1, k2, by simp; omega, k3⟩
  case done =>
    intro xs O V hall hI hD
    have hnO : ¬ O w3.heap.size := fun h => by have := hI.2.2 _ h; omega
    obtain ⟨v, hbx, hbm, hown, hvO, hbl⟩ := hI.1
    obtain ⟨v1, hbx', _, hown', _, hbl'⟩ := SLI.abid hs3 _ _ _ _ (some w3.heap.size) hI.1 (putObj_grown V w3.heap.size (.deferred none)) (fun r e => by cases e; exact ⟨Nat.le_refl _, hnO⟩)
    have hvv : v = v1 := by
      have h := hbx.kept (putObj_grown V w3.heap.size (.deferred none)) (by simp; omega)
      have h1 := h.cell.symm.trans hbx'.cell
      injection h1
    subst hvv
    obtain ⟨Av, cv, rfl⟩ := own_slice hown
    have hcv := hbx.cell
    have hfin := Lib.hid (And.intro (got_done hall hI.2.1) (And.intro (own_mono hown' (by omega : w.heap.size ≤ _)) hbl'))
    clear hall hI hbx hbm hown hvO hbl hbx' hown' hbl' hit
    go_wp2
    refine ⟨by simp, .inl ⟨_, _, rfl, run_takeDeferred hD, ?_⟩⟩
    exact ⟨_, results_tmp (t := 2) rfl _ _ _, ⟨_, xs, rfl, hfin.out.1, hfin.out.2.1, hfin.out.2.2⟩⟩
  case stop =>
    rintro c' xs O V hall ⟨rfl, hI, hlen, hOw⟩ hD
    have hnO : ¬ O w3.heap.size := fun h => by have := hOw _ h; omega
    have hI2 := hI
    obtain ⟨v, hbx, hbm, hown, hvO, hbl⟩ := hI
    obtain ⟨v1, hbx', _, hown', _, hbl'⟩ := SLI.abid hs3 _ _ _ _ (some w3.heap.size) hI2 (putObj_grown V w3.heap.size (.deferred none)) (fun r e => by cases e; exact ⟨Nat.le_refl _, hnO⟩)
    have hvv : v = v1 := by
      have h := hbx.kept (putObj_grown V w3.heap.size (.deferred none)) (by simp; omega)
      have h1 := h.cell.symm.trans hbx'.cell
      injection h1
    subst hvv
    obtain ⟨Av, cv, rfl⟩ := own_slice hown
    have hcv := hbx.cell
    have hfin := Lib.hid (And.intro (got_stop hall hlen) (And.intro (own_mono hown' (by omega : w.heap.size ≤ _)) hbl'))
    clear hall hI2 hbx hbm hown hvO hbl hbx' hown' hbl' hlen hit
    refine wpIn_wide.2 ?_
    go_wp2
    refine ⟨by simp, .inl ⟨_, _, rfl, run_takeDeferred hD, ?_⟩⟩
    exact ⟨_, results_tmp (t := 2) rfl _ _ _, ⟨_, xs, rfl, hfin.out.1, hfin.out.2.1, hfin.out.2.2⟩⟩
end Go.Proofs.YtpnlddjobphjnaaDoor
