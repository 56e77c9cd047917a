import Derived.Test.YtglfcfepgjldfaaFB
import Derived.Test.YtglfcfepgjldfaaRangeW
import Derived.Test.YtglfcfepgjldfaaBaseIn
namespace Go.Proofs.Ytglfcfepgjldfaa.Fe
open Go.RowKit Go.Shelf
attribute [local go_sem] Oper.semAt_some

/- WHAT THE LAWS ASK OF THE CODE's FEEDS, WHATEVER THEY LOOK LIKE; THE LAW's LIST OF PICKS. -/
theorem int_info : (Try.prog.info? 3).map (fun i => (i.zero, i.size, i.bytes)) = some (some (.int .i64 0), 1, 8) := by kernel_rfl
def i64 (z : Int) : Prop := -9223372036854775808 ≤ z ∧ z ≤ 9223372036854775807
abbrev HasT := World → Value → List UInt8 → Nat → (Nat → Prop) → Prop
def okN (z : Int) : Prop := 1 ≤ z ∧ z ≤ 256
instance (z : Int) : Decidable (okN z) := inferInstanceAs (Decidable (_ ∧ _))
/-- how many picks there are -/
def cnt (l : List UInt8) (p : Nat) (z : Int) : Nat := if okN z then l.length - p else 0
/-- the first so many picks -/
def pickL (l : List UInt8) (p n : Nat) (k : Nat) : List Nat := (List.range k).map fun i => pickN l (p + i) n
theorem pickL_len (l : List UInt8) (p n k : Nat) : (pickL l p n k).length = k := by simp [pickL]
/-- behind so many picks -/
def PA (Has : HasT) (v : Value) (l : List UInt8) (p : Nat) (z : Int) (F : Nat → Prop) (xs : List Nat) (W : World) : Prop :=
  xs.length ≤ cnt l p z ∧ xs = pickL l p z.toNat xs.length ∧ Has W v l (p + xs.length) F
def encI (x : Nat) : Array Value := #[.int .i64 (x : Int)]
def ins (l : List Nat) : List Value := l.map fun (x : Nat) => .int .i64 (x : Int)
def Nx (Has : HasT) (w : World) (v : Value) (l : List UInt8) (p : Nat) (F : Nat → Prop) (w' : World) : Prop := Has w' v l p F ∧ Keep F w w'
structure Api (Has : HasT) : Prop where
  keep : ∀ {w w' v l p F}, Has w v l p F → (∀ k, F k → w'.heap[k]? = w.heap[k]?) → Has w' v l p F
  lt : ∀ {w v l p F}, Has w v l p F → ∀ k, F k → k < w.heap.size
  sm : ∀ {w v l p F}, Has w v l p F → small l p
  ptr : ∀ {w v l p F}, Has w v l p F → ∃ ad, v = .pointer (some ad)
  new : ∀ (w : World) (A : Option Addr) (n c : Nat) (bs : List UInt8), Sees w w.heap.size A (byt bs) → bs.length = n → n ≤ 300 → Calls Try.prog 7 #[.slice A n c] w fun e w' => ∃ v F, e = .returned v ∧ Has w' v bs 0 F ∧ (∀ k, F k → w.heap.size ≤ k) ∧ Below w.heap.size w w'
  pick : ∀ {w v l p F} (n : Nat), Has w v l p F → 1 ≤ n → n ≤ 256 → Calls Try.prog 20 #[v, .int .i64 (n : Int)] w fun e w' => e = .returned (.tuple #[.int .i64 (pickN l p n : Int), .int .i64 0]) ∧ Nx Has w v l (pickP l p) F w'
  pickNo : ∀ {w v l p F} (z : Int), Has w v l p F → i64 z → ¬ okN z → Calls Try.prog 20 #[v, .int .i64 z] w fun e w' => e = .returned (.tuple #[.int .i64 0, .int .i64 2]) ∧ Nx Has w v l p F w'
  draw : ∀ {w v l p F}, Has w v l p F → Calls Try.prog 19 #[v] w fun e w' => e = .returned (.tuple #[.int .u32 (le ((l.drop p).take 4) : Int), .int .i64 0]) ∧ Nx Has w v l (p + min 4 (l.length - p)) F w'
  take : ∀ {w v l p F} (m : Nat), Has w v l p F → m ≤ 9223372036854775807 → Calls Try.prog 14 #[v, .int .i64 (m : Int)] w fun e w' => ∃ A c, e = .returned (.tuple #[.slice A ((l.drop p).take m).length c, .int .i64 0]) ∧ Nx Has w v l (p + min m (l.length - p)) F w' ∧
    ((l.drop p).take m ≠ [] → ∃ g rest, w.heap.size ≤ g ∧ A = some ⟨g, 0, none⟩ ∧ Row w' g 5 (byt ((l.drop p).take m) ++ rest))
  takeNo : ∀ {w v l p F} (z : Int), Has w v l p F → i64 z → z < 0 → Calls Try.prog 14 #[v, .int .i64 z] w fun e w' => ∃ A c, e = .returned (.tuple #[.slice A 0 c, .int .i64 2]) ∧ Nx Has w v l p F w'
  seek : ∀ {w v l p F} (q : Nat), Has w v l p F → q ≤ l.length → Calls Try.prog 18 #[v, .int .i64 (q : Int)] w fun e w' => e = .returned (.tuple #[.int .i64 (p : Int), .int .i64 0]) ∧ Nx Has w v l q F w'
  seekNo : ∀ {w v l p F} (z : Int), Has w v l p F → i64 z → z < 0 ∨ (l.length : Int) < z → Calls Try.prog 18 #[v, .int .i64 z] w fun e w' => e = .returned (.tuple #[.int .i64 0, .int .i64 4]) ∧ Nx Has w v l p F w'
  at_ : ∀ {w v l p F}, Has w v l p F → Calls Try.prog 16 #[v] w fun e w' => e = .returned (.int .i64 (p : Int)) ∧ Below w.heap.size w w'
  left : ∀ {w v l p F}, Has w v l p F → Calls Try.prog 17 #[v] w fun e w' => e = .returned (.int .i64 ((l.length - p : Nat) : Int)) ∧ Below w.heap.size w w'
  picks : ∀ {w v l p F} (z : Int), Has w v l p F → i64 z → Calls Try.prog 40 #[v, .int .i64 z] w fun e w' => ∃ gf lb Pv, e = .returned (.func (.func gf) #[] lb) ∧ (∀ (args : Array Value) (V : World), (callFunc gf args).run Try.prog V = .ok (.enter gf args) V) ∧
    (∀ V : World, (binOp .eql 77 (.func (.func gf) #[] lb) .nilFunc).run Try.prog V = .ok (.bool false) V) ∧
    ItW Try.prog gf lb encI (fun _ _ => False) (fun _ _ _ => True) Pv F (fun xs W => PA Has v l p z F xs W ∧ xs.length = cnt l p z) (PA Has v l p z F) w' ∧ (∀ k, F k → Pv k) ∧ (∀ k, Pv k → F k ∨ (w.heap.size ≤ k ∧ k < w'.heap.size)) ∧ Below w.heap.size w w'
  copy : ∀ {w v l p F}, Has w v l p F → Calls Try.prog 12 #[v] w fun e w' => ∃ v' F', e = .returned v' ∧ Has w' v' l p F' ∧ (∀ k, F' k → w.heap.size ≤ k) ∧ Below w.heap.size w w'
  same : ∀ {w v l p F v' l' p' F'}, Has w v l p F → Has w v' l' p' F' → Calls Try.prog 11 #[v, v'] w fun e w' => e = .returned (.bool (decide (l.drop p = l'.drop p'))) ∧ Below w.heap.size w w'
  sameN : ∀ {w v l p F}, Has w v l p F → Calls Try.prog 11 #[v, .pointer none] w fun e w' => e = .returned (.bool false) ∧ Below w.heap.size w w'
  sameN' : ∀ {w v l p F}, Has w v l p F → Calls Try.prog 11 #[.pointer none, v] w fun e w' => e = .returned (.bool false) ∧ Below w.heap.size w w'
section
variable {Has : HasT} (H : Api Has) {w w' : World} {v : Value} {l : List UInt8} {p : Nat} {F : Nat → Prop}
include H
theorem Api.below (h : Has w v l p F) (hb : Below w.heap.size w w') : Has w' v l p F := H.keep h fun k hk => hb.block _ (H.lt h k hk)
end
theorem keep_low {F : Nat → Prop} {w V V' : World} (h : Keep F w V) (hb : Below w.heap.size V V') : Keep F w V' :=
  ⟨hb.os.trans h.os, hb.tape.trans h.tape, hb.output.trans h.output, Nat.le_trans h.size hb.size, fun k hk hf => (hb.block k hk).trans (h.block k hk hf)⟩
section
variable {w : World} {F : Nat → Prop} {B2 most : Nat}
/-- what holds between two picks: the list lies in block bl, how many at most in block bm -/
def PLI (F : Nat → Prop) (w : World) (bm bl B2 : Nat) (most : Nat) (pre : List Nat) (O : Nat → Prop) (V : World) : Prop :=
  ∃ v, Boxed V bl 61 v ∧ Boxed V bm 3 (.int .i64 (most : Int)) ∧ V.ownsRow B2 3 1 v pre.length (ins pre) ∧ (∀ k, v.ownBlock = some k → O k) ∧ Keep F w V
theorem PLI.abid {bm bl : Nat} (h : bm < B2 ∧ bl < B2 ∧ w.heap.size ≤ B2) (hF : ∀ k, F k → k < w.heap.size) (hm : w.heap.size ≤ bm) (hl : w.heap.size ≤ bl) : AbidG B2 F (PLI F w bm bl B2 most) := by
  rintro pre O V V' row ⟨v, h1, h2, h3, h4, h6⟩ hg hr
  have hne : ∀ k, w.heap.size ≤ k → (k < B2 ∨ (O k)) → some k ≠ row := fun k hwk hk e => by
    rcases hr k e.symm with hr | hr
    · rcases hk with hk | hk
      · omega
      · exact hr.2 hk
    · have := hF k hr; omega
  refine ⟨v, h1.kept hg (hne _ hl (.inl (by omega))), h2.kept hg (hne _ hm (.inl (by omega))), own_same h3 (fun k hk => hg.block k (own_lt h3 hk) (hne k (by have := (h3.lt k hk).1; omega) (.inr (h4 k hk)))), h4, ?_⟩
  refine ⟨hg.os.trans h6.os, hg.tape.trans h6.tape, hg.output.trans h6.output, Nat.le_trans h6.size hg.size, fun k hk hf => (hg.block k (Nat.lt_of_lt_of_le hk h6.size) (fun e => ?_)).trans (h6.block k hk hf)⟩
  rcases hr k e.symm with hr | hr
  · omega
  · exact hf hr
def pinv (F : Nat → Prop) (w : World) (bm bl B2 : Nat) (most : Nat) (pre : List Nat) (O : Nat → Prop) (V : World) : Prop := PLI F w bm bl B2 most pre O V ∧ pre.length < most ∧ ∀ k, O k → B2 + 2 ≤ k
def pstop (F : Nat → Prop) (w : World) (bm bl B2 : Nat) (most : Nat) (c : Code) (pre : List Nat) (O : Nat → Prop) (V : World) : Prop := c = .exit 0 ∧ PLI F w bm bl B2 most pre O V ∧ pre.length = most ∧ ∀ k, O k → B2 + 2 ≤ k
theorem pinv.abid {bm bl : Nat} (h : bm < B2 ∧ bl < B2 ∧ w.heap.size ≤ B2) (hF : ∀ k, F k → k < w.heap.size) (hm : w.heap.size ≤ bm) (hl : w.heap.size ≤ bl) : AbidG B2 F (pinv F w bm bl B2 most) :=
  fun s O V V' row hp hg hr => ⟨PLI.abid h hF hm hl s O V V' row hp.1 hg hr, hp.2⟩
theorem pstop.abid {bm bl : Nat} (h : bm < B2 ∧ bl < B2 ∧ w.heap.size ≤ B2) (hF : ∀ k, F k → k < w.heap.size) (hm : w.heap.size ≤ bm) (hl : w.heap.size ≤ bl) (c : Code) : AbidG B2 F (pstop F w bm bl B2 most c) :=
  fun s O V V' row hp hg hr => ⟨hp.1, PLI.abid h hF hm hl s O V V' row hp.2.1 hg hr, hp.2.2⟩
end
/-- what a round does -/
theorem plround {F : Nat → Prop} {w V w4 : World} {bm bl B2 most g4 cap4 cv x : Nat} {Pv : Nat → Prop} {pre : List Nat} {O : Nat → Prop} {Av : Option Addr} {o : Obj} (hbx : bm < B2 ∧ bl < B2 ∧ w.heap.size ≤ B2) (hbl0 : w.heap.size ≤ bl) (hmb : bm ≠ bl) (hPv : ∀ k, Pv k → k < B2 ∧ k ≠ bl)
    (hOw : ∀ k, O k → B2 + 2 ≤ k) (hvO : ∀ k, (Value.slice Av pre.length cv).ownBlock = some k → O k) (hVs : B2 + 2 ≤ V.heap.size)
    (hown4 : w4.ownsRow B2 3 1 (.slice (some ⟨g4, 0, none⟩) (pre.length + 1) cap4) (pre.length + 1) (ins pre ++ [.int .i64 (x : Int)]))
    (hg4 : (V.alloc o).grownBy w4 (Value.slice Av pre.length cv).ownBlock) (hv4 : (Value.slice (some ⟨g4, 0, none⟩) (pre.length + 1) cap4).ownBlock = (Value.slice Av pre.length cv).ownBlock ∨ (Value.slice (some ⟨g4, 0, none⟩) (pre.length + 1) cap4).ownBlock = some (V.alloc o).heap.size)
    (hbx4 : Boxed w4 bl 61 (.slice Av pre.length cv)) (hbm4 : Boxed w4 bm 3 (.int .i64 (most : Int))) (hkp : Keep F w V) (hsz : (V.alloc o).heap.size = V.heap.size + 1) :
    Keeps Pv B2 O (fun _ => False) V (w4.setCell ⟨bl, 0, none⟩ (.slice (some ⟨g4, 0, none⟩) (pre.length + 1) cap4)) ∧
      PLI F w bm bl B2 most (pre ++ [x]) (nextO O (fun _ => False) V (w4.setCell ⟨bl, 0, none⟩ (.slice (some ⟨g4, 0, none⟩) (pre.length + 1) cap4))) (w4.setCell ⟨bl, 0, none⟩ (.slice (some ⟨g4, 0, none⟩) (pre.length + 1) cap4)) ∧
      ∀ k, nextO O (fun _ => False) V (w4.setCell ⟨bl, 0, none⟩ (.slice (some ⟨g4, 0, none⟩) (pre.length + 1) cap4)) k → B2 + 2 ≤ k := by
  have hgs := hg4.size
  rw [hsz] at hgs
  obtain ⟨w5, hw5⟩ : ∃ w5, w5 = w4.setCell ⟨bl, 0, none⟩ (.slice (some ⟨g4, 0, none⟩) (pre.length + 1) cap4) := ⟨_, rfl⟩
  have hs5 : w5.heap.size = w4.heap.size := by rw [hw5]; simp [World.setCell]
  have hk5 : ∀ k, k ≠ bl → w5.heap[k]? = w4.heap[k]? := fun k hk => by rw [hw5]; exact Below.heap_setCell _ _ _ _ hk
  have hB5 : Boxed w5 bl 61 (.slice (some ⟨g4, 0, none⟩) (pre.length + 1) cap4) := by rw [hw5]; exact hbx4.set _
  have hM5 : Boxed w5 bm 3 (.int .i64 (most : Int)) := (hk5 _ hmb).trans hbm4
  have hwV := hkp.size
  have hb5 : Below w.heap.size V w5 := by
    rw [hw5]
    exact (((Below.refl w.heap.size V).alloc hwV o).grown hg4 (by omega) (fun k hk => by have := hOw _ (hvO k hk); omega)).setCell hbl0 _
  rw [← hw5]
  refine ⟨⟨by omega, fun k hkl hp => ?_⟩, ⟨_, hB5, hM5, ?_, ?_, keep_low hkp hb5⟩, nextO_ge hOw (fun _ h => h.elim) hVs⟩
  · have hno : ¬ O k := by
      rcases hp with h | ⟨_, h, _⟩
      · exact fun ho => by have := hOw k ho; have := (hPv k h).1; omega
      · exact h
    have hne : k ≠ bl := by
      rcases hp with h | ⟨h, _⟩
      · exact (hPv k h).2
      · omega
    exact (hk5 k hne).trans ((hg4.block k (by omega) (fun e => hno (hvO k e.symm))).trans (Below.heap_alloc _ _ _ hkl))
  · rw [List.length_append, List.length_singleton, show ins (pre ++ [x]) = ins pre ++ [.int .i64 (x : Int)] by simp [ins]]
    exact own_same hown4 (fun k e => hk5 k (by have := (hown4.lt k e).1; omega))
  · intro k hk
    have hlt := (hown4.lt k hk).2
    rcases hv4 with h | h
    · exact .inl (hvO k (h ▸ hk))
    · rw [hk] at h
      injection h with h
      exact .inr (.inr ⟨by omega, by omega⟩)
/-- the law's list -/
def PickI (Has : HasT) (w : World) (v : Value) (l : List UInt8) (p : Nat) (z : Int) (F : Nat → Prop) (k : Nat) (e : Ending) (w' : World) : Prop :=
  ∃ A c, e = .returned (.slice A k c) ∧ Sees w' w'.heap.size A (ins (pickL l p z.toNat k)) ∧ Has w' v l (p + k) F ∧ Keep F w w'
set_option maxHeartbeats 4000000 in
theorem picks_any {Has : HasT} (H : Api Has) (v : Value) (l : List UInt8) (p : Nat) (z : Int) (F : Nat → Prop) (most : Nat) (w : World) (h : Has w v l p F) (hz : i64 z) (hm1 : 1 ≤ most) (hm : most ≤ 5000) :
    Calls Try.prog 25 #[v, .int .i64 z, .int .i64 (most : Int)] w (PickI Has w v l p z F (min most (cnt l p z))) := by
  obtain ⟨i0, hi, hz0, hz1, hz2⟩ := info_parts int_info
  have hFw := H.lt h
  refine calls_marks Try.func25 rfl ?_
  simp only [Try.ntmps25, List.size_toArray, List.length_cons, List.length_nil, Nat.reduceAdd, Nat.reduceSub, Array.replicate_succ, Array.replicate_zero, List.push_toArray, List.append_toArray, List.nil_append, List.cons_append]
  go_wp2_with fail
  refine (H.picks z (H.below h (below2 _ _ _)) hz).mono ?_
  rintro e w2 ⟨gf1, lb1, Pv1, rfl, _, hnn1, _, _, _, hb1⟩
  have hnn2 := hnn1 w2
  have hs2 : w.heap.size + 2 ≤ w2.heap.size := by have := hb1.size; simpa using this
  have hM2 : Boxed w2 w.heap.size 3 (.int .i64 (most : Int)) := (hb1.block _ (by simp only [World.size_alloc]; omega)).trans ((Boxed.new w _ _).alloc _)
  have hL2 : Boxed w2 (w.heap.size + 1) 61 (.slice none 0 0) := (hb1.block _ (by simp only [World.size_alloc]; omega)).trans (by have := Boxed.new (w.alloc (.cells #[.int .i64 (most : Int)] 3)) 61 (.slice none 0 0); rwa [World.size_alloc] at this)
  have hB2 : Below w.heap.size w w2 := (below2 _ _ _).trans (hb1.mono (by simp only [World.size_alloc]; omega))
  clear hb1 hnn1
  go_wp2_with fail
  refine (H.picks z (H.below h hB2) hz).mono ?_
  rintro e w3 ⟨gf, lb, Pv, rfl, hent, _, hit, hFP, hPF, hb2⟩
  have hs3 : w.heap.size + 2 ≤ w3.heap.size := by have := hb2.size; omega
  have hM3 : Boxed w3 w.heap.size 3 (.int .i64 (most : Int)) := (hb2.block _ (by omega)).trans hM2
  have hL3 : Boxed w3 (w.heap.size + 1) 61 (.slice none 0 0) := (hb2.block _ (by omega)).trans hL2
  have hB3 : Below w.heap.size w w3 := hB2.trans (hb2.mono (by omega))
  have hPv : ∀ k, Pv k → k < w3.heap.size ∧ k ≠ w.heap.size + 1 := fun k hk => by
    rcases hPF k hk with hf | hf
    · have := hFw k hf; exact ⟨by omega, by omega⟩
    · exact ⟨hf.2, by omega⟩
  clear hM2 hL2 hB2 hb2 hnn2 hPF
  go_wp2_with fail
  refine wpIn_wide.1 (wpIn_range_itW (gf := gf) (lb := lb) rfl hent hit hFP (fun xs V V' hV hp => ⟨⟨hp.1.1, hp.1.2.1, H.keep hp.1.2.2 fun k hk => hV k (hFP k hk)⟩, hp.2⟩) (fun xs V V' hV hp => ⟨hp.1, hp.2.1, H.keep hp.2.2 fun k hk => hV k (hFP k hk)⟩) (fun k hk => (hPv k hk).1) (fun _ => rfl) (fun _ _ _ _ _ h => h)
    (pinv F w w.heap.size (w.heap.size + 1) w3.heap.size most) (pstop F w w.heap.size (w.heap.size + 1) w3.heap.size most) (pinv.abid (by omega) hFw (by omega) (by omega)) (pstop.abid (by omega) hFw (by omega) (by omega)) ?h0
    ?a1 ?assign ?body ?done ?stop)
  case h0 => exact ⟨⟨_, hL3, hM3, World.ownsRow_nil _ _ _ _, fun k h => (by cases h), Keep.of_below hB3⟩, by simp; omega, fun _ h => h.elim⟩
  case assign =>
    intro l' x W' K hK
    simp only [encI]
    gi_wp2
    exact hK
  case body =>
    rintro l' pre x O V hVs hO ⟨⟨u, hbx, hbm, hown, hvO, hbl⟩, hlen, hOw⟩ _ _
    have hn : pre.length ≤ 5000 := by omega
    clear hit hM3 hL3 hent
    obtain ⟨Av, cv, rfl⟩ := own_slice hown
    have hown1 := hown.alloc (.cells #[.int .i64 (x : Int)] 3)
    have hbx1 := hbx.alloc (.cells #[.int .i64 (x : Int)] 3)
    have hbm1 := hbm.alloc (.cells #[.int .i64 (x : Int)] 3)
    have hce := hbx.cell
    have hce1 := hbx1.cell
    have hb1 := hbx.not_row (by decide) hown
    have hb2 : some w.heap.size ≠ (Value.slice Av pre.length cv).ownBlock := fun e => by have := hOw _ (hvO _ e.symm); omega
    clear hbx hbm
    gi_wp2_with (gi_at_builtin; refine wpListIn_append_sees rfl (.tmp 17) (.tmp 19) 61 rfl w3.heap.size 3 i0 _ 1 8 Try.underlying61 hi hz0 hz1 hz2 rfl (by decide) _ pre.length (ins pre) rfl hown1 (V.heap.size + 1) (some ⟨V.heap.size, 0, none⟩) 1 1 [.int .i64 (x : Int)] rfl rfl (fun _ => ⟨_, rfl, by simp, cell_one_new _ _ _⟩) (by simp [Value.oneCell']) (by unfold maxLen; omega) (by omega) (by simp; omega) ?_; intro v' w4 hown4 hg4 hv4; obtain ⟨g4, cap4, rfl⟩ := ownsRow_succ hown4; have hbx4 := hbx1.kept hg4 hb1; have hbm4 := hbm1.kept hg4 hb2; have hx4c := hbx4.cell; have hx4f := hbx4.frozen; have hm4c := hbm4.cell)
    all_goals
      have hg5 : (V.alloc (.cells #[.int .i64 (x : Int)] 3)).grownBy w4 (Value.slice Av pre.length cv).ownBlock := hg4
      have hfin := Lib.hid (plround (x := x) (by omega) (by omega) (by omega) hPv hOw hvO hVs hown4 hg5 hv4 hbx4 hbm4 hbl (by simp))
    · obtain ⟨k1, k2, k3⟩ := hfin.out
      exact ⟨k1, rfl, k2, by simp; omega, k3⟩
    · obtain ⟨k1, k2, k3⟩ := hfin.out
      exact ⟨k1, k2, by simp; omega, k3⟩
  case done =>
    intro xs O V hall hI hD
    obtain ⟨hI, hlen, hOw⟩ := hI
    obtain ⟨⟨hp1, hp2, hp3⟩, hp4⟩ := hall
    have hkk : min most (cnt l p z) = xs.length := by omega
    clear hp4
    have hnO : ¬ O w3.heap.size := fun h => by have := hOw _ h; omega
    have hI2 := hI
    obtain ⟨u, hbx, hbm, hown, hvO, hbl⟩ := hI
    obtain ⟨u1, hbx', _, hown', _, hbl'⟩ := PLI.abid (by omega) hFw (by omega) (by omega) _ _ _ _ (some w3.heap.size) hI2 (putObj_grown V w3.heap.size (.deferred none)) (fun r e => by cases e; exact .inl ⟨Nat.le_refl _, hnO⟩)
    have hvv : u = u1 := by
      have h := hbx.kept (putObj_grown V w3.heap.size (.deferred none)) (by simp; omega)
      have h1 := h.cell.symm.trans hbx'.cell
      injection h1
    subst hvv
    obtain ⟨Av, cv, rfl⟩ := own_slice hown
    have hcv := hbx.cell
    have hfin := Lib.hid (show PickI Has w v l p z F (min most (cnt l p z)) (.returned (.slice Av xs.length cv)) (V.putObj w3.heap.size (.deferred none)) from by
      rw [hkk]
      refine ⟨_, _, rfl, by rw [← hp2]; exact Sees.of_own hown', H.keep hp3 (fun k hk => World.putObj_heap_other (by have := hFw k hk; omega)), hbl'⟩)
    clear hI2 hbx hbm hown hvO hbl hbx' hown' hbl' hlen hp1 hp2 hp3 hkk
    go_wp2
    refine ⟨by simp, .inl ⟨_, _, rfl, run_takeDeferred hD, ?_⟩⟩
    exact ⟨_, results_tmp (t := 6) rfl _ _ _, hfin.out⟩
  case stop =>
    rintro c' xs O V ⟨hp1, hp2, hp3⟩ ⟨rfl, hI, hlen, hOw⟩ hD
    have hkk : min most (cnt l p z) = xs.length := by omega
    have hnO : ¬ O w3.heap.size := fun h => by have := hOw _ h; omega
    have hI2 := hI
    obtain ⟨u, hbx, hbm, hown, hvO, hbl⟩ := hI
    obtain ⟨u1, hbx', _, hown', _, hbl'⟩ := PLI.abid (by omega) hFw (by omega) (by omega) _ _ _ _ (some w3.heap.size) hI2 (putObj_grown V w3.heap.size (.deferred none)) (fun r e => by cases e; exact .inl ⟨Nat.le_refl _, hnO⟩)
    have hvv : u = u1 := by
      have h := hbx.kept (putObj_grown V w3.heap.size (.deferred none)) (by simp; omega)
      have h1 := h.cell.symm.trans hbx'.cell
      injection h1
    subst hvv
    obtain ⟨Av, cv, rfl⟩ := own_slice hown
    have hcv := hbx.cell
    have hfin := Lib.hid (show PickI Has w v l p z F (min most (cnt l p z)) (.returned (.slice Av xs.length cv)) (V.putObj w3.heap.size (.deferred none)) from by
      rw [hkk]
      refine ⟨_, _, rfl, by rw [← hp2]; exact Sees.of_own hown', H.keep hp3 (fun k hk => World.putObj_heap_other (by have := hFw k hk; omega)), hbl'⟩)
    clear hI2 hbx hbm hown hvO hbl hbx' hown' hbl' hlen hp1 hp2 hp3 hkk
    refine wpIn_wide.2 ?_
    go_wp2
    refine ⟨by simp, .inl ⟨_, _, rfl, run_takeDeferred hD, ?_⟩⟩
    exact ⟨_, results_tmp (t := 6) rfl _ _ _, hfin.out⟩
end Go.Proofs.Ytglfcfepgjldfaa.Fe
