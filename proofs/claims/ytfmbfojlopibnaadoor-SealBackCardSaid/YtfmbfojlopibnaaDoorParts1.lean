import Derived.Test.YtfmbfojlopibnaaDoorParts
import Derived.Test.YtfmbfojlopibnaaDoorRegion
import Derived.Test.YtfmbfojlopibnaaDoorBaseIn
namespace Go.Proofs.YtfmbfojlopibnaaDoor
open Go.RowKit Go.Shelf
attribute [local go_sem] Oper.semAt_some

def cutOf (l : List UInt8) (c : Nat × Nat) : Nat × List UInt8 := (c.1, (l.drop c.1).take (c.2 - c.1))
/-- a part as it is handed over: where it begins, its bytes, the block and the room that they have -/
structure PX where
  at_ : Nat
  bytes : List UInt8
  blk : Nat
  cap : Nat
def PX.prj (x : PX) : Nat × List UInt8 := (x.at_, x.bytes)
def encPart (x : PX) : Array Value := #[.int .i64 x.at_, .slice (some ⟨x.blk, 0, none⟩) x.bytes.length x.cap]
def memPart (x : PX) (k : Nat) : Prop := k = x.blk
def prePart (s : Int) (l : List UInt8) (pre : List PX) (x : PX) (W : World) : Prop :=
  W.ownsRow 0 5 1 (.slice (some ⟨x.blk, 0, none⟩) x.bytes.length x.cap) x.bytes.length (byt x.bytes) ∧ x.prj = cutOf l (cutk s.toNat l.length pre.length) ∧ 0 < x.bytes.length
def allParts (s : Int) (l : List UInt8) (xs : List PX) : Prop := xs.map PX.prj = (List.range xs.length).map (fun k => cutOf l (cutk s.toNat l.length k)) ∧ (s < 1 → xs = []) ∧ (1 ≤ s → l.length ≤ xs.length * s.toNat)
def someParts (s : Int) (l : List UInt8) (xs : List PX) : Prop := xs.map PX.prj = (List.range xs.length).map (fun k => cutOf l (cutk s.toNat l.length k))

section
variable (l : List UInt8) (l0 : Nat) (J Jx : List PX → (Nat → Prop) → World → Prop) (W : World) (bo bs : Nat) (A : Option Addr) (c : Nat)
/-- what holds between two rounds of the inner loop -/
def inI (pre' : List (Nat × Nat)) (O' : Nat → Prop) (V : World) : Prop :=
  ∃ pre O, pre.map PX.prj = pre'.map (cutOf l) ∧ J pre O V ∧ (∀ k, O k → O' k) ∧ (∀ k, O k → W.heap.size + 5 ≤ k) ∧
    V.cell? ⟨W.heap.size, 0, none⟩ = some (.func (.yield l0) #[] #[]) ∧ V.cell? ⟨bo, 0, none⟩ = some (.slice A l.length c) ∧ V.ownsRow 0 5 1 (.slice A l.length c) l.length (byt l)
/-- what holds where a round has said no more -/
def inX (c' : Code) (pre' : List (Nat × Nat)) (O' : Nat → Prop) (V : World) : Prop :=
  c' = .exit 0 ∧ ∃ pre O, pre.map PX.prj = pre'.map (cutOf l) ∧ Jx pre O V ∧ (∀ k, O k → O' k) ∧ (∀ k, O k → W.heap.size + 5 ≤ k)
end

set_option maxHeartbeats 1000000 in
theorem parts1_it (l : List UInt8) (s : Int) (bo bs base c : Nat) (A : Option Addr) (w0 : World) (hm : l.length ≤ 140737488351232) (hco : w0.cell? ⟨bo, 0, none⟩ = some (.slice A l.length c)) (hcs : w0.cell? ⟨bs, 0, none⟩ = some (.int .i64 s))
    (hown : w0.ownsRow base 5 1 (.slice A l.length c) l.length (byt l)) :
    It Tryd.prog 70 #[.pointer (some ⟨bo, 0, none⟩), .pointer (some ⟨bs, 0, none⟩)] encPart memPart (prePart s l) (fun k => k = bo ∨ k = bs ∨ (Value.slice A l.length c).ownBlock = some k) (allParts s l) (someParts s l) w0 := by
  intro l0 J Jx W hpW hsW hJ hJx hY h0
  have hbo : bo < w0.heap.size := lt_of_cell hco
  have hbs : bs < w0.heap.size := lt_of_cell hcs
  have hWo : W.cell? ⟨bo, 0, none⟩ = some (.slice A l.length c) := (World.cell?_of_block (hpW bo (.inl rfl))).trans hco
  have hWs : W.cell? ⟨bs, 0, none⟩ = some (.int .i64 s) := (World.cell?_of_block (hpW bs (.inr (.inl rfl)))).trans hcs
  have hWown : W.ownsRow 0 5 1 (.slice A l.length c) l.length (byt l) := own_mono (own_same hown (fun k hk => hpW k (.inr (.inr hk)))) (Nat.zero_le _)
  have hao : (W.alloc (.cells #[.func (.yield l0) #[] #[]] 110)).cell? ⟨bo, 0, none⟩ = some (.slice A l.length c) := (World.cell?_alloc_lt _ _ _ (by simp; omega)).trans hWo
  have has : (W.alloc (.cells #[.func (.yield l0) #[] #[]] 110)).cell? ⟨bs, 0, none⟩ = some (.int .i64 s) := (World.cell?_alloc_lt _ _ _ (by simp; omega)).trans hWs
  refine calls_marks Tryd.func70 rfl ?_
  simp only [Tryd.ntmps70, List.size_toArray, List.length_cons, List.length_nil, Nat.reduceAdd, Nat.reduceSub, Array.replicate_succ, Array.replicate_zero, List.push_toArray, List.append_toArray, List.nil_append, List.cons_append]
  go_wp2_with fail
  refine wp_scope_jump 0 fun R hR hJm => ?_
  go_wp2_with fail
  go_step3
  go_wp2_with fail
  refine (cuts_any _ _ _).mono ?_
  rintro e w2' ⟨rfl, rfl⟩
  obtain ⟨w2, hw2⟩ : ∃ w2, w2 = ((W.alloc (.cells #[.func (.yield l0) #[] #[]] 110)).alloc (.cells #[.int .i64 (l.length : Int)] 3)).alloc (.cells #[.int .i64 s] 3) := ⟨_, rfl⟩
  have hsz2 : w2.heap.size = W.heap.size + 3 := by rw [hw2]; simp
  have hb2 : Below W.heap.size W w2 := by rw [hw2]; exact (((Below.refl _ _).alloc (Nat.le_refl _) _).alloc (by simp) _).alloc (by simp only [World.size_alloc]; omega) _
  have hcy : w2.cell? ⟨W.heap.size, 0, none⟩ = some (.func (.yield l0) #[] #[]) := by
    rw [hw2, World.cell?_alloc_lt _ _ _ (by simp only [World.size_alloc]; omega), World.cell?_alloc_lt _ _ _ (by simp)]
    exact cell_alloc_new _ _ _ _
  have hcm2 : w2.cell? ⟨W.heap.size + 1, 0, none⟩ = some (.int .i64 (l.length : Int)) := by
    rw [hw2, World.cell?_alloc_lt _ _ _ (by simp)]
    exact cell_new_at _ _ _ _ (by simp)
  have hcs2 : w2.cell? ⟨W.heap.size + 2, 0, none⟩ = some (.int .i64 s) := by
    rw [hw2]
    exact cell_new_at _ _ _ _ (by simp)
  have hj2 : J [] (fun _ => False) w2 := hJ _ _ _ _ none h0 ⟨hb2.os, hb2.tape, hb2.output, hb2.size, fun k hk _ => hb2.block k hk⟩ (fun r e => by cases e)
  have hit := cuts1_it l.length s (W.heap.size + 2) (W.heap.size + 1) w2 hm hcs2 hcm2
  have hos : w2.ownsRow 0 5 1 (.slice A l.length c) l.length (byt l) := own_same hWown (fun k hk => hb2.block k (own_lt hWown hk))
  have hco2 : w2.cell? ⟨bo, 0, none⟩ = some (.slice A l.length c) := (hb2.cell (by simp; omega)).trans hWo
  have hmix : Tryd.prog.follows .mixedOrders = true := by kernel_rfl
  rw [← hw2]
  clear hw2 hao has
  go_wp2_with fail
  refine wpIn_wide.1 (wpIn_range_it (gf := 82) (lb := #[.pointer (some ⟨W.heap.size + 2, 0, none⟩), .pointer (some ⟨W.heap.size + 1, 0, none⟩)]) rfl (enters_of Tryd.func82 (by kernel_rfl) rfl) hit (by rintro k (rfl | rfl) <;> omega) (fun _ => rfl) (fun _ _ _ _ _ h => h)
    (inI l l0 J W bo A c) (inX l Jx W) ?hI ?hIx ?h0
    (fun x => { tmps := #[.func (.yield l0) #[] #[], .pointer (some ⟨bo, 0, none⟩), .pointer (some ⟨bs, 0, none⟩), .pointer (some ⟨W.heap.size, 0, none⟩), .int .i64 x.1, .int .i64 x.2, .slice A l.length c, .int .i64 l.length, .int .i64 s, .func (.func 82) #[] #[.pointer (some ⟨W.heap.size + 2, 0, none⟩), .pointer (some ⟨W.heap.size + 1, 0, none⟩)], .int .i64 x.1, .int .i64 x.2, undef, undef, undef, undef, undef, undef, undef, undef, undef], defers := [] }) ?assign ?body ?done ?stop)
  case assign =>
    intro l' x W' K hK
    simp only [encCut]
    gi_wp2
    exact hK
  case h0 => exact ⟨[], _, rfl, hj2, fun _ h => h.elim, fun _ h => h.elim, hcy, hco2, hos⟩
  case hI =>
    rintro s' O' V V' row ⟨pre, O, h1, h2, h3, h4, h5, h6, h7⟩ hg hr
    have hne : ∀ k, k < w2.heap.size → some k ≠ row := fun k hk e => by have := (hr k e.symm).1; omega
    refine ⟨pre, O, h1, hJ _ _ _ _ row h2 hg (fun r e => ⟨by have := (hr r e).1; omega, fun h => (hr r e).2 (h3 r h)⟩), h3, h4, (World.cell?_of_block (hg.block _ (lt_of_cell h5) (hne W.heap.size (by omega)))).trans h5, (World.cell?_of_block (hg.block _ (lt_of_cell h6) (hne bo (by omega)))).trans h6, own_same h7 (fun k hk => hg.block k (own_lt h7 hk) (hne k (by have := own_lt hWown hk; omega)))⟩
  case hIx =>
    rintro c' s' O' V V' row ⟨h0, pre, O, h1, h2, h3, h4⟩ hg hr
    exact ⟨h0, pre, O, h1, hJx _ _ _ _ row h2 hg (fun r e => ⟨by have := (hr r e).1; omega, fun h => (hr r e).2 (h3 r h)⟩), h3, h4⟩
  case body =>
    rintro l' pre' x O' V hVs hO' ⟨pre, O, h1, hj, hOO, hO5, hcy, hco, hos⟩ ⟨hx, hxl, hs1⟩ _
    have hlen : pre.length = pre'.length := by simpa using congrArg List.length h1
    obtain ⟨f, u⟩ := x
    have hfu : f < u ∧ u ≤ l.length := by
      simp only [cutk, Prod.mk.injEq] at hx
      omega
    obtain ⟨hfu1, hfu2⟩ := hfu
    have Hx := Lib.hid hx
    have H1 := Lib.hid h1
    have Hlen := Lib.hid hlen
    have Hs2 := Lib.hid hsz2
    clear hx h1 hlen hsz2
    obtain ⟨g0, c0, e0, _, hg0⟩ := hos.form (by omega)
    injection e0 with e0 _ e0'
    subst e0 e0'
    have hcap := (own_cap hos).1
    have hsl : Sees V V.heap.size (some ⟨g0, f, none⟩) (byt ((l.drop f).take (u - f))) := by
      have := (Sees.of_own hos).sub f (u - f)
      rw [Nat.zero_add, byt_drop, byt_take] at this
      exact this
    have hbl : ((l.drop f).take (u - f)).length = u - f := by simp; omega
    have hcl : ∀ V' : World, V'.heap = V.heap → Hid (Calls Tryd.prog 69 #[.slice (some ⟨g0, f, none⟩) (u - f) (c - f)] V' fun e w' => ∃ v, e = .returned v ∧ w'.ownsRow V'.heap.size 5 1 v (u - f) (byt ((l.drop f).take (u - f))) ∧ Below V'.heap.size V' w') :=
      fun V' hV' => Lib.hid (clone_any _ (u - f) (c - f) V.heap.size _ V' hbl (by omega) (hsl.keep fun p _ => World.cell?_of_block (by rw [hV'])) (by rw [hV']; exact Nat.le_refl _))
    clear hpW hsW hsl
    have rest : ∀ (w3 : World) (v : Value), w3.ownsRow V.heap.size 5 1 v (u - f) (byt ((l.drop f).take (u - f))) → Below V.heap.size V.drew w3 → ∃ g cap, v = .slice (some ⟨g, 0, none⟩) (u - f) cap ∧ w3.cell? ⟨W.heap.size, 0, none⟩ = some (.func (.yield l0) #[] #[]) ∧
        ∃ fn tmps assign body, (Instr.yield l0 #[.int .i64 f, .slice (some ⟨g, 0, none⟩) (u - f) cap]).run Tryd.prog w3 = .ok (.round l0 fn tmps assign body) w3 ∧
          RoundIn Fence.wide 0 Tryd.prog l0 fn tmps assign body w3 fun e W' => ∃ b, e = .returned (.bool b) ∧ Hid (Keeps (fun k => k = W.heap.size + 2 ∨ k = W.heap.size + 1) w2.heap.size O' (fun _ => False) V W' ∧
            (if b then inI l l0 J W bo (some ⟨g0, 0, none⟩) c (pre' ++ [(f, u)]) (nextO O' (fun _ => False) V W') W' else inX l Jx W (.exit 0) (pre' ++ [(f, u)]) (nextO O' (fun _ => False) V W') W')) := by
      intro w3 v hown3 hb3
      obtain ⟨g, cap, rfl, hgl, hgs⟩ := hown3.form (by omega)
      have hs3 : V.heap.size ≤ w3.heap.size := hb3.size
      have hs2' := Hs2.out
      have hblk : ∀ k, k < V.heap.size → w3.heap[k]? = V.heap[k]? := hb3.block
      have hcy3 : w3.cell? ⟨W.heap.size, 0, none⟩ = some (.func (.yield l0) #[] #[]) := (World.cell?_of_block (hblk W.heap.size (by omega))).trans hcy
      have hco3 : w3.cell? ⟨bo, 0, none⟩ = some (.slice (some ⟨g0, 0, none⟩) l.length c) := (World.cell?_of_block (hblk bo (lt_of_cell hco))).trans hco
      have hos3 : w3.ownsRow 0 5 1 (.slice (some ⟨g0, 0, none⟩) l.length c) l.length (byt l) := own_same hos (fun k hk => hblk k (own_lt hos hk))
      have hbo3 : bo < w3.heap.size := lt_of_cell hco3
      obtain ⟨x, hx⟩ : ∃ x : PX, x = ⟨f, (l.drop f).take (u - f), g, cap⟩ := ⟨_, rfl⟩
      have hxl : x.bytes.length = u - f := by rw [hx]; exact hbl
      have hxg : x.blk = g := by rw [hx]
      have hxp : x.prj = cutOf l (f, u) := by rw [hx]; rfl
      have hpre : prePart s l pre x w3 := by
        refine ⟨?_, by rw [hxp, Hx.out, Hlen.out], by omega⟩
        rw [hxl, hx]
        exact own_mono hown3 (Nat.zero_le _)
      have hOlt : ∀ k, O k → k < V.heap.size := fun k h => (hO' k (hOO k h)).2
      obtain ⟨fn, tmps, assign, body, hy, hR⟩ := hY pre x O w3 (by omega) (fun k h => by have := hO5 k h; have := hOlt k h; omega) (hJ _ _ _ _ none hj ⟨hb3.os, hb3.tape, hb3.output, hb3.size, fun k hk _ => hb3.block k hk⟩ (fun r e => by cases e)) hpre
        (fun k h => by
          have hk : k = g := by rw [← hxg]; exact h
          subst hk
          exact ⟨by omega, hgs, fun ho => by have := hOlt _ ho; omega⟩)
      have he : encPart x = #[.int .i64 f, .slice (some ⟨g, 0, none⟩) (u - f) cap] := by
        unfold encPart
        rw [hxl, hx]
      rw [he] at hy
      refine ⟨g, cap, rfl, hcy3, fn, tmps, assign, body, hy, hR.mono ?_⟩
      have hmem : ∀ k, memPart x k → k = g := fun k h => by rw [← hxg]; exact h
      have keeps : ∀ W', Keeps (fun k => k = bo ∨ k = bs ∨ (Value.slice (some ⟨g0, 0, none⟩) l.length c).ownBlock = some k) W.heap.size O (memPart x) w3 W' → Keeps (fun k => k = W.heap.size + 2 ∨ k = W.heap.size + 1) w2.heap.size O' (fun _ => False) V W' := fun W' hk => by
        refine ⟨Nat.le_trans hs3 hk.size, fun k hkl hp => ?_⟩
        refine (hk.same k (by omega) (.inr ⟨?_, ?_, fun h => by have := hmem k h; omega⟩)).trans (hblk k hkl)
        · rcases hp with (rfl | rfl) | ⟨h, _⟩ <;> omega
        · intro ho
          rcases hp with (rfl | rfl) | ⟨_, h, _⟩
          · have := hO5 _ ho; omega
          · have := hO5 _ ho; omega
          · exact h (hOO k ho)
      have sub : ∀ W', w3.heap.size ≤ W'.heap.size → (∀ k, nextO O (memPart x) w3 W' k → nextO O' (fun _ => False) V W' k) ∧ ∀ k, nextO O (memPart x) w3 W' k → W.heap.size + 5 ≤ k := fun W' hsW' => by
        refine ⟨fun k h => ?_, fun k h => ?_⟩
        · rcases h with h | h | h
          · exact .inl (hOO k h)
          · have := hmem k h; exact .inr (.inr (by omega))
          · exact .inr (.inr (by omega))
        · rcases h with h | h | h
          · exact hO5 k h
          · have := hmem k h; omega
          · omega
      have hmap : (pre ++ [x]).map PX.prj = (pre' ++ [(f, u)]).map (cutOf l) := by
        rw [List.map_append, List.map_append, H1.out]
        simp [hxp]
      rintro e W' ⟨hk, (⟨rfl, hj'⟩ | ⟨rfl, hjx⟩)⟩
      · refine ⟨true, rfl, keeps W' hk, ?_⟩
        rw [if_pos rfl]
        obtain ⟨s1, s2⟩ := sub W' hk.size
        refine ⟨pre ++ [x], _, hmap, hj', s1, s2, ?_, ?_, ?_⟩
        · exact (World.cell?_of_block (hk.same W.heap.size (by omega) (.inr ⟨Nat.le_refl _, fun h => by have := hO5 _ h; omega, fun h => by have := hmem _ h; omega⟩))).trans hcy3
        · exact (World.cell?_of_block (hk.same bo hbo3 (.inl (.inl rfl)))).trans hco3
        · exact own_same hos3 (fun k h => hk.same k (own_lt hos3 h) (.inl (.inr (.inr h))))
      · refine ⟨false, rfl, keeps W' hk, ?_⟩
        rw [if_neg (by simp)]
        obtain ⟨s1, s2⟩ := sub W' hk.size
        exact ⟨rfl, pre ++ [x], _, hmap, hjx, s1, s2⟩
    have huc : u ≤ c := by omega
    have hfu' : f ≤ u := by omega
    have hcf : ¬ c = f := by omega
    have hrd := Lib.hid rest
    clear rest
    have rest := hrd
    clear hrd
    gi_wp2
    rename_i hKc _
    refine region_round l' hmix (by kernel_rfl) ?_
    refine wpAnyIn_take (i := 1) (v := ?_) rfl rfl (by kernel_rfl) (by kernel_rfl) (by kernel_rfl) (fun _ _ _ h => h) ⟨Or.inl ⟨by rfl, ?_⟩, fun _ => rfl⟩ ?_
    rotate_left
    · intro w
      go_simp
      try with_reducible rfl
    refine wpAnyIn_take (i := 3) (v := ?_) rfl rfl (by kernel_rfl) (by kernel_rfl) (by kernel_rfl) (fun _ _ _ h => h) ⟨Or.inl ⟨by rfl, ?_⟩, fun _ => rfl⟩ ?_
    rotate_left
    · intro w
      go_simp
      try with_reducible rfl
    refine wpAnyIn_take (i := 4) (v := ?_) rfl rfl (by kernel_rfl) (by kernel_rfl) (by kernel_rfl) (fun _ _ _ h => h) ⟨Or.inl ⟨by rfl, ?_⟩, fun _ => rfl⟩ ?_
    rotate_left
    · intro w
      go_simp
      try with_reducible rfl
    refine wpAnyIn_ready (rs := [0, 2]) (by kernel_rfl) (by simp) ?_
    refine AllReadyIn.cons rfl (fun K hK => ?_) (AllReadyIn.cons rfl (fun K hK => ?_) AllReadyIn.nil)
    · go_simp
      refine hK _ _ ?_
      clear hK K
      refine wpAnyIn_ready (rs := [2]) (by kernel_rfl) (by simp) ?_
      refine AllReadyIn.cons rfl (fun K hK => ?_) AllReadyIn.nil
      go_simp
      refine hK _ _ ?_
      clear hK K
      refine wpAnyIn_take (i := 5) (v := ?_) rfl rfl (by kernel_rfl) (by kernel_rfl) (by kernel_rfl) (fun _ _ _ h => h) ⟨Or.inl ⟨by rfl, ?_⟩, fun _ => rfl⟩ ?_
      rotate_left
      · intro w
        go_simp
        try with_reducible rfl
      refine wpAnyIn_ready (rs := [6]) (by kernel_rfl) (by simp) ?_
      refine AllReadyIn.cons rfl (fun K hK => ?_) AllReadyIn.nil
      go_simp
      refine ⟨trivial, rfl, ?_⟩
      refine (callsIn_wide.2 (hcl V.drew rfl).out).mono ?_
      rintro e w3 ⟨v, rfl, hown3, hb3⟩
      obtain ⟨g, cap, rfl, hcy3, fn, tmps, assign, body, hy, hR⟩ := rest.out w3 v hown3 hb3
      refine hK _ _ ?_
      clear hK K
      refine wpAnyIn_ready (rs := [7]) (by kernel_rfl) (by simp) ?_
      refine AllReadyIn.cons rfl (fun K hK => ?_) AllReadyIn.nil
      go_simp
      refine ⟨rfl, ?_⟩
      refine hR.mono ?_
      rintro e W' ⟨b, rfl, hfin⟩
      refine hK _ _ ?_
      clear hK K
      refine wpAnyIn_take (i := 8) (v := ?_) rfl rfl (by kernel_rfl) (by kernel_rfl) (by kernel_rfl) (fun _ _ _ h => h) ⟨Or.inl ⟨by rfl, ?_⟩, fun _ => rfl⟩ ?_
      rotate_left
      · intro w
        go_simp
        try with_reducible rfl
      refine wpAnyIn_done (by kernel_rfl) ?_ _
      refine hKc _ _ ?_
      cases b
      · gi_wp2
        exact hfin.out
      · gi_wp2
        exact hfin.out
    · go_simp
      refine hK _ _ ?_
      clear hK K
      refine wpAnyIn_take (i := 5) (v := ?_) rfl rfl (by kernel_rfl) (by kernel_rfl) (by kernel_rfl) (fun _ _ _ h => h) ⟨Or.inl ⟨by rfl, ?_⟩, fun _ => rfl⟩ ?_
      rotate_left
      · intro w
        go_simp
        try with_reducible rfl
      refine wpAnyIn_ready (rs := [0, 6]) (by kernel_rfl) (by simp) ?_
      refine AllReadyIn.cons rfl (fun K hK => ?_) (AllReadyIn.cons rfl (fun K hK => ?_) AllReadyIn.nil)
      · go_simp
        refine hK _ _ ?_
        clear hK K
        refine wpAnyIn_ready (rs := [6]) (by kernel_rfl) (by simp) ?_
        refine AllReadyIn.cons rfl (fun K hK => ?_) AllReadyIn.nil
        go_simp
        refine ⟨trivial, rfl, ?_⟩
        refine (callsIn_wide.2 (hcl V.drew rfl).out).mono ?_
        rintro e w3 ⟨v, rfl, hown3, hb3⟩
        obtain ⟨g, cap, rfl, hcy3, fn, tmps, assign, body, hy, hR⟩ := rest.out w3 v hown3 hb3
        refine hK _ _ ?_
        clear hK K
        refine wpAnyIn_ready (rs := [7]) (by kernel_rfl) (by simp) ?_
        refine AllReadyIn.cons rfl (fun K hK => ?_) AllReadyIn.nil
        go_simp
        refine ⟨rfl, ?_⟩
        refine hR.mono ?_
        rintro e W' ⟨b, rfl, hfin⟩
        refine hK _ _ ?_
        clear hK K
        refine wpAnyIn_take (i := 8) (v := ?_) rfl rfl (by kernel_rfl) (by kernel_rfl) (by kernel_rfl) (fun _ _ _ h => h) ⟨Or.inl ⟨by rfl, ?_⟩, fun _ => rfl⟩ ?_
        rotate_left
        · intro w
          go_simp
          try with_reducible rfl
        refine wpAnyIn_done (by kernel_rfl) ?_ _
        refine hKc _ _ ?_
        cases b
        · gi_wp2
          exact hfin.out
        · gi_wp2
          exact hfin.out
      · go_simp
        refine ⟨trivial, rfl, ?_⟩
        refine (callsIn_wide.2 (hcl V.drew rfl).out).mono ?_
        rintro e w3 ⟨v, rfl, hown3, hb3⟩
        obtain ⟨g, cap, rfl, hcy3, fn, tmps, assign, body, hy, hR⟩ := rest.out w3 v hown3 hb3
        refine hK _ _ ?_
        clear hK K
        refine wpAnyIn_ready (rs := [0]) (by kernel_rfl) (by simp) ?_
        refine AllReadyIn.cons rfl (fun K hK => ?_) AllReadyIn.nil
        go_simp
        refine hK _ _ ?_
        clear hK K
        refine wpAnyIn_ready (rs := [7]) (by kernel_rfl) (by simp) ?_
        refine AllReadyIn.cons rfl (fun K hK => ?_) AllReadyIn.nil
        go_simp
        refine ⟨rfl, ?_⟩
        refine hR.mono ?_
        rintro e W' ⟨b, rfl, hfin⟩
        refine hK _ _ ?_
        clear hK K
        refine wpAnyIn_take (i := 8) (v := ?_) rfl rfl (by kernel_rfl) (by kernel_rfl) (by kernel_rfl) (fun _ _ _ h => h) ⟨Or.inl ⟨by rfl, ?_⟩, fun _ => rfl⟩ ?_
        rotate_left
        · intro w
          go_simp
          try with_reducible rfl
        refine wpAnyIn_done (by kernel_rfl) ?_ _
        refine hKc _ _ ?_
        cases b
        · gi_wp2
          exact hfin.out
        · gi_wp2
          exact hfin.out
  case done =>
    rintro xs O' V ⟨hall, hsl, hge⟩ ⟨pre, O, h1, hj, hOO, hO5, _⟩ hD
    have hpl : pre.length = xs.length := by simpa using congrArg List.length h1
    have hap : Hid (allParts s l pre) := by
      refine ⟨?_, fun h => ?_, fun h => by rw [hpl]; exact hge h⟩
      · rw [h1, hpl]
        conv => lhs; rw [hall]
        simp
      · have := hsl h
        rw [this] at hpl
        exact List.eq_nil_of_length_eq_zero hpl
    have hjD : J pre O (V.putObj w2.heap.size (.deferred none)) := hJ _ _ _ _ _ hj (putObj_grown V _ _) (fun r e => by cases e; exact ⟨by omega, fun h => by have := hO5 _ h; omega⟩)
    clear hall hsl hge h1 hpl
    go_wp2
    refine hR.out _ _ _ _ (by simp) ?_
    refine ⟨by simp, .inl ⟨_, _, rfl, run_takeDeferred hD, ?_⟩⟩
    exact ⟨_, results_none rfl _ _ _, itEnd.all hap.out hjD⟩
  case stop =>
    rintro c' pre' O' V hsc ⟨rfl, pre, O, h1, hj, hOO, hO5⟩ hD
    have hpl : pre.length = pre'.length := by simpa using congrArg List.length h1
    have hap : Hid (someParts s l pre) := by
      show pre.map PX.prj = _
      rw [h1, hpl]
      conv => lhs; rw [show pre' = _ from hsc]
      simp
    have hjD : Jx pre O (V.putObj w2.heap.size (.deferred none)) := hJx _ _ _ _ _ hj (putObj_grown V _ _) (fun r e => by cases e; exact ⟨by omega, fun h => by have := hO5 _ h; omega⟩)
    clear h1 hpl hsc
    refine wpIn_wide.2 ?_
    go_wp2
    refine hR.out _ _ _ _ (by simp) ?_
    refine ⟨by simp, .inl ⟨_, _, rfl, run_takeDeferred hD, ?_⟩⟩
    exact ⟨_, results_none rfl _ _ _, itEnd.part hap.out hjD⟩
end Go.Proofs.YtfmbfojlopibnaaDoor
