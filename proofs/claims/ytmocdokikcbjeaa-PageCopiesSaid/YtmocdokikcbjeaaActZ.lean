import Derived.Test.YtmocdokikcbjeaaLawR
import Derived.Test.YtmocdokikcbjeaaRP
import Derived.Test.YtmocdokikcbjeaaActs
namespace Go.Proofs.Ytmocdokikcbjeaa
open Go.RowKit Go.Shelf Go.Maps Go.Sort

/- A CALL BY BOTH: WHAT LIES WHERE. -/

def stepT (l : Tb) (x : Ac) : Tb := if x.what = 0 then mapT l x.page x.en else if x.what = 1 then unmapT l x.page else if x.what = 2 then protT l x.page x.en.2.1 else l
theorem step_ok {l : Tb} (h : Tok l) (x : Ac) (hx : x.fits) : Tok (stepT l x) := by
  unfold stepT
  split
  · exact map_ok h _ _ hx.en
  split
  · exact unmap_ok h _
  split
  · exact prot_ok h _ _
  · exact h
theorem Has.apart {w V : World} {b : Nat} {l0 l : Tb} {F : Nat → Prop} {A : Option Addr} (h : Has w b l0 F) (hA : Lies w A l) (hk : Keep F w V) : Lies V A l := by
  refine hA.keepX ?_
  rintro k ⟨hn, ad, rfl, rfl⟩
  obtain ⟨bp, bf, h1, rfl⟩ := h
  obtain ⟨ad2, e2, hlt, hc⟩ := Sees.at_ (k := 0) hA (by
    cases l with
    | nil => exact absurd rfl hn
    | cons r t => simp [encR])
  cases e2
  obtain ⟨r, t, rfl⟩ : ∃ r t, l = r :: t := by
    cases l with
    | nil => exact absurd rfl hn
    | cons r t => exact ⟨r, t, rfl⟩
  have hc2 : w.cell? (ad.add 0) = some (.int .i64 r.1) := by rw [hc]; rfl
  exact hk.block _ hlt (by have := h1.apart hc2; rwa [add_block] at this)
section
variable {w V V' : World} {b : Nat} {l : Tb} {F : Nat → Prop}
theorem Has.mapN (h : Has w b l F) (p : Int) (x : En) (hx : En64 x) : Calls Try.prog 18 #[bx b, .int .i64 p, enV x] w fun e w' => e = .returned (.int .i64 (mapE l p x : Int)) ∧ Next w b (mapT l p x) F w' := by
  by_cases hE : mapE l p x = 0
  · rw [hE]
    exact map_yes h p x hx hE
  · exact map_no h p x hx hE
theorem Has.unmapN (h : Has w b l F) (p : Int) : Calls Try.prog 21 #[bx b, .int .i64 p] w fun e w' => e = .returned (.tuple #[enV (unmapX l p), .int .i64 (unmapE l p : Int)]) ∧ Next w b (unmapT l p) F w' := by
  by_cases hE : unmapE l p = 0
  · rw [hE]
    exact unmap_yes h p hE
  · exact unmap_no h p hE
theorem Has.protN (h : Has w b l F) (p m : Int) : Calls Try.prog 22 #[bx b, .int .i64 p, .int .i64 m] w fun e w' => e = .returned (.tuple #[.int .i64 (protM l p m), .int .i64 (protE l p m : Int)]) ∧ Next w b (protT l p m) F w' := by
  by_cases hE : protE l p m = 0
  · rw [hE]
    exact prot_yes h p m hE
  · exact prot_no h p m hE
theorem Has.getN (h : Has w b l F) (z : Int) (hz : I64 z) : Calls Try.prog 27 #[bx b, .int .i64 z] w fun e w' => e = .returned (.tuple #[enV (getX l z), .bool (look l z).isSome]) ∧ Below w.heap.size w w' := by
  obtain ⟨bp, bf, h1, rfl⟩ := h
  exact get_any h1 z hz
theorem Has.freeN (h : Has w b l F) (a m : Int) : Calls Try.prog 26 #[bx b, .int .i64 a, .int .i64 m] w fun e w' => e = .returned (.tuple #[.bool (freeQ l a m), .int .i64 (freeE a m : Int)]) ∧ Below w.heap.size w w' := by
  obtain ⟨bp, bf, h1, rfl⟩ := h
  exact free_any h1 a m
theorem Has.nxtN (h : Has w b l F) (a m : Int) : Calls Try.prog 19 #[bx b, .int .i64 a, .int .i64 m] w fun e w' => e = .returned (.tuple #[.int .i64 (if 0 ≤ nextI l a m then nextI l a m else 0), .bool (decide (0 ≤ nextI l a m))]) ∧ Below w.heap.size w w' := by
  obtain ⟨bp, bf, h1, rfl⟩ := h
  exact next_any h1 a m
theorem Has.copyN (h : Has w b l F) : Calls Try.prog 13 #[bx b] w fun e w' => ∃ c Fc, e = .returned (bx c) ∧ Has w' c l Fc ∧ (∀ k, Fc k → w.heap.size ≤ k) ∧ Below w.heap.size w w' := by
  obtain ⟨bp, bf, h1, rfl⟩ := h
  exact Copy_any h1
end

theorem cell_same {W V : World} {a : Addr} (h : W.heap[a.block]? = V.heap[a.block]?) : W.cell? a = V.cell? a := World.cell?_of_block h
/-- the blocks that the call lays first -/
structure AtW (w : World) (F : Nat → Prop) (A : Option Addr) (n c : Nat) (x : Ac) (V : World) : Prop where
  keep : Keep F w V
  s : w.heap.size + 3 ≤ V.heap.size
  t : Row V w.heap.size 29 [.slice A n c]
  a : Row V (w.heap.size + 1) 36 [.int .i64 x.what, .int .i64 x.page, .int .i64 x.many, .int .i64 x.en.1, .int .i64 x.en.2.1, .int .i64 x.en.2.2]
  r : Row V (w.heap.size + 2) 29 [.slice none 0 0]
structure AtC (w : World) (A : Option Addr) (n c : Nat) (x : Ac) (V : World) : Prop where
  t0 : V.cell? ⟨w.heap.size, 0, none⟩ = some (.slice A n c)
  a0 : V.cell? ⟨w.heap.size + 1, 0, none⟩ = some (.int .i64 x.what)
  a1 : V.cell? ⟨w.heap.size + 1, 1, none⟩ = some (.int .i64 x.page)
  a2 : V.cell? ⟨w.heap.size + 1, 2, none⟩ = some (.int .i64 x.many)
  a3 : V.cell? ⟨w.heap.size + 1, 3, none⟩ = some (.int .i64 x.en.1)
  a4 : V.cell? ⟨w.heap.size + 1, 4, none⟩ = some (.int .i64 x.en.2.1)
  a5 : V.cell? ⟨w.heap.size + 1, 5, none⟩ = some (.int .i64 x.en.2.2)
  r0 : V.cell? ⟨w.heap.size + 1 + 1, 0, none⟩ = some (.slice none 0 0)
  z0 : V.frozen? ⟨w.heap.size + 1 + 1, 0, none⟩ = false
section
variable {w V V' : World} {F : Nat → Prop} {A : Option Addr} {n cc : Nat} {x : Ac}
theorem AtW.c (h : AtW w F A n cc x V) : AtC w A n cc x V :=
  ⟨h.t.cell 0, h.a.cell 0, h.a.cell 1, h.a.cell 2, h.a.cell 3, h.a.cell 4, h.a.cell 5, h.r.cell 0, h.r.frozen 0⟩
theorem AtW.next (h : AtW w F A n cc x V) (hF : ∀ k, F k → k < w.heap.size) (hk : Keep F V V') : AtW w F A n cc x V' :=
  ⟨h.keep.trans hk fun _ _ h => h, Nat.le_trans h.s hk.size, hk.row h.t fun hf => by have := hF _ hf; omega, hk.row h.a fun hf => by have := hF _ hf; omega, hk.row h.r fun hf => by have := hF _ hf; omega⟩
theorem AtW.more (h : AtW w F A n cc x V) (hF : ∀ k, F k → k < w.heap.size) (hb : Below V.heap.size V V') : AtW w F A n cc x V' := h.next hF (Keep.of_below hb)
theorem AtW.new (w : World) (F : Nat → Prop) (A : Option Addr) (n cc : Nat) (x : Ac) : AtW w F A n cc x (((w.alloc (.cells #[.slice A n cc] 29)).alloc (.cells #[.int .i64 x.what, .int .i64 x.page, .int .i64 x.many, .int .i64 x.en.1, .int .i64 x.en.2.1, .int .i64 x.en.2.2] 36)).alloc (.cells #[.slice none 0 0] 29)) :=
  ⟨Keep.of_below (below3 _ _ _ _), by simp, ((Row.new w _ _).below (below1 _ _)).below (below1 _ _), (Row.new_at _ _ _ (by simp)).below (below1 _ _), Row.new_at _ _ _ (by simp)⟩
theorem AtW.fin (h : AtW w F A n cc x V) (v : Value) : (loadVar 29 ⟨w.heap.size + 1 + 1, 0, none⟩).run Try.prog (V.setCell ⟨w.heap.size + 1 + 1, 0, none⟩ v) = .ok (.agg #[v]) (V.setCell ⟨w.heap.size + 1 + 1, 0, none⟩ v) ∧ Keep F w (V.setCell ⟨w.heap.size + 1 + 1, 0, none⟩ v) ∧ Below w.heap.size V (V.setCell ⟨w.heap.size + 1 + 1, 0, none⟩ v) :=
  ⟨load_tb ((h.r.set 0 v).cell 0), h.keep.set v (.inr (by omega)), ((Below.refl V.heap.size V).mono (by have := h.s; omega)).setCell (show w.heap.size ≤ w.heap.size + 1 + 1 by omega) v⟩
end
theorem res_mid {fn : Func} {p q t : Tmp} {ty : TypeId} (h : fn.results = #[.tmp p, .cell q ty, .tmp t]) {tmps : Array Value} {P : Program} {w : World} {a : Addr} (ha : tmps.getD q undef = .pointer (some a)) {v : Value} (hv : (loadVar ty a).run P w = .ok v w) :
    (results fn tmps).run P w = .ok (.tuple #[tmps.getD p undef, v, tmps.getD t undef]) w := by
  have h1 : (results fn tmps).run P w = ((asAddr (tmps.getD q undef)).run P w).andThen fun a w₁ => ((loadVar ty a).run P w₁).andThen fun v w₂ => .ok (.tuple #[tmps.getD p undef, v, tmps.getD t undef]) w₂ := by
    unfold results
    rw [h]
    simp [Sem.run_bind, Result.andThen]
  rw [h1, ha]
  show ((loadVar ty a).run P w).andThen _ = _
  rw [hv]
  rfl
/-- behind a call: another table, perhaps a copy, and its rows -/
def ActP (w : World) (F : Nat → Prop) (l' : Tb) (e : Ending) (w' : World) : Prop :=
  ∃ b' F' A' c', e = .returned (.tuple #[bx b', .agg #[.slice A' l'.length c'], .bool true]) ∧ Has w' b' l' F' ∧ (∀ k, F' k → F k ∨ w.heap.size ≤ k) ∧ Keep F w w' ∧ l'.length ≤ c' ∧ Lies w' A' l'
/-- the last store: the answer's table -/
theorem AtW.done {w V : World} {F : Nat → Prop} {A A' : Option Addr} {n c c' b : Nat} {x : Ac} {l' : Tb} (h : AtW w F A n c x V) (hF : ∀ k, F k → k < w.heap.size) (hH : Has V b l' F) (hc : l'.length ≤ c') (hA : Lies V A' l') :
    (loadVar 29 ⟨w.heap.size + 1 + 1, 0, none⟩).run Try.prog (V.setCell ⟨w.heap.size + 1 + 1, 0, none⟩ (.slice A' l'.length c')) = .ok (.agg #[.slice A' l'.length c']) (V.setCell ⟨w.heap.size + 1 + 1, 0, none⟩ (.slice A' l'.length c')) ∧
    ActP w F l' (.returned (.tuple #[bx b, .agg #[.slice A' l'.length c'], .bool true])) (V.setCell ⟨w.heap.size + 1 + 1, 0, none⟩ (.slice A' l'.length c')) := by
  obtain ⟨f1, f2, f3⟩ := h.fin (.slice A' l'.length c')
  refine ⟨f1, b, F, A', c', rfl, hH.keep fun k hk => heap_set (by have := hF k hk; omega), fun k hk => .inl hk, f2, hc, hA.keepX ?_⟩
  rintro k ⟨hn, ad, rfl, rfl⟩
  refine heap_set ?_
  obtain ⟨ad2, e2, hlt, hcc⟩ := Sees.at_ (k := 0) hA (by
    cases l' with
    | nil => exact absurd rfl hn
    | cons r t => simp [encR])
  cases e2
  obtain ⟨r, t, rfl⟩ : ∃ r t, l' = r :: t := by
    cases l' with
    | nil => exact absurd rfl hn
    | cons r t => exact ⟨r, t, rfl⟩
  have hc2 : V.cell? (ad.add 0) = some (.int .i64 r.1) := by rw [hcc]; rfl
  have := not_cell h.r (by simp) hc2
  rwa [add_block] at this
/-- the same, behind a copy -/
theorem AtW.done2 {w V : World} {F G : Nat → Prop} {A A' : Option Addr} {n cc c' b : Nat} {x : Ac} {l' : Tb} (h : AtW w F A n cc x V) (hH : Has V b l' G) (hG : ∀ k, G k → w.heap.size + 3 ≤ k) (hc : l'.length ≤ c') (hA : Lies w A' l') (hb : Below w.heap.size w V) :
    (loadVar 29 ⟨w.heap.size + 1 + 1, 0, none⟩).run Try.prog (V.setCell ⟨w.heap.size + 1 + 1, 0, none⟩ (.slice A' l'.length c')) = .ok (.agg #[.slice A' l'.length c']) (V.setCell ⟨w.heap.size + 1 + 1, 0, none⟩ (.slice A' l'.length c')) ∧
    ActP w F l' (.returned (.tuple #[bx b, .agg #[.slice A' l'.length c'], .bool true])) (V.setCell ⟨w.heap.size + 1 + 1, 0, none⟩ (.slice A' l'.length c')) := by
  obtain ⟨f1, f2, f3⟩ := h.fin (.slice A' l'.length c')
  exact ⟨f1, b, G, A', c', rfl, hH.keep fun k hk => heap_set (by have := hG k hk; omega), fun k hk => .inr (by have := hG k hk; omega), f2, hc, hA.below (hb.setCell (show w.heap.size ≤ w.heap.size + 1 + 1 by omega) _)⟩
theorem unmap_gone {l : Tb} (h : Tok l) (p : Int) : look (unmapT l p) p = none := by
  rw [look_none]
  intro r hr
  unfold unmapT at hr
  split at hr
  · have := (List.mem_filter.1 hr).2
    simpa using this
  next h0 =>
    intro e
    subst e
    have h1 := h.page r hr
    have h2 := (look_mem h.sorted (z := r.1) (e := r.2)).2 hr
    refine h0 ?_
    unfold unmapE
    rw [if_neg (by rw [h1]; decide), if_neg (by rw [h2]; simp)]
end Go.Proofs.Ytmocdokikcbjeaa

namespace Go.Proofs.Ytmocdokikcbjeaa
open Go.RowKit Go.Shelf Go.Maps Go.Sort
attribute [local go_sem] Oper.semAt_some

/- A CALL BY BOTH: MAP. -/
set_option maxRecDepth 100000 in
set_option maxHeartbeats 4000000 in
theorem act_map {w : World} {b c : Nat} {l : Tb} {F : Nat → Prop} {A : Option Addr} (h : Has w b l F) (hcap : l.length ≤ c) (hA : Lies w A l) (p m o1 o2 o3 : Int) (hx : (⟨0, p, m, (o1, o2, o3)⟩ : Ac).fits) :
    Calls Try.prog 10 #[bx b, .agg #[.slice A l.length c], .agg #[.int .i64 0, .int .i64 p, .int .i64 m, .int .i64 o1, .int .i64 o2, .int .i64 o3]] w (ActP w F (stepT l ⟨0, p, m, (o1, o2, o3)⟩)) := by
  have hF := h.lt
  have hok := h.ok
  have hlen := hok.len
  have hnum := Lib.hid (fun n w => num_any n w)
  obtain ⟨W3, hW3⟩ : ∃ W3, W3 = ((w.alloc (.cells #[.slice A l.length c] 29)).alloc (.cells #[.int .i64 0, .int .i64 p, .int .i64 m, .int .i64 o1, .int .i64 o2, .int .i64 o3] 36)).alloc (.cells #[.slice none 0 0] 29) := ⟨_, rfl⟩
  have hb3 : Below w.heap.size w W3 := hW3 ▸ below3 _ _ _ _
  have M3 : AtW w F A l.length c ⟨0, p, m, (o1, o2, o3)⟩ W3 := hW3 ▸ AtW.new w F A l.length c ⟨0, p, m, (o1, o2, o3)⟩
  obtain ⟨t0, a0, a1, a2, a3, a4, a5, r0, z0⟩ := M3.c
  simp only at a0 a1 a2 a3 a4 a5
  rw [hW3] at t0 a0 a1 a2 a3 a4 a5 r0 z0
  have hen := hx.en
  have hpg := hx.page
  simp only at hen hpg
  have hl0 : Tok (mapT l p (o1, o2, o3)) := map_ok hok _ _ hen
  have HM := Lib.hid (rmap_any l A c p (o1, o2, o3) W3 hok hcap (hA.below hb3))
  have HN := Lib.hid (fun V (hV : Has V b l F) => hV.mapN p (o1, o2, o3) hen)
  rw [show enV (o1, o2, o3) = .agg #[.int .i64 o1, .int .i64 o2, .int .i64 o3] from rfl] at HM HN
  obtain ⟨E, hE⟩ : ∃ E, E = mapE l p (o1, o2, o3) := ⟨_, rfl⟩
  obtain ⟨l', hl'⟩ : ∃ l', l' = mapT l p (o1, o2, o3) := ⟨_, rfl⟩
  have HS : Hid (stepT l ⟨0, p, m, (o1, o2, o3)⟩ = l') := Lib.hid (by rw [hl']; rfl)
  rw [HS.out]
  rw [← hE, ← hl'] at HM HN
  rw [← hl'] at hl0
  clear hE hl'
  have hlen' : l'.length ≤ 65536 := hl0.len
  go_enter Try.func10, Try.ntmps10
  go_wp2_with fail
  rw [← hW3]
  refine (HM.out).mono ?_
  rintro e V1 ⟨A', c', rfl, hc', hLi, hb1⟩
  obtain ⟨L, hL⟩ : ∃ L, L = l'.length := ⟨_, rfl⟩
  rw [← hL]
  rcases at_look (l := l') (z := p) with ⟨h1, h2⟩ | ⟨k, hk, h1, h2, h3⟩
  · have HGET := Lib.hid (fun V (hV : Has V b l' F) => hV.getN p hpg)
    rw [show getX l' p = (0, 0, 0) by unfold getX; rw [h2]; rfl, h2] at HGET
    rw [show enV (0, 0, 0) = .agg #[.int .i64 0, .int .i64 0, .int .i64 0] from rfl, show (none : Option En).isSome = false from rfl] at HGET
    have dz : decide ((0 : Int) ≤ (-1 : Int)) = false := rfl
    have HAT := Lib.hid (fun V (hV : Lies V A' l') => rat_any l' A' l'.length c' p V rfl hlen' hV)
    rw [h1, ← hL] at HAT
    have HLL := Lib.hid hL
    clear hL
    have hbA := below1 V1 (.cells #[.slice A' L c'] 29)
    have M4a := M3.more hF hb1
    have M4 := M4a.more hF hbA
    have H4 := ((h.below hb3).below hb1).below hbA
    have rT4 := Row.new V1 29 [.slice A' L c']
    have L4 := hLi.below hbA
    obtain ⟨g9, hg9⟩ : ∃ g9, g9 = V1.heap.size := ⟨_, rfl⟩
    have hg9F : ¬ F g9 := fun hf => by
      have := hF _ hf
      have := M3.s
      have := hb1.size
      omega
    rw [← hg9] at rT4
    have HG9 := Lib.hid hg9
    clear hg9
    clear t0 a0 a1 a2 a3 a4 a5 r0 z0 h1
    obtain ⟨t0, a0, a1, a2, a3, a4, a5, r0, z0⟩ := M4.c
    simp only at a0 a1 a2 a3 a4 a5
    have HN4 := Lib.hid (HN.out _ H4)
    have d0 : True := trivial
    go_wp2_with fail
    refine (HN4.out).mono ?_
    rintro e V3 ⟨rfl, hH5, hK5⟩
    rw [← HG9.out]
    have M5 := M4.next hF hK5
    have rT5 := hK5.row rT4 hg9F
    have L5 := H4.apart L4 hK5
    clear t0 a0 a1 a2 a3 a4 a5 r0 z0 HN4 HN HM
    obtain ⟨t0, a0, a1, a2, a3, a4, a5, r0, z0⟩ := M5.c
    simp only at a0 a1 a2 a3 a4 a5
    have HG5 := Lib.hid (HGET.out _ hH5)
    go_wp2_with fail
    refine (HG5.out).mono ?_
    rintro e V4 ⟨rfl, hb6⟩
    have hbB := below1 V4 (.cells #[.int .i64 0, .int .i64 0, .int .i64 0] 34)
    have M6a := M5.more hF hb6
    have M6 := M6a.more hF hbB
    have H6 := (hH5.below hb6).below hbB
    have rT6 := (rT5.below hb6).below hbB
    have L6 := (L5.below hb6).below hbB
    have rE6 := Row.new V4 34 [.int .i64 0, .int .i64 0, .int .i64 0]
    obtain ⟨g12, hg12⟩ : ∃ g12, g12 = V4.heap.size := ⟨_, rfl⟩
    rw [← hg12] at rE6
    have HG12 := Lib.hid hg12
    clear hg12
    clear t0 a0 a1 a2 a3 a4 a5 r0 z0 HG5 HGET
    obtain ⟨t0, a0, a1, a2, a3, a4, a5, r0, z0⟩ := M6.c
    simp only at a0 a1 a2 a3 a4 a5
    have cT := rT6.cell 0
    simp only [List.getElem?_cons_zero] at cT
    have HA6 := Lib.hid (HAT.out _ L6)
    go_wp2_with fail
    refine (HA6.out).mono ?_
    rintro e V6 ⟨rfl, hb7⟩
    rw [← HG12.out]
    have M7 := (M6.more hF hb7)
    have H7 := (H6.below hb7)
    have rT7 := (rT6.below hb7)
    have L7 := (L6.below hb7)
    have rE7 := (rE6.below hb7)
    clear t0 a0 a1 a2 a3 a4 a5 r0 z0 HA6 HAT cT
    obtain ⟨t0, a0, a1, a2, a3, a4, a5, r0, z0⟩ := M7.c
    simp only at a0 a1 a2 a3 a4 a5
    have hn9 : g9 ≠ w.heap.size + 2 := by
      have := HG9.out
      have := M3.s
      have := hb1.size
      omega
    have hn12 : g12 ≠ w.heap.size + 2 := by
      have := HG12.out
      have := M3.s
      have := hb1.size
      have := hbA.size
      have := hK5.size
      have := hb6.size
      simp only [World.size_alloc] at *
      omega
    have KS := Lib.hid (fun (W : World) (hW : ∀ q, q ≠ w.heap.size + 2 → W.heap[q]? = V6.heap[q]?) => (show W.cell? ⟨g9, 0, none⟩ = some (.slice A' L c') ∧ W.cell? ⟨g12, 0, none⟩ = some (.int .i64 0) ∧ W.cell? ⟨g12, 1, none⟩ = some (.int .i64 0) ∧ W.cell? ⟨g12, 2, none⟩ = some (.int .i64 0) from ⟨(cell_same (hW _ hn9)).trans (rT7.cell 0), (cell_same (hW _ hn12)).trans (rE7.cell 0), (cell_same (hW _ hn12)).trans (rE7.cell 1), (cell_same (hW _ hn12)).trans (rE7.cell 2)⟩))
    have hbd : Below V6.heap.size V6 V6.drew := (Below.refl _ _).drew
    obtain ⟨f1, f2⟩ := (M7.more hF hbd).done hF (H7.below hbd) hc' (L7.below hbd)
    rw [← HLL.out] at f1 f2
    have F1 := Lib.hid f1
    have F2 := Lib.hid f2
    clear f1 f2 hbd M3 M4 M5 M6 M7 H4 hH5 H6 H7 rT4 rT5 rT6 rT7 rE6 rE7 hLi L4 L5 L6 L7 hb1 hbA hb6 hbB hb7 hK5 hn9 hn12 M4a M6a h hA h2
    go_wp2_with fail
    refine wp_region_held_drew (S := fun W => W.cell? ⟨g9, 0, none⟩ = some (.slice A' L c') ∧ W.cell? ⟨g12, 0, none⟩ = some (.int .i64 0) ∧ W.cell? ⟨g12, 1, none⟩ = some (.int .i64 0) ∧ W.cell? ⟨g12, 2, none⟩ = some (.int .i64 0)) (by kernel_rfl) ?_ (fun hHeld => ?_)
    · exact KS.out _ (fun _ _ => rfl)
    refine wpAnyH_take (i := 0) (v := ?_) rfl (by kernel_rfl) (by kernel_rfl) (by kernel_rfl) (fun _ _ _ h => h) (Or.inl ⟨by kernel_rfl, ?_⟩) (by assumption) ?_
    rotate_left
    focus (intro w hSw; (try dsimp only at hSw); go_simp; try with_reducible rfl)
    simp only [Act.put]
    refine wpAnyH_take (i := 1) (v := ?_) rfl (by kernel_rfl) (by kernel_rfl) (by kernel_rfl) (fun _ _ _ h => h) (Or.inl ⟨by kernel_rfl, ?_⟩) (by assumption) ?_
    rotate_left
    focus (intro w hSw; (try dsimp only at hSw); go_simp; try with_reducible rfl)
    simp only [Act.put]
    refine wpAnyH_take (i := 2) (v := ?_) rfl (by kernel_rfl) (by kernel_rfl) (by kernel_rfl) (fun _ _ _ h => h) (Or.inl ⟨by kernel_rfl, ?_⟩) (by assumption) ?_
    rotate_left
    focus (intro w hSw; (try dsimp only at hSw); go_simp; try with_reducible rfl)
    simp only [Act.put]
    refine wpAnyH_take (i := 4) (v := ?_) rfl (by kernel_rfl) (by kernel_rfl) (by kernel_rfl) (fun _ _ _ h => h) (Or.inl ⟨by kernel_rfl, ?_⟩) (by assumption) ?_
    rotate_left
    focus (intro w hSw; (try dsimp only at hSw); go_simp; try with_reducible rfl)
    simp only [Act.put]
    refine wpAnyH_ready (rs := [3]) (by kernel_rfl) (by simp) ?_
    refine AllReadyH.cons rfl (fun K hK => ?_) AllReadyH.nil
    go_simp
    refine (hnum.out _ _).mono ?_
    rintro e wn ⟨rfl, rfl⟩
    refine hK.out _ _ ?_ (fun hHeld => ?_)
    · exact KS.out _ (fun _ _ => rfl)
    clear hK K
    try simp only [Act.put]
    refine wpAnyH_take (i := 5) (v := ?_) rfl (by kernel_rfl) (by kernel_rfl) (by kernel_rfl) (fun _ _ _ h => h) (Or.inl ⟨by kernel_rfl, ?_⟩) (by assumption) ?_
    rotate_left
    focus (intro w hSw; (try dsimp only at hSw); go_simp; try with_reducible rfl)
    simp only [Act.put]
    refine wpAnyH_take (i := 6) (v := ?_) rfl (by kernel_rfl) (by kernel_rfl) (by kernel_rfl) (fun _ _ _ h => h) (Or.inl ⟨by kernel_rfl, ?_⟩) (by assumption) ?_
    rotate_left
    focus (intro w hSw; (try dsimp only at hSw); go_simp; try with_reducible rfl)
    simp only [Act.put]
    refine wpAnyH_take (i := 7) (v := ?_) rfl (by kernel_rfl) (by kernel_rfl) (by kernel_rfl) (fun _ _ _ h => h) (Or.inl ⟨by kernel_rfl, ?_⟩) (by assumption) ?_
    rotate_left
    focus (intro w hSw; (try dsimp only at hSw); go_simp; try with_reducible rfl)
    simp only [Act.put]
    refine wpAnyH_take (i := 8) (v := ?_) rfl (by kernel_rfl) (by kernel_rfl) (by kernel_rfl) (fun _ _ _ h => h) (Or.inl ⟨by kernel_rfl, ?_⟩) (by assumption) ?_
    rotate_left
    focus (intro w hSw; (try dsimp only at hSw); go_simp; try with_reducible rfl)
    simp only [Act.put]
    refine wpAnyH_take (i := 9) (v := ?_) rfl (by kernel_rfl) (by kernel_rfl) (by kernel_rfl) (fun _ _ _ h => h) (Or.inl ⟨by kernel_rfl, ?_⟩) (by assumption) ?_
    rotate_left
    focus (intro w hSw; (try dsimp only at hSw); go_simp; try with_reducible rfl)
    simp only [Act.put]
    refine wpAnyH_take (i := 10) (v := ?_) rfl (by kernel_rfl) (by kernel_rfl) (by kernel_rfl) (fun _ _ _ h => h) (Or.inl ⟨by kernel_rfl, ?_⟩) (by assumption) ?_
    rotate_left
    focus (intro w hSw; (try dsimp only at hSw); go_simp; try with_reducible rfl)
    simp only [Act.put]
    refine wpAnyH_take (i := 11) (v := ?_) rfl (by kernel_rfl) (by kernel_rfl) (by kernel_rfl) (fun _ _ _ h => h) (Or.inl ⟨by kernel_rfl, ?_⟩) (by assumption) ?_
    rotate_left
    focus (intro w hSw; (try dsimp only at hSw); go_simp; try with_reducible rfl)
    simp only [Act.put]
    refine wpAnyH_take (i := 12) (v := ?_) rfl (by kernel_rfl) (by kernel_rfl) (by kernel_rfl) (fun _ _ _ h => h) (Or.inl ⟨by kernel_rfl, ?_⟩) (by assumption) ?_
    rotate_left
    focus (intro w hSw; (try dsimp only at hSw); go_simp; try with_reducible rfl)
    simp only [Act.put]
    refine wpAnyH_take (i := 13) (v := ?_) rfl (by kernel_rfl) (by kernel_rfl) (by kernel_rfl) (fun _ _ _ h => h) (Or.inl ⟨by kernel_rfl, ?_⟩) (by assumption) ?_
    rotate_left
    focus (intro w hSw; (try dsimp only at hSw); go_simp; try with_reducible rfl)
    simp only [Act.put]
    refine wpAnyH_take (i := 14) (v := ?_) rfl (by kernel_rfl) (by kernel_rfl) (by kernel_rfl) (fun _ _ _ h => h) (Or.inl ⟨by kernel_rfl, ?_⟩) (by assumption) ?_
    rotate_left
    focus (intro w hSw; (try dsimp only at hSw); go_simp; try with_reducible rfl)
    simp only [Act.put]
    refine wpAnyH_take (i := 15) (v := undef) rfl (by kernel_rfl) (by kernel_rfl) (by kernel_rfl) (fun _ _ _ h => h) (Or.inr ⟨by kernel_rfl, rfl⟩) (by assumption) ?_
    simp only [Act.put]
    refine wpAnyH_take (i := 16) (v := undef) rfl (by kernel_rfl) (by kernel_rfl) (by kernel_rfl) (fun _ _ _ h => h) (Or.inr ⟨by kernel_rfl, rfl⟩) (by assumption) ?_
    simp only [Act.put]
    refine wpAnyH_take (i := 17) (v := undef) rfl (by kernel_rfl) (by kernel_rfl) (by kernel_rfl) (fun _ _ _ h => h) (Or.inr ⟨by kernel_rfl, rfl⟩) (by assumption) ?_
    simp only [Act.put]
    refine wpAnyH_take (i := 18) (v := undef) rfl (by kernel_rfl) (by kernel_rfl) (by kernel_rfl) (fun _ _ _ h => h) (Or.inr ⟨by kernel_rfl, rfl⟩) (by assumption) ?_
    simp only [Act.put]
    refine wpAnyH_take (i := 19) (v := undef) rfl (by kernel_rfl) (by kernel_rfl) (by kernel_rfl) (fun _ _ _ h => h) (Or.inr ⟨by kernel_rfl, rfl⟩) (by assumption) ?_
    simp only [Act.put]
    refine wpAnyH_take (i := 20) (v := undef) rfl (by kernel_rfl) (by kernel_rfl) (by kernel_rfl) (fun _ _ _ h => h) (Or.inr ⟨by kernel_rfl, rfl⟩) (by assumption) ?_
    simp only [Act.put]
    refine wpAnyH_take (i := 21) (v := undef) rfl (by kernel_rfl) (by kernel_rfl) (by kernel_rfl) (fun _ _ _ h => h) (Or.inr ⟨by kernel_rfl, rfl⟩) (by assumption) ?_
    simp only [Act.put]
    refine wpAnyH_take (i := 22) (v := undef) rfl (by kernel_rfl) (by kernel_rfl) (by kernel_rfl) (fun _ _ _ h => h) (Or.inr ⟨by kernel_rfl, rfl⟩) (by assumption) ?_
    simp only [Act.put]
    refine wpAnyH_take (i := 23) (v := ?_) rfl (by kernel_rfl) (by kernel_rfl) (by kernel_rfl) (fun _ _ _ h => h) (Or.inl ⟨by kernel_rfl, ?_⟩) (by assumption) ?_
    rotate_left
    focus (intro w hSw; (try dsimp only at hSw); go_simp; try with_reducible rfl)
    simp only [Act.put]
    refine wpAnyH_take (i := 24) (v := ?_) rfl (by kernel_rfl) (by kernel_rfl) (by kernel_rfl) (fun _ _ _ h => h) (Or.inl ⟨by kernel_rfl, ?_⟩) (by assumption) ?_
    rotate_left
    focus (intro w hSw; (try dsimp only at hSw); go_simp; try with_reducible rfl)
    simp only [Act.put]
    refine wpAnyH_take (i := 25) (v := ?_) rfl (by kernel_rfl) (by kernel_rfl) (by kernel_rfl) (fun _ _ _ h => h) (Or.inl ⟨by kernel_rfl, ?_⟩) (by assumption) ?_
    rotate_left
    focus (intro w hSw; (try dsimp only at hSw); go_simp; try with_reducible rfl)
    simp only [Act.put]
    refine wpAnyH_take (i := 26) (v := ?_) rfl (by kernel_rfl) (by kernel_rfl) (by kernel_rfl) (fun _ _ _ h => h) (Or.inl ⟨by kernel_rfl, ?_⟩) (by assumption) ?_
    rotate_left
    focus (intro w hSw; (try dsimp only at hSw); go_simp; try with_reducible rfl)
    simp only [Act.put]
    refine wpAnyH_take (i := 27) (v := ?_) rfl (by kernel_rfl) (by kernel_rfl) (by kernel_rfl) (fun _ _ _ h => h) (Or.inl ⟨by kernel_rfl, ?_⟩) (by assumption) ?_
    rotate_left
    focus (intro w hSw; (try dsimp only at hSw); go_simp; try with_reducible rfl)
    simp only [Act.put]
    refine wpAnyH_take (i := 28) (v := ?_) rfl (by kernel_rfl) (by kernel_rfl) (by kernel_rfl) (fun _ _ _ h => h) (Or.inl ⟨by kernel_rfl, ?_⟩) (by assumption) ?_
    rotate_left
    focus (intro w hSw; (try dsimp only at hSw); go_simp; try with_reducible rfl)
    simp only [Act.put]
    refine wpAnyH_take (i := 29) (v := ?_) rfl (by kernel_rfl) (by kernel_rfl) (by kernel_rfl) (fun _ _ _ h => h) (Or.inl ⟨by kernel_rfl, ?_⟩) (by assumption) ?_
    rotate_left
    focus (intro w hSw; (try dsimp only at hSw); go_simp; try with_reducible rfl)
    simp only [Act.put]
    refine wpAnyH_take (i := 30) (v := ?_) rfl (by kernel_rfl) (by kernel_rfl) (by kernel_rfl) (fun _ _ _ h => h) (Or.inl ⟨by kernel_rfl, ?_⟩) (by assumption) ?_
    rotate_left
    focus (intro w hSw; (try dsimp only at hSw); go_simp; try with_reducible rfl)
    simp only [Act.put]
    refine wpAnyH_take (i := 31) (v := ?_) rfl (by kernel_rfl) (by kernel_rfl) (by kernel_rfl) (fun _ _ _ h => h) (Or.inl ⟨by kernel_rfl, ?_⟩) (by assumption) ?_
    rotate_left
    focus (intro w hSw; (try dsimp only at hSw); go_simp; try with_reducible rfl)
    simp only [Act.put]
    refine wpAnyH_take (i := 32) (v := ?_) rfl (by kernel_rfl) (by kernel_rfl) (by kernel_rfl) (fun _ _ _ h => h) (Or.inl ⟨by kernel_rfl, ?_⟩) (by assumption) ?_
    rotate_left
    focus (intro w hSw; (try dsimp only at hSw); go_simp; try with_reducible rfl)
    simp only [Act.put]
    refine wpAnyH_take (i := 33) (v := ?_) rfl (by kernel_rfl) (by kernel_rfl) (by kernel_rfl) (fun _ _ _ h => h) (Or.inl ⟨by kernel_rfl, ?_⟩) (by assumption) ?_
    rotate_left
    focus (intro w hSw; (try dsimp only at hSw); go_simp; try with_reducible rfl)
    simp only [Act.put]
    refine wpAnyH_ready (rs := [34]) (by kernel_rfl) (by simp) ?_
    refine AllReadyH.cons rfl (fun K hK => ?_) AllReadyH.nil
    go_simp
    refine hK.out _ _ ?_ (fun hHeld => ?_)
    · exact KS.out _ (fun _ _ => rfl)
    clear hK K
    try simp only [Act.put]
    refine wpAnyH_ready (rs := [35]) (by kernel_rfl) (by simp) ?_
    refine AllReadyH.cons rfl (fun K hK => ?_) AllReadyH.nil
    go_simp
    refine hK.out _ _ ?_ (fun hHeld => ?_)
    · exact KS.out _ (fun q hq => heap_set hq)
    clear hK K
    try simp only [Act.put]
    refine wpAnyH_ready (rs := [36]) (by kernel_rfl) (by simp) ?_
    refine AllReadyH.cons rfl (fun K hK => ?_) AllReadyH.nil
    go_simp
    refine hK.out _ _ ?_ (fun hHeld => ?_)
    · exact KS.out _ (fun q hq => heap_set hq)
    clear hK K
    try simp only [Act.put]
    refine wpAnyH_done (by kernel_rfl) ?_ _
    go_wp2_with fail
    exact bodyPost_ret (res_mid Try.results10 rfl F1.out) rfl F2.out
  · obtain ⟨⟨q1, q2, q3⟩, hq⟩ : ∃ q, q = l'[k].2 := ⟨_, rfl⟩
    rw [← hq] at h3
    have HGET := Lib.hid (fun V (hV : Has V b l' F) => hV.getN p hpg)
    rw [show getX l' p = (q1, q2, q3) by unfold getX; rw [h3]; rfl, h3] at HGET
    rw [show enV (q1, q2, q3) = .agg #[.int .i64 q1, .int .i64 q2, .int .i64 q3] from rfl, show (some (q1, q2, q3) : Option En).isSome = true from rfl] at HGET
    have i0 : (0 : Int) ≤ (k : Int) := by omega
    have i1 : (k : Int) < (L : Int) := by rw [hL]; omega
    have dz : decide ((0 : Int) ≤ (k : Int)) = true := decide_eq_true i0
    have HAT := Lib.hid (fun V (hV : Lies V A' l') => rat_any l' A' l'.length c' p V rfl hlen' hV)
    rw [h1, ← hL] at HAT
    have HLL := Lib.hid hL
    clear hL
    have hbA := below1 V1 (.cells #[.slice A' L c'] 29)
    have M4a := M3.more hF hb1
    have M4 := M4a.more hF hbA
    have H4 := ((h.below hb3).below hb1).below hbA
    have rT4 := Row.new V1 29 [.slice A' L c']
    have L4 := hLi.below hbA
    obtain ⟨g9, hg9⟩ : ∃ g9, g9 = V1.heap.size := ⟨_, rfl⟩
    have hg9F : ¬ F g9 := fun hf => by
      have := hF _ hf
      have := M3.s
      have := hb1.size
      omega
    rw [← hg9] at rT4
    have HG9 := Lib.hid hg9
    clear hg9
    clear t0 a0 a1 a2 a3 a4 a5 r0 z0 h1
    obtain ⟨t0, a0, a1, a2, a3, a4, a5, r0, z0⟩ := M4.c
    simp only at a0 a1 a2 a3 a4 a5
    have HN4 := Lib.hid (HN.out _ H4)
    have d0 : True := trivial
    go_wp2_with fail
    refine (HN4.out).mono ?_
    rintro e V3 ⟨rfl, hH5, hK5⟩
    rw [← HG9.out]
    have M5 := M4.next hF hK5
    have rT5 := hK5.row rT4 hg9F
    have L5 := H4.apart L4 hK5
    clear t0 a0 a1 a2 a3 a4 a5 r0 z0 HN4 HN HM
    obtain ⟨t0, a0, a1, a2, a3, a4, a5, r0, z0⟩ := M5.c
    simp only at a0 a1 a2 a3 a4 a5
    have HG5 := Lib.hid (HGET.out _ hH5)
    go_wp2_with fail
    refine (HG5.out).mono ?_
    rintro e V4 ⟨rfl, hb6⟩
    have hbB := below1 V4 (.cells #[.int .i64 q1, .int .i64 q2, .int .i64 q3] 34)
    have M6a := M5.more hF hb6
    have M6 := M6a.more hF hbB
    have H6 := (hH5.below hb6).below hbB
    have rT6 := (rT5.below hb6).below hbB
    have L6 := (L5.below hb6).below hbB
    have rE6 := Row.new V4 34 [.int .i64 q1, .int .i64 q2, .int .i64 q3]
    obtain ⟨g12, hg12⟩ : ∃ g12, g12 = V4.heap.size := ⟨_, rfl⟩
    rw [← hg12] at rE6
    have HG12 := Lib.hid hg12
    clear hg12
    clear t0 a0 a1 a2 a3 a4 a5 r0 z0 HG5 HGET
    obtain ⟨t0, a0, a1, a2, a3, a4, a5, r0, z0⟩ := M6.c
    simp only at a0 a1 a2 a3 a4 a5
    have cT := rT6.cell 0
    simp only [List.getElem?_cons_zero] at cT
    have HA6 := Lib.hid (HAT.out _ L6)
    go_wp2_with fail
    refine (HA6.out).mono ?_
    rintro e V6 ⟨rfl, hb7⟩
    rw [← HG12.out]
    have M7 := (M6.more hF hb7)
    have H7 := (H6.below hb7)
    have rT7 := (rT6.below hb7)
    have L7 := (L6.below hb7)
    have rE7 := (rE6.below hb7)
    clear t0 a0 a1 a2 a3 a4 a5 r0 z0 HA6 HAT cT
    obtain ⟨t0, a0, a1, a2, a3, a4, a5, r0, z0⟩ := M7.c
    simp only at a0 a1 a2 a3 a4 a5
    obtain ⟨ad, rfl, hr⟩ := L7.at_ k hk
    obtain ⟨b0, b1, b2, b3⟩ := hr
    rw [← hq] at b1 b2 b3
    simp only at b1 b2 b3
    have had : (ad.add (k * 4)).block ≠ w.heap.size + 2 := not_cell M7.r (by simp) b0
    have hd1 := b1
    have hn9 : g9 ≠ w.heap.size + 2 := by
      have := HG9.out
      have := M3.s
      have := hb1.size
      omega
    have hn12 : g12 ≠ w.heap.size + 2 := by
      have := HG12.out
      have := M3.s
      have := hb1.size
      have := hbA.size
      have := hK5.size
      have := hb6.size
      simp only [World.size_alloc] at *
      omega
    have KS := Lib.hid (fun (W : World) (hW : ∀ q, q ≠ w.heap.size + 2 → W.heap[q]? = V6.heap[q]?) => (show W.cell? ⟨g9, 0, none⟩ = some (.slice (some ad) L c') ∧ W.cell? ⟨g12, 0, none⟩ = some (.int .i64 q1) ∧ W.cell? ⟨g12, 1, none⟩ = some (.int .i64 q2) ∧ W.cell? ⟨g12, 2, none⟩ = some (.int .i64 q3) ∧ W.cell? ⟨(ad.add (k * 4)).block, (ad.add (k * 4)).off + 1, none⟩ = some (.int .i64 q1) ∧ W.cell? ⟨(ad.add (k * 4)).block, (ad.add (k * 4)).off + 2, none⟩ = some (.int .i64 q2) ∧ W.cell? ⟨(ad.add (k * 4)).block, (ad.add (k * 4)).off + 3, none⟩ = some (.int .i64 q3) from ⟨(cell_same (hW _ hn9)).trans (rT7.cell 0), (cell_same (hW _ hn12)).trans (rE7.cell 0), (cell_same (hW _ hn12)).trans (rE7.cell 1), (cell_same (hW _ hn12)).trans (rE7.cell 2), (cell_same (a := ⟨(ad.add (k * 4)).block, (ad.add (k * 4)).off + 1, none⟩) (hW _ had)).trans b1, (cell_same (a := ⟨(ad.add (k * 4)).block, (ad.add (k * 4)).off + 2, none⟩) (hW _ had)).trans b2, (cell_same (a := ⟨(ad.add (k * 4)).block, (ad.add (k * 4)).off + 3, none⟩) (hW _ had)).trans b3⟩))
    have hbd : Below V6.heap.size V6 V6.drew := (Below.refl _ _).drew
    obtain ⟨f1, f2⟩ := (M7.more hF hbd).done hF (H7.below hbd) hc' (L7.below hbd)
    rw [← HLL.out] at f1 f2
    have F1 := Lib.hid f1
    have F2 := Lib.hid f2
    clear f1 f2 hbd M3 M4 M5 M6 M7 H4 hH5 H6 H7 rT4 rT5 rT6 rT7 rE6 rE7 hLi L4 L5 L6 L7 hb1 hbA hb6 hbB hb7 hK5 hn9 hn12 M4a M6a h hA h2
    clear b0 b1 b2 b3 had hd1 h3 hq
    go_wp2_with fail
    refine wp_region_held_drew (S := fun W => W.cell? ⟨g9, 0, none⟩ = some (.slice (some ad) L c') ∧ W.cell? ⟨g12, 0, none⟩ = some (.int .i64 q1) ∧ W.cell? ⟨g12, 1, none⟩ = some (.int .i64 q2) ∧ W.cell? ⟨g12, 2, none⟩ = some (.int .i64 q3) ∧ W.cell? ⟨(ad.add (k * 4)).block, (ad.add (k * 4)).off + 1, none⟩ = some (.int .i64 q1) ∧ W.cell? ⟨(ad.add (k * 4)).block, (ad.add (k * 4)).off + 2, none⟩ = some (.int .i64 q2) ∧ W.cell? ⟨(ad.add (k * 4)).block, (ad.add (k * 4)).off + 3, none⟩ = some (.int .i64 q3)) (by kernel_rfl) ?_ (fun hHeld => ?_)
    · exact KS.out _ (fun _ _ => rfl)
    refine wpAnyH_take (i := 0) (v := ?_) rfl (by kernel_rfl) (by kernel_rfl) (by kernel_rfl) (fun _ _ _ h => h) (Or.inl ⟨by kernel_rfl, ?_⟩) (by assumption) ?_
    rotate_left
    focus (intro w hSw; (try dsimp only at hSw); go_simp; try with_reducible rfl)
    simp only [Act.put]
    refine wpAnyH_take (i := 1) (v := ?_) rfl (by kernel_rfl) (by kernel_rfl) (by kernel_rfl) (fun _ _ _ h => h) (Or.inl ⟨by kernel_rfl, ?_⟩) (by assumption) ?_
    rotate_left
    focus (intro w hSw; (try dsimp only at hSw); go_simp; try with_reducible rfl)
    simp only [Act.put]
    refine wpAnyH_take (i := 2) (v := ?_) rfl (by kernel_rfl) (by kernel_rfl) (by kernel_rfl) (fun _ _ _ h => h) (Or.inl ⟨by kernel_rfl, ?_⟩) (by assumption) ?_
    rotate_left
    focus (intro w hSw; (try dsimp only at hSw); go_simp; try with_reducible rfl)
    simp only [Act.put]
    refine wpAnyH_take (i := 4) (v := ?_) rfl (by kernel_rfl) (by kernel_rfl) (by kernel_rfl) (fun _ _ _ h => h) (Or.inl ⟨by kernel_rfl, ?_⟩) (by assumption) ?_
    rotate_left
    focus (intro w hSw; (try dsimp only at hSw); go_simp; try with_reducible rfl)
    simp only [Act.put]
    refine wpAnyH_ready (rs := [3]) (by kernel_rfl) (by simp) ?_
    refine AllReadyH.cons rfl (fun K hK => ?_) AllReadyH.nil
    go_simp
    refine (hnum.out _ _).mono ?_
    rintro e wn ⟨rfl, rfl⟩
    refine hK.out _ _ ?_ (fun hHeld => ?_)
    · exact KS.out _ (fun _ _ => rfl)
    clear hK K
    try simp only [Act.put]
    refine wpAnyH_take (i := 5) (v := ?_) rfl (by kernel_rfl) (by kernel_rfl) (by kernel_rfl) (fun _ _ _ h => h) (Or.inl ⟨by kernel_rfl, ?_⟩) (by assumption) ?_
    rotate_left
    focus (intro w hSw; (try dsimp only at hSw); go_simp; try with_reducible rfl)
    simp only [Act.put]
    refine wpAnyH_take (i := 6) (v := ?_) rfl (by kernel_rfl) (by kernel_rfl) (by kernel_rfl) (fun _ _ _ h => h) (Or.inl ⟨by kernel_rfl, ?_⟩) (by assumption) ?_
    rotate_left
    focus (intro w hSw; (try dsimp only at hSw); go_simp; try with_reducible rfl)
    simp only [Act.put]
    refine wpAnyH_take (i := 7) (v := ?_) rfl (by kernel_rfl) (by kernel_rfl) (by kernel_rfl) (fun _ _ _ h => h) (Or.inl ⟨by kernel_rfl, ?_⟩) (by assumption) ?_
    rotate_left
    focus (intro w hSw; (try dsimp only at hSw); go_simp; try with_reducible rfl)
    simp only [Act.put]
    refine wpAnyH_take (i := 8) (v := ?_) rfl (by kernel_rfl) (by kernel_rfl) (by kernel_rfl) (fun _ _ _ h => h) (Or.inl ⟨by kernel_rfl, ?_⟩) (by assumption) ?_
    rotate_left
    focus (intro w hSw; (try dsimp only at hSw); go_simp; try with_reducible rfl)
    simp only [Act.put]
    refine wpAnyH_take (i := 9) (v := ?_) rfl (by kernel_rfl) (by kernel_rfl) (by kernel_rfl) (fun _ _ _ h => h) (Or.inl ⟨by kernel_rfl, ?_⟩) (by assumption) ?_
    rotate_left
    focus (intro w hSw; (try dsimp only at hSw); go_simp; try with_reducible rfl)
    simp only [Act.put]
    refine wpAnyH_take (i := 10) (v := ?_) rfl (by kernel_rfl) (by kernel_rfl) (by kernel_rfl) (fun _ _ _ h => h) (Or.inl ⟨by kernel_rfl, ?_⟩) (by assumption) ?_
    rotate_left
    focus (intro w hSw; (try dsimp only at hSw); go_simp; try with_reducible rfl)
    simp only [Act.put]
    refine wpAnyH_take (i := 11) (v := ?_) rfl (by kernel_rfl) (by kernel_rfl) (by kernel_rfl) (fun _ _ _ h => h) (Or.inl ⟨by kernel_rfl, ?_⟩) (by assumption) ?_
    rotate_left
    focus (intro w hSw; (try dsimp only at hSw); go_simp; try with_reducible rfl)
    simp only [Act.put]
    refine wpAnyH_take (i := 12) (v := ?_) rfl (by kernel_rfl) (by kernel_rfl) (by kernel_rfl) (fun _ _ _ h => h) (Or.inl ⟨by kernel_rfl, ?_⟩) (by assumption) ?_
    rotate_left
    focus (intro w hSw; (try dsimp only at hSw); go_simp; try with_reducible rfl)
    simp only [Act.put]
    refine wpAnyH_take (i := 13) (v := ?_) rfl (by kernel_rfl) (by kernel_rfl) (by kernel_rfl) (fun _ _ _ h => h) (Or.inl ⟨by kernel_rfl, ?_⟩) (by assumption) ?_
    rotate_left
    focus (intro w hSw; (try dsimp only at hSw); go_simp; try with_reducible rfl)
    simp only [Act.put]
    refine wpAnyH_take (i := 14) (v := ?_) rfl (by kernel_rfl) (by kernel_rfl) (by kernel_rfl) (fun _ _ _ h => h) (Or.inl ⟨by kernel_rfl, ?_⟩) (by assumption) ?_
    rotate_left
    focus (intro w hSw; (try dsimp only at hSw); go_simp; try with_reducible rfl)
    simp only [Act.put]
    refine wpAnyH_take (i := 15) (v := ?_) rfl (by kernel_rfl) (by kernel_rfl) (by kernel_rfl) (fun _ _ _ h => h) (Or.inl ⟨by kernel_rfl, ?_⟩) (by assumption) ?_
    rotate_left
    focus (intro w hSw; (try dsimp only at hSw); go_simp; try with_reducible rfl)
    simp only [Act.put]
    refine wpAnyH_take (i := 16) (v := ?_) rfl (by kernel_rfl) (by kernel_rfl) (by kernel_rfl) (fun _ _ _ h => h) (Or.inl ⟨by kernel_rfl, ?_⟩) (by assumption) ?_
    rotate_left
    focus (intro w hSw; (try dsimp only at hSw); go_simp; try with_reducible rfl)
    simp only [Act.put]
    refine wpAnyH_take (i := 17) (v := ?_) rfl (by kernel_rfl) (by kernel_rfl) (by kernel_rfl) (fun _ _ _ h => h) (Or.inl ⟨by kernel_rfl, ?_⟩) (by assumption) ?_
    rotate_left
    focus (intro w hSw; (try dsimp only at hSw); go_simp; try with_reducible rfl)
    simp only [Act.put]
    refine wpAnyH_take (i := 18) (v := ?_) rfl (by kernel_rfl) (by kernel_rfl) (by kernel_rfl) (fun _ _ _ h => h) (Or.inl ⟨by kernel_rfl, ?_⟩) (by assumption) ?_
    rotate_left
    focus (intro w hSw; (try dsimp only at hSw); go_simp; try with_reducible rfl)
    simp only [Act.put]
    refine wpAnyH_take (i := 19) (v := ?_) rfl (by kernel_rfl) (by kernel_rfl) (by kernel_rfl) (fun _ _ _ h => h) (Or.inl ⟨by kernel_rfl, ?_⟩) (by assumption) ?_
    rotate_left
    focus (intro w hSw; (try dsimp only at hSw); go_simp; try with_reducible rfl)
    simp only [Act.put]
    refine wpAnyH_take (i := 20) (v := ?_) rfl (by kernel_rfl) (by kernel_rfl) (by kernel_rfl) (fun _ _ _ h => h) (Or.inl ⟨by kernel_rfl, ?_⟩) (by assumption) ?_
    rotate_left
    focus (intro w hSw; (try dsimp only at hSw); go_simp; try with_reducible rfl)
    simp only [Act.put]
    refine wpAnyH_take (i := 21) (v := ?_) rfl (by kernel_rfl) (by kernel_rfl) (by kernel_rfl) (fun _ _ _ h => h) (Or.inl ⟨by kernel_rfl, ?_⟩) (by assumption) ?_
    rotate_left
    focus (intro w hSw; (try dsimp only at hSw); go_simp; try with_reducible rfl)
    simp only [Act.put]
    refine wpAnyH_take (i := 22) (v := ?_) rfl (by kernel_rfl) (by kernel_rfl) (by kernel_rfl) (fun _ _ _ h => h) (Or.inl ⟨by kernel_rfl, ?_⟩) (by assumption) ?_
    rotate_left
    focus (intro w hSw; (try dsimp only at hSw); go_simp; try with_reducible rfl)
    simp only [Act.put]
    refine wpAnyH_take (i := 23) (v := ?_) rfl (by kernel_rfl) (by kernel_rfl) (by kernel_rfl) (fun _ _ _ h => h) (Or.inl ⟨by kernel_rfl, ?_⟩) (by assumption) ?_
    rotate_left
    focus (intro w hSw; (try dsimp only at hSw); go_simp; try with_reducible rfl)
    simp only [Act.put]
    refine wpAnyH_take (i := 24) (v := ?_) rfl (by kernel_rfl) (by kernel_rfl) (by kernel_rfl) (fun _ _ _ h => h) (Or.inl ⟨by kernel_rfl, ?_⟩) (by assumption) ?_
    rotate_left
    focus (intro w hSw; (try dsimp only at hSw); go_simp; try with_reducible rfl)
    simp only [Act.put]
    refine wpAnyH_take (i := 25) (v := undef) rfl (by kernel_rfl) (by kernel_rfl) (by kernel_rfl) (fun _ _ _ h => h) (Or.inr ⟨by kernel_rfl, rfl⟩) (by assumption) ?_
    simp only [Act.put]
    refine wpAnyH_take (i := 26) (v := undef) rfl (by kernel_rfl) (by kernel_rfl) (by kernel_rfl) (fun _ _ _ h => h) (Or.inr ⟨by kernel_rfl, rfl⟩) (by assumption) ?_
    simp only [Act.put]
    refine wpAnyH_take (i := 27) (v := undef) rfl (by kernel_rfl) (by kernel_rfl) (by kernel_rfl) (fun _ _ _ h => h) (Or.inr ⟨by kernel_rfl, rfl⟩) (by assumption) ?_
    simp only [Act.put]
    refine wpAnyH_take (i := 28) (v := undef) rfl (by kernel_rfl) (by kernel_rfl) (by kernel_rfl) (fun _ _ _ h => h) (Or.inr ⟨by kernel_rfl, rfl⟩) (by assumption) ?_
    simp only [Act.put]
    refine wpAnyH_take (i := 29) (v := undef) rfl (by kernel_rfl) (by kernel_rfl) (by kernel_rfl) (fun _ _ _ h => h) (Or.inr ⟨by kernel_rfl, rfl⟩) (by assumption) ?_
    simp only [Act.put]
    refine wpAnyH_take (i := 30) (v := undef) rfl (by kernel_rfl) (by kernel_rfl) (by kernel_rfl) (fun _ _ _ h => h) (Or.inr ⟨by kernel_rfl, rfl⟩) (by assumption) ?_
    simp only [Act.put]
    refine wpAnyH_take (i := 31) (v := undef) rfl (by kernel_rfl) (by kernel_rfl) (by kernel_rfl) (fun _ _ _ h => h) (Or.inr ⟨by kernel_rfl, rfl⟩) (by assumption) ?_
    simp only [Act.put]
    refine wpAnyH_take (i := 32) (v := ?_) rfl (by kernel_rfl) (by kernel_rfl) (by kernel_rfl) (fun _ _ _ h => h) (Or.inl ⟨by kernel_rfl, ?_⟩) (by assumption) ?_
    rotate_left
    focus (intro w hSw; (try dsimp only at hSw); go_simp; try with_reducible rfl)
    simp only [Act.put]
    refine wpAnyH_take (i := 33) (v := ?_) rfl (by kernel_rfl) (by kernel_rfl) (by kernel_rfl) (fun _ _ _ h => h) (Or.inl ⟨by kernel_rfl, ?_⟩) (by assumption) ?_
    rotate_left
    focus (intro w hSw; (try dsimp only at hSw); go_simp; try with_reducible rfl)
    simp only [Act.put]
    refine wpAnyH_ready (rs := [34]) (by kernel_rfl) (by simp) ?_
    refine AllReadyH.cons rfl (fun K hK => ?_) AllReadyH.nil
    go_simp
    refine hK.out _ _ ?_ (fun hHeld => ?_)
    · exact KS.out _ (fun _ _ => rfl)
    clear hK K
    try simp only [Act.put]
    refine wpAnyH_ready (rs := [35]) (by kernel_rfl) (by simp) ?_
    refine AllReadyH.cons rfl (fun K hK => ?_) AllReadyH.nil
    go_simp
    refine hK.out _ _ ?_ (fun hHeld => ?_)
    · exact KS.out _ (fun q hq => heap_set hq)
    clear hK K
    try simp only [Act.put]
    refine wpAnyH_ready (rs := [36]) (by kernel_rfl) (by simp) ?_
    refine AllReadyH.cons rfl (fun K hK => ?_) AllReadyH.nil
    go_simp
    refine hK.out _ _ ?_ (fun hHeld => ?_)
    · exact KS.out _ (fun q hq => heap_set hq)
    clear hK K
    try simp only [Act.put]
    refine wpAnyH_done (by kernel_rfl) ?_ _
    go_wp2_with fail
    exact bodyPost_ret (res_mid Try.results10 rfl F1.out) rfl F2.out
end Go.Proofs.Ytmocdokikcbjeaa

namespace Go.Proofs.Ytmocdokikcbjeaa
open Go.RowKit Go.Shelf Go.Maps Go.Sort
attribute [local go_sem] Oper.semAt_some

/- A CALL BY BOTH: UNMAP, PROTECT. -/
set_option maxRecDepth 100000 in
set_option maxHeartbeats 4000000 in
theorem act_unmap {w : World} {b c : Nat} {l : Tb} {F : Nat → Prop} {A : Option Addr} (h : Has w b l F) (hcap : l.length ≤ c) (hA : Lies w A l) (p m o1 o2 o3 : Int) (hx : (⟨1, p, m, (o1, o2, o3)⟩ : Ac).fits) :
    Calls Try.prog 10 #[bx b, .agg #[.slice A l.length c], .agg #[.int .i64 1, .int .i64 p, .int .i64 m, .int .i64 o1, .int .i64 o2, .int .i64 o3]] w (ActP w F (stepT l ⟨1, p, m, (o1, o2, o3)⟩)) := by
  have hF := h.lt
  have hok := h.ok
  have hlen := hok.len
  have hnum := Lib.hid (fun n w => num_any n w)
  obtain ⟨W3, hW3⟩ : ∃ W3, W3 = ((w.alloc (.cells #[.slice A l.length c] 29)).alloc (.cells #[.int .i64 1, .int .i64 p, .int .i64 m, .int .i64 o1, .int .i64 o2, .int .i64 o3] 36)).alloc (.cells #[.slice none 0 0] 29) := ⟨_, rfl⟩
  have hb3 : Below w.heap.size w W3 := hW3 ▸ below3 _ _ _ _
  have M3 : AtW w F A l.length c ⟨1, p, m, (o1, o2, o3)⟩ W3 := hW3 ▸ AtW.new w F A l.length c ⟨1, p, m, (o1, o2, o3)⟩
  obtain ⟨t0, a0, a1, a2, a3, a4, a5, r0, z0⟩ := M3.c
  simp only at a0 a1 a2 a3 a4 a5
  rw [hW3] at t0 a0 a1 a2 a3 a4 a5 r0 z0
  have hen := hx.en
  have hpg := hx.page
  simp only at hen hpg
  have hl0 : Tok (unmapT l p) := unmap_ok hok _
  have hgone := unmap_gone hok p
  have HM := Lib.hid (runmap_any l A c p W3 hok hcap (hA.below hb3))
  have HN := Lib.hid (fun V (hV : Has V b l F) => hV.unmapN p)
  obtain ⟨E, hE⟩ : ∃ E, E = unmapE l p := ⟨_, rfl⟩
  obtain ⟨⟨u1, u2, u3⟩, hu⟩ : ∃ u, u = unmapX l p := ⟨_, rfl⟩
  obtain ⟨l', hl'⟩ : ∃ l', l' = unmapT l p := ⟨_, rfl⟩
  have HS : Hid (stepT l ⟨1, p, m, (o1, o2, o3)⟩ = l') := Lib.hid (by rw [hl']; rfl)
  rw [HS.out]
  rw [← hE, ← hl', ← hu] at HM HN
  rw [show enV (u1, u2, u3) = .agg #[.int .i64 u1, .int .i64 u2, .int .i64 u3] from rfl] at HM HN
  rw [← hl'] at hl0 hgone
  clear hE hl' hu
  have hlen' : l'.length ≤ 65536 := hl0.len
  have HGET := Lib.hid (fun V (hV : Has V b l' F) => hV.getN p hpg)
  rw [show getX l' p = (0, 0, 0) by unfold getX; rw [hgone]; rfl, hgone] at HGET
  rw [show enV (0, 0, 0) = .agg #[.int .i64 0, .int .i64 0, .int .i64 0] from rfl, show (none : Option En).isSome = false from rfl] at HGET
  go_enter Try.func10, Try.ntmps10
  go_wp2_with fail
  rw [← hW3]
  refine (HM.out).mono ?_
  rintro e V1 ⟨A', c', rfl, hc', hLi, hb1⟩
  obtain ⟨L, hL⟩ : ∃ L, L = l'.length := ⟨_, rfl⟩
  rw [← hL]
  have HLL := Lib.hid hL
  clear hL
  have hbA := below2 V1 (.cells #[.slice A' L c'] 29) (.cells #[.int .i64 u1, .int .i64 u2, .int .i64 u3] 34)
  have M4 := (M3.more hF hb1).more hF hbA
  have H4 := ((h.below hb3).below hb1).below hbA
  have rT4 := (Row.new V1 29 [.slice A' L c']).below (below1 _ (.cells #[.int .i64 u1, .int .i64 u2, .int .i64 u3] 34))
  have rU4 := Row.new_at (V1.alloc (.cells #[.slice A' L c'] 29)) 34 [.int .i64 u1, .int .i64 u2, .int .i64 u3] (g := V1.heap.size + 1) (by simp)
  have L4 := hLi.below hbA
  have hs1 := M3.s
  have hs2 := hb1.size
  obtain ⟨g9, hg9⟩ : ∃ g9, g9 = V1.heap.size := ⟨_, rfl⟩
  rw [← hg9] at rT4 rU4
  have hg9F : ¬ F g9 := fun hf => by have := hF _ hf; omega
  have hg10F : ¬ F (g9 + 1) := fun hf => by have := hF _ hf; omega
  have HG9 := Lib.hid hg9
  clear hg9
  clear t0 a0 a1 a2 a3 a4 a5 r0 z0
  obtain ⟨t0, a0, a1, a2, a3, a4, a5, r0, z0⟩ := M4.c
  simp only at a0 a1 a2 a3 a4 a5
  have HN4 := Lib.hid (HN.out _ H4)
  go_wp2_with fail
  refine (HN4.out).mono ?_
  rintro e V3 ⟨rfl, hH5, hK5⟩
  rw [← HG9.out]
  have hbB := below1 V3 (.cells #[.int .i64 u1, .int .i64 u2, .int .i64 u3] 34)
  have M5 := (M4.next hF hK5).more hF hbB
  have rT5 := (hK5.row rT4 hg9F).below hbB
  have rU5 := (hK5.row rU4 hg10F).below hbB
  have L5 := (H4.apart L4 hK5).below hbB
  have H5 := hH5.below hbB
  have rX5 := Row.new V3 34 [.int .i64 u1, .int .i64 u2, .int .i64 u3]
  obtain ⟨g18, hg18⟩ : ∃ g18, g18 = V3.heap.size := ⟨_, rfl⟩
  rw [← hg18] at rX5
  have HG18 := Lib.hid hg18
  clear hg18
  clear t0 a0 a1 a2 a3 a4 a5 r0 z0 HN4 HN HM
  obtain ⟨t0, a0, a1, a2, a3, a4, a5, r0, z0⟩ := M5.c
  simp only at a0 a1 a2 a3 a4 a5
  have HG5 := Lib.hid (HGET.out _ H5)
  go_wp2_with fail
  refine (HG5.out).mono ?_
  rintro e V4 ⟨rfl, hb6⟩
  rw [← HG18.out]
  have hbC := below1 V4 (.cells #[.int .i64 0, .int .i64 0, .int .i64 0] 34)
  have M6 := (M5.more hF hb6).more hF hbC
  have H6 := (H5.below hb6).below hbC
  have rT6 := (rT5.below hb6).below hbC
  have rU6 := (rU5.below hb6).below hbC
  have rX6 := (rX5.below hb6).below hbC
  have L6 := (L5.below hb6).below hbC
  clear t0 a0 a1 a2 a3 a4 a5 r0 z0 HG5 HGET
  obtain ⟨t0, a0, a1, a2, a3, a4, a5, r0, z0⟩ := M6.c
  simp only at a0 a1 a2 a3 a4 a5
  have hn9 : g9 ≠ w.heap.size + 2 := by have := HG9.out; omega
  have hn10 : g9 + 1 ≠ w.heap.size + 2 := by have := HG9.out; omega
  have hn18 : g18 ≠ w.heap.size + 2 := by
    have h1 := HG18.out
    have h2 := hK5.size
    simp only [World.size_alloc] at h2
    omega
  obtain ⟨V6, hV6⟩ : ∃ V6, V6 = V4.alloc (.cells #[.int .i64 0, .int .i64 0, .int .i64 0] 34) := ⟨_, rfl⟩
  rw [← hV6] at M6 H6 rT6 rU6 rX6 L6
  have KS := Lib.hid (fun (W : World) (hW : ∀ q, q ≠ w.heap.size + 2 → W.heap[q]? = V6.heap[q]?) => (show W.cell? ⟨g9, 0, none⟩ = some (.slice A' L c') ∧ W.cell? ⟨g18, 0, none⟩ = some (.int .i64 u1) ∧ W.cell? ⟨g18, 1, none⟩ = some (.int .i64 u2) ∧ W.cell? ⟨g18, 2, none⟩ = some (.int .i64 u3) ∧ W.cell? ⟨g9 + 1, 0, none⟩ = some (.int .i64 u1) ∧ W.cell? ⟨g9 + 1, 1, none⟩ = some (.int .i64 u2) ∧ W.cell? ⟨g9 + 1, 2, none⟩ = some (.int .i64 u3) from ⟨(cell_same (hW _ hn9)).trans (rT6.cell 0), (cell_same (hW _ hn18)).trans (rX6.cell 0), (cell_same (hW _ hn18)).trans (rX6.cell 1), (cell_same (hW _ hn18)).trans (rX6.cell 2), (cell_same (hW _ hn10)).trans (rU6.cell 0), (cell_same (hW _ hn10)).trans (rU6.cell 1), (cell_same (hW _ hn10)).trans (rU6.cell 2)⟩))
  have hbd : Below V6.heap.size V6 V6.drew := (Below.refl _ _).drew
  obtain ⟨f1, f2⟩ := (M6.more hF hbd).done hF (H6.below hbd) hc' (L6.below hbd)
  rw [← HLL.out] at f1 f2
  have F1 := Lib.hid f1
  have F2 := Lib.hid f2
  rw [hV6] at KS F1 F2
  clear f1 f2 hbd M3 M4 M5 M6 H4 hH5 H5 H6 rT4 rT5 rT6 rU4 rU5 rU6 rX5 rX6 hLi L4 L5 L6 hb1 hbA hb6 hbB hbC hK5 hn9 hn10 hn18 h hA hV6 hgone
  go_wp2_with fail
  refine wp_region_held_drew (S := fun W => W.cell? ⟨g9, 0, none⟩ = some (.slice A' L c') ∧ W.cell? ⟨g18, 0, none⟩ = some (.int .i64 u1) ∧ W.cell? ⟨g18, 1, none⟩ = some (.int .i64 u2) ∧ W.cell? ⟨g18, 2, none⟩ = some (.int .i64 u3) ∧ W.cell? ⟨g9 + 1, 0, none⟩ = some (.int .i64 u1) ∧ W.cell? ⟨g9 + 1, 1, none⟩ = some (.int .i64 u2) ∧ W.cell? ⟨g9 + 1, 2, none⟩ = some (.int .i64 u3)) (by kernel_rfl) ?_ (fun hHeld => ?_)
  · exact KS.out _ (fun _ _ => rfl)
  refine wpAnyH_take (i := 0) (v := ?_) rfl (by kernel_rfl) (by kernel_rfl) (by kernel_rfl) (fun _ _ _ h => h) (Or.inl ⟨by kernel_rfl, ?_⟩) (by assumption) ?_
  rotate_left
  focus (intro w hSw; (try dsimp only at hSw); go_simp; try with_reducible rfl)
  simp only [Act.put]
  refine wpAnyH_take (i := 1) (v := ?_) rfl (by kernel_rfl) (by kernel_rfl) (by kernel_rfl) (fun _ _ _ h => h) (Or.inl ⟨by kernel_rfl, ?_⟩) (by assumption) ?_
  rotate_left
  focus (intro w hSw; (try dsimp only at hSw); go_simp; try with_reducible rfl)
  simp only [Act.put]
  refine wpAnyH_take (i := 2) (v := ?_) rfl (by kernel_rfl) (by kernel_rfl) (by kernel_rfl) (fun _ _ _ h => h) (Or.inl ⟨by kernel_rfl, ?_⟩) (by assumption) ?_
  rotate_left
  focus (intro w hSw; (try dsimp only at hSw); go_simp; try with_reducible rfl)
  simp only [Act.put]
  refine wpAnyH_take (i := 3) (v := ?_) rfl (by kernel_rfl) (by kernel_rfl) (by kernel_rfl) (fun _ _ _ h => h) (Or.inl ⟨by kernel_rfl, ?_⟩) (by assumption) ?_
  rotate_left
  focus (intro w hSw; (try dsimp only at hSw); go_simp; try with_reducible rfl)
  simp only [Act.put]
  refine wpAnyH_take (i := 4) (v := ?_) rfl (by kernel_rfl) (by kernel_rfl) (by kernel_rfl) (fun _ _ _ h => h) (Or.inl ⟨by kernel_rfl, ?_⟩) (by assumption) ?_
  rotate_left
  focus (intro w hSw; (try dsimp only at hSw); go_simp; try with_reducible rfl)
  simp only [Act.put]
  refine wpAnyH_take (i := 5) (v := ?_) rfl (by kernel_rfl) (by kernel_rfl) (by kernel_rfl) (fun _ _ _ h => h) (Or.inl ⟨by kernel_rfl, ?_⟩) (by assumption) ?_
  rotate_left
  focus (intro w hSw; (try dsimp only at hSw); go_simp; try with_reducible rfl)
  simp only [Act.put]
  refine wpAnyH_take (i := 6) (v := ?_) rfl (by kernel_rfl) (by kernel_rfl) (by kernel_rfl) (fun _ _ _ h => h) (Or.inl ⟨by kernel_rfl, ?_⟩) (by assumption) ?_
  rotate_left
  focus (intro w hSw; (try dsimp only at hSw); go_simp; try with_reducible rfl)
  simp only [Act.put]
  refine wpAnyH_take (i := 8) (v := ?_) rfl (by kernel_rfl) (by kernel_rfl) (by kernel_rfl) (fun _ _ _ h => h) (Or.inl ⟨by kernel_rfl, ?_⟩) (by assumption) ?_
  rotate_left
  focus (intro w hSw; (try dsimp only at hSw); go_simp; try with_reducible rfl)
  simp only [Act.put]
  refine wpAnyH_ready (rs := [7]) (by kernel_rfl) (by simp) ?_
  refine AllReadyH.cons rfl (fun K hK => ?_) AllReadyH.nil
  go_simp
  refine (hnum.out _ _).mono ?_
  rintro e wn ⟨rfl, rfl⟩
  refine hK.out _ _ ?_ (fun hHeld => ?_)
  · exact KS.out _ (fun _ _ => rfl)
  clear hK K
  try simp only [Act.put]
  refine wpAnyH_take (i := 9) (v := ?_) rfl (by kernel_rfl) (by kernel_rfl) (by kernel_rfl) (fun _ _ _ h => h) (Or.inl ⟨by kernel_rfl, ?_⟩) (by assumption) ?_
  rotate_left
  focus (intro w hSw; (try dsimp only at hSw); go_simp; try with_reducible rfl)
  simp only [Act.put]
  refine wpAnyH_take (i := 10) (v := ?_) rfl (by kernel_rfl) (by kernel_rfl) (by kernel_rfl) (fun _ _ _ h => h) (Or.inl ⟨by kernel_rfl, ?_⟩) (by assumption) ?_
  rotate_left
  focus (intro w hSw; (try dsimp only at hSw); go_simp; try with_reducible rfl)
  simp only [Act.put]
  refine wpAnyH_take (i := 11) (v := ?_) rfl (by kernel_rfl) (by kernel_rfl) (by kernel_rfl) (fun _ _ _ h => h) (Or.inl ⟨by kernel_rfl, ?_⟩) (by assumption) ?_
  rotate_left
  focus (intro w hSw; (try dsimp only at hSw); go_simp; try with_reducible rfl)
  simp only [Act.put]
  refine wpAnyH_take (i := 12) (v := ?_) rfl (by kernel_rfl) (by kernel_rfl) (by kernel_rfl) (fun _ _ _ h => h) (Or.inl ⟨by kernel_rfl, ?_⟩) (by assumption) ?_
  rotate_left
  focus (intro w hSw; (try dsimp only at hSw); go_simp; try with_reducible rfl)
  simp only [Act.put]
  refine wpAnyH_take (i := 13) (v := ?_) rfl (by kernel_rfl) (by kernel_rfl) (by kernel_rfl) (fun _ _ _ h => h) (Or.inl ⟨by kernel_rfl, ?_⟩) (by assumption) ?_
  rotate_left
  focus (intro w hSw; (try dsimp only at hSw); go_simp; try with_reducible rfl)
  simp only [Act.put]
  refine wpAnyH_take (i := 14) (v := ?_) rfl (by kernel_rfl) (by kernel_rfl) (by kernel_rfl) (fun _ _ _ h => h) (Or.inl ⟨by kernel_rfl, ?_⟩) (by assumption) ?_
  rotate_left
  focus (intro w hSw; (try dsimp only at hSw); go_simp; try with_reducible rfl)
  simp only [Act.put]
  refine wpAnyH_ready (rs := [15]) (by kernel_rfl) (by simp) ?_
  refine AllReadyH.cons rfl (fun K hK => ?_) AllReadyH.nil
  go_simp
  refine hK.out _ _ ?_ (fun hHeld => ?_)
  · exact KS.out _ (fun _ _ => rfl)
  clear hK K
  try simp only [Act.put]
  refine wpAnyH_ready (rs := [16]) (by kernel_rfl) (by simp) ?_
  refine AllReadyH.cons rfl (fun K hK => ?_) AllReadyH.nil
  go_simp
  refine hK.out _ _ ?_ (fun hHeld => ?_)
  · exact KS.out _ (fun q hq => heap_set hq)
  clear hK K
  try simp only [Act.put]
  refine wpAnyH_ready (rs := [17]) (by kernel_rfl) (by simp) ?_
  refine AllReadyH.cons rfl (fun K hK => ?_) AllReadyH.nil
  go_simp
  refine hK.out _ _ ?_ (fun hHeld => ?_)
  · exact KS.out _ (fun q hq => heap_set hq)
  clear hK K
  try simp only [Act.put]
  refine wpAnyH_done (by kernel_rfl) ?_ _
  go_wp2_with fail
  exact bodyPost_ret (res_mid Try.results10 rfl F1.out) rfl F2.out
set_option maxRecDepth 100000 in
set_option maxHeartbeats 4000000 in
theorem act_prot {w : World} {b c : Nat} {l : Tb} {F : Nat → Prop} {A : Option Addr} (h : Has w b l F) (hcap : l.length ≤ c) (hA : Lies w A l) (p m o1 o2 o3 : Int) (hx : (⟨2, p, m, (o1, o2, o3)⟩ : Ac).fits) :
    Calls Try.prog 10 #[bx b, .agg #[.slice A l.length c], .agg #[.int .i64 2, .int .i64 p, .int .i64 m, .int .i64 o1, .int .i64 o2, .int .i64 o3]] w (ActP w F (stepT l ⟨2, p, m, (o1, o2, o3)⟩)) := by
  have hF := h.lt
  have hok := h.ok
  have hlen := hok.len
  have hnum := Lib.hid (fun n w => num_any n w)
  obtain ⟨W3, hW3⟩ : ∃ W3, W3 = ((w.alloc (.cells #[.slice A l.length c] 29)).alloc (.cells #[.int .i64 2, .int .i64 p, .int .i64 m, .int .i64 o1, .int .i64 o2, .int .i64 o3] 36)).alloc (.cells #[.slice none 0 0] 29) := ⟨_, rfl⟩
  have hb3 : Below w.heap.size w W3 := hW3 ▸ below3 _ _ _ _
  have M3 : AtW w F A l.length c ⟨2, p, m, (o1, o2, o3)⟩ W3 := hW3 ▸ AtW.new w F A l.length c ⟨2, p, m, (o1, o2, o3)⟩
  obtain ⟨t0, a0, a1, a2, a3, a4, a5, r0, z0⟩ := M3.c
  simp only at a0 a1 a2 a3 a4 a5
  rw [hW3] at t0 a0 a1 a2 a3 a4 a5 r0 z0
  have hen := hx.en
  have hpg := hx.page
  simp only at hen hpg
  have HM := Lib.hid (rprot_any l A c p o2 W3 hok hcap (hA.below hb3))
  have HN := Lib.hid (fun V (hV : Has V b l F) => hV.protN p o2)
  obtain ⟨E, hE⟩ : ∃ E, E = protE l p o2 := ⟨_, rfl⟩
  obtain ⟨u, hu⟩ : ∃ u, u = protM l p o2 := ⟨_, rfl⟩
  obtain ⟨l', hl'⟩ : ∃ l', l' = protT l p o2 := ⟨_, rfl⟩
  have HS : Hid (stepT l ⟨2, p, m, (o1, o2, o3)⟩ = l') := Lib.hid (by rw [hl']; rfl)
  rw [HS.out]
  rw [← hE, ← hl', ← hu] at HM HN
  clear hE hl' hu
  go_enter Try.func10, Try.ntmps10
  go_wp2_with fail
  rw [← hW3]
  refine (HM.out).mono ?_
  rintro e V1 ⟨A', c', rfl, hc', hLi, hb1⟩
  obtain ⟨L, hL⟩ : ∃ L, L = l'.length := ⟨_, rfl⟩
  rw [← hL]
  have HLL := Lib.hid hL
  clear hL
  have hbA := below1 V1 (.cells #[.slice A' L c'] 29)
  have M4 := (M3.more hF hb1).more hF hbA
  have H4 := ((h.below hb3).below hb1).below hbA
  have rT4 := Row.new V1 29 [.slice A' L c']
  have L4 := hLi.below hbA
  have hs1 := M3.s
  have hs2 := hb1.size
  obtain ⟨g9, hg9⟩ : ∃ g9, g9 = V1.heap.size := ⟨_, rfl⟩
  rw [← hg9] at rT4
  have hg9F : ¬ F g9 := fun hf => by have := hF _ hf; omega
  have HG9 := Lib.hid hg9
  clear hg9
  clear t0 a0 a1 a2 a3 a4 a5 r0 z0
  obtain ⟨t0, a0, a1, a2, a3, a4, a5, r0, z0⟩ := M4.c
  simp only at a0 a1 a2 a3 a4 a5
  have HN4 := Lib.hid (HN.out _ H4)
  go_wp2_with fail
  refine (HN4.out).mono ?_
  rintro e V6 ⟨rfl, H6, hK5⟩
  rw [← HG9.out]
  have M6 := M4.next hF hK5
  have rT6 := hK5.row rT4 hg9F
  have L6 := H4.apart L4 hK5
  clear t0 a0 a1 a2 a3 a4 a5 r0 z0 HN4 HN HM
  obtain ⟨t0, a0, a1, a2, a3, a4, a5, r0, z0⟩ := M6.c
  simp only at a0 a1 a2 a3 a4 a5
  have hn9 : g9 ≠ w.heap.size + 2 := by have := HG9.out; omega
  have KS := Lib.hid (fun (W : World) (hW : ∀ q, q ≠ w.heap.size + 2 → W.heap[q]? = V6.heap[q]?) => (show W.cell? ⟨g9, 0, none⟩ = some (.slice A' L c') from (cell_same (hW _ hn9)).trans (rT6.cell 0)))
  have hbd : Below V6.heap.size V6 V6.drew := (Below.refl _ _).drew
  obtain ⟨f1, f2⟩ := (M6.more hF hbd).done hF (H6.below hbd) hc' (L6.below hbd)
  rw [← HLL.out] at f1 f2
  have F1 := Lib.hid f1
  have F2 := Lib.hid f2
  clear f1 f2 hbd M3 M4 M6 H4 H6 rT4 rT6 hLi L4 L6 hb1 hbA hK5 hn9 h hA
  go_wp2_with fail
  refine wp_region_held_drew (S := fun W => W.cell? ⟨g9, 0, none⟩ = some (.slice A' L c')) (by kernel_rfl) ?_ (fun hHeld => ?_)
  · exact KS.out _ (fun _ _ => rfl)
  refine wpAnyH_take (i := 0) (v := ?_) rfl (by kernel_rfl) (by kernel_rfl) (by kernel_rfl) (fun _ _ _ h => h) (Or.inl ⟨by kernel_rfl, ?_⟩) (by assumption) ?_
  rotate_left
  focus (intro w hSw; (try dsimp only at hSw); go_simp; try with_reducible rfl)
  simp only [Act.put]
  refine wpAnyH_take (i := 1) (v := ?_) rfl (by kernel_rfl) (by kernel_rfl) (by kernel_rfl) (fun _ _ _ h => h) (Or.inl ⟨by kernel_rfl, ?_⟩) (by assumption) ?_
  rotate_left
  focus (intro w hSw; (try dsimp only at hSw); go_simp; try with_reducible rfl)
  simp only [Act.put]
  refine wpAnyH_take (i := 2) (v := ?_) rfl (by kernel_rfl) (by kernel_rfl) (by kernel_rfl) (fun _ _ _ h => h) (Or.inl ⟨by kernel_rfl, ?_⟩) (by assumption) ?_
  rotate_left
  focus (intro w hSw; (try dsimp only at hSw); go_simp; try with_reducible rfl)
  simp only [Act.put]
  refine wpAnyH_take (i := 3) (v := ?_) rfl (by kernel_rfl) (by kernel_rfl) (by kernel_rfl) (fun _ _ _ h => h) (Or.inl ⟨by kernel_rfl, ?_⟩) (by assumption) ?_
  rotate_left
  focus (intro w hSw; (try dsimp only at hSw); go_simp; try with_reducible rfl)
  simp only [Act.put]
  refine wpAnyH_take (i := 4) (v := ?_) rfl (by kernel_rfl) (by kernel_rfl) (by kernel_rfl) (fun _ _ _ h => h) (Or.inl ⟨by kernel_rfl, ?_⟩) (by assumption) ?_
  rotate_left
  focus (intro w hSw; (try dsimp only at hSw); go_simp; try with_reducible rfl)
  simp only [Act.put]
  refine wpAnyH_take (i := 5) (v := ?_) rfl (by kernel_rfl) (by kernel_rfl) (by kernel_rfl) (fun _ _ _ h => h) (Or.inl ⟨by kernel_rfl, ?_⟩) (by assumption) ?_
  rotate_left
  focus (intro w hSw; (try dsimp only at hSw); go_simp; try with_reducible rfl)
  simp only [Act.put]
  refine wpAnyH_take (i := 6) (v := ?_) rfl (by kernel_rfl) (by kernel_rfl) (by kernel_rfl) (fun _ _ _ h => h) (Or.inl ⟨by kernel_rfl, ?_⟩) (by assumption) ?_
  rotate_left
  focus (intro w hSw; (try dsimp only at hSw); go_simp; try with_reducible rfl)
  simp only [Act.put]
  refine wpAnyH_take (i := 8) (v := ?_) rfl (by kernel_rfl) (by kernel_rfl) (by kernel_rfl) (fun _ _ _ h => h) (Or.inl ⟨by kernel_rfl, ?_⟩) (by assumption) ?_
  rotate_left
  focus (intro w hSw; (try dsimp only at hSw); go_simp; try with_reducible rfl)
  simp only [Act.put]
  refine wpAnyH_ready (rs := [7]) (by kernel_rfl) (by simp) ?_
  refine AllReadyH.cons rfl (fun K hK => ?_) AllReadyH.nil
  go_simp
  refine (hnum.out _ _).mono ?_
  rintro e wn ⟨rfl, rfl⟩
  refine hK.out _ _ ?_ (fun hHeld => ?_)
  · exact KS.out _ (fun _ _ => rfl)
  clear hK K
  try simp only [Act.put]
  refine wpAnyH_take (i := 9) (v := ?_) rfl (by kernel_rfl) (by kernel_rfl) (by kernel_rfl) (fun _ _ _ h => h) (Or.inl ⟨by kernel_rfl, ?_⟩) (by assumption) ?_
  rotate_left
  focus (intro w hSw; (try dsimp only at hSw); go_simp; try with_reducible rfl)
  simp only [Act.put]
  refine wpAnyH_take (i := 10) (v := ?_) rfl (by kernel_rfl) (by kernel_rfl) (by kernel_rfl) (fun _ _ _ h => h) (Or.inl ⟨by kernel_rfl, ?_⟩) (by assumption) ?_
  rotate_left
  focus (intro w hSw; (try dsimp only at hSw); go_simp; try with_reducible rfl)
  simp only [Act.put]
  refine wpAnyH_ready (rs := [11]) (by kernel_rfl) (by simp) ?_
  refine AllReadyH.cons rfl (fun K hK => ?_) AllReadyH.nil
  go_simp
  refine hK.out _ _ ?_ (fun hHeld => ?_)
  · exact KS.out _ (fun _ _ => rfl)
  clear hK K
  try simp only [Act.put]
  refine wpAnyH_ready (rs := [12]) (by kernel_rfl) (by simp) ?_
  refine AllReadyH.cons rfl (fun K hK => ?_) AllReadyH.nil
  go_simp
  refine hK.out _ _ ?_ (fun hHeld => ?_)
  · exact KS.out _ (fun q hq => heap_set hq)
  clear hK K
  try simp only [Act.put]
  refine wpAnyH_ready (rs := [13]) (by kernel_rfl) (by simp) ?_
  refine AllReadyH.cons rfl (fun K hK => ?_) AllReadyH.nil
  go_simp
  refine hK.out _ _ ?_ (fun hHeld => ?_)
  · exact KS.out _ (fun q hq => heap_set hq)
  clear hK K
  try simp only [Act.put]
  refine wpAnyH_done (by kernel_rfl) ?_ _
  go_wp2_with fail
  exact bodyPost_ret (res_mid Try.results10 rfl F1.out) rfl F2.out
end Go.Proofs.Ytmocdokikcbjeaa

namespace Go.Proofs.Ytmocdokikcbjeaa
open Go.RowKit Go.Shelf Go.Maps Go.Sort
attribute [local go_sem] Oper.semAt_some

/- A CALL BY BOTH: FREE, NEXT, COPY. -/
set_option maxRecDepth 100000 in
set_option maxHeartbeats 4000000 in
theorem act_next {w : World} {b c : Nat} {l : Tb} {F : Nat → Prop} {A : Option Addr} (h : Has w b l F) (hcap : l.length ≤ c) (hA : Lies w A l) (p m o1 o2 o3 : Int) (hx : (⟨4, p, m, (o1, o2, o3)⟩ : Ac).fits) :
    Calls Try.prog 10 #[bx b, .agg #[.slice A l.length c], .agg #[.int .i64 4, .int .i64 p, .int .i64 m, .int .i64 o1, .int .i64 o2, .int .i64 o3]] w (ActP w F (stepT l ⟨4, p, m, (o1, o2, o3)⟩)) := by
  have hF := h.lt
  have hok := h.ok
  have hlen := hok.len
  have hnum := Lib.hid (fun n w => num_any n w)
  obtain ⟨W3, hW3⟩ : ∃ W3, W3 = ((w.alloc (.cells #[.slice A l.length c] 29)).alloc (.cells #[.int .i64 4, .int .i64 p, .int .i64 m, .int .i64 o1, .int .i64 o2, .int .i64 o3] 36)).alloc (.cells #[.slice none 0 0] 29) := ⟨_, rfl⟩
  have hb3 : Below w.heap.size w W3 := hW3 ▸ below3 _ _ _ _
  have M3 : AtW w F A l.length c ⟨4, p, m, (o1, o2, o3)⟩ W3 := hW3 ▸ AtW.new w F A l.length c ⟨4, p, m, (o1, o2, o3)⟩
  obtain ⟨t0, a0, a1, a2, a3, a4, a5, r0, z0⟩ := M3.c
  simp only at a0 a1 a2 a3 a4 a5
  rw [hW3] at t0 a0 a1 a2 a3 a4 a5 r0 z0
  have hen := hx.en
  have hpg := hx.page
  simp only at hen hpg
  have HN := Lib.hid ((h.below hb3).nxtN p m)
  have HS : Hid (stepT l ⟨4, p, m, (o1, o2, o3)⟩ = l) := Lib.hid rfl
  rw [HS.out]
  have HR := Lib.hid (fun V (hb : Below W3.heap.size W3 V) => rnext_any l A l.length c p m V hok rfl hpg ((hA.below hb3).below hb))
  obtain ⟨N, hN⟩ : ∃ N, N = nextI l p m := ⟨_, rfl⟩
  rw [← hN] at HN HR
  clear hN
  by_cases h1 : 0 < N
  · have d0 : decide (0 ≤ N) = true := decide_eq_true (by omega)
    rw [if_pos (by omega), d0] at HN
    have hmx : ∀ ts t w, (Builtin.max_ ts t #[.int .i64 0, .int .i64 N]).run Try.prog w = .ok (.int .i64 N) w := fun ts t w => by rw [run_max_int2, if_pos h1]
    clear h1
    go_enter Try.func10, Try.ntmps10
    go_wp2_with fail
    rw [← hW3]
    refine (HN.out).mono ?_
    rintro e V5 ⟨rfl, hb1⟩
    have M5 := M3.more hF hb1
    have H5 := (h.below hb3).below hb1
    have L5 := ((hA.below hb3).below hb1)
    have HR5 := Lib.hid (HR.out _ hb1)
    clear t0 a0 a1 a2 a3 a4 a5 r0 z0 HN HR
    obtain ⟨t0, a0, a1, a2, a3, a4, a5, r0, z0⟩ := M5.c
    simp only at a0 a1 a2 a3 a4 a5
    go_wp2_with fail
    refine (HR5.out).mono ?_
    rintro e V6 ⟨rfl, hb6⟩
    have M6 := M5.more hF hb6
    have H6 := H5.below hb6
    have L6 := L5.below hb6
    clear t0 a0 a1 a2 a3 a4 a5 r0 z0 HR5
    obtain ⟨t0, a0, a1, a2, a3, a4, a5, r0, z0⟩ := M6.c
    simp only at a0 a1 a2 a3 a4 a5
    have KS := Lib.hid (fun (W : World) (hW : ∀ q, q ≠ w.heap.size + 2 → W.heap[q]? = V6.heap[q]?) => (show W.cell? ⟨w.heap.size, 0, none⟩ = some (.slice A l.length c) from (cell_same (hW _ (show w.heap.size ≠ w.heap.size + 2 by omega))).trans M6.c.t0))
    have hbd : Below V6.heap.size V6 V6.drew := (Below.refl _ _).drew
    obtain ⟨f1, f2⟩ := (M6.more hF hbd).done hF (H6.below hbd) hcap (L6.below hbd)
    have F1 := Lib.hid f1
    have F2 := Lib.hid f2
    clear f1 f2 hbd M3 M5 M6 H5 H6 L5 L6 hb1 hb6 h hA
    go_wp2_with fail
    refine wp_region_held_drew (S := fun W => W.cell? ⟨w.heap.size, 0, none⟩ = some (.slice A l.length c)) (by kernel_rfl) ?_ (fun hHeld => ?_)
    · exact KS.out _ (fun _ _ => rfl)
    refine wpAnyH_take (i := 0) (v := ?_) rfl (by kernel_rfl) (by kernel_rfl) (by kernel_rfl) (fun _ _ _ h => h) (Or.inl ⟨by kernel_rfl, ?_⟩) (by assumption) ?_
    rotate_left
    focus (intro w hSw; (try dsimp only at hSw); go_simp; try with_reducible rfl)
    simp only [Act.put]
    refine wpAnyH_take (i := 1) (v := ?_) rfl (by kernel_rfl) (by kernel_rfl) (by kernel_rfl) (fun _ _ _ h => h) (Or.inl ⟨by kernel_rfl, ?_⟩) (by assumption) ?_
    rotate_left
    focus (intro w hSw; (try dsimp only at hSw); go_simp; try with_reducible rfl)
    simp only [Act.put]
    refine wpAnyH_take (i := 2) (v := ?_) rfl (by kernel_rfl) (by kernel_rfl) (by kernel_rfl) (fun _ _ _ h => h) (Or.inl ⟨by kernel_rfl, ?_⟩) (by assumption) ?_
    rotate_left
    focus (intro w hSw; (try dsimp only at hSw); go_simp; try with_reducible rfl)
    simp only [Act.put]
    refine wpAnyH_take (i := 3) (v := ?_) rfl (by kernel_rfl) (by kernel_rfl) (by kernel_rfl) (fun _ _ _ h => h) (Or.inl ⟨by kernel_rfl, ?_⟩) (by assumption) ?_
    rotate_left
    focus (intro w hSw; (try dsimp only at hSw); go_simp; try with_reducible rfl)
    simp only [Act.put]
    refine wpAnyH_ready (rs := [4]) (by kernel_rfl) (by simp) ?_
    refine AllReadyH.cons rfl (fun K hK => ?_) AllReadyH.nil
    go_simp
    refine hK.out _ _ ?_ (fun hHeld => ?_)
    · exact KS.out _ (fun _ _ => rfl)
    clear hK K
    try simp only [Act.put]
    refine wpAnyH_take (i := 5) (v := ?_) rfl (by kernel_rfl) (by kernel_rfl) (by kernel_rfl) (fun _ _ _ h => h) (Or.inl ⟨by kernel_rfl, ?_⟩) (by assumption) ?_
    rotate_left
    focus (intro w hSw; (try dsimp only at hSw); go_simp; try with_reducible rfl)
    simp only [Act.put]
    refine wpAnyH_take (i := 6) (v := ?_) rfl (by kernel_rfl) (by kernel_rfl) (by kernel_rfl) (fun _ _ _ h => h) (Or.inl ⟨by kernel_rfl, ?_⟩) (by assumption) ?_
    rotate_left
    focus (intro w hSw; (try dsimp only at hSw); go_simp; try with_reducible rfl)
    simp only [Act.put]
    refine wpAnyH_take (i := 7) (v := ?_) rfl (by kernel_rfl) (by kernel_rfl) (by kernel_rfl) (fun _ _ _ h => h) (Or.inl ⟨by kernel_rfl, ?_⟩) (by assumption) ?_
    rotate_left
    focus (intro w hSw; (try dsimp only at hSw); go_simp; try with_reducible rfl)
    simp only [Act.put]
    refine wpAnyH_take (i := 8) (v := ?_) rfl (by kernel_rfl) (by kernel_rfl) (by kernel_rfl) (fun _ _ _ h => h) (Or.inl ⟨by kernel_rfl, ?_⟩) (by assumption) ?_
    rotate_left
    focus (intro w hSw; (try dsimp only at hSw); go_simp; try with_reducible rfl)
    simp only [Act.put]
    refine wpAnyH_take (i := 9) (v := ?_) rfl (by kernel_rfl) (by kernel_rfl) (by kernel_rfl) (fun _ _ _ h => h) (Or.inl ⟨by kernel_rfl, ?_⟩) (by assumption) ?_
    rotate_left
    focus (intro w hSw; (try dsimp only at hSw); go_simp; try with_reducible rfl)
    simp only [Act.put]
    refine wpAnyH_take (i := 10) (v := ?_) rfl (by kernel_rfl) (by kernel_rfl) (by kernel_rfl) (fun _ _ _ h => h) (Or.inl ⟨by kernel_rfl, ?_⟩) (by assumption) ?_
    rotate_left
    focus (intro w hSw; (try dsimp only at hSw); go_simp; try with_reducible rfl)
    simp only [Act.put]
    refine wpAnyH_take (i := 11) (v := ?_) rfl (by kernel_rfl) (by kernel_rfl) (by kernel_rfl) (fun _ _ _ h => h) (Or.inl ⟨by kernel_rfl, ?_⟩) (by assumption) ?_
    rotate_left
    focus (intro w hSw; (try dsimp only at hSw); go_simp; try with_reducible rfl)
    simp only [Act.put]
    refine wpAnyH_ready (rs := [12]) (by kernel_rfl) (by simp) ?_
    refine AllReadyH.cons rfl (fun K hK => ?_) AllReadyH.nil
    go_simp
    refine hK.out _ _ ?_ (fun hHeld => ?_)
    · exact KS.out _ (fun _ _ => rfl)
    clear hK K
    try simp only [Act.put]
    refine wpAnyH_ready (rs := [13]) (by kernel_rfl) (by simp) ?_
    refine AllReadyH.cons rfl (fun K hK => ?_) AllReadyH.nil
    go_simp
    refine hK.out _ _ ?_ (fun hHeld => ?_)
    · exact KS.out _ (fun q hq => heap_set hq)
    clear hK K
    try simp only [Act.put]
    refine wpAnyH_ready (rs := [14]) (by kernel_rfl) (by simp) ?_
    refine AllReadyH.cons rfl (fun K hK => ?_) AllReadyH.nil
    go_simp
    refine hK.out _ _ ?_ (fun hHeld => ?_)
    · exact KS.out _ (fun q hq => heap_set hq)
    clear hK K
    try simp only [Act.put]
    refine wpAnyH_done (by kernel_rfl) ?_ _
    go_wp2_with fail
    exact bodyPost_ret (res_mid Try.results10 rfl F1.out) rfl F2.out
  by_cases h0 : N = 0
  · subst h0
    rw [if_pos (by omega), show decide ((0 : Int) ≤ 0) = true from rfl] at HN
    have d0 : decide ((0 : Int) ≤ 0) = true := rfl
    have hmx : ∀ ts t w, (Builtin.max_ ts t #[.int .i64 0, .int .i64 0]).run Try.prog w = .ok (.int .i64 0) w := fun ts t w => by rw [run_max_int2, if_neg (by omega)]
    clear h1
    go_enter Try.func10, Try.ntmps10
    go_wp2_with fail
    rw [← hW3]
    refine (HN.out).mono ?_
    rintro e V5 ⟨rfl, hb1⟩
    have M5 := M3.more hF hb1
    have H5 := (h.below hb3).below hb1
    have L5 := ((hA.below hb3).below hb1)
    have HR5 := Lib.hid (HR.out _ hb1)
    clear t0 a0 a1 a2 a3 a4 a5 r0 z0 HN HR
    obtain ⟨t0, a0, a1, a2, a3, a4, a5, r0, z0⟩ := M5.c
    simp only at a0 a1 a2 a3 a4 a5
    go_wp2_with fail
    refine (HR5.out).mono ?_
    rintro e V6 ⟨rfl, hb6⟩
    have M6 := M5.more hF hb6
    have H6 := H5.below hb6
    have L6 := L5.below hb6
    clear t0 a0 a1 a2 a3 a4 a5 r0 z0 HR5
    obtain ⟨t0, a0, a1, a2, a3, a4, a5, r0, z0⟩ := M6.c
    simp only at a0 a1 a2 a3 a4 a5
    have KS := Lib.hid (fun (W : World) (hW : ∀ q, q ≠ w.heap.size + 2 → W.heap[q]? = V6.heap[q]?) => (show W.cell? ⟨w.heap.size, 0, none⟩ = some (.slice A l.length c) from (cell_same (hW _ (show w.heap.size ≠ w.heap.size + 2 by omega))).trans M6.c.t0))
    have hbd : Below V6.heap.size V6 V6.drew := (Below.refl _ _).drew
    obtain ⟨f1, f2⟩ := (M6.more hF hbd).done hF (H6.below hbd) hcap (L6.below hbd)
    have F1 := Lib.hid f1
    have F2 := Lib.hid f2
    clear f1 f2 hbd M3 M5 M6 H5 H6 L5 L6 hb1 hb6 h hA
    go_wp2_with fail
    refine wp_region_held_drew (S := fun W => W.cell? ⟨w.heap.size, 0, none⟩ = some (.slice A l.length c)) (by kernel_rfl) ?_ (fun hHeld => ?_)
    · exact KS.out _ (fun _ _ => rfl)
    refine wpAnyH_take (i := 0) (v := ?_) rfl (by kernel_rfl) (by kernel_rfl) (by kernel_rfl) (fun _ _ _ h => h) (Or.inl ⟨by kernel_rfl, ?_⟩) (by assumption) ?_
    rotate_left
    focus (intro w hSw; (try dsimp only at hSw); go_simp; try with_reducible rfl)
    simp only [Act.put]
    refine wpAnyH_take (i := 1) (v := ?_) rfl (by kernel_rfl) (by kernel_rfl) (by kernel_rfl) (fun _ _ _ h => h) (Or.inl ⟨by kernel_rfl, ?_⟩) (by assumption) ?_
    rotate_left
    focus (intro w hSw; (try dsimp only at hSw); go_simp; try with_reducible rfl)
    simp only [Act.put]
    refine wpAnyH_take (i := 2) (v := ?_) rfl (by kernel_rfl) (by kernel_rfl) (by kernel_rfl) (fun _ _ _ h => h) (Or.inl ⟨by kernel_rfl, ?_⟩) (by assumption) ?_
    rotate_left
    focus (intro w hSw; (try dsimp only at hSw); go_simp; try with_reducible rfl)
    simp only [Act.put]
    refine wpAnyH_take (i := 3) (v := ?_) rfl (by kernel_rfl) (by kernel_rfl) (by kernel_rfl) (fun _ _ _ h => h) (Or.inl ⟨by kernel_rfl, ?_⟩) (by assumption) ?_
    rotate_left
    focus (intro w hSw; (try dsimp only at hSw); go_simp; try with_reducible rfl)
    simp only [Act.put]
    refine wpAnyH_ready (rs := [4]) (by kernel_rfl) (by simp) ?_
    refine AllReadyH.cons rfl (fun K hK => ?_) AllReadyH.nil
    go_simp
    refine hK.out _ _ ?_ (fun hHeld => ?_)
    · exact KS.out _ (fun _ _ => rfl)
    clear hK K
    try simp only [Act.put]
    refine wpAnyH_take (i := 5) (v := ?_) rfl (by kernel_rfl) (by kernel_rfl) (by kernel_rfl) (fun _ _ _ h => h) (Or.inl ⟨by kernel_rfl, ?_⟩) (by assumption) ?_
    rotate_left
    focus (intro w hSw; (try dsimp only at hSw); go_simp; try with_reducible rfl)
    simp only [Act.put]
    refine wpAnyH_take (i := 6) (v := ?_) rfl (by kernel_rfl) (by kernel_rfl) (by kernel_rfl) (fun _ _ _ h => h) (Or.inl ⟨by kernel_rfl, ?_⟩) (by assumption) ?_
    rotate_left
    focus (intro w hSw; (try dsimp only at hSw); go_simp; try with_reducible rfl)
    simp only [Act.put]
    refine wpAnyH_take (i := 7) (v := ?_) rfl (by kernel_rfl) (by kernel_rfl) (by kernel_rfl) (fun _ _ _ h => h) (Or.inl ⟨by kernel_rfl, ?_⟩) (by assumption) ?_
    rotate_left
    focus (intro w hSw; (try dsimp only at hSw); go_simp; try with_reducible rfl)
    simp only [Act.put]
    refine wpAnyH_take (i := 8) (v := ?_) rfl (by kernel_rfl) (by kernel_rfl) (by kernel_rfl) (fun _ _ _ h => h) (Or.inl ⟨by kernel_rfl, ?_⟩) (by assumption) ?_
    rotate_left
    focus (intro w hSw; (try dsimp only at hSw); go_simp; try with_reducible rfl)
    simp only [Act.put]
    refine wpAnyH_take (i := 9) (v := ?_) rfl (by kernel_rfl) (by kernel_rfl) (by kernel_rfl) (fun _ _ _ h => h) (Or.inl ⟨by kernel_rfl, ?_⟩) (by assumption) ?_
    rotate_left
    focus (intro w hSw; (try dsimp only at hSw); go_simp; try with_reducible rfl)
    simp only [Act.put]
    refine wpAnyH_take (i := 10) (v := ?_) rfl (by kernel_rfl) (by kernel_rfl) (by kernel_rfl) (fun _ _ _ h => h) (Or.inl ⟨by kernel_rfl, ?_⟩) (by assumption) ?_
    rotate_left
    focus (intro w hSw; (try dsimp only at hSw); go_simp; try with_reducible rfl)
    simp only [Act.put]
    refine wpAnyH_take (i := 11) (v := ?_) rfl (by kernel_rfl) (by kernel_rfl) (by kernel_rfl) (fun _ _ _ h => h) (Or.inl ⟨by kernel_rfl, ?_⟩) (by assumption) ?_
    rotate_left
    focus (intro w hSw; (try dsimp only at hSw); go_simp; try with_reducible rfl)
    simp only [Act.put]
    refine wpAnyH_ready (rs := [12]) (by kernel_rfl) (by simp) ?_
    refine AllReadyH.cons rfl (fun K hK => ?_) AllReadyH.nil
    go_simp
    refine hK.out _ _ ?_ (fun hHeld => ?_)
    · exact KS.out _ (fun _ _ => rfl)
    clear hK K
    try simp only [Act.put]
    refine wpAnyH_ready (rs := [13]) (by kernel_rfl) (by simp) ?_
    refine AllReadyH.cons rfl (fun K hK => ?_) AllReadyH.nil
    go_simp
    refine hK.out _ _ ?_ (fun hHeld => ?_)
    · exact KS.out _ (fun q hq => heap_set hq)
    clear hK K
    try simp only [Act.put]
    refine wpAnyH_ready (rs := [14]) (by kernel_rfl) (by simp) ?_
    refine AllReadyH.cons rfl (fun K hK => ?_) AllReadyH.nil
    go_simp
    refine hK.out _ _ ?_ (fun hHeld => ?_)
    · exact KS.out _ (fun q hq => heap_set hq)
    clear hK K
    try simp only [Act.put]
    refine wpAnyH_done (by kernel_rfl) ?_ _
    go_wp2_with fail
    exact bodyPost_ret (res_mid Try.results10 rfl F1.out) rfl F2.out
  · have d0 : decide (0 ≤ N) = false := decide_eq_false (by omega)
    rw [if_neg (by omega), d0] at HN
    have hmx : ∀ ts t w, (Builtin.max_ ts t #[.int .i64 0, .int .i64 N]).run Try.prog w = .ok (.int .i64 0) w := fun ts t w => by rw [run_max_int2, if_neg h1]
    clear h1 h0
    go_enter Try.func10, Try.ntmps10
    go_wp2_with fail
    rw [← hW3]
    refine (HN.out).mono ?_
    rintro e V5 ⟨rfl, hb1⟩
    have M5 := M3.more hF hb1
    have H5 := (h.below hb3).below hb1
    have L5 := ((hA.below hb3).below hb1)
    have HR5 := Lib.hid (HR.out _ hb1)
    clear t0 a0 a1 a2 a3 a4 a5 r0 z0 HN HR
    obtain ⟨t0, a0, a1, a2, a3, a4, a5, r0, z0⟩ := M5.c
    simp only at a0 a1 a2 a3 a4 a5
    go_wp2_with fail
    refine (HR5.out).mono ?_
    rintro e V6 ⟨rfl, hb6⟩
    have M6 := M5.more hF hb6
    have H6 := H5.below hb6
    have L6 := L5.below hb6
    clear t0 a0 a1 a2 a3 a4 a5 r0 z0 HR5
    obtain ⟨t0, a0, a1, a2, a3, a4, a5, r0, z0⟩ := M6.c
    simp only at a0 a1 a2 a3 a4 a5
    have KS := Lib.hid (fun (W : World) (hW : ∀ q, q ≠ w.heap.size + 2 → W.heap[q]? = V6.heap[q]?) => (show W.cell? ⟨w.heap.size, 0, none⟩ = some (.slice A l.length c) from (cell_same (hW _ (show w.heap.size ≠ w.heap.size + 2 by omega))).trans M6.c.t0))
    have hbd : Below V6.heap.size V6 V6.drew := (Below.refl _ _).drew
    obtain ⟨f1, f2⟩ := (M6.more hF hbd).done hF (H6.below hbd) hcap (L6.below hbd)
    have F1 := Lib.hid f1
    have F2 := Lib.hid f2
    clear f1 f2 hbd M3 M5 M6 H5 H6 L5 L6 hb1 hb6 h hA
    go_wp2_with fail
    refine wp_region_held_drew (S := fun W => W.cell? ⟨w.heap.size, 0, none⟩ = some (.slice A l.length c)) (by kernel_rfl) ?_ (fun hHeld => ?_)
    · exact KS.out _ (fun _ _ => rfl)
    refine wpAnyH_take (i := 0) (v := ?_) rfl (by kernel_rfl) (by kernel_rfl) (by kernel_rfl) (fun _ _ _ h => h) (Or.inl ⟨by kernel_rfl, ?_⟩) (by assumption) ?_
    rotate_left
    focus (intro w hSw; (try dsimp only at hSw); go_simp; try with_reducible rfl)
    simp only [Act.put]
    refine wpAnyH_take (i := 1) (v := ?_) rfl (by kernel_rfl) (by kernel_rfl) (by kernel_rfl) (fun _ _ _ h => h) (Or.inl ⟨by kernel_rfl, ?_⟩) (by assumption) ?_
    rotate_left
    focus (intro w hSw; (try dsimp only at hSw); go_simp; try with_reducible rfl)
    simp only [Act.put]
    refine wpAnyH_take (i := 2) (v := ?_) rfl (by kernel_rfl) (by kernel_rfl) (by kernel_rfl) (fun _ _ _ h => h) (Or.inl ⟨by kernel_rfl, ?_⟩) (by assumption) ?_
    rotate_left
    focus (intro w hSw; (try dsimp only at hSw); go_simp; try with_reducible rfl)
    simp only [Act.put]
    refine wpAnyH_take (i := 3) (v := ?_) rfl (by kernel_rfl) (by kernel_rfl) (by kernel_rfl) (fun _ _ _ h => h) (Or.inl ⟨by kernel_rfl, ?_⟩) (by assumption) ?_
    rotate_left
    focus (intro w hSw; (try dsimp only at hSw); go_simp; try with_reducible rfl)
    simp only [Act.put]
    refine wpAnyH_ready (rs := [4]) (by kernel_rfl) (by simp) ?_
    refine AllReadyH.cons rfl (fun K hK => ?_) AllReadyH.nil
    go_simp
    refine hK.out _ _ ?_ (fun hHeld => ?_)
    · exact KS.out _ (fun _ _ => rfl)
    clear hK K
    try simp only [Act.put]
    refine wpAnyH_take (i := 5) (v := ?_) rfl (by kernel_rfl) (by kernel_rfl) (by kernel_rfl) (fun _ _ _ h => h) (Or.inl ⟨by kernel_rfl, ?_⟩) (by assumption) ?_
    rotate_left
    focus (intro w hSw; (try dsimp only at hSw); go_simp; try with_reducible rfl)
    simp only [Act.put]
    refine wpAnyH_take (i := 6) (v := ?_) rfl (by kernel_rfl) (by kernel_rfl) (by kernel_rfl) (fun _ _ _ h => h) (Or.inl ⟨by kernel_rfl, ?_⟩) (by assumption) ?_
    rotate_left
    focus (intro w hSw; (try dsimp only at hSw); go_simp; try with_reducible rfl)
    simp only [Act.put]
    refine wpAnyH_take (i := 7) (v := ?_) rfl (by kernel_rfl) (by kernel_rfl) (by kernel_rfl) (fun _ _ _ h => h) (Or.inl ⟨by kernel_rfl, ?_⟩) (by assumption) ?_
    rotate_left
    focus (intro w hSw; (try dsimp only at hSw); go_simp; try with_reducible rfl)
    simp only [Act.put]
    refine wpAnyH_take (i := 8) (v := ?_) rfl (by kernel_rfl) (by kernel_rfl) (by kernel_rfl) (fun _ _ _ h => h) (Or.inl ⟨by kernel_rfl, ?_⟩) (by assumption) ?_
    rotate_left
    focus (intro w hSw; (try dsimp only at hSw); go_simp; try with_reducible rfl)
    simp only [Act.put]
    refine wpAnyH_take (i := 9) (v := ?_) rfl (by kernel_rfl) (by kernel_rfl) (by kernel_rfl) (fun _ _ _ h => h) (Or.inl ⟨by kernel_rfl, ?_⟩) (by assumption) ?_
    rotate_left
    focus (intro w hSw; (try dsimp only at hSw); go_simp; try with_reducible rfl)
    simp only [Act.put]
    refine wpAnyH_take (i := 10) (v := ?_) rfl (by kernel_rfl) (by kernel_rfl) (by kernel_rfl) (fun _ _ _ h => h) (Or.inl ⟨by kernel_rfl, ?_⟩) (by assumption) ?_
    rotate_left
    focus (intro w hSw; (try dsimp only at hSw); go_simp; try with_reducible rfl)
    simp only [Act.put]
    refine wpAnyH_take (i := 11) (v := ?_) rfl (by kernel_rfl) (by kernel_rfl) (by kernel_rfl) (fun _ _ _ h => h) (Or.inl ⟨by kernel_rfl, ?_⟩) (by assumption) ?_
    rotate_left
    focus (intro w hSw; (try dsimp only at hSw); go_simp; try with_reducible rfl)
    simp only [Act.put]
    refine wpAnyH_ready (rs := [12]) (by kernel_rfl) (by simp) ?_
    refine AllReadyH.cons rfl (fun K hK => ?_) AllReadyH.nil
    go_simp
    refine hK.out _ _ ?_ (fun hHeld => ?_)
    · exact KS.out _ (fun _ _ => rfl)
    clear hK K
    try simp only [Act.put]
    refine wpAnyH_ready (rs := [13]) (by kernel_rfl) (by simp) ?_
    refine AllReadyH.cons rfl (fun K hK => ?_) AllReadyH.nil
    go_simp
    refine hK.out _ _ ?_ (fun hHeld => ?_)
    · exact KS.out _ (fun q hq => heap_set hq)
    clear hK K
    try simp only [Act.put]
    refine wpAnyH_ready (rs := [14]) (by kernel_rfl) (by simp) ?_
    refine AllReadyH.cons rfl (fun K hK => ?_) AllReadyH.nil
    go_simp
    refine hK.out _ _ ?_ (fun hHeld => ?_)
    · exact KS.out _ (fun q hq => heap_set hq)
    clear hK K
    try simp only [Act.put]
    refine wpAnyH_done (by kernel_rfl) ?_ _
    go_wp2_with fail
    exact bodyPost_ret (res_mid Try.results10 rfl F1.out) rfl F2.out
set_option maxRecDepth 100000 in
set_option maxHeartbeats 4000000 in
theorem act_copy {w : World} {b c : Nat} {l : Tb} {F : Nat → Prop} {A : Option Addr} (h : Has w b l F) (hcap : l.length ≤ c) (hA : Lies w A l) (wh p m o1 o2 o3 : Int) (hx : (⟨wh, p, m, (o1, o2, o3)⟩ : Ac).fits)
    (k0 : wh ≠ 0) (k1 : wh ≠ 1) (k2 : wh ≠ 2) (k3 : wh ≠ 3) (k4 : wh ≠ 4) :
    Calls Try.prog 10 #[bx b, .agg #[.slice A l.length c], .agg #[.int .i64 wh, .int .i64 p, .int .i64 m, .int .i64 o1, .int .i64 o2, .int .i64 o3]] w (ActP w F (stepT l ⟨wh, p, m, (o1, o2, o3)⟩)) := by
  have hF := h.lt
  have hok := h.ok
  have hlen := hok.len
  have hnum := Lib.hid (fun n w => num_any n w)
  obtain ⟨W3, hW3⟩ : ∃ W3, W3 = ((w.alloc (.cells #[.slice A l.length c] 29)).alloc (.cells #[.int .i64 wh, .int .i64 p, .int .i64 m, .int .i64 o1, .int .i64 o2, .int .i64 o3] 36)).alloc (.cells #[.slice none 0 0] 29) := ⟨_, rfl⟩
  have hb3 : Below w.heap.size w W3 := hW3 ▸ below3 _ _ _ _
  have M3 : AtW w F A l.length c ⟨wh, p, m, (o1, o2, o3)⟩ W3 := hW3 ▸ AtW.new w F A l.length c ⟨wh, p, m, (o1, o2, o3)⟩
  obtain ⟨t0, a0, a1, a2, a3, a4, a5, r0, z0⟩ := M3.c
  simp only at a0 a1 a2 a3 a4 a5
  rw [hW3] at t0 a0 a1 a2 a3 a4 a5 r0 z0
  have hen := hx.en
  have hpg := hx.page
  simp only at hen hpg
  have HS : Hid (stepT l ⟨wh, p, m, (o1, o2, o3)⟩ = l) := Lib.hid (by unfold stepT; rw [if_neg k0, if_neg k1, if_neg k2])
  rw [HS.out]
  have e0 : (wh == 0) = false := beq_eq_false_iff_ne.2 k0
  have e1 : (wh == 1) = false := beq_eq_false_iff_ne.2 k1
  have e2 : (wh == 2) = false := beq_eq_false_iff_ne.2 k2
  have e3 : (wh == 3) = false := beq_eq_false_iff_ne.2 k3
  have e4 : (wh == 4) = false := beq_eq_false_iff_ne.2 k4
  have hbd : Below W3.heap.size W3 W3.drew := (Below.refl _ _).drew
  have HN := Lib.hid (((h.below hb3).below hbd).copyN)
  have CB := Lib.hid (fun (W : World) (hb : Below W3.heap.size W3 W) => (M3.more hF hb).c.t0)
  have CZ := Lib.hid (fun (W : World) (hb : Below W3.heap.size W3 W) => (show W.cell? ⟨w.heap.size + 1 + 1, 0, none⟩ = some (.slice none 0 0) ∧ W.frozen? ⟨w.heap.size + 1 + 1, 0, none⟩ = false from ⟨(M3.more hF hb).c.r0, (M3.more hF hb).c.z0⟩))
  have HFIN := Lib.hid (fun (V : World) (hb : Below W3.heap.size W3 V) (g : Nat) (G : Nat → Prop) (hG : Has V g l G) (hGs : ∀ k, G k → W3.heap.size ≤ k) => (M3.more hF hb).done2 hG (fun k hk => Nat.le_trans M3.s (hGs k hk)) hcap hA (below0 hb3 hb))
  clear k0 k1 k2 k3 k4
  go_enter Try.func10, Try.ntmps10
  go_wp2_with fail
  rw [← hW3]
  clear hW3
  have HBD := Lib.hid hbd
  clear M3 h hA hbd t0 a0 a1 a2 a3 a4 a5 r0 z0
  refine wp_region_held_drew (S := fun W => W.cell? ⟨w.heap.size, 0, none⟩ = some (.slice A l.length c)) (by kernel_rfl) ?_ (fun hHeld => ?_)
  · exact CB.out _ HBD.out
  refine wpAnyH_take (i := 0) (v := ?_) rfl (by kernel_rfl) (by kernel_rfl) (by kernel_rfl) (fun _ _ _ h => h) (Or.inl ⟨by kernel_rfl, ?_⟩) (by assumption) ?_
  rotate_left
  focus (intro w hSw; (try dsimp only at hSw); go_simp; try with_reducible rfl)
  simp only [Act.put]
  refine wpAnyH_take (i := 2) (v := ?_) rfl (by kernel_rfl) (by kernel_rfl) (by kernel_rfl) (fun _ _ _ h => h) (Or.inl ⟨by kernel_rfl, ?_⟩) (by assumption) ?_
  rotate_left
  focus (intro w hSw; (try dsimp only at hSw); go_simp; try with_reducible rfl)
  simp only [Act.put]
  refine wpAnyH_ready (rs := [1]) (by kernel_rfl) (by simp) ?_
  refine AllReadyH.cons rfl (fun K hK => ?_) AllReadyH.nil
  go_simp
  refine (HN.out).mono ?_
  rintro e V ⟨g, G, rfl, hG, hGs, hbV⟩
  have hb37 := below0 HBD.out hbV
  obtain ⟨f1, f2⟩ := HFIN.out V hb37 g G hG hGs
  have F1 := Lib.hid f1
  have F2 := Lib.hid f2
  obtain ⟨r0, z0⟩ := CZ.out V hb37
  have cb := Lib.hid (CB.out V hb37)
  clear f1 f2 hG hGs hbV hb37
  refine hK.out _ _ ?_ (fun hHeld => ?_)
  · exact cb.out
  clear hK K
  try simp only [Act.put]
  refine wpAnyH_ready (rs := [3]) (by kernel_rfl) (by simp) ?_
  refine AllReadyH.cons rfl (fun K hK => ?_) AllReadyH.nil
  go_simp
  refine hK.out _ _ ?_ (fun hHeld => ?_)
  · exact cb.out
  clear hK K
  try simp only [Act.put]
  refine wpAnyH_ready (rs := [4]) (by kernel_rfl) (by simp) ?_
  refine AllReadyH.cons rfl (fun K hK => ?_) AllReadyH.nil
  go_simp
  refine hK.out _ _ ?_ (fun hHeld => ?_)
  · exact (cell_same (heap_set (show w.heap.size ≠ w.heap.size + 1 + 1 by omega))).trans cb.out
  clear hK K
  try simp only [Act.put]
  refine wpAnyH_ready (rs := [5]) (by kernel_rfl) (by simp) ?_
  refine AllReadyH.cons rfl (fun K hK => ?_) AllReadyH.nil
  go_simp
  refine hK.out _ _ ?_ (fun hHeld => ?_)
  · exact (cell_same (heap_set (show w.heap.size ≠ w.heap.size + 1 + 1 by omega))).trans cb.out
  clear hK K
  try simp only [Act.put]
  refine wpAnyH_done (by kernel_rfl) ?_ _
  go_wp2_with fail
  exact bodyPost_ret (res_mid Try.results10 rfl F1.out) rfl F2.out
end Go.Proofs.Ytmocdokikcbjeaa

namespace Go.Proofs.Ytmocdokikcbjeaa
open Go.RowKit Go.Shelf Go.Maps Go.Sort
attribute [local go_sem] Oper.semAt_some

/- A CALL BY BOTH: FREE. -/
set_option maxRecDepth 100000 in
set_option maxHeartbeats 4000000 in
theorem act_free {w : World} {b c : Nat} {l : Tb} {F : Nat → Prop} {A : Option Addr} (h : Has w b l F) (hcap : l.length ≤ c) (hA : Lies w A l) (p m o1 o2 o3 : Int) (hx : (⟨3, p, m, (o1, o2, o3)⟩ : Ac).fits) :
    Calls Try.prog 10 #[bx b, .agg #[.slice A l.length c], .agg #[.int .i64 3, .int .i64 p, .int .i64 m, .int .i64 o1, .int .i64 o2, .int .i64 o3]] w (ActP w F (stepT l ⟨3, p, m, (o1, o2, o3)⟩)) := by
  have hF := h.lt
  have hok := h.ok
  have hlen := hok.len
  have hnum := Lib.hid (fun n w => num_any n w)
  obtain ⟨W3, hW3⟩ : ∃ W3, W3 = ((w.alloc (.cells #[.slice A l.length c] 29)).alloc (.cells #[.int .i64 3, .int .i64 p, .int .i64 m, .int .i64 o1, .int .i64 o2, .int .i64 o3] 36)).alloc (.cells #[.slice none 0 0] 29) := ⟨_, rfl⟩
  have hb3 : Below w.heap.size w W3 := hW3 ▸ below3 _ _ _ _
  have M3 : AtW w F A l.length c ⟨3, p, m, (o1, o2, o3)⟩ W3 := hW3 ▸ AtW.new w F A l.length c ⟨3, p, m, (o1, o2, o3)⟩
  obtain ⟨t0, a0, a1, a2, a3, a4, a5, r0, z0⟩ := M3.c
  simp only at a0 a1 a2 a3 a4 a5
  rw [hW3] at t0 a0 a1 a2 a3 a4 a5 r0 z0
  have hen := hx.en
  have hpg := hx.page
  simp only at hen hpg
  have HN := Lib.hid ((h.below hb3).freeN p m)
  have HS : Hid (stepT l ⟨3, p, m, (o1, o2, o3)⟩ = l) := Lib.hid rfl
  rw [HS.out]
  obtain ⟨E, hE⟩ : ∃ E, E = freeE p m := ⟨_, rfl⟩
  obtain ⟨q, hq⟩ : ∃ q, q = freeQ l p m := ⟨_, rfl⟩
  rw [← hE, ← hq] at HN
  have HE := Lib.hid hE
  have HQ := Lib.hid hq
  clear hE hq
  go_enter Try.func10, Try.ntmps10
  go_wp2_with fail
  rw [← hW3]
  refine (HN.out).mono ?_
  rintro e V6 ⟨rfl, hb1⟩
  have M6 := M3.more hF hb1
  have H6 := (h.below hb3).below hb1
  have L6 := ((hA.below hb3).below hb1)
  clear t0 a0 a1 a2 a3 a4 a5 r0 z0 HN
  obtain ⟨t0, a0, a1, a2, a3, a4, a5, r0, z0⟩ := M6.c
  simp only at a0 a1 a2 a3 a4 a5
  have KS := Lib.hid (fun (W : World) (hW : ∀ q, q ≠ w.heap.size + 2 → W.heap[q]? = V6.heap[q]?) => (show W.cell? ⟨w.heap.size, 0, none⟩ = some (.slice A l.length c) ∧ W.cell? ⟨w.heap.size + 1, 1, none⟩ = some (.int .i64 p) ∧ W.cell? ⟨w.heap.size + 1, 2, none⟩ = some (.int .i64 m) from ⟨(cell_same (hW _ (show w.heap.size ≠ w.heap.size + 2 by omega))).trans M6.c.t0, (cell_same (hW _ (show w.heap.size + 1 ≠ w.heap.size + 2 by omega))).trans M6.c.a1, (cell_same (hW _ (show w.heap.size + 1 ≠ w.heap.size + 2 by omega))).trans M6.c.a2⟩))
  have hbd : Below V6.heap.size V6 V6.drew := (Below.refl _ _).drew
  have HF := Lib.hid (fun V (hb : Below V6.heap.size V6 V) => (show ∃ V', V' = V ∧ (loadVar 29 ⟨w.heap.size + 1 + 1, 0, none⟩).run Try.prog (V'.setCell ⟨w.heap.size + 1 + 1, 0, none⟩ (.slice A l.length c)) = .ok (.agg #[.slice A l.length c]) (V'.setCell ⟨w.heap.size + 1 + 1, 0, none⟩ (.slice A l.length c)) ∧
      ActP w F l (.returned (.tuple #[bx b, .agg #[.slice A l.length c], .bool true])) (V'.setCell ⟨w.heap.size + 1 + 1, 0, none⟩ (.slice A l.length c)) from
    ⟨V, rfl, (M6.more hF hb).done hF (H6.below hb) hcap (L6.below hb)⟩))
  have HFR := Lib.hid (fun (V : World) (hb : Below V6.heap.size V6 V) (hp0 : 0 ≤ p) => rfree_any l A l.length c p m V hok rfl hlen hp0 (L6.below hb))
  have CZ := Lib.hid (fun (W : World) (hb : Below V6.heap.size V6 W) => (show W.cell? ⟨w.heap.size + 1 + 1, 0, none⟩ = some (.slice none 0 0) ∧ W.frozen? ⟨w.heap.size + 1 + 1, 0, none⟩ = false from ⟨(M6.more hF hb).c.r0, (M6.more hF hb).c.z0⟩))
  have CB := Lib.hid (fun (W : World) (hb : Below V6.heap.size V6 W) => (show W.cell? ⟨w.heap.size, 0, none⟩ = some (.slice A l.length c) ∧ W.cell? ⟨w.heap.size + 1, 1, none⟩ = some (.int .i64 p) ∧ W.cell? ⟨w.heap.size + 1, 2, none⟩ = some (.int .i64 m) from
    ⟨(M6.more hF hb).c.t0, (M6.more hF hb).c.a1, (M6.more hF hb).c.a2⟩))
  clear M3 M6 H6 L6 hb1 h hA
  by_cases hm : m < 1
  · have d1 : decide (m < 1) = true := decide_eq_true hm
    obtain rfl : E = 2 := by rw [HE.out]; unfold freeE; rw [if_pos (by omega)]
    obtain rfl : q = false := by rw [HQ.out]; unfold freeQ; rw [show freeE p m = 2 by unfold freeE; rw [if_pos (by omega)]]; rfl
    clear hm
    obtain ⟨_, rfl, f1, f2⟩ := HF.out V6.drew hbd
    have F1 := Lib.hid f1
    have F2 := Lib.hid f2
    clear f1 f2 hbd
    go_wp2_with fail
    refine wp_region_held_drew (S := fun W => W.cell? ⟨w.heap.size, 0, none⟩ = some (.slice A l.length c) ∧ W.cell? ⟨w.heap.size + 1, 1, none⟩ = some (.int .i64 p) ∧ W.cell? ⟨w.heap.size + 1, 2, none⟩ = some (.int .i64 m)) (by kernel_rfl) ?_ (fun hHeld => ?_)
    · exact KS.out _ (fun _ _ => rfl)
    refine wpAnyH_take (i := 0) (v := ?_) rfl (by kernel_rfl) (by kernel_rfl) (by kernel_rfl) (fun _ _ _ h => h) (Or.inl ⟨by kernel_rfl, ?_⟩) (by assumption) ?_
    rotate_left
    focus (intro w hSw; (try dsimp only at hSw); go_simp; try with_reducible rfl)
    simp only [Act.put]
    refine wpAnyH_take (i := 1) (v := ?_) rfl (by kernel_rfl) (by kernel_rfl) (by kernel_rfl) (fun _ _ _ h => h) (Or.inl ⟨by kernel_rfl, ?_⟩) (by assumption) ?_
    rotate_left
    focus (intro w hSw; (try dsimp only at hSw); go_simp; try with_reducible rfl)
    simp only [Act.put]
    refine wpAnyH_take (i := 2) (v := ?_) rfl (by kernel_rfl) (by kernel_rfl) (by kernel_rfl) (fun _ _ _ h => h) (Or.inl ⟨by kernel_rfl, ?_⟩) (by assumption) ?_
    rotate_left
    focus (intro w hSw; (try dsimp only at hSw); go_simp; try with_reducible rfl)
    simp only [Act.put]
    refine wpAnyH_take (i := 4) (v := ?_) rfl (by kernel_rfl) (by kernel_rfl) (by kernel_rfl) (fun _ _ _ h => h) (Or.inl ⟨by kernel_rfl, ?_⟩) (by assumption) ?_
    rotate_left
    focus (intro w hSw; (try dsimp only at hSw); go_simp; try with_reducible rfl)
    simp only [Act.put]
    refine wpAnyH_ready (rs := [3]) (by kernel_rfl) (by simp) ?_
    refine AllReadyH.cons rfl (fun K hK => ?_) AllReadyH.nil
    go_simp
    refine (hnum.out _ _).mono ?_
    rintro e wn ⟨rfl, rfl⟩
    refine hK.out _ _ ?_ (fun hHeld => ?_)
    · exact KS.out _ (fun _ _ => rfl)
    clear hK K
    try simp only [Act.put]
    refine wpAnyH_take (i := 5) (v := ?_) rfl (by kernel_rfl) (by kernel_rfl) (by kernel_rfl) (fun _ _ _ h => h) (Or.inl ⟨by kernel_rfl, ?_⟩) (by assumption) ?_
    rotate_left
    focus (intro w hSw; (try dsimp only at hSw); go_simp; try with_reducible rfl)
    simp only [Act.put]
    refine wpAnyH_take (i := 6) (v := ?_) rfl (by kernel_rfl) (by kernel_rfl) (by kernel_rfl) (fun _ _ _ h => h) (Or.inl ⟨by kernel_rfl, ?_⟩) (by assumption) ?_
    rotate_left
    focus (intro w hSw; (try dsimp only at hSw); go_simp; try with_reducible rfl)
    simp only [Act.put]
    refine wpAnyH_take (i := 7) (v := ?_) rfl (by kernel_rfl) (by kernel_rfl) (by kernel_rfl) (fun _ _ _ h => h) (Or.inl ⟨by kernel_rfl, ?_⟩) (by assumption) ?_
    rotate_left
    focus (intro w hSw; (try dsimp only at hSw); go_simp; try with_reducible rfl)
    simp only [Act.put]
    refine wpAnyH_take (i := 8) (v := ?_) rfl (by kernel_rfl) (by kernel_rfl) (by kernel_rfl) (fun _ _ _ h => h) (Or.inl ⟨by kernel_rfl, ?_⟩) (by assumption) ?_
    rotate_left
    focus (intro w hSw; (try dsimp only at hSw); go_simp; try with_reducible rfl)
    simp only [Act.put]
    refine wpAnyH_take (i := 9) (v := ?_) rfl (by kernel_rfl) (by kernel_rfl) (by kernel_rfl) (fun _ _ _ h => h) (Or.inl ⟨by kernel_rfl, ?_⟩) (by assumption) ?_
    rotate_left
    focus (intro w hSw; (try dsimp only at hSw); go_simp; try with_reducible rfl)
    simp only [Act.put]
    refine wpAnyH_take (i := 10) (v := ?_) rfl (by kernel_rfl) (by kernel_rfl) (by kernel_rfl) (fun _ _ _ h => h) (Or.inl ⟨by kernel_rfl, ?_⟩) (by assumption) ?_
    rotate_left
    focus (intro w hSw; (try dsimp only at hSw); go_simp; try with_reducible rfl)
    simp only [Act.put]
    refine wpAnyH_take (i := 11) (v := undef) rfl (by kernel_rfl) (by kernel_rfl) (by kernel_rfl) (fun _ _ _ h => h) (Or.inr ⟨by kernel_rfl, rfl⟩) (by assumption) ?_
    simp only [Act.put]
    refine wpAnyH_take (i := 12) (v := undef) rfl (by kernel_rfl) (by kernel_rfl) (by kernel_rfl) (fun _ _ _ h => h) (Or.inr ⟨by kernel_rfl, rfl⟩) (by assumption) ?_
    simp only [Act.put]
    refine wpAnyH_take (i := 13) (v := undef) rfl (by kernel_rfl) (by kernel_rfl) (by kernel_rfl) (fun _ _ _ h => h) (Or.inr ⟨by kernel_rfl, rfl⟩) (by assumption) ?_
    simp only [Act.put]
    refine wpAnyH_take (i := 14) (v := undef) rfl (by kernel_rfl) (by kernel_rfl) (by kernel_rfl) (fun _ _ _ h => h) (Or.inr ⟨by kernel_rfl, rfl⟩) (by assumption) ?_
    simp only [Act.put]
    refine wpAnyH_take (i := 15) (v := undef) rfl (by kernel_rfl) (by kernel_rfl) (by kernel_rfl) (fun _ _ _ h => h) (Or.inr ⟨by kernel_rfl, rfl⟩) (by assumption) ?_
    simp only [Act.put]
    refine wpAnyH_take (i := 16) (v := undef) rfl (by kernel_rfl) (by kernel_rfl) (by kernel_rfl) (fun _ _ _ h => h) (Or.inr ⟨by kernel_rfl, rfl⟩) (by assumption) ?_
    simp only [Act.put]
    refine wpAnyH_take (i := 17) (v := ?_) rfl (by kernel_rfl) (by kernel_rfl) (by kernel_rfl) (fun _ _ _ h => h) (Or.inl ⟨by kernel_rfl, ?_⟩) (by assumption) ?_
    rotate_left
    focus (intro w hSw; (try dsimp only at hSw); go_simp; try with_reducible rfl)
    simp only [Act.put]
    refine wpAnyH_take (i := 18) (v := ?_) rfl (by kernel_rfl) (by kernel_rfl) (by kernel_rfl) (fun _ _ _ h => h) (Or.inl ⟨by kernel_rfl, ?_⟩) (by assumption) ?_
    rotate_left
    focus (intro w hSw; (try dsimp only at hSw); go_simp; try with_reducible rfl)
    simp only [Act.put]
    refine wpAnyH_take (i := 19) (v := ?_) rfl (by kernel_rfl) (by kernel_rfl) (by kernel_rfl) (fun _ _ _ h => h) (Or.inl ⟨by kernel_rfl, ?_⟩) (by assumption) ?_
    rotate_left
    focus (intro w hSw; (try dsimp only at hSw); go_simp; try with_reducible rfl)
    simp only [Act.put]
    refine wpAnyH_ready (rs := [20]) (by kernel_rfl) (by simp) ?_
    refine AllReadyH.cons rfl (fun K hK => ?_) AllReadyH.nil
    go_simp
    refine hK.out _ _ ?_ (fun hHeld => ?_)
    · exact KS.out _ (fun _ _ => rfl)
    clear hK K
    try simp only [Act.put]
    refine wpAnyH_ready (rs := [21]) (by kernel_rfl) (by simp) ?_
    refine AllReadyH.cons rfl (fun K hK => ?_) AllReadyH.nil
    go_simp
    refine hK.out _ _ ?_ (fun hHeld => ?_)
    · exact KS.out _ (fun q hq => heap_set hq)
    clear hK K
    try simp only [Act.put]
    refine wpAnyH_ready (rs := [22]) (by kernel_rfl) (by simp) ?_
    refine AllReadyH.cons rfl (fun K hK => ?_) AllReadyH.nil
    go_simp
    refine hK.out _ _ ?_ (fun hHeld => ?_)
    · exact KS.out _ (fun q hq => heap_set hq)
    clear hK K
    try simp only [Act.put]
    refine wpAnyH_done (by kernel_rfl) ?_ _
    go_wp2_with fail
    exact bodyPost_ret (res_mid Try.results10 rfl F1.out) rfl F2.out
  have d1 : decide (m < 1) = false := decide_eq_false hm
  by_cases hp : p < 0
  · have d2 : decide (p < 0) = true := decide_eq_true hp
    obtain rfl : E = 4 := by rw [HE.out]; unfold freeE wholeB; rw [if_neg (by omega), if_pos (by unfold pageB; rw [decide_eq_false (by omega)]; rfl)]
    obtain rfl : q = false := by rw [HQ.out]; unfold freeQ; rw [show freeE p m = 4 by unfold freeE wholeB; rw [if_neg (by omega), if_pos (by unfold pageB; rw [decide_eq_false (by omega)]; rfl)]]; rfl
    clear hm hp
    obtain ⟨_, rfl, f1, f2⟩ := HF.out V6.drew hbd
    have F1 := Lib.hid f1
    have F2 := Lib.hid f2
    clear f1 f2 hbd
    go_wp2_with fail
    refine wp_region_held_drew (S := fun W => W.cell? ⟨w.heap.size, 0, none⟩ = some (.slice A l.length c) ∧ W.cell? ⟨w.heap.size + 1, 1, none⟩ = some (.int .i64 p) ∧ W.cell? ⟨w.heap.size + 1, 2, none⟩ = some (.int .i64 m)) (by kernel_rfl) ?_ (fun hHeld => ?_)
    · exact KS.out _ (fun _ _ => rfl)
    refine wpAnyH_take (i := 0) (v := ?_) rfl (by kernel_rfl) (by kernel_rfl) (by kernel_rfl) (fun _ _ _ h => h) (Or.inl ⟨by kernel_rfl, ?_⟩) (by assumption) ?_
    rotate_left
    focus (intro w hSw; (try dsimp only at hSw); go_simp; try with_reducible rfl)
    simp only [Act.put]
    refine wpAnyH_take (i := 1) (v := ?_) rfl (by kernel_rfl) (by kernel_rfl) (by kernel_rfl) (fun _ _ _ h => h) (Or.inl ⟨by kernel_rfl, ?_⟩) (by assumption) ?_
    rotate_left
    focus (intro w hSw; (try dsimp only at hSw); go_simp; try with_reducible rfl)
    simp only [Act.put]
    refine wpAnyH_take (i := 2) (v := ?_) rfl (by kernel_rfl) (by kernel_rfl) (by kernel_rfl) (fun _ _ _ h => h) (Or.inl ⟨by kernel_rfl, ?_⟩) (by assumption) ?_
    rotate_left
    focus (intro w hSw; (try dsimp only at hSw); go_simp; try with_reducible rfl)
    simp only [Act.put]
    refine wpAnyH_take (i := 4) (v := ?_) rfl (by kernel_rfl) (by kernel_rfl) (by kernel_rfl) (fun _ _ _ h => h) (Or.inl ⟨by kernel_rfl, ?_⟩) (by assumption) ?_
    rotate_left
    focus (intro w hSw; (try dsimp only at hSw); go_simp; try with_reducible rfl)
    simp only [Act.put]
    refine wpAnyH_ready (rs := [3]) (by kernel_rfl) (by simp) ?_
    refine AllReadyH.cons rfl (fun K hK => ?_) AllReadyH.nil
    go_simp
    refine (hnum.out _ _).mono ?_
    rintro e wn ⟨rfl, rfl⟩
    refine hK.out _ _ ?_ (fun hHeld => ?_)
    · exact KS.out _ (fun _ _ => rfl)
    clear hK K
    try simp only [Act.put]
    refine wpAnyH_take (i := 5) (v := ?_) rfl (by kernel_rfl) (by kernel_rfl) (by kernel_rfl) (fun _ _ _ h => h) (Or.inl ⟨by kernel_rfl, ?_⟩) (by assumption) ?_
    rotate_left
    focus (intro w hSw; (try dsimp only at hSw); go_simp; try with_reducible rfl)
    simp only [Act.put]
    refine wpAnyH_take (i := 6) (v := ?_) rfl (by kernel_rfl) (by kernel_rfl) (by kernel_rfl) (fun _ _ _ h => h) (Or.inl ⟨by kernel_rfl, ?_⟩) (by assumption) ?_
    rotate_left
    focus (intro w hSw; (try dsimp only at hSw); go_simp; try with_reducible rfl)
    simp only [Act.put]
    refine wpAnyH_take (i := 7) (v := ?_) rfl (by kernel_rfl) (by kernel_rfl) (by kernel_rfl) (fun _ _ _ h => h) (Or.inl ⟨by kernel_rfl, ?_⟩) (by assumption) ?_
    rotate_left
    focus (intro w hSw; (try dsimp only at hSw); go_simp; try with_reducible rfl)
    simp only [Act.put]
    refine wpAnyH_take (i := 8) (v := ?_) rfl (by kernel_rfl) (by kernel_rfl) (by kernel_rfl) (fun _ _ _ h => h) (Or.inl ⟨by kernel_rfl, ?_⟩) (by assumption) ?_
    rotate_left
    focus (intro w hSw; (try dsimp only at hSw); go_simp; try with_reducible rfl)
    simp only [Act.put]
    refine wpAnyH_take (i := 9) (v := ?_) rfl (by kernel_rfl) (by kernel_rfl) (by kernel_rfl) (fun _ _ _ h => h) (Or.inl ⟨by kernel_rfl, ?_⟩) (by assumption) ?_
    rotate_left
    focus (intro w hSw; (try dsimp only at hSw); go_simp; try with_reducible rfl)
    simp only [Act.put]
    refine wpAnyH_take (i := 10) (v := ?_) rfl (by kernel_rfl) (by kernel_rfl) (by kernel_rfl) (fun _ _ _ h => h) (Or.inl ⟨by kernel_rfl, ?_⟩) (by assumption) ?_
    rotate_left
    focus (intro w hSw; (try dsimp only at hSw); go_simp; try with_reducible rfl)
    simp only [Act.put]
    refine wpAnyH_take (i := 11) (v := undef) rfl (by kernel_rfl) (by kernel_rfl) (by kernel_rfl) (fun _ _ _ h => h) (Or.inr ⟨by kernel_rfl, rfl⟩) (by assumption) ?_
    simp only [Act.put]
    refine wpAnyH_take (i := 12) (v := undef) rfl (by kernel_rfl) (by kernel_rfl) (by kernel_rfl) (fun _ _ _ h => h) (Or.inr ⟨by kernel_rfl, rfl⟩) (by assumption) ?_
    simp only [Act.put]
    refine wpAnyH_take (i := 13) (v := undef) rfl (by kernel_rfl) (by kernel_rfl) (by kernel_rfl) (fun _ _ _ h => h) (Or.inr ⟨by kernel_rfl, rfl⟩) (by assumption) ?_
    simp only [Act.put]
    refine wpAnyH_take (i := 14) (v := undef) rfl (by kernel_rfl) (by kernel_rfl) (by kernel_rfl) (fun _ _ _ h => h) (Or.inr ⟨by kernel_rfl, rfl⟩) (by assumption) ?_
    simp only [Act.put]
    refine wpAnyH_take (i := 15) (v := undef) rfl (by kernel_rfl) (by kernel_rfl) (by kernel_rfl) (fun _ _ _ h => h) (Or.inr ⟨by kernel_rfl, rfl⟩) (by assumption) ?_
    simp only [Act.put]
    refine wpAnyH_take (i := 16) (v := undef) rfl (by kernel_rfl) (by kernel_rfl) (by kernel_rfl) (fun _ _ _ h => h) (Or.inr ⟨by kernel_rfl, rfl⟩) (by assumption) ?_
    simp only [Act.put]
    refine wpAnyH_take (i := 17) (v := ?_) rfl (by kernel_rfl) (by kernel_rfl) (by kernel_rfl) (fun _ _ _ h => h) (Or.inl ⟨by kernel_rfl, ?_⟩) (by assumption) ?_
    rotate_left
    focus (intro w hSw; (try dsimp only at hSw); go_simp; try with_reducible rfl)
    simp only [Act.put]
    refine wpAnyH_take (i := 18) (v := ?_) rfl (by kernel_rfl) (by kernel_rfl) (by kernel_rfl) (fun _ _ _ h => h) (Or.inl ⟨by kernel_rfl, ?_⟩) (by assumption) ?_
    rotate_left
    focus (intro w hSw; (try dsimp only at hSw); go_simp; try with_reducible rfl)
    simp only [Act.put]
    refine wpAnyH_take (i := 19) (v := ?_) rfl (by kernel_rfl) (by kernel_rfl) (by kernel_rfl) (fun _ _ _ h => h) (Or.inl ⟨by kernel_rfl, ?_⟩) (by assumption) ?_
    rotate_left
    focus (intro w hSw; (try dsimp only at hSw); go_simp; try with_reducible rfl)
    simp only [Act.put]
    refine wpAnyH_ready (rs := [20]) (by kernel_rfl) (by simp) ?_
    refine AllReadyH.cons rfl (fun K hK => ?_) AllReadyH.nil
    go_simp
    refine hK.out _ _ ?_ (fun hHeld => ?_)
    · exact KS.out _ (fun _ _ => rfl)
    clear hK K
    try simp only [Act.put]
    refine wpAnyH_ready (rs := [21]) (by kernel_rfl) (by simp) ?_
    refine AllReadyH.cons rfl (fun K hK => ?_) AllReadyH.nil
    go_simp
    refine hK.out _ _ ?_ (fun hHeld => ?_)
    · exact KS.out _ (fun q hq => heap_set hq)
    clear hK K
    try simp only [Act.put]
    refine wpAnyH_ready (rs := [22]) (by kernel_rfl) (by simp) ?_
    refine AllReadyH.cons rfl (fun K hK => ?_) AllReadyH.nil
    go_simp
    refine hK.out _ _ ?_ (fun hHeld => ?_)
    · exact KS.out _ (fun q hq => heap_set hq)
    clear hK K
    try simp only [Act.put]
    refine wpAnyH_done (by kernel_rfl) ?_ _
    go_wp2_with fail
    exact bodyPost_ret (res_mid Try.results10 rfl F1.out) rfl F2.out
  have d2 : decide (p < 0) = false := decide_eq_false hp
  by_cases hq2 : 65536 ≤ p
  · have d3 : decide (65536 ≤ p) = true := decide_eq_true hq2
    obtain rfl : E = 4 := by rw [HE.out]; unfold freeE wholeB; rw [if_neg (by omega), if_pos (by unfold pageB; rw [decide_eq_false (p := p < 65536) (by omega), Bool.and_false]; rfl)]
    obtain rfl : q = false := by rw [HQ.out]; unfold freeQ; rw [show freeE p m = 4 by unfold freeE wholeB; rw [if_neg (by omega), if_pos (by unfold pageB; rw [decide_eq_false (p := p < 65536) (by omega), Bool.and_false]; rfl)]]; rfl
    clear hm hp hq2
    obtain ⟨_, rfl, f1, f2⟩ := HF.out V6.drew hbd
    have F1 := Lib.hid f1
    have F2 := Lib.hid f2
    clear f1 f2 hbd
    go_wp2_with fail
    refine wp_region_held_drew (S := fun W => W.cell? ⟨w.heap.size, 0, none⟩ = some (.slice A l.length c) ∧ W.cell? ⟨w.heap.size + 1, 1, none⟩ = some (.int .i64 p) ∧ W.cell? ⟨w.heap.size + 1, 2, none⟩ = some (.int .i64 m)) (by kernel_rfl) ?_ (fun hHeld => ?_)
    · exact KS.out _ (fun _ _ => rfl)
    refine wpAnyH_take (i := 0) (v := ?_) rfl (by kernel_rfl) (by kernel_rfl) (by kernel_rfl) (fun _ _ _ h => h) (Or.inl ⟨by kernel_rfl, ?_⟩) (by assumption) ?_
    rotate_left
    focus (intro w hSw; (try dsimp only at hSw); go_simp; try with_reducible rfl)
    simp only [Act.put]
    refine wpAnyH_take (i := 1) (v := ?_) rfl (by kernel_rfl) (by kernel_rfl) (by kernel_rfl) (fun _ _ _ h => h) (Or.inl ⟨by kernel_rfl, ?_⟩) (by assumption) ?_
    rotate_left
    focus (intro w hSw; (try dsimp only at hSw); go_simp; try with_reducible rfl)
    simp only [Act.put]
    refine wpAnyH_take (i := 2) (v := ?_) rfl (by kernel_rfl) (by kernel_rfl) (by kernel_rfl) (fun _ _ _ h => h) (Or.inl ⟨by kernel_rfl, ?_⟩) (by assumption) ?_
    rotate_left
    focus (intro w hSw; (try dsimp only at hSw); go_simp; try with_reducible rfl)
    simp only [Act.put]
    refine wpAnyH_take (i := 4) (v := ?_) rfl (by kernel_rfl) (by kernel_rfl) (by kernel_rfl) (fun _ _ _ h => h) (Or.inl ⟨by kernel_rfl, ?_⟩) (by assumption) ?_
    rotate_left
    focus (intro w hSw; (try dsimp only at hSw); go_simp; try with_reducible rfl)
    simp only [Act.put]
    refine wpAnyH_ready (rs := [3]) (by kernel_rfl) (by simp) ?_
    refine AllReadyH.cons rfl (fun K hK => ?_) AllReadyH.nil
    go_simp
    refine (hnum.out _ _).mono ?_
    rintro e wn ⟨rfl, rfl⟩
    refine hK.out _ _ ?_ (fun hHeld => ?_)
    · exact KS.out _ (fun _ _ => rfl)
    clear hK K
    try simp only [Act.put]
    refine wpAnyH_take (i := 5) (v := ?_) rfl (by kernel_rfl) (by kernel_rfl) (by kernel_rfl) (fun _ _ _ h => h) (Or.inl ⟨by kernel_rfl, ?_⟩) (by assumption) ?_
    rotate_left
    focus (intro w hSw; (try dsimp only at hSw); go_simp; try with_reducible rfl)
    simp only [Act.put]
    refine wpAnyH_take (i := 6) (v := ?_) rfl (by kernel_rfl) (by kernel_rfl) (by kernel_rfl) (fun _ _ _ h => h) (Or.inl ⟨by kernel_rfl, ?_⟩) (by assumption) ?_
    rotate_left
    focus (intro w hSw; (try dsimp only at hSw); go_simp; try with_reducible rfl)
    simp only [Act.put]
    refine wpAnyH_take (i := 7) (v := ?_) rfl (by kernel_rfl) (by kernel_rfl) (by kernel_rfl) (fun _ _ _ h => h) (Or.inl ⟨by kernel_rfl, ?_⟩) (by assumption) ?_
    rotate_left
    focus (intro w hSw; (try dsimp only at hSw); go_simp; try with_reducible rfl)
    simp only [Act.put]
    refine wpAnyH_take (i := 8) (v := ?_) rfl (by kernel_rfl) (by kernel_rfl) (by kernel_rfl) (fun _ _ _ h => h) (Or.inl ⟨by kernel_rfl, ?_⟩) (by assumption) ?_
    rotate_left
    focus (intro w hSw; (try dsimp only at hSw); go_simp; try with_reducible rfl)
    simp only [Act.put]
    refine wpAnyH_take (i := 9) (v := ?_) rfl (by kernel_rfl) (by kernel_rfl) (by kernel_rfl) (fun _ _ _ h => h) (Or.inl ⟨by kernel_rfl, ?_⟩) (by assumption) ?_
    rotate_left
    focus (intro w hSw; (try dsimp only at hSw); go_simp; try with_reducible rfl)
    simp only [Act.put]
    refine wpAnyH_take (i := 10) (v := ?_) rfl (by kernel_rfl) (by kernel_rfl) (by kernel_rfl) (fun _ _ _ h => h) (Or.inl ⟨by kernel_rfl, ?_⟩) (by assumption) ?_
    rotate_left
    focus (intro w hSw; (try dsimp only at hSw); go_simp; try with_reducible rfl)
    simp only [Act.put]
    refine wpAnyH_take (i := 11) (v := undef) rfl (by kernel_rfl) (by kernel_rfl) (by kernel_rfl) (fun _ _ _ h => h) (Or.inr ⟨by kernel_rfl, rfl⟩) (by assumption) ?_
    simp only [Act.put]
    refine wpAnyH_take (i := 12) (v := undef) rfl (by kernel_rfl) (by kernel_rfl) (by kernel_rfl) (fun _ _ _ h => h) (Or.inr ⟨by kernel_rfl, rfl⟩) (by assumption) ?_
    simp only [Act.put]
    refine wpAnyH_take (i := 13) (v := undef) rfl (by kernel_rfl) (by kernel_rfl) (by kernel_rfl) (fun _ _ _ h => h) (Or.inr ⟨by kernel_rfl, rfl⟩) (by assumption) ?_
    simp only [Act.put]
    refine wpAnyH_take (i := 14) (v := undef) rfl (by kernel_rfl) (by kernel_rfl) (by kernel_rfl) (fun _ _ _ h => h) (Or.inr ⟨by kernel_rfl, rfl⟩) (by assumption) ?_
    simp only [Act.put]
    refine wpAnyH_take (i := 15) (v := undef) rfl (by kernel_rfl) (by kernel_rfl) (by kernel_rfl) (fun _ _ _ h => h) (Or.inr ⟨by kernel_rfl, rfl⟩) (by assumption) ?_
    simp only [Act.put]
    refine wpAnyH_take (i := 16) (v := undef) rfl (by kernel_rfl) (by kernel_rfl) (by kernel_rfl) (fun _ _ _ h => h) (Or.inr ⟨by kernel_rfl, rfl⟩) (by assumption) ?_
    simp only [Act.put]
    refine wpAnyH_take (i := 17) (v := ?_) rfl (by kernel_rfl) (by kernel_rfl) (by kernel_rfl) (fun _ _ _ h => h) (Or.inl ⟨by kernel_rfl, ?_⟩) (by assumption) ?_
    rotate_left
    focus (intro w hSw; (try dsimp only at hSw); go_simp; try with_reducible rfl)
    simp only [Act.put]
    refine wpAnyH_take (i := 18) (v := ?_) rfl (by kernel_rfl) (by kernel_rfl) (by kernel_rfl) (fun _ _ _ h => h) (Or.inl ⟨by kernel_rfl, ?_⟩) (by assumption) ?_
    rotate_left
    focus (intro w hSw; (try dsimp only at hSw); go_simp; try with_reducible rfl)
    simp only [Act.put]
    refine wpAnyH_take (i := 19) (v := ?_) rfl (by kernel_rfl) (by kernel_rfl) (by kernel_rfl) (fun _ _ _ h => h) (Or.inl ⟨by kernel_rfl, ?_⟩) (by assumption) ?_
    rotate_left
    focus (intro w hSw; (try dsimp only at hSw); go_simp; try with_reducible rfl)
    simp only [Act.put]
    refine wpAnyH_ready (rs := [20]) (by kernel_rfl) (by simp) ?_
    refine AllReadyH.cons rfl (fun K hK => ?_) AllReadyH.nil
    go_simp
    refine hK.out _ _ ?_ (fun hHeld => ?_)
    · exact KS.out _ (fun _ _ => rfl)
    clear hK K
    try simp only [Act.put]
    refine wpAnyH_ready (rs := [21]) (by kernel_rfl) (by simp) ?_
    refine AllReadyH.cons rfl (fun K hK => ?_) AllReadyH.nil
    go_simp
    refine hK.out _ _ ?_ (fun hHeld => ?_)
    · exact KS.out _ (fun q hq => heap_set hq)
    clear hK K
    try simp only [Act.put]
    refine wpAnyH_ready (rs := [22]) (by kernel_rfl) (by simp) ?_
    refine AllReadyH.cons rfl (fun K hK => ?_) AllReadyH.nil
    go_simp
    refine hK.out _ _ ?_ (fun hHeld => ?_)
    · exact KS.out _ (fun q hq => heap_set hq)
    clear hK K
    try simp only [Act.put]
    refine wpAnyH_done (by kernel_rfl) ?_ _
    go_wp2_with fail
    exact bodyPost_ret (res_mid Try.results10 rfl F1.out) rfl F2.out
  have d3 : decide (65536 ≤ p) = false := decide_eq_false hq2
  have ew : IntKind.i64.wrap (65536 - p) = 65536 - p := wrapI _ (by omega) (by omega)
  by_cases hr : 65536 - p < m
  · have d4 : decide (65536 - p < m) = true := decide_eq_true hr
    obtain rfl : E = 4 := by rw [HE.out]; unfold freeE wholeB; rw [if_neg (by omega), if_pos (by rw [decide_eq_false (p := m ≤ 65536 - p) (by omega), Bool.and_false])]
    obtain rfl : q = false := by rw [HQ.out]; unfold freeQ; rw [show freeE p m = 4 by unfold freeE wholeB; rw [if_neg (by omega), if_pos (by rw [decide_eq_false (p := m ≤ 65536 - p) (by omega), Bool.and_false])]]; rfl
    clear hm hp hq2 hr
    obtain ⟨_, rfl, f1, f2⟩ := HF.out V6.drew hbd
    have F1 := Lib.hid f1
    have F2 := Lib.hid f2
    clear f1 f2 hbd
    go_wp2_with fail
    refine wp_region_held_drew (S := fun W => W.cell? ⟨w.heap.size, 0, none⟩ = some (.slice A l.length c) ∧ W.cell? ⟨w.heap.size + 1, 1, none⟩ = some (.int .i64 p) ∧ W.cell? ⟨w.heap.size + 1, 2, none⟩ = some (.int .i64 m)) (by kernel_rfl) ?_ (fun hHeld => ?_)
    · exact KS.out _ (fun _ _ => rfl)
    refine wpAnyH_take (i := 0) (v := ?_) rfl (by kernel_rfl) (by kernel_rfl) (by kernel_rfl) (fun _ _ _ h => h) (Or.inl ⟨by kernel_rfl, ?_⟩) (by assumption) ?_
    rotate_left
    focus (intro w hSw; (try dsimp only at hSw); go_simp; try with_reducible rfl)
    simp only [Act.put]
    refine wpAnyH_take (i := 1) (v := ?_) rfl (by kernel_rfl) (by kernel_rfl) (by kernel_rfl) (fun _ _ _ h => h) (Or.inl ⟨by kernel_rfl, ?_⟩) (by assumption) ?_
    rotate_left
    focus (intro w hSw; (try dsimp only at hSw); go_simp; try with_reducible rfl)
    simp only [Act.put]
    refine wpAnyH_take (i := 2) (v := ?_) rfl (by kernel_rfl) (by kernel_rfl) (by kernel_rfl) (fun _ _ _ h => h) (Or.inl ⟨by kernel_rfl, ?_⟩) (by assumption) ?_
    rotate_left
    focus (intro w hSw; (try dsimp only at hSw); go_simp; try with_reducible rfl)
    simp only [Act.put]
    refine wpAnyH_take (i := 4) (v := ?_) rfl (by kernel_rfl) (by kernel_rfl) (by kernel_rfl) (fun _ _ _ h => h) (Or.inl ⟨by kernel_rfl, ?_⟩) (by assumption) ?_
    rotate_left
    focus (intro w hSw; (try dsimp only at hSw); go_simp; try with_reducible rfl)
    simp only [Act.put]
    refine wpAnyH_ready (rs := [3]) (by kernel_rfl) (by simp) ?_
    refine AllReadyH.cons rfl (fun K hK => ?_) AllReadyH.nil
    go_simp
    refine (hnum.out _ _).mono ?_
    rintro e wn ⟨rfl, rfl⟩
    refine hK.out _ _ ?_ (fun hHeld => ?_)
    · exact KS.out _ (fun _ _ => rfl)
    clear hK K
    try simp only [Act.put]
    refine wpAnyH_take (i := 5) (v := ?_) rfl (by kernel_rfl) (by kernel_rfl) (by kernel_rfl) (fun _ _ _ h => h) (Or.inl ⟨by kernel_rfl, ?_⟩) (by assumption) ?_
    rotate_left
    focus (intro w hSw; (try dsimp only at hSw); go_simp; try with_reducible rfl)
    simp only [Act.put]
    refine wpAnyH_take (i := 6) (v := ?_) rfl (by kernel_rfl) (by kernel_rfl) (by kernel_rfl) (fun _ _ _ h => h) (Or.inl ⟨by kernel_rfl, ?_⟩) (by assumption) ?_
    rotate_left
    focus (intro w hSw; (try dsimp only at hSw); go_simp; try with_reducible rfl)
    simp only [Act.put]
    refine wpAnyH_take (i := 7) (v := ?_) rfl (by kernel_rfl) (by kernel_rfl) (by kernel_rfl) (fun _ _ _ h => h) (Or.inl ⟨by kernel_rfl, ?_⟩) (by assumption) ?_
    rotate_left
    focus (intro w hSw; (try dsimp only at hSw); go_simp; try with_reducible rfl)
    simp only [Act.put]
    refine wpAnyH_take (i := 8) (v := ?_) rfl (by kernel_rfl) (by kernel_rfl) (by kernel_rfl) (fun _ _ _ h => h) (Or.inl ⟨by kernel_rfl, ?_⟩) (by assumption) ?_
    rotate_left
    focus (intro w hSw; (try dsimp only at hSw); go_simp; try with_reducible rfl)
    simp only [Act.put]
    refine wpAnyH_take (i := 9) (v := ?_) rfl (by kernel_rfl) (by kernel_rfl) (by kernel_rfl) (fun _ _ _ h => h) (Or.inl ⟨by kernel_rfl, ?_⟩) (by assumption) ?_
    rotate_left
    focus (intro w hSw; (try dsimp only at hSw); go_simp; try with_reducible rfl)
    simp only [Act.put]
    refine wpAnyH_take (i := 10) (v := ?_) rfl (by kernel_rfl) (by kernel_rfl) (by kernel_rfl) (fun _ _ _ h => h) (Or.inl ⟨by kernel_rfl, ?_⟩) (by assumption) ?_
    rotate_left
    focus (intro w hSw; (try dsimp only at hSw); go_simp; try with_reducible rfl)
    simp only [Act.put]
    refine wpAnyH_take (i := 11) (v := undef) rfl (by kernel_rfl) (by kernel_rfl) (by kernel_rfl) (fun _ _ _ h => h) (Or.inr ⟨by kernel_rfl, rfl⟩) (by assumption) ?_
    simp only [Act.put]
    refine wpAnyH_take (i := 12) (v := undef) rfl (by kernel_rfl) (by kernel_rfl) (by kernel_rfl) (fun _ _ _ h => h) (Or.inr ⟨by kernel_rfl, rfl⟩) (by assumption) ?_
    simp only [Act.put]
    refine wpAnyH_take (i := 13) (v := undef) rfl (by kernel_rfl) (by kernel_rfl) (by kernel_rfl) (fun _ _ _ h => h) (Or.inr ⟨by kernel_rfl, rfl⟩) (by assumption) ?_
    simp only [Act.put]
    refine wpAnyH_take (i := 14) (v := undef) rfl (by kernel_rfl) (by kernel_rfl) (by kernel_rfl) (fun _ _ _ h => h) (Or.inr ⟨by kernel_rfl, rfl⟩) (by assumption) ?_
    simp only [Act.put]
    refine wpAnyH_take (i := 15) (v := undef) rfl (by kernel_rfl) (by kernel_rfl) (by kernel_rfl) (fun _ _ _ h => h) (Or.inr ⟨by kernel_rfl, rfl⟩) (by assumption) ?_
    simp only [Act.put]
    refine wpAnyH_take (i := 16) (v := undef) rfl (by kernel_rfl) (by kernel_rfl) (by kernel_rfl) (fun _ _ _ h => h) (Or.inr ⟨by kernel_rfl, rfl⟩) (by assumption) ?_
    simp only [Act.put]
    refine wpAnyH_take (i := 17) (v := ?_) rfl (by kernel_rfl) (by kernel_rfl) (by kernel_rfl) (fun _ _ _ h => h) (Or.inl ⟨by kernel_rfl, ?_⟩) (by assumption) ?_
    rotate_left
    focus (intro w hSw; (try dsimp only at hSw); go_simp; try with_reducible rfl)
    simp only [Act.put]
    refine wpAnyH_take (i := 18) (v := ?_) rfl (by kernel_rfl) (by kernel_rfl) (by kernel_rfl) (fun _ _ _ h => h) (Or.inl ⟨by kernel_rfl, ?_⟩) (by assumption) ?_
    rotate_left
    focus (intro w hSw; (try dsimp only at hSw); go_simp; try with_reducible rfl)
    simp only [Act.put]
    refine wpAnyH_take (i := 19) (v := ?_) rfl (by kernel_rfl) (by kernel_rfl) (by kernel_rfl) (fun _ _ _ h => h) (Or.inl ⟨by kernel_rfl, ?_⟩) (by assumption) ?_
    rotate_left
    focus (intro w hSw; (try dsimp only at hSw); go_simp; try with_reducible rfl)
    simp only [Act.put]
    refine wpAnyH_ready (rs := [20]) (by kernel_rfl) (by simp) ?_
    refine AllReadyH.cons rfl (fun K hK => ?_) AllReadyH.nil
    go_simp
    refine hK.out _ _ ?_ (fun hHeld => ?_)
    · exact KS.out _ (fun _ _ => rfl)
    clear hK K
    try simp only [Act.put]
    refine wpAnyH_ready (rs := [21]) (by kernel_rfl) (by simp) ?_
    refine AllReadyH.cons rfl (fun K hK => ?_) AllReadyH.nil
    go_simp
    refine hK.out _ _ ?_ (fun hHeld => ?_)
    · exact KS.out _ (fun q hq => heap_set hq)
    clear hK K
    try simp only [Act.put]
    refine wpAnyH_ready (rs := [22]) (by kernel_rfl) (by simp) ?_
    refine AllReadyH.cons rfl (fun K hK => ?_) AllReadyH.nil
    go_simp
    refine hK.out _ _ ?_ (fun hHeld => ?_)
    · exact KS.out _ (fun q hq => heap_set hq)
    clear hK K
    try simp only [Act.put]
    refine wpAnyH_done (by kernel_rfl) ?_ _
    go_wp2_with fail
    exact bodyPost_ret (res_mid Try.results10 rfl F1.out) rfl F2.out
  have d4 : decide (65536 - p < m) = false := decide_eq_false hr
  have hfe : freeE p m = 0 := by unfold freeE wholeB; rw [if_neg (by omega), pageB_iff.2 ⟨by omega, by omega⟩, decide_eq_true (p := m ≤ 65536 - p) (by omega)]; rfl
  obtain rfl : E = 0 := by rw [HE.out]; exact hfe
  obtain rfl : q = freeB l p m := by rw [HQ.out]; unfold freeQ; rw [hfe]; rfl
  have hp0 : 0 ≤ p := by omega
  obtain ⟨q, hq⟩ : ∃ q, q = freeB l p m := ⟨_, rfl⟩
  rw [← hq] at HFR ⊢
  have hqq : (q == q) = true := by simp
  clear hq hm hp hq2 hr hfe HE HQ
  go_wp2_with fail
  refine wp_region_held_drew (S := fun W => W.cell? ⟨w.heap.size, 0, none⟩ = some (.slice A l.length c) ∧ W.cell? ⟨w.heap.size + 1, 1, none⟩ = some (.int .i64 p) ∧ W.cell? ⟨w.heap.size + 1, 2, none⟩ = some (.int .i64 m)) (by kernel_rfl) ?_ (fun hHeld => ?_)
  · exact KS.out _ (fun _ _ => rfl)
  refine wpAnyH_take (i := 0) (v := ?_) rfl (by kernel_rfl) (by kernel_rfl) (by kernel_rfl) (fun _ _ _ h => h) (Or.inl ⟨by kernel_rfl, ?_⟩) (by assumption) ?_
  rotate_left
  focus (intro w hSw; (try dsimp only at hSw); go_simp; try with_reducible rfl)
  simp only [Act.put]
  refine wpAnyH_take (i := 1) (v := ?_) rfl (by kernel_rfl) (by kernel_rfl) (by kernel_rfl) (fun _ _ _ h => h) (Or.inl ⟨by kernel_rfl, ?_⟩) (by assumption) ?_
  rotate_left
  focus (intro w hSw; (try dsimp only at hSw); go_simp; try with_reducible rfl)
  simp only [Act.put]
  refine wpAnyH_take (i := 2) (v := ?_) rfl (by kernel_rfl) (by kernel_rfl) (by kernel_rfl) (fun _ _ _ h => h) (Or.inl ⟨by kernel_rfl, ?_⟩) (by assumption) ?_
  rotate_left
  focus (intro w hSw; (try dsimp only at hSw); go_simp; try with_reducible rfl)
  simp only [Act.put]
  refine wpAnyH_take (i := 4) (v := ?_) rfl (by kernel_rfl) (by kernel_rfl) (by kernel_rfl) (fun _ _ _ h => h) (Or.inl ⟨by kernel_rfl, ?_⟩) (by assumption) ?_
  rotate_left
  focus (intro w hSw; (try dsimp only at hSw); go_simp; try with_reducible rfl)
  simp only [Act.put]
  refine wpAnyH_ready (rs := [3]) (by kernel_rfl) (by simp) ?_
  refine AllReadyH.cons rfl (fun K hK => ?_) AllReadyH.nil
  go_simp
  refine (hnum.out _ _).mono ?_
  rintro e wn ⟨rfl, rfl⟩
  refine hK.out _ _ ?_ (fun hHeld => ?_)
  · exact KS.out _ (fun _ _ => rfl)
  clear hK K
  try simp only [Act.put]
  refine wpAnyH_take (i := 5) (v := ?_) rfl (by kernel_rfl) (by kernel_rfl) (by kernel_rfl) (fun _ _ _ h => h) (Or.inl ⟨by kernel_rfl, ?_⟩) (by assumption) ?_
  rotate_left
  focus (intro w hSw; (try dsimp only at hSw); go_simp; try with_reducible rfl)
  simp only [Act.put]
  refine wpAnyH_take (i := 6) (v := ?_) rfl (by kernel_rfl) (by kernel_rfl) (by kernel_rfl) (fun _ _ _ h => h) (Or.inl ⟨by kernel_rfl, ?_⟩) (by assumption) ?_
  rotate_left
  focus (intro w hSw; (try dsimp only at hSw); go_simp; try with_reducible rfl)
  simp only [Act.put]
  refine wpAnyH_take (i := 7) (v := ?_) rfl (by kernel_rfl) (by kernel_rfl) (by kernel_rfl) (fun _ _ _ h => h) (Or.inl ⟨by kernel_rfl, ?_⟩) (by assumption) ?_
  rotate_left
  focus (intro w hSw; (try dsimp only at hSw); go_simp; try with_reducible rfl)
  simp only [Act.put]
  refine wpAnyH_take (i := 8) (v := ?_) rfl (by kernel_rfl) (by kernel_rfl) (by kernel_rfl) (fun _ _ _ h => h) (Or.inl ⟨by kernel_rfl, ?_⟩) (by assumption) ?_
  rotate_left
  focus (intro w hSw; (try dsimp only at hSw); go_simp; try with_reducible rfl)
  simp only [Act.put]
  refine wpAnyH_take (i := 9) (v := ?_) rfl (by kernel_rfl) (by kernel_rfl) (by kernel_rfl) (fun _ _ _ h => h) (Or.inl ⟨by kernel_rfl, ?_⟩) (by assumption) ?_
  rotate_left
  focus (intro w hSw; (try dsimp only at hSw); go_simp; try with_reducible rfl)
  simp only [Act.put]
  refine wpAnyH_take (i := 10) (v := ?_) rfl (by kernel_rfl) (by kernel_rfl) (by kernel_rfl) (fun _ _ _ h => h) (Or.inl ⟨by kernel_rfl, ?_⟩) (by assumption) ?_
  rotate_left
  focus (intro w hSw; (try dsimp only at hSw); go_simp; try with_reducible rfl)
  simp only [Act.put]
  refine wpAnyH_take (i := 11) (v := ?_) rfl (by kernel_rfl) (by kernel_rfl) (by kernel_rfl) (fun _ _ _ h => h) (Or.inl ⟨by kernel_rfl, ?_⟩) (by assumption) ?_
  rotate_left
  focus (intro w hSw; (try dsimp only at hSw); go_simp; try with_reducible rfl)
  simp only [Act.put]
  refine wpAnyH_take (i := 12) (v := ?_) rfl (by kernel_rfl) (by kernel_rfl) (by kernel_rfl) (fun _ _ _ h => h) (Or.inl ⟨by kernel_rfl, ?_⟩) (by assumption) ?_
  rotate_left
  focus (intro w hSw; (try dsimp only at hSw); go_simp; try with_reducible rfl)
  simp only [Act.put]
  refine wpAnyH_take (i := 13) (v := ?_) rfl (by kernel_rfl) (by kernel_rfl) (by kernel_rfl) (fun _ _ _ h => h) (Or.inl ⟨by kernel_rfl, ?_⟩) (by assumption) ?_
  rotate_left
  focus (intro w hSw; (try dsimp only at hSw); go_simp; try with_reducible rfl)
  simp only [Act.put]
  refine wpAnyH_take (i := 14) (v := ?_) rfl (by kernel_rfl) (by kernel_rfl) (by kernel_rfl) (fun _ _ _ h => h) (Or.inl ⟨by kernel_rfl, ?_⟩) (by assumption) ?_
  rotate_left
  focus (intro w hSw; (try dsimp only at hSw); go_simp; try with_reducible rfl)
  simp only [Act.put]
  refine wpAnyH_take (i := 15) (v := ?_) rfl (by kernel_rfl) (by kernel_rfl) (by kernel_rfl) (fun _ _ _ h => h) (Or.inl ⟨by kernel_rfl, ?_⟩) (by assumption) ?_
  rotate_left
  focus (intro w hSw; (try dsimp only at hSw); go_simp; try with_reducible rfl)
  simp only [Act.put]
  refine wpAnyH_ready (rs := [16]) (by kernel_rfl) (by simp) ?_
  refine AllReadyH.cons rfl (fun K hK => ?_) AllReadyH.nil
  go_simp
  refine (HFR.out _ hbd hp0).mono ?_
  rintro e V7 ⟨rfl, hb7⟩
  have hb67 : Below V6.heap.size V6 V7 := below0 hbd hb7
  have KS2 := Lib.hid (fun (W : World) (hW : ∀ q, q ≠ w.heap.size + 2 → W.heap[q]? = V7.heap[q]?) => (show W.cell? ⟨w.heap.size, 0, none⟩ = some (.slice A l.length c) ∧ W.cell? ⟨w.heap.size + 1, 1, none⟩ = some (.int .i64 p) ∧ W.cell? ⟨w.heap.size + 1, 2, none⟩ = some (.int .i64 m) from ⟨(cell_same (hW _ (show w.heap.size ≠ w.heap.size + 2 by omega))).trans (CB.out _ hb67).1, (cell_same (hW _ (show w.heap.size + 1 ≠ w.heap.size + 2 by omega))).trans (CB.out _ hb67).2.1, (cell_same (hW _ (show w.heap.size + 1 ≠ w.heap.size + 2 by omega))).trans (CB.out _ hb67).2.2⟩))
  obtain ⟨_, rfl, f1, f2⟩ := HF.out V7 hb67
  have F1 := Lib.hid f1
  have F2 := Lib.hid f2
  obtain ⟨r0, z0⟩ := CZ.out _ hb67
  clear f1 f2 hb67 hb7 hbd
  refine hK.out _ _ ?_ (fun hHeld => ?_)
  · exact KS2.out _ (fun _ _ => rfl)
  clear hK K
  try simp only [Act.put]
  refine wpAnyH_take (i := 17) (v := ?_) rfl (by kernel_rfl) (by kernel_rfl) (by kernel_rfl) (fun _ _ _ h => h) (Or.inl ⟨by kernel_rfl, ?_⟩) (by assumption) ?_
  rotate_left
  focus (intro w hSw; (try dsimp only at hSw); go_simp; try with_reducible rfl)
  simp only [Act.put]
  refine wpAnyH_take (i := 18) (v := ?_) rfl (by kernel_rfl) (by kernel_rfl) (by kernel_rfl) (fun _ _ _ h => h) (Or.inl ⟨by kernel_rfl, ?_⟩) (by assumption) ?_
  rotate_left
  focus (intro w hSw; (try dsimp only at hSw); go_simp; try with_reducible rfl)
  simp only [Act.put]
  refine wpAnyH_take (i := 19) (v := ?_) rfl (by kernel_rfl) (by kernel_rfl) (by kernel_rfl) (fun _ _ _ h => h) (Or.inl ⟨by kernel_rfl, ?_⟩) (by assumption) ?_
  rotate_left
  focus (intro w hSw; (try dsimp only at hSw); go_simp; try with_reducible rfl)
  simp only [Act.put]
  refine wpAnyH_ready (rs := [20]) (by kernel_rfl) (by simp) ?_
  refine AllReadyH.cons rfl (fun K hK => ?_) AllReadyH.nil
  go_simp
  refine hK.out _ _ ?_ (fun hHeld => ?_)
  · exact KS2.out _ (fun _ _ => rfl)
  clear hK K
  try simp only [Act.put]
  refine wpAnyH_ready (rs := [21]) (by kernel_rfl) (by simp) ?_
  refine AllReadyH.cons rfl (fun K hK => ?_) AllReadyH.nil
  go_simp
  refine hK.out _ _ ?_ (fun hHeld => ?_)
  · exact KS2.out _ (fun q hq => heap_set hq)
  clear hK K
  try simp only [Act.put]
  refine wpAnyH_ready (rs := [22]) (by kernel_rfl) (by simp) ?_
  refine AllReadyH.cons rfl (fun K hK => ?_) AllReadyH.nil
  go_simp
  refine hK.out _ _ ?_ (fun hHeld => ?_)
  · exact KS2.out _ (fun q hq => heap_set hq)
  clear hK K
  try simp only [Act.put]
  refine wpAnyH_done (by kernel_rfl) ?_ _
  go_wp2_with fail
  exact bodyPost_ret (res_mid Try.results10 rfl F1.out) rfl F2.out
end Go.Proofs.Ytmocdokikcbjeaa

namespace Go.Proofs.Ytmocdokikcbjeaa
open Go.RowKit Go.Shelf Go.Maps Go.Sort

/- A CALL BY BOTH. -/
theorem act_any {w : World} {b c : Nat} {l : Tb} {F : Nat → Prop} {A : Option Addr} (h : Has w b l F) (hcap : l.length ≤ c) (hA : Lies w A l) (x : Ac) (hx : x.fits) :
    Calls Try.prog 10 #[bx b, .agg #[.slice A l.length c], .agg #[.int .i64 x.what, .int .i64 x.page, .int .i64 x.many, .int .i64 x.en.1, .int .i64 x.en.2.1, .int .i64 x.en.2.2]] w (ActP w F (stepT l x)) := by
  obtain ⟨wh, p, m, o1, o2, o3⟩ := x
  by_cases k0 : wh = 0
  · subst k0
    exact act_map h hcap hA p m o1 o2 o3 hx
  by_cases k1 : wh = 1
  · subst k1
    exact act_unmap h hcap hA p m o1 o2 o3 hx
  by_cases k2 : wh = 2
  · subst k2
    exact act_prot h hcap hA p m o1 o2 o3 hx
  by_cases k3 : wh = 3
  · subst k3
    exact act_free h hcap hA p m o1 o2 o3 hx
  by_cases k4 : wh = 4
  · subst k4
    exact act_next h hcap hA p m o1 o2 o3 hx
  · exact act_copy h hcap hA wh p m o1 o2 o3 hx k0 k1 k2 k3 k4
theorem step_len (l : Tb) (x : Ac) : (stepT l x).length ≤ l.length + 1 := by
  unfold stepT
  split
  · unfold mapT
    split
    · rw [ins_len]
      exact Nat.le_refl _
    · omega
  split
  · unfold unmapT
    split
    · exact Nat.le_trans (List.length_filter_le _ _) (Nat.le_succ _)
    · omega
  split
  · rw [prot_len]
    omega
  · omega
end Go.Proofs.Ytmocdokikcbjeaa
