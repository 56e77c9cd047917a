import Derived.Test.YtodbaahnmmfgiaaNC
namespace Go.Proofs.Ytodbaahnmmfgiaa.Lk
open Go.RowKit Go.Shelf
attribute [local go_sem] Oper.semAt_some

/- DROP. -/
def dropA (v : Value) (s : Nat) (a1 a2 : Bool) : List Ask :=
  [⟨32, #[v], #[], 1, a1⟩, ⟨57, #[], #[bx s], 2, a2⟩]
def dropB (t : Int) : List (Value × TypeId) := [(.int .i64 t, 3)]
theorem drop_nonA (v : Value) (t : Int) (w : World) (h : NonL w v) : Calls Try.prog 36 #[.slice (some ⟨w.heap.size + 1, 0, none⟩) 2 2] (askW w (dropB t) (dropA v w.heap.size true true)) fun e w' => e = .returned (.int .i64 1) ∧ Boxes w [.int .i64 t] w' := by
  refine (asked_box (dropB t) (dropA v w.heap.size false true) 2 2 _ rfl rfl (by omega) fun k hk hall => ?_).mono fun e w' ⟨e1, e2, _⟩ => ⟨e1, e2⟩
  rcases k with _ | k
  · refine ⟨enters_of Try.func32 (by kernel_rfl) rfl, fun V hV => ?_⟩
    exact (lthere_non v V (h.below hV.below)).mono fun e w' ⟨e1, e2⟩ => ⟨e1, e2 ▸ Below.refl _ _⟩
  · exact absurd (hall 0 (by simp [dropA]) (by omega)) (by simp [dropA])
theorem drop_askedA {bl b g c : Nat} {cs : Ce.Cs} {l : Ls} {w : World} (h : LRep w bl b g c cs l) (t : Int) :
    Calls Try.prog 36 #[.slice (some ⟨w.heap.size + 1, 0, none⟩) 2 2] (askW w (dropB t) (dropA (bx bl) w.heap.size true true)) fun e w' => e = .returned (.int .i64 (if threadB t then 0 else 2)) ∧ Boxes w [.int .i64 t] w' := by
  obtain ⟨a2, ha2⟩ : ∃ a2, a2 = threadB t := ⟨_, rfl⟩
  have hE : askE (dropA (bx bl) w.heap.size true a2) = if threadB t then 0 else 2 := by
    rw [← ha2]
    cases a2 <;> rfl
  refine (asked_box (dropB t) (dropA (bx bl) w.heap.size true a2) 2 2 _ rfl rfl (by omega) fun k hk hall => ?_).mono fun e w' ⟨e1, e2, _⟩ => ⟨by rw [e1, hE], e2⟩
  rcases k with _ | _ | k
  · refine ⟨enters_of Try.func32 (by kernel_rfl) rfl, fun V hV => ?_⟩
    exact (lthere_at bl _ V (h.below hV.below).cel).mono fun e w' ⟨e1, e2⟩ => ⟨e1, e2 ▸ Below.refl _ _⟩
  · refine ⟨enters_of Try.func57 (by kernel_rfl) rfl, fun V hV => ?_⟩
    have := drop1_any w.heap.size t V (hV.cell 0 _ rfl)
    rw [← ha2] at this
    exact this
  · simp [dropA] at hk
    omega
set_option maxHeartbeats 1000000 in
theorem drop_nil (v : Value) (t : Int) (w : World) (h : NonL w v) : Calls Try.prog 22 #[v, .int .i64 t] w fun e w' => e = .returned (.tuple #[.int .i64 0, .int .i64 1]) ∧ Below w.heap.size w w' := by
  have h1 := Lib.hid (drop_nonA v t w h)
  obtain ⟨pv, rfl⟩ := h.ptr
  clear h
  go_enter Try.func22, Try.ntmps22
  go_wp2_with fail
  refine wp_scope_jump 1 fun R hR hJm => ?_
  go_wp2_with fail
  refine (h1.out).mono ?_
  rintro e w1 ⟨rfl, hB⟩
  have HB := Lib.hid hB.below
  clear hB h1
  go_wp2_with fail
  refine wp_goto (hJm.out _ _ _ _ _ rfl ?_)
  go_wp2_with fail
  refine hR.out _ _ _ _ (by simp) ?_
  go_ret2
  exact ⟨rfl, HB.out⟩
set_option maxHeartbeats 1000000 in
theorem drop_no {bl b g c : Nat} {cs : Ce.Cs} {l : Ls} {w : World} (h : LRep w bl b g c cs l) (t : Int) (ht : threadB t = false) :
    Calls Try.prog 22 #[bx bl, .int .i64 t] w fun e w' => e = .returned (.tuple #[.int .i64 0, .int .i64 2]) ∧ Below w.heap.size w w' := by
  have h1 := Lib.hid (drop_askedA h t)
  rw [ht, if_neg (by simp)] at h1
  clear h ht
  go_enter Try.func22, Try.ntmps22
  go_wp2_with fail
  refine wp_scope_jump 1 fun R hR hJm => ?_
  go_wp2_with fail
  refine (h1.out).mono ?_
  rintro e w1 ⟨rfl, hB⟩
  have HB := Lib.hid hB.below
  clear hB h1
  go_wp2_with fail
  refine wp_goto (hJm.out _ _ _ _ _ rfl ?_)
  go_wp2_with fail
  refine hR.out _ _ _ _ (by simp) ?_
  go_ret2
  exact ⟨rfl, HB.out⟩
theorem dropTo_get (hs : List Nat) : ∀ (l : Ls) (k : Nat), k ∉ hs → (dropTo l hs)[k]? = l[k]? := by
  induction hs with
  | nil => exact fun _ _ _ => rfl
  | cons a r ih =>
    intro l k hk
    show (dropTo (withL l a (-1)) r)[k]? = _
    rw [ih _ _ (fun h => hk (List.mem_cons_of_mem _ h))]
    unfold withL
    exact List.getElem?_set_ne (fun h => hk (by rw [h]; exact List.mem_cons_self))
theorem drop_next {l : Ls} {t : Int} {i : Nat} (hi : i < (held l t).length) :
    ∃ hk : (held l t)[i] < (dropTo l ((held l t).take i)).length, (dropTo l ((held l t).take i))[(held l t)[i]] = t ∧ dropTo l ((held l t).take (i + 1)) = (dropTo l ((held l t).take i)).set (held l t)[i] (-1) := by
  have hm := held_mem.1 (List.getElem_mem hi)
  obtain ⟨_, hk, he⟩ := hm
  have hn : (held l t)[i] ∉ (held l t).take i := fun h => by
    obtain ⟨j, hj, e⟩ := List.getElem_of_mem h
    rw [List.length_take] at hj
    rw [List.getElem_take] at e
    have := List.pairwise_iff_getElem.1 (held_sorted l t) j i (by omega) hi (by omega)
    omega
  have hg := dropTo_get _ l _ hn
  refine ⟨by rw [dropTo_len]; exact hk, ?_, ?_⟩
  · rw [List.getElem?_eq_getElem hk, List.getElem?_eq_getElem (by rw [dropTo_len]; exact hk), he] at hg
    exact Option.some.inj hg
  · rw [List.take_succ_eq_append_getElem hi, dropTo_snoc]
    rfl
theorem LRep.int_ne {w : World} {bl b g c : Nat} {cs : Ce.Cs} {l : Ls} (h : LRep w bl b g c cs l) {k : Nat} {cs' : List Value} (hr : Row w k 3 cs') : ¬ blk bl b g k := by
  rintro (rfl | rfl | rfl)
  · have := hr.symm.trans h.obj
    injection this with this
    injection this with _ e
    exact absurd e (by decide)
  · have := hr.symm.trans h.rep.obj
    injection this with this
    injection this with _ e
    exact absurd e (by decide)
  · exact h.rep.row.ne hr (by decide) rfl
/-- what holds between two rounds -/
structure DrI (w : World) (bl b g c : Nat) (l : Ls) (t : Int) (u : Value) (i : Nat) (wr : World) : Prop where
  rep : ∃ cs, LRep wr bl b g c cs (dropTo l ((held l t).take i))
  keep : Keep (· = g) w wr
  box : wr.cell? ⟨w.heap.size, 0, none⟩ = some (.int .i64 t)
  lt : g < w.heap.size
  list : Wi wr u (hz (held l t))
theorem DrI.cells {w wr : World} {bl b g c : Nat} {l : Ls} {t : Int} {u : Value} {i : Nat} (h : DrI w bl b g c l t u i wr) : wr.cell? ⟨bl, 0, none⟩ = some (bx b) ∧ wr.cell? ⟨w.heap.size, 0, none⟩ = some (.int .i64 t) := by
  obtain ⟨cs, hr⟩ := h.rep
  exact ⟨hr.cel, h.box⟩
theorem DrI.swap {w wr : World} {bl b g c : Nat} {l : Ls} {t : Int} {u : Value} {i : Nat} (h : DrI w bl b g c l t u i wr) (ht : 0 ≤ t ∧ t < 4) (hi : i < (held l t).length) {V : World} (hb : Below wr.heap.size wr V) :
    Calls Try.prog 53 #[bx b, .int .i64 ((held l t)[i] : Int), .int .u64 (wz t : Int), .int .u64 0] V fun e w' => e = .returned (.tuple #[.bool true, .int .i64 0]) ∧ DrI w bl b g c l t u (i + 1) w' := by
  obtain ⟨cs, hr⟩ := h.rep
  obtain ⟨hk, he, hn⟩ := drop_next hi
  have hrV := hr.below hb
  have hsw := swap_lock hrV hk (x := t) (n := -1) (by omega) (by omega)
  rw [wz_m1, decide_eq_true he, if_pos he, ← hn] at hsw
  refine hsw.mono fun e w' ⟨e1, ⟨cs', e2⟩, e3⟩ => ⟨e1, ⟨⟨cs', e2⟩, (h.keep.trans ((Keep.of_below hb).trans e3 (fun _ _ h => h)) (fun _ _ h => h)), ?_, h.lt, ?_⟩⟩
  · have hl := lt_of_cell h.box
    exact (e3.cell (p := ⟨w.heap.size, 0, none⟩) (Nat.lt_of_lt_of_le hl hb.size) (fun e => by have := h.lt; simp only at e; omega)).trans ((hb.cell (p := ⟨w.heap.size, 0, none⟩) hl).trans h.box)
  · exact (h.list.below hb).same fun k cs' hrow => e3.block _ hrow.lt (fun e => hrV.int_ne hrow (.inr (.inr e)))
end Go.Proofs.Ytodbaahnmmfgiaa.Lk

namespace Go.Proofs.Ytodbaahnmmfgiaa.Lk
open Go.RowKit Go.Shelf
attribute [local go_sem] Oper.semAt_some

/- DROP THAT DROPS. -/
set_option maxHeartbeats 2000000 in
theorem drop_yes {bl b g c : Nat} {cs : Ce.Cs} {l : Ls} {w : World} (h : LRep w bl b g c cs l) (t : Int) (ht : threadB t = true) :
    Calls Try.prog 22 #[bx bl, .int .i64 t] w fun e w' => e = .returned (.tuple #[.int .i64 ((held l t).length : Int), .int .i64 0]) ∧ Nx HasL w (bx bl) (dropL l t) (blk bl b g) w' := by
  have h1 := Lib.hid (drop_askedA h t)
  rw [ht, if_pos rfl] at h1
  have ht4 := Lib.hid (threadB_in ht)
  have hn64 : (held l t).length ≤ 64 := Nat.le_trans (held_len l t) h.most
  have HM := Lib.hid (fun W => mark_any t W ht4.out.1 ht4.out.2)
  have HCEL := Lib.hid (fun w1 (hB : Boxes w [.int .i64 t] w1) => (show w1.cell? ⟨bl, 0, none⟩ = some (bx b) ∧ w1.cell? ⟨w.heap.size, 0, none⟩ = some (.int .i64 t) from ⟨(h.below hB.below).cel, hB.cell 0 _ rfl⟩))
  have HH := Lib.hid (fun w1 (hB : Boxes w [.int .i64 t] w1) V (hb : Below w1.heap.size w1 V) => (show Calls Try.prog 58 #[rk b, .int .i64 t] V (fun e w' => ∃ A c', e = .returned (.slice A (held l t).length c') ∧ DrI w bl b g c l t (.slice A (held l t).length c') 0 w' ∧ Below w.heap.size w w') from
    (held_gen h.most t ⟨_, rfl⟩ (fun V' hV' => owned_any ((h.below (below0 hB.below hb)).below hV'))).mono fun e w' ⟨u, e1, e2, e3⟩ => by
      obtain ⟨A, c', rfl, hx⟩ := e2
      have hbb := below0 (below0 hB.below hb) e3
      refine ⟨A, c', by rw [e1, hz_len], ⟨⟨cs, h.below hbb⟩, Keep.of_below hbb, ((e3.cell (p := ⟨w.heap.size, 0, none⟩) (Nat.lt_of_lt_of_le (lt_of_cell (hB.cell 0 _ rfl)) hb.size)).trans ((hb.cell (p := ⟨w.heap.size, 0, none⟩) (lt_of_cell (hB.cell 0 _ rfl))).trans (hB.cell 0 _ rfl))), h.rep.row.lt, ⟨A, c', by rw [hz_len], hx⟩⟩, hbb⟩))
  have HSW := Lib.hid (fun A c' i wr (hD : DrI w bl b g c l t (.slice A (held l t).length c') i wr) (hi : i < (held l t).length) => (show ∃ (k : Nat) (ad : Addr), A = some ad ∧ wr.cell? (ad.add i) = some (.int .i64 (k : Int)) ∧
      ∀ V, Below wr.heap.size wr V → Calls Try.prog 53 #[bx b, .int .i64 (k : Int), .int .u64 (wz t : Int), .int .u64 0] V (fun e w' => e = .returned (.tuple #[.bool true, .int .i64 0]) ∧ DrI w bl b g c l t (.slice A (held l t).length c') (i + 1) w') from by
    obtain ⟨A', c2, e, _, hs⟩ := hD.list.sees
    rw [hz_len] at e
    injection e with e1 e2 e3
    subst e1
    obtain ⟨ad, e4, _, e5⟩ := sees_int hs (k := i) (by rw [hz_len]; exact hi)
    refine ⟨(held l t)[i], ad, e4, ?_, fun V hb => hD.swap ht4.out hi hb⟩
    rw [e5]
    simp [hz]))
  have HFIN := Lib.hid (fun u wr (hD : DrI w bl b g c l t u (held l t).length wr) => (show Nx HasL w (bx bl) (dropL l t) (blk bl b g) wr from by
    obtain ⟨cs', hr⟩ := hD.rep
    rw [List.take_length] at hr
    exact nx_fin (Below.refl _ _) hD.keep hr))
  obtain ⟨x, hx⟩ : ∃ x, x = wz t := ⟨_, rfl⟩
  rw [← hx] at HM HSW
  obtain ⟨n, hn⟩ : ∃ n, n = (held l t).length := ⟨_, rfl⟩
  rw [← hn] at hn64 HH HFIN HSW ⊢
  clear hx hn h ht
  go_enter Try.func22, Try.ntmps22
  go_wp2_with fail
  refine wp_scope_jump 1 fun R hR hJm => ?_
  go_wp2_with fail
  refine (h1.out).mono ?_
  rintro e w1 ⟨rfl, hB⟩
  have hcel := HCEL.out w1 hB
  have HH1 := Lib.hid (HH.out w1 hB)
  have hdr := Lib.hid (show Below w1.heap.size w1 w1.drew from (Below.refl _ _).drew)
  have hbl := Lib.hid hB.below
  have H0 := Lib.hid hcel
  obtain ⟨d0, d1⟩ := hcel
  clear hB h1 HH HCEL
  go_wp2_with fail
  go_region_held3 (fun W => W.cell? ⟨bl, 0, none⟩ = some (bx b) ∧ W.cell? ⟨w.heap.size, 0, none⟩ = some (.int .i64 t))
    (first | exact H0.out | exact hS2 | assumption)
    (first | (go_at_call 58; refine (HH1.out _ hdr.out).mono ?_; rintro e w2 ⟨A, c', rfl, hD, hb2⟩; have hS2 := hD.cells))
  clear hS2 H0 d0 d1 hdr HH1
  have HB2 := Lib.hid hb2
  clear hb2 hbl
  go_wp2_with fail
  go_loopw [27] (fun s wr => ∃ i : Nat, i ≤ n ∧ s = .int .i64 (i : Int) ∧ DrI w bl b g c l t (.slice A n c') i wr) (fun s _ => n - (_root_.Go.RowKit.intOf s).toNat)
  case atStart => exact ⟨0, Nat.zero_le _, rfl, hD⟩
  case round =>
    obtain ⟨i, hi, rfl, hDi⟩ := hrel
    by_cases hlt : i < n
    · obtain ⟨k, ad, rfl, hca, hsw⟩ := HSW.out A c' i wr hDi hlt
      have HSK := Lib.hid hsw
      have hcel := hDi.cells
      have H0 := Lib.hid hcel
      have hdr := Lib.hid (show Below wr.heap.size wr wr.drew from (Below.refl _ _).drew)
      obtain ⟨d0, d1⟩ := hcel
      have i0 : (0 : Int) ≤ (i : Int) := by omega
      have i1 : (i : Int) < (n : Int) := by omega
      have i2 : decide ((i : Int) < (n : Int)) = true := decide_eq_true i1
      have i3 : decide (i < n) = true := decide_eq_true hlt
      clear hsw hDi hD
      go_wp2_with fail
      go_region_held3 (fun W => W.cell? ⟨bl, 0, none⟩ = some (bx b) ∧ W.cell? ⟨w.heap.size, 0, none⟩ = some (.int .i64 t))
        (first | exact H0.out | exact hS2 | assumption)
        (first | (go_at_call 54; refine (HM.out _).mono ?_; rintro e w2 ⟨rfl, rfl⟩) | (go_at_call 53; refine (HSK.out _ hdr.out).mono ?_; rintro e w3 ⟨rfl, hD3⟩; have hS2 := hD3.cells))
      clear hS2 H0 d0 d1 hdr HSK
      go_wp2_with fail
      go_roundw
      case rel => exact ⟨i + 1, by omega, by go_num, hD3⟩
      case measure => simp [_root_.Go.RowKit.intOf]; omega
    · obtain rfl : i = n := by omega
      have hfin := Lib.hid (HFIN.out _ wr hDi)
      clear hDi hD
      go_wp2_with fail
      refine hR.out _ _ _ _ (by simp) ?_
      go_ret2
      exact ⟨rfl, hfin.out⟩
theorem ldrop_any {w : World} {v : Value} {l : Ls} {F : Nat → Prop} (t : Int) (h : HasL w v l F) (ht : threadB t = true) : Calls Try.prog 22 #[v, .int .i64 t] w fun e w' => e = .returned (.tuple #[.int .i64 ((held l t).length : Int), .int .i64 0]) ∧ Nx HasL w v (dropL l t) F w' := by
  obtain ⟨bl, b, g, c, cs, rfl, h, rfl⟩ := h
  exact drop_yes h t ht
theorem ldrop_no {w : World} {v : Value} {l : Ls} {F : Nat → Prop} (t : Int) (h : HasL w v l F) (ht : threadB t = false) : Calls Try.prog 22 #[v, .int .i64 t] w fun e w' => e = .returned (.tuple #[.int .i64 0, .int .i64 2]) ∧ Below w.heap.size w w' := by
  obtain ⟨bl, b, g, c, cs, rfl, h, rfl⟩ := h
  exact drop_no h t ht
end Go.Proofs.Ytodbaahnmmfgiaa.Lk

namespace Go.Proofs.Ytodbaahnmmfgiaa.Lk
open Go.RowKit Go.Shelf
attribute [local go_sem] Oper.semAt_some

/- HOLDER, HELD, ALL, COPY. -/
/-- locks, or none -/
def AnyL (w : World) (v : Value) (l : Ls) : Prop := (∃ bl b g c cs, v = bx bl ∧ LRep w bl b g c cs l) ∨ (NonL w v ∧ l = [])
theorem AnyL.below {w w' : World} {v : Value} {l : Ls} (h : AnyL w v l) (hb : Below w.heap.size w w') : AnyL w' v l := by
  rcases h with ⟨bl, b, g, c, cs, e, h⟩ | ⟨h, e⟩
  · exact .inl ⟨bl, b, g, c, cs, e, h.below hb⟩
  · exact .inr ⟨h.below hb, e⟩
theorem AnyL.ptr {w : World} {v : Value} {l : Ls} (h : AnyL w v l) : ∃ pv, v = .pointer pv := by
  rcases h with ⟨bl, b, g, c, cs, e, h⟩ | ⟨h, e⟩
  · exact ⟨_, e⟩
  · exact h.ptr
theorem AnyL.most {w : World} {v : Value} {l : Ls} (h : AnyL w v l) : l.length ≤ 64 := by
  rcases h with ⟨bl, b, g, c, cs, e, h⟩ | ⟨h, rfl⟩
  · exact h.most
  · simp
theorem AnyL.get {w : World} {v : Value} {l : Ls} (h : AnyL w v l) : ∃ x : Value, (∀ V, Below w.heap.size w V → Calls Try.prog 46 #[v] V fun e w' => e = .returned (.agg #[x]) ∧ Below V.heap.size V w') ∧
    (∀ V, Below w.heap.size w V → Calls Try.prog 47 #[.agg #[x]] V (OwnI V l)) ∧
    ∀ r V, Below w.heap.size w V → Calls Try.prog 59 #[.agg #[x], .int .i64 r] V fun e w' => e = .returned (.tuple #[.int .i64 (if holdsAt l r then l.getD r.toNat (-1) else 0), .bool (holdsAt l r)]) ∧ Below V.heap.size V w' := by
  rcases h with ⟨bl, b, g, c, cs, rfl, h⟩ | ⟨h, rfl⟩
  · exact ⟨bx b, fun V hb => cells_at bl b V (h.below hb).cel, fun V hb => owned_any (h.below hb), fun r V hb => holder_any (h.below hb) r⟩
  · refine ⟨.pointer none, fun V hb => cells_non v V (h.below hb), fun V _ => owned_non V, fun r V _ => ?_⟩
    have e : holdsAt [] r = false := by
      unfold holdsAt
      rw [decide_eq_false (by simp), Bool.false_and]
    rw [e, if_neg (by simp)]
    exact holder_non r V
theorem lheld_any {w : World} {v : Value} {l : Ls} (h : AnyL w v l) (t : Int) : Calls Try.prog 23 #[v, .int .i64 t] w (HeldP w (held l t)) := by
  obtain ⟨x, hc, ho, _⟩ := h.get
  have HC := Lib.hid (hc w (Below.refl _ _))
  have HO := Lib.hid (fun V (hb : Below w.heap.size w V) => (show Calls Try.prog 58 #[.agg #[x], .int .i64 t] V (HeldP w (held l t)) from
    (held_gen h.most t ⟨x, rfl⟩ (fun V' hb' => ho V' (below0 hb hb'))).mono fun e w' ⟨u, e1, e2, e3⟩ => ⟨u, e1, e2, below0 hb e3⟩))
  obtain ⟨pv, rfl⟩ := h.ptr
  clear h hc ho
  go_enter Try.func23, Try.ntmps23
  go_wp2_with fail
  refine HC.out.mono ?_
  rintro e w1 ⟨rfl, hb⟩
  have HO1 := Lib.hid (HO.out w1 hb)
  clear hb HO HC
  go_wp2_with fail
  refine HO1.out.mono ?_
  rintro e w2 ⟨u, rfl, e2, e3⟩
  have hfin := Lib.hid (show HeldP w (held l t) (.returned u) w2 from ⟨u, rfl, e2, e3⟩)
  clear e2 e3 HO1
  go_wp2
  go_ret
  exact hfin.out
theorem lholder_any {w : World} {v : Value} {l : Ls} (h : AnyL w v l) (r : Int) : Calls Try.prog 25 #[v, .int .i64 r] w fun e w' => e = .returned (.tuple #[.int .i64 (if holdsAt l r then l.getD r.toNat (-1) else 0), .bool (holdsAt l r)]) ∧ Below w.heap.size w w' := by
  obtain ⟨x, hc, _, ho⟩ := h.get
  have HC := Lib.hid (hc w (Below.refl _ _))
  have HO := Lib.hid (ho r)
  obtain ⟨pv, rfl⟩ := h.ptr
  obtain ⟨z, hz⟩ : ∃ z, z = if holdsAt l r then l.getD r.toNat (-1) else 0 := ⟨_, rfl⟩
  obtain ⟨q, hq⟩ : ∃ q, q = holdsAt l r := ⟨_, rfl⟩
  rw [← hz, ← hq] at HO ⊢
  clear h hc ho hz hq
  go_enter Try.func25, Try.ntmps25
  go_wp2_with fail
  refine HC.out.mono ?_
  rintro e w1 ⟨rfl, hb⟩
  have HO1 := Lib.hid (HO.out w1 hb)
  have HB := Lib.hid hb
  clear hb HO HC
  go_wp2_with fail
  refine HO1.out.mono ?_
  rintro e w2 ⟨rfl, e3⟩
  have hfin := Lib.hid (below0 HB.out e3)
  clear e3 HO1
  go_wp2
  go_ret2
  exact ⟨rfl, hfin.out⟩
theorem OwnI.after {w w1 w2 : World} {l : Ls} {e : Ending} (h : OwnI w1 l e w2) (hb : Below w.heap.size w w1) : OwnI w l e w2 := by
  obtain ⟨lb, Pv, h1, h2, h3, h4⟩ := h
  exact ⟨lb, Pv, h1, h2, fun k hk => ⟨Nat.le_trans hb.size (h3 k hk).1, (h3 k hk).2⟩, below0 hb h4⟩
theorem lall_any {w : World} {v : Value} {l : Ls} (h : AnyL w v l) : Calls Try.prog 19 #[v] w (OwnI w l) := by
  obtain ⟨x, hc, ho, _⟩ := h.get
  have HC := Lib.hid (hc w (Below.refl _ _))
  have HO := Lib.hid (fun V (hb : Below w.heap.size w V) => (show Calls Try.prog 47 #[.agg #[x]] V (OwnI w l) from (ho V hb).mono fun e w' h => h.after hb))
  obtain ⟨pv, rfl⟩ := h.ptr
  clear h hc ho
  go_enter Try.func19, Try.ntmps19
  go_wp2_with fail
  refine HC.out.mono ?_
  rintro e w1 ⟨rfl, hb⟩
  have HO1 := Lib.hid (HO.out w1 hb)
  clear hb HO HC
  go_wp2_with fail
  refine HO1.out.mono ?_
  rintro e w2 ⟨lb, Pv, rfl, e2, e3, e4⟩
  have hfin := Lib.hid (show OwnI w l (.returned (.func (.func 66) #[] lb)) w2 from ⟨lb, Pv, rfl, e2, e3, e4⟩)
  clear e2 e3 e4 HO1
  go_wp2
  go_ret
  exact hfin.out
theorem lcopy_non {w : World} {v : Value} (h : NonL w v) : Calls Try.prog 18 #[v] w fun e w' => e = .returned (.pointer none) ∧ Below w.heap.size w w' := by
  have h1 := Lib.hid (lthere_non v w h)
  obtain ⟨pv, rfl⟩ := h.ptr
  clear h
  go_enter Try.func18, Try.ntmps18
  go_wp2_with fail
  refine h1.out.mono ?_
  rintro e w1 ⟨rfl, rfl⟩
  go_wp2_with fail
  go_ret
  exact ⟨rfl, Below.refl _ _⟩
theorem lcopy_any {w : World} {v : Value} {l : Ls} {F : Nat → Prop} (h : HasL w v l F) : Calls Try.prog 18 #[v] w fun e w' => ∃ v' F', e = .returned v' ∧ HasL w' v' l F' ∧ (∀ k, F' k → w.heap.size ≤ k) ∧ Below w.heap.size w w' := by
  obtain ⟨bl, b, g, c, cs, rfl, h, rfl⟩ := h
  have hc := h.cel
  have h1 := Lib.hid (lthere_at bl _ w hc)
  have h2 := Lib.hid (Ce.copy_rep b g c cs w h.rep (by have := h.most; have := h.len; omega))
  have HF := Lib.hid (fun w1 b g c (hb : w.heap.size ≤ b) (hg : w.heap.size ≤ g) (hr : Ce.Rep w1 b g c cs) (hB : Below w.heap.size w w1) =>
    (show ∃ v' F', Ending.returned (bx w1.heap.size) = .returned v' ∧ HasL (w1.alloc (.cells #[bx b] 66)) v' l F' ∧ (∀ k, F' k → w.heap.size ≤ k) ∧ Below w.heap.size w (w1.alloc (.cells #[bx b] 66)) from
      ⟨_, _, rfl, ⟨w1.heap.size, b, g, c, _, rfl, ⟨Row.new _ _ _, hr.below (below1 _ _), h.ws, h.th, h.most⟩, rfl⟩, fun k hk => by
        rcases hk with rfl | rfl | rfl
        · exact hB.size
        · exact hb
        · exact hg, below0 hB (below1 _ _)⟩))
  clear h
  go_enter Try.func18, Try.ntmps18
  go_wp2_with fail
  refine h1.out.mono ?_
  rintro e w1 ⟨rfl, rfl⟩
  clear h1
  go_wp2_with fail
  refine h2.out.mono ?_
  rintro e w2 ⟨b2, g2, c2, rfl, a1, a2, a3, a4⟩
  have hfin := Lib.hid (HF.out w2 b2 g2 c2 a1 a2 a3 a4)
  clear a1 a2 a3 a4 HF h2
  go_wp2_with fail
  go_ret
  exact hfin.out
theorem HasL.any {w : World} {v : Value} {l : Ls} {F : Nat → Prop} (h : HasL w v l F) : AnyL w v l := by
  obtain ⟨bl, b, g, c, cs, rfl, h, rfl⟩ := h
  exact .inl ⟨_, _, _, _, _, rfl, h⟩
end Go.Proofs.Ytodbaahnmmfgiaa.Lk

namespace Go.Proofs.Ytodbaahnmmfgiaa.Lk
open Go.RowKit Go.Shelf
attribute [local go_sem] Oper.semAt_some

/- WHAT IS ASKED OF WAITS; WHO IS AWAITED. -/
theorem hz_eq0 {z : Int} (h : z = -1) : (z != (-1 : Int)) = false := by rw [h]; rfl
theorem hz_ne0 {z : Int} (h : z ≠ -1) : (z != (-1 : Int)) = true := by simpa using h
set_option maxHeartbeats 1000000 in
theorem hasAll_any {w : World} {bl b g c : Nat} {cs : Ce.Cs} {l : Ls} (h : LRep w bl b g c cs l) (ws : Ls) (A : Option Addr) (m cb : Nat) (hm : ws.length = m) (hm2 : m ≤ 100) (hs : Sees w w.heap.size A (izs ws)) :
    Calls Try.prog 40 #[rk b, .slice A m cb] w fun e w' => e = .returned (.bool (rangeB l ws)) ∧ Below w.heap.size w w' := by
  have HH := Lib.hid (fun z V (hb : Below w.heap.size w V) => has_any (h.below hb) z)
  have HSEE := Lib.hid (fun k (hk : k < ws.length) V (hb : Below w.heap.size w V) => (show ∃ ad, A = some ad ∧ V.cell? (ad.add k) = some (.int .i64 ws[k]) from by
    obtain ⟨ad, e1, _, e2⟩ := sees_int (hs.below hb) hk
    exact ⟨ad, e1, e2⟩))
  have HNO := Lib.hid (fun k (hk : k < ws.length) (h1 : rangeAt l ws[k] = false) => (show rangeB l ws = false from by
    cases hh : rangeB l ws with
    | false => rfl
    | true => rw [rangeB_iff.1 hh k hk] at h1; cases h1))
  have HYES := Lib.hid (fun (h : ∀ i (h : i < ws.length), rangeAt l ws[i] = true) => rangeB_iff.2 h)
  obtain ⟨Q, hQ⟩ : ∃ Q, Q = rangeB l ws := ⟨_, rfl⟩
  rw [← hQ] at HNO HYES ⊢
  have HM := Lib.hid hm
  clear hQ h hs hm
  obtain ⟨N, hN⟩ : ∃ N, N = l.length := ⟨_, rfl⟩
  have HRA : Hid (∀ z, rangeAt l z = decide (-1 ≤ z ∧ z < (N : Int))) := Lib.hid (fun z => by rw [hN]; rfl)
  rw [← hN] at HH
  clear hN
  go_enter Try.func40, Try.ntmps40
  go_wp2_with fail
  obtain ⟨w1, hw1⟩ : ∃ w1, w1 = w.alloc (.cells #[bx b] 64) := ⟨_, rfl⟩
  have hB1 : Below w.heap.size w w1 := by rw [hw1]; exact below1 _ _
  have hc1 : w1.cell? ⟨w.heap.size, 0, none⟩ = some (bx b) := by rw [hw1]; exact cell_alloc_new _ _ _ _
  rw [← hw1]
  clear hw1
  go_loopw [9] (fun s wr => ∃ k : Nat, k ≤ m ∧ s = .int .i64 (k : Int) ∧ Hid (∀ j (hj : j < ws.length), j < k → rangeAt l ws[j] = true) ∧ Below w.heap.size w wr ∧ wr.cell? ⟨w.heap.size, 0, none⟩ = some (bx b)) (fun s _ => m - (_root_.Go.RowKit.intOf s).toNat)
  case atStart => exact ⟨0, by omega, rfl, Lib.hid (fun j hj h => absurd h (by omega)), hB1, hc1⟩
  case round =>
    obtain ⟨k, hk, rfl, hall, hb, hc⟩ := hrel
    by_cases hlt : k < m
    · have hkl : k < ws.length := by rw [HM.out]; exact hlt
      obtain ⟨ad, rfl, hca⟩ := HSEE.out k hkl wr hb
      have i0 : (0 : Int) ≤ (k : Int) := by omega
      have i1 : (k : Int) < (m : Int) := by omega
      have i2 : decide ((k : Int) < (m : Int)) = true := decide_eq_true i1
      have i3 : decide (k < m) = true := decide_eq_true hlt
      have hraz := HRA.out ws[k]
      have hno := Lib.hid (HNO.out k hkl)
      have hstep : Hid (rangeAt l ws[k] = true → ∀ j (hj : j < ws.length), j < k + 1 → rangeAt l ws[j] = true) := Lib.hid fun hr j hj hjk => by
        rcases Nat.lt_or_ge j k with h | h
        · exact hall.out j hj h
        · obtain rfl : j = k := by omega
          exact hr
      obtain ⟨q, hq⟩ : ∃ q, q = rangeAt l ws[k] := ⟨_, rfl⟩
      rw [← hq] at hno hraz hstep
      obtain ⟨z, hz⟩ : ∃ z, z = ws[k] := ⟨_, rfl⟩
      rw [← hz] at hca hraz
      have HB := Lib.hid hb
      have hh1 := Lib.hid (HH.out z wr hb)
      clear hq hz hb
      by_cases he : z = -1
      · have e0 := hz_eq0 he
        have hq : q = true := by rw [hraz, he]; exact decide_eq_true (by omega)
        subst hq
        have hstep2 := Lib.hid (hstep.out rfl)
        clear hh1 hno he hraz hstep
        go_wp2_with fail
        go_roundw
        case rel => exact ⟨k + 1, by omega, by go_num, Lib.hid hstep2.out, HB.out, hc⟩
        case measure => simp [_root_.Go.RowKit.intOf]; omega
      · have e0 := hz_ne0 he
        have hqq : decide (0 ≤ z ∧ z < (N : Int)) = q := by
          rw [hraz]
          by_cases h1 : 0 ≤ z ∧ z < (N : Int)
          · rw [decide_eq_true h1, decide_eq_true (by omega)]
          · rw [decide_eq_false h1, decide_eq_false (by omega)]
        rw [hqq] at hh1
        clear he hraz hqq
        cases q
        · have hf := Lib.hid (hno.out rfl)
          clear hno hstep
          go_wp2_with fail
          refine hh1.out.mono ?_
          rintro e w2 ⟨rfl, hb2⟩
          have HB2 := Lib.hid (below0 HB.out hb2)
          clear hb2 hh1
          go_wp2_with fail
          go_ret
          exact ⟨by rw [hf.out]; rfl, HB2.out⟩
        · have hstep2 := Lib.hid (hstep.out rfl)
          clear hno hstep
          go_wp2_with fail
          refine hh1.out.mono ?_
          rintro e w2 ⟨rfl, hb2⟩
          have HB2 := Lib.hid (below0 HB.out hb2)
          have hc2 := (hb2.cell (p := ⟨w.heap.size, 0, none⟩) (lt_of_cell hc)).trans hc
          clear hb2 hh1
          go_wp2_with fail
          go_roundw
          case rel => exact ⟨k + 1, by omega, by go_num, Lib.hid hstep2.out, HB2.out, hc2⟩
          case measure => simp [_root_.Go.RowKit.intOf]; omega
    · obtain rfl : k = m := by omega
      have hf := Lib.hid (HYES.out (fun i hi => hall.out i hi (by rw [← HM.out]; exact hi)))
      go_wp2_with fail
      go_ret
      exact ⟨by rw [hf.out]; rfl, hb⟩
end Go.Proofs.Ytodbaahnmmfgiaa.Lk

namespace Go.Proofs.Ytodbaahnmmfgiaa.Lk
open Go.RowKit Go.Shelf
attribute [local go_sem] Oper.semAt_some

/- MAY EACH TRY WHAT IT WAITS FOR? WHO IS AWAITED. -/
set_option maxHeartbeats 1000000 in
theorem openAll_any {w : World} {bl b g c : Nat} {cs : Ce.Cs} {l : Ls} (h : LRep w bl b g c cs l) (ws : Ls) (A : Option Addr) (m cb : Nat) (hm : ws.length = m) (hm2 : m ≤ 4) (hr : rangeB l ws = true) (hs : Sees w w.heap.size A (izs ws)) :
    Calls Try.prog 42 #[rk b, .slice A m cb] w fun e w' => e = .returned (.bool (orderB l ws)) ∧ Below w.heap.size w w' := by
  have HH := Lib.hid (fun (t : Int) k V (hb : Below w.heap.size w V) => open_any (h.below hb) t k)
  have HRG := Lib.hid (fun k (hk : k < ws.length) => rangeB_iff.1 hr k hk)
  have HOA := Lib.hid (fun k (hk : k < ws.length) => (show orderAt l ws k = (decide (ws[k] < 0) || (asksE l (k : Int) ws[k] == 0)) from by unfold orderAt; simp [hk]))
  have HASK := Lib.hid (fun (k j : Nat) (hk : k < 4) (hj : j < l.length) => (show (asksE l (k : Int) (j : Int) == 0) = !highB l (k : Int) j from by
    unfold asksE
    rw [if_neg (by rw [show threadB (k : Int) = true from decide_eq_true (by omega)]; simp), if_neg (by omega), Int.toNat_natCast]
    cases highB l (k : Int) j <;> rfl))
  have HSEE := Lib.hid (fun k (hk : k < ws.length) V (hb : Below w.heap.size w V) => (show ∃ ad, A = some ad ∧ V.cell? (ad.add k) = some (.int .i64 ws[k]) from by
    obtain ⟨ad, e1, _, e2⟩ := sees_int (hs.below hb) hk
    exact ⟨ad, e1, e2⟩))
  have HNO := Lib.hid (fun k (hk : k < ws.length) (h1 : orderAt l ws k = false) => (show orderB l ws = false from by
    cases hh : orderB l ws with
    | false => rfl
    | true => rw [orderB_iff.1 hh k hk] at h1; cases h1))
  have HYES := Lib.hid (fun (h : ∀ i (h : i < ws.length), orderAt l ws i = true) => orderB_iff.2 h)
  obtain ⟨Q, hQ⟩ : ∃ Q, Q = orderB l ws := ⟨_, rfl⟩
  rw [← hQ] at HNO HYES ⊢
  have HM := Lib.hid hm
  clear hQ h hs hm hr
  go_enter Try.func42, Try.ntmps42
  go_wp2_with fail
  obtain ⟨w1, hw1⟩ : ∃ w1, w1 = w.alloc (.cells #[bx b] 64) := ⟨_, rfl⟩
  have hB1 : Below w.heap.size w w1 := by rw [hw1]; exact below1 _ _
  have hc1 : w1.cell? ⟨w.heap.size, 0, none⟩ = some (bx b) := by rw [hw1]; exact cell_alloc_new _ _ _ _
  rw [← hw1]
  clear hw1
  go_loopw [9] (fun s wr => ∃ k : Nat, k ≤ m ∧ s = .int .i64 (k : Int) ∧ Hid (∀ j (hj : j < ws.length), j < k → orderAt l ws j = true) ∧ Below w.heap.size w wr ∧ wr.cell? ⟨w.heap.size, 0, none⟩ = some (bx b)) (fun s _ => m - (_root_.Go.RowKit.intOf s).toNat)
  case atStart => exact ⟨0, by omega, rfl, Lib.hid (fun j hj h => absurd h (by omega)), hB1, hc1⟩
  case round =>
    obtain ⟨k, hk, rfl, hall, hb, hc⟩ := hrel
    by_cases hlt : k < m
    · have hkl : k < ws.length := by rw [HM.out]; exact hlt
      obtain ⟨ad, rfl, hca⟩ := HSEE.out k hkl wr hb
      have i0 : (0 : Int) ≤ (k : Int) := by omega
      have i1 : (k : Int) < (m : Int) := by omega
      have i2 : decide ((k : Int) < (m : Int)) = true := decide_eq_true i1
      have i3 : decide (k < m) = true := decide_eq_true hlt
      have hrg := HRG.out k hkl
      have hoa := HOA.out k hkl
      have hno := Lib.hid (HNO.out k hkl)
      have hstep : Hid (orderAt l ws k = true → ∀ j (hj : j < ws.length), j < k + 1 → orderAt l ws j = true) := Lib.hid fun hr j hj hjk => by
        rcases Nat.lt_or_ge j k with h | h
        · exact hall.out j hj h
        · obtain rfl : j = k := by omega
          exact hr
      obtain ⟨q, hq⟩ : ∃ q, q = orderAt l ws k := ⟨_, rfl⟩
      rw [← hq] at hno hoa hstep
      obtain ⟨z, hz⟩ : ∃ z, z = ws[k] := ⟨_, rfl⟩
      rw [← hz] at hca hoa hrg
      have HB := Lib.hid hb
      have hrg2 := of_decide_eq_true hrg
      clear hq hz hrg
      by_cases he : z = -1
      · have e0 := hz_eq0 he
        have hq : q = true := by rw [hoa, he]; rfl
        subst hq
        have hstep2 := Lib.hid (hstep.out rfl)
        clear hno he hoa hstep hrg2 hb
        go_wp2_with fail
        go_roundw
        case rel => exact ⟨k + 1, by omega, by go_num, Lib.hid hstep2.out, HB.out, hc⟩
        case measure => simp [_root_.Go.RowKit.intOf]; omega
      · have e0 := hz_ne0 he
        obtain ⟨r, rfl⟩ := Int.eq_ofNat_of_zero_le (show 0 ≤ z by omega)
        have hqq : (!highB l (k : Int) r) = q := by
          rw [hoa, HASK.out k r (by omega) (by omega), decide_eq_false (by omega), Bool.false_or]
        have hh1 := Lib.hid (HH.out (k : Int) r wr hb)
        rw [hqq] at hh1
        clear he hoa hqq hb hrg2
        cases q
        · have hf := Lib.hid (hno.out rfl)
          clear hno hstep
          go_wp2_with fail
          refine hh1.out.mono ?_
          rintro e w2 ⟨rfl, hb2⟩
          have HB2 := Lib.hid (below0 HB.out hb2)
          clear hb2 hh1
          go_wp2_with fail
          go_ret
          exact ⟨by rw [hf.out]; rfl, HB2.out⟩
        · have hstep2 := Lib.hid (hstep.out rfl)
          clear hno hstep
          go_wp2_with fail
          refine hh1.out.mono ?_
          rintro e w2 ⟨rfl, hb2⟩
          have HB2 := Lib.hid (below0 HB.out hb2)
          have hc2 := (hb2.cell (p := ⟨w.heap.size, 0, none⟩) (lt_of_cell hc)).trans hc
          clear hb2 hh1
          go_wp2_with fail
          go_roundw
          case rel => exact ⟨k + 1, by omega, by go_num, Lib.hid hstep2.out, HB2.out, hc2⟩
          case measure => simp [_root_.Go.RowKit.intOf]; omega
    · obtain rfl : k = m := by omega
      have hf := Lib.hid (HYES.out (fun i hi => hall.out i hi (by rw [← HM.out]; exact hi)))
      go_wp2_with fail
      go_ret
      exact ⟨by rw [hf.out]; rfl, hb⟩
/-- who is awaited -/
def nxV (l ws : Ls) (t : Int) : Int := (nextT l ws t).getD 0
def nxB (l ws : Ls) (t : Int) : Bool := (nextT l ws t).isSome
theorem nx_out {l ws : Ls} {t : Int} (h : (ws.length : Int) ≤ t) : nxV l ws t = 0 ∧ nxB l ws t = false := by
  unfold nxV nxB nextT
  rw [if_pos h]
  exact ⟨rfl, rfl⟩
theorem nx_in {l ws : Ls} {k : Nat} (hk : k < ws.length) : (if holdsAt l ws[k] then l.getD ws[k].toNat (-1) else 0) = nxV l ws (k : Int) ∧ holdsAt l ws[k] = nxB l ws (k : Int) := by
  have hgd : ws.getD ((k : Nat) : Int).toNat (-1) = ws[k] := by simp [hk]
  have hn : ¬ ((ws.length : Int) ≤ (k : Int)) := by omega
  unfold nxV nxB nextT
  rw [if_neg hn, hgd]
  unfold holdsAt
  by_cases h0 : ws[k] < 0
  · rw [if_pos h0, decide_eq_false (by omega), Bool.false_and]
    exact ⟨rfl, rfl⟩
  · rw [if_neg h0]
    by_cases h1 : l.getD ws[k].toNat (-1) < 0
    · rw [if_pos h1, decide_eq_false (p := 0 ≤ l.getD ws[k].toNat (-1)) (by omega), Bool.and_false]
      exact ⟨rfl, rfl⟩
    · rw [if_neg h1]
      have hl : ws[k] < (l.length : Int) := by
        apply Int.lt_of_not_ge
        intro hge
        apply h1
        have : l.getD ws[k].toNat (-1) = -1 := by simp [List.getElem?_eq_none (show l.length ≤ ws[k].toNat by omega)]
        omega
      rw [decide_eq_true (show 0 ≤ ws[k] ∧ ws[k] < (l.length : Int) by omega), decide_eq_true (show 0 ≤ l.getD ws[k].toNat (-1) by omega)]
      exact ⟨rfl, rfl⟩
theorem nx_none {l ws : Ls} {k : Nat} (hk : k < ws.length) (h : ws[k] = -1) : nxV l ws (k : Int) = 0 ∧ nxB l ws (k : Int) = false := by
  have := nx_in (l := l) hk
  have e : holdsAt l ws[k] = false := by
    rw [h]
    unfold holdsAt
    rw [decide_eq_false (by omega), Bool.false_and]
  rw [e, if_neg (by simp)] at this
  exact ⟨this.1.symm, this.2.symm⟩
set_option maxHeartbeats 1000000 in
theorem awaited_any {w : World} {bl b g c : Nat} {cs : Ce.Cs} {l : Ls} (h : LRep w bl b g c cs l) (ws : Ls) (A : Option Addr) (m cb : Nat) (hm : ws.length = m) (hs : Sees w w.heap.size A (izs ws)) (t : Nat) (ht : t < 100) :
    Calls Try.prog 76 #[rk b, .int .i64 (t : Int), .slice A m cb] w fun e w' => e = .returned (.tuple #[.int .i64 (nxV l ws t), .bool (nxB l ws t)]) ∧ Below w.heap.size w w' := by
  obtain ⟨w1, hw1⟩ : ∃ w1, w1 = w.alloc (.cells #[bx b] 64) := ⟨_, rfl⟩
  have hB1 : Below w.heap.size w w1 := by rw [hw1]; exact below1 _ _
  subst hw1
  by_cases hlt : t < m
  · have htl : t < ws.length := by rw [hm]; exact hlt
    obtain ⟨ad, rfl, _, hca⟩ := sees_int (hs.below hB1) htl
    have i0 : (0 : Int) ≤ (t : Int) := by omega
    have i1 : (t : Int) < (m : Int) := by omega
    have i2 : decide ((m : Int) ≤ (t : Int)) = false := decide_eq_false (by omega)
    have i3 : decide (t < m) = true := decide_eq_true hlt
    have i4 : decide (m ≤ t) = false := decide_eq_false (by omega)
    have hx := nx_in (l := l) htl
    have hxn := nx_none (l := l) htl
    have HO := Lib.hid (fun V (hb : Below w.heap.size w V) => holder_any (h.below hb) ws[t])
    rw [hx.1, hx.2] at HO
    obtain ⟨V, hV⟩ : ∃ V, V = nxV l ws (t : Int) := ⟨_, rfl⟩
    obtain ⟨B, hB⟩ : ∃ B, B = nxB l ws (t : Int) := ⟨_, rfl⟩
    rw [← hV, ← hB] at HO hxn ⊢
    obtain ⟨z, hz⟩ : ∃ z, z = ws[t] := ⟨_, rfl⟩
    rw [← hz] at HO hca hxn
    clear h hm hs hx hV hB hz
    have HB1 := Lib.hid hB1
    by_cases he : z = -1
    · have e0 : (z == (-1 : Int)) = true := beq_iff_eq.2 he
      obtain ⟨hv, hb⟩ := hxn he
      clear he HO hxn hB1
      subst hv hb
      go_enter Try.func76, Try.ntmps76
      go_wp2_with fail
      go_ret2
      exact ⟨rfl, HB1.out⟩
    · have e0 : (z == (-1 : Int)) = false := beq_eq_false_iff_ne.2 he
      have hd0 : Below (w.alloc (.cells #[bx b] 64)).heap.size (w.alloc (.cells #[bx b] 64)) (w.alloc (.cells #[bx b] 64)).drew := (Below.refl _ _).drew
      have HC := Lib.hid ((HO.out _ (hB1.drew)).mono fun e w' ⟨e1, e2⟩ => (show _ ∧ Below (w.alloc (.cells #[bx b] 64)).heap.size (w.alloc (.cells #[bx b] 64)) w' from ⟨e1, below0 hd0 e2⟩))
      have HFB := Lib.hid (fun w' (h : Below (w.alloc (.cells #[bx b] 64)).heap.size (w.alloc (.cells #[bx b] 64)) w') => below0 hB1 h)
      have hcr : (w.alloc (.cells #[bx b] 64)).cell? ⟨w.heap.size, 0, none⟩ = some (bx b) := cell_alloc_new _ _ _ _
      have l1 := lt_of_cell hcr
      have l2 := lt_of_cell hca
      have HSA := Lib.hid (fun W (hB : Below (w.alloc (.cells #[bx b] 64)).heap.size (w.alloc (.cells #[bx b] 64)) W) => (show W.cell? ⟨w.heap.size, 0, none⟩ = some (bx b) ∧ W.cell? (ad.add t) = some (.int .i64 z) ∧ Below (w.alloc (.cells #[bx b] 64)).heap.size (w.alloc (.cells #[bx b] 64)) W from
        ⟨(hB.cell l1).trans hcr, (hB.cell l2).trans hca, hB⟩))
      have hdr := Lib.hid hd0
      clear he HO hxn hB1 hd0 hcr l1 l2
      go_enter Try.func76, Try.ntmps76
      go_wp2_with fail
      go_region_held3 (fun W => W.cell? ⟨w.heap.size, 0, none⟩ = some (bx b) ∧ W.cell? (ad.add t) = some (.int .i64 z) ∧ Below (w.alloc (.cells #[bx b] 64)).heap.size (w.alloc (.cells #[bx b] 64)) W)
        (first | exact HSA.out _ hdr.out | exact HSA.out _ (by assumption) | (go_split_ands; exact HSA.out _ (by assumption)))
        (first | (go_at_call 59; refine (HC.out).mono ?_; rintro e w2 ⟨rfl, hb2⟩))
      go_wp2
      go_ret2
      exact ⟨rfl, HFB.out _ hb2⟩
  · obtain ⟨hv, hb⟩ := nx_out (l := l) (ws := ws) (t := (t : Int)) (by omega)
    rw [hv, hb]
    have i2 : decide ((m : Int) ≤ (t : Int)) = true := decide_eq_true (by omega)
    have i4 : decide (m ≤ t) = true := decide_eq_true (by omega)
    have HB1 := Lib.hid hB1
    clear h hs hm hlt hv hb hB1
    go_enter Try.func76, Try.ntmps76
    go_wp2_with fail
    go_ret2
    exact ⟨rfl, HB1.out⟩
end Go.Proofs.Ytodbaahnmmfgiaa.Lk
