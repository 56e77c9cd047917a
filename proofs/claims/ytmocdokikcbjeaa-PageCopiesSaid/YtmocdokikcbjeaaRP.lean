import Derived.Test.YtmocdokikcbjeaaRU
namespace Go.Proofs.Ytmocdokikcbjeaa
open Go.RowKit Go.Shelf Go.Maps Go.Sort
attribute [local go_sem] Oper.semAt_some

/- THE DOCUMENT's P46TECT. -/
theorem setM_at {l : Tb} {p : Int} {k : Nat} (m : Int) (hs : l.Pairwise (fun a b => a.1 < b.1)) (hk : k < l.length) (h : l[k].1 = p) : setM l p m = l.set k (l[k].1, l[k].2.1, m, l[k].2.2.2) := by
  refine List.ext_getElem (by rw [setM_len, List.length_set]) fun j h1 h2 => ?_
  have hj : j < l.length := by rwa [setM_len] at h1
  have e1 : (setM l p m)[j] = if l[j].1 = p then (l[j].1, l[j].2.1, m, l[j].2.2.2) else l[j] := List.getElem_map (fun r : Int × En => if r.1 = p then (r.1, r.2.1, m, r.2.2.2) else r)
  rw [e1, List.getElem_set]
  by_cases e : k = j
  · subst e
    rw [if_pos h, if_pos rfl]
  · rw [if_neg e, if_neg]
    intro h3
    have hp := List.pairwise_iff_getElem.1 hs
    rcases Nat.lt_or_gt_of_ne e with h4 | h4
    · have := hp k j hk hj h4
      omega
    · have := hp j k hj hk h4
      omega
theorem prot_len (l : Tb) (p m : Int) : (protT l p m).length = l.length := by
  unfold protT
  split
  · exact setM_len l p m
  · rfl
theorem flat_set : ∀ (l : Tb) (k : Nat) (hk : k < l.length) (m : Int), (l.set k (l[k].1, l[k].2.1, m, l[k].2.2.2)).flatMap encR = (l.flatMap encR).set (k * 4 + 2) (.int .i64 m)
  | [], k, h, _ => by simp at h
  | r :: t, 0, _, m => rfl
  | r :: t, k + 1, h, m => by
    have hk : k < t.length := by simpa using h
    have ih := flat_set t k hk m
    have e : (k + 1) * 4 + 2 = k * 4 + 2 + 4 := by omega
    rw [e]
    show encR r ++ (t.set k (t[k].1, t[k].2.1, m, t[k].2.2.2)).flatMap encR = encR r ++ (t.flatMap encR).set (k * 4 + 2) (.int .i64 m)
    rw [ih]
theorem own_put {w : World} {B size n c g j : Nat} {e : TypeId} {xs : List Value} (h : w.ownsRow B e size (.slice (some ⟨g, 0, none⟩) n c) n xs) (v : Value) : (w.setCell ⟨g, j, none⟩ v).ownsRow B e size (.slice (some ⟨g, 0, none⟩) n c) n (xs.set j v) := by
  obtain ⟨h1, ⟨h2, _⟩ | ⟨g', c', cur, h2, hg, hh, h3, h4, h5, h6⟩⟩ := h
  · cases h2
  · injection h2 with h7 _ h8
    injection h7 with h7
    injection h7 with h7
    subst h7
    subst h8
    refine ⟨by rw [List.length_set]; exact h1, .inr ⟨g, c, cur.setIfInBounds j v, rfl, hg, set_cells v hh, h3, h4, by rw [Array.size_setIfInBounds]; exact h5, ?_⟩⟩
    rw [Array.toList_setIfInBounds, List.take_set, h6]
theorem own_heap {w : World} {B size n c g : Nat} {e : TypeId} {xs : List Value} (h : w.ownsRow B e size (.slice (some ⟨g, 0, none⟩) n c) n xs) : ∃ cur, w.heap[g]? = some (.cells cur e (0, 0)) := by
  obtain ⟨h1, ⟨h2, _⟩ | ⟨g', c', cur, h2, hg, hh, h3⟩⟩ := h
  · cases h2
  · injection h2 with h7 _ h8
    injection h7 with h7
    injection h7 with h7
    subst h7
    exact ⟨cur, hh⟩
theorem wpList_append_run {P : Program} {w w' : World} {ops : Array Oper} {rest : List Oper} {o : Oper} {a : Act} {Q : Exit → Act → World → Prop} (hgd : o.guard = none) (s x : Operand) (t : TypeId)
    (ho : o.op = .call { callee := .builtin .append, args := #[s, x], argTypes := #[t, t] }) (v v' : Value) (A : Option Addr) (m c : Nat) (hs : a.eval s = v) (hx : a.eval x = .slice A m c)
    (hrun : (Builtin.append_ #[t, t] o.type #[v, .slice A m c]).run P w = .ok v' w') (h : wpList P ops Q rest (a.put o.dst v') w') : wpList P ops Q (o :: rest) a w :=
  wpList_plain hgd fun _ hK => op_append s x t ho v v' A m c hs hx hrun (hK _ _ h)
/-- the blocks that Protect lays first -/
structure PrW (w : World) (A : Option Addr) (n c : Nat) (V : World) : Prop where
  below : Below w.heap.size w V
  s : w.heap.size + 2 ≤ V.heap.size
  t : Row V w.heap.size 29 [.slice A n c]
  r : Row V (w.heap.size + 1) 29 [.slice none 0 0]
theorem PrW.more {w V V' : World} {A : Option Addr} {n c : Nat} (h : PrW w A n c V) (hb : Below V.heap.size V V') : PrW w A n c V' :=
  ⟨below0 h.below hb, Nat.le_trans h.s hb.size, h.t.below hb, h.r.below hb⟩
theorem PrW.new (w : World) (A : Option Addr) (n c : Nat) : PrW w A n c ((w.alloc (.cells #[.slice A n c] 29)).alloc (.cells #[.slice none 0 0] 29)) :=
  ⟨below2 _ _ _, by simp, (Row.new w _ _).below (below1 _ _), Row.new_at _ _ _ (by simp)⟩
structure PrC (w : World) (A : Option Addr) (n c : Nat) (V : World) : Prop where
  t0 : V.cell? ⟨w.heap.size, 0, none⟩ = some (.slice A n c)
  r0 : V.cell? ⟨w.heap.size + 1, 0, none⟩ = some (.slice none 0 0)
  z0 : V.frozen? ⟨w.heap.size + 1, 0, none⟩ = false
theorem PrW.c {w V : World} {A : Option Addr} {n c : Nat} (h : PrW w A n c V) : PrC w A n c V :=
  ⟨h.t.cell 0, h.r.cell 0, h.r.frozen 0⟩
theorem PrW.fin {w V : World} {A : Option Addr} {n c : Nat} (h : PrW w A n c V) (v : Value) : (loadVar 29 ⟨w.heap.size + 1, 0, none⟩).run Try.prog (V.setCell ⟨w.heap.size + 1, 0, none⟩ v) = .ok (.agg #[v]) (V.setCell ⟨w.heap.size + 1, 0, none⟩ v) ∧ Below w.heap.size w (V.setCell ⟨w.heap.size + 1, 0, none⟩ v) :=
  ⟨load_tb ((h.r.set 0 v).cell 0), h.below.setCell (show w.heap.size ≤ w.heap.size + 1 by omega) v⟩
theorem pr_first (w : World) (v u : Value) : (loadVar 29 ⟨w.heap.size + 1, 0, none⟩).run Try.prog ((w.alloc (.cells #[u] 29)).alloc (.cells #[v] 29)) = .ok (.agg #[v]) ((w.alloc (.cells #[u] 29)).alloc (.cells #[v] 29)) :=
  load_tb ((Row.new_at _ _ _ (by simp)).cell 0)

set_option maxRecDepth 100000 in
set_option maxHeartbeats 2000000 in
theorem rprot_any (l : Tb) (A : Option Addr) (c : Nat) (p m : Int) (w : World) (hok : Tok l) (hcap : l.length ≤ c) (hA : Lies w A l) :
    Calls Try.prog 30 #[.agg #[.slice A l.length c], .int .i64 p, .int .i64 m] w (RefP w (protT l p m) [.int .i64 (protM l p m), .int .i64 (protE l p m : Int)]) := by
  obtain ⟨i0, hi0, hz0, hz1, hz2⟩ := info_parts row_info
  have HM := Lib.hid hok.len
  obtain ⟨w1, hw1⟩ : ∃ w1, w1 = (w.alloc (.cells #[.slice A l.length c] 29)).alloc (.cells #[.slice none 0 0] 29) := ⟨_, rfl⟩
  have m1 : PrW w A l.length c w1 := hw1 ▸ PrW.new w A l.length c
  have HT := Lib.hid (fun V (hV : PrW w A l.length c V) => rat_any l A l.length c p V rfl hok.len (hA.below hV.below))
  have HOLD := Lib.hid (fun V (hV : PrW w A l.length c V) (E : Nat) (h1 : protE l p m = E) (h2 : E ≠ 0) => (show (loadVar 29 ⟨w.heap.size + 1, 0, none⟩).run Try.prog (V.setCell ⟨w.heap.size + 1, 0, none⟩ (.slice A l.length c)) = .ok (.agg #[.slice A l.length c]) (V.setCell ⟨w.heap.size + 1, 0, none⟩ (.slice A l.length c)) ∧
      RefP w (protT l p m) [.int .i64 (protM l p m), .int .i64 (protE l p m : Int)] (.returned (.tuple #[.agg #[.slice A l.length c], .int .i64 0, .int .i64 (E : Int)])) (V.setCell ⟨w.heap.size + 1, 0, none⟩ (.slice A l.length c)) from by
    have hT : protT l p m = l := by unfold protT; rw [if_neg (by rw [h1]; exact h2)]
    have hX : protM l p m = 0 := by unfold protM; rw [if_neg (by rw [h1]; exact h2)]
    obtain ⟨f1, f2⟩ := hV.fin (.slice A l.length c)
    refine ⟨f1, ?_⟩
    rw [hT, hX, h1]
    exact ⟨A, c, rfl, hcap, hA.below f2, f2⟩))
  have HFST := Lib.hid (fun (E : Nat) (h1 : protE l p m = E) (h2 : E ≠ 0) => (show RefP w (protT l p m) [.int .i64 (protM l p m), .int .i64 (protE l p m : Int)] (.returned (.tuple #[.agg #[.slice A l.length c], .int .i64 0, .int .i64 (E : Int)])) ((w.alloc (.cells #[.slice A l.length c] 29)).alloc (.cells #[.slice A l.length c] 29)) from by
    have hT : protT l p m = l := by unfold protT; rw [if_neg (by rw [h1]; exact h2)]
    have hX : protM l p m = 0 := by unfold protM; rw [if_neg (by rw [h1]; exact h2)]
    rw [hT, hX, h1]
    exact ⟨A, c, rfl, hcap, hA.below (below2 _ _ _), below2 _ _ _⟩))
  have HEQ : Hid (protE l p m = if mayB m = false then 2 else if pageB p = false then 4 else if (look l p).isSome = false then 5 else 0) := Lib.hid rfl
  have HA := Lib.hid hA
  have HX := Lib.hid hw1
  have HM1 := Lib.hid m1
  have HOK := Lib.hid hok
  have HCAP := Lib.hid hcap
  obtain ⟨t0, r0, z0⟩ := m1.c
  clear hw1 m1 hok hA hcap
  have g0 := t0
  have g1 := r0
  have g2 := z0
  rw [HX.out] at g0 g1 g2
  go_enter Try.func30, Try.ntmps30
  by_cases hm0 : m < 0
  · have d0 : decide (m < 0) = true := decide_eq_true hm0
    have hmb : mayB m = false := by unfold mayB; rw [decide_eq_false (by omega)]; rfl
    clear hm0
    have K := Lib.hid (pr_first w (.slice A l.length c) (.slice A l.length c))
    have KR := Lib.hid (HFST.out 2 (by rw [HEQ.out, if_pos hmb]) (by decide))
    go_wp2_with fail
    exact bodyPost_ret (res_cell3 Try.results30 rfl K.out) rfl KR.out
  have d0 : decide (m < 0) = false := decide_eq_false hm0
  by_cases hm1 : 2 < m
  · have d1 : decide (2 < m) = true := decide_eq_true hm1
    have hmb : mayB m = false := by unfold mayB; rw [decide_eq_false (p := m ≤ 2) (by omega), Bool.and_false]
    clear hm0 hm1
    have K := Lib.hid (pr_first w (.slice A l.length c) (.slice A l.length c))
    have KR := Lib.hid (HFST.out 2 (by rw [HEQ.out, if_pos hmb]) (by decide))
    go_wp2_with fail
    exact bodyPost_ret (res_cell3 Try.results30 rfl K.out) rfl KR.out
  have d1 : decide (2 < m) = false := decide_eq_false hm1
  have HMB := Lib.hid (show mayB m = true from mayB_iff.2 ⟨by omega, by omega⟩)
  clear hm0 hm1
  by_cases hp0 : p < 0
  · have d2 : decide (p < 0) = true := decide_eq_true hp0
    have hpb : pageB p = false := by unfold pageB; rw [decide_eq_false (by omega)]; rfl
    clear hp0
    have K := Lib.hid (pr_first w (.slice A l.length c) (.slice A l.length c))
    have KR := Lib.hid (HFST.out 4 (by rw [HEQ.out, if_neg (by rw [HMB.out]; decide), if_pos hpb]) (by decide))
    go_wp2_with fail
    exact bodyPost_ret (res_cell3 Try.results30 rfl K.out) rfl KR.out
  have d2 : decide (p < 0) = false := decide_eq_false hp0
  by_cases hp1 : 65536 ≤ p
  · have d3 : decide (65536 ≤ p) = true := decide_eq_true hp1
    have hpb : pageB p = false := by unfold pageB; rw [decide_eq_false (p := p < 65536) (by omega), Bool.and_false]
    clear hp0 hp1
    have K := Lib.hid (pr_first w (.slice A l.length c) (.slice A l.length c))
    have KR := Lib.hid (HFST.out 4 (by rw [HEQ.out, if_neg (by rw [HMB.out]; decide), if_pos hpb]) (by decide))
    go_wp2_with fail
    exact bodyPost_ret (res_cell3 Try.results30 rfl K.out) rfl KR.out
  have d3 : decide (65536 ≤ p) = false := decide_eq_false hp1
  have HPG := Lib.hid (show pageB p = true from pageB_iff.2 ⟨by omega, by omega⟩)
  clear hp0 hp1
  go_wp2_with fail
  rw [← HX.out]
  refine (HT.out w1 HM1.out).mono ?_
  rintro e w3 ⟨rfl, hb3⟩
  have M3 := Lib.hid (HM1.out.more hb3)
  clear t0 r0 z0 g0 g1 g2 hb3
  obtain ⟨t0, r0, z0⟩ := M3.out.c
  rcases at_look (l := l) (z := p) with ⟨h1, h2⟩ | ⟨k, hk, h1, h2, h3⟩
  · have d4 : decide ((-1 : Int) < 0) = true := rfl
    obtain ⟨k1, k2⟩ := HOLD.out w3 M3.out 5 (by rw [HEQ.out, if_neg (by rw [HMB.out]; decide), if_neg (by rw [HPG.out]; decide), if_pos (by rw [h2]; rfl)]) (by decide)
    have K1 := Lib.hid k1
    have K2 := Lib.hid k2
    rw [h1]
    clear k1 k2 h1 h2
    go_wp2_with fail
    exact bodyPost_ret (res_cell3 Try.results30 rfl K1.out) rfl K2.out
  · have d4 : decide ((k : Int) < 0) = false := decide_eq_false (by omega)
    have hE0 : protE l p m = 0 := by rw [HEQ.out, if_neg (by rw [HMB.out]; decide), if_neg (by rw [HPG.out]; decide), if_neg (by rw [h3]; simp)]
    have hT : protT l p m = l.set k (l[k].1, l[k].2.1, m, l[k].2.2.2) := by unfold protT; rw [if_pos hE0, setM_at m HOK.out.sorted hk h2]
    have hX : protM l p m = l[k].2.2.1 := by unfold protM; rw [if_pos hE0, h3]; rfl
    have hLies := HA.out.below M3.out.below
    obtain ⟨ad, hAd, _⟩ := hLies.at_ k hk
    subst hAd
    have hadb : ad.block < w.heap.size := by
      obtain ⟨ad2, e2, h5, _⟩ := HA.out (by
        intro e
        have := row_get l k 0 hk (by omega)
        rw [e] at this
        simp [encR] at this)
      obtain rfl := Option.some.inj e2
      exact h5
    have hmx := HM.out
    have hL1 : Sees (w3.alloc (.cells #[] 46)) w3.heap.size (some ad) (l.flatMap encR) := (show Lies w3 (some ad) l from hLies).alloc (Nat.le_refl _) _
    have hown0 : (w3.alloc (.cells #[] 46)).ownsRow w3.heap.size 46 4 (.slice (some ⟨w3.heap.size, 0, none⟩) 0 0) 0 [] := World.ownsRow_made w3 #[] 0 (Nat.le_refl _) (Nat.zero_le _) rfl
    obtain ⟨v1, w4, hrun1, hown1, hg1, hv1⟩ := run_append_sees (P := Try.prog) (w3.alloc (.cells #[] 46)) w3.heap.size 27 27 46 i0 _ 4 32 Try.underlying27 hi0 hz0 hz1 hz2 rfl (by decide) _ 0 [] hown0 w3.heap.size (some ad) l.length c (l.flatMap encR) (row_len l) hL1 row_one (by unfold maxLen; omega) (by omega) (by simp)
    rw [Nat.zero_add, List.nil_append] at hown1
    have hb4 : Below w3.heap.size w3 w4 := ((Below.refl _ w3).alloc (Nat.le_refl _) _).grown hg1 (by simp) (fun r e => (hown0.lt r e).1)
    obtain ⟨g, c4, rfl, hg4, hlt4⟩ := hown1.form (by omega)
    have M4 := M3.out.more hb4
    have hown5 := own_put (j := k * 4 + 2) hown1 (.int .i64 m)
    have hc4 : w4.cell? ⟨g, k * 4 + 2, none⟩ = some (.int .i64 l[k].2.2.1) := by
      have h7 := hown1.cells (g := g) rfl (k * 4 + 2) (.int .i64 l[k].2.2.1) (by rw [row_get l k 2 hk (by omega)]; rfl)
      rwa [add_plain, Nat.zero_add] at h7
    have hz4 : w4.frozen? ⟨g, k * 4 + 2, none⟩ = false := by
      obtain ⟨cur, h7⟩ := own_heap hown1
      simp [World.frozen?, h7]
    obtain ⟨w5, hw5⟩ : ∃ w5, w5 = w4.setCell ⟨g, k * 4 + 2, none⟩ (.int .i64 m) := ⟨_, rfl⟩
    rw [← hw5] at hown5
    have hb5 : Below w3.heap.size w3 w5 := hw5 ▸ hb4.setCell hg4 _
    have M5 := M3.out.more hb5
    have hrow5 : RowAt w5 ad k l[k] := by
      obtain ⟨ad', e, hr⟩ := (HA.out.below M5.below).at_ k hk
      obtain rfl := Option.some.inj e
      exact hr
    rw [← flat_set l k hk m, ← hT] at hown5
    have hlen : (protT l p m).length = l.length := prot_len l p m
    have HFIN := Lib.hid (fun (V : World) (hV : PrW w (some ad) l.length c V) (hh : ∀ q, w3.heap.size ≤ q → V.heap[q]? = w5.heap[q]?) => (show (loadVar 29 ⟨w.heap.size + 1, 0, none⟩).run Try.prog (V.setCell ⟨w.heap.size + 1, 0, none⟩ (.slice (some ⟨g, 0, none⟩) l.length c4)) = .ok (.agg #[.slice (some ⟨g, 0, none⟩) l.length c4]) (V.setCell ⟨w.heap.size + 1, 0, none⟩ (.slice (some ⟨g, 0, none⟩) l.length c4)) ∧
        RefP w (protT l p m) [.int .i64 (protM l p m), .int .i64 (protE l p m : Int)] (.returned (.tuple #[.agg #[.slice (some ⟨g, 0, none⟩) l.length c4], .int .i64 l[k].2.2.1, .int .i64 0])) (V.setCell ⟨w.heap.size + 1, 0, none⟩ (.slice (some ⟨g, 0, none⟩) l.length c4)) from by
      obtain ⟨f1, f2⟩ := hV.fin (.slice (some ⟨g, 0, none⟩) l.length c4)
      refine ⟨f1, ?_⟩
      rw [hX, hE0]
      refine ⟨some ⟨g, 0, none⟩, c4, by rw [hlen]; rfl, by rw [hlen]; exact own_cap' hown1, ?_, f2⟩
      refine sees_of (own_keep (n := (protT l p m).length) (by rw [hlen]; exact hown5) fun q hq => ?_)
      have hq2 := (hown5.lt q (by rw [← hlen]; exact hq)).1
      have := M3.out.s
      rw [heap_set (by omega), hh q hq2]))
    have i0' : (0 : Int) ≤ (k : Int) := by omega
    have i1' : (k : Int) < (l.length : Int) := by omega
    have HM5 := Lib.hid M5
    have HR5 := Lib.hid hrow5
    have HW5 := Lib.hid hw5
    have mixed : Try.prog.follows .mixedOrders = true := by kernel_rfl
    have tA := (M3.out.more (below1 w3 (.cells #[] 46))).c.t0
    rw [h1]
    clear hE0 hT hX hLies hmx hL1 hown0 hown1 hg1 hv1 hb4 hown5 hb5 hlen M5 hrow5 hw5 h1 h2 h3 M4
    go_wp2_with (at_builtin; refine wpList_append_run rfl (.tmp 31) (.tmp 33) 27 rfl _ _ _ _ _ rfl rfl hrun1 ?_)
    rw [← HW5.out]
    obtain ⟨t5, r5, z5⟩ := HM5.out.c
    have HSG := Lib.hid (fun (W : World) (hW : ∀ q, q ≤ w.heap.size → W.heap[q]? = w5.heap[q]?) => (show W.cell? ⟨w.heap.size, 0, none⟩ = some (.slice (some ad) l.length c) ∧ W.cell? ⟨(ad.add (k * 4)).block, (ad.add (k * 4)).off + 2, none⟩ = some (.int .i64 l[k].2.2.1) from by
      have hbk : (ad.add (k * 4)).block ≤ w.heap.size := by rw [add_block]; exact Nat.le_of_lt hadb
      exact ⟨(cell_block hW ⟨w.heap.size, 0, none⟩ (Nat.le_refl _)).trans t5, (cell_block hW ⟨(ad.add (k * 4)).block, (ad.add (k * 4)).off + 2, none⟩ hbk).trans HR5.out.c2⟩))
    refine wp_region_held_drew (S := fun W => W.cell? ⟨w.heap.size, 0, none⟩ = some (.slice (some ad) l.length c) ∧ W.cell? ⟨(ad.add (k * 4)).block, (ad.add (k * 4)).off + 2, none⟩ = some (.int .i64 l[k].2.2.1)) (by kernel_rfl) ?_ (fun hHeld => ?_)
    · exact HSG.out _ (fun q _ => rfl)
    refine wpAnyH_take (i := 0) (v := ?_) rfl (by kernel_rfl) (by kernel_rfl) (by kernel_rfl) (fun _ _ _ h => h) (Or.inl ⟨by rfl, ?_⟩) (by assumption) ?_
    rotate_left
    focus (intro w hSw; (try dsimp only at hSw); go_simp; try with_reducible rfl)
    simp only [Act.put]
    refine wpAnyH_take (i := 1) (v := ?_) rfl (by kernel_rfl) (by kernel_rfl) (by kernel_rfl) (fun _ _ _ h => h) (Or.inl ⟨by rfl, ?_⟩) (by assumption) ?_
    rotate_left
    focus (intro w hSw; (try dsimp only at hSw); go_simp; try with_reducible rfl)
    simp only [Act.put]
    refine wpAnyH_take (i := 2) (v := ?_) rfl (by kernel_rfl) (by kernel_rfl) (by kernel_rfl) (fun _ _ _ h => h) (Or.inl ⟨by rfl, ?_⟩) (by assumption) ?_
    rotate_left
    focus (intro w hSw; (try dsimp only at hSw); go_simp; try with_reducible rfl)
    simp only [Act.put]
    refine wpAnyH_take (i := 3) (v := ?_) rfl (by kernel_rfl) (by kernel_rfl) (by kernel_rfl) (fun _ _ _ h => h) (Or.inl ⟨by rfl, ?_⟩) (by assumption) ?_
    rotate_left
    focus (intro w hSw; (try dsimp only at hSw); go_simp; try with_reducible rfl)
    simp only [Act.put]
    refine wpAnyH_take (i := 4) (v := ?_) rfl (by kernel_rfl) (by kernel_rfl) (by kernel_rfl) (fun _ _ _ h => h) (Or.inl ⟨by rfl, ?_⟩) (by assumption) ?_
    rotate_left
    focus (intro w hSw; (try dsimp only at hSw); go_simp; try with_reducible rfl)
    simp only [Act.put]
    refine wpAnyH_take (i := 5) (v := ?_) rfl (by kernel_rfl) (by kernel_rfl) (by kernel_rfl) (fun _ _ _ h => h) (Or.inl ⟨by rfl, ?_⟩) (by assumption) ?_
    rotate_left
    focus (intro w hSw; (try dsimp only at hSw); go_simp; try with_reducible rfl)
    simp only [Act.put]
    refine wpAnyH_take (i := 6) (v := ?_) rfl (by kernel_rfl) (by kernel_rfl) (by kernel_rfl) (fun _ _ _ h => h) (Or.inl ⟨by rfl, ?_⟩) (by assumption) ?_
    rotate_left
    focus (intro w hSw; (try dsimp only at hSw); go_simp; try with_reducible rfl)
    simp only [Act.put]
    refine wpAnyH_take (i := 7) (v := ?_) rfl (by kernel_rfl) (by kernel_rfl) (by kernel_rfl) (fun _ _ _ h => h) (Or.inl ⟨by rfl, ?_⟩) (by assumption) ?_
    rotate_left
    focus (intro w hSw; (try dsimp only at hSw); go_simp; try with_reducible rfl)
    simp only [Act.put]
    refine wpAnyH_take (i := 8) (v := ?_) rfl (by kernel_rfl) (by kernel_rfl) (by kernel_rfl) (fun _ _ _ h => h) (Or.inl ⟨by rfl, ?_⟩) (by assumption) ?_
    rotate_left
    focus (intro w hSw; (try dsimp only at hSw); go_simp; try with_reducible rfl)
    simp only [Act.put]
    refine wpAnyH_ready (rs := [9]) (by kernel_rfl) (by simp) ?_
    refine AllReadyH.cons rfl (fun K hK => ?_) AllReadyH.nil
    go_simp
    refine hK.out _ _ ?_ (fun hHeld => ?_)
    · exact HSG.out _ (fun q hq => heap_set (by simp; omega))
    clear hK K
    try simp only [Act.put]
    refine wpAnyH_ready (rs := [10]) (by kernel_rfl) (by simp) ?_
    refine AllReadyH.cons rfl (fun K hK => ?_) AllReadyH.nil
    go_simp
    refine hK.out _ _ ?_ (fun hHeld => ?_)
    · exact HSG.out _ (fun q hq => heap_set (by simp; omega))
    clear hK K
    try simp only [Act.put]
    refine wpAnyH_ready (rs := [11]) (by kernel_rfl) (by simp) ?_
    refine AllReadyH.cons rfl (fun K hK => ?_) AllReadyH.nil
    go_simp
    refine hK.out _ _ ?_ (fun hHeld => ?_)
    · exact HSG.out _ (fun q hq => heap_set (by simp; omega))
    clear hK K
    try simp only [Act.put]
    refine wpAnyH_done (by kernel_rfl) ?_ _
    obtain ⟨F1, F2⟩ := HFIN.out w5.drew (HM5.out.more (Below.refl _ w5).drew) (fun _ _ => rfl)
    have K1 := Lib.hid F1
    have K2 := Lib.hid F2
    clear F1 F2
    go_wp2_with fail
    exact bodyPost_ret (res_cell3 Try.results30 rfl K1.out) rfl K2.out
end Go.Proofs.Ytmocdokikcbjeaa
