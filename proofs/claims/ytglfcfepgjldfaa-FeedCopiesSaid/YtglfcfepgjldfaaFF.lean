import Derived.Test.YtglfcfepgjldfaaFD
namespace Go.Proofs.Ytglfcfepgjldfaa.Fe
open Go.RowKit Go.Shelf
attribute [local go_sem] Oper.semAt_some

/- A CALL BY BOTH: BYTES ARE TAKEN, AND SPOILT BEHIND. -/
structure TM (Has : HasT) (w : World) (F : Nat → Prop) (v : Value) (l : List UInt8) (p q : Nat) (what n : Int) (B g : Nat) (t : List UInt8) (A : Option Addr) (V : World) : Prop where
  am : AM Has w F v l p q what n V
  bx : Row V B 28 (fc l q)
  row : t ≠ [] → ∃ us, A = some ⟨g, 0, none⟩ ∧ Row V g 5 us ∧ ∀ j, j < t.length → ∃ z, us[j]? = some (.int .u8 z)
  hb : w.heap.size + 3 ≤ B
  hg : B < g
theorem TM.set {Has : HasT} (H : Api Has) {w V : World} {F : Nat → Prop} {v : Value} {l : List UInt8} {p q : Nat} {what n : Int} {B g : Nat} {t : List UInt8} {A : Option Addr} (h : TM Has w F v l p q what n B g t A V) (j : Nat) (z : Int) :
    TM Has w F v l p q what n B g t A (V.setCell ⟨g, j, none⟩ (.int .u8 z)) := by
  have hb := h.hb
  have hg := h.hg
  refine ⟨⟨H.keep h.am.has (fun k hk => heap_set (by have := h.am.fl k hk; omega)), h.am.keep.set _ (.inr (by omega)), h.am.box.same (heap_set (by omega)), h.am.act.same (heap_set (by omega)), h.am.res.same (heap_set (by omega)), h.am.fl⟩, h.bx.same (heap_set (by omega)), fun hn => ?_, hb, hg⟩
  obtain ⟨us, h1, h2, h3⟩ := h.row hn
  refine ⟨us.set j (.int .u8 z), h1, h2.set j _, fun i hi => ?_⟩
  obtain ⟨y, hy⟩ := h3 i hi
  by_cases hij : j = i
  · subst hij
    have := (List.getElem?_eq_some_iff.1 hy).1
    exact ⟨z, by simp [this]⟩
  · exact ⟨y, by rw [List.getElem?_set_ne hij]; exact hy⟩
set_option maxRecDepth 100000 in
set_option maxHeartbeats 8000000 in
theorem act_take_gen {Has : HasT} (H : Api Has) (v : Value) (l : List UInt8) (p q : Nat) (t : List UInt8) (E : Int) (F : Nat → Prop) (n : Int) (w : World) (h : Has w v l p F) (htl : t.length ≤ 4611686018427387904)
    (hR : ∀ w, Calls Try.prog 23 #[fv l p, .int .i64 n] w fun e w' => e = .returned (.tuple #[fv l q, .string (str t), .int .i64 E]) ∧ Below w.heap.size w w')
    (hP : ∀ V, Has V v l p F → Calls Try.prog 14 #[v, .int .i64 n] V fun e w' => ∃ A c, e = .returned (.tuple #[.slice A t.length c, .int .i64 E]) ∧ Nx Has V v l q F w' ∧ (t ≠ [] → ∃ g rest, V.heap.size ≤ g ∧ A = some ⟨g, 0, none⟩ ∧ Row w' g 5 (byt t ++ rest))) :
    Calls Try.prog 8 #[v, fv l p, .agg #[.int .i64 2, .int .i64 n]] w (ActP Has w F l q) := by
  have hn := Lib.hid (fun n w => num_any n w)
  have HR := Lib.hid hR
  have HP := Lib.hid hP
  obtain ⟨W0, hW0⟩ : ∃ W0, W0 = ((w.alloc (.cells #[.string (str l), .int .i64 (p : Int)] 28)).alloc (.cells #[.int .i64 2, .int .i64 n] 32)).alloc (.cells #[.string { data := #[] }, .int .i64 0] 28) := ⟨_, rfl⟩
  have hM : AM Has w F v l p p 2 n W0 := by rw [hW0]; exact AM.start H h
  have HM := Lib.hid hM
  have HW0 := Lib.hid hW0
  have HTL := Lib.hid htl
  clear hW0 hM h hR hP htl
  go_enter Try.func8, Try.ntmps8
  go_wp2_with fail
  rw [← HW0.out]
  refine (HR.out _).mono ?_
  rintro e W1 ⟨rfl, hb1⟩
  have HM1 := Lib.hid (AM.more H HM.out hb1)
  have HM2 := Lib.hid (AM.more H HM1.out (below1 W1 (.cells #[.string (str l), .int .i64 (q : Int)] 28)))
  have a1 : (W1.alloc (.cells #[.string (str l), .int .i64 (q : Int)] 28)).cell? ⟨w.heap.size + 1, 1, none⟩ = some (.int .i64 n) := HM2.out.act.cell 1
  have HS1 := Lib.hid (show w.heap.size + 3 ≤ W1.heap.size by have := HM1.out.res.lt; omega)
  clear hb1
  go_wp2_with fail
  refine (HP.out _ HM2.out.has).mono ?_
  rintro e W3 ⟨A, c, rfl, hn3, hrow⟩
  obtain ⟨B, hB⟩ : ∃ B, B = W1.heap.size := ⟨_, rfl⟩
  have hbx : Row W3 W1.heap.size 28 (fc l q) := hn3.2.row (Row.new W1 _ (fc l q)) (fun hf => by have := HM2.out.fl _ hf; have := HS1.out; omega)
  have hsees : Sees W3 W3.heap.size A (byt t) := fun hne => by
    obtain ⟨g, rest, h1, h2, h3⟩ := hrow (fun e => hne (by rw [e]; rfl))
    have := (h3.sees).take (byt t).length
    rw [List.take_left] at this
    rw [h2]
    exact this hne
  have hcv : ∀ X : World, X.heap = W3.heap → (convert 22 9 (.slice A t.length c)).run Try.prog X = .ok (.string (str t)) X := fun X hX => run_conv_sees X Try.underlying22 Try.underlying5 Try.underlying9 (B := W3.heap.size) rfl (hsees.keep fun a _ => by simp only [World.cell?, hX])
  have hcv0 := hcv W3 rfl
  obtain ⟨g, HTM⟩ : ∃ g, Hid (TM Has w F v l p q 2 n B g t A W3) := by
    have hs := HS1.out
    have ham := AM.step HM2.out hn3
    by_cases ht : t = []
    · exact ⟨B + 1, ⟨ham, by rw [hB]; exact hbx, fun hne => absurd ht hne, by omega, by omega⟩⟩
    · obtain ⟨g, rest, h1, h2, h3⟩ := hrow ht
      rw [World.size_alloc] at h1
      refine ⟨g, ⟨ham, by rw [hB]; exact hbx, fun _ => ⟨_, h2, h3, fun j hj => ⟨(t[j].toNat : Int), ?_⟩⟩, by omega, by omega⟩⟩
      rw [List.getElem?_append_left (by rw [byt_length]; exact hj)]
      exact byt_get hj
  clear hn3 hrow hbx hsees hcv a1
  rw [← hB]
  clear hB
  obtain ⟨m, hm⟩ : ∃ m, m = t.length := ⟨_, rfl⟩
  rw [← hm] at hcv0 HTL
  rw [← hm]
  have HMM := Lib.hid hm
  obtain ⟨S, hS⟩ : ∃ S, S = str t := ⟨_, rfl⟩
  rw [← hS] at hcv0
  rw [← hS]
  have hss : (S.toList == S.toList) = true := by simp
  have hee : (E == E) = true := by simp
  clear hm hS
  go_wp2_with (go_at_call 15; refine (hn.out _ _).mono ?_; rintro e u0 ⟨rfl, rfl⟩)
  go_loopw [24] (fun s24 wr => ∃ i : Nat, s24 = .int .i64 (i : Int) ∧ i ≤ m ∧ Hid (TM Has w F v l p q 2 n B g t A wr)) (fun s24 _ => m - (_root_.Go.RowKit.intOf s24).toNat)
  case atStart => exact ⟨0, rfl, Nat.zero_le _, HTM⟩
  case round =>
    obtain ⟨i, rfl, hi, P⟩ := hrel
    by_cases hlt : i < m
    · have hit : i < t.length := by rw [← HMM.out]; exact hlt
      have htn : t ≠ [] := fun e => by rw [e] at hit; simp at hit
      obtain ⟨us, rfl, hrow, hus⟩ := P.out.row htn
      obtain ⟨z, hz⟩ := hus i hit
      have cz : wr.cell? ⟨g, i, none⟩ = some (.int .u8 z) := (hrow.cell i).trans hz
      have fz : wr.frozen? ⟨g, i, none⟩ = false := hrow.frozen i
      have j0 : (0 : Int) ≤ (i : Int) := by omega
      have j1 : (i : Int) < (m : Int) := by omega
      have j2 : decide ((i : Int) < (m : Int)) = true := decide_eq_true j1
      have e1 : IntKind.i64.wrap ((i : Int) + 1) = ((i + 1 : Nat) : Int) := by have := HTL.out; rw [wrapI _ (by omega) (by omega)]; omega
      have HP2 := Lib.hid (fun z => TM.set H P.out i z)
      clear hit htn hrow hus hz P
      go_wp2_with fail
      go_roundw
      case rel => exact ⟨i + 1, by go_num, by omega, Lib.hid (HP2.out _)⟩
      case measure => simp [_root_.Go.RowKit.intOf]; omega
    · obtain rfl : i = m := by omega
      have j2 : decide ((i : Int) < (i : Int)) = false := decide_eq_false (by omega)
      obtain ⟨V, hV⟩ : ∃ x : World, x = wr := ⟨_, rfl⟩
      subst hV
      have b0 : V.cell? ⟨B, 0, none⟩ = some (.string (str l)) := P.out.bx.cell 0
      have b1 : V.cell? ⟨B, 1, none⟩ = some (.int .i64 (q : Int)) := P.out.bx.cell 1
      have c0 : V.cell? ⟨w.heap.size + 1 + 1, 0, none⟩ = some (.string (str [])) := P.out.am.res.cell 0
      have c1 : V.cell? ⟨w.heap.size + 1 + 1, 1, none⟩ = some (.int .i64 0) := P.out.am.res.cell 1
      have f0 : V.frozen? ⟨w.heap.size + 1 + 1, 0, none⟩ = false := P.out.am.res.frozen 0
      have f1 : V.frozen? ⟨w.heap.size + 1 + 1, 1, none⟩ = false := P.out.am.res.frozen 1
      have hlt1 : w.heap.size + 1 + 1 < V.heap.size := P.out.am.res.lt
      have HBZ := Lib.hid (show ((V.drew.setCell ⟨w.heap.size + 1 + 1, 0, none⟩ (.string (str l))).setCell ⟨w.heap.size + 1 + 1, 1, none⟩ (.int .i64 (q : Int))).cell? ⟨B, 0, none⟩ = some (.string (str l)) ∧ ((V.drew.setCell ⟨w.heap.size + 1 + 1, 0, none⟩ (.string (str l))).setCell ⟨w.heap.size + 1 + 1, 1, none⟩ (.int .i64 (q : Int))).cell? ⟨B, 1, none⟩ = some (.int .i64 (q : Int)) from by
        have hd : Row V.drew B 28 (fc l q) := P.out.bx
        have hbb := P.out.hb
        have hz : Row ((V.drew.setCell ⟨w.heap.size + 1 + 1, 0, none⟩ (.string (str l))).setCell ⟨w.heap.size + 1 + 1, 1, none⟩ (.int .i64 (q : Int))) B 28 (fc l q) := hd.same ((heap_set (by omega)).trans (heap_set (by omega)))
        exact ⟨hz.cell 0, hz.cell 1⟩)
      clear hcv0 hlt hi
      go_wp2_with fail
      refine wp_region_noPanic ?_
      refine wp_region_held_drew (S := fun W => W.cell? ⟨B, 0, none⟩ = some (.string (str l)) ∧ W.cell? ⟨B, 1, none⟩ = some (.int .i64 (q : Int))) (by kernel_rfl) ?_ (fun hHeld => ?_)
      · exact ⟨b0, b1⟩
      refine wpAnyH_take (i := 0) (v := ?_) rfl (by kernel_rfl) (by kernel_rfl) (by kernel_rfl) (fun _ _ _ h => h) (Or.inl ⟨by kernel_rfl, ?_⟩) hHeld ?_
      rotate_left
      focus (intro w hSw; (try dsimp only at hSw); go_simp; try with_reducible rfl)
      try simp only [Act.put]
      refine wpAnyH_take (i := 1) (v := ?_) rfl (by kernel_rfl) (by kernel_rfl) (by kernel_rfl) (fun _ _ _ h => h) (Or.inl ⟨by kernel_rfl, ?_⟩) hHeld ?_
      rotate_left
      focus (intro w hSw; (try dsimp only at hSw); go_simp; try with_reducible rfl)
      try simp only [Act.put]
      refine wpAnyH_take (i := 2) (v := ?_) rfl (by kernel_rfl) (by kernel_rfl) (by kernel_rfl) (fun _ _ _ h => h) (Or.inl ⟨by kernel_rfl, ?_⟩) hHeld ?_
      rotate_left
      focus (intro w hSw; (try dsimp only at hSw); go_simp; try with_reducible rfl)
      try simp only [Act.put]
      refine wpAnyH_take (i := 3) (v := ?_) rfl (by kernel_rfl) (by kernel_rfl) (by kernel_rfl) (fun _ _ _ h => h) (Or.inl ⟨by kernel_rfl, ?_⟩) hHeld ?_
      rotate_left
      focus (intro w hSw; (try dsimp only at hSw); go_simp; try with_reducible rfl)
      try simp only [Act.put]
      refine wpAnyH_ready (rs := [4]) (by kernel_rfl) (by simp) ?_
      refine AllReadyH.cons rfl (fun K hK => ?_) (AllReadyH.nil)
      go_simp
      refine hK.out _ _ ?_ (fun hHeld => ?_)
      · exact HBZ.out
      clear hK K
      try simp only [Act.put]
      refine wpAnyH_ready (rs := [5]) (by kernel_rfl) (by simp) ?_
      refine AllReadyH.cons rfl (fun K hK => ?_) (AllReadyH.nil)
      go_simp
      refine hK.out _ _ ?_ (fun hHeld => ?_)
      · exact HBZ.out
      clear hK K
      try simp only [Act.put]
      refine wpAnyH_done (by kernel_rfl) ?_ _
      refine NoPanic.normal ?_
      go_wp2_with fail
      obtain ⟨Z, hZ⟩ : ∃ Z, Z = ((V.setCell ⟨w.heap.size + 1 + 1, 0, none⟩ (.string (str l))).setCell ⟨w.heap.size + 1 + 1, 1, none⟩ (.int .i64 (q : Int))).drew := ⟨_, rfl⟩
      have k : Has Z v l q F ∧ Keep F w Z ∧ Z.cell? ⟨w.heap.size + 1 + 1, 0, none⟩ = some (.string (str l)) ∧ Z.cell? ⟨w.heap.size + 1 + 1, 1, none⟩ = some (.int .i64 (q : Int)) := by
        rw [hZ]
        exact AM.fin H (q := q) P.out.am ((V.setCell ⟨w.heap.size + 1 + 1, 0, none⟩ (.string (str l))).setCell ⟨w.heap.size + 1 + 1, 1, none⟩ (.int .i64 (q : Int))).drew rfl rfl rfl rfl
      rw [← hZ]
      obtain ⟨z1, z2, k0, k1⟩ := k
      exact bodyPost_ret (v := .tuple #[v, fv l q, .bool true]) (by simp [results, Try.results8, go_sem, k0, k1]) rfl ⟨v, F, rfl, z1, z2, fun _ hk => .inl hk⟩
theorem act_take {Has : HasT} (H : Api Has) (v : Value) (l : List UInt8) (p : Nat) (F : Nat → Prop) (n : Int) (w : World) (h : Has w v l p F) (hf : i64 n) :
    Calls Try.prog 8 #[v, fv l p, .agg #[.int .i64 2, .int .i64 n]] w (ActP Has w F l (if n < 0 then p else p + min n.toNat (l.length - p))) := by
  have hsm := H.sm h
  by_cases h0 : n < 0
  · rw [if_pos h0]
    exact act_take_gen H v l p p [] 2 F n w h (by simp) (fun w => rtake_no l p n h0 w) (fun V hV => (H.takeNo n hV hf h0).mono fun e w' ⟨A, c, e1, e2⟩ => ⟨A, c, e1, e2, fun hne => absurd rfl hne⟩)
  · rw [if_neg h0]
    obtain ⟨m, rfl⟩ : ∃ m : Nat, n = m := ⟨n.toNat, by omega⟩
    rw [Int.toNat_natCast]
    have hm : m ≤ 9223372036854775807 := by have := hf.2; omega
    have hll := hsm.2
    exact act_take_gen H v l p _ _ 0 F m w h (by simp only [List.length_take, List.length_drop]; omega) (fun w => rtake_ok l p m hsm hm w) (fun V hV => (H.take m hV hm).mono fun e w' ⟨A, c, e1, e2, e3⟩ => ⟨A, c, e1, e2, e3⟩)
end Go.Proofs.Ytglfcfepgjldfaa.Fe
