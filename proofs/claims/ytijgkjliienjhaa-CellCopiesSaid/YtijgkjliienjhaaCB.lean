import Derived.Test.YtijgkjliienjhaaCA
namespace Go.Proofs.Ytijgkjliienjhaa
open Go.RowKit Go.Shelf
attribute [local go_sem] Oper.semAt_some

/- NEW; WHAT IS ASKED OF A CELL. -/
theorem one_info : (Try.prog.info? 70).map (fun i => (i.zero, i.size, i.bytes)) = some (some (.agg #[.int .u64 0, .int .i64 0]), 2, 16) := by kernel_rfl
theorem cell_info : (Try.prog.info? 82).map (fun i => (i.zero, i.size, i.bytes)) = some (some (.agg #[.int .u64 0, .int .i64 0]), 2, 16) := by kernel_rfl
def zeros (n : Nat) : Cs := List.replicate n (0, 0)
theorem zeros_len (n : Nat) : (zeros n).length = n := List.length_replicate
theorem zeros_ok {n : Nat} (h : n ≤ 1024) : Ok 0 (zeros n) := ⟨by rw [zeros_len]; exact h, fun x hx => by rw [List.eq_of_mem_replicate hx]; simp⟩
theorem made_two (c : Nat) : madeCells (Value.agg #[.int .u64 0, .int .i64 0]).cells (c * 2) = (cls (zeros c)).toArray := by
  have hc : (Value.agg #[.int .u64 0, .int .i64 0]).cells = #[.int .u64 0, .int .i64 0] := rfl
  rw [hc]
  apply Array.ext
  · rw [size_madeCells, List.size_toArray, cls_len, zeros_len]
  · intro i h1 h2
    rw [List.size_toArray, cls_len, zeros_len] at h2
    have hk : i / 2 < (zeros c).length := by rw [zeros_len]; omega
    obtain ⟨g0, g1⟩ := cls_get (zeros c) (i / 2) hk
    have hz : (zeros c)[i / 2] = (0, 0) := List.eq_of_mem_replicate (List.getElem_mem hk)
    rw [hz] at g0 g1
    have e0 : ∀ h, (cls (zeros c)).toArray[i]'h = (cls (zeros c))[i]'(by simpa using h) := fun h => by simp
    rw [e0]
    rcases (show i % 2 = 0 ∨ i % 2 = 1 by omega) with h | h
    · rw [show i / 2 * 2 = i by omega] at g0
      rw [(List.getElem?_eq_some_iff.1 g0).2]
      simp [madeCells, h]
    · rw [show i / 2 * 2 + 1 = i by omega] at g1
      rw [(List.getElem?_eq_some_iff.1 g1).2]
      simp [madeCells, h]
theorem make_two {P : Program} {t e : TypeId} {i : TypeInfo} {z : Value} (ht : P.underlying t = some (.slice e)) (hi : P.info? e = some i) (hz : i.zero = some z) (hs : i.size = 2) (hz2 : z = .agg #[.int .u64 0, .int .i64 0])
    (n : Nat) (hby : i.bytes * n ≤ 281474976710656) (h63 : n ≤ 9223372036854775807) (w : World) :
    (Instr.makeSlice t (.int .i64 (n : Int)) (.int .i64 (n : Int))).run P w = .ok (.slice (some ⟨w.heap.size, 0, none⟩) n n) (w.alloc (.cells (cls (zeros n)).toArray e)) := by
  have hl : (i.bytes : Int) * (n : Int) ≤ 281474976710656 := by rw [← Int.natCast_mul]; omega
  have hm := run_make (P := P) w t e i z ht hi hz .i64 .i64 n n (by omega) (by omega) hl (by omega)
  subst hz2
  rw [Int.toNat_natCast, hs, show madeCells (Value.agg #[.int .u64 0, .int .i64 0]).cells (n * 2) = _ from made_two n] at hm
  exact hm
theorem new_no (z : Int) (w : World) (h : z < 0 ∨ 1024 < z) : Calls Try.prog 7 #[.int .i64 z] w fun e w' => e = .returned (.tuple #[.pointer none, .int .i64 2]) ∧ w = w' := by
  by_cases h0 : z < 0
  · have h1 : decide (z < 0) = true := decide_eq_true h0
    clear h
    go_enter Try.func7, Try.ntmps7
    go_wp2_with fail
    refine wp_scope_jump 1 fun R hR hJm => ?_
    go_wp2_with fail
    refine wp_goto (hJm.out _ _ _ _ _ rfl ?_)
    go_wp2_with fail
    refine hR.out _ _ _ _ (by simp) ?_
    go_ret2
    exact ⟨rfl, rfl⟩
  · have h1 : decide (z < 0) = false := decide_eq_false h0
    have h2 : decide (1024 < z) = true := decide_eq_true (by omega)
    clear h h0
    go_enter Try.func7, Try.ntmps7
    go_wp2_with fail
    refine wp_scope_jump 1 fun R hR hJm => ?_
    go_wp2_with fail
    refine wp_goto (hJm.out _ _ _ _ _ rfl ?_)
    go_wp2_with fail
    refine hR.out _ _ _ _ (by simp) ?_
    go_ret2
    exact ⟨rfl, rfl⟩
def NewP (w : World) (l : Cs) (e : Ending) (w' : World) : Prop :=
  ∃ b g c, e = .returned (.tuple #[bx b, .int .i64 0]) ∧ w.heap.size ≤ b ∧ w.heap.size ≤ g ∧ Rep w' b g c l ∧ Below w.heap.size w w'
theorem rep_new (w : World) (n : Nat) : Rep ((w.alloc (.cells (cls (zeros n)).toArray 70)).alloc (.cells #[.slice (some ⟨w.heap.size, 0, none⟩) n n] 34)) (w.heap.size + 1) w.heap.size n (zeros n) := by
  refine ⟨?_, [], ?_⟩
  · rw [zeros_len]
    exact Row.new_at _ _ [.slice (some ⟨w.heap.size, 0, none⟩) n n] (by simp)
  · rw [List.append_nil]
    exact (Row.new w 70 (cls (zeros n))).below (below1 _ _)
theorem new_ok (n : Nat) (w : World) (h : n ≤ 1024) : Calls Try.prog 7 #[.int .i64 (n : Int)] w (NewP w (zeros n)) := by
  obtain ⟨i0, hi, hz0, hz1, hz2⟩ := info_parts one_info
  have hmk := make_two (P := Try.prog) Try.underlying32 hi hz0 hz1 rfl n (by rw [hz2]; omega) (by omega) w
  have hfin := Lib.hid (rep_new w n)
  have h1 : decide ((n : Int) < 0) = false := decide_eq_false (by omega)
  have h2 : decide ((1024 : Int) < (n : Int)) = false := decide_eq_false (by omega)
  obtain ⟨zs, hzs⟩ : ∃ zs, zs = (cls (zeros n)).toArray := ⟨_, rfl⟩
  obtain ⟨L, hL⟩ : ∃ L, L = zeros n := ⟨_, rfl⟩
  rw [← hzs] at hmk hfin
  rw [← hL] at hfin ⊢
  clear hzs hL hi hz0 hz1 hz2
  go_enter Try.func7, Try.ntmps7
  go_wp2_with fail
  refine wp_scope_jump 1 fun R hR hJm => ?_
  go_wp2_with fail
  refine hR.out _ _ _ _ (by simp) ?_
  go_ret2
  exact ⟨_, _, _, rfl, by simp, Nat.le_refl _, hfin.out, below2 _ _ _⟩
theorem rnew_no (z : Int) (w : World) (h : z < 0 ∨ 1024 < z) : Calls Try.prog 8 #[.int .i64 z] w fun e w' => e = .returned (.tuple #[.slice none 0 0, .int .i64 2]) ∧ w = w' := by
  by_cases h0 : z < 0
  · have h1 : decide (z < 0) = true := decide_eq_true h0
    clear h
    go_enter Try.func8, Try.ntmps8
    go_wp2_with fail
    go_ret2
    exact ⟨rfl, rfl⟩
  · have h1 : decide (z < 0) = false := decide_eq_false h0
    have h2 : decide (1024 < z) = true := decide_eq_true (by omega)
    clear h h0
    go_enter Try.func8, Try.ntmps8
    go_wp2_with fail
    go_ret2
    exact ⟨rfl, rfl⟩
/-- the document's list: a slice of so many cells -/
def Wt (w : World) (v : Value) (g : Nat) (l : Cs) : Prop := ∃ c, v = .slice (some ⟨g, 0, none⟩) l.length c ∧ Lst 82 w g l
theorem Wt.below {w w' : World} {v : Value} {g : Nat} {l : Cs} (h : Wt w v g l) (hb : Below w.heap.size w w') : Wt w' v g l := by
  obtain ⟨c, h1, h2⟩ := h
  exact ⟨c, h1, h2.below hb⟩
theorem rnew_ok (n : Nat) (w : World) (h : n ≤ 1024) : Calls Try.prog 8 #[.int .i64 (n : Int)] w fun e w' => ∃ v g, e = .returned (.tuple #[v, .int .i64 0]) ∧ w.heap.size ≤ g ∧ Wt w' v g (zeros n) ∧ Below w.heap.size w w' := by
  obtain ⟨i0, hi, hz0, hz1, hz2⟩ := info_parts cell_info
  have hmk := make_two (P := Try.prog) Try.underlying28 hi hz0 hz1 rfl n (by rw [hz2]; omega) (by omega) w
  have hfin := Lib.hid (show Wt (w.alloc (.cells (cls (zeros n)).toArray 82)) (.slice (some ⟨w.heap.size, 0, none⟩) n n) w.heap.size (zeros n) from ⟨n, by rw [zeros_len], [], by rw [List.append_nil]; exact Row.new _ _ _⟩)
  have h1 : decide ((n : Int) < 0) = false := decide_eq_false (by omega)
  have h2 : decide ((1024 : Int) < (n : Int)) = false := decide_eq_false (by omega)
  obtain ⟨zs, hzs⟩ : ∃ zs, zs = (cls (zeros n)).toArray := ⟨_, rfl⟩
  obtain ⟨L, hL⟩ : ∃ L, L = zeros n := ⟨_, rfl⟩
  rw [← hzs] at hmk hfin
  rw [← hL] at hfin ⊢
  clear hzs hL hi hz0 hz1 hz2
  go_enter Try.func8, Try.ntmps8
  go_wp2_with fail
  go_ret2
  exact ⟨_, _, rfl, Nat.le_refl _, hfin.out, below1 _ _⟩

theorem asked_non_u (v : Value) (z : Int) (q : Value) (w : World) (h : Non w v) : Calls Try.prog 24 #[v, .int .i64 z, q] w fun e w' => e = .returned (.tuple #[.int .u64 0, .int .i64 1]) ∧ w = w' := by
  have h1 := Lib.hid (there_non v w h)
  obtain ⟨pv, rfl⟩ := h.ptr
  clear h
  go_enter Try.func24, Try.ntmps24
  go_wp2_with fail
  refine wp_scope_jump 1 fun R hR hJm => ?_
  go_wp2_with fail
  refine h1.out.mono ?_
  rintro e w1 ⟨rfl, rfl⟩
  go_wp2_with fail
  refine wp_goto (hJm.out _ _ _ _ _ rfl ?_)
  go_wp2_with fail
  refine hR.out _ _ _ _ (by simp) ?_
  go_ret2
  exact ⟨rfl, rfl⟩
theorem asked_out_u (b g c : Nat) (l : Cs) (z : Int) (q : Value) (w : World) (h : Rep w b g c l) (hz : z < 0 ∨ (l.length : Int) ≤ z) : Calls Try.prog 24 #[bx b, .int .i64 z, q] w fun e w' => e = .returned (.tuple #[.int .u64 0, .int .i64 4]) ∧ w = w' := by
  have hc := h.cel
  have h1 := Lib.hid (there_at b _ _ _ w hc)
  have h2 := Lib.hid (holds_out (some ⟨g, 0, none⟩) l.length c z w hz)
  obtain ⟨n, hn⟩ : ∃ n, n = l.length := ⟨_, rfl⟩
  rw [← hn] at hc h2
  clear h hz hn
  go_enter Try.func24, Try.ntmps24
  go_wp2_with fail
  refine wp_scope_jump 1 fun R hR hJm => ?_
  go_wp2_with fail
  refine h1.out.mono ?_
  rintro e w1 ⟨rfl, rfl⟩
  go_wp2_with fail
  refine h2.out.mono ?_
  rintro e w1 ⟨rfl, rfl⟩
  go_wp2_with fail
  refine wp_goto (hJm.out _ _ _ _ _ rfl ?_)
  go_wp2_with fail
  refine hR.out _ _ _ _ (by simp) ?_
  go_ret2
  exact ⟨rfl, rfl⟩
theorem asked_in_u {Q : World → Prop} {v : Value} (cf : FuncId) (caps : Array Value) (b g c k : Nat) (l : Cs) (w : World) (h : Rep w b g c l) (hk : k < l.length) (hent : ∀ args V, (callFunc cf args).run Try.prog V = .ok (.enter cf args) V)
    (HC : Calls Try.prog cf (#[.pointer (some ⟨g, k * 2, none⟩)] ++ caps) w fun e w' => e = .returned v ∧ Q w') :
    Calls Try.prog 24 #[bx b, .int .i64 (k : Int), .func (.func cf) #[] caps] w fun e w' => e = .returned (.tuple #[v, .int .i64 0]) ∧ Q w' := by
  have hc := h.cel
  have h1 := Lib.hid (there_at b _ _ _ w hc)
  have h2 := Lib.hid (holds_in (some ⟨g, 0, none⟩) l.length c k w hk)
  have H := Lib.hid HC
  obtain ⟨n, hn⟩ : ∃ n, n = l.length := ⟨_, rfl⟩
  rw [← hn] at hc h2 hk
  have i0 : (0 : Int) ≤ (k : Int) := by omega
  have i1 : (k : Int) < (n : Int) := by omega
  clear h hn HC
  go_enter Try.func24, Try.ntmps24
  go_wp2_with fail
  refine wp_scope_jump 1 fun R hR hJm => ?_
  go_wp2_with fail
  refine h1.out.mono ?_
  rintro e w1 ⟨rfl, rfl⟩
  go_wp2_with fail
  refine h2.out.mono ?_
  rintro e w1 ⟨rfl, rfl⟩
  go_wp2_with fail
  refine H.out.mono ?_
  rintro e w1 ⟨rfl, hQ⟩
  have HQ := Lib.hid hQ
  clear hQ hc H
  go_wp2_with fail
  refine hR.out _ _ _ _ (by simp) ?_
  go_ret2
  exact ⟨rfl, HQ.out⟩

theorem asked_non_b (v : Value) (z : Int) (q : Value) (w : World) (h : Non w v) : Calls Try.prog 26 #[v, .int .i64 z, q] w fun e w' => e = .returned (.tuple #[.bool false, .int .i64 1]) ∧ w = w' := by
  have h1 := Lib.hid (there_non v w h)
  obtain ⟨pv, rfl⟩ := h.ptr
  clear h
  go_enter Try.func26, Try.ntmps26
  go_wp2_with fail
  refine wp_scope_jump 1 fun R hR hJm => ?_
  go_wp2_with fail
  refine h1.out.mono ?_
  rintro e w1 ⟨rfl, rfl⟩
  go_wp2_with fail
  refine wp_goto (hJm.out _ _ _ _ _ rfl ?_)
  go_wp2_with fail
  refine hR.out _ _ _ _ (by simp) ?_
  go_ret2
  exact ⟨rfl, rfl⟩
theorem asked_out_b (b g c : Nat) (l : Cs) (z : Int) (q : Value) (w : World) (h : Rep w b g c l) (hz : z < 0 ∨ (l.length : Int) ≤ z) : Calls Try.prog 26 #[bx b, .int .i64 z, q] w fun e w' => e = .returned (.tuple #[.bool false, .int .i64 4]) ∧ w = w' := by
  have hc := h.cel
  have h1 := Lib.hid (there_at b _ _ _ w hc)
  have h2 := Lib.hid (holds_out (some ⟨g, 0, none⟩) l.length c z w hz)
  obtain ⟨n, hn⟩ : ∃ n, n = l.length := ⟨_, rfl⟩
  rw [← hn] at hc h2
  clear h hz hn
  go_enter Try.func26, Try.ntmps26
  go_wp2_with fail
  refine wp_scope_jump 1 fun R hR hJm => ?_
  go_wp2_with fail
  refine h1.out.mono ?_
  rintro e w1 ⟨rfl, rfl⟩
  go_wp2_with fail
  refine h2.out.mono ?_
  rintro e w1 ⟨rfl, rfl⟩
  go_wp2_with fail
  refine wp_goto (hJm.out _ _ _ _ _ rfl ?_)
  go_wp2_with fail
  refine hR.out _ _ _ _ (by simp) ?_
  go_ret2
  exact ⟨rfl, rfl⟩
theorem asked_in_b {Q : World → Prop} {v : Value} (cf : FuncId) (caps : Array Value) (b g c k : Nat) (l : Cs) (w : World) (h : Rep w b g c l) (hk : k < l.length) (hent : ∀ args V, (callFunc cf args).run Try.prog V = .ok (.enter cf args) V)
    (HC : Calls Try.prog cf (#[.pointer (some ⟨g, k * 2, none⟩)] ++ caps) w fun e w' => e = .returned v ∧ Q w') :
    Calls Try.prog 26 #[bx b, .int .i64 (k : Int), .func (.func cf) #[] caps] w fun e w' => e = .returned (.tuple #[v, .int .i64 0]) ∧ Q w' := by
  have hc := h.cel
  have h1 := Lib.hid (there_at b _ _ _ w hc)
  have h2 := Lib.hid (holds_in (some ⟨g, 0, none⟩) l.length c k w hk)
  have H := Lib.hid HC
  obtain ⟨n, hn⟩ : ∃ n, n = l.length := ⟨_, rfl⟩
  rw [← hn] at hc h2 hk
  have i0 : (0 : Int) ≤ (k : Int) := by omega
  have i1 : (k : Int) < (n : Int) := by omega
  clear h hn HC
  go_enter Try.func26, Try.ntmps26
  go_wp2_with fail
  refine wp_scope_jump 1 fun R hR hJm => ?_
  go_wp2_with fail
  refine h1.out.mono ?_
  rintro e w1 ⟨rfl, rfl⟩
  go_wp2_with fail
  refine h2.out.mono ?_
  rintro e w1 ⟨rfl, rfl⟩
  go_wp2_with fail
  refine H.out.mono ?_
  rintro e w1 ⟨rfl, hQ⟩
  have HQ := Lib.hid hQ
  clear hQ hc H
  go_wp2_with fail
  refine hR.out _ _ _ _ (by simp) ?_
  go_ret2
  exact ⟨rfl, HQ.out⟩

theorem asked_non_i (v : Value) (z : Int) (q : Value) (w : World) (h : Non w v) : Calls Try.prog 29 #[v, .int .i64 z, q] w fun e w' => e = .returned (.tuple #[.int .i64 0, .int .i64 1]) ∧ w = w' := by
  have h1 := Lib.hid (there_non v w h)
  obtain ⟨pv, rfl⟩ := h.ptr
  clear h
  go_enter Try.func29, Try.ntmps29
  go_wp2_with fail
  refine wp_scope_jump 1 fun R hR hJm => ?_
  go_wp2_with fail
  refine h1.out.mono ?_
  rintro e w1 ⟨rfl, rfl⟩
  go_wp2_with fail
  refine wp_goto (hJm.out _ _ _ _ _ rfl ?_)
  go_wp2_with fail
  refine hR.out _ _ _ _ (by simp) ?_
  go_ret2
  exact ⟨rfl, rfl⟩
theorem asked_out_i (b g c : Nat) (l : Cs) (z : Int) (q : Value) (w : World) (h : Rep w b g c l) (hz : z < 0 ∨ (l.length : Int) ≤ z) : Calls Try.prog 29 #[bx b, .int .i64 z, q] w fun e w' => e = .returned (.tuple #[.int .i64 0, .int .i64 4]) ∧ w = w' := by
  have hc := h.cel
  have h1 := Lib.hid (there_at b _ _ _ w hc)
  have h2 := Lib.hid (holds_out (some ⟨g, 0, none⟩) l.length c z w hz)
  obtain ⟨n, hn⟩ : ∃ n, n = l.length := ⟨_, rfl⟩
  rw [← hn] at hc h2
  clear h hz hn
  go_enter Try.func29, Try.ntmps29
  go_wp2_with fail
  refine wp_scope_jump 1 fun R hR hJm => ?_
  go_wp2_with fail
  refine h1.out.mono ?_
  rintro e w1 ⟨rfl, rfl⟩
  go_wp2_with fail
  refine h2.out.mono ?_
  rintro e w1 ⟨rfl, rfl⟩
  go_wp2_with fail
  refine wp_goto (hJm.out _ _ _ _ _ rfl ?_)
  go_wp2_with fail
  refine hR.out _ _ _ _ (by simp) ?_
  go_ret2
  exact ⟨rfl, rfl⟩
theorem asked_in_i {Q : World → Prop} {v : Value} (cf : FuncId) (caps : Array Value) (b g c k : Nat) (l : Cs) (w : World) (h : Rep w b g c l) (hk : k < l.length) (hent : ∀ args V, (callFunc cf args).run Try.prog V = .ok (.enter cf args) V)
    (HC : Calls Try.prog cf (#[.pointer (some ⟨g, k * 2, none⟩)] ++ caps) w fun e w' => e = .returned v ∧ Q w') :
    Calls Try.prog 29 #[bx b, .int .i64 (k : Int), .func (.func cf) #[] caps] w fun e w' => e = .returned (.tuple #[v, .int .i64 0]) ∧ Q w' := by
  have hc := h.cel
  have h1 := Lib.hid (there_at b _ _ _ w hc)
  have h2 := Lib.hid (holds_in (some ⟨g, 0, none⟩) l.length c k w hk)
  have H := Lib.hid HC
  obtain ⟨n, hn⟩ : ∃ n, n = l.length := ⟨_, rfl⟩
  rw [← hn] at hc h2 hk
  have i0 : (0 : Int) ≤ (k : Int) := by omega
  have i1 : (k : Int) < (n : Int) := by omega
  clear h hn HC
  go_enter Try.func29, Try.ntmps29
  go_wp2_with fail
  refine wp_scope_jump 1 fun R hR hJm => ?_
  go_wp2_with fail
  refine h1.out.mono ?_
  rintro e w1 ⟨rfl, rfl⟩
  go_wp2_with fail
  refine h2.out.mono ?_
  rintro e w1 ⟨rfl, rfl⟩
  go_wp2_with fail
  refine H.out.mono ?_
  rintro e w1 ⟨rfl, hQ⟩
  have HQ := Lib.hid hQ
  clear hQ hc H
  go_wp2_with fail
  refine hR.out _ _ _ _ (by simp) ?_
  go_ret2
  exact ⟨rfl, HQ.out⟩
end Go.Proofs.Ytijgkjliienjhaa
