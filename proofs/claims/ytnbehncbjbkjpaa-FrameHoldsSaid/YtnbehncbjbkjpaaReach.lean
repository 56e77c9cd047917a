import Derived.Test.YtnbehncbjbkjpaaTake
namespace Go.Proofs.Ytnbehncbjbkjpaa
open Go.RowKit Go.Shelf Go.Maps Go.Sort
attribute [local go_sem] Oper.semAt_some

/- REACH. -/

set_option maxHeartbeats 1000000 in
theorem give1_any (gp gi b n : Nat) (i : Int) (w : World) (hp : w.cell? ⟨gp, 0, none⟩ = some (bx b)) (hi : w.cell? ⟨gi, 0, none⟩ = some (.int .i64 i)) (hc : w.cell? ⟨b, 0, none⟩ = some (.int .i64 (n : Int))) :
    Calls Try.prog 31 #[bx gp, bx gi] w fun e w' => e = .returned (.bool (decide (0 ≤ i) && decide (i < n))) ∧ Below w.heap.size w w' := by
  have h1 := Lib.hid (fun k => (show Calls Try.prog 32 #[bx b, .int .i64 i] (w.drewN k) (fun e w' => e = .returned (.bool (decide (0 ≤ i) && decide (i < n))) ∧ ∃ q, w' = w.drewN q) from (is_any b n i (w.drewN k) hc).mono fun e w' ⟨e1, e2⟩ => ⟨e1, k, e2.symm⟩))
  obtain ⟨q, hq⟩ : ∃ q, q = (decide (0 ≤ i) && decide (i < n)) := ⟨_, rfl⟩
  rw [← hq] at h1 ⊢
  have HD := Lib.hid (fun n => below_drewN (Below.refl w.heap.size w) n)
  have mixed : Try.prog.follows .mixedOrders = true := by kernel_rfl
  clear hq
  go_enter Try.func31, Try.ntmps31
  go_wp2_with fail
  go_quiet ((go_at_call 32; exact h1.out _))
  go_wp2
  go_ret
  exact ⟨rfl, HD.out _⟩
theorem ownB_at {p : Pl} (i : Int) (hi : 0 ≤ i) : (ownAt (owns p.fr) i).isSome = (frameO p i.toNat).isSome := by
  unfold ownAt frameO
  rw [if_neg (by omega), owns_get]
  cases p.fr[i.toNat]? with
  | none => rfl
  | some x => cases x <;> rfl
set_option maxHeartbeats 1000000 in
theorem give2_any {b bm : Nat} {p : Pl} {fv sv : Value} {fb : List (List UInt8)} {gf gs : Option Nat} {w : World} (h : Rep w b p bm fv sv fb gf gs) (gp gi : Nat) (i : Nat) (hil : i ≤ 9223372036854775807) (hp : w.cell? ⟨gp, 0, none⟩ = some (bx b)) (hi : w.cell? ⟨gi, 0, none⟩ = some (.int .i64 (i : Int))) :
    Calls Try.prog 33 #[bx gp, bx gi] w fun e w' => e = .returned (.bool (frameO p i).isSome) ∧ Below w.heap.size w w' := by
  have h1 := Lib.hid (fun k => (show Calls Try.prog 34 #[bx b, .int .i64 (i : Int)] (w.drewN k) (fun e w' => e = .returned (.bool (ownAt (owns p.fr) (i : Int)).isSome) ∧ ∃ q, w' = w.drewN q) from (owned_any b bm 16384 (owns p.fr) (i : Int) (w.drewN k) (by omega) h.c1 h.map).mono fun e w' ⟨e1, e2⟩ => ⟨e1, k, e2.symm⟩))
  have hob := ownB_at (p := p) (i : Int) (by omega)
  rw [Int.toNat_natCast] at hob
  rw [hob] at h1
  obtain ⟨q, hq⟩ : ∃ q, q = (frameO p i).isSome := ⟨_, rfl⟩
  rw [← hq] at h1 ⊢
  have HD := Lib.hid (fun n => below_drewN (Below.refl w.heap.size w) n)
  have mixed : Try.prog.follows .mixedOrders = true := by kernel_rfl
  clear hq hob h
  go_enter Try.func33, Try.ntmps33
  go_wp2_with fail
  go_quiet ((go_at_call 34; exact h1.out _))
  go_wp2
  go_ret
  exact ⟨rfl, HD.out _⟩
set_option maxHeartbeats 1000000 in
theorem reach2_any {b bm : Nat} {p : Pl} {fv sv : Value} {fb : List (List UInt8)} {gf gs : Option Nat} {w : World} (h : Rep w b p bm fv sv fb gf gs) (gp gi : Nat) (i : Nat) (hil : i ≤ 9223372036854775807) (hp : w.cell? ⟨gp, 0, none⟩ = some (bx b)) (hi : w.cell? ⟨gi, 0, none⟩ = some (.int .i64 (i : Int))) :
    Calls Try.prog 49 #[bx gp, bx gi] w fun e w' => e = .returned (.bool (frameO p i).isSome) ∧ Below w.heap.size w w' := by
  have h1 := Lib.hid (fun k => (show Calls Try.prog 34 #[bx b, .int .i64 (i : Int)] (w.drewN k) (fun e w' => e = .returned (.bool (ownAt (owns p.fr) (i : Int)).isSome) ∧ ∃ q, w' = w.drewN q) from (owned_any b bm 16384 (owns p.fr) (i : Int) (w.drewN k) (by omega) h.c1 h.map).mono fun e w' ⟨e1, e2⟩ => ⟨e1, k, e2.symm⟩))
  have hob := ownB_at (p := p) (i : Int) (by omega)
  rw [Int.toNat_natCast] at hob
  rw [hob] at h1
  obtain ⟨q, hq⟩ : ∃ q, q = (frameO p i).isSome := ⟨_, rfl⟩
  rw [← hq] at h1 ⊢
  have HD := Lib.hid (fun n => below_drewN (Below.refl w.heap.size w) n)
  have mixed : Try.prog.follows .mixedOrders = true := by kernel_rfl
  clear hq hob h
  go_enter Try.func49, Try.ntmps49
  go_wp2_with fail
  go_quiet ((go_at_call 34; exact h1.out _))
  go_wp2
  go_ret
  exact ⟨rfl, HD.out _⟩
set_option maxHeartbeats 1000000 in
theorem reach1_any (gp gi ga gm b n : Nat) (i a m : Int) (w : World) (ha : -9223372036854775808 ≤ a ∧ a ≤ 9223372036854775807) (hp : w.cell? ⟨gp, 0, none⟩ = some (bx b)) (hi : w.cell? ⟨gi, 0, none⟩ = some (.int .i64 i)) (hga : w.cell? ⟨ga, 0, none⟩ = some (.int .i64 a)) (hgm : w.cell? ⟨gm, 0, none⟩ = some (.int .i64 m)) (hc : w.cell? ⟨b, 0, none⟩ = some (.int .i64 (n : Int))) :
    Calls Try.prog 47 #[bx gp, bx gi, bx ga, bx gm] w fun e w' => e = .returned (.bool ((decide (0 ≤ i) && decide (i < n)) && holdsB a m)) ∧ Below w.heap.size w w' := by
  have h1 := Lib.hid (fun k => (show Calls Try.prog 32 #[bx b, .int .i64 i] (w.drewN k) (fun e w' => e = .returned (.bool (decide (0 ≤ i) && decide (i < n))) ∧ ∃ q, w' = w.drewN q) from (is_any b n i (w.drewN k) hc).mono fun e w' ⟨e1, e2⟩ => ⟨e1, k, e2.symm⟩))
  have h2 := Lib.hid (fun k => (show Calls Try.prog 48 #[.int .i64 a, .int .i64 m] (w.drewN k) (fun e w' => e = .returned (.bool (holdsB a m)) ∧ ∃ q, w' = w.drewN q) from (holds_any a m (w.drewN k) ha).mono fun e w' ⟨e1, e2⟩ => ⟨e1, k, e2.symm⟩))
  obtain ⟨q, hq⟩ : ∃ q, q = (decide (0 ≤ i) && decide (i < n)) := ⟨_, rfl⟩
  obtain ⟨r, hr⟩ : ∃ r, r = holdsB a m := ⟨_, rfl⟩
  rw [← hq] at h1 ⊢
  rw [← hr] at h2 ⊢
  have HD := Lib.hid (fun n => below_drewN (Below.refl w.heap.size w) n)
  have mixed : Try.prog.follows .mixedOrders = true := by kernel_rfl
  clear hq hr ha
  cases q
  all_goals
    go_enter Try.func47, Try.ntmps47
    go_wp2_with fail
    go_quiet (first | (go_at_call 32; exact h1.out _) | (go_at_call 48; exact h2.out _))
    go_wp2
    go_ret
    exact ⟨by simp, HD.out _⟩

def reachL (v : Value) (s : Nat) (a1 a2 a3 : Bool) : List Ask :=
  [⟨19, #[v], #[], 1, a1⟩, ⟨47, #[], #[bx s, bx (s + 1), bx (s + 2), bx (s + 3)], 4, a2⟩, ⟨49, #[], #[bx s, bx (s + 1)], 5, a3⟩]
def reachB (v : Value) (i a m : Int) : List (Value × TypeId) := [(v, 23), (.int .i64 i, 3), (.int .i64 a, 3), (.int .i64 m, 3)]
theorem reach_non (v : Value) (i a m : Int) (w : World) (h : Non w v) : Calls Try.prog 17 #[.slice (some ⟨w.heap.size + 4, 0, none⟩) 3 3] (askW w (reachB v i a m) (reachL v w.heap.size true true true)) fun e w' => e = .returned (.int .i64 1) ∧ Below w.heap.size w w' := by
  refine (asked_box (reachB v i a m) (reachL v w.heap.size false true true) 3 3 _ rfl rfl (by omega) fun k hk hall => ?_).mono fun e w' ⟨e1, e2, _⟩ => ⟨e1, e2.below⟩
  rcases k with _ | k
  · refine ⟨enters_of Try.func19 (by kernel_rfl) rfl, fun V hV => ?_⟩
    exact (there_non v V (h.below hV.below)).mono fun e w' ⟨e1, e2⟩ => ⟨e1, e2 ▸ Below.refl _ _⟩
  · exact absurd (hall 0 (by simp [reachL]) (by omega)) (by simp [reachL])
theorem reach_asked {b bm : Nat} {p : Pl} {fv sv : Value} {fb : List (List UInt8)} {gf gs : Option Nat} {w : World} (h : Rep w b p bm fv sv fb gf gs) (i a m : Int) (hi1 : i ≤ 9223372036854775807) (ha : -9223372036854775808 ≤ a ∧ a ≤ 9223372036854775807) :
    Calls Try.prog 17 #[.slice (some ⟨w.heap.size + 4, 0, none⟩) 3 3] (askW w (reachB (bx b) i a m) (reachL (bx b) w.heap.size true true true)) fun e w' => e = .returned (.int .i64 (reachE p i a m : Int)) ∧ Boxes w [bx b, .int .i64 i, .int .i64 a, .int .i64 m] w' := by
  obtain ⟨a2, ha2⟩ : ∃ a2, a2 = ((decide (0 ≤ i) && decide (i < p.fr.length)) && holdsB a m) := ⟨_, rfl⟩
  obtain ⟨a3, ha3⟩ : ∃ a3, a3 = (frameO p i.toNat).isSome := ⟨_, rfl⟩
  have hE : askE (reachL (bx b) w.heap.size true a2 a3) = (reachE p i a m : Int) := by
    unfold reachE frameB
    have e2 : (¬ ((decide (0 ≤ i) && decide (i < p.fr.length)) = true ∧ holdsB a m = true)) ↔ a2 = false := by rw [ha2]; cases (decide (0 ≤ i) && decide (i < p.fr.length)) <;> cases holdsB a m <;> simp
    have e3 : (frameO p i.toNat = none) ↔ a3 = false := by rw [ha3]; cases frameO p i.toNat <;> simp
    simp only [e2, e3]
    cases a2 <;> cases a3 <;> rfl
  refine (asked_box (reachB (bx b) i a m) (reachL (bx b) w.heap.size true a2 a3) 3 3 _ rfl rfl (by omega) fun k hk hall => ?_).mono fun e w' ⟨e1, e2, _⟩ => ⟨by rw [e1, hE], e2⟩
  rcases k with _ | _ | _ | k
  · refine ⟨enters_of Try.func19 (by kernel_rfl) rfl, fun V hV => ?_⟩
    exact (there_map b bm V (hV.rep h).c1).mono fun e w' ⟨e1, e2⟩ => ⟨e1, e2 ▸ Below.refl _ _⟩
  · refine ⟨enters_of Try.func47 (by kernel_rfl) rfl, fun V hV => ?_⟩
    have := reach1_any w.heap.size (w.heap.size + 1) (w.heap.size + 2) (w.heap.size + 3) b p.fr.length i a m V ha (hV.cell 0 _ rfl) (hV.cell 1 _ rfl) (hV.cell 2 _ rfl) (hV.cell 3 _ rfl) (hV.rep h).c0
    rw [← ha2] at this
    exact this
  · have t2 : a2 = true := hall 1 (by simp [reachL]) (by omega)
    rw [ha2, Bool.and_eq_true, Bool.and_eq_true, decide_eq_true_eq] at t2
    obtain ⟨n, rfl⟩ : ∃ n : Nat, i = n := ⟨i.toNat, by omega⟩
    refine ⟨enters_of Try.func49 (by kernel_rfl) rfl, fun V hV => ?_⟩
    have := reach2_any (hV.rep h) w.heap.size (w.heap.size + 1) n (by omega) (hV.cell 0 _ rfl) (hV.cell 1 _ rfl)
    rw [Int.toNat_natCast] at ha3
    rw [← ha3] at this
    exact this
  · simp [reachL] at hk
    omega

set_option maxHeartbeats 1000000 in
theorem reach_nil (v : Value) (i a m : Int) (w : World) (h : Non w v) : Calls Try.prog 39 #[v, .int .i64 i, .int .i64 a, .int .i64 m] w fun e w' => e = .returned (.tuple #[.slice none 0 0, .int .i64 1]) ∧ Below w.heap.size w w' := by
  have h1 := Lib.hid (reach_non v i a m w h)
  obtain ⟨pv, rfl⟩ : ∃ pv, v = .pointer pv := by
    rcases h with rfl | ⟨b, rfl, _⟩
    · exact ⟨_, rfl⟩
    · exact ⟨_, rfl⟩
  clear h
  go_enter Try.func39, Try.ntmps39
  go_wp2_with fail
  refine wp_scope_jump 1 fun R hR hJm => ?_
  go_wp2_with fail
  refine (h1.out).mono ?_
  rintro e w1 ⟨rfl, hb⟩
  go_wp2_with fail
  refine wp_goto (hJm.out _ _ _ _ _ rfl ?_)
  go_wp2_with fail
  refine hR.out _ _ _ _ (by simp) ?_
  go_ret2
  exact ⟨rfl, hb⟩
set_option maxHeartbeats 1000000 in
theorem reach_no {b bm : Nat} {p : Pl} {fv sv : Value} {fb : List (List UInt8)} {gf gs : Option Nat} {w : World} (h : Rep w b p bm fv sv fb gf gs) (i a m : Int) (hi1 : i ≤ 9223372036854775807) (ha : -9223372036854775808 ≤ a ∧ a ≤ 9223372036854775807) (hE : reachE p i a m ≠ 0) :
    Calls Try.prog 39 #[bx b, .int .i64 i, .int .i64 a, .int .i64 m] w fun e w' => e = .returned (.tuple #[.slice none 0 0, .int .i64 (reachE p i a m : Int)]) ∧ Below w.heap.size w w' := by
  have h1 := Lib.hid ((reach_asked h i a m hi1 ha).mono fun e w' ⟨e1, e2⟩ => (show e = Ending.returned (Value.int .i64 (reachE p i a m : Int)) ∧ Below w.heap.size w w' from ⟨e1, e2.below⟩))
  obtain ⟨E, hE2⟩ : ∃ E, E = reachE p i a m := ⟨_, rfl⟩
  rw [← hE2] at h1 hE ⊢
  have e0 : (((E : Int)) == 0) = false := by rw [beq_eq_false_iff_ne]; omega
  have e1 : ¬ ((E : Int) = 0) := by omega
  clear hE2 hE h hi1 ha
  go_enter Try.func39, Try.ntmps39
  go_wp2_with fail
  refine wp_scope_jump 1 fun R hR hJm => ?_
  go_wp2_with fail
  refine (h1.out).mono ?_
  rintro e w1 ⟨rfl, hb⟩
  go_wp2_with fail
  refine wp_goto (hJm.out _ _ _ _ _ rfl ?_)
  go_wp2_with fail
  refine hR.out _ _ _ _ (by simp) ?_
  go_ret2
  exact ⟨rfl, hb⟩
set_option maxHeartbeats 2000000 in
theorem reach_yes {b bm : Nat} {p : Pl} {sv : Value} {f0 N fc : Nat} {fb : List (List UInt8)} {gf gs : Option Nat} {w : World} (h : Rep w b p bm (Value.slice (some ⟨f0, 0, none⟩) N fc) sv fb gf gs) (i a m : Nat) (hiN : i < N) (hN : N ≤ 16384) (ha : a < 256) (hm : a + m ≤ 256) (hE : reachE p i a m = 0) :
    Calls Try.prog 39 #[bx b, .int .i64 (i : Int), .int .i64 (a : Int), .int .i64 (m : Int)] w fun e w' => e = .returned (.tuple #[.slice (some ⟨f0, i * 256 + a, none⟩) m (256 - a), .int .i64 0]) ∧ Below w.heap.size w w' := by
  have hb66 := h.obj.lt
  have h1 := Lib.hid ((reach_asked h (i : Int) (a : Int) (m : Int) (by omega) (by omega)).mono fun e w' ⟨e1, e2⟩ => (show e = Ending.returned (Value.int .i64 (reachE p i a m : Int)) ∧ Below w.heap.size w w' ∧ w'.cell? ⟨w.heap.size, 0, none⟩ = some (bx b) ∧ w'.cell? ⟨w.heap.size + 1, 0, none⟩ = some (Value.int .i64 (i : Int)) ∧ w'.cell? ⟨w.heap.size + 1 + 1, 0, none⟩ = some (Value.int .i64 (a : Int)) ∧ w'.cell? ⟨w.heap.size + 1 + 1 + 1, 0, none⟩ = some (Value.int .i64 (m : Int)) ∧ w'.cell? ⟨b, 66, none⟩ = some (Value.slice (some ⟨f0, 0, none⟩) N fc) from
    ⟨e1, e2.below, e2.cell 0 _ rfl, e2.cell 1 _ rfl, e2.cell 2 _ rfl, e2.cell 3 _ rfl, (e2.below.cell (p := ⟨b, 66, none⟩) hb66).trans h.c66⟩))
  rw [hE] at h1
  have HD := Lib.hid (fun w' n (hb : Below w.heap.size w w') => below_drewN hb n)
  have mixed : Try.prog.follows .mixedOrders = true := by kernel_rfl
  have i0 : (0 : Int) ≤ (i : Int) := by omega
  have i1 : (i : Int) < (N : Int) := by omega
  have a0 : (0 : Int) ≤ (a : Int) := by omega
  have a1 : (a : Int) ≤ (a : Int) + (m : Int) := by omega
  have a2 : (a : Int) + (m : Int) ≤ 256 := by omega
  have a3 : ¬ (256 = a) := by omega
  have a4 : (0 : Int) ≤ (a : Int) + (m : Int) := by omega
  have a5 : ((a : Int) + (m : Int)).toNat = a + m := by omega
  have a6 : a + m - a = m := by omega
  have hw : IntKind.i64.wrap ((a : Int) + (m : Int)) = (a : Int) + (m : Int) := wrapI _ (by omega) (by omega)
  clear h hb66 hE hiN hN ha hm
  go_enter Try.func39, Try.ntmps39
  go_wp2_with fail
  refine wp_scope_jump 1 fun R hR hJm => ?_
  go_wp2_with fail
  refine (h1.out).mono ?_
  rintro e w1 ⟨rfl, hb, d0, d1, d2, d3, d4⟩
  have HB := Lib.hid hb
  clear hb h1
  go_wp2_with fail
  go_quiet (fail)
  go_wp2_with fail
  refine hR.out _ _ _ _ (by simp) ?_
  go_ret2
  exact ⟨rfl, HD.out _ _ HB.out⟩
set_option maxHeartbeats 2000000 in
theorem reach_end {b bm : Nat} {p : Pl} {sv : Value} {f0 N fc : Nat} {fb : List (List UInt8)} {gf gs : Option Nat} {w : World} (h : Rep w b p bm (Value.slice (some ⟨f0, 0, none⟩) N fc) sv fb gf gs) (i : Nat) (hiN : i < N) (hN : N ≤ 16384) (hE : reachE p i 256 0 = 0) :
    Calls Try.prog 39 #[bx b, .int .i64 (i : Int), .int .i64 256, .int .i64 0] w fun e w' => e = .returned (.tuple #[.slice (some ⟨f0, i * 256, none⟩) 0 0, .int .i64 0]) ∧ Below w.heap.size w w' := by
  have hb66 := h.obj.lt
  have h1 := Lib.hid ((reach_asked h (i : Int) 256 0 (by omega) (by omega)).mono fun e w' ⟨e1, e2⟩ => (show e = Ending.returned (Value.int .i64 (reachE p i 256 0 : Int)) ∧ Below w.heap.size w w' ∧ w'.cell? ⟨w.heap.size, 0, none⟩ = some (bx b) ∧ w'.cell? ⟨w.heap.size + 1, 0, none⟩ = some (Value.int .i64 (i : Int)) ∧ w'.cell? ⟨w.heap.size + 1 + 1, 0, none⟩ = some (Value.int .i64 256) ∧ w'.cell? ⟨w.heap.size + 1 + 1 + 1, 0, none⟩ = some (Value.int .i64 0) ∧ w'.cell? ⟨b, 66, none⟩ = some (Value.slice (some ⟨f0, 0, none⟩) N fc) from
    ⟨e1, e2.below, e2.cell 0 _ rfl, e2.cell 1 _ rfl, e2.cell 2 _ rfl, e2.cell 3 _ rfl, (e2.below.cell (p := ⟨b, 66, none⟩) hb66).trans h.c66⟩))
  rw [hE] at h1
  have HD := Lib.hid (fun w' n (hb : Below w.heap.size w w') => below_drewN hb n)
  have mixed : Try.prog.follows .mixedOrders = true := by kernel_rfl
  have i0 : (0 : Int) ≤ (i : Int) := by omega
  have i1 : (i : Int) < (N : Int) := by omega
  clear h hb66 hE hiN hN
  go_enter Try.func39, Try.ntmps39
  go_wp2_with fail
  refine wp_scope_jump 1 fun R hR hJm => ?_
  go_wp2_with fail
  refine (h1.out).mono ?_
  rintro e w1 ⟨rfl, hb, d0, d1, d2, d3, d4⟩
  have HB := Lib.hid hb
  clear hb h1
  go_wp2_with fail
  go_quiet (fail)
  go_wp2_with fail
  refine hR.out _ _ _ _ (by simp) ?_
  go_ret2
  exact ⟨rfl, HD.out _ _ HB.out⟩
end Go.Proofs.Ytnbehncbjbkjpaa
