import Derived.Test.YtodbaahnmmfgiaaLA
namespace Go.Proofs.Ytodbaahnmmfgiaa.Lk
open Go.RowKit Go.Shelf
attribute [local go_sem] Oper.semAt_some

/- THE DOCUMENT's SMALL FUNCTIONS: NEW, THREAD, HELD, WITH, SAME. -/
theorem rthread_any (t : Int) (w : World) : Calls Try.prog 29 #[.int .i64 t] w fun e w' => e = .returned (.bool (threadB t)) ∧ w = w' := by
  by_cases h0 : 0 ≤ t
  · have h1 : decide (0 ≤ t) = true := decide_eq_true h0
    have hr := Lib.hid (show threadB t = decide (t < 4) by unfold threadB; simp [h0])
    go_enter Try.func29, Try.ntmps29
    go_wp2_with fail
    go_ret
    exact ⟨by rw [hr.out]; simp, rfl⟩
  · have h1 : decide (0 ≤ t) = false := decide_eq_false h0
    have hr := Lib.hid (show threadB t = false by unfold threadB; simp [h0])
    go_enter Try.func29, Try.ntmps29
    go_wp2_with fail
    go_ret
    exact ⟨by rw [hr.out]; rfl, rfl⟩
theorem rnew_no (z : Int) (w : World) (h : z < 0 ∨ 64 < z) : Calls Try.prog 9 #[.int .i64 z] w fun e w' => e = .returned (.tuple #[.slice none 0 0, .int .i64 2]) ∧ w = w' := by
  by_cases h0 : z < 0
  · have h1 : decide (z < 0) = true := decide_eq_true h0
    clear h
    go_enter Try.func9, Try.ntmps9
    go_wp2_with fail
    go_ret2
    exact ⟨rfl, rfl⟩
  · have h1 : decide (z < 0) = false := decide_eq_false h0
    have h2 : decide (64 < z) = true := decide_eq_true (by omega)
    clear h h0
    go_enter Try.func9, Try.ntmps9
    go_wp2_with fail
    go_ret2
    exact ⟨rfl, rfl⟩
def frees (n : Nat) : Ls := List.replicate n (-1)
theorem frees_len (n : Nat) : (frees n).length = n := List.length_replicate
theorem frees_step (n : Nat) : izs (frees (n + 1)) = izs (frees n) ++ [.int .i64 (-1)] := by
  unfold frees
  rw [List.replicate_succ', izs_app]
  rfl
/-- a list that is gathered number by number, in a block of its own -/
def GI (w : World) (v : Value) (n : Nat) (l : Ls) (wr : World) : Prop := ∃ A c, v = .slice A n c ∧ wr.ownsRow w.heap.size 3 1 (.slice A n c) n (izs l) ∧ Below w.heap.size w wr
theorem gi_step {w wr w4 : World} {v' : Value} {n : Nat} {l : Ls} {z : Int} {A : Option Addr} {c : Nat} {ob : Obj} (ho0 : wr.ownsRow w.heap.size 3 1 (.slice A n c) n (izs l)) (hb : Below w.heap.size w wr)
    (ho : w4.ownsRow w.heap.size 3 1 v' (n + 1) (izs l ++ [.int .i64 z])) (hg : (wr.alloc ob).grownBy w4 (Value.slice A n c).ownBlock) : ∃ A' c', v' = .slice A' (n + 1) c' ∧ GI w (.slice A' (n + 1) c') (n + 1) (l ++ [z]) w4 := by
  obtain ⟨A', c', rfl⟩ := own_slice ho
  refine ⟨A', c', rfl, A', c', rfl, ?_, ?_⟩
  · rw [izs_app]
    exact ho
  · exact (hb.alloc hb.size ob).grown hg (by rw [World.size_alloc]; have := hb.size; omega) (fun k hk => (ho0.lt k hk).1)
theorem gi_wi {w wr : World} {v : Value} {n : Nat} {l : Ls} (h : GI w v n l wr) : Wi wr v l ∧ Below w.heap.size w wr := by
  obtain ⟨A, c, rfl, ho, hb⟩ := h
  exact ⟨wi_own ho, hb⟩
theorem gi_nil (w : World) : GI w (.slice none 0 0) 0 [] w := ⟨none, 0, rfl, World.ownsRow_nil _ _ _ _, Below.refl _ _⟩
theorem cell_one_at (w : World) (v : Value) (t : TypeId) : ∀ (j : Nat) (u : Value), [v][j]? = some u → (w.alloc (.cells #[v] t)).cell? ((⟨w.heap.size, 0, none⟩ : Addr).add j) = some u := fun j u hu => by
  rw [add_plain, Nat.zero_add, cell_alloc_new]
  simpa using hu
set_option maxHeartbeats 1000000 in
theorem rnew_ok (n : Nat) (w : World) (h : n ≤ 64) : Calls Try.prog 9 #[.int .i64 (n : Int)] w fun e w' => ∃ v, e = .returned (.tuple #[v, .int .i64 0]) ∧ Wi w' v (frees n) ∧ Below w.heap.size w w' ∧ ∀ k, v.ownBlock = some k → w.heap.size ≤ k := by
  obtain ⟨i0, hi, hz0, hz1, hz2⟩ := info_parts int_info
  have h1 : decide ((n : Int) < 0) = false := decide_eq_false (by omega)
  have h2 : decide ((64 : Int) < (n : Int)) = false := decide_eq_false (by omega)
  have HST : Hid (GI w (.slice none 0 0) 0 (frees 0) w) := Lib.hid (gi_nil w)
  go_enter Try.func9, Try.ntmps9
  go_wp2_with fail
  go_loopw [4, 5] (fun s4 s5 wr => ∃ i : Nat, s5 = .int .i64 (i : Int) ∧ i ≤ n ∧ GI w s4 i (frees i) wr) (fun _ s5 _ => n - (_root_.Go.RowKit.intOf s5).toNat)
  case atStart => exact ⟨0, rfl, Nat.zero_le _, HST.out⟩
  case round =>
    obtain ⟨i, rfl, hin, A, c, rfl, ho, hb⟩ := hrel
    by_cases hlt : i < n
    · have i2 : decide ((i : Int) < (n : Int)) = true := decide_eq_true (by omega)
      have ho1 := ho.alloc (.cells #[.int .i64 (-1)] 3)
      have hws := hb.size
      have HN := Lib.hid (fun v' w4 (a1 : World.ownsRow w4 w.heap.size 3 1 v' (i + 1) (izs (frees i) ++ [.int .i64 (-1)])) a2 => gi_step (ob := .cells #[.int .i64 (-1)] 3) ho hb a1 a2)
      clear ho hb
      go_wp2_with (at_builtin; refine wpList_append_sees rfl (.tmp 17) (.tmp 18) 28 rfl w.heap.size 3 i0 _ 1 8 Try.underlying28 hi hz0 hz1 hz2 rfl (by decide) _ i (izs (frees i)) rfl ho1 (wr.heap.size + 1) (some ⟨wr.heap.size, 0, none⟩) 1 1 [.int .i64 (-1)] rfl rfl (fun _ => ⟨_, rfl, by simp, cell_one_at _ _ _⟩) (by simp [Value.oneCell']) (by unfold maxLen; omega) (by omega) (by simp; omega) ?_; intro v' w4 a1 a2 _; obtain ⟨A', c', rfl, hri⟩ := HN.out v' w4 a1 a2; have HR := Lib.hid hri; clear a1 a2 hri HN)
      go_roundw
      case rel => exact ⟨i + 1, by go_num, by omega, by rw [show frees (i + 1) = frees i ++ [-1] from List.replicate_succ']; exact HR.out⟩
      case measure => simp [_root_.Go.RowKit.intOf]; omega
    · obtain rfl : i = n := by omega
      have i2 : decide ((i : Int) < (i : Int)) = false := decide_eq_false (by omega)
      have HF := Lib.hid (And.intro (gi_wi ⟨A, c, rfl, ho, hb⟩) (fun k hk => (ho.lt k hk).1))
      clear ho hb
      go_wp2_with fail
      go_ret2
      exact ⟨_, rfl, HF.out.1.1, HF.out.1.2, HF.out.2⟩
set_option maxHeartbeats 1000000 in
theorem rheld_any (l : Ls) (A : Option Addr) (n c : Nat) (t : Int) (w : World) (hl : l.length = n) (hn : n ≤ 64) (hs : Sees w w.heap.size A (izs l)) :
    Calls Try.prog 31 #[.slice A n c, .int .i64 t] w fun e w' => ∃ v, e = .returned v ∧ Wi w' v (hz (held l t)) ∧ Below w.heap.size w w' := by
  obtain ⟨i0, hi, hz0, hz1, hz2⟩ := info_parts int_info
  have HS := Lib.hid (fun V (hb : Below w.heap.size w V) i (hi : i < l.length) => (show ∃ ad, A = some ad ∧ V.cell? (ad.add i) = some (.int .i64 l[i]) from by
    obtain ⟨ad, e, _, hc⟩ := sees_int ((hs.below hb).more hb.size) hi
    exact ⟨ad, e, hc⟩))
  have HL := Lib.hid hl
  have HST : Hid (GI w (.slice none 0 0) (heldTo l t 0).length (hz (heldTo l t 0)) w) := Lib.hid (gi_nil w)
  clear hs hl
  by_cases ht : 0 ≤ t
  · have t1 : decide (0 ≤ t) = true := decide_eq_true ht
    go_enter Try.func31, Try.ntmps31
    go_wp2_with fail
    go_loopw [5, 6] (fun s5 s6 wr => ∃ i : Nat, s6 = .int .i64 (i : Int) ∧ i ≤ n ∧ GI w s5 (heldTo l t i).length (hz (heldTo l t i)) wr) (fun _ s6 _ => n - (_root_.Go.RowKit.intOf s6).toNat)
    case atStart => exact ⟨0, rfl, Nat.zero_le _, HST.out⟩
    case round =>
      obtain ⟨i, rfl, hin, Av, cv, rfl, ho, hb⟩ := hrel
      by_cases hlt : i < n
      · have hil : i < l.length := by rw [HL.out]; exact hlt
        have j0 : (0 : Int) ≤ (i : Int) := by omega
        have j1 : (i : Int) < (n : Int) := by omega
        have i2 : decide ((i : Int) < (n : Int)) = true := decide_eq_true j1
        obtain ⟨ad, rfl, hc⟩ := HS.out wr hb i hil
        have hst := heldTo_step l t i
        have hlen := heldTo_len l t i
        obtain ⟨m, hm⟩ : ∃ m, m = (heldTo l t i).length := ⟨_, rfl⟩
        have hgd : l.getD i (-1) = l[i] := by simp [hil]
        rw [hgd] at hst
        obtain ⟨x, hx⟩ : ∃ x, x = l[i] := ⟨_, rfl⟩
        rw [← hx] at hc hst
        clear hgd hx
        by_cases he : x = t
        · subst he
          have e1 : (x == x) = true := by simp
          rw [if_pos rfl] at hst
          have ho1 := ho.alloc (.cells #[.int .i64 (i : Int)] 3)
          have hws := hb.size
          have HN := Lib.hid (fun v' w4 (a1 : World.ownsRow w4 w.heap.size 3 1 v' ((heldTo l x i).length + 1) (izs (hz (heldTo l x i)) ++ [.int .i64 (i : Int)])) a2 => gi_step (ob := .cells #[.int .i64 (i : Int)] 3) ho hb a1 a2)
          have HSTEP := Lib.hid hst
          rw [← hm] at ho1 HN hlen
          rw [← hm]
          have HM := Lib.hid hm
          clear ho hb hst hm
          go_wp2_with (at_builtin; refine wpList_append_sees rfl (.tmp 23) (.tmp 25) 28 rfl w.heap.size 3 i0 _ 1 8 Try.underlying28 hi hz0 hz1 hz2 rfl (by decide) _ m _ rfl ho1 (wr.heap.size + 1) (some ⟨wr.heap.size, 0, none⟩) 1 1 [.int .i64 (i : Int)] rfl rfl (fun _ => ⟨_, rfl, by simp, cell_one_at _ _ _⟩) (by simp [Value.oneCell']) (by unfold maxLen; omega) (by omega) (by simp; omega) ?_; intro v' w4 a1 a2 _; obtain ⟨A', c', rfl, hri⟩ := HN.out v' w4 a1 a2; have HR := Lib.hid hri; clear a1 a2 hri HN)
          go_roundw
          case rel => exact ⟨i + 1, by go_num, by omega, by rw [HSTEP.out, List.length_append, ← HM.out]; simpa [hz] using HR.out⟩
          case measure => simp [_root_.Go.RowKit.intOf]; omega
        · have e1 : (x == t) = false := beq_eq_false_iff_ne.2 he
          rw [if_neg he, List.append_nil] at hst
          have HR := Lib.hid (show GI w (.slice Av (heldTo l t i).length cv) (heldTo l t (i + 1)).length (hz (heldTo l t (i + 1))) wr by rw [hst]; exact ⟨Av, cv, rfl, ho, hb⟩)
          clear ho hb hst he hm
          go_wp2_with fail
          go_roundw
          case rel => exact ⟨i + 1, by go_num, by omega, HR.out⟩
          case measure => simp [_root_.Go.RowKit.intOf]; omega
      · obtain rfl : i = n := by omega
        have i2 : decide ((i : Int) < (i : Int)) = false := decide_eq_false (by omega)
        have HF := Lib.hid (show Wi wr (.slice Av (heldTo l t i).length cv) (hz (held l t)) ∧ Below w.heap.size w wr by
          unfold held
          rw [if_pos ht, HL.out]
          exact gi_wi ⟨Av, cv, rfl, ho, hb⟩)
        clear ho hb
        go_wp2_with fail
        go_ret
        exact ⟨_, rfl, HF.out.1, HF.out.2⟩
  · have t1 : decide (0 ≤ t) = false := decide_eq_false ht
    have HF := Lib.hid (show Wi w (.slice none 0 0) (hz (held l t)) by
      unfold held
      rw [if_neg ht]
      exact Wi.nil_ w)
    go_enter Try.func31, Try.ntmps31
    go_wp2_with fail
    go_loopw [5, 6] (fun s5 s6 wr => s5 = .slice none 0 0 ∧ s6 = .int .i64 0 ∧ wr = w) (fun _ _ _ => 0)
    case atStart => exact ⟨rfl, rfl, rfl⟩
    case round =>
      obtain ⟨rfl, rfl, rfl⟩ := hrel
      by_cases h0 : 0 < n
      · have i2 : decide ((0 : Int) < (n : Int)) = true := decide_eq_true (by omega)
        go_wp2_with fail
        go_ret
        exact ⟨_, rfl, HF.out, Below.refl _ _⟩
      · have i2 : decide ((0 : Int) < (n : Int)) = false := decide_eq_false (by omega)
        go_wp2_with fail
        go_ret
        exact ⟨_, rfl, HF.out, Below.refl _ _⟩
end Go.Proofs.Ytodbaahnmmfgiaa.Lk
