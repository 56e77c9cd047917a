import Derived.Test.YtelhieinkdmpfaaDoorNF
namespace Go.Proofs.YtelhieinkdmpfaaDoor.Sh
open Go.RowKit Go.Shelf
attribute [local go_sem] Oper.semAt_some

/- THE CODE's PLACES, AS AN ITERATOR. -/
theorem placesTo_pre (l : Ls) (x : Int) (i : Nat) : ∀ k, ∃ post, placesTo l x (i + k) = placesTo l x i ++ post
  | 0 => ⟨[], by simp⟩
  | k + 1 => by
    obtain ⟨post, h⟩ := placesTo_pre l x i k
    exact ⟨post ++ (if l.getD (i + k) 0 = x then [i + k] else []), by rw [← Nat.add_assoc, placesTo_step, h, List.append_assoc]⟩
theorem places_hit {l : Ls} {x : Int} {i : Nat} (hi : i < l.length) (h : l[i] = x) : placesTo l x (i + 1) = placesTo l x i ++ [i] ∧ ∃ post, places l x = placesTo l x i ++ i :: post := by
  have h1 : placesTo l x (i + 1) = placesTo l x i ++ [i] := by rw [placesTo_step, getD_get hi, if_pos h]
  obtain ⟨post, hp⟩ := placesTo_pre l x (i + 1) (l.length - (i + 1))
  refine ⟨h1, post, ?_⟩
  unfold places
  rw [show l.length = i + 1 + (l.length - (i + 1)) by omega, hp, h1]
  simp
theorem places_miss {l : Ls} {x : Int} {i : Nat} (hi : i < l.length) (h : l[i] ≠ x) : placesTo l x (i + 1) = placesTo l x i := by
  rw [placesTo_step, getD_get hi, if_neg h, List.append_nil]
/-- what the iterator reads -/
structure Plc (w : World) (bs bx : Nat) (A : Option Addr) (n c : Nat) (x : Int) (l : Ls) : Prop where
  cs : w.cell? ⟨bs, 0, none⟩ = some (.slice A n c)
  cx : w.cell? ⟨bx, 0, none⟩ = some (.int .i64 x)
  row : ∀ g, A = some ⟨g, 0, none⟩ → ∃ rest, Row w g 23 (izs l ++ rest)
  ne : l ≠ [] → ∃ g, A = some ⟨g, 0, none⟩
def pvP (bs bx : Nat) (A : Option Addr) (k : Nat) : Prop := k = bs ∨ k = bx ∨ A = some ⟨k, 0, none⟩
theorem Plc.same {w w' : World} {bs bx n c : Nat} {A : Option Addr} {x : Int} {l : Ls} (h : Plc w bs bx A n c x l) (hp : ∀ k, pvP bs bx A k → w'.heap[k]? = w.heap[k]?) : Plc w' bs bx A n c x l :=
  ⟨(World.cell?_of_block (hp bs (.inl rfl))).trans h.cs, (World.cell?_of_block (hp bx (.inr (.inl rfl)))).trans h.cx, fun g e => by
    obtain ⟨rest, hr⟩ := h.row g e
    exact ⟨rest, hr.same (hp g (.inr (.inr e)))⟩, h.ne⟩
theorem Plc.lt {w : World} {bs bx n c : Nat} {A : Option Addr} {x : Int} {l : Ls} (h : Plc w bs bx A n c x l) : ∀ k, pvP bs bx A k → k < w.heap.size := by
  rintro k (rfl | rfl | e)
  · exact lt_of_cell h.cs
  · exact lt_of_cell h.cx
  · obtain ⟨rest, hr⟩ := h.row k e
    exact hr.lt
theorem Plc.at_ {w : World} {bs bx n c : Nat} {A : Option Addr} {x : Int} {l : Ls} (h : Plc w bs bx A n c x l) {i : Nat} (hi : i < l.length) : ∃ g, A = some ⟨g, 0, none⟩ ∧ w.cell? ⟨g, i, none⟩ = some (.int .i64 l[i]) := by
  obtain ⟨g, e⟩ := h.ne (fun e => by rw [e] at hi; exact absurd hi (Nat.not_lt_zero _))
  obtain ⟨rest, hr⟩ := h.row g e
  refine ⟨g, e, ?_⟩
  rw [hr.cell, List.getElem?_append_left (by rw [izs_len]; exact hi)]
  exact izs_get l hi
set_option maxHeartbeats 2000000 in
theorem places1_it (bs bx n c : Nat) (A : Option Addr) (x : Int) (l : Ls) (w0 : World) (h : Plc w0 bs bx A n c x l) (hn : l.length = n) (hm : n ≤ 256) :
    It Tryd.prog 45 #[pb bs, pb bx] encN (fun _ _ => False) (preN (places l x)) (pvP bs bx A) (allN (places l x)) (someN (places l x)) w0 := by
  intro l0 J Jx W hpW hsW hJ hJx hY h0
  refine (callsIn_wide (n := 1)).1 ?_
  have HPW := Lib.hid hpW
  have HPL := Lib.hid h.lt
  have HP := Lib.hid (fun (V : World) (hp : ∀ k, pvP bs bx A k → V.heap[k]? = w0.heap[k]?) => h.same hp)
  have HN := Lib.hid hn
  have c1 := (h.same hpW).cs
  have HHIT := Lib.hid (fun i (hi : i < l.length) (e : l[i] = x) => places_hit hi e)
  have HMISS := Lib.hid (fun i (hi : i < l.length) (e : l[i] ≠ x) => places_miss hi e)
  have HSOME : Hid (∀ pre i post, places l x = pre ++ i :: post → someN (places l x) (pre ++ [i])) := Lib.hid (fun pre i post e => ⟨post, by rw [e]; simp⟩)
  have HALL : Hid (∀ pre, pre = placesTo l x n → allN (places l x) pre) := Lib.hid (fun pre e => by unfold allN places; rw [hn, e])
  clear h hn hpW
  refine callsIn_of_wp Tryd.func45 rfl trivial ?_ rfl
  simp only [Tryd.ntmps45, List.size_toArray, List.length_cons, List.length_nil, Nat.reduceAdd, Nat.reduceSub, Array.replicate_succ, Array.replicate_zero, List.push_toArray, List.append_toArray, List.nil_append, List.cons_append]
  gi_wp2_with fail
  gi_loopw [8] (fun t wr => ∃ (i : Nat) (pre : List Nat) (O : Nat → Prop), t = .int .i64 (i : Int) ∧ i ≤ n ∧ Hid (pre = placesTo l x i) ∧ J pre O wr ∧ W.heap.size ≤ wr.heap.size ∧ (∀ b, O b → W.heap.size ≤ b ∧ b < wr.heap.size) ∧ ∀ k, pvP bs bx A k → wr.heap[k]? = w0.heap[k]?) (fun t _ => n - (_root_.Go.RowKit.intOf t).toNat)
  case atStart => exact ⟨0, [], fun _ => False, rfl, Nat.zero_le _, Lib.hid rfl, h0, Nat.le_refl _, fun b (h : False) => h.elim, HPW.out⟩
  case round =>
    obtain ⟨i, pre, O, rfl, hin, HPRE, hj, hws, hO, hpv⟩ := hrel
    by_cases hlt : i < n
    · have hil : i < l.length := by rw [HN.out]; exact hlt
      have j0 : (0 : Int) ≤ (i : Int) := by omega
      have j1 : (i : Int) < (n : Int) := by omega
      have j2 : decide ((i : Int) < (n : Int)) = true := decide_eq_true j1
      have j3 : decide (i < n) = true := decide_eq_true hlt
      have hp := HP.out wr hpv
      have cx := hp.cx
      obtain ⟨g, rfl, hc⟩ := hp.at_ hil
      by_cases he : l[i] = x
      · obtain ⟨s1, post, s2⟩ := HHIT.out i hil he
        rw [← HPRE.out] at s1 s2
        obtain ⟨fn, tmps, assign, body, hy, hR⟩ := hY pre i O wr hws hO hj ⟨post, s2⟩ (fun b (h : False) => h.elim)
        have HS1 := Lib.hid s1
        have HSM := Lib.hid (HSOME.out pre i post s2)
        have e1 : (l[i] == x) = true := by simp [he]
        obtain ⟨y, hyy⟩ : ∃ y, y = l[i] := ⟨_, rfl⟩
        rw [← hyy] at hc e1
        simp only [encN] at hy
        clear he s1 s2 hyy hp HPRE
        gi_wp2_with fail
        refine hR.mono ?_
        rintro e W' ⟨hk', (⟨rfl, hj'⟩ | ⟨rfl, hjx⟩)⟩
        · have hpv4 : ∀ j, pvP bs bx (some ⟨g, 0, none⟩) j → W'.heap[j]? = w0.heap[j]? := fun j hj => (hk'.same j (by have := HPL.out j hj; have := hsW; omega) (.inl hj)).trans (hpv j hj)
          have hO4 := nextO_bound (M := fun _ => False) hO hws hk'.size
          have hws4 := Nat.le_trans hws hk'.size
          clear hO hws hk' hpv hj
          gi_wp2_with fail
          refine ⟨⟨i + 1, pre ++ [i], _, by go_num, by omega, Lib.hid HS1.out.symm, hj', hws4, hO4, hpv4⟩, ?_⟩
          simp [_root_.Go.RowKit.intOf]; omega
        · gi_wp2_with fail
          refine bodyPost_ret (results_none rfl _ _ _) rfl ?_
          exact itEnd.part HSM.out hjx
      · have s1 := HMISS.out i hil he
        rw [← HPRE.out] at s1
        have HS1 := Lib.hid s1
        have e1 : (l[i] == x) = false := by simp [he]
        obtain ⟨y, hyy⟩ : ∃ y, y = l[i] := ⟨_, rfl⟩
        rw [← hyy] at hc e1
        clear he s1 hyy hp HPRE
        gi_wp2_with fail
        refine ⟨(fun _ h => by cases h), ?_⟩
        gi_wp2_with fail
        refine ⟨⟨i + 1, pre, O, by go_num, by omega, Lib.hid HS1.out.symm, hj, hws, hO, hpv⟩, ?_⟩
        simp [_root_.Go.RowKit.intOf]; omega
    · obtain rfl : i = n := by omega
      have j2 : decide ((i : Int) < (i : Int)) = false := decide_eq_false (by omega)
      have HA := Lib.hid (HALL.out pre HPRE.out)
      clear HPRE
      gi_wp2_with fail
      go_end0
      exact itEnd.all HA.out hj
end Go.Proofs.YtelhieinkdmpfaaDoor.Sh
