import Derived.Test.YtodbaahnmmfgiaaNA
import Derived.Test.YtodbaahnmmfgiaaLI
import Derived.Laws.EntriesVeiled
import Derived.Test.YtodbaahnmmfgiaaLJ
import Derived.Shelf.RegionOpen
import Derived.Deep.RegionHeld3
import Derived.Test.YtodbaahnmmfgiaaRegion
import Derived.Test.YtodbaahnmmfgiaaBaseIn
import Derived.BigQuiet
namespace Go.Proofs.Ytodbaahnmmfgiaa.Lk
open Go.RowKit Go.Shelf
attribute [local go_sem] Oper.semAt_some

/- WHAT IS WRONG: THE FIRST QUESTION THAT IS ANSWERED NO. -/

structure Ask where
  cf : Nat
  first : Array Value
  cap : Array Value
  e : Int
  ans : Bool
def Ask.val (q : Ask) : Value := .func (.func q.cf) q.first q.cap
def askCells (qs : List Ask) : List Value := qs.flatMap fun q => [q.val, .int .i64 q.e]
def askE : List Ask → Int
  | [] => 0
  | q :: r => if q.ans then askE r else q.e
theorem ask_cells : ∀ (qs : List Ask) (k : Nat) (h : k < qs.length), (askCells qs)[k * 2]? = some qs[k].val ∧ (askCells qs)[k * 2 + 1]? = some (.int .i64 qs[k].e)
  | q :: r, 0, _ => ⟨rfl, rfl⟩
  | q :: r, k + 1, h => by
    have := ask_cells r k (by simpa using h)
    rw [show (k + 1) * 2 = k * 2 + 1 + 1 by omega]
    exact this
theorem askE_at : ∀ (qs : List Ask) (k : Nat) (h : k < qs.length), (∀ j (hj : j < qs.length), j < k → qs[j].ans = true) → qs[k].ans = false → askE qs = qs[k].e
  | q :: r, 0, _, _, h => by simp at h; simp [askE, h]
  | q :: r, k + 1, hk, ha, h => by
    have h0 : q.ans = true := ha 0 (by simp) (by omega)
    rw [askE, if_pos h0]
    exact askE_at r k (by simpa using hk) (fun j hj hjk => ha (j + 1) (by simpa using hj) (by omega)) h
theorem askE_end : ∀ (qs : List Ask), (∀ j (hj : j < qs.length), qs[j].ans = true) → askE qs = 0
  | [], _ => rfl
  | q :: r, ha => by
    have h0 : q.ans = true := ha 0 (by simp)
    rw [askE, if_pos h0]
    exact askE_end r fun j hj => ha (j + 1) (by simpa using hj)

def Asks (w : World) (qs : List Ask) : Prop :=
  ∀ k (hk : k < qs.length), (∀ j (hj : j < qs.length), j < k → qs[j].ans = true) → (∀ args V, (callFunc qs[k].cf args).run Try.prog V = .ok (.enter qs[k].cf args) V) ∧
    ∀ V, Below w.heap.size w V → Calls Try.prog qs[k].cf (qs[k].first ++ qs[k].cap) V fun e V' => e = .returned (.bool qs[k].ans) ∧ Below V.heap.size V V'

set_option maxHeartbeats 1000000 in
theorem asked_any (qs : List Ask) (g n c : Nat) (w : World) (hn : qs.length = n) (hm : n ≤ 100) (hr : Row w g 82 (askCells qs)) (hq : Asks w qs) :
    Calls Try.prog 36 #[.slice (some ⟨g, 0, none⟩) n c] w fun e w' => e = .returned (.int .i64 (askE qs)) ∧ Below w.heap.size w w' := by
  have hgl := hr.lt
  have HC := Lib.hid (fun k hk => ask_cells qs k hk)
  have HA := Lib.hid (fun k h1 h2 h3 => askE_at qs k h1 h2 h3)
  have HE := Lib.hid (askE_end qs)
  have HQ := Lib.hid hq
  have HR := Lib.hid hr
  obtain ⟨E, hE⟩ : ∃ E, E = askE qs := ⟨_, rfl⟩
  rw [← hE] at HA HE ⊢
  clear hE hq hr
  go_enter Try.func36, Try.ntmps36
  go_wp2_with fail
  go_loopw [7] (fun s wr => ∃ k : Nat, k ≤ n ∧ s = .int .i64 (k : Int) ∧ Hid (∀ j (hj : j < qs.length), j < k → qs[j].ans = true) ∧ Below w.heap.size w wr) (fun s _ => n - (_root_.Go.RowKit.intOf s).toNat)
  case atStart => exact ⟨0, by omega, rfl, Lib.hid (fun j hj h => absurd h (by omega)), Below.refl _ _⟩
  case round =>
    obtain ⟨k, hk, rfl, hall, hb⟩ := hrel
    by_cases hlt : k < n
    · have hkl : k < qs.length := by omega
      have e0 : decide ((k : Int) < (n : Int)) = true := decide_eq_true (by omega)
      have i0 : (0 : Int) ≤ (k : Int) := by omega
      have i1 : (k : Int) < (n : Int) := by omega
      obtain ⟨c0, c1⟩ := HC.out k hkl
      have hc0 : wr.cell? ⟨g, k * 2, none⟩ = some qs[k].val := ((hb.cell (p := ⟨g, k * 2, none⟩) hgl).trans (HR.out.cell _)).trans c0
      have hc1 : wr.cell? ⟨g, k * 2 + 1, none⟩ = some (.int .i64 qs[k].e) := ((hb.cell (p := ⟨g, k * 2 + 1, none⟩) hgl).trans (HR.out.cell _)).trans c1
      obtain ⟨hent, hcall⟩ := HQ.out k hkl hall.out
      have HCALL := Lib.hid hcall
      obtain ⟨q, hqe⟩ : ∃ q, q = qs[k] := ⟨_, rfl⟩
      have HQE := Lib.hid hqe
      rw [← hqe] at hc0 hc1 hent HCALL
      obtain ⟨cf, first, cap, ee, ans⟩ := q
      simp only [Ask.val] at hc0 hc1 hent HCALL
      clear hcall c0 c1 hqe
      go_wp2_with fail
      have hb1 := Lib.hid (hb.alloc hb.size (.cells #[.func (.func cf) first cap, .int .i64 ee] 82))
      refine (HCALL.out _ hb1.out).mono ?_
      rintro e w1 ⟨rfl, hb2⟩
      have hd1 : w1.cell? ⟨wr.heap.size, 1, none⟩ = some (.int .i64 ee) := (hb2.cell (p := ⟨wr.heap.size, 1, none⟩) (by simp)).trans (cell_alloc_new _ _ _ _)
      have hb3 := Lib.hid (show Below w.heap.size w w1 from hb1.out.trans (hb2.mono (by have := hb1.out.size; exact this)))
      clear hb2 hb1 hc0 hc1 hent HCALL
      cases ans
      · have hfin := Lib.hid (HA.out k hkl hall.out (by rw [← HQE.out]))
        rw [← HQE.out] at hfin
        go_wp2
        go_ret
        exact ⟨by rw [hfin.out]; rfl, hb3.out⟩
      · have hall2 : Hid (∀ j (hj : j < qs.length), j < k + 1 → qs[j].ans = true) := Lib.hid fun j hj hjk => by
          rcases Nat.lt_or_ge j k with h | h
          · exact hall.out j hj h
          · obtain rfl : j = k := by omega
            rw [← HQE.out]
        go_wp2
        go_roundw
        case rel => exact ⟨k + 1, by omega, by go_num, hall2, hb3.out⟩
        case measure => simp [_root_.Go.RowKit.intOf]; omega
    · obtain rfl : k = n := by omega
      have hfin := Lib.hid (HE.out (fun j hj => hall.out j hj (by omega)))
      go_wp2
      go_ret
      exact ⟨by rw [hfin.out]; rfl, hb⟩
end Go.Proofs.Ytodbaahnmmfgiaa.Lk

namespace Go.Proofs.Ytodbaahnmmfgiaa.Lk
open Go.RowKit Go.Shelf
attribute [local go_sem] Oper.semAt_some

/- LOCKS IN MEMORY: CELLS WHOSE WORDS ARE THE THREADS AND ONE; THE SMALL FUNCTIONS. -/
abbrev bx (b : Nat) : Value := .pointer (some ⟨b, 0, none⟩)
/-- what ranks are: the cells alone -/
abbrev rk (b : Nat) : Value := .agg #[bx b]
def wz (z : Int) : Nat := (z + 1).toNat
theorem wz_eq {z : Int} (h : -1 ≤ z) : (wz z : Int) = z + 1 := by unfold wz; omega
structure LRep (w : World) (bl b g c : Nat) (cs : Ce.Cs) (l : Ls) : Prop where
  obj : Row w bl 66 [bx b]
  rep : Ce.Rep w b g c cs
  ws : cs.map Prod.fst = l.map wz
  th : Ths l
  most : l.length ≤ 64
section
variable {w w' : World} {bl b g c : Nat} {cs : Ce.Cs} {l : Ls}
theorem LRep.cel (h : LRep w bl b g c cs l) : w.cell? ⟨bl, 0, none⟩ = some (bx b) := h.obj.cell 0
theorem LRep.len (h : LRep w bl b g c cs l) : cs.length = l.length := by
  have := congrArg List.length h.ws
  simpa using this
theorem LRep.same (h : LRep w bl b g c cs l) (h0 : w'.heap[bl]? = w.heap[bl]?) (h1 : w'.heap[b]? = w.heap[b]?) (h2 : w'.heap[g]? = w.heap[g]?) : LRep w' bl b g c cs l := ⟨h.obj.same h0, h.rep.same h1 h2, h.ws, h.th, h.most⟩
theorem LRep.below (h : LRep w bl b g c cs l) (hb : Below w.heap.size w w') : LRep w' bl b g c cs l := ⟨h.obj.below hb, h.rep.below hb, h.ws, h.th, h.most⟩
theorem LRep.word (h : LRep w bl b g c cs l) {k : Nat} (hk : k < cs.length) (hl : k < l.length) : cs[k].1 = wz l[k] := by
  have := congrArg (fun x : List Nat => x[k]?) h.ws
  simpa [hk, hl] using this
end
/-- no locks: nil, or what no call made -/
def NonL (w : World) (v : Value) : Prop := v = .pointer none ∨ ∃ b, v = bx b ∧ w.cell? ⟨b, 0, none⟩ = some (.pointer none)
theorem NonL.below {w w' : World} {v : Value} (h : NonL w v) (hb : Below w.heap.size w w') : NonL w' v := by
  rcases h with h | ⟨b, h1, h2⟩
  · exact .inl h
  · exact .inr ⟨b, h1, (hb.cell (p := ⟨b, 0, none⟩) (lt_of_cell h2)).trans h2⟩
theorem NonL.ptr {w : World} {v : Value} (h : NonL w v) : ∃ pv, v = .pointer pv := by
  rcases h with rfl | ⟨b, rfl, _⟩
  · exact ⟨_, rfl⟩
  · exact ⟨_, rfl⟩
theorem lthere_non (v : Value) (w : World) (h : NonL w v) : Calls Try.prog 32 #[v] w fun e w' => e = .returned (.bool false) ∧ w = w' := by
  rcases h with rfl | ⟨b, rfl, hc⟩
  · go_enter Try.func32, Try.ntmps32
    go_wp2_with fail
    go_ret
    exact ⟨rfl, rfl⟩
  · go_enter Try.func32, Try.ntmps32
    go_wp2_with fail
    go_ret
    exact ⟨rfl, rfl⟩
theorem lthere_at (b : Nat) (ad : Addr) (w : World) (hc : w.cell? ⟨b, 0, none⟩ = some (.pointer (some ad))) : Calls Try.prog 32 #[bx b] w fun e w' => e = .returned (.bool true) ∧ w = w' := by
  go_enter Try.func32, Try.ntmps32
  go_wp2_with fail
  go_ret
  exact ⟨rfl, rfl⟩
theorem load_rk {W : World} {b : Nat} {x : Value} {t : TypeId} (h : Row W b t [x]) : (loadVar 64 ⟨b, 0, none⟩).run Try.prog W = .ok (.agg #[x]) W :=
  run_loadVar_mid _ b 0 _ [x] _ (fun j v hj => by rw [Nat.zero_add]; exact (h.cell j).trans hj) Try.underlying64 rfl (by kernel_rfl)
theorem cells_non (v : Value) (w : World) (h : NonL w v) : Calls Try.prog 46 #[v] w fun e w' => e = .returned (.agg #[.pointer none]) ∧ Below w.heap.size w w' := by
  have h1 := Lib.hid (lthere_non v _ (h.below (below1 w (.cells #[.pointer none] 64))))
  obtain ⟨pv, rfl⟩ := h.ptr
  clear h
  go_enter Try.func46, Try.ntmps46
  go_wp2_with fail
  refine h1.out.mono ?_
  rintro e w1 ⟨rfl, rfl⟩
  clear h1
  have HR := Row.new w 64 [.pointer none]
  go_wp2_with fail
  exact bodyPost_ret (res_cell1 Try.results46 rfl (load_rk HR)) rfl ⟨rfl, below1 w _⟩
theorem cells_at (b p : Nat) (w : World) (hc : w.cell? ⟨b, 0, none⟩ = some (bx p)) : Calls Try.prog 46 #[bx b] w fun e w' => e = .returned (rk p) ∧ Below w.heap.size w w' := by
  have hc' : (w.alloc (.cells #[.pointer none] 64)).cell? ⟨b, 0, none⟩ = some (bx p) := ((below1 w _).cell (p := ⟨b, 0, none⟩) (lt_of_cell hc)).trans hc
  have h1 := Lib.hid (lthere_at b _ _ hc')
  have hlt := lt_of_cell hc
  go_enter Try.func46, Try.ntmps46
  go_wp2_with fail
  refine h1.out.mono ?_
  rintro e w1 ⟨rfl, rfl⟩
  clear h1
  have HR := Row.new w 64 [bx p]
  go_wp2_with fail
  exact bodyPost_ret (res_cell1 Try.results46 rfl (load_rk HR)) rfl ⟨rfl, below1 w _⟩
theorem known_any (t : Int) (w : World) : Calls Try.prog 38 #[.int .i64 t] w fun e w' => e = .returned (.bool (threadB t)) ∧ w = w' := by
  by_cases h0 : 0 ≤ t
  · have h1 : decide (0 ≤ t) = true := decide_eq_true h0
    have hr := Lib.hid (show threadB t = decide (t < 4) by unfold threadB; simp [h0])
    go_enter Try.func38, Try.ntmps38
    go_wp2_with fail
    go_ret
    exact ⟨by rw [hr.out]; simp, rfl⟩
  · have h1 : decide (0 ≤ t) = false := decide_eq_false h0
    have hr := Lib.hid (show threadB t = false by unfold threadB; simp [h0])
    go_enter Try.func38, Try.ntmps38
    go_wp2_with fail
    go_ret
    exact ⟨by rw [hr.out]; rfl, rfl⟩
theorem mark_any (t : Int) (w : World) (h0 : 0 ≤ t) (h4 : t < 4) : Calls Try.prog 54 #[.int .i64 t] w fun e w' => e = .returned (.int .u64 (wz t : Int)) ∧ w = w' := by
  have h1 : IntKind.u64.wrap t = t := by rw [IntKind.wrap_u64]; omega
  have h2 : IntKind.u64.wrap (t + 1) = (wz t : Int) := by rw [wz_eq (by omega), IntKind.wrap_u64]; omega
  obtain ⟨x, hx⟩ : ∃ x, x = wz t := ⟨_, rfl⟩
  rw [← hx] at h2 ⊢
  clear hx h0 h4
  go_enter Try.func54, Try.ntmps54
  go_wp2_with fail
  go_ret
  exact ⟨rfl, rfl⟩
theorem marked_any (z : Int) (w : World) (h0 : -1 ≤ z) (h4 : z < 4) : Calls Try.prog 67 #[.int .u64 (wz z : Int)] w fun e w' => e = .returned (.int .i64 z) ∧ w = w' := by
  have hz := wz_eq h0
  have h1 : IntKind.i64.wrap (wz z : Int) = (wz z : Int) := wrapI _ (by omega) (by omega)
  have h2 : IntKind.i64.wrap ((wz z : Int) - 1) = z := by rw [wrapI _ (by omega) (by omega)]; omega
  obtain ⟨x, hx⟩ : ∃ x, x = wz z := ⟨_, rfl⟩
  rw [← hx] at h1 h2 ⊢
  clear hx h0 h4 hz
  go_enter Try.func67, Try.ntmps67
  go_wp2_with fail
  go_ret
  exact ⟨rfl, rfl⟩
theorem has_any {w : World} {bl b g c : Nat} {cs : Ce.Cs} {l : Ls} (h : LRep w bl b g c cs l) (r : Int) : Calls Try.prog 50 #[rk b, .int .i64 r] w fun e w' => e = .returned (.bool (decide (0 ≤ r ∧ r < (l.length : Int)))) ∧ Below w.heap.size w w' := by
  have hb1 := below1 w (.cells #[bx b] 64)
  have hlen := Lib.hid (by have := Ce.len_at b g c cs _ (h.rep.below hb1); rw [h.len] at this; exact this)
  obtain ⟨n, hn⟩ : ∃ n, n = l.length := ⟨_, rfl⟩
  rw [← hn] at hlen ⊢
  clear hn h
  by_cases h0 : 0 ≤ r
  · have h1 : decide (0 ≤ r) = true := decide_eq_true h0
    have hr := Lib.hid (show decide (0 ≤ r ∧ r < (n : Int)) = decide (r < (n : Int)) by simp [h0])
    obtain ⟨q, hq⟩ : ∃ q, q = decide (r < (n : Int)) := ⟨_, rfl⟩
    have hqq : decide (r < (n : Int)) = q := hq.symm
    rw [hqq] at hr
    clear hq h0
    go_enter Try.func50, Try.ntmps50
    go_wp2_with fail
    refine hlen.out.mono ?_
    rintro e w1 ⟨rfl, rfl⟩
    clear hlen
    go_wp2_with fail
    go_ret
    exact ⟨by rw [hr.out]; rfl, hb1⟩
  · have h1 : decide (0 ≤ r) = false := decide_eq_false h0
    have hr := Lib.hid (show decide (0 ≤ r ∧ r < (n : Int)) = false by simp [h0])
    clear h0
    go_enter Try.func50, Try.ntmps50
    go_wp2_with fail
    go_ret
    exact ⟨by rw [hr.out]; rfl, hb1⟩
end Go.Proofs.Ytodbaahnmmfgiaa.Lk

namespace Go.Proofs.Ytodbaahnmmfgiaa.Lk
open Go.RowKit Go.Shelf
attribute [local go_sem] Oper.semAt_some

/- WHOSE A LOCK IS; THE LOCKS THAT ARE SOMEBODY's. -/
theorem marked_nat (n : Nat) (w : World) (h : n ≤ 100) : Calls Try.prog 67 #[.int .u64 (n : Int)] w fun e w' => e = .returned (.int .i64 ((n : Int) - 1)) ∧ w = w' := by
  have h1 : IntKind.i64.wrap (n : Int) = (n : Int) := wrapI _ (by omega) (by omega)
  have h2 : IntKind.i64.wrap ((n : Int) - 1) = (n : Int) - 1 := wrapI _ (by omega) (by omega)
  go_enter Try.func67, Try.ntmps67
  go_wp2_with fail
  go_ret
  exact ⟨rfl, rfl⟩
theorem holder_non (r : Int) (w : World) : Calls Try.prog 59 #[.agg #[.pointer none], .int .i64 r] w fun e w' => e = .returned (.tuple #[.int .i64 0, .bool false]) ∧ Below w.heap.size w w' := by
  have hb1 := below1 w (.cells #[.pointer none] 64)
  have h1 := Lib.hid (fun W => Ce.load_non (.pointer none) r W (.inl rfl))
  go_enter Try.func59, Try.ntmps59
  go_wp2_with fail
  refine (h1.out _).mono ?_
  rintro e w1 ⟨rfl, rfl⟩
  go_wp2_with fail
  go_ret2
  exact ⟨rfl, hb1⟩
theorem holder_any {w : World} {bl b g c : Nat} {cs : Ce.Cs} {l : Ls} (h : LRep w bl b g c cs l) (r : Int) : Calls Try.prog 59 #[rk b, .int .i64 r] w fun e w' =>
    e = .returned (.tuple #[.int .i64 (if holdsAt l r then l.getD r.toNat (-1) else 0), .bool (holdsAt l r)]) ∧ Below w.heap.size w w' := by
  have hb1 := below1 w (.cells #[bx b] 64)
  have hr1 := h.rep.below hb1
  by_cases hin : 0 ≤ r ∧ r < (l.length : Int)
  · obtain ⟨k, rfl⟩ := Int.eq_ofNat_of_zero_le hin.1
    have hk : k < l.length := by omega
    have hkc : k < cs.length := by rw [h.len]; exact hk
    have hgd : l.getD ((k : Nat) : Int).toNat (-1) = l[k] := by simp [hk]
    have hz := h.th _ (List.getElem_mem hk)
    have hl := Lib.hid (Ce.load_in b g c k cs _ hr1 hkc)
    rw [h.word hkc hk] at hl
    have hH : holdsAt l (k : Int) = decide (0 ≤ l[k]) := by
      unfold holdsAt
      rw [hgd, decide_eq_true hin, Bool.true_and]
    rw [hH, hgd]
    have hw := wz_eq hz.1
    by_cases h0 : 0 ≤ l[k]
    · have hm := Lib.hid (fun W => marked_any l[k] W hz.1 hz.2)
      have hd : decide (0 ≤ l[k]) = true := decide_eq_true h0
      have hne : ((wz l[k] : Int) == 0) = false := beq_eq_false_iff_ne.2 (by omega)
      rw [hd, if_pos rfl]
      obtain ⟨x, hx⟩ : ∃ x, x = wz l[k] := ⟨_, rfl⟩
      obtain ⟨z, hzz⟩ : ∃ z, z = l[k] := ⟨_, rfl⟩
      rw [← hx] at hl hm hne
      rw [← hzz] at hm ⊢
      clear hx hzz hd hw hH hgd hz h hr1 hkc hin hk h0
      go_enter Try.func59, Try.ntmps59
      go_wp2_with fail
      refine (hl.out).mono ?_
      rintro e w1 ⟨rfl, rfl⟩
      clear hl
      go_wp2_with fail
      refine (hm.out _).mono ?_
      rintro e w1 ⟨rfl, rfl⟩
      go_wp2_with fail
      go_ret2
      exact ⟨rfl, hb1⟩
    · have hd : decide (0 ≤ l[k]) = false := decide_eq_false h0
      have he : wz l[k] = 0 := by omega
      rw [hd, if_neg (by simp)]
      rw [he] at hl
      clear hd hw hH hgd hz h hr1 hkc hin hk h0 he
      go_enter Try.func59, Try.ntmps59
      go_wp2_with fail
      refine (hl.out).mono ?_
      rintro e w1 ⟨rfl, rfl⟩
      clear hl
      go_wp2_with fail
      go_ret2
      exact ⟨rfl, hb1⟩
  · have hl := Lib.hid (Ce.load_out b g c cs r _ hr1 (by rw [h.len]; omega))
    have hH : holdsAt l r = false := by
      unfold holdsAt
      rw [decide_eq_false hin, Bool.false_and]
    rw [hH, if_neg (by simp)]
    clear hH h hr1 hin
    go_enter Try.func59, Try.ntmps59
    go_wp2_with fail
    refine (hl.out).mono ?_
    rintro e w1 ⟨rfl, rfl⟩
    clear hl
    go_wp2_with fail
    go_ret2
    exact ⟨rfl, hb1⟩

/-! the locks that are somebody's -/
def toP (x : Nat × Nat) : Nat × Int := (x.1, (x.2 : Int) - 1)
theorem wz_getD (l : Ls) (i : Nat) : (l.map wz).getD i 0 = wz (l.getD i (-1)) := by
  by_cases h : i < l.length
  · simp [h]
  · simp [List.getElem?_eq_none (show l.length ≤ i by omega)]
    rfl
theorem getD_th {l : Ls} (h : Ths l) (i : Nat) : -1 ≤ l.getD i (-1) ∧ l.getD i (-1) < 4 := by
  by_cases hi : i < l.length
  · have := h _ (List.getElem_mem hi)
    simpa [hi] using this
  · simp [List.getElem?_eq_none (show l.length ≤ i by omega)]
theorem pr_nz {l : Ls} (h : Ths l) : ∀ i, prTo l i = (Ce.nzTo (l.map wz) i).map toP
  | 0 => rfl
  | i + 1 => by
    rw [prTo, Ce.nzTo, List.map_append, pr_nz h i]
    congr 1
    unfold prAt Ce.nzAt
    rw [wz_getD]
    have h1 := getD_th h i
    have h2 := wz_eq h1.1
    by_cases h0 : l.getD i (-1) < 0
    · rw [if_pos h0, if_pos (by omega)]
      rfl
    · rw [if_neg h0, if_neg (by omega)]
      simp only [toP, List.map_cons, List.map_nil]
      congr 2
      omega
def nzl (l : Ls) : List (Nat × Nat) := Ce.nz (l.map wz)
theorem prs_nz {l : Ls} (h : Ths l) : prs l = (nzl l).map toP := by
  unfold prs nzl Ce.nz
  rw [List.length_map]
  exact pr_nz h _
theorem nzTo_small {l : Ls} (h : Ths l) : ∀ i, ∀ x ∈ Ce.nzTo (l.map wz) i, x.2 ≤ 4
  | 0, x, hx => by cases hx
  | i + 1, x, hx => by
    rw [Ce.nzTo, List.mem_append] at hx
    rcases hx with hx | hx
    · exact nzTo_small h i x hx
    · unfold Ce.nzAt at hx
      split at hx
      · cases hx
      · obtain rfl := List.mem_singleton.1 hx
        have h1 := getD_th h i
        have h2 := wz_eq h1.1
        rw [wz_getD]
        simp only
        omega
def privO (s bw : Nat) (A : Option Addr) (k : Nat) : Prop := k = s ∨ Ce.privA bw A k
section
variable (l0 : Nat) (J Jx : List (Nat × Int) → (Nat → Prop) → World → Prop) (W : World)
/-- what holds between two rounds of the inner loop -/
def oI (pre : List (Nat × Nat)) (O' : Nat → Prop) (V : World) : Prop :=
  ∃ O, J (pre.map toP) O V ∧ (∀ k, O k → O' k) ∧ (∀ k, O k → W.heap.size + 3 ≤ k) ∧ V.cell? ⟨W.heap.size, 0, none⟩ = some (.func (.yield l0) #[] #[])
/-- what holds where a round has said no more -/
def oX (c' : Code) (pre' : List (Nat × Nat)) (O' : Nat → Prop) (V : World) : Prop :=
  c' = .exit 0 ∧ ∃ O, (∀ k, O k → O' k) ∧ (∀ k, O k → W.heap.size + 3 ≤ k) ∧ Jx (pre'.map toP) O V
end
theorem drew_grown (V : World) : V.grownBy V.drew none := ⟨rfl, rfl, rfl, Nat.le_refl _, fun _ _ _ => rfl⟩

set_option maxHeartbeats 2000000 in
theorem own1_it (l : Ls) (hth : Ths l) (s bw : Nat) (A : Option Addr) (c : Nat) (w0 : World) (hl : l.length ≤ 64) (hcs : w0.cell? ⟨s, 0, none⟩ = some (.func (.func 78) #[] #[bx bw])) (hcw : w0.cell? ⟨bw, 0, none⟩ = some (.slice A (l.map wz).length c)) (hsrc : Ce.Src w0 A (l.map wz)) :
    It Try.prog 66 #[bx s] encP (fun _ _ => False) (preA (prs l)) (privO s bw A) (allA (prs l)) (someA (prs l)) w0 := by
  intro l0 J Jx W hpW hsW hJ hJx hY h0
  have hWs : W.cell? ⟨s, 0, none⟩ = some (.func (.func 78) #[] #[bx bw]) := (World.cell?_of_block (hpW s (.inl rfl))).trans hcs
  have hWc : W.cell? ⟨bw, 0, none⟩ = some (.slice A (l.map wz).length c) := (World.cell?_of_block (hpW bw (.inr (.inl rfl)))).trans hcw
  have hWr : Ce.Src W A (l.map wz) := hsrc.same fun k hk => hpW k (.inr (.inr hk))
  have hpl : ∀ k, Ce.privA bw A k → k < W.heap.size := by
    rintro k (rfl | h)
    · exact lt_of_cell hWc
    · exact hWr.lt h
  have hpp := Lib.hid (prs_nz hth)
  have hsm := Lib.hid (nzTo_small hth (l.map wz).length)
  obtain ⟨w2, hw2⟩ : ∃ w2, w2 = W.alloc (.cells #[.func (.yield l0) #[] #[]] 88) := ⟨_, rfl⟩
  have hsz2 : w2.heap.size = W.heap.size + 1 := by rw [hw2]; simp
  have hb2 : Below W.heap.size W w2 := by rw [hw2]; exact below1 _ _
  have hcy : w2.cell? ⟨W.heap.size, 0, none⟩ = some (.func (.yield l0) #[] #[]) := by
    rw [hw2]
    exact cell_alloc_new _ _ _ _
  have hc2 : w2.cell? ⟨s, 0, none⟩ = some (.func (.func 78) #[] #[bx bw]) := (hb2.cell (p := ⟨s, 0, none⟩) (lt_of_cell hWs)).trans hWs
  have hj2 : J [] (fun _ => False) w2 := hJ.below h0 hb2
  have hit := Ce.all1_it (l.map wz) A c bw w2 (by rw [List.length_map]; omega) ((hb2.cell (p := ⟨bw, 0, none⟩) (lt_of_cell hWc)).trans hWc) (hWr.below hb2)
  refine calls_marks Try.func66 rfl ?_
  simp only [Try.ntmps66, List.size_toArray, List.length_cons, List.length_nil, Nat.reduceAdd, Nat.reduceSub, Array.replicate_succ, Array.replicate_zero, List.push_toArray, List.append_toArray, List.nil_append, List.cons_append]
  go_wp2_with fail
  refine wp_scope_jump 0 fun R hR hJm => ?_
  go_wp2_with fail
  go_step3
  rw [← hw2]
  clear hw2
  go_wp2_with fail
  refine wpIn_wide.1 (wpIn_range_it (gf := 78) (lb := #[bx bw]) rfl (enters_of Try.func78 (by kernel_rfl) rfl) hit (fun k hk => Nat.lt_of_lt_of_le (hpl k hk) hb2.size) (fun _ => rfl) (fun _ _ _ _ _ h => h)
    (oI l0 J W) (oX Jx W) ?hI ?hIx ?h0
    (fun x => { tmps := #[.func (.yield l0) #[] #[], bx s, .pointer (some ⟨W.heap.size, 0, none⟩), .int .i64 (x.1 : Int), .int .u64 (x.2 : Int), .func (.func 78) #[] #[bx bw], .int .i64 (x.1 : Int), .int .u64 (x.2 : Int), undef, undef, undef, undef, undef, undef], defers := [] }) ?assign ?body ?done ?stop)
  case assign =>
    intro l' x W' K hK
    simp only [Ce.encA]
    gi_wp2
    exact hK
  case h0 => exact ⟨fun _ => False, hj2, fun _ h => h.elim, fun _ h => h.elim, hcy⟩
  case hI =>
    rintro s' O' V V' row ⟨O, h2, h3, h4, h6⟩ hg hr
    have hne : ∀ k, k < w2.heap.size → some k ≠ row := fun k hk e => by have := (hr k e.symm).1; omega
    exact ⟨O, hJ _ _ _ _ row h2 hg (fun r e => ⟨by have := (hr r e).1; omega, fun h => (hr r e).2 (h3 r h)⟩), h3, h4, (World.cell?_of_block (hg.block _ (lt_of_cell h6) (hne W.heap.size (by omega)))).trans h6⟩
  case hIx =>
    rintro c' s' O' V V' row ⟨e0, O, h3, h4, hjx⟩ hg hr
    have hr' : ∀ r, row = some r → W.heap.size ≤ r ∧ ¬ O r := fun r e => ⟨by have := (hr r e).1; omega, fun h => (hr r e).2 (h3 r h)⟩
    exact ⟨e0, O, h3, h4, hJx _ _ _ _ row hjx hg hr'⟩
  case body =>
    rintro l' pre x O' V hVs hO' ⟨O, hj, hOO, hO5, hcy⟩ hpk _
    have hjd : J (pre.map toP) O V.drew := hJ _ _ _ _ none hj (drew_grown V) (fun r e => by cases e)
    have hpk2 : preA (prs l) (pre.map toP) (toP x) V.drew := by
      obtain ⟨post, e⟩ := hpk
      exact ⟨post.map toP, by rw [hpp.out]; unfold nzl; rw [e]; simp⟩
    have hx4 : x.2 ≤ 4 := hsm.out x (by
      obtain ⟨post, e⟩ := hpk
      have : x ∈ Ce.nz (l.map wz) := by rw [e]; simp
      exact this)
    obtain ⟨fn, tmps, assign, body, hy, hR⟩ := hY (pre.map toP) (toP x) O V.drew (by show W.heap.size ≤ V.heap.size; omega) (fun k h => by have := hO5 k h; have := hO' k (hOO k h); exact ⟨by omega, this.2⟩) hjd hpk2 (fun b (h : False) => h.elim)
    have hmk := Lib.hid (fun W => marked_nat x.2 W (by omega))
    have hcyd : V.drew.cell? ⟨W.heap.size, 0, none⟩ = some (.func (.yield l0) #[] #[]) := hcy
    have Hs2 := Lib.hid hsz2
    simp only [encP, toP] at hy
    have keeps : ∀ W', Keeps (privO s bw A) W.heap.size O (fun _ => False) V.drew W' → Keeps (Ce.privA bw A) w2.heap.size O' (fun _ => False) V W' := fun W' hk => by
      have := Hs2.out
      refine ⟨hk.size, fun k hkl hp => ?_⟩
      rcases hp with h | ⟨h, h2, _⟩
      · exact hk.same k hkl (.inl (.inr h))
      · exact hk.same k hkl (.inr ⟨by omega, fun ho => h2 (hOO k ho), fun h => h⟩)
    have sub : ∀ W', V.heap.size ≤ W'.heap.size → (∀ k, nextO O (fun _ => False) V.drew W' k → nextO O' (fun _ => False) V W' k) ∧ ∀ k, nextO O (fun _ => False) V.drew W' k → W.heap.size + 3 ≤ k := fun W' hsW' => by
      have := Hs2.out
      refine ⟨fun k h => ?_, fun k h => ?_⟩
      · rcases h with h | h | h
        · exact .inl (hOO k h)
        · exact h.elim
        · exact .inr (.inr h)
      · rcases h with h | h | h
        · exact hO5 k h
        · exact h.elim
        · have := h.1
          have e : V.drew.heap.size = V.heap.size := rfl
          omega
    have HOK := Lib.hid (fun W' (hk : Keeps (privO s bw A) W.heap.size O (fun _ => False) V.drew W') (hj' : J (pre.map toP ++ [toP x]) (nextO O (fun _ => False) V.drew W') W') =>
      (show Keeps (Ce.privA bw A) w2.heap.size O' (fun _ => False) V W' ∧ oI l0 J W (pre ++ [x]) (nextO O' (fun _ => False) V W') W' from
        ⟨keeps W' hk, _, by rw [List.map_append]; exact hj', (sub W' hk.size).1, (sub W' hk.size).2, (World.cell?_of_block (hk.same W.heap.size (lt_of_cell hcy) (.inr ⟨Nat.le_refl _, fun h => by have := hO5 _ h; omega, fun h => h⟩))).trans hcy⟩))
    have HNO := Lib.hid (fun W' (hk : Keeps (privO s bw A) W.heap.size O (fun _ => False) V.drew W') (hjx : Jx (pre.map toP ++ [toP x]) (nextO O (fun _ => False) V.drew W') W') =>
      (show Keeps (Ce.privA bw A) w2.heap.size O' (fun _ => False) V W' ∧ oX Jx W (.exit 0) (pre ++ [x]) (nextO O' (fun _ => False) V W') W' from
        ⟨keeps W' hk, rfl, _, (sub W' hk.size).1, (sub W' hk.size).2, by rw [List.map_append]; exact hjx⟩))
    obtain ⟨p, hp⟩ : ∃ p : Int, p = (x.2 : Int) - 1 := ⟨_, rfl⟩
    rw [← hp] at hy hmk
    clear hj2 hit hsz2 hc2 hWc hcw hcs hsrc hpk hpk2 hx4 keeps sub hjd hp hj hcy hWs hWr
    gi_wp2_with fail
    refine region_round l' (by kernel_rfl) (by kernel_rfl) ?_
    refine wpAnyIn_take (i := 1) (v := ?_) rfl rfl (by kernel_rfl) (by kernel_rfl) (by kernel_rfl) (fun _ _ _ h => h) ⟨Or.inl ⟨by rfl, ?_⟩, fun _ => rfl⟩ ?_
    rotate_left
    focus (intro W9; go_simp; try with_reducible rfl)
    try simp only [Act.put]
    refine wpAnyIn_take (i := 2) (v := ?_) rfl rfl (by kernel_rfl) (by kernel_rfl) (by kernel_rfl) (fun _ _ _ h => h) ⟨Or.inl ⟨by rfl, ?_⟩, fun _ => rfl⟩ ?_
    rotate_left
    focus (intro W9; go_simp; try with_reducible rfl)
    try simp only [Act.put]
    refine wpAnyIn_ready (rs := [0, 3]) (by kernel_rfl) (by simp) ?_
    refine AllReadyIn.cons rfl (fun K hK => ?_) (AllReadyIn.cons rfl (fun K hK => ?_) AllReadyIn.nil)
    · go_simp
      refine hK _ _ ?_
      clear hK K
      refine wpAnyIn_ready (rs := [3]) (by kernel_rfl) (by simp) ?_
      refine AllReadyIn.cons rfl (fun K hK => ?_) AllReadyIn.nil
      go_simp
      refine ⟨trivial, rfl, (callsIn_wide.2 (hmk.out _)).mono ?_⟩
      rintro e w1 ⟨rfl, rfl⟩
      refine hK _ _ ?_
      clear hK K
      refine wpAnyIn_ready (rs := [4]) (by kernel_rfl) (by simp) ?_
      refine AllReadyIn.cons rfl (fun K hK => ?_) AllReadyIn.nil
      go_simp
      refine ⟨rfl, ?_⟩
      refine hR.mono ?_
      rintro e W' ⟨hk, (⟨rfl, hj'⟩ | ⟨rfl, hjx⟩)⟩
      · have hfin := Lib.hid (HOK.out W' hk hj')
        clear hj' hk
        refine hK _ _ ?_
        clear hK K
        refine wpAnyIn_ready (rs := [5]) (by kernel_rfl) (by simp) ?_
        refine AllReadyIn.cons rfl (fun K hK => ?_) AllReadyIn.nil
        go_simp
        refine hK _ _ ?_
        refine wpAnyIn_done (by kernel_rfl) ?_ _
        clear hK K
        gi_wp2
        exact hfin.out
      · have hfin := Lib.hid (HNO.out W' hk hjx)
        clear hjx hk
        refine hK _ _ ?_
        clear hK K
        refine wpAnyIn_ready (rs := [5]) (by kernel_rfl) (by simp) ?_
        refine AllReadyIn.cons rfl (fun K hK => ?_) AllReadyIn.nil
        go_simp
        refine hK _ _ ?_
        refine wpAnyIn_done (by kernel_rfl) ?_ _
        clear hK K
        gi_wp2
        exact hfin.out
    · go_simp
      refine ⟨trivial, rfl, (callsIn_wide.2 (hmk.out _)).mono ?_⟩
      rintro e w1 ⟨rfl, rfl⟩
      refine hK _ _ ?_
      clear hK K
      refine wpAnyIn_ready (rs := [0]) (by kernel_rfl) (by simp) ?_
      refine AllReadyIn.cons rfl (fun K hK => ?_) AllReadyIn.nil
      go_simp
      refine hK _ _ ?_
      clear hK K
      refine wpAnyIn_ready (rs := [4]) (by kernel_rfl) (by simp) ?_
      refine AllReadyIn.cons rfl (fun K hK => ?_) AllReadyIn.nil
      go_simp
      refine ⟨rfl, ?_⟩
      refine hR.mono ?_
      rintro e W' ⟨hk, (⟨rfl, hj'⟩ | ⟨rfl, hjx⟩)⟩
      · have hfin := Lib.hid (HOK.out W' hk hj')
        clear hj' hk
        refine hK _ _ ?_
        clear hK K
        refine wpAnyIn_ready (rs := [5]) (by kernel_rfl) (by simp) ?_
        refine AllReadyIn.cons rfl (fun K hK => ?_) AllReadyIn.nil
        go_simp
        refine hK _ _ ?_
        refine wpAnyIn_done (by kernel_rfl) ?_ _
        clear hK K
        gi_wp2
        exact hfin.out
      · have hfin := Lib.hid (HNO.out W' hk hjx)
        clear hjx hk
        refine hK _ _ ?_
        clear hK K
        refine wpAnyIn_ready (rs := [5]) (by kernel_rfl) (by simp) ?_
        refine AllReadyIn.cons rfl (fun K hK => ?_) AllReadyIn.nil
        go_simp
        refine hK _ _ ?_
        refine wpAnyIn_done (by kernel_rfl) ?_ _
        clear hK K
        gi_wp2
        exact hfin.out
  case done =>
    rintro xs O' V hall ⟨O, hj, hOO, hO5, _⟩ hD
    have Hall := Lib.hid (show allA (prs l) (xs.map toP) by rw [show xs = _ from hall]; exact hpp.out.symm)
    have hjD : J (xs.map toP) O (V.putObj w2.heap.size (.deferred none)) := hJ _ _ _ _ _ hj (putObj_grown V _ _) (fun r e => by cases e; exact ⟨by omega, fun h => by have := hO5 _ h; omega⟩)
    clear hall
    go_wp2
    refine hR.out _ _ _ _ (by simp) ?_
    refine ⟨by simp, .inl ⟨_, _, rfl, run_takeDeferred hD, ?_⟩⟩
    exact ⟨_, results_none rfl _ _ _, itEnd.all Hall.out hjD⟩
  case stop =>
    rintro c' pre' O' V hsp ⟨rfl, O, hOO, hO5, hjx⟩ hD
    have hOD : ∀ r, some w2.heap.size = some r → W.heap.size ≤ r ∧ ¬ O r := fun r e => by cases e; exact ⟨by omega, fun h => by have := hO5 _ h; omega⟩
    have hsp2 : someA (prs l) (pre'.map toP) := by
      obtain ⟨post, e⟩ := hsp
      exact ⟨post.map toP, by rw [hpp.out]; unfold nzl; rw [e]; simp⟩
    have hend : Hid (itEnd (allA (prs l)) (someA (prs l)) J Jx (.returned (.tuple #[])) (V.putObj w2.heap.size (.deferred none))) := Lib.hid (itEnd.part hsp2 (hJx _ _ _ _ _ hjx (putObj_grown V _ _) hOD))
    clear hsp hjx hsp2
    refine wpIn_wide.2 ?_
    go_wp2
    refine hR.out _ _ _ _ (by simp) ?_
    refine ⟨by simp, .inl ⟨_, _, rfl, run_takeDeferred hD, ?_⟩⟩
    exact ⟨_, results_none rfl _ _ _, hend.out⟩
end Go.Proofs.Ytodbaahnmmfgiaa.Lk

namespace Go.Proofs.Ytodbaahnmmfgiaa.Lk
open Go.RowKit Go.Shelf
attribute [local go_sem] Oper.semAt_some

/- THE LOCKS THAT ARE SOMEBODY's; WHAT A THREAD HAS; MAY IT TRY? -/
def OwnI (w : World) (l : Ls) (e : Ending) (w' : World) : Prop :=
  ∃ lb Pv, e = .returned (.func (.func 66) #[] lb) ∧ It Try.prog 66 lb encP (fun _ _ => False) (preA (prs l)) Pv (allA (prs l)) (someA (prs l)) w' ∧ (∀ k, Pv k → w.heap.size ≤ k ∧ k < w'.heap.size) ∧ Below w.heap.size w w'
theorem own_fin {w w2 : World} {l : Ls} (hth : Ths l) (hl : l.length ≤ 64) {A : Option Addr} {c bw : Nat} (hbw : w.heap.size ≤ bw) (hA : ∀ g, A = some ⟨g, 0, none⟩ → w.heap.size ≤ g)
    (hcw : w2.cell? ⟨bw, 0, none⟩ = some (.slice A (l.map wz).length c)) (hs : Ce.Src w2 A (l.map wz)) (hb : Below w.heap.size w w2) :
    OwnI w l (.returned (.func (.func 66) #[] #[bx w2.heap.size])) (w2.alloc (.cells #[.func (.func 78) #[] #[bx bw]] 109)) := by
  have hb2 := below1 w2 (.cells #[.func (.func 78) #[] #[bx bw]] 109)
  have hcw2 := (hb2.cell (p := ⟨bw, 0, none⟩) (lt_of_cell hcw)).trans hcw
  refine ⟨_, _, rfl, own1_it l hth w2.heap.size bw A c _ hl (cell_alloc_new _ _ _ _) hcw2 (hs.below hb2), ?_, below0 hb hb2⟩
  rintro k (rfl | rfl | h)
  · exact ⟨hb.size, by simp⟩
  · exact ⟨hbw, lt_of_cell hcw2⟩
  · exact ⟨hA k h, (hs.below hb2).lt h⟩
theorem owned_any {w : World} {bl b g c : Nat} {cs : Ce.Cs} {l : Ls} (h : LRep w bl b g c cs l) : Calls Try.prog 47 #[rk b] w (OwnI w l) := by
  have hb1 := below1 w (.cells #[bx b] 64)
  have ha := Lib.hid (Ce.allF_rep b g c cs _ (h.rep.below hb1) (by have := h.most; have := h.len; omega))
  have hws : Ce.wordsOf cs = l.map wz := h.ws
  rw [hws] at ha
  have HF := Lib.hid (fun w2 A c bw h1 h2 h3 h4 h5 => own_fin (w := w) (w2 := w2) h.th h.most (A := A) (c := c) (bw := bw) h1 h2 h3 h4 h5)
  have hG : Hid (∀ e w', OwnI w l e w' → OwnI w l e w') := Lib.hid fun _ _ h => h
  have HB1 := Lib.hid hb1
  clear h hws hb1
  go_enter Try.func47, Try.ntmps47
  go_wp2_with fail
  refine ha.out.mono ?_
  rintro e w2 ⟨A, c2, bw, rfl, h1, h2, h3, h4, h5⟩
  have hsz : w.heap.size ≤ (w.alloc (.cells #[bx b] 64)).heap.size := by simp
  have hfin := Lib.hid (HF.out w2 A c2 bw (Nat.le_trans hsz h1) (fun g e => Nat.le_trans hsz (h2 g e)) h3 h4 (below0 HB1.out h5))
  clear h1 h2 h3 h4 h5 HF ha hsz
  go_wp2_with fail
  go_ret
  exact hfin.out
theorem owned_non (w : World) : Calls Try.prog 47 #[.agg #[.pointer none]] w (OwnI w []) := by
  have hb1 := below1 w (.cells #[.pointer none] 64)
  have ha := Lib.hid (Ce.allF_non (.pointer none) (w.alloc (.cells #[.pointer none] 64)) (.inl rfl))
  have HF := Lib.hid (fun w2 A c bw h1 h2 h3 h4 h5 => own_fin (w := w) (w2 := w2) (l := []) (fun z h => by cases h) (by simp) (A := A) (c := c) (bw := bw) h1 h2 h3 h4 h5)
  have HB1 := Lib.hid hb1
  clear hb1
  go_enter Try.func47, Try.ntmps47
  go_wp2_with fail
  refine ha.out.mono ?_
  rintro e w2 ⟨A, c2, bw, rfl, h1, h2, h3, h4, h5⟩
  have hsz : w.heap.size ≤ (w.alloc (.cells #[.pointer none] 64)).heap.size := by simp
  have hfin := Lib.hid (HF.out w2 A c2 bw (Nat.le_trans hsz h1) (fun g e => Nat.le_trans hsz (h2 g e)) h3 h4 (below0 HB1.out h5))
  clear h1 h2 h3 h4 h5 HF ha hsz
  go_wp2_with fail
  go_ret
  exact hfin.out

/-! such -/
def gath (p : Nat × Int → Bool) (pre : List (Nat × Int)) : List Nat := (pre.filter p).map Prod.fst
theorem gath_no {p : Nat × Int → Bool} {pre : List (Nat × Int)} {x : Nat × Int} (h : p x = false) : gath p (pre ++ [x]) = gath p pre := by simp [gath, h]
theorem gath_yes {p : Nat × Int → Bool} {pre : List (Nat × Int)} {x : Nat × Int} (h : p x = true) : gath p (pre ++ [x]) = gath p pre ++ [x.1] := by simp [gath, h]
theorem gath_len (p : Nat × Int → Bool) (pre : List (Nat × Int)) : (gath p pre).length ≤ pre.length := by
  unfold gath
  rw [List.length_map]
  exact List.length_filter_le _ _
def SuS (w : World) (cl : Value) (xs : List Nat) (O : Nat → Prop) (V : World) : Prop :=
  ∃ v, Boxed V (w.heap.size + 1) 28 v ∧ Boxed V w.heap.size 88 cl ∧ V.ownsRow (w.heap.size + 2) 3 1 v xs.length (izs (hz xs)) ∧ (∀ k, v.ownBlock = some k → O k) ∧ Below w.heap.size w V ∧ ∀ k, O k → w.heap.size + 2 + 2 ≤ k
def suI (w : World) (cl : Value) (p : Nat × Int → Bool) (pre : List (Nat × Int)) (O : Nat → Prop) (V : World) : Prop := SuS w cl (gath p pre) O V
theorem suI.abid {w : World} {cl : Value} {p : Nat × Int → Bool} : Abid (w.heap.size + 2) (suI w cl p) := by
  rintro pre O V V' row ⟨v, h1, h2, h3, h4, h5, h6⟩ hg hr
  have hne : ∀ k, (k < w.heap.size + 2 ∨ O k) → some k ≠ row := fun k hk e => by
    have := hr k e.symm
    rcases hk with hk | hk
    · omega
    · exact this.2 hk
  exact ⟨v, h1.kept hg (hne _ (.inl (by omega))), h2.kept hg (hne _ (.inl (by omega))), own_same h3 (fun k hk => hg.block k (own_lt h3 hk) (hne k (.inr (h4 k hk)))), h4,
    h5.grown hg h5.size (fun k e => by have := hr k e; omega), h6⟩
theorem izs_hz_snoc (xs : List Nat) (k : Nat) : izs (hz (xs ++ [k])) = izs (hz xs) ++ [.int .i64 (k : Int)] := by simp [izs, hz]
theorem su_round {w V w4 : World} {cl : Value} {xs : List Nat} {k : Nat} {g4 cap4 cv : Nat} {Pv : Nat → Prop} {O : Nat → Prop} {Av : Option Addr} {o : Obj} (hPv : ∀ k, Pv k → k < w.heap.size)
    (hOw : ∀ k, O k → w.heap.size + 2 + 2 ≤ k) (hvO : ∀ k, (Value.slice Av xs.length cv).ownBlock = some k → O k) (hVs : w.heap.size + 2 + 2 ≤ V.heap.size)
    (hown4 : w4.ownsRow (w.heap.size + 2) 3 1 (.slice (some ⟨g4, 0, none⟩) (xs.length + 1) cap4) (xs.length + 1) (izs (hz xs) ++ [.int .i64 (k : Int)]))
    (hg4 : (V.alloc o).grownBy w4 (Value.slice Av xs.length cv).ownBlock) (hv4 : (Value.slice (some ⟨g4, 0, none⟩) (xs.length + 1) cap4).ownBlock = (Value.slice Av xs.length cv).ownBlock ∨ (Value.slice (some ⟨g4, 0, none⟩) (xs.length + 1) cap4).ownBlock = some (V.alloc o).heap.size)
    (hbx4 : Boxed w4 (w.heap.size + 1) 28 (.slice Av xs.length cv)) (hbc4 : Boxed w4 w.heap.size 88 cl) (hbl : Below w.heap.size w V) :
    Keeps Pv (w.heap.size + 2) O (fun _ => False) V (w4.setCell ⟨w.heap.size + 1, 0, none⟩ (.slice (some ⟨g4, 0, none⟩) (xs.length + 1) cap4)) ∧
      SuS w cl (xs ++ [k]) (nextO O (fun _ => False) V (w4.setCell ⟨w.heap.size + 1, 0, none⟩ (.slice (some ⟨g4, 0, none⟩) (xs.length + 1) cap4))) (w4.setCell ⟨w.heap.size + 1, 0, none⟩ (.slice (some ⟨g4, 0, none⟩) (xs.length + 1) cap4)) := by
  have hgs := hg4.size
  rw [World.size_alloc] at hgs
  obtain ⟨w5, hw5⟩ : ∃ w5, w5 = w4.setCell ⟨w.heap.size + 1, 0, none⟩ (.slice (some ⟨g4, 0, none⟩) (xs.length + 1) cap4) := ⟨_, rfl⟩
  have hs5 : w5.heap.size = w4.heap.size := by rw [hw5]; simp [World.setCell]
  have hk5 : ∀ k, k ≠ w.heap.size + 1 → w5.heap[k]? = w4.heap[k]? := fun k hk => by rw [hw5]; exact Below.heap_setCell _ _ _ _ hk
  have hB5 : Boxed w5 (w.heap.size + 1) 28 (.slice (some ⟨g4, 0, none⟩) (xs.length + 1) cap4) := by rw [hw5]; exact hbx4.set _
  have hM5 : Boxed w5 w.heap.size 88 cl := (hk5 _ (by omega)).trans hbc4
  have hwV := hbl.size
  have hb5 : Below w.heap.size w w5 := by
    rw [hw5]
    exact ((hbl.alloc hwV o).grown hg4 (by simp; omega) (fun k hk => by have := hOw _ (hvO k hk); omega)).setCell (by show w.heap.size ≤ w.heap.size + 1; omega) _
  rw [← hw5]
  refine ⟨⟨by omega, fun j hkl hp => ?_⟩, _, hB5, hM5, ?_, ?_, hb5, nextO_ge hOw (fun _ h => h.elim) hVs⟩
  · have hno : ¬ O j := by
      rcases hp with h | ⟨_, h, _⟩
      · exact fun ho => by have := hOw j ho; have := hPv j h; omega
      · exact h
    have hne : j ≠ w.heap.size + 1 := by
      rcases hp with h | ⟨h, _⟩
      · have := hPv j h; omega
      · omega
    exact (hk5 j hne).trans ((hg4.block j (by rw [World.size_alloc]; omega) (fun e => hno (hvO j e.symm))).trans (Below.heap_alloc _ _ _ hkl))
  · rw [List.length_append, List.length_singleton, izs_hz_snoc]
    refine own_same hown4 (fun j hj => hk5 j ?_)
    rcases hv4 with h | h
    · rw [h] at hj
      have := hOw _ (hvO j hj)
      omega
    · rw [h] at hj
      injection hj with hj
      rw [World.size_alloc] at hj
      omega
  · intro j hj
    have hlt := (hown4.lt j hj).2
    rcases hv4 with h | h
    · exact .inl (hvO j (h ▸ hj))
    · rw [hj] at h
      injection h with h
      rw [World.size_alloc] at h
      exact .inr (.inr ⟨by omega, by omega⟩)
set_option maxRecDepth 100000 in
set_option maxHeartbeats 2000000 in
theorem such_any {l : Ls} (hl : l.length ≤ 64) {lb : Array Value} {Pv : Nat → Prop} {w : World} (hit : It Try.prog 66 lb encP (fun _ _ => False) (preA (prs l)) Pv (allA (prs l)) (someA (prs l)) w) (hpv : ∀ k, Pv k → k < w.heap.size)
    (cf : Nat) (caps : Array Value) (p : Nat × Int → Bool) (hent : ∀ args V, (callFunc cf args).run Try.prog V = .ok (.enter cf args) V)
    (HC : ∀ (x : Nat × Int) V, Below w.heap.size w V → Calls Try.prog cf (#[.int .i64 (x.1 : Int), .int .i64 x.2] ++ caps) V fun e w' => e = .returned (.bool (p x)) ∧ V = w') :
    Calls Try.prog 68 #[.func (.func 66) #[] lb, .func (.func cf) #[] caps] w fun e w' => ∃ u, e = .returned u ∧ Wi w' u (hz (gath p (prs l))) ∧ Below w.heap.size w w' := by
  obtain ⟨i0, hi, hz0, hz1, hz2⟩ := info_parts int_info
  have hpl : (prs l).length ≤ 64 := Nat.le_trans (prTo_len l l.length) hl
  obtain ⟨L, hL⟩ : ∃ L, L = prs l := ⟨_, rfl⟩
  rw [← hL] at hit hpl ⊢
  have HCH := Lib.hid HC
  clear hL HC
  obtain ⟨w2, hw2⟩ : ∃ w2, w2 = (w.alloc (.cells #[.func (.func cf) #[] caps] 88)).alloc (.cells #[.slice none 0 0] 28) := ⟨_, rfl⟩
  have hs2 : w2.heap.size = w.heap.size + 2 := by rw [hw2]; simp
  have hB2 : Below w.heap.size w w2 := by rw [hw2]; exact below2 _ _ _
  have hC2 : Boxed w2 w.heap.size 88 (.func (.func cf) #[] caps) := by rw [hw2]; exact (Boxed.new w _ _).alloc _
  have hL2 : Boxed w2 (w.heap.size + 1) 28 (.slice none 0 0) := by
    rw [hw2]
    have := Boxed.new (w.alloc (.cells #[.func (.func cf) #[] caps] 88)) 28 (.slice none 0 0)
    rwa [World.size_alloc] at this
  have hit2 := It.later hit (fun k hk => hB2.block k (hpv k hk)) hB2.size
  refine calls_marks Try.func68 rfl ?_
  simp only [Try.ntmps68, List.size_toArray, List.length_cons, List.length_nil, Nat.reduceAdd, Nat.reduceSub, Array.replicate_succ, Array.replicate_zero, List.push_toArray, List.append_toArray, List.nil_append, List.cons_append]
  go_wp2_with fail
  rw [← hw2]
  clear hw2
  go_wp2_with fail
  refine wpIn_wide.1 (wpIn_range_it (gf := 66) (lb := lb) rfl (enters_of Try.func66 (by kernel_rfl) rfl) hit2 (fun k hk => Nat.lt_of_lt_of_le (hpv k hk) hB2.size) (fun _ => rfl) (fun _ _ _ _ _ h => h)
    (suI w (.func (.func cf) #[] caps) p) (fun _ _ _ _ => False) (by rw [hs2]; exact suI.abid) (fun _ _ _ _ _ _ h => h.elim) ?h0
    (fun x => { tmps := #[.func (.func 66) #[] lb, .func (.func cf) #[] caps, undef, .pointer (some ⟨w.heap.size, 0, none⟩), .slice none 0 0, .pointer (some ⟨w.heap.size + 1, 0, none⟩), .int .i64 (x.1 : Int), .int .i64 x.2, .func (.func 66) #[] lb, .int .i64 (x.1 : Int), .int .i64 x.2, undef, undef, undef, undef, undef, undef, undef, undef, undef], defers := [] }) ?assign ?body ?done ?stop)
  case h0 => exact ⟨_, hL2, hC2, World.ownsRow_nil _ _ _ _, fun k h => (by cases h), hB2, fun _ h => h.elim⟩
  case assign =>
    intro l' x W' K hK
    simp only [encP]
    gi_wp2
    exact hK
  case body =>
    rintro l' pre x O V hVs hO ⟨v, hbx, hbc, hown, hvO, hbl, hOw⟩ hx _
    have hn : (gath p pre).length ≤ 64 := by
      have h1 := gath_len p pre
      obtain ⟨post, e⟩ := hx
      have h2 := congrArg List.length e
      simp only [List.length_append, List.length_cons] at h2
      omega
    have HCC := Lib.hid (HCH.out x V hbl)
    clear hx hit hit2 hL2 hC2 HCH
    obtain ⟨Av, cv, rfl⟩ := own_slice hown
    have hcc := hbc.cell
    have HNO := Lib.hid (fun (hp : p x = false) => (show suI w (.func (.func cf) #[] caps) p (pre ++ [x]) (nextO O (fun _ => False) V V) V from by
      unfold suI
      rw [gath_no hp]
      exact ⟨_, hbx, hbc, hown, fun k hk => .inl (hvO k hk), hbl, nextO_ge hOw (fun _ h => h.elim) (by omega)⟩))
    have HYE := Lib.hid (fun (hp : p x = true) (w4 : World) (g4 cap4 : Nat) h1 h2 h3 h4 h5 => (show Keeps Pv (w.heap.size + 2) O (fun _ => False) V _ ∧ suI w (.func (.func cf) #[] caps) p (pre ++ [x]) (nextO O (fun _ => False) V _) _ from by
      unfold suI
      rw [gath_yes hp]
      exact su_round (w4 := w4) (g4 := g4) (cap4 := cap4) (k := x.1) (o := .cells #[.int .i64 (x.1 : Int)] 3) hpv hOw hvO (by omega) h1 h2 h3 h4 h5 hbl))
    obtain ⟨q, hq⟩ : ∃ q, q = p x := ⟨_, rfl⟩
    obtain ⟨n, hnn⟩ : ∃ n, n = (gath p pre).length := ⟨_, rfl⟩
    obtain ⟨xs, hxs⟩ : ∃ xs, xs = izs (hz (gath p pre)) := ⟨_, rfl⟩
    rw [← hq] at HCC HNO HYE
    rw [← hnn, ← hxs] at HYE hown
    rw [← hnn] at hbx hn
    have hlx : xs.length = n := by rw [hxs, izs_len, hz_len, hnn]
    have Hs2 := Lib.hid hs2
    clear hq hnn hxs hcc hvO
    have hcc := hbc.cell
    cases q
    · clear HYE
      gi_wp2_with fail
      refine ⟨trivial, rfl, CallsIn.inRound l' ((callsIn_wide.2 HCC.out).mono ?_)⟩
      rintro e w1 ⟨rfl, rfl⟩
      have hfin := Lib.hid (HNO.out trivial)
      clear HNO HCC hown hbx hbc hbl
      gi_wp2
      exact ⟨Keeps.refl _, hfin.out⟩
    · clear HNO
      gi_wp2_with fail
      refine ⟨trivial, rfl, CallsIn.inRound l' ((callsIn_wide.2 HCC.out).mono ?_)⟩
      rintro e w1 ⟨rfl, rfl⟩
      have hown1 := hown.alloc (.cells #[.int .i64 (x.1 : Int)] 3)
      have hbx1 := hbx.alloc (.cells #[.int .i64 (x.1 : Int)] 3)
      have hbc1 := hbc.alloc (.cells #[.int .i64 (x.1 : Int)] 3)
      have hce := hbx.cell
      have hce1 := hbx1.cell
      have hb1 := hbx.not_row (by decide) hown
      have hb2 := hbc.not_row (by decide) hown
      clear hbx hbc HCC
      gi_wp2_with (gi_at_builtin; refine wpListIn_append_sees rfl (.tmp 15) (.tmp 17) 28 rfl (w.heap.size + 2) 3 i0 _ 1 8 Try.underlying28 hi hz0 hz1 hz2 rfl (by decide) _ n xs rfl hown1 (V.heap.size + 1) (some ⟨V.heap.size, 0, none⟩) 1 1 [.int .i64 (x.1 : Int)] rfl rfl (fun _ => ⟨_, rfl, by simp, cell_one_at _ _ _⟩) (by simp [Value.oneCell']) (by unfold maxLen; omega) (by omega) (by simp; omega) ?_; intro v' w4 hown4 hg4 hv4; obtain ⟨g4, cap4, rfl⟩ := ownsRow_succ hown4; have hbx4 := hbx1.kept hg4 hb1; have hbc4 := hbc1.kept hg4 hb2; have hx4c := hbx4.cell; have hx4f := hbx4.frozen)
      have hfin := Lib.hid (HYE.out trivial w4 g4 cap4 hown4 hg4 hv4 hbx4 hbc4)
      rw [Hs2.out]
      exact hfin.out
  case done =>
    rintro xs O V hall ⟨v, hbx, hbc, hown, hvO, hbl, hOw⟩ hD
    have hnO : ¬ O w2.heap.size := fun h => by have := hOw _ h; omega
    obtain ⟨Av, cv, rfl⟩ := own_slice hown
    have hg := putObj_grown V w2.heap.size (.deferred none)

    have hcv := hbx.cell
    have hown2 := own_same hown (w' := V.putObj w2.heap.size (.deferred none)) (fun k hk => hg.block k (own_lt hown hk) (fun e => by injection e with e; exact hnO (e ▸ hvO k hk)))
    have hfin := Lib.hid (show Wi (V.putObj w2.heap.size (.deferred none)) (.slice Av (gath p xs).length cv) (hz (gath p L)) ∧ Below w.heap.size w (V.putObj w2.heap.size (.deferred none)) from by
      rw [show L = xs from hall.symm]
      exact ⟨by have := wi_own hown2; exact this, hbl.grown hg hbl.size (fun k e => by injection e with e; omega)⟩)
    clear hall hbx hbc hown hbl hvO hown2 hg
    go_wp2
    refine ⟨by simp, .inl ⟨_, _, rfl, run_takeDeferred hD, ?_⟩⟩
    exact ⟨_, results_tmp (t := 4) rfl _ _ _, _, rfl, hfin.out⟩
  case stop => exact fun _ _ _ _ _ h _ => h.elim
end Go.Proofs.Ytodbaahnmmfgiaa.Lk

namespace Go.Proofs.Ytodbaahnmmfgiaa.Lk
open Go.RowKit Go.Shelf
attribute [local go_sem] Oper.semAt_some

/- WHAT A THREAD HAS; MAY IT TRY A LOCK? -/
theorem heldTo_gath {l : Ls} {t : Int} (ht : 0 ≤ t) : ∀ i, heldTo l t i = gath (fun x => x.2 == t) (prTo l i)
  | 0 => rfl
  | i + 1 => by
    rw [heldTo_step, heldTo_gath ht i, prTo]
    unfold prAt
    by_cases h0 : l.getD i (-1) < 0
    · rw [if_pos h0, List.append_nil, if_neg (by omega), List.append_nil]
    · rw [if_neg h0]
      by_cases he : l.getD i (-1) = t
      · rw [if_pos he, gath_yes (by simpa using he)]
      · rw [if_neg he, List.append_nil, gath_no (by simpa using he)]
theorem held_gath {l : Ls} (t : Int) : held l t = gath (fun x => x.2 == t) (prs l) := by
  unfold held
  by_cases h0 : 0 ≤ t
  · rw [if_pos h0]
    exact heldTo_gath h0 _
  · rw [if_neg h0]
    unfold gath
    symm
    rw [List.map_eq_nil_iff, List.filter_eq_nil_iff]
    intro x hx
    have := prTo_mem l _ x hx
    simp
    omega
theorem open_gath {l : Ls} (t : Int) (k : Nat) : ((gath (fun x => x.2 == t && decide (((k : Nat) : Int) ≤ (x.1 : Int))) (prs l)).length : Int) = 0 ↔ highB l t k = false := by
  have e : gath (fun x => x.2 == t && decide (((k : Nat) : Int) ≤ (x.1 : Int))) (prs l) = (held l t).filter fun j => decide (k ≤ j) := by
    rw [held_gath]
    unfold gath
    rw [List.filter_map, List.filter_filter]
    congr 1
    refine List.filter_congr fun x _ => ?_
    rw [Bool.and_comm]
    congr 1
    simp
  rw [e]
  unfold highB
  rw [List.any_eq_false]
  constructor
  · intro h j hj hd
    have h0 : ((held l t).filter fun j => decide (k ≤ j)) = [] := List.eq_nil_of_length_eq_zero (by omega)
    have := List.filter_eq_nil_iff.1 h0 j hj
    exact this hd
  · intro h
    have h0 : ((held l t).filter fun j => decide (k ≤ j)) = [] := List.filter_eq_nil_iff.2 fun j hj => h j hj
    rw [h0]
    rfl
theorem held1_any (x : Nat × Int) (t : Int) (g : Nat) (w : World) (hc : w.cell? ⟨g, 0, none⟩ = some (.int .i64 t)) : Calls Try.prog 73 (#[.int .i64 (x.1 : Int), .int .i64 x.2] ++ #[bx g]) w fun e w' => e = .returned (.bool (x.2 == t)) ∧ w = w' := by
  obtain ⟨q, hq⟩ : ∃ q, q = (x.2 == t) := ⟨_, rfl⟩
  have hd : (x.2 == t) = q := hq.symm
  rw [hd]
  clear hq
  go_enter Try.func73, Try.ntmps73
  go_wp2_with fail
  go_ret
  exact ⟨rfl, rfl⟩
theorem open1_any (x : Nat × Int) (t r : Int) (g g' : Nat) (w : World) (hc : w.cell? ⟨g, 0, none⟩ = some (.int .i64 t)) (hc' : w.cell? ⟨g', 0, none⟩ = some (.int .i64 r)) : Calls Try.prog 69 (#[.int .i64 (x.1 : Int), .int .i64 x.2] ++ #[bx g, bx g']) w fun e w' => e = .returned (.bool (x.2 == t && decide (r ≤ (x.1 : Int)))) ∧ w = w' := by
  obtain ⟨p, hp⟩ : ∃ p, p = decide (r ≤ (x.1 : Int)) := ⟨_, rfl⟩
  have hd2 : decide (r ≤ (x.1 : Int)) = p := hp.symm
  rw [hd2]
  clear hp
  cases hq : (x.2 == t)
  · go_enter Try.func69, Try.ntmps69
    go_wp2_with fail
    go_ret
    exact ⟨rfl, rfl⟩
  · go_enter Try.func69, Try.ntmps69
    go_wp2_with fail
    go_ret
    exact ⟨rfl, rfl⟩
def HeldP (w : World) (L : List Nat) (e : Ending) (w' : World) : Prop := ∃ u, e = .returned u ∧ Wi w' u (hz L) ∧ Below w.heap.size w w'
theorem held_gen {rv : Value} {l : Ls} {w : World} (hl : l.length ≤ 64) (t : Int) (hrk : ∃ x, rv = .agg #[x])
    (ho : ∀ V, Below w.heap.size w V → Calls Try.prog 47 #[rv] V (OwnI V l)) :
    Calls Try.prog 58 #[rv, .int .i64 t] w (HeldP w (held l t)) := by
  obtain ⟨x, rfl⟩ := hrk
  rw [held_gath]
  obtain ⟨w1, hw1⟩ : ∃ w1, w1 = (w.alloc (.cells #[x] 64)).alloc (.cells #[.int .i64 t] 3) := ⟨_, rfl⟩
  have hb1 : Below w.heap.size w w1 := by rw [hw1]; exact below2 _ _ _
  have hc1 : w1.cell? ⟨w.heap.size + 1, 0, none⟩ = some (.int .i64 t) := by rw [hw1]; exact cell_new_at _ _ _ _ (by simp)
  have ho1 := Lib.hid (ho w1 hb1)
  have HF := Lib.hid (fun (w2 : World) lb Pv (hit : It Try.prog 66 lb encP (fun _ _ => False) (preA (prs l)) Pv (allA (prs l)) (someA (prs l)) w2) (hpv : ∀ k, Pv k → w1.heap.size ≤ k ∧ k < w2.heap.size) (hb : Below w1.heap.size w1 w2) =>
    (show Calls Try.prog 68 #[.func (.func 66) #[] lb, .func (.func 73) #[] #[bx (w.heap.size + 1)]] w2 (HeldP w (gath (fun x => x.2 == t) (prs l))) from
      (such_any hl hit (fun k hk => (hpv k hk).2) 73 #[bx (w.heap.size + 1)] (fun x => x.2 == t) (enters_of Try.func73 (by kernel_rfl) rfl)
        (fun x V hV => held1_any x t _ V ((hV.cell (p := ⟨w.heap.size + 1, 0, none⟩) (by have := lt_of_cell hc1; have := hb.size; simp only at *; omega)).trans ((hb.cell (p := ⟨w.heap.size + 1, 0, none⟩) (lt_of_cell hc1)).trans hc1)))).mono
        fun e w' ⟨u, e1, e2, e3⟩ => ⟨u, e1, e2, below0 hb1 (below0 hb e3)⟩))
  have hcr : w1.cell? ⟨w.heap.size, 0, none⟩ = some x := by rw [hw1]; exact (World.cell?_alloc_lt _ _ _ (by simp)).trans (cell_alloc_new _ _ _ _)
  clear ho
  obtain ⟨L, hL⟩ : ∃ L, L = gath (fun x => x.2 == t) (prs l) := ⟨_, rfl⟩
  rw [← hL] at HF ⊢
  clear hL
  go_enter Try.func58, Try.ntmps58
  go_wp2_with fail
  rw [← hw1]
  clear hw1
  refine ho1.out.mono ?_
  rintro e w2 ⟨lb, Pv, rfl, h1, h2, h3⟩
  have HS := Lib.hid (HF.out w2 lb Pv h1 h2 h3)
  clear h1 h2 h3 HF ho1
  go_wp2_with fail
  refine HS.out.mono ?_
  rintro e w3 ⟨u, rfl, h1, h2⟩
  have hfin := Lib.hid (show HeldP w L (.returned u) w3 from ⟨u, rfl, h1, h2⟩)
  clear h1 h2 HS
  go_wp2
  go_ret
  exact hfin.out
end Go.Proofs.Ytodbaahnmmfgiaa.Lk
