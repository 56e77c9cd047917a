import Derived.Test.YtiahmccchpmdgaaGreatDoorFAE
import Derived.Test.YtiahmccchpmdgaaGreatDoorFAJ
import Derived.Test.YtiahmccchpmdgaaGreatDoorFAB
import Derived.BigQuiet
import Derived.Deep.QuietTactic
namespace Go.Proofs.YtiahmccchpmdgaaGreatDoor.Me
open Go.RowKit Go.Shelf Go.Maps Go.Sort
open Vm (Ask askCells askE Asks ask_cells askE_at askE_end)
attribute [local go_sem] Oper.semAt_some

/- WHAT IS WRONG: THE FIRST QUESTION THAT IS ANSWERED NO. SLOTS' ADDRESSES. -/
set_option maxHeartbeats 1000000 in
theorem asked_any (qs : List Ask) (g n c : Nat) (w : World) (hn : qs.length = n) (hm : n ≤ 100) (hr : Row w g 104 (askCells qs)) (hq : Asks w qs) :
    Calls Tryz.prog 39 #[.slice (some ⟨g, 0, none⟩) n c] w fun e w' => e = .returned (.int .i64 (askE qs)) ∧ Below w.heap.size w w' := by
  have hgl := hr.lt
  have HC := Lib.hid (fun k hk => ask_cells qs k hk)
  have HA := Lib.hid (fun k h1 h2 h3 => askE_at qs k h1 h2 h3)
  have HE := Lib.hid (askE_end qs)
  have HQ := Lib.hid hq
  have HR := Lib.hid hr
  obtain ⟨E, hE⟩ : ∃ E, E = askE qs := ⟨_, rfl⟩
  rw [← hE] at HA HE ⊢
  clear hE hq hr
  go_enter Tryz.func39, Tryz.ntmps39
  go_wp2_with fail
  go_loopw [7] (fun s wr => ∃ k : Nat, k ≤ n ∧ s = .int .i64 (k : Int) ∧ Hid (∀ j (hj : j < qs.length), j < k → qs[j].ans = true) ∧ Below w.heap.size w wr) (fun s _ => n - (_root_.Go.RowKit.intOf s).toNat)
  case atStart => exact ⟨0, by omega, rfl, Lib.hid (fun j hj h => absurd h (by omega)), Below.refl _ _⟩
  case round =>
    obtain ⟨k, hk, rfl, hall, hb⟩ := hrel
    by_cases hlt : k < n
    · have hkl : k < qs.length := by omega
      have e0 : decide ((k : Int) < (n : Int)) = true := decide_eq_true (by omega)
      have i0 : (0 : Int) ≤ (k : Int) := by omega
      have i1 : (k : Int) < (n : Int) := by omega
      obtain ⟨c0, c1⟩ := HC.out k hkl
      have hc0 : wr.cell? ⟨g, k * 2, none⟩ = some qs[k].val := ((hb.cell (p := ⟨g, k * 2, none⟩) hgl).trans (HR.out.cell _)).trans c0
      have hc1 : wr.cell? ⟨g, k * 2 + 1, none⟩ = some (.int .i64 qs[k].e) := ((hb.cell (p := ⟨g, k * 2 + 1, none⟩) hgl).trans (HR.out.cell _)).trans c1
      obtain ⟨hent, hcall⟩ := HQ.out k hkl hall.out
      have HCALL := Lib.hid hcall
      obtain ⟨q, hqe⟩ : ∃ q, q = qs[k] := ⟨_, rfl⟩
      have HQE := Lib.hid hqe
      rw [← hqe] at hc0 hc1 hent HCALL
      obtain ⟨cf, first, cap, ee, ans⟩ := q
      simp only [Ask.val] at hc0 hc1 hent HCALL
      clear hcall c0 c1 hqe
      go_wp2_with fail
      have hb1 := Lib.hid (hb.alloc hb.size (.cells #[.func (.func cf) first cap, .int .i64 ee] 104))
      refine (HCALL.out _ hb1.out).mono ?_
      rintro e w1 ⟨rfl, hb2⟩
      have hd1 : w1.cell? ⟨wr.heap.size, 1, none⟩ = some (.int .i64 ee) := (hb2.cell (p := ⟨wr.heap.size, 1, none⟩) (by simp)).trans (cell_alloc_new _ _ _ _)
      have hb3 := Lib.hid (show Below w.heap.size w w1 from hb1.out.trans (hb2.mono (by have := hb1.out.size; exact this)))
      clear hb2 hb1 hc0 hc1 hent HCALL
      cases ans
      · have hfin := Lib.hid (HA.out k hkl hall.out (by rw [← HQE.out]))
        rw [← HQE.out] at hfin
        go_wp2
        go_ret
        exact ⟨by rw [hfin.out]; rfl, hb3.out⟩
      · have hall2 : Hid (∀ j (hj : j < qs.length), j < k + 1 → qs[j].ans = true) := Lib.hid fun j hj hjk => by
          rcases Nat.lt_or_ge j k with h | h
          · exact hall.out j hj h
          · obtain rfl : j = k := by omega
            rw [← HQE.out]
        go_wp2
        go_roundw
        case rel => exact ⟨k + 1, by omega, by go_num, hall2, hb3.out⟩
        case measure => simp [_root_.Go.RowKit.intOf]; omega
    · obtain rfl : k = n := by omega
      have hfin := Lib.hid (HE.out (fun j hj => hall.out j hj (by omega)))
      go_wp2
      go_ret
      exact ⟨by rw [hfin.out]; rfl, hb⟩
theorem asked_at (qs : List Ask) (n g : Nat) (W : World) (hn : qs.length = n) (hm : n ≤ 100) (hg : W.heap.size = g) (hq : Asks W qs) :
    Calls Tryz.prog 39 #[.slice (some ⟨g, 0, none⟩) n n] (W.alloc (.cells (askCells qs).toArray 104)) fun e w' => e = .returned (.int .i64 (askE qs)) ∧ Below W.heap.size W w' := by
  subst hg
  refine (asked_any qs W.heap.size n n _ hn hm (Row.new W _ _) fun k hk hall => ⟨(hq k hk hall).1, fun V hV => (hq k hk hall).2 V ((below1 _ _).trans (hV.mono (by simp)))⟩).mono fun e w' ⟨e1, e2⟩ => ⟨e1, (below1 _ _).trans (e2.mono (by simp))⟩
theorem at1_any (g : Nat) (x : Bool) (w : World) (h : w.cell? ⟨g, 0, none⟩ = some (.bool x)) : Calls Tryz.prog 40 #[.pointer (some ⟨g, 0, none⟩)] w fun e w' => e = .returned (.bool x) ∧ Below w.heap.size w w' := by
  go_enter Tryz.func40, Tryz.ntmps40
  go_wp2
  go_ret
  exact ⟨rfl, Below.refl _ _⟩
theorem at2_any (g p : Nat) (f k m s c i : Int) (w : World) (h : Row w g 99 [.int .u32 f, .int .i64 k, .int .i64 m]) (hp : Row w p 37 [.int .i64 s, .int .i64 c, .int .i64 i]) : Calls Tryz.prog 41 #[.pointer (some ⟨g, 0, none⟩), .pointer (some ⟨p, 0, none⟩)] w fun e w' => e = .returned (.bool (isB i m)) ∧ Below w.heap.size w w' := by
  have h1 := Lib.hid (has_any f k m i w)
  have c0 : w.cell? ⟨g, 0, none⟩ = _ := h.cell 0
  have c1 : w.cell? ⟨g, 1, none⟩ = _ := h.cell 1
  have c2 : w.cell? ⟨g, 2, none⟩ = _ := h.cell 2
  have c3 : w.cell? ⟨p, 2, none⟩ = _ := hp.cell 2
  obtain ⟨b, hb⟩ : ∃ b, b = isB i m := ⟨_, rfl⟩
  rw [← hb] at h1 ⊢
  clear hb h hp
  go_enter Tryz.func41, Tryz.ntmps41
  go_wp2_with fail
  refine h1.out.mono ?_
  rintro e w1 ⟨rfl, hb1⟩
  go_wp2
  go_ret
  exact ⟨rfl, hb1⟩
/-- what payloads answers: no row, where there is no such slot or class -/
def payR (s c : Int) : Int × Int × Int × Bool := if isB s 4 = true ∧ isB c 8 = true then ((256 * (4096 * s.toNat + 4097 + 17 * c.toNat) + 16 : Nat), (pay c.toNat + 32 : Nat), (cnt c.toNat : Nat), true) else (0, 0, 0, false)
theorem payloads_any (s c : Int) (w : World) (hT : Tabs w) : Calls Tryz.prog 38 #[.int .i64 s, .int .i64 c] w fun e w' => e = .returned (.tuple #[roV (payR s c).1 (payR s c).2.1 (payR s c).2.2.1, .bool (payR s c).2.2.2]) ∧ Below w.heap.size w w' := by
  unfold payR
  by_cases h : isB s 4 = true ∧ isB c 8 = true
  · rw [if_pos h]
    obtain ⟨s, rfl, hs⟩ := isB_nat h.1
    obtain ⟨c, rfl, hc⟩ := isB_nat h.2
    simp only [Int.toNat_natCast]
    exact payloads_yes s c w hT hs hc
  · rw [if_neg h]
    refine payloads_no s c w ?_
    rcases h1 : isB s 4 with _ | _
    · exact .inl rfl
    · rcases h2 : isB c 8 with _ | _
      · exact .inr rfl
      · exact absurd ⟨h1, h2⟩ h
def atL (s g p : Nat) (x y : Bool) : List Ask := [⟨40, #[], #[.pointer (some ⟨g, 0, none⟩)], 2, x⟩, ⟨41, #[], #[.pointer (some ⟨s, 0, none⟩), .pointer (some ⟨p, 0, none⟩)], 4, y⟩]
theorem at_asks {W : World} {s g p : Nat} {f k m a c i : Int} {x : Bool} (h1 : W.cell? ⟨g, 0, none⟩ = some (.bool x)) (h2 : Row W s 99 [.int .u32 f, .int .i64 k, .int .i64 m]) (h3 : Row W p 37 [.int .i64 a, .int .i64 c, .int .i64 i]) : Asks W (atL s g p x (isB i m)) := by
  intro q hq hall
  rcases q with _ | _ | q
  · exact ⟨enters_of Tryz.func40 (by kernel_rfl) rfl, fun V hV => at1_any g x V ((hV.cell (p := ⟨g, 0, none⟩) (lt_of_cell h1)).trans h1)⟩
  · exact ⟨enters_of Tryz.func41 (by kernel_rfl) rfl, fun V hV => at2_any s p f k m a c i V (h2.below hV) (h3.below hV)⟩
  · simp [atL] at hq
    omega
theorem at_E (a b d : Nat) (s c i : Int) : askE (atL a b d (payR s c).2.2.2 (isB i (payR s c).2.2.1)) = asksS s c i := by
  unfold asksS payR
  by_cases h : isB s 4 = true ∧ isB c 8 = true
  · rw [if_pos h, if_pos h]
    simp only [atL, askE, if_true]
    unfold isB
    by_cases h1 : i < 0 ∨ ((cnt c.toNat : Nat) : Int) ≤ i
    · rw [if_pos h1, if_neg (by simp; omega)]
    · rw [if_neg h1, if_pos (by simp; omega)]
  · rw [if_neg h, if_neg h]
    rfl
/-- behind the call: the row that it answered, and whether there is one -/
theorem at_world {w w1 : World} (f k m : Int) (x : Bool) (s c i : Int) (hb : Below (w.heap.size + 1) (w.alloc (.cells #[.int .i64 s, .int .i64 c, .int .i64 i] 37)) w1) : ∃ W, W = ((w1.alloc (.cells #[.int .u32 f, .int .i64 k, .int .i64 m] 99)).alloc (.cells #[.bool x] 4)) ∧ W.heap.size = w1.heap.size + 1 + 1 ∧ W.cell? ⟨w1.heap.size + 1, 0, none⟩ = some (.bool x) ∧ Row W w1.heap.size 99 [.int .u32 f, .int .i64 k, .int .i64 m] ∧ Row W w.heap.size 37 [.int .i64 s, .int .i64 c, .int .i64 i] ∧ Below w.heap.size w W := by
  have hs := hb.size
  have hbw : Below w1.heap.size w1 ((w1.alloc (.cells #[.int .u32 f, .int .i64 k, .int .i64 m] 99)).alloc (.cells #[.bool x] 4)) := ((Below.refl _ _).alloc (Nat.le_refl _) _).alloc (by simp) _
  have r0 : Row w1 w.heap.size 37 [.int .i64 s, .int .i64 c, .int .i64 i] := (Row.new w _ _).below (by rw [World.size_alloc]; exact hb)
  refine ⟨_, rfl, by simp, ?_, (Row.new w1 _ [.int .u32 f, .int .i64 k, .int .i64 m]).below (below1 _ _), r0.below hbw, (below1 w _).trans ((hb.trans (hbw.mono (by simpa using hs))).mono (by omega))⟩
  have rc : Row ((w1.alloc (.cells #[.int .u32 f, .int .i64 k, .int .i64 m] 99)).alloc (.cells #[.bool x] 4)) (w1.heap.size + 1) 4 [.bool x] := Row.new_at _ _ _ (by simp)
  exact rc.cell 0
set_option maxHeartbeats 2000000 in
theorem at_walk (s c i f k m E z : Int) (x : Bool) (w : World) (h1 : Calls Tryz.prog 38 #[.int .i64 s, .int .i64 c] (w.alloc (.cells #[.int .i64 s, .int .i64 c, .int .i64 i] 37)) fun e w' => e = .returned (.tuple #[roV f k m, .bool x]) ∧ Below (w.heap.size + 1) (w.alloc (.cells #[.int .i64 s, .int .i64 c, .int .i64 i] 37)) w')
    (hE : ∀ a b d, askE (atL a b d x (isB i m)) = E) (hz : E = 0 → ∀ W, Calls Tryz.prog 43 #[roV f k m, .int .i64 i] W fun e w' => e = .returned (.int .u32 z) ∧ Below W.heap.size W w') :
    Calls Tryz.prog 12 #[spV s c i] w fun e w' => e = .returned (.tuple #[.int .u32 (if E = 0 then z else 0), .int .i64 E]) ∧ Below w.heap.size w w' := by
  have H1 := Lib.hid h1
  have HW := Lib.hid (fun w1 hb => at_world (w := w) (w1 := w1) f k m x s c i hb)
  have HA := Lib.hid (fun (W : World) (s' g p g' : Nat) (hg : W.heap.size = g') (a1 : W.cell? ⟨g, 0, none⟩ = some (.bool x)) (a2 : Row W s' 99 [.int .u32 f, .int .i64 k, .int .i64 m]) (a3 : Row W p 37 [.int .i64 s, .int .i64 c, .int .i64 i]) => (asked_at (atL s' g p x (isB i m)) 2 g' W rfl (by omega) hg (at_asks a1 a2 a3)).mono fun e w' ⟨e1, e2⟩ => (show e = Ending.returned (.int .i64 E) ∧ Below W.heap.size W w' from ⟨by rw [e1, hE], e2⟩))
  have HZ := Lib.hid hz
  simp only [atL, askCells, Ask.val, List.flatMap_cons, List.flatMap_nil, List.append_nil, List.cons_append, List.nil_append] at HA
  clear h1 hE hz
  obtain ⟨Z, hZ⟩ : ∃ Z, Z = if E = 0 then z else 0 := ⟨_, rfl⟩
  rw [← hZ]
  go_enter Tryz.func12, Tryz.ntmps12
  go_wp2_with fail
  refine wp_scope_jump 1 fun R hR hJm => ?_
  go_wp2_with fail
  refine H1.out.mono ?_
  rintro e w1 ⟨rfl, hb1⟩
  obtain ⟨W, hW, hs, hx, hr, hp, hB⟩ := HW.out _ hb1
  have HS := Lib.hid (show W.heap.size = w1.heap.size + 1 + 1 from hs)
  have HX := Lib.hid hx
  have HR := Lib.hid hr
  have HP := Lib.hid hp
  have HB := Lib.hid hB
  have HWE := Lib.hid hW
  clear hW hs hx hr hp hB hb1 H1 HW
  go_wp2_with fail
  rw [<- HWE.out]
  refine (HA.out W w1.heap.size (w1.heap.size + 1) w.heap.size _ HS.out HX.out HR.out HP.out).mono ?_
  rintro e W2 ⟨rfl, hb2⟩
  have hr2 := HR.out.below hb2
  have hp2 := HP.out.below hb2
  have HB2 := Lib.hid (below0 HB.out hb2)
  have c0 : World.cell? W2 ⟨w1.heap.size, 0, none⟩ = _ := hr2.cell 0
  have c1 : World.cell? W2 ⟨w1.heap.size, 1, none⟩ = _ := hr2.cell 1
  have c2 : World.cell? W2 ⟨w1.heap.size, 2, none⟩ = _ := hr2.cell 2
  have c3 : World.cell? W2 ⟨w.heap.size, 2, none⟩ = _ := hp2.cell 2
  clear hr2 hp2 hb2 HA HR HP HB HX HWE
  by_cases h0 : E = 0
  · subst h0
    rw [if_pos rfl] at hZ
    subst hZ
    have HZ2 := Lib.hid (HZ.out rfl)
    clear HZ
    go_wp2_with fail
    refine (HZ2.out _).mono ?_
    rintro e W3 ⟨rfl, hb3⟩
    have HB3 := Lib.hid (below0 HB2.out hb3)
    clear hb3
    go_wp2
    refine hR.out _ _ _ _ (by simp) ?_
    exact bodyPost_ret (v := .tuple #[.int .u32 Z, .int .i64 0]) (by simp [results, Tryz.results12, go_sem]) rfl ⟨rfl, HB3.out⟩
  · rw [if_neg h0] at hZ
    subst hZ
    have e0 : (E == 0) = false := by rw [beq_eq_false_iff_ne]; exact h0
    go_wp2_with fail
    refine wp_goto (hJm.out _ _ _ _ _ rfl ?_)
    go_wp2
    refine hR.out _ _ _ _ (by simp) ?_
    exact bodyPost_ret (v := .tuple #[.int .u32 0, .int .i64 E]) (by simp [results, Tryz.results12, go_sem]) rfl ⟨rfl, HB2.out⟩
theorem wrapU (a : Int) (h : 0 ≤ a) (h2 : a < 4294967296) : IntKind.u32.wrap a = a := by rw [IntKind.wrap_u32]; omega
theorem at_yes {s c i : Nat} (w : World) (hT : Tabs w) (h : okS s c i) : Calls Tryz.prog 12 #[spV (s : Int) (c : Int) (i : Int)] w fun e w' => e = .returned (.tuple #[.int .u32 (atS s c i : Int), .int .i64 0]) ∧ Below w.heap.size w w' := by
  obtain ⟨hs, hc, hi⟩ := h
  have hl := off_lt hc hi
  have hcn := cnt_le hc
  have hpb := pay_bound hc
  have hE : askE (atL 0 0 0 true (isB (i : Int) ((cnt c : Nat) : Int))) = 0 := by
    rw [isB_yes hi]
    rfl
  have hik : i * (pay c + 32) ≤ 4096 := by omega
  refine (at_walk (s : Int) (c : Int) (i : Int) _ _ _ 0 (atS s c i : Int) true w ((payloads_yes s c _ (hT.below (below1 _ _)) hs hc).mono fun e w' ⟨e1, e2⟩ => ⟨e1, by rw [World.size_alloc] at e2; exact e2⟩) (fun a b d => hE) fun _ W => at_any _ _ _ _ (i * (pay c + 32) : Nat) (i * (pay c + 32) : Nat) _ W ?_ ?_ ?_).mono fun e w' ⟨e1, e2⟩ => ⟨by rw [e1, if_pos rfl], e2⟩
  · rw [wrapI _ (by rw [← Int.natCast_mul]; omega) (by rw [← Int.natCast_mul]; omega), Int.natCast_mul]
  · exact wrapU _ (by omega) (by omega)
  · rw [← Int.natCast_add, wrapU _ (by omega) (by omega)]
    unfold atS
    congr 1
    omega
theorem at_no {s c i : Int} (w : World) (hT : Tabs w) (h : asksS s c i ≠ 0) : Calls Tryz.prog 12 #[spV s c i] w fun e w' => e = .returned (.tuple #[.int .u32 0, .int .i64 (asksS s c i)]) ∧ Below w.heap.size w w' :=
  (at_walk s c i _ _ _ (asksS s c i) 0 _ w ((payloads_any s c _ (hT.below (below1 _ _))).mono fun e w' ⟨e1, e2⟩ => ⟨e1, by rw [World.size_alloc] at e2; exact e2⟩) (fun a b d => at_E a b d s c i) fun e => absurd e h).mono fun e w' ⟨e1, e2⟩ => ⟨by rw [e1, if_neg h], e2⟩
end Go.Proofs.YtiahmccchpmdgaaGreatDoor.Me

namespace Go.Proofs.YtiahmccchpmdgaaGreatDoor.Vm
open Go.RowKit Go.Shelf Go.Maps Go.Sort
attribute [local go_sem] Oper.semAt_some

/- A MEMORY: A TABLE AND A POOL; ITS SMALL CALLS. -/

structure MRep (w : World) (b t q : Nat) (l : Pg.Tb) (p : Pl) (F1 F2 : Nat → Prop) : Prop where
  obj : Row w b 158 [bx t, bx q]
  tab : Pg.Has w t l F1
  pool : Has w q p F2
  apart : ∀ k, F1 k → ¬ F2 k
  b1 : ¬ F1 b
  b2 : ¬ F2 b
section
variable {w w' : World} {b t q : Nat} {l : Pg.Tb} {p : Pl} {F1 F2 : Nat → Prop}
theorem MRep.c0 (h : MRep w b t q l p F1 F2) : w.cell? ⟨b, 0, none⟩ = some (bx t) := h.obj.cell 0
theorem MRep.c1 (h : MRep w b t q l p F1 F2) : w.cell? ⟨b, 1, none⟩ = some (bx q) := h.obj.cell 1
theorem MRep.below (h : MRep w b t q l p F1 F2) (hb : Below w.heap.size w w') : MRep w' b t q l p F1 F2 :=
  ⟨h.obj.below hb, h.tab.below hb, h.pool.below hb, h.apart, h.b1, h.b2⟩
end

def ownsB (o : Int) : Bool := decide (-1 ≤ o) && decide (o < 64)
theorem owns_any (o : Int) (w : World) : Calls Tryz.prog 102 #[.int .i64 o] w fun e w' => e = .returned (.bool (ownsB o)) ∧ w = w' := by
  unfold ownsB
  go_enter Tryz.func102, Tryz.ntmps102
  by_cases h0 : -1 ≤ o
  · have e0 : decide (-1 ≤ o) = true := decide_eq_true h0
    obtain ⟨q, hq⟩ : ∃ q, q = decide (o < 64) := ⟨_, rfl⟩
    rw [← hq]
    go_wp2
    go_ret
    exact ⟨by simp [hq, h0], rfl⟩
  · have e0 : decide (-1 ≤ o) = false := decide_eq_false h0
    go_wp2
    go_ret
    exact ⟨by simp, rfl⟩
theorem pays_any (o : Int) (w : World) : Calls Tryz.prog 103 #[.int .i64 o] w fun e w' => e = .returned (.bool (ownerB o)) ∧ w = w' := by
  unfold ownerB
  go_enter Tryz.func103, Tryz.ntmps103
  by_cases h0 : 0 ≤ o
  · have e0 : decide (0 ≤ o) = true := decide_eq_true h0
    obtain ⟨q, hq⟩ : ∃ q, q = decide (o < 64) := ⟨_, rfl⟩
    rw [← hq]
    go_wp2
    go_ret
    exact ⟨by simp [hq, h0], rfl⟩
  · have e0 : decide (0 ≤ o) = false := decide_eq_false h0
    go_wp2
    go_ret
    exact ⟨by simp, rfl⟩
theorem allowed_any (o : Int) (w : World) : Calls Tryz.prog 104 #[.int .i64 o] w fun e w' => e = .returned (.bool (Pg.mayB o)) ∧ w = w' := by
  unfold Pg.mayB
  go_enter Tryz.func104, Tryz.ntmps104
  by_cases h0 : 0 ≤ o
  · have e0 : decide (0 ≤ o) = true := decide_eq_true h0
    obtain ⟨q, hq⟩ : ∃ q, q = decide (o ≤ 2) := ⟨_, rfl⟩
    rw [← hq]
    go_wp2
    go_ret
    exact ⟨by simp [hq, h0], rfl⟩
  · have e0 : decide (0 ≤ o) = false := decide_eq_false h0
    go_wp2
    go_ret
    exact ⟨by simp, rfl⟩
theorem known_any (z : Int) (w : World) : Calls Tryz.prog 106 #[.int .i64 z] w fun e w' => e = .returned (.bool (Pg.pageB z)) ∧ w = w' := by
  unfold Pg.pageB
  go_enter Tryz.func106, Tryz.ntmps106
  by_cases h0 : 0 ≤ z
  · have e0 : decide (0 ≤ z) = true := decide_eq_true h0
    obtain ⟨q, hq⟩ : ∃ q, q = decide (z < 65536) := ⟨_, rfl⟩
    rw [← hq]
    go_wp2
    go_ret
    exact ⟨by simp [hq, h0], rfl⟩
  · have e0 : decide (0 ≤ z) = false := decide_eq_false h0
    go_wp2
    go_ret
    exact ⟨by simp, rfl⟩
theorem there_any (b q : Nat) (w : World) (hc : w.cell? ⟨b, 1, none⟩ = some (bx q)) : Calls Tryz.prog 100 #[bx b] w fun e w' => e = .returned (.bool true) ∧ w = w' := by
  go_enter Tryz.func100, Tryz.ntmps100
  go_wp2
  go_ret
  exact ⟨rfl, rfl⟩
theorem frames_any (b q : Nat) (w : World) (hc : w.cell? ⟨b, 1, none⟩ = some (bx q)) : Calls Tryz.prog 74 #[bx b] w fun e w' => e = .returned (bx q) ∧ w = w' := by
  have h1 := Lib.hid (there_any b q w hc)
  go_enter Tryz.func74, Tryz.ntmps74
  go_wp2_with fail
  refine h1.out.mono ?_
  rintro e _ ⟨rfl, rfl⟩
  go_wp2
  go_ret
  exact ⟨rfl, rfl⟩
theorem entries_any (b t q : Nat) (w : World) (h0 : w.cell? ⟨b, 0, none⟩ = some (bx t)) (hc : w.cell? ⟨b, 1, none⟩ = some (bx q)) : Calls Tryz.prog 163 #[bx b] w fun e w' => e = .returned (bx t) ∧ w = w' := by
  have h1 := Lib.hid (there_any b q w hc)
  go_enter Tryz.func163, Tryz.ntmps163
  go_wp2_with fail
  refine h1.out.mono ?_
  rintro e _ ⟨rfl, rfl⟩
  go_wp2
  go_ret
  exact ⟨rfl, rfl⟩
/-- Get of a table that is there -/
theorem get_any {w : World} {t : Nat} {l : Pg.Tb} {F : Nat → Prop} (h : Pg.Has w t l F) (z : Int) (hz : Pg.I64 z) : Calls Tryz.prog 186 #[bx t, .int .i64 z] w fun e w' => e = .returned (.tuple #[Pg.enV (Pg.getX l z), .bool (Pg.look l z).isSome]) ∧ Below w.heap.size w w' := by
  obtain ⟨bp, bf, hr, _⟩ := h
  exact Pg.get_any hr z hz
theorem mapped_any {w : World} {t : Nat} {l : Pg.Tb} {F : Nat → Prop} (h : Pg.Has w t l F) (z : Int) (hz : Pg.I64 z) : Calls Tryz.prog 108 #[.agg #[bx t], .int .i64 z] w fun e w' => e = .returned (.bool (Pg.look l z).isSome) ∧ Below w.heap.size w w' := by
  have hb := Lib.hid (below1 w (.cells #[bx t] 156))
  have h1 := Lib.hid (get_any (h.below hb.out) z hz)
  obtain ⟨s, hs⟩ : ∃ s, s = (Pg.look l z).isSome := ⟨_, rfl⟩
  obtain ⟨⟨a1, a2, a3⟩, ha⟩ : ∃ a, a = Pg.getX l z := ⟨_, rfl⟩
  rw [← hs, ← ha] at h1
  rw [← hs]
  clear hs ha h
  go_enter Tryz.func108, Tryz.ntmps108
  go_wp2_with fail
  refine h1.out.mono ?_
  rintro e w1 ⟨rfl, hb1⟩
  have HB := Lib.hid (below0 hb.out hb1)
  clear hb1
  simp only [Pg.enV, Pg.enC]
  go_wp2_with fail
  go_ret
  exact ⟨rfl, HB.out.alloc HB.out.size _⟩
theorem framed_any {w : World} {t : Nat} {l : Pg.Tb} {F : Nat → Prop} (h : Pg.Has w t l F) (z : Int) (hz : Pg.I64 z) : Calls Tryz.prog 116 #[.agg #[bx t], .int .i64 z] w fun e w' => e = .returned (.int .i64 (Pg.getX l z).2.2) ∧ Below w.heap.size w w' := by
  have hb := Lib.hid (below1 w (.cells #[bx t] 156))
  have h1 := Lib.hid (get_any (h.below hb.out) z hz)
  obtain ⟨s, hs⟩ : ∃ s, s = (Pg.look l z).isSome := ⟨_, rfl⟩
  obtain ⟨⟨a1, a2, a3⟩, ha⟩ : ∃ a, a = Pg.getX l z := ⟨_, rfl⟩
  rw [← hs, ← ha] at h1
  rw [← ha]
  clear hs ha h
  simp only
  go_enter Tryz.func116, Tryz.ntmps116
  go_wp2_with fail
  refine h1.out.mono ?_
  rintro e w1 ⟨rfl, hb1⟩
  have HB := Lib.hid (below0 hb.out hb1)
  clear hb1
  simp only [Pg.enV, Pg.enC]
  go_wp2_with fail
  go_ret
  exact ⟨rfl, HB.out.alloc HB.out.size _⟩
/-- an owner's page, where he may do that -/
def grantB (l : Pg.Tb) (z o m : Int) : Bool := match Pg.look l z with
  | some e => (e.1 != -1) && (e.1 == o) && decide (m ≤ e.2.1)
  | none => false
theorem grants_any {w : World} {t : Nat} {l : Pg.Tb} {F : Nat → Prop} (h : Pg.Has w t l F) (z : Int) (hz : Pg.I64 z) (o m : Int) : Calls Tryz.prog 142 #[.agg #[bx t], .int .i64 z, .int .i64 o, .int .i64 m] w fun e w' => e = .returned (.bool (grantB l z o m)) ∧ Below w.heap.size w w' := by
  have hb := Lib.hid (below1 w (.cells #[bx t] 156))
  have h1 := Lib.hid (get_any (h.below hb.out) z hz)
  unfold grantB
  unfold Pg.getX at h1
  clear h
  cases hl : Pg.look l z with
  | none =>
    rw [hl] at h1
    simp only [Option.getD_none, Option.isSome_none, Pg.enV, Pg.enC, Pg.zeroEn] at h1
    clear hl
    go_enter Tryz.func142, Tryz.ntmps142
    go_wp2_with fail
    refine h1.out.mono ?_
    rintro e w1 ⟨rfl, hb1⟩
    have HF := Lib.hid ((below0 hb.out hb1).alloc (below0 hb.out hb1).size (.cells #[.int .i64 0, .int .i64 0, .int .i64 0] 181))
    clear hb1 h1
    go_wp2_with fail
    go_ret
    exact ⟨rfl, HF.out⟩
  | some e =>
    obtain ⟨a1, a2, a3⟩ := e
    rw [hl] at h1
    simp only [Option.getD_some, Option.isSome_some, Pg.enV, Pg.enC] at h1
    clear hl
    simp only
    obtain ⟨q1, k1⟩ : ∃ q1, q1 = (a1 == -1) := ⟨_, rfl⟩
    obtain ⟨q2, k2⟩ : ∃ q2, q2 = (a1 == o) := ⟨_, rfl⟩
    obtain ⟨r, hr⟩ : ∃ r, r = decide (m ≤ a2) := ⟨_, rfl⟩
    have hne : (a1 != -1) = !q1 := by rw [k1]; rfl
    rw [← hr, ← k2, hne]
    have k2' := k2.symm
    have hr' := hr.symm
    clear k1 k2 hr
    go_enter Tryz.func142, Tryz.ntmps142
    go_wp2_with fail
    refine h1.out.mono ?_
    rintro e w1 ⟨rfl, hb1⟩
    have HF := Lib.hid ((below0 hb.out hb1).alloc (below0 hb.out hb1).size (.cells #[.int .i64 a1, .int .i64 a2, .int .i64 a3] 181))
    clear hb1 h1
    cases q1
    · have n1 : (a1 != -1) = true := hne
      clear hne
      cases q2
      · clear hr'
        go_wp2_with fail
        go_ret
        exact ⟨rfl, HF.out⟩
      · go_wp2_with fail
        go_ret
        exact ⟨by simp, HF.out⟩
    · have n1 : (a1 != -1) = false := hne
      clear hne
      clear k2' hr'
      go_wp2_with fail
      go_ret
      exact ⟨rfl, HF.out⟩
end Go.Proofs.YtiahmccchpmdgaaGreatDoor.Vm

namespace Go.Proofs.YtiahmccchpmdgaaGreatDoor.Vm
open Go.RowKit Go.Shelf Go.Maps Go.Sort
attribute [local go_sem] Oper.semAt_some

/- A REACH, PARTED BY PAGES. -/

/-- the parts of so many bytes from an address on: page, place, how many -/
def pts (a n : Nat) : List (Nat × Nat × Nat) := if n = 0 then [] else (a / 256, a % 256, min n (256 - a % 256)) :: pts (a + min n (256 - a % 256)) (n - min n (256 - a % 256))
termination_by n
decreasing_by omega
theorem pts_zero (a : Nat) : pts a 0 = [] := by rw [pts]; rfl
theorem pts_pos {a n : Nat} (h : 0 < n) : pts a n = (a / 256, a % 256, min n (256 - a % 256)) :: pts (a + min n (256 - a % 256)) (n - min n (256 - a % 256)) := by
  rw [pts, if_neg (by omega)]

def enc3 (x : Nat × Nat × Nat) : Value := .agg #[.int .i64 (x.1 : Int), .int .i64 (x.2.1 : Int), .int .i64 (x.2.2 : Int)]
def encX (x : Nat × Nat × Nat) : Array Value := #[enc3 x]
def preX (a n : Nat) (pre : List (Nat × Nat × Nat)) (x : Nat × Nat × Nat) (_ : World) : Prop := ∃ post, pts a n = pre ++ x :: post
def allX (a n : Nat) (xs : List (Nat × Nat × Nat)) : Prop := xs = pts a n
def someX (a n : Nat) (xs : List (Nat × Nat × Nat)) : Prop := ∃ post, pts a n = xs ++ post
abbrev rc2 (a n : Nat) : List Value := [.int .u32 (a : Int), .int .i64 (n : Int)]

theorem nextO_bound {O M : Nat → Prop} {B : Nat} {W W' : World} (hO : ∀ b, O b → B ≤ b ∧ b < W.heap.size) (hB : B ≤ W.heap.size) (hs : W.heap.size ≤ W'.heap.size) (hM : ∀ b, M b → B ≤ b ∧ b < W.heap.size := by exact fun _ h => h.elim) :
    ∀ b, nextO O M W W' b → B ≤ b ∧ b < W'.heap.size := by
  rintro b (h | h | h)
  · have := hO b h; omega
  · have := hM b h; omega
  · omega

set_option maxHeartbeats 1000000 in
theorem parts1_it (a n g : Nat) (w0 : World) (han : a + n ≤ 16777216) (hr : Row w0 g 123 (rc2 a n)) : It Tryz.prog 262 #[bx g] encX (fun _ _ => False) (preX a n) (· = g) (allX a n) (someX a n) w0 := by
  intro l J Jx W hpW hsW hJ hJx hY h0
  have hrW : Row W g 123 (rc2 a n) := hr.same (hpW _ rfl)
  have mixed : Tryz.prog.follows .mixedOrders = true := by kernel_rfl
  have c0 : W.cell? ⟨g, 0, none⟩ = some (.int .u32 (a : Int)) := hrW.cell 0
  have c1 : W.cell? ⟨g, 1, none⟩ = some (.int .i64 (n : Int)) := hrW.cell 1
  have ew : IntKind.i64.wrap ((a : Nat) : Int) = (a : Int) := wrapI _ (by omega) (by omega)
  refine (callsIn_wide (n := 1)).1 ?_
  refine callsIn_of_wp Tryz.func262 rfl trivial ?_ rfl
  simp only [Tryz.ntmps262, List.size_toArray, List.length_cons, List.length_nil, Nat.reduceAdd, Nat.reduceSub, Array.replicate_succ, Array.replicate_zero, List.push_toArray, List.append_toArray, List.nil_append, List.cons_append]
  gi_wp2_with fail
  refine wpIn_wide.2 ?_
  go_quiet (fail)
  obtain ⟨W1, hW1⟩ : ∃ W1, W1 = W.drewN nq := ⟨_, rfl⟩
  have hbW : Below W.heap.size W W1 := by rw [hW1]; exact below_drewN (Below.refl _ _) nq
  have h1 : J [] (fun _ => False) W1 := hJ _ _ _ _ none h0 ⟨hbW.os, hbW.tape, hbW.output, hbW.size, fun k hk _ => hbW.block k hk⟩ (fun r e => by cases e)
  have hr1 := hrW.below hbW
  have hs1 := hbW.size
  rw [← hW1]
  clear hW1 hbW h0 c0 c1 ew hrW
  gi_wp2_with fail
  gi_loopw [3, 4] (fun t3 t4 wr => ∃ (at_ left : Nat) (pre : List (Nat × Nat × Nat)) (O : Nat → Prop), t3 = .int .i64 (at_ : Int) ∧ t4 = .int .i64 (left : Int) ∧ at_ + left = a + n ∧ Hid (pts a n = pre ++ pts at_ left) ∧ J pre O wr ∧ W.heap.size ≤ wr.heap.size ∧ (∀ b, O b → W.heap.size ≤ b ∧ b < wr.heap.size) ∧ Row wr g 123 (rc2 a n)) (fun _ t4 _ => (_root_.Go.RowKit.intOf t4).toNat)
  case atStart => exact ⟨a, n, [], fun _ => False, rfl, rfl, rfl, Lib.hid rfl, h1, hs1, fun b (h : False) => h.elim, hr1⟩
  case round =>
    clear h1 hr1 hs1
    obtain ⟨at_, left, pre, O, rfl, rfl, hal, Hpre, hj, hws, hO, hrow⟩ := hrel
    by_cases hlt : 0 < left
    · have j1 : decide ((0 : Int) < (left : Int)) = true := decide_eq_true (by omega)
      obtain ⟨pg, hpg⟩ : ∃ pg, pg = at_ / 256 := ⟨_, rfl⟩
      obtain ⟨pl, hpl⟩ : ∃ pl, pl = at_ % 256 := ⟨_, rfl⟩
      obtain ⟨r, hr9⟩ : ∃ r, r = 256 - pl := ⟨_, rfl⟩
      obtain ⟨k, hk⟩ : ∃ k, k = min left r := ⟨_, rfl⟩
      have d1 : IntKind.i64.wrap ((at_ : Int).tdiv 256) = (pg : Int) := by
        rw [show (at_ : Int).tdiv 256 = ((at_ / 256 : Nat) : Int) from rfl, ← hpg]
        exact wrapI _ (by omega) (by omega)
      have d2 : IntKind.i64.wrap ((at_ : Int).tmod 256) = (pl : Int) := by
        rw [show (at_ : Int).tmod 256 = ((at_ % 256 : Nat) : Int) from rfl, ← hpl]
        exact wrapI _ (by omega) (by omega)
      have d3 : IntKind.i64.wrap (256 - (pl : Int)) = (r : Int) := by
        rw [wrapI _ (by omega) (by omega)]
        omega
      have m1 : min (left : Int) (r : Int) = (k : Int) := by omega
      have d4 : IntKind.i64.wrap ((at_ : Int) + (k : Int)) = ((at_ + k : Nat) : Int) := by
        rw [wrapI _ (by omega) (by omega)]
        omega
      have d5 : IntKind.i64.wrap ((left : Int) - (k : Int)) = ((left - k : Nat) : Int) := by
        rw [wrapI _ (by omega) (by omega)]
        omega
      have hstep := Lib.hid (pts_pos (a := at_) hlt)
      rw [← hpg, ← hpl, ← hr9, ← hk] at hstep
      have v1 : (at_ : Int) / 256 = (pg : Int) := by omega
      have v2 : (at_ : Int) % 256 = (pl : Int) := by omega
      have v3 : (256 : Int) - (pl : Int) = (r : Int) := by omega
      have hpgb : pg ≤ 65536 := by omega
      have hplb : pl < 256 := by omega
      have hkp : 0 < k := by omega
      have hkl : k ≤ left := by omega
      clear hpg hpl hr9 hk
      have HD4 := Lib.hid d4
      have HD5 := Lib.hid d5
      clear d4 d5
      obtain ⟨V1, hV1⟩ : ∃ V1, V1 = wr.alloc (.cells #[.int .i64 (pg : Int), .int .i64 (pl : Int), .int .i64 (k : Int)] 193) := ⟨_, rfl⟩
      have hbV : Below wr.heap.size wr V1 := by rw [hV1]; exact below1 _ _
      have hz1 : V1.heap.size = wr.heap.size + 1 := by rw [hV1]; simp
      have r5 : Row V1 wr.heap.size 193 [.int .i64 (pg : Int), .int .i64 (pl : Int), .int .i64 (k : Int)] := by rw [hV1]; exact Row.new wr 193 [.int .i64 (pg : Int), .int .i64 (pl : Int), .int .i64 (k : Int)]
      have hsplit : pts a n = pre ++ (pg, pl, k) :: pts (at_ + k) (left - k) := by rw [Hpre.out, hstep.out]
      have HSP := Lib.hid hsplit
      obtain ⟨fn, tmps, assign, body, hy, hR⟩ := hY pre (pg, pl, k) O V1 (by omega) (fun b h => by have := hO b h; omega) (hJ _ _ _ _ none hj ⟨hbV.os, hbV.tape, hbV.output, hbV.size, fun k hk _ => hbV.block k hk⟩ (fun r e => by cases e)) ⟨_, hsplit⟩ (fun b (h : False) => h.elim)
      have hrow1 := hrow.below hbV
      have hno5 : ¬ O wr.heap.size := fun h => by have := hO _ h; omega
      simp only [encX, enc3] at hy
      have HAL := Lib.hid hal
      have HKP := Lib.hid (And.intro hkp hkl)
      clear hsplit hj hrow hstep hkp hkl hal
      gi_wp2_with fail
      rw [← hV1]
      clear hV1
      simp only [hy, Oper.uponIn]
      refine ⟨fun _ => Nat.le_refl _, hR.mono ?_⟩
      rintro e W' ⟨hk', (⟨rfl, hj'⟩ | ⟨rfl, hjx⟩)⟩
      · have r5' := r5.same (hk'.same wr.heap.size (by omega) (.inr ⟨hws, hno5, fun h => h⟩))
        have c2 : W'.cell? ⟨wr.heap.size, 2, none⟩ = some (.int .i64 (k : Int)) := r5'.cell 2
        have hrow' : Row W' g 123 (rc2 a n) := hrow1.same (hk'.same _ hrow1.lt (.inl rfl))
        have hO' := nextO_bound (M := fun _ => False) (fun b h => by have := hO b h; omega) (by omega : W.heap.size ≤ V1.heap.size) hk'.size
        have hws' : W.heap.size ≤ W'.heap.size := by have := hk'.size; omega
        have d4 := HD4.out
        have d5 := HD5.out
        clear hy hR r5 r5' hrow1 hk' hO hws hbV
        gi_wp2_with fail
        refine wpIn_wide.2 ?_
        go_quiet (fail)
        obtain ⟨W2, hW2⟩ : ∃ W2, W2 = W'.drewN nq := ⟨_, rfl⟩
        have hb2 : Below W'.heap.size W' W2 := by rw [hW2]; exact below_drewN (Below.refl _ _) nq
        have hj2 := hJ _ _ _ _ none hj' ⟨hb2.os, hb2.tape, hb2.output, hb2.size, fun k hk _ => hb2.block k hk⟩ (fun r e => by cases e)
        have hr2 := hrow'.below hb2
        have hs2 := hb2.size
        rw [← hW2]
        clear hW2 hb2 hj' hrow' c2
        gi_wp2_with fail
        go_roundw
        case rel => exact ⟨at_ + k, left - k, _, _, by go_num, rfl, by have := HAL.out; have := HKP.out; omega, Lib.hid (by rw [HSP.out, List.append_assoc]; rfl), hj2, by omega, fun b h => by have := hO' b h; omega, hr2⟩
        case measure => have := HKP.out; simp [_root_.Go.RowKit.intOf]; omega
      · gi_wp2_with fail
        refine bodyPost_ret (results_none rfl _ _ _) rfl ?_
        exact itEnd.part ⟨_, by rw [HSP.out, List.append_assoc]; rfl⟩ hjx
    · obtain rfl : left = 0 := by omega
      have j1 : decide ((0 : Int) < ((0 : Nat) : Int)) = false := rfl
      have hall : pts a n = pre := by rw [Hpre.out, pts_zero, List.append_nil]
      gi_wp2_with fail
      go_end0
      exact itEnd.all hall.symm hj
end Go.Proofs.YtiahmccchpmdgaaGreatDoor.Vm

namespace Go.Proofs.YtiahmccchpmdgaaGreatDoor.Vm
open Go.RowKit Go.Shelf Go.Maps Go.Sort
attribute [local go_sem] Oper.semAt_some

/- A REACH: MAY IT BE, IS IT WITHIN; IS EACH PAGE SUCH. -/

theorem pts_mem : ∀ (n a : Nat), a + n ≤ 16777216 → ∀ x ∈ pts a n, x.1 < 65536 ∧ x.2.1 < 256 ∧ 0 < x.2.2 ∧ x.2.1 + x.2.2 ≤ 256 := by
  intro n
  induction n using Nat.strongRecOn with
  | _ n ih =>
    intro a h x hx
    rcases Nat.eq_zero_or_pos n with rfl | hn
    · rw [pts_zero] at hx
      cases hx
    · rw [pts_pos hn] at hx
      rcases List.mem_cons.1 hx with rfl | hx
      · simp only
        omega
      · exact ih _ (by omega) _ (by omega) x hx
def properB (n : Int) : Bool := decide (1 ≤ n) && decide (n ≤ 16777216)
theorem proper_any (a : Nat) (n : Int) (w : World) : Calls Tryz.prog 203 #[.agg #[.int .u32 (a : Int), .int .i64 n]] w fun e w' => e = .returned (.bool (properB n)) ∧ Below w.heap.size w w' := by
  unfold properB
  have hb := Lib.hid (below1 w (.cells #[.int .u32 (a : Int), .int .i64 n] 123))
  go_enter Tryz.func203, Tryz.ntmps203
  by_cases h0 : 1 ≤ n
  · have e0 : decide (1 ≤ n) = true := decide_eq_true h0
    obtain ⟨q, hq⟩ : ∃ q, q = decide (n ≤ 16777216) := ⟨_, rfl⟩
    rw [← hq]
    go_wp2
    go_ret
    exact ⟨by simp [hq, h0], hb.out⟩
  · have e0 : decide (1 ≤ n) = false := decide_eq_false h0
    go_wp2
    go_ret
    exact ⟨by simp, hb.out⟩
def withinB (a : Nat) (n : Int) : Bool := decide (a < 16777216) && decide (n ≤ 16777216 - (a : Int))
theorem within_any (a : Nat) (n : Int) (w : World) (ha : a < 4294967296) : Calls Tryz.prog 204 #[.agg #[.int .u32 (a : Int), .int .i64 n]] w fun e w' => e = .returned (.bool (withinB a n)) ∧ Below w.heap.size w w' := by
  unfold withinB
  have hb := Lib.hid (below1 w (.cells #[.int .u32 (a : Int), .int .i64 n] 123))
  have ew : IntKind.i64.wrap ((a : Nat) : Int) = (a : Int) := wrapI _ (by omega) (by omega)
  have e2 : IntKind.i64.wrap (16777216 - (a : Int)) = 16777216 - (a : Int) := wrapI _ (by omega) (by omega)
  go_enter Tryz.func204, Tryz.ntmps204
  by_cases h0 : a < 16777216
  · have e0 : decide ((a : Int) < 16777216) = true := decide_eq_true (by omega)
    have e1 : decide (a < 16777216) = true := decide_eq_true h0
    obtain ⟨q, hq⟩ : ∃ q, q = decide (n ≤ 16777216 - (a : Int)) := ⟨_, rfl⟩
    rw [← hq, e1]
    have hq' := hq.symm
    clear hq h0
    go_wp2
    go_ret
    exact ⟨by simp, hb.out⟩
  · have e0 : decide ((a : Int) < 16777216) = false := decide_eq_false (by omega)
    have e1 : decide (a < 16777216) = false := decide_eq_false h0
    rw [e1]
    clear h0
    go_wp2
    go_ret
    exact ⟨by simp, hb.out⟩
theorem parts_any (a n : Nat) (w : World) : Calls Tryz.prog 207 #[.agg #[.int .u32 (a : Int), .int .i64 (n : Int)]] w fun e w' => e = .returned (.func (.func 262) #[] #[bx w.heap.size]) ∧ w' = w.alloc (.cells #[.int .u32 (a : Int), .int .i64 (n : Int)] 123) := by
  go_enter Tryz.func207, Tryz.ntmps207
  go_wp2
  go_ret
  exact ⟨rfl, rfl⟩
/-- what holds between two parts -/
def SnI (w : World) (f : Nat → Bool) (g gf : Nat) (fv : Value) (pre : List (Nat × Nat × Nat)) (_O : Nat → Prop) (V : World) : Prop :=
  Boxed V g 4 (.bool true) ∧ Boxed V gf 88 fv ∧ (∀ x ∈ pre, f x.1 = true) ∧ Below w.heap.size w V
def SnX (w : World) (f : Nat → Bool) (g ex : Nat) (cc : Code) (pre : List (Nat × Nat × Nat)) (_O : Nat → Prop) (V : World) : Prop :=
  cc = .exit ex ∧ Boxed V g 4 (.bool false) ∧ (∃ x ∈ pre, f x.1 = false) ∧ Below w.heap.size w V
theorem SnI.abid {w : World} {f : Nat → Bool} {g gf B : Nat} {fv : Value} (h : g < B ∧ gf < B ∧ w.heap.size ≤ B) : Abid B (SnI w f g gf fv) := by
  rintro pre O V V' row ⟨h1, h2, h3, h4⟩ hg hr
  exact ⟨h1.kept hg (fun e => by have := hr g e.symm; omega), h2.kept hg (fun e => by have := hr gf e.symm; omega), h3, h4.grown hg h4.size (fun k e => by have := hr k e; omega)⟩
theorem SnX.abid {w : World} {f : Nat → Bool} {g ex B : Nat} (h : g < B ∧ w.heap.size ≤ B) (cc : Code) : Abid B (SnX w f g ex cc) := by
  rintro pre O V V' row ⟨h0, h1, h2, h3⟩ hg hr
  exact ⟨h0, h1.kept hg (fun e => by have := hr g e.symm; omega), h2, h3.grown hg h3.size (fun k e => by have := hr k e; omega)⟩
def seenB (f : Nat → Bool) (a n : Nat) : Bool := (pts a n).all fun x => f x.1
set_option maxHeartbeats 2000000 in
theorem seen_any (f : Nat → Bool) (a n cf : Nat) (cap : Array Value) (w : World) (han : a + n ≤ 16777216) (eg : ∀ args w, (callFunc cf args).run Tryz.prog w = .ok (.enter cf args) w)
    (HF : ∀ (z : Nat) V, z < 65536 → Below w.heap.size w V → Calls Tryz.prog cf (#[.int .i64 (z : Int)] ++ cap) V fun e V' => e = .returned (.bool (f z)) ∧ Below V.heap.size V V') :
    Calls Tryz.prog 206 #[.agg #[.int .u32 (a : Int), .int .i64 (n : Int)], .func (.func cf) #[] cap] w fun e w' => e = .returned (.bool (seenB f a n)) ∧ Below w.heap.size w w' := by
  have HFF := Lib.hid HF
  clear HF
  refine calls_marks Tryz.func206 rfl ?_
  simp only [Tryz.ntmps206, List.size_toArray, List.length_cons, List.length_nil, Nat.reduceAdd, Nat.reduceSub, Array.replicate_succ, Array.replicate_zero, List.push_toArray, List.append_toArray, List.nil_append, List.cons_append]
  go_wp2_with fail
  refine wp_scope_jump 0 fun R hR hJm => ?_
  go_wp2_with fail
  refine wp_label ?_
  go_wp2_with fail
  obtain ⟨W4, hW4⟩ : ∃ W4, W4 = (((w.alloc (.cells #[.int .u32 (a : Int), .int .i64 (n : Int)] 123)).alloc (.cells #[.func (.func cf) #[] cap] 88)).alloc (.cells #[.bool true] 4)) := ⟨_, rfl⟩
  have hs4 : W4.heap.size = w.heap.size + 3 := by rw [hW4]; simp
  have hB4 : Below w.heap.size w W4 := by rw [hW4]; exact (below2 _ _ _).alloc (by simp; omega) _
  have hX1 : Boxed W4 (w.heap.size + 1) 88 (.func (.func cf) #[] cap) := by
    have h := Boxed.new (w.alloc (.cells #[.int .u32 (a : Int), .int .i64 (n : Int)] 123)) 88 (.func (.func cf) #[] cap)
    rw [World.size_alloc] at h
    rw [hW4]
    exact h.alloc _
  have hX2 : Boxed W4 (w.heap.size + 1 + 1) 4 (.bool true) := by
    have h := Boxed.new ((w.alloc (.cells #[.int .u32 (a : Int), .int .i64 (n : Int)] 123)).alloc (.cells #[.func (.func cf) #[] cap] 88)) 4 (.bool true)
    rw [World.size_alloc, World.size_alloc] at h
    rw [hW4]
    exact h
  rw [← hW4]
  clear hW4
  refine (parts_any a n W4).mono ?_
  rintro e W5 ⟨rfl, hW5⟩
  have hb5 : Below W4.heap.size W4 W5 := by rw [hW5]; exact below1 _ _
  have hs5 : W5.heap.size = W4.heap.size + 1 := by rw [hW5]; simp
  have hr5 : Row W5 W4.heap.size 123 (rc2 a n) := by rw [hW5]; exact Row.new W4 123 (rc2 a n)
  have hit := parts1_it a n W4.heap.size W5 han hr5
  rw [hs4] at hit
  have hY1 := (hb5.block _ (by omega)).trans hX1
  have hY2 := (hb5.block _ (by omega)).trans hX2
  have hB5 := below0 hB4 hb5
  have hmem := Lib.hid (pts_mem n a han)
  clear hW5 hb5 hX1 hX2 hB4
  go_wp2_with fail
  refine wpIn_wide.1 (wpIn_range_box (gf := 262) (lb := #[bx (w.heap.size + 3)]) rfl (enters_of Tryz.func262 (by kernel_rfl) rfl) hit (by rintro k rfl; omega) (fun _ => rfl) (fun _ _ _ _ _ h => h)
    (SnI w f (w.heap.size + 1 + 1) (w.heap.size + 1) (.func (.func cf) #[] cap)) (SnX w f (w.heap.size + 1 + 1) 0) (SnI.abid (by omega)) (SnX.abid (by omega)) ⟨hY2, hY1, fun _ h => (by cases h), hB5⟩
    (fun g x => { tmps := #[.agg #[.int .u32 (a : Int), .int .i64 (n : Int)], .func (.func cf) #[] cap, .pointer (some ⟨w.heap.size, 0, none⟩), .pointer (some ⟨w.heap.size + 1, 0, none⟩), .bool false, .pointer (some ⟨w.heap.size + 1 + 1, 0, none⟩), .pointer (some ⟨g, 0, none⟩), .agg #[.int .u32 (a : Int), .int .i64 (n : Int)], .func (.func 262) #[] #[bx (w.heap.size + 3)], enc3 x, undef, undef, undef, undef, undef, undef, undef], defers := [] })
    (fun x => .cells #[.int .i64 (x.1 : Int), .int .i64 (x.2.1 : Int), .int .i64 (x.2.2 : Int)] 193) ?assign ?body ?done ?stop)
  case assign =>
    intro l' x W' K hK
    simp only [encX, enc3]
    gi_wp2
    exact hK
  case body =>
    rintro l' pre x O V hVs hO ⟨hbV, hfV, hpre, hblV⟩ ⟨post, hpost⟩ _
    obtain ⟨V1, hV1⟩ : ∃ V1, V1 = V.alloc (.cells #[.int .i64 (x.1 : Int), .int .i64 (x.2.1 : Int), .int .i64 (x.2.2 : Int)] 193) := ⟨_, rfl⟩
    have hb1 : Below V.heap.size V V1 := by rw [hV1]; exact below1 _ _
    have hz1 : V1.heap.size = V.heap.size + 1 := by rw [hV1]; simp
    have c0 : V1.cell? ⟨V.heap.size, 0, none⟩ = some (.int .i64 (x.1 : Int)) := by rw [hV1]; exact cell_alloc_new _ _ _ _
    have hx1 : x.1 < 65536 := (hmem.out x (by rw [hpost]; simp)).1
    have hbV1 : Boxed V1 (w.heap.size + 1 + 1) 4 (.bool true) := (hb1.block _ (by omega)).trans hbV
    have hfV1 : Boxed V1 (w.heap.size + 1) 88 (.func (.func cf) #[] cap) := (hb1.block _ (by omega)).trans hfV
    have hbl1 := below0 hblV hb1
    have HCALL := Lib.hid (HFF.out x.1 V1 hx1 hbl1)
    obtain ⟨r, hr⟩ : ∃ r, r = f x.1 := ⟨_, rfl⟩
    rw [← hr] at HCALL
    have HR := Lib.hid hr
    have HPRE := Lib.hid hpre
    have e0 := hfV1.cell
    rw [← hV1]
    clear hr hV1 hpost hpre hblV hx1 hit hY1 hY2 hB5 hbV hfV
    gi_wp2_with fail
    refine ⟨trivial, rfl, CallsIn.inRound l' ((callsIn_wide.2 HCALL.out).mono ?_)⟩
    rintro e V2 ⟨rfl, hb2⟩
    have hs2 := hb2.size
    have hbV2 : Boxed V2 (w.heap.size + 1 + 1) 4 (.bool true) := (hb2.block _ (by omega)).trans hbV1
    have hfV2 : Boxed V2 (w.heap.size + 1) 88 (.func (.func cf) #[] cap) := (hb2.block _ (by omega)).trans hfV1
    have HBX := Lib.hid (hbV2.set (.bool r))
    have HFX := Lib.hid (show Boxed (V2.setCell ⟨w.heap.size + 1 + 1, 0, none⟩ (.bool r)) (w.heap.size + 1) 88 (.func (.func cf) #[] cap) from (heap_set (by omega)).trans hfV2)
    have HBL := Lib.hid (show Below w.heap.size w (V2.setCell ⟨w.heap.size + 1 + 1, 0, none⟩ (.bool r)) from (below0 hbl1 hb2).setCell (by show w.heap.size ≤ w.heap.size + 1 + 1; omega) (.bool r))
    have HKS := Lib.hid (show Keeps (· = w.heap.size + 3) W5.heap.size O (fun _ => False) V (V2.setCell ⟨w.heap.size + 1 + 1, 0, none⟩ (.bool r)) from
      ⟨by rw [World.size_setCell]; omega, fun k hk hp => (heap_set (by rcases hp with h | ⟨h, _⟩ <;> omega)).trans ((hb2.block k (by omega)).trans (hb1.block k hk))⟩)
    have f1 := hbV2.frozen
    have f2 := hbV2.cell
    have f3 := HBX.out.cell
    clear hbV1 hfV1 hbl1 hb1 hb2 hbV2 hfV2 c0 e0
    cases r
    · gi_wp2_with fail
      exact ⟨HKS.out, rfl, HBX.out, ⟨x, by simp, HR.out.symm⟩, HBL.out⟩
    · gi_wp2_with fail
      refine ⟨HKS.out, HBX.out, HFX.out, fun y hy => ?_, HBL.out⟩
      rcases List.mem_append.1 hy with hy | hy
      · exact HPRE.out y hy
      · obtain rfl := List.mem_singleton.1 hy
        exact HR.out.symm
  case done =>
    intro xs O Z hall hI hD
    obtain ⟨hbx2, _, hpre, hbl⟩ := hI
    have hz := hbx2.cell
    have hfin := Lib.hid (show seenB f a n = true from by
      unfold seenB
      rw [List.all_eq_true, ← show xs = pts a n from hall]
      exact hpre)
    have HBE := Lib.hid (show Below w.heap.size w (Z.putObj W5.heap.size (.deferred none)) from hbl.grown (putObj_grown Z _ _) hbl.size (fun r e => by cases e; omega))
    have HD := Lib.hid hD
    clear hall hbx2 hpre hbl hit hY1 hY2 hD
    go_wp2_with fail
    refine hR.out _ _ _ _ (by simp) ?_
    refine ⟨by simp, .inl ⟨_, _, rfl, run_takeDeferred HD.out, ?_⟩⟩
    exact ⟨_, results_tmp (t := 4) rfl _ _ _, by rw [hfin.out]; rfl, HBE.out⟩
  case stop =>
    rintro c' xs O Z ⟨post, hpost⟩ ⟨rfl, hbx2, hno, hbl⟩ hD
    have hz := hbx2.cell
    have hfin := Lib.hid (show seenB f a n = false from by
      unfold seenB
      obtain ⟨y, hy, hfy⟩ := hno
      rw [List.all_eq_false, hpost]
      exact ⟨y, by simp [hy], by simp [hfy]⟩)
    have HBE := Lib.hid (show Below w.heap.size w (Z.putObj W5.heap.size (.deferred none)) from hbl.grown (putObj_grown Z _ _) hbl.size (fun r e => by cases e; omega))
    have HD := Lib.hid hD
    clear hpost hbx2 hno hbl hit hY1 hY2 hD
    refine wpIn_wide.2 ?_
    go_wp2_with fail
    refine hR.out _ _ _ _ (by simp) ?_
    refine ⟨by simp, .inl ⟨_, _, rfl, run_takeDeferred HD.out, ?_⟩⟩
    exact ⟨_, results_tmp (t := 4) rfl _ _ _, by rw [hfin.out]; rfl, HBE.out⟩
end Go.Proofs.YtiahmccchpmdgaaGreatDoor.Vm
