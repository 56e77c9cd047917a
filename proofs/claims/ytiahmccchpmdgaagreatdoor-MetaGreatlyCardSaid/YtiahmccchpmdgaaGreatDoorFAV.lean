import Derived.Test.YtiahmccchpmdgaaGreatDoorFAU
import Derived.Test.YtiahmccchpmdgaaGreatDoorFAD
import Derived.Test.YtiahmccchpmdgaaGreatDoorFAR
import Derived.Test.YtiahmccchpmdgaaGreatDoorFAL
namespace Go.Proofs.YtiahmccchpmdgaaGreatDoor.Me
open Go.RowKit Go.Shelf
attribute [local go_sem] Oper.semAt_some

/- BOTH KINDS OF RECORDS: MAY IT BE; OUT OF BYTES. -/
theorem fitsL_iff (l : List Prt) (tv : Nat → Int) : fitsL l tv = true ↔ ∀ k, k < l.length → 0 ≤ tv k ∧ tv k ≤ ((prt l k).mo : Int) := by
  unfold fitsL
  rw [List.all_eq_true]
  constructor
  · intro h k hk
    have := h k (List.mem_range.2 hk)
    unfold okK at this
    rw [Bool.and_eq_true, decide_eq_true_eq, decide_eq_true_eq] at this
    exact this
  · intro h k hk
    have := h k (List.mem_range.1 hk)
    unfold okK
    rw [Bool.and_eq_true, decide_eq_true_eq, decide_eq_true_eq]
    exact this
def nvOf (bs : List UInt8) (l : List Prt) (k : Nat) : Nat := Wo.leVal ((bs.drop (frm l k)).take (prt l k).wd)
def tvRec (st sz no : Int) : Nat → Int
  | 0 => st
  | 1 => 0
  | 2 => sz
  | _ => no
theorem eg_tell_Rec : ∀ k, k < smallP.length → ∀ args w, (callFunc (prt smallP k).tf args).run Tryz.prog w = .ok (.enter (prt smallP k).tf args) w := by
  intro k hk
  have hc : k = 0 ∨ k = 1 ∨ k = 2 ∨ k = 3 := by
    have : smallP.length = 4 := rfl
    omega
  rcases hc with rfl | rfl | rfl | rfl
  · exact enters_of Tryz.func117 (by kernel_rfl) rfl
  · exact enters_of Tryz.func209 (by kernel_rfl) rfl
  · exact enters_of Tryz.func120 (by kernel_rfl) rfl
  · exact enters_of Tryz.func122 (by kernel_rfl) rfl
theorem eg_say_Rec : ∀ k, k < smallP.length → ∀ args w, (callFunc (prt smallP k).sf args).run Tryz.prog w = .ok (.enter (prt smallP k).sf args) w := by
  intro k hk
  have hc : k = 0 ∨ k = 1 ∨ k = 2 ∨ k = 3 := by
    have : smallP.length = 4 := rfl
    omega
  rcases hc with rfl | rfl | rfl | rfl
  · exact enters_of Tryz.func118 (by kernel_rfl) rfl
  · exact enters_of Tryz.func210 (by kernel_rfl) rfl
  · exact enters_of Tryz.func121 (by kernel_rfl) rfl
  · exact enters_of Tryz.func123 (by kernel_rfl) rfl
theorem tells_Rec (st sz no : Int) (h0 : 0 ≤ no) (hh0 : no < 4294967296) : ∀ k, k < smallP.length → ∀ W, Calls Tryz.prog (prt smallP k).tf #[.agg #[.int .i64 st, .int .i64 sz, .int .u32 no]] W fun e W' => e = .returned (.int .i64 (tvRec st sz no k)) ∧ Below W.heap.size W W' := by
  intro k hk W
  have hc : k = 0 ∨ k = 1 ∨ k = 2 ∨ k = 3 := by
    have : smallP.length = 4 := rfl
    omega
  rcases hc with rfl | rfl | rfl | rfl
  · exact tell_small1 st sz no W
  · exact tell_nought_Rec_1 st sz no W
  · exact tell_small3 st sz no W
  · exact tell_small5 st sz no W h0 hh0
theorem fits_small_eq (st sz no : Int) (hno : 0 ≤ no) (hno2 : no < 4294967296) : fitsL smallP (tvRec st sz no) = decide (rightR st sz) := by
  rw [Bool.eq_iff_iff, fitsL_iff, decide_eq_true_eq]
  constructor
  · intro h
    have g0 := h 0 (by decide)
    have g1 := h 1 (by decide)
    have g2 := h 2 (by decide)
    have g3 := h 3 (by decide)
    simp only [tvRec, prt, smallP, List.getD_cons_zero, List.getD_cons_succ] at g0 g1 g2 g3
    unfold rightR
    omega
  · intro h k hk
    unfold rightR at h
    have hc : k = 0 ∨ k = 1 ∨ k = 2 ∨ k = 3 := by
      have : smallP.length = 4 := rfl
      omega
    rcases hc with rfl | rfl | rfl | rfl
    all_goals simp only [tvRec, prt, smallP, List.getD_cons_zero, List.getD_cons_succ]
    all_goals omega
theorem fits_small (st sz no : Int) (hno : 0 ≤ no) (hno2 : no < 4294967296) (g c : Nat) (t : TypeId) (w : World) (hrow : Row w g t (prtCells smallP)) (hc : 4 ≤ c) : Calls Tryz.prog 137 #[.agg #[.int .i64 st, .int .i64 sz, .int .u32 no], .slice (some ⟨g, 0, none⟩) 4 c] w fun e w' => e = .returned (.bool (decide (rightR st sz))) ∧ Below w.heap.size w w' := by
  rw [← fits_small_eq st sz no hno hno2]
  exact fits_Rec st sz no (tvRec st sz no) smallP g 4 c t w hrow rfl (by omega) hc smallP_frm eg_tell_Rec (tells_Rec st sz no hno hno2)
def stRec (nv : Nat → Nat) : Nat → List Value
  | 0 => [.int .i64 0, .int .i64 0, .int .u32 0]
  | 1 => [.int .i64 (nv 0 : Int), .int .i64 0, .int .u32 0]
  | 2 => [.int .i64 (nv 0 : Int), .int .i64 0, .int .u32 0]
  | 3 => [.int .i64 (nv 0 : Int), .int .i64 (nv 2 : Int), .int .u32 0]
  | _ => [.int .i64 (nv 0 : Int), .int .i64 (nv 2 : Int), .int .u32 (nv 3 : Int)]
theorem says_Rec (nv : Nat → Nat) : ∀ k, k < smallP.length → okN smallP nv k → ∀ (b : Nat) W, Row W b 41 (stRec nv k) → Calls Tryz.prog (prt smallP k).sf #[.pointer (some ⟨b, 0, none⟩), .int .i64 (nv k : Int)] W fun e W' => (∃ u, e = .returned u) ∧ Row W' b 41 (stRec nv (k + 1)) ∧ Keep (· = b) W W' := by
  intro k hk ho b W h
  have hc : k = 0 ∨ k = 1 ∨ k = 2 ∨ k = 3 := by
    have : smallP.length = 4 := rfl
    omega
  rcases hc with rfl | rfl | rfl | rfl
  · exact say_small2 _ _ _ b _ W h
  · exact say_nought_Rec_2 _ b _ W h
  · exact say_small4 _ _ _ b _ W h
  · have ho2 : nv 3 ≤ 4294967295 := ho
    exact say_small6 _ _ _ b _ W h (by omega) (by omega)
set_option maxHeartbeats 2000000 in
theorem unp1_Rec (bo g c n f wd : Nat) (bs : List UInt8) (w : World) (hT : Tabs w) (hc : w.cell? ⟨bo, 0, none⟩ = some (.slice (some ⟨g, 0, none⟩) n c)) (hs : Sees w w.heap.size (some ⟨g, 0, none⟩) (byt bs)) (hn : bs.length = n) (hnc : n ≤ c) (hw : Wo.wid (wd : Int) = true) (hw4 : wd ≤ 4) (hf : f + wd ≤ n) (hn1 : n ≤ 100000) :
    Calls Tryz.prog 212 #[.int .i64 (f : Int), .int .i64 (wd : Int), .pointer (some ⟨bo, 0, none⟩)] w fun e w' => e = .returned (.int .i64 (Wo.leVal ((bs.drop f).take wd) : Int)) ∧ Below w.heap.size w w' := by
  have hsub : Sees w w.heap.size (some ⟨g, f, none⟩) (byt ((bs.drop f).take wd)) := by
    have := hs.sub f wd
    rw [Nat.zero_add, byt_drop, byt_take] at this
    exact this
  have hl : ((bs.drop f).take wd).length = wd := by simp; omega
  have hv := Wo.leVal_lt ((bs.drop f).take wd)
  rw [hl] at hv
  have hv4 : 2 ^ (8 * wd) ≤ 2 ^ 32 := Nat.pow_le_pow_right (by omega) (by omega)
  have HG := Lib.hid (Wo.get_ok ((bs.drop f).take wd) wd (c - f) w.heap.size (some ⟨g, f, none⟩) w hT.2 hl hw hsub (Nat.le_refl _))
  obtain ⟨y, hy⟩ : ∃ y, y = Wo.leVal ((bs.drop f).take wd) := ⟨_, rfl⟩
  rw [← hy] at HG hv ⊢
  have e0 : IntKind.i64.wrap (y : Int) = (y : Int) := wrapI _ (by omega) (by omega)
  obtain ⟨u, hu⟩ : ∃ u, u = f + wd := ⟨_, rfl⟩
  have e1 : IntKind.i64.wrap ((f : Int) + (wd : Int)) = (u : Int) := (wrapI _ (by omega) (by omega)).trans (by omega)
  have b0 : (0 : Int) ≤ (f : Int) := by omega
  have b1 : (f : Int) ≤ (u : Int) := by omega
  have b2 : (u : Int) ≤ (c : Int) := by omega
  have b3 : f ≤ u := by omega
  have b4 : u ≤ c := by omega
  have b5 : u - f = wd := by omega
  have hw1 : 1 ≤ wd := by
    rcases Wo.wid_cases hw with h | h | h | h <;> omega
  have b6 : ¬ c = f := by omega
  clear hsub hl hv hv4 hy hs hn hT hu hf hnc hn1 hw1
  go_enter Tryz.func212, Tryz.ntmps212
  go_wp2_with fail
  refine HG.out.mono ?_
  rintro e w1 ⟨rfl, hb⟩
  go_wp2
  go_ret
  exact ⟨rfl, hb⟩
def tvGre (st pg sz fi : Int) : Nat → Int
  | 0 => st
  | 1 => 0
  | 2 => pg
  | 3 => sz
  | 4 => fi
  | _ => 0
theorem eg_tell_Gre : ∀ k, k < greatP.length → ∀ args w, (callFunc (prt greatP k).tf args).run Tryz.prog w = .ok (.enter (prt greatP k).tf args) w := by
  intro k hk
  have hc : k = 0 ∨ k = 1 ∨ k = 2 ∨ k = 3 ∨ k = 4 ∨ k = 5 := by
    have : greatP.length = 6 := rfl
    omega
  rcases hc with rfl | rfl | rfl | rfl | rfl | rfl
  · exact enters_of Tryz.func126 (by kernel_rfl) rfl
  · exact enters_of Tryz.func214 (by kernel_rfl) rfl
  · exact enters_of Tryz.func129 (by kernel_rfl) rfl
  · exact enters_of Tryz.func131 (by kernel_rfl) rfl
  · exact enters_of Tryz.func133 (by kernel_rfl) rfl
  · exact enters_of Tryz.func214 (by kernel_rfl) rfl
theorem eg_say_Gre : ∀ k, k < greatP.length → ∀ args w, (callFunc (prt greatP k).sf args).run Tryz.prog w = .ok (.enter (prt greatP k).sf args) w := by
  intro k hk
  have hc : k = 0 ∨ k = 1 ∨ k = 2 ∨ k = 3 ∨ k = 4 ∨ k = 5 := by
    have : greatP.length = 6 := rfl
    omega
  rcases hc with rfl | rfl | rfl | rfl | rfl | rfl
  · exact enters_of Tryz.func127 (by kernel_rfl) rfl
  · exact enters_of Tryz.func215 (by kernel_rfl) rfl
  · exact enters_of Tryz.func130 (by kernel_rfl) rfl
  · exact enters_of Tryz.func132 (by kernel_rfl) rfl
  · exact enters_of Tryz.func134 (by kernel_rfl) rfl
  · exact enters_of Tryz.func215 (by kernel_rfl) rfl
theorem tells_Gre (st pg sz fi : Int) : ∀ k, k < greatP.length → ∀ W, Calls Tryz.prog (prt greatP k).tf #[.agg #[.int .i64 st, .int .i64 pg, .int .i64 sz, .int .i64 fi]] W fun e W' => e = .returned (.int .i64 (tvGre st pg sz fi k)) ∧ Below W.heap.size W W' := by
  intro k hk W
  have hc : k = 0 ∨ k = 1 ∨ k = 2 ∨ k = 3 ∨ k = 4 ∨ k = 5 := by
    have : greatP.length = 6 := rfl
    omega
  rcases hc with rfl | rfl | rfl | rfl | rfl | rfl
  · exact tell_great1 st pg sz fi W
  · exact tell_nought_Gre_1 st pg sz fi W
  · exact tell_great3 st pg sz fi W
  · exact tell_great5 st pg sz fi W
  · exact tell_great7 st pg sz fi W
  · exact tell_nought_Gre_1 st pg sz fi W
theorem fits_great_eq (st pg sz fi : Int) : fitsL greatP (tvGre st pg sz fi) = decide (rightG st pg sz fi) := by
  rw [Bool.eq_iff_iff, fitsL_iff, decide_eq_true_eq]
  constructor
  · intro h
    have g0 := h 0 (by decide)
    have g1 := h 1 (by decide)
    have g2 := h 2 (by decide)
    have g3 := h 3 (by decide)
    have g4 := h 4 (by decide)
    have g5 := h 5 (by decide)
    simp only [tvGre, prt, greatP, List.getD_cons_zero, List.getD_cons_succ] at g0 g1 g2 g3 g4 g5
    unfold rightG
    omega
  · intro h k hk
    unfold rightG at h
    have hc : k = 0 ∨ k = 1 ∨ k = 2 ∨ k = 3 ∨ k = 4 ∨ k = 5 := by
      have : greatP.length = 6 := rfl
      omega
    rcases hc with rfl | rfl | rfl | rfl | rfl | rfl
    all_goals simp only [tvGre, prt, greatP, List.getD_cons_zero, List.getD_cons_succ]
    all_goals omega
theorem fits_great (st pg sz fi : Int) (g c : Nat) (t : TypeId) (w : World) (hrow : Row w g t (prtCells greatP)) (hc : 6 ≤ c) : Calls Tryz.prog 139 #[.agg #[.int .i64 st, .int .i64 pg, .int .i64 sz, .int .i64 fi], .slice (some ⟨g, 0, none⟩) 6 c] w fun e w' => e = .returned (.bool (decide (rightG st pg sz fi))) ∧ Below w.heap.size w w' := by
  rw [← fits_great_eq st pg sz fi]
  exact fits_Gre st pg sz fi (tvGre st pg sz fi) greatP g 6 c t w hrow rfl (by omega) hc greatP_frm eg_tell_Gre (tells_Gre st pg sz fi)
def stGre (nv : Nat → Nat) : Nat → List Value
  | 0 => [.int .i64 0, .int .i64 0, .int .i64 0, .int .i64 0]
  | 1 => [.int .i64 (nv 0 : Int), .int .i64 0, .int .i64 0, .int .i64 0]
  | 2 => [.int .i64 (nv 0 : Int), .int .i64 0, .int .i64 0, .int .i64 0]
  | 3 => [.int .i64 (nv 0 : Int), .int .i64 (nv 2 : Int), .int .i64 0, .int .i64 0]
  | 4 => [.int .i64 (nv 0 : Int), .int .i64 (nv 2 : Int), .int .i64 (nv 3 : Int), .int .i64 0]
  | 5 => [.int .i64 (nv 0 : Int), .int .i64 (nv 2 : Int), .int .i64 (nv 3 : Int), .int .i64 (nv 4 : Int)]
  | _ => [.int .i64 (nv 0 : Int), .int .i64 (nv 2 : Int), .int .i64 (nv 3 : Int), .int .i64 (nv 4 : Int)]
theorem says_Gre (nv : Nat → Nat) : ∀ k, k < greatP.length → okN greatP nv k → ∀ (b : Nat) W, Row W b 43 (stGre nv k) → Calls Tryz.prog (prt greatP k).sf #[.pointer (some ⟨b, 0, none⟩), .int .i64 (nv k : Int)] W fun e W' => (∃ u, e = .returned u) ∧ Row W' b 43 (stGre nv (k + 1)) ∧ Keep (· = b) W W' := by
  intro k hk ho b W h
  have hc : k = 0 ∨ k = 1 ∨ k = 2 ∨ k = 3 ∨ k = 4 ∨ k = 5 := by
    have : greatP.length = 6 := rfl
    omega
  rcases hc with rfl | rfl | rfl | rfl | rfl | rfl
  · exact say_great2 _ _ _ _ b _ W h
  · exact say_nought_Gre_2 _ b _ W h
  · exact say_great4 _ _ _ _ b _ W h
  · exact say_great6 _ _ _ _ b _ W h
  · exact say_great8 _ _ _ _ b _ W h
  · exact say_nought_Gre_2 _ b _ W h
set_option maxHeartbeats 2000000 in
theorem unp1_Gre (bo g c n f wd : Nat) (bs : List UInt8) (w : World) (hT : Tabs w) (hc : w.cell? ⟨bo, 0, none⟩ = some (.slice (some ⟨g, 0, none⟩) n c)) (hs : Sees w w.heap.size (some ⟨g, 0, none⟩) (byt bs)) (hn : bs.length = n) (hnc : n ≤ c) (hw : Wo.wid (wd : Int) = true) (hw4 : wd ≤ 4) (hf : f + wd ≤ n) (hn1 : n ≤ 100000) :
    Calls Tryz.prog 217 #[.int .i64 (f : Int), .int .i64 (wd : Int), .pointer (some ⟨bo, 0, none⟩)] w fun e w' => e = .returned (.int .i64 (Wo.leVal ((bs.drop f).take wd) : Int)) ∧ Below w.heap.size w w' := by
  have hsub : Sees w w.heap.size (some ⟨g, f, none⟩) (byt ((bs.drop f).take wd)) := by
    have := hs.sub f wd
    rw [Nat.zero_add, byt_drop, byt_take] at this
    exact this
  have hl : ((bs.drop f).take wd).length = wd := by simp; omega
  have hv := Wo.leVal_lt ((bs.drop f).take wd)
  rw [hl] at hv
  have hv4 : 2 ^ (8 * wd) ≤ 2 ^ 32 := Nat.pow_le_pow_right (by omega) (by omega)
  have HG := Lib.hid (Wo.get_ok ((bs.drop f).take wd) wd (c - f) w.heap.size (some ⟨g, f, none⟩) w hT.2 hl hw hsub (Nat.le_refl _))
  obtain ⟨y, hy⟩ : ∃ y, y = Wo.leVal ((bs.drop f).take wd) := ⟨_, rfl⟩
  rw [← hy] at HG hv ⊢
  have e0 : IntKind.i64.wrap (y : Int) = (y : Int) := wrapI _ (by omega) (by omega)
  obtain ⟨u, hu⟩ : ∃ u, u = f + wd := ⟨_, rfl⟩
  have e1 : IntKind.i64.wrap ((f : Int) + (wd : Int)) = (u : Int) := (wrapI _ (by omega) (by omega)).trans (by omega)
  have b0 : (0 : Int) ≤ (f : Int) := by omega
  have b1 : (f : Int) ≤ (u : Int) := by omega
  have b2 : (u : Int) ≤ (c : Int) := by omega
  have b3 : f ≤ u := by omega
  have b4 : u ≤ c := by omega
  have b5 : u - f = wd := by omega
  have hw1 : 1 ≤ wd := by
    rcases Wo.wid_cases hw with h | h | h | h <;> omega
  have b6 : ¬ c = f := by omega
  clear hsub hl hv hv4 hy hs hn hT hu hf hnc hn1 hw1
  go_enter Tryz.func217, Tryz.ntmps217
  go_wp2_with fail
  refine HG.out.mono ?_
  rintro e w1 ⟨rfl, hb⟩
  go_wp2
  go_ret
  exact ⟨rfl, hb⟩
end Go.Proofs.YtiahmccchpmdgaaGreatDoor.Me

namespace Go.Proofs.YtiahmccchpmdgaaGreatDoor.Me
open Go.RowKit Go.Shelf
attribute [local go_sem] Oper.semAt_some

/- A RECORD's BYTES. -/
/-- while the bytes are laid, one number behind the other: the list of them in its box -/
structure PkA (w0 : World) (ga : Nat) (bl : Nat → List UInt8) (k : Nat) (V : World) (G : Nat → Prop) : Prop where
  base : w0.heap.size = ga + 1
  size : w0.heap.size ≤ V.heap.size
  own : G ga
  low : ∀ b, G b → b < V.heap.size ∧ ga ≤ b
  list : ∃ A c vs, Row V ga 210 [.slice A k c] ∧ V.ownsRow w0.heap.size 62 1 (.slice A k c) k vs ∧ vs.length = k ∧ (∀ b, (Value.slice A k c).ownBlock = some b → G b) ∧ ∀ i, i < k → ∃ u, vs[i]? = some u ∧ Vm.Mine w0 G V u (bl i)
theorem PkA.says {w0 : World} {ga : Nat} {bl : Nat → List UInt8} : Says (PkA w0 ga bl) := by
  refine ⟨?_, fun h b hb => (h.low b hb).1⟩
  rintro k V V' G h hk
  obtain ⟨A, c, vs, h1, h2, h3, h4, h5⟩ := h.list
  have hlow : ∀ b, G b → b < V'.heap.size := fun b hb => by
    have h1 := (h.low b hb).1
    have h2 := hk b hb
    rw [Array.getElem?_eq_getElem h1] at h2
    exact (Array.getElem?_eq_some_iff.1 h2).1
  have hga := hlow ga h.own
  refine ⟨h.base, by have := h.base; omega, h.own, fun b hb => ⟨hlow b hb, (h.low b hb).2⟩, A, c, vs, h1.same (hk ga h.own), own_same h2 (fun b e => hk b (h4 b e)), h3, h4, fun i hi => ?_⟩
  obtain ⟨u, hu, hm⟩ := h5 i hi
  exact ⟨u, hu, hm.keep (fun b h => h) (fun b hb _ => hk b hb)⟩
theorem PkA.step {w0 V V2 w1 : World} {ga k gp cap : Nat} {bl : Nat → List UInt8} {G : Nat → Prop} {A A' : Option Addr} {c c' : Nat} {vs : List Value} {n : Nat} (h : PkA w0 ga bl k V G) (h1 : Row V ga 210 [.slice A k c]) (h2 : V.ownsRow w0.heap.size 62 1 (.slice A k c) k vs) (h3 : vs.length = k) (h4 : ∀ b, (Value.slice A k c).ownBlock = some b → G b) (h5 : ∀ i, i < k → ∃ u, vs[i]? = some u ∧ Vm.Mine w0 G V u (bl i))
    (hb : Below V.heap.size V V2) (hmine : V2.ownsRow V.heap.size 5 1 (.slice (some ⟨gp, 0, none⟩) n cap) n (byt (bl k))) (hn : n = (bl k).length)
    (hown' : w1.ownsRow w0.heap.size 62 1 (.slice A' (k + 1) c') (k + 1) (vs ++ [.slice (some ⟨gp, 0, none⟩) n cap])) (hg1 : (V2.alloc (.cells #[.slice (some ⟨gp, 0, none⟩) n cap] 62)).grownBy w1 (Value.slice A k c).ownBlock)
    (hgg : (Value.slice A' (k + 1) c').ownBlock = (Value.slice A k c).ownBlock ∨ (Value.slice A' (k + 1) c').ownBlock = some (V2.alloc (.cells #[.slice (some ⟨gp, 0, none⟩) n cap] 62)).heap.size) :
    (∃ x, w1.cell? ⟨ga, 0, none⟩ = some x) ∧ w1.frozen? ⟨ga, 0, none⟩ = false ∧ Hid (∃ G', PkA w0 ga bl (k + 1) (w1.setCell ⟨ga, 0, none⟩ (.slice A' (k + 1) c')) G' ∧ Keep G V (w1.setCell ⟨ga, 0, none⟩ (.slice A' (k + 1) c')) ∧ ∀ b, G' b → G b ∨ V.heap.size ≤ b) := by
  have hbs := h.base
  have hvs := h.size
  have hbA := hb.alloc hb.size (.cells #[.slice (some ⟨gp, 0, none⟩) n cap] 62)
  have hgs := hg1.size
  have hs3 := hb.size
  rw [World.size_alloc] at hgs
  have hna : some ga ≠ (Value.slice A k c).ownBlock := fun e => by have := h2.lt ga e.symm; omega
  have hk : ∀ b, b < V.heap.size → some b ≠ (Value.slice A k c).ownBlock → w1.heap[b]? = V.heap[b]? := fun b h1 h2 => (hg1.block b (by rw [World.size_alloc]; omega) h2).trans (hbA.block b h1)
  have hgl := (h.low ga h.own).1
  have r1 : Row w1 ga 210 [.slice A k c] := h1.same (hk ga hgl hna)
  have hks : ∀ b, b ≠ ga → (w1.setCell ⟨ga, 0, none⟩ (.slice A' (k + 1) c')).heap[b]? = w1.heap[b]? := fun b hb => heap_set hb
  refine ⟨⟨_, r1.cell 0⟩, r1.frozen 0, Lib.hid ⟨fun b => G b ∨ (V.heap.size ≤ b ∧ b < w1.heap.size), ⟨hbs, by rw [World.size_setCell]; omega, .inl h.own, fun b hb' => ?_, A', c', _, r1.set 0 _, own_same hown' (fun b e => hks b (fun e2 => by have := hown'.lt b e; omega)), by rw [List.length_append, h3]; rfl, fun b e => ?_, fun i hi => ?_⟩, ?_, fun b hb' => ?_⟩⟩
  · rw [World.size_setCell]
    rcases hb' with h' | h'
    · have := h.low b h'
      omega
    · omega
  · rcases hgg with hg | hg
    · exact .inl (h4 b (by rw [← hg]; exact e))
    · have hl := own_lt hown' e
      have e2 : some b = some (V2.heap.size + 1) := by rw [← World.size_alloc V2, ← hg]; exact e.symm
      injection e2 with e2
      exact .inr ⟨by omega, hl⟩
  · by_cases hil : i < k
    · obtain ⟨u, hu, hm⟩ := h5 i hil
      refine ⟨u, by rw [List.getElem?_append_left (by omega)]; exact hu, ?_⟩
      refine hm.keep (fun b h => .inl h) (fun b ho e => ?_)
      obtain ⟨A9, n9, c9, rfl, _, hh, _⟩ := hm
      have hl9 := hh.lt b e
      exact (hks b (by omega)).trans (hk b (own_lt hh e) (fun e2 => Vm.own_ne hh h2 (by decide) e e2.symm))
    · obtain rfl : i = k := by omega
      refine ⟨.slice (some ⟨gp, 0, none⟩) n cap, by rw [List.getElem?_append_right (by omega), h3]; simp, _, _, _, rfl, hn, ?_, ?_⟩
      · refine own_mono (own_same hmine fun b e => ?_) (by omega)
        have h9 := hmine.lt b e
        have hkl := own_lt hmine e
        exact (hks b (by omega)).trans ((hg1.block b (by rw [World.size_alloc]; omega) (fun e2 => by have := own_lt h2 e2.symm; omega)).trans (Below.heap_alloc _ _ _ hkl))
      · intro b e
        have h9 := hmine.lt b e
        have hkl := own_lt hmine e
        exact .inr ⟨by omega, by omega⟩
  · exact ((Keep.of_below hbA).grown hg1 (fun r e => .inr (h4 r e))).set _ (.inl h.own)
  · rcases hb' with h' | h'
    · exact .inl h'
    · exact .inr h'.1
set_option maxRecDepth 100000 in
set_option maxHeartbeats 2000000 in
theorem pk1_Rec {w0 V : World} {ga k : Nat} {bl : Nat → List UInt8} {G : Nat → Prop} (h : PkA w0 ga bl k V G) (hT : Tabs V) (z wd : Nat) (hk : k ≤ 100) (hw : Wo.wid (wd : Int) = true) (hz : (z : Int) ≤ Wo.topOf (wd : Int)) (hz2 : z < 4294967296) (hbl : bl k = Wo.le wd z) :
    Calls Tryz.prog 220 #[.int .i64 (z : Int), .int .i64 (wd : Int), .pointer (some ⟨ga, 0, none⟩)] V fun e V' => (∃ u, e = .returned u) ∧ ∃ G', PkA w0 ga bl (k + 1) V' G' ∧ Keep G V V' ∧ ∀ b, G' b → G b ∨ V.heap.size ≤ b := by
  obtain ⟨i0, hi, hz0, hz1, hz2'⟩ := info_parts Vm.slice_info
  obtain ⟨A, c, vs, h1, h2, h3, h4, h5⟩ := h.list
  have HP := Lib.hid (Wo.put_ok z wd V hT.2 hw hz)
  have e0 : IntKind.u64.wrap (z : Int) = (z : Int) := Wo.wrap_u64 z (by omega)
  have hlen : wd = (bl k).length := by rw [hbl, Wo.le_length]
  rw [← hbl] at HP
  have HST := Lib.hid (fun V2 w1 gp cap A' c' (hb : Below V.heap.size V V2) hm hown' hg1 hgg => PkA.step (V2 := V2) (w1 := w1) (gp := gp) (cap := cap) (A' := A') (c' := c') (n := wd) h h1 h2 h3 h4 h5 hb hm hlen hown' hg1 hgg)
  have HR1 := Lib.hid h1
  have HO2 := Lib.hid h2
  have HSZ := Lib.hid (And.intro h.base h.size)
  have H3 := Lib.hid h3
  clear h1 h2 h3 h4 h5 hT hbl hlen h hz hw
  go_enter Tryz.func220, Tryz.ntmps220
  go_wp2_with fail
  refine HP.out.mono ?_
  rintro e V2 ⟨gp, cap, rfl, hm, hb⟩
  have c0 : V2.cell? ⟨ga, 0, none⟩ = some (.slice A k c) := (HR1.out.below hb).cell 0
  have hownA := (own_same HO2.out (fun b e => hb.block b (own_lt HO2.out e)) : V2.ownsRow w0.heap.size 62 1 (.slice A k c) k vs).alloc (.cells #[.slice (some ⟨gp, 0, none⟩) wd cap] 62)
  have HM := Lib.hid hm
  have HB := Lib.hid hb
  have hsz3 : w0.heap.size ≤ V2.heap.size + 1 := by
    have := hb.size
    have := HSZ.out.2
    omega
  clear hm hb
  go_wp2_with (at_builtin; go_loud (refine wpList_append_sees rfl (.tmp 14) (.tmp 16) 210 rfl w0.heap.size 62 i0 _ 1 24 Tryz.underlying210 hi hz0 hz1 hz2' rfl (by decide) (.slice A k c) k vs rfl hownA _ (some ⟨V2.heap.size, 0, none⟩) 1 1 [.slice (some ⟨gp, 0, none⟩) wd cap] rfl rfl (Row.new V2 62 [.slice (some ⟨gp, 0, none⟩) wd cap]).sees (by simp [Value.oneCell']) (by unfold maxLen; omega) (by omega) (by simp; omega) ?_; intro v' w1 hown' hg1 hgg; obtain ⟨A', c', rfl⟩ := own_slice hown'; obtain ⟨⟨xx, hxx⟩, hff, HFIN⟩ := HST.out V2 w1 gp cap A' c' HB.out HM.out hown' hg1 hgg; clear hown' hg1 hgg))
  go_end0
  exact ⟨⟨_, rfl⟩, HFIN.out⟩
set_option maxRecDepth 100000 in
set_option maxHeartbeats 2000000 in
theorem pk1_Gre {w0 V : World} {ga k : Nat} {bl : Nat → List UInt8} {G : Nat → Prop} (h : PkA w0 ga bl k V G) (hT : Tabs V) (z wd : Nat) (hk : k ≤ 100) (hw : Wo.wid (wd : Int) = true) (hz : (z : Int) ≤ Wo.topOf (wd : Int)) (hz2 : z < 4294967296) (hbl : bl k = Wo.le wd z) :
    Calls Tryz.prog 224 #[.int .i64 (z : Int), .int .i64 (wd : Int), .pointer (some ⟨ga, 0, none⟩)] V fun e V' => (∃ u, e = .returned u) ∧ ∃ G', PkA w0 ga bl (k + 1) V' G' ∧ Keep G V V' ∧ ∀ b, G' b → G b ∨ V.heap.size ≤ b := by
  obtain ⟨i0, hi, hz0, hz1, hz2'⟩ := info_parts Vm.slice_info
  obtain ⟨A, c, vs, h1, h2, h3, h4, h5⟩ := h.list
  have HP := Lib.hid (Wo.put_ok z wd V hT.2 hw hz)
  have e0 : IntKind.u64.wrap (z : Int) = (z : Int) := Wo.wrap_u64 z (by omega)
  have hlen : wd = (bl k).length := by rw [hbl, Wo.le_length]
  rw [← hbl] at HP
  have HST := Lib.hid (fun V2 w1 gp cap A' c' (hb : Below V.heap.size V V2) hm hown' hg1 hgg => PkA.step (V2 := V2) (w1 := w1) (gp := gp) (cap := cap) (A' := A') (c' := c') (n := wd) h h1 h2 h3 h4 h5 hb hm hlen hown' hg1 hgg)
  have HR1 := Lib.hid h1
  have HO2 := Lib.hid h2
  have HSZ := Lib.hid (And.intro h.base h.size)
  have H3 := Lib.hid h3
  clear h1 h2 h3 h4 h5 hT hbl hlen h hz hw
  go_enter Tryz.func224, Tryz.ntmps224
  go_wp2_with fail
  refine HP.out.mono ?_
  rintro e V2 ⟨gp, cap, rfl, hm, hb⟩
  have c0 : V2.cell? ⟨ga, 0, none⟩ = some (.slice A k c) := (HR1.out.below hb).cell 0
  have hownA := (own_same HO2.out (fun b e => hb.block b (own_lt HO2.out e)) : V2.ownsRow w0.heap.size 62 1 (.slice A k c) k vs).alloc (.cells #[.slice (some ⟨gp, 0, none⟩) wd cap] 62)
  have HM := Lib.hid hm
  have HB := Lib.hid hb
  have hsz3 : w0.heap.size ≤ V2.heap.size + 1 := by
    have := hb.size
    have := HSZ.out.2
    omega
  clear hm hb
  go_wp2_with (at_builtin; go_loud (refine wpList_append_sees rfl (.tmp 14) (.tmp 16) 210 rfl w0.heap.size 62 i0 _ 1 24 Tryz.underlying210 hi hz0 hz1 hz2' rfl (by decide) (.slice A k c) k vs rfl hownA _ (some ⟨V2.heap.size, 0, none⟩) 1 1 [.slice (some ⟨gp, 0, none⟩) wd cap] rfl rfl (Row.new V2 62 [.slice (some ⟨gp, 0, none⟩) wd cap]).sees (by simp [Value.oneCell']) (by unfold maxLen; omega) (by omega) (by simp; omega) ?_; intro v' w1 hown' hg1 hgg; obtain ⟨A', c', rfl⟩ := own_slice hown'; obtain ⟨⟨xx, hxx⟩, hff, HFIN⟩ := HST.out V2 w1 gp cap A' c' HB.out HM.out hown' hg1 hgg; clear hown' hg1 hgg))
  go_end0
  exact ⟨⟨_, rfl⟩, HFIN.out⟩
end Go.Proofs.YtiahmccchpmdgaaGreatDoor.Me

namespace Go.Proofs.YtiahmccchpmdgaaGreatDoor.Me
open Go.RowKit Go.Shelf
attribute [local go_sem] Oper.semAt_some

/- BOTH KINDS OF RECORDS TO BYTES AND OUT OF THEM. -/
theorem Tabs.keep {F : Nat → Prop} {w w' : World} (h : Tabs w) (hk : Keep F w w') (hF : ∀ k, F k → w.heap.size ≤ k ∨ (k ≠ 0 ∧ k ≠ 1)) : Tabs w' := by
  obtain ⟨h1, h2⟩ := h
  have l1 := h1.lt
  have l2 := h2.lt
  refine ⟨h1.same (hk.block _ l1 (fun hf => ?_)), ?_⟩
  · rcases hF _ hf with h | h
    · omega
    · exact h.1 rfl
  · obtain ⟨t, fr, h2⟩ := h2
    refine ⟨t, fr, (hk.block _ l2 (fun hf => ?_)).trans h2⟩
    rcases hF _ hf with h | h
    · omega
    · exact h.2 rfl
def blRec (st sz no : Nat) : Nat → List UInt8
  | 0 => Wo.le 1 st
  | 1 => Wo.le 1 0
  | 2 => Wo.le 2 sz
  | _ => Wo.le 4 no
theorem flat_Rec (st sz no : Nat) : flat [blRec st sz no 0, blRec st sz no 1, blRec st sz no 2, blRec st sz no 3] = recB st sz no := by
  simp only [blRec, flat, le_one, le_two, le_four, recB, List.append_nil, List.append_assoc]
  rfl
theorem len_Rec (st sz no : Nat) : (recB st sz no).length = 8 := rfl
set_option maxRecDepth 100000 in
set_option maxHeartbeats 4000000 in
theorem packed_small (st sz no g c : Nat) (t : TypeId) (w : World) (hT : Tabs w) (hrow : Row w g t (prtCells smallP)) (hc : 4 ≤ c) (h1 : st ≤ 4) (h2 : sz ≤ 65535) (h3 : no < 4294967296) :
    Calls Tryz.prog 138 #[.agg #[.int .i64 (st : Int), .int .i64 (sz : Int), .int .u32 (no : Int)], .slice (some ⟨g, 0, none⟩) 4 c] w fun e w' => ∃ A cp, e = .returned (.slice A 8 cp) ∧ w'.ownsRow w.heap.size 5 1 (.slice A 8 cp) 8 (byt (recB st sz no)) ∧ Below w.heap.size w w' := by
  obtain ⟨W4, hW4⟩ : ∃ W4, W4 = ((w.alloc (.cells #[.int .i64 (st : Int), .int .i64 (sz : Int), .int .u32 (no : Int)] 41)).alloc (.cells #[.slice none 0 0] 210)) := ⟨_, rfl⟩
  have hs4 : W4.heap.size = w.heap.size + 1 + 1 := by rw [hW4]; simp
  have hB4 : Below w.heap.size w W4 := by rw [hW4]; exact ((Below.refl _ _).alloc (Nat.le_refl _) _).alloc (by simp) _
  have hX1 : Row W4 w.heap.size 41 [.int .i64 (st : Int), .int .i64 (sz : Int), .int .u32 (no : Int)] := by rw [hW4]; exact (Row.new w _ _).below (below1 _ _)
  have hX2 : Row W4 (w.heap.size + 1) 210 [.slice none 0 0] := by rw [hW4]; exact Row.new_at _ _ _ (by simp)
  have hA0 : PkA W4 (w.heap.size + 1) (blRec st sz no) 0 W4 (· = w.heap.size + 1) := ⟨by omega, Nat.le_refl _, rfl, fun b hb => by omega, none, 0, [], hX2, World.ownsRow_nil _ _ _ _, rfl, fun b e => (by cases e), fun i hi => absurd hi (Nat.not_lt_zero _)⟩
  have hT4 := hT.below hB4
  have l1 := hT.1.lt
  have l2 := hT.2.lt
  have hgl := hrow.lt
  have HWR := Lib.hid (write_Rec (st : Int) (sz : Int) (no : Int) (PkA W4 (w.heap.size + 1) (blRec st sz no)) PkA.says (· = w.heap.size + 1) (tvRec (st : Int) (sz : Int) (no : Int)) 220 #[.pointer (some ⟨w.heap.size + 1, 0, none⟩)] smallP g 4 c t W4 (hrow.below hB4) rfl (by omega) hc smallP_frm hA0 (fun e => by omega)
    (enters_of Tryz.func220 (by kernel_rfl) rfl) (fun k hk W G hkp ha => by
    have hTW := hT4.keep hkp (fun b hb => .inr ⟨by omega, by omega⟩)
    have hcs : k = 0 ∨ k = 1 ∨ k = 2 ∨ k = 3 := by
      have : smallP.length = 4 := rfl
      omega
    rcases hcs with rfl | rfl | rfl | rfl
    · exact pk1_Rec ha hTW (st) 1 (by omega) (by decide) (by show ((st : Nat) : Int) ≤ 255; omega) (by omega) rfl
    · exact pk1_Rec ha hTW (0) 1 (by omega) (by decide) (by show ((0 : Nat) : Int) ≤ 255; omega) (by omega) rfl
    · exact pk1_Rec ha hTW (sz) 2 (by omega) (by decide) (by show ((sz : Nat) : Int) ≤ 65535; omega) (by omega) rfl
    · exact pk1_Rec ha hTW (no) 4 (by omega) (by decide) (by show ((no : Nat) : Int) ≤ 4294967295; omega) (by omega) rfl
    ) eg_tell_Rec (tells_Rec (st : Int) (sz : Int) (no : Int) (by omega) (by omega)))
  have HJ : Hid (∀ w1 G, PkA W4 (w.heap.size + 1) (blRec st sz no) 4 w1 G → ∃ A cc, w1.cell? ⟨w.heap.size + 1, 0, none⟩ = some (.slice A 4 cc) ∧ Calls Tryz.prog 146 #[.slice A 4 cc] w1 fun e w' => ∃ v, e = .returned v ∧ w'.ownsRow w1.heap.size 5 1 v (recB st sz no).length (byt (recB st sz no)) ∧ Below w1.heap.size w1 w') := Lib.hid (fun w1 G hp => by
    obtain ⟨A, cc, vs, p1, p2, p3, p4, p5⟩ := hp.list
    refine ⟨A, cc, p1.cell 0, ?_⟩
    have hfl := flat_Rec st sz no
    have := joined_any [blRec st sz no 0, blRec st sz no 1, blRec st sz no 2, blRec st sz no 3] 4 cc w1.heap.size A w1 rfl (by omega) (by rw [hfl, len_Rec]; omega) ⟨vs, by rw [p3]; rfl, Vm.sees_own p2, fun i hi => by
      have hi2 : i < 4 := hi
      obtain ⟨u, hu, A9, m9, c9, rfl, g1, g2, g3⟩ := p5 i hi2
      have hbi : [blRec st sz no 0, blRec st sz no 1, blRec st sz no 2, blRec st sz no 3][i] = blRec st sz no i := by
        rcases (show i = 0 ∨ i = 1 ∨ i = 2 ∨ i = 3 by omega) with rfl | rfl | rfl | rfl <;> rfl
      have hbl8 : (blRec st sz no i).length ≤ 8 := by
        rcases (show i = 0 ∨ i = 1 ∨ i = 2 ∨ i = 3 by omega) with rfl | rfl | rfl | rfl <;> (simp only [blRec, Wo.le_length]; omega)
      exact ⟨A9, m9, c9, hu, by rw [hbi, g1], by omega, by rw [hbi]; exact Vm.sees_own g2⟩⟩ (Nat.le_refl _)
    rw [hfl] at this
    exact this)
  have c0 : ∀ q, q < 3 → W4.cell? ⟨w.heap.size, q, none⟩ = [.int .i64 (st : Int), .int .i64 (sz : Int), .int .u32 (no : Int)][q]? := fun q _ => hX1.cell q
  have d0 : W4.cell? ⟨w.heap.size, 0, none⟩ = _ := hX1.cell 0
  have d1 : W4.cell? ⟨w.heap.size, 1, none⟩ = _ := hX1.cell 1
  have d2 : W4.cell? ⟨w.heap.size, 2, none⟩ = _ := hX1.cell 2
  have HB4 := Lib.hid hB4
  have HS4 := Lib.hid hs4
  have HW4 := Lib.hid hW4
  clear c0 hW4 hs4 hB4 hX1 hX2 hA0 hT4 l1 l2 hgl hrow hT h1 h2 h3
  go_enter Tryz.func138, Tryz.ntmps138
  go_wp2_with fail
  rw [← HW4.out]
  refine HWR.out.mono ?_
  rintro e w1 ⟨⟨u, rfl⟩, G, p1, p2, p3⟩
  obtain ⟨A, cc, c1, hj⟩ := HJ.out w1 G p1
  have HJ2 := Lib.hid hj
  have HB1 := Lib.hid (show Below w.heap.size w w1 from HB4.out.trans (p2.below (fun b hb => by omega) (by have := HS4.out; omega)))
  clear p1 p2 p3 hj HWR HJ HB4 HS4 HW4 d0 d1 d2
  go_wp2_with fail
  refine HJ2.out.mono ?_
  rintro e w2 ⟨v, rfl, hown, hb2⟩
  obtain ⟨A2, c2, rfl⟩ := own_slice hown
  have HF := Lib.hid (And.intro (own_mono hown HB1.out.size) (below0 HB1.out hb2))
  clear hown hb2 HJ2
  go_wp2_with fail
  go_ret
  exact ⟨A2, c2, rfl, HF.out.1, HF.out.2⟩
def blGre (st pg sz fi : Nat) : Nat → List UInt8
  | 0 => Wo.le 1 st
  | 1 => Wo.le 1 0
  | 2 => Wo.le 2 pg
  | 3 => Wo.le 4 sz
  | 4 => Wo.le 4 fi
  | _ => Wo.le 4 0
theorem flat_Gre (st pg sz fi : Nat) : flat [blGre st pg sz fi 0, blGre st pg sz fi 1, blGre st pg sz fi 2, blGre st pg sz fi 3, blGre st pg sz fi 4, blGre st pg sz fi 5] = greatB st pg sz fi := by
  simp only [blGre, flat, le_one, le_two, le_four, greatB, List.append_nil, List.append_assoc]
  rfl
theorem len_Gre (st pg sz fi : Nat) : (greatB st pg sz fi).length = 16 := rfl
set_option maxRecDepth 100000 in
set_option maxHeartbeats 4000000 in
theorem packed_great (st pg sz fi g c : Nat) (t : TypeId) (w : World) (hT : Tabs w) (hrow : Row w g t (prtCells greatP)) (hc : 6 ≤ c) (h1 : st ≤ 4) (h2 : pg ≤ 65535) (h3 : sz ≤ 262144) (h4 : fi ≤ 65535) :
    Calls Tryz.prog 140 #[.agg #[.int .i64 (st : Int), .int .i64 (pg : Int), .int .i64 (sz : Int), .int .i64 (fi : Int)], .slice (some ⟨g, 0, none⟩) 6 c] w fun e w' => ∃ A cp, e = .returned (.slice A 16 cp) ∧ w'.ownsRow w.heap.size 5 1 (.slice A 16 cp) 16 (byt (greatB st pg sz fi)) ∧ Below w.heap.size w w' := by
  obtain ⟨W4, hW4⟩ : ∃ W4, W4 = ((w.alloc (.cells #[.int .i64 (st : Int), .int .i64 (pg : Int), .int .i64 (sz : Int), .int .i64 (fi : Int)] 43)).alloc (.cells #[.slice none 0 0] 210)) := ⟨_, rfl⟩
  have hs4 : W4.heap.size = w.heap.size + 1 + 1 := by rw [hW4]; simp
  have hB4 : Below w.heap.size w W4 := by rw [hW4]; exact ((Below.refl _ _).alloc (Nat.le_refl _) _).alloc (by simp) _
  have hX1 : Row W4 w.heap.size 43 [.int .i64 (st : Int), .int .i64 (pg : Int), .int .i64 (sz : Int), .int .i64 (fi : Int)] := by rw [hW4]; exact (Row.new w _ _).below (below1 _ _)
  have hX2 : Row W4 (w.heap.size + 1) 210 [.slice none 0 0] := by rw [hW4]; exact Row.new_at _ _ _ (by simp)
  have hA0 : PkA W4 (w.heap.size + 1) (blGre st pg sz fi) 0 W4 (· = w.heap.size + 1) := ⟨by omega, Nat.le_refl _, rfl, fun b hb => by omega, none, 0, [], hX2, World.ownsRow_nil _ _ _ _, rfl, fun b e => (by cases e), fun i hi => absurd hi (Nat.not_lt_zero _)⟩
  have hT4 := hT.below hB4
  have l1 := hT.1.lt
  have l2 := hT.2.lt
  have hgl := hrow.lt
  have HWR := Lib.hid (write_Gre (st : Int) (pg : Int) (sz : Int) (fi : Int) (PkA W4 (w.heap.size + 1) (blGre st pg sz fi)) PkA.says (· = w.heap.size + 1) (tvGre (st : Int) (pg : Int) (sz : Int) (fi : Int)) 224 #[.pointer (some ⟨w.heap.size + 1, 0, none⟩)] greatP g 6 c t W4 (hrow.below hB4) rfl (by omega) hc greatP_frm hA0 (fun e => by omega)
    (enters_of Tryz.func224 (by kernel_rfl) rfl) (fun k hk W G hkp ha => by
    have hTW := hT4.keep hkp (fun b hb => .inr ⟨by omega, by omega⟩)
    have hcs : k = 0 ∨ k = 1 ∨ k = 2 ∨ k = 3 ∨ k = 4 ∨ k = 5 := by
      have : greatP.length = 6 := rfl
      omega
    rcases hcs with rfl | rfl | rfl | rfl | rfl | rfl
    · exact pk1_Gre ha hTW (st) 1 (by omega) (by decide) (by show ((st : Nat) : Int) ≤ 255; omega) (by omega) rfl
    · exact pk1_Gre ha hTW (0) 1 (by omega) (by decide) (by show ((0 : Nat) : Int) ≤ 255; omega) (by omega) rfl
    · exact pk1_Gre ha hTW (pg) 2 (by omega) (by decide) (by show ((pg : Nat) : Int) ≤ 65535; omega) (by omega) rfl
    · exact pk1_Gre ha hTW (sz) 4 (by omega) (by decide) (by show ((sz : Nat) : Int) ≤ 4294967295; omega) (by omega) rfl
    · exact pk1_Gre ha hTW (fi) 4 (by omega) (by decide) (by show ((fi : Nat) : Int) ≤ 4294967295; omega) (by omega) rfl
    · exact pk1_Gre ha hTW (0) 4 (by omega) (by decide) (by show ((0 : Nat) : Int) ≤ 4294967295; omega) (by omega) rfl
    ) eg_tell_Gre (tells_Gre (st : Int) (pg : Int) (sz : Int) (fi : Int)))
  have HJ : Hid (∀ w1 G, PkA W4 (w.heap.size + 1) (blGre st pg sz fi) 6 w1 G → ∃ A cc, w1.cell? ⟨w.heap.size + 1, 0, none⟩ = some (.slice A 6 cc) ∧ Calls Tryz.prog 146 #[.slice A 6 cc] w1 fun e w' => ∃ v, e = .returned v ∧ w'.ownsRow w1.heap.size 5 1 v (greatB st pg sz fi).length (byt (greatB st pg sz fi)) ∧ Below w1.heap.size w1 w') := Lib.hid (fun w1 G hp => by
    obtain ⟨A, cc, vs, p1, p2, p3, p4, p5⟩ := hp.list
    refine ⟨A, cc, p1.cell 0, ?_⟩
    have hfl := flat_Gre st pg sz fi
    have := joined_any [blGre st pg sz fi 0, blGre st pg sz fi 1, blGre st pg sz fi 2, blGre st pg sz fi 3, blGre st pg sz fi 4, blGre st pg sz fi 5] 6 cc w1.heap.size A w1 rfl (by omega) (by rw [hfl, len_Gre]; omega) ⟨vs, by rw [p3]; rfl, Vm.sees_own p2, fun i hi => by
      have hi2 : i < 6 := hi
      obtain ⟨u, hu, A9, m9, c9, rfl, g1, g2, g3⟩ := p5 i hi2
      have hbi : [blGre st pg sz fi 0, blGre st pg sz fi 1, blGre st pg sz fi 2, blGre st pg sz fi 3, blGre st pg sz fi 4, blGre st pg sz fi 5][i] = blGre st pg sz fi i := by
        rcases (show i = 0 ∨ i = 1 ∨ i = 2 ∨ i = 3 ∨ i = 4 ∨ i = 5 by omega) with rfl | rfl | rfl | rfl | rfl | rfl <;> rfl
      have hbl8 : (blGre st pg sz fi i).length ≤ 8 := by
        rcases (show i = 0 ∨ i = 1 ∨ i = 2 ∨ i = 3 ∨ i = 4 ∨ i = 5 by omega) with rfl | rfl | rfl | rfl | rfl | rfl <;> (simp only [blGre, Wo.le_length]; omega)
      exact ⟨A9, m9, c9, hu, by rw [hbi, g1], by omega, by rw [hbi]; exact Vm.sees_own g2⟩⟩ (Nat.le_refl _)
    rw [hfl] at this
    exact this)
  have c0 : ∀ q, q < 4 → W4.cell? ⟨w.heap.size, q, none⟩ = [.int .i64 (st : Int), .int .i64 (pg : Int), .int .i64 (sz : Int), .int .i64 (fi : Int)][q]? := fun q _ => hX1.cell q
  have d0 : W4.cell? ⟨w.heap.size, 0, none⟩ = _ := hX1.cell 0
  have d1 : W4.cell? ⟨w.heap.size, 1, none⟩ = _ := hX1.cell 1
  have d2 : W4.cell? ⟨w.heap.size, 2, none⟩ = _ := hX1.cell 2
  have d3 : W4.cell? ⟨w.heap.size, 3, none⟩ = _ := hX1.cell 3
  have HB4 := Lib.hid hB4
  have HS4 := Lib.hid hs4
  have HW4 := Lib.hid hW4
  clear c0 hW4 hs4 hB4 hX1 hX2 hA0 hT4 l1 l2 hgl hrow hT h1 h2 h3 h4
  go_enter Tryz.func140, Tryz.ntmps140
  go_wp2_with fail
  rw [← HW4.out]
  refine HWR.out.mono ?_
  rintro e w1 ⟨⟨u, rfl⟩, G, p1, p2, p3⟩
  obtain ⟨A, cc, c1, hj⟩ := HJ.out w1 G p1
  have HJ2 := Lib.hid hj
  have HB1 := Lib.hid (show Below w.heap.size w w1 from HB4.out.trans (p2.below (fun b hb => by omega) (by have := HS4.out; omega)))
  clear p1 p2 p3 hj HWR HJ HB4 HS4 HW4 d0 d1 d2 d3
  go_wp2_with fail
  refine HJ2.out.mono ?_
  rintro e w2 ⟨v, rfl, hown, hb2⟩
  obtain ⟨A2, c2, rfl⟩ := own_slice hown
  have HF := Lib.hid (And.intro (own_mono hown HB1.out.size) (below0 HB1.out hb2))
  clear hown hb2 HJ2
  go_wp2_with fail
  go_ret
  exact ⟨A2, c2, rfl, HF.out.1, HF.out.2⟩
theorem nv_Rec_a (f : Byts) (o : Nat) : nvOf (cutL f o 8) smallP 0 = (f (o)).toNat := by
  unfold nvOf
  rw [show frm smallP 0 = 0 from rfl, show (prt smallP 0).wd = 1 from rfl, cutL_cut f o 8 0 1 (by omega), cut_one, val_one, Nat.add_zero]
theorem nv_Rec_b (f : Byts) (o : Nat) : nvOf (cutL f o 8) smallP 1 = (f (o + 1)).toNat := by
  unfold nvOf
  rw [show frm smallP 1 = 1 from rfl, show (prt smallP 1).wd = 1 from rfl, cutL_cut f o 8 1 1 (by omega), cut_one, val_one]
theorem nv_Rec_c (f : Byts) (o : Nat) : nvOf (cutL f o 8) smallP 2 = le2 f (o + 2) := by
  unfold nvOf
  rw [show frm smallP 2 = 2 from rfl, show (prt smallP 2).wd = 2 from rfl, cutL_cut f o 8 2 2 (by omega), cut_two, val_two]
theorem nv_Rec_d (f : Byts) (o : Nat) : nvOf (cutL f o 8) smallP 3 = le4 f (o + 4) := by
  unfold nvOf
  rw [show frm smallP 3 = 4 from rfl, show (prt smallP 3).wd = 4 from rfl, cutL_cut f o 8 4 4 (by omega), cut_four, val_four]
theorem read_small_iff (f : Byts) (o : Nat) : readL smallP (nvOf (cutL f o 8) smallP) ↔ (recAt f o).isSome = true := by
  unfold recAt
  have key : readL smallP (nvOf (cutL f o 8) smallP) ↔ (f o).toNat ≤ 4 ∧ f (o + 1) = 0 := by
    constructor
    · intro h
      have g0 : nvOf (cutL f o 8) smallP 0 ≤ 4 := h 0 (by decide)
      rw [nv_Rec_a] at g0
      have g1 : nvOf (cutL f o 8) smallP 1 ≤ 0 := h 1 (by decide)
      rw [nv_Rec_b] at g1
      have g2 : nvOf (cutL f o 8) smallP 2 ≤ 65535 := h 2 (by decide)
      rw [nv_Rec_c] at g2
      have g3 : nvOf (cutL f o 8) smallP 3 ≤ 4294967295 := h 3 (by decide)
      rw [nv_Rec_d] at g3
      exact ⟨g0, byte_zero.1 g1⟩
    · rintro ⟨g0, g1⟩ k hk
      have hc : k = 0 ∨ k = 1 ∨ k = 2 ∨ k = 3 := by
        have : smallP.length = 4 := rfl
        omega
      rcases hc with rfl | rfl | rfl | rfl
      · show nvOf (cutL f o 8) smallP 0 ≤ 4
        rw [nv_Rec_a]
        exact g0
      · show nvOf (cutL f o 8) smallP 1 ≤ 0
        rw [nv_Rec_b]
        exact byte_zero.2 g1
      · show nvOf (cutL f o 8) smallP 2 ≤ 65535
        rw [nv_Rec_c]
        exact le2_lt _ _
      · show nvOf (cutL f o 8) smallP 3 ≤ 4294967295
        rw [nv_Rec_d]
        exact le4_lt _ _
  rw [key]
  by_cases hcd : (f o).toNat ≤ 4 ∧ f (o + 1) = 0
  · rw [if_pos hcd]
    exact ⟨fun _ => rfl, fun _ => hcd⟩
  · rw [if_neg hcd]
    exact ⟨fun h => absurd h hcd, fun h => absurd h (by decide)⟩
theorem st_small_eq (f : Byts) (o : Nat) : stRec (nvOf (cutL f o 8) smallP) 4 = [.int .i64 (((f (o)).toNat : Nat) : Int), .int .i64 ((le2 f (o + 2) : Nat) : Int), .int .u32 ((le4 f (o + 4) : Nat) : Int)] := by
  simp only [stRec, nv_Rec_a, nv_Rec_c, nv_Rec_d]
set_option maxRecDepth 100000 in
set_option maxHeartbeats 4000000 in
theorem unpacked_small (bs : List UInt8) (gb cb g c : Nat) (t : TypeId) (w : World) (hT : Tabs w) (hs : Sees w w.heap.size (some ⟨gb, 0, none⟩) (byt bs)) (hbs : bs.length = 8) (hcb : 8 ≤ cb) (hrow : Row w g t (prtCells smallP)) (hc : 4 ≤ c) :
    Calls Tryz.prog 124 #[.slice (some ⟨gb, 0, none⟩) 8 cb, .slice (some ⟨g, 0, none⟩) 4 c] w fun e w' => ((e = .returned (.tuple #[.agg #[.int .i64 0, .int .i64 0, .int .u32 0], .bool false]) ∧ ¬ readL smallP (nvOf bs smallP)) ∨ (e = .returned (.tuple #[.agg (stRec (nvOf bs smallP) 4).toArray, .bool true]) ∧ readL smallP (nvOf bs smallP))) ∧ Below w.heap.size w w' := by
  obtain ⟨W1, hW1⟩ : ∃ W1, W1 = (w.alloc (.cells #[.slice (some ⟨gb, 0, none⟩) 8 cb] 62)).alloc (.cells #[.int .i64 0, .int .i64 0, .int .u32 0] 41) := ⟨_, rfl⟩
  have hb1 : Below w.heap.size w W1 := by rw [hW1]; exact ((Below.refl _ _).alloc (Nat.le_refl _) _).alloc (by simp) _
  have hr0 : Row W1 w.heap.size 62 [.slice (some ⟨gb, 0, none⟩) 8 cb] := by rw [hW1]; exact (Row.new w _ _).below (below1 _ _)
  have hr1 : Row W1 (w.heap.size + 1) 41 [.int .i64 0, .int .i64 0, .int .u32 0] := by rw [hW1]; exact Row.new_at _ _ _ (by simp)
  have hc1 : W1.cell? ⟨w.heap.size, 0, none⟩ = some (.slice (some ⟨gb, 0, none⟩) 8 cb) := hr0.cell 0
  have hs1 : Sees W1 W1.heap.size (some ⟨gb, 0, none⟩) (byt bs) := (hs.keep fun p hp => hb1.cell hp).more hb1.size
  have hT1 := hT.below hb1
  have HRD := Lib.hid (read_Rec ((nvOf bs smallP 0 : Nat) : Int) ((nvOf bs smallP 2 : Nat) : Int) ((nvOf bs smallP 3 : Nat) : Int) 212 #[.pointer (some ⟨w.heap.size, 0, none⟩)] (nvOf bs smallP) (stRec (nvOf bs smallP)) smallP g 4 c t W1 (hrow.below hb1) rfl (by omega) hc smallP_frm rfl rfl
    (enters_of Tryz.func212 (by kernel_rfl) rfl) (fun k hk W hW => by
      have hcs : k = 0 ∨ k = 1 ∨ k = 2 ∨ k = 3 := by
        have : smallP.length = 4 := rfl
        omega
      rcases hcs with rfl | rfl | rfl | rfl
      · exact unp1_Rec w.heap.size gb cb 8 0 1 bs W (hT1.below hW) ((hW.cell (p := ⟨w.heap.size, 0, none⟩) (lt_of_cell hc1)).trans hc1) ((hs1.keep fun p hp => hW.cell hp).more hW.size) hbs hcb (by decide) (by omega) (by omega) (by omega)
      · exact unp1_Rec w.heap.size gb cb 8 1 1 bs W (hT1.below hW) ((hW.cell (p := ⟨w.heap.size, 0, none⟩) (lt_of_cell hc1)).trans hc1) ((hs1.keep fun p hp => hW.cell hp).more hW.size) hbs hcb (by decide) (by omega) (by omega) (by omega)
      · exact unp1_Rec w.heap.size gb cb 8 2 2 bs W (hT1.below hW) ((hW.cell (p := ⟨w.heap.size, 0, none⟩) (lt_of_cell hc1)).trans hc1) ((hs1.keep fun p hp => hW.cell hp).more hW.size) hbs hcb (by decide) (by omega) (by omega) (by omega)
      · exact unp1_Rec w.heap.size gb cb 8 4 4 bs W (hT1.below hW) ((hW.cell (p := ⟨w.heap.size, 0, none⟩) (lt_of_cell hc1)).trans hc1) ((hs1.keep fun p hp => hW.cell hp).more hW.size) hbs hcb (by decide) (by omega) (by omega) (by omega)
      ) eg_say_Rec (says_Rec (nvOf bs smallP)))
  rw [show (stRec (nvOf bs smallP) 0).toArray = #[.int .i64 0, .int .i64 0, .int .u32 0] from rfl] at HRD
  have HB1 := Lib.hid hb1
  have HR1 := Lib.hid hr1
  have HW1 := Lib.hid hW1
  obtain ⟨P, hP⟩ : ∃ P, P = readL smallP (nvOf bs smallP) := ⟨_, rfl⟩
  rw [← hP] at HRD ⊢
  have hcs : ∃ v0 v1 v2 : Int, stRec (nvOf bs smallP) 4 = [.int .i64 v0, .int .i64 v1, .int .u32 v2] := ⟨_, _, _, rfl⟩
  obtain ⟨v0, v1, v2, hcs⟩ := hcs
  rw [hcs] at HRD ⊢
  replace HRD := Lib.hid (HRD.out.mono fun e w' ⟨r, e1, e2, e3⟩ => (show ((e = Ending.returned (.tuple #[.agg #[.int .i64 0, .int .i64 0, .int .u32 0], .bool false]) ∧ ¬ P) ∨ (e = Ending.returned (.tuple #[.agg #[.int .i64 v0, .int .i64 v1, .int .u32 v2], .bool true]) ∧ P)) ∧ Below W1.heap.size W1 w' from by
    cases r
    · exact ⟨.inl ⟨e1, fun h => by have := e2.2 h; cases this⟩, e3⟩
    · exact ⟨.inr ⟨e1, e2.1 rfl⟩, e3⟩))
  clear hP hcs hb1 hr0 hr1 hc1 hs1 hT1 hT hs hbs hcb hrow hW1
  go_enter Tryz.func124, Tryz.ntmps124
  go_wp2_with fail
  rw [← HW1.out]
  refine HRD.out.mono ?_
  rintro e w2 ⟨hor, hb2⟩
  have r2 := HR1.out.below hb2
  have HR2 := Lib.hid r2
  have HB2 := Lib.hid (below0 HB1.out hb2)
  have c0 : w2.cell? ⟨w.heap.size + 1, 0, none⟩ = _ := r2.cell 0
  have f0 := r2.frozen 0
  have c1 : w2.cell? ⟨w.heap.size + 1, 1, none⟩ = _ := r2.cell 1
  have f1 := r2.frozen 1
  have c2 : w2.cell? ⟨w.heap.size + 1, 2, none⟩ = _ := r2.cell 2
  have f2 := r2.frozen 2
  clear r2 hb2 HRD HB1 HR1 HW1
  rcases hor with ⟨rfl, hnp⟩ | ⟨rfl, hnp⟩
  · have HNP := Lib.hid hnp
    clear hnp
    go_wp2
    have R8 := row_set3 (.int .i64 0) (.int .i64 0) (.int .u32 0) HR2.out
    have B8 := below_set3 (b := w.heap.size + 1) (.int .i64 0) (.int .i64 0) (.int .u32 0) HB2.out (by omega)
    clear c0 f0 c1 f1 c2 f2
    have d0 : World.cell? _ ⟨w.heap.size + 1, 0, none⟩ = _ := R8.cell 0
    have d1 : World.cell? _ ⟨w.heap.size + 1, 1, none⟩ = _ := R8.cell 1
    have d2 : World.cell? _ ⟨w.heap.size + 1, 2, none⟩ = _ := R8.cell 2
    exact bodyPost_ret (v := .tuple #[.agg #[.int .i64 0, .int .i64 0, .int .u32 0], .bool false]) (by simp [results, Tryz.results124, go_sem, d0, d1, d2]) rfl ⟨.inl ⟨rfl, HNP.out⟩, B8⟩
  · have HNP := Lib.hid hnp
    clear hnp
    go_wp2
    have R8 := row_set3 (.int .i64 v0) (.int .i64 v1) (.int .u32 v2) HR2.out
    have B8 := below_set3 (b := w.heap.size + 1) (.int .i64 v0) (.int .i64 v1) (.int .u32 v2) HB2.out (by omega)
    clear c0 f0 c1 f1 c2 f2
    have d0 : World.cell? _ ⟨w.heap.size + 1, 0, none⟩ = _ := R8.cell 0
    have d1 : World.cell? _ ⟨w.heap.size + 1, 1, none⟩ = _ := R8.cell 1
    have d2 : World.cell? _ ⟨w.heap.size + 1, 2, none⟩ = _ := R8.cell 2
    exact bodyPost_ret (v := .tuple #[.agg #[.int .i64 v0, .int .i64 v1, .int .u32 v2], .bool true]) (by simp [results, Tryz.results124, go_sem, d0, d1, d2]) rfl ⟨.inr ⟨rfl, HNP.out⟩, B8⟩
theorem nv_Gre_a (f : Byts) (o : Nat) : nvOf (cutL f o 16) greatP 0 = (f (o)).toNat := by
  unfold nvOf
  rw [show frm greatP 0 = 0 from rfl, show (prt greatP 0).wd = 1 from rfl, cutL_cut f o 16 0 1 (by omega), cut_one, val_one, Nat.add_zero]
theorem nv_Gre_b (f : Byts) (o : Nat) : nvOf (cutL f o 16) greatP 1 = (f (o + 1)).toNat := by
  unfold nvOf
  rw [show frm greatP 1 = 1 from rfl, show (prt greatP 1).wd = 1 from rfl, cutL_cut f o 16 1 1 (by omega), cut_one, val_one]
theorem nv_Gre_c (f : Byts) (o : Nat) : nvOf (cutL f o 16) greatP 2 = le2 f (o + 2) := by
  unfold nvOf
  rw [show frm greatP 2 = 2 from rfl, show (prt greatP 2).wd = 2 from rfl, cutL_cut f o 16 2 2 (by omega), cut_two, val_two]
theorem nv_Gre_d (f : Byts) (o : Nat) : nvOf (cutL f o 16) greatP 3 = le4 f (o + 4) := by
  unfold nvOf
  rw [show frm greatP 3 = 4 from rfl, show (prt greatP 3).wd = 4 from rfl, cutL_cut f o 16 4 4 (by omega), cut_four, val_four]
theorem nv_Gre_e (f : Byts) (o : Nat) : nvOf (cutL f o 16) greatP 4 = le4 f (o + 8) := by
  unfold nvOf
  rw [show frm greatP 4 = 8 from rfl, show (prt greatP 4).wd = 4 from rfl, cutL_cut f o 16 8 4 (by omega), cut_four, val_four]
theorem nv_Gre_f (f : Byts) (o : Nat) : nvOf (cutL f o 16) greatP 5 = le4 f (o + 12) := by
  unfold nvOf
  rw [show frm greatP 5 = 12 from rfl, show (prt greatP 5).wd = 4 from rfl, cutL_cut f o 16 12 4 (by omega), cut_four, val_four]
theorem read_great_iff (f : Byts) (o : Nat) : readL greatP (nvOf (cutL f o 16) greatP) ↔ (greatAt f o).isSome = true := by
  unfold greatAt
  have key : readL greatP (nvOf (cutL f o 16) greatP) ↔ (f o).toNat ≤ 4 ∧ f (o + 1) = 0 ∧ le4 f (o + 4) ≤ 262144 ∧ le4 f (o + 8) ≤ 65535 ∧ le4 f (o + 12) = 0 := by
    constructor
    · intro h
      have g0 : nvOf (cutL f o 16) greatP 0 ≤ 4 := h 0 (by decide)
      rw [nv_Gre_a] at g0
      have g1 : nvOf (cutL f o 16) greatP 1 ≤ 0 := h 1 (by decide)
      rw [nv_Gre_b] at g1
      have g2 : nvOf (cutL f o 16) greatP 2 ≤ 65535 := h 2 (by decide)
      rw [nv_Gre_c] at g2
      have g3 : nvOf (cutL f o 16) greatP 3 ≤ 262144 := h 3 (by decide)
      rw [nv_Gre_d] at g3
      have g4 : nvOf (cutL f o 16) greatP 4 ≤ 65535 := h 4 (by decide)
      rw [nv_Gre_e] at g4
      have g5 : nvOf (cutL f o 16) greatP 5 ≤ 0 := h 5 (by decide)
      rw [nv_Gre_f] at g5
      exact ⟨g0, byte_zero.1 g1, g3, g4, by omega⟩
    · rintro ⟨g0, g1, g3, g4, g5⟩ k hk
      have hc : k = 0 ∨ k = 1 ∨ k = 2 ∨ k = 3 ∨ k = 4 ∨ k = 5 := by
        have : greatP.length = 6 := rfl
        omega
      rcases hc with rfl | rfl | rfl | rfl | rfl | rfl
      · show nvOf (cutL f o 16) greatP 0 ≤ 4
        rw [nv_Gre_a]
        exact g0
      · show nvOf (cutL f o 16) greatP 1 ≤ 0
        rw [nv_Gre_b]
        exact byte_zero.2 g1
      · show nvOf (cutL f o 16) greatP 2 ≤ 65535
        rw [nv_Gre_c]
        exact le2_lt _ _
      · show nvOf (cutL f o 16) greatP 3 ≤ 262144
        rw [nv_Gre_d]
        exact g3
      · show nvOf (cutL f o 16) greatP 4 ≤ 65535
        rw [nv_Gre_e]
        exact g4
      · show nvOf (cutL f o 16) greatP 5 ≤ 0
        rw [nv_Gre_f]
        omega
  rw [key]
  by_cases hcd : (f o).toNat ≤ 4 ∧ f (o + 1) = 0 ∧ le4 f (o + 4) ≤ 262144 ∧ le4 f (o + 8) ≤ 65535 ∧ le4 f (o + 12) = 0
  · rw [if_pos hcd]
    exact ⟨fun _ => rfl, fun _ => hcd⟩
  · rw [if_neg hcd]
    exact ⟨fun h => absurd h hcd, fun h => absurd h (by decide)⟩
theorem st_great_eq (f : Byts) (o : Nat) : stGre (nvOf (cutL f o 16) greatP) 6 = [.int .i64 (((f (o)).toNat : Nat) : Int), .int .i64 ((le2 f (o + 2) : Nat) : Int), .int .i64 ((le4 f (o + 4) : Nat) : Int), .int .i64 ((le4 f (o + 8) : Nat) : Int)] := by
  simp only [stGre, nv_Gre_a, nv_Gre_c, nv_Gre_d, nv_Gre_e]
set_option maxRecDepth 100000 in
set_option maxHeartbeats 4000000 in
theorem unpacked_great (bs : List UInt8) (gb cb g c : Nat) (t : TypeId) (w : World) (hT : Tabs w) (hs : Sees w w.heap.size (some ⟨gb, 0, none⟩) (byt bs)) (hbs : bs.length = 16) (hcb : 16 ≤ cb) (hrow : Row w g t (prtCells greatP)) (hc : 6 ≤ c) :
    Calls Tryz.prog 135 #[.slice (some ⟨gb, 0, none⟩) 16 cb, .slice (some ⟨g, 0, none⟩) 6 c] w fun e w' => ((e = .returned (.tuple #[.agg #[.int .i64 0, .int .i64 0, .int .i64 0, .int .i64 0], .bool false]) ∧ ¬ readL greatP (nvOf bs greatP)) ∨ (e = .returned (.tuple #[.agg (stGre (nvOf bs greatP) 6).toArray, .bool true]) ∧ readL greatP (nvOf bs greatP))) ∧ Below w.heap.size w w' := by
  obtain ⟨W1, hW1⟩ : ∃ W1, W1 = (w.alloc (.cells #[.slice (some ⟨gb, 0, none⟩) 16 cb] 62)).alloc (.cells #[.int .i64 0, .int .i64 0, .int .i64 0, .int .i64 0] 43) := ⟨_, rfl⟩
  have hb1 : Below w.heap.size w W1 := by rw [hW1]; exact ((Below.refl _ _).alloc (Nat.le_refl _) _).alloc (by simp) _
  have hr0 : Row W1 w.heap.size 62 [.slice (some ⟨gb, 0, none⟩) 16 cb] := by rw [hW1]; exact (Row.new w _ _).below (below1 _ _)
  have hr1 : Row W1 (w.heap.size + 1) 43 [.int .i64 0, .int .i64 0, .int .i64 0, .int .i64 0] := by rw [hW1]; exact Row.new_at _ _ _ (by simp)
  have hc1 : W1.cell? ⟨w.heap.size, 0, none⟩ = some (.slice (some ⟨gb, 0, none⟩) 16 cb) := hr0.cell 0
  have hs1 : Sees W1 W1.heap.size (some ⟨gb, 0, none⟩) (byt bs) := (hs.keep fun p hp => hb1.cell hp).more hb1.size
  have hT1 := hT.below hb1
  have HRD := Lib.hid (read_Gre ((nvOf bs greatP 0 : Nat) : Int) ((nvOf bs greatP 2 : Nat) : Int) ((nvOf bs greatP 3 : Nat) : Int) ((nvOf bs greatP 4 : Nat) : Int) 217 #[.pointer (some ⟨w.heap.size, 0, none⟩)] (nvOf bs greatP) (stGre (nvOf bs greatP)) greatP g 6 c t W1 (hrow.below hb1) rfl (by omega) hc greatP_frm rfl rfl
    (enters_of Tryz.func217 (by kernel_rfl) rfl) (fun k hk W hW => by
      have hcs : k = 0 ∨ k = 1 ∨ k = 2 ∨ k = 3 ∨ k = 4 ∨ k = 5 := by
        have : greatP.length = 6 := rfl
        omega
      rcases hcs with rfl | rfl | rfl | rfl | rfl | rfl
      · exact unp1_Gre w.heap.size gb cb 16 0 1 bs W (hT1.below hW) ((hW.cell (p := ⟨w.heap.size, 0, none⟩) (lt_of_cell hc1)).trans hc1) ((hs1.keep fun p hp => hW.cell hp).more hW.size) hbs hcb (by decide) (by omega) (by omega) (by omega)
      · exact unp1_Gre w.heap.size gb cb 16 1 1 bs W (hT1.below hW) ((hW.cell (p := ⟨w.heap.size, 0, none⟩) (lt_of_cell hc1)).trans hc1) ((hs1.keep fun p hp => hW.cell hp).more hW.size) hbs hcb (by decide) (by omega) (by omega) (by omega)
      · exact unp1_Gre w.heap.size gb cb 16 2 2 bs W (hT1.below hW) ((hW.cell (p := ⟨w.heap.size, 0, none⟩) (lt_of_cell hc1)).trans hc1) ((hs1.keep fun p hp => hW.cell hp).more hW.size) hbs hcb (by decide) (by omega) (by omega) (by omega)
      · exact unp1_Gre w.heap.size gb cb 16 4 4 bs W (hT1.below hW) ((hW.cell (p := ⟨w.heap.size, 0, none⟩) (lt_of_cell hc1)).trans hc1) ((hs1.keep fun p hp => hW.cell hp).more hW.size) hbs hcb (by decide) (by omega) (by omega) (by omega)
      · exact unp1_Gre w.heap.size gb cb 16 8 4 bs W (hT1.below hW) ((hW.cell (p := ⟨w.heap.size, 0, none⟩) (lt_of_cell hc1)).trans hc1) ((hs1.keep fun p hp => hW.cell hp).more hW.size) hbs hcb (by decide) (by omega) (by omega) (by omega)
      · exact unp1_Gre w.heap.size gb cb 16 12 4 bs W (hT1.below hW) ((hW.cell (p := ⟨w.heap.size, 0, none⟩) (lt_of_cell hc1)).trans hc1) ((hs1.keep fun p hp => hW.cell hp).more hW.size) hbs hcb (by decide) (by omega) (by omega) (by omega)
      ) eg_say_Gre (says_Gre (nvOf bs greatP)))
  rw [show (stGre (nvOf bs greatP) 0).toArray = #[.int .i64 0, .int .i64 0, .int .i64 0, .int .i64 0] from rfl] at HRD
  have HB1 := Lib.hid hb1
  have HR1 := Lib.hid hr1
  have HW1 := Lib.hid hW1
  obtain ⟨P, hP⟩ : ∃ P, P = readL greatP (nvOf bs greatP) := ⟨_, rfl⟩
  rw [← hP] at HRD ⊢
  have hcs : ∃ v0 v1 v2 v3 : Int, stGre (nvOf bs greatP) 6 = [.int .i64 v0, .int .i64 v1, .int .i64 v2, .int .i64 v3] := ⟨_, _, _, _, rfl⟩
  obtain ⟨v0, v1, v2, v3, hcs⟩ := hcs
  rw [hcs] at HRD ⊢
  replace HRD := Lib.hid (HRD.out.mono fun e w' ⟨r, e1, e2, e3⟩ => (show ((e = Ending.returned (.tuple #[.agg #[.int .i64 0, .int .i64 0, .int .i64 0, .int .i64 0], .bool false]) ∧ ¬ P) ∨ (e = Ending.returned (.tuple #[.agg #[.int .i64 v0, .int .i64 v1, .int .i64 v2, .int .i64 v3], .bool true]) ∧ P)) ∧ Below W1.heap.size W1 w' from by
    cases r
    · exact ⟨.inl ⟨e1, fun h => by have := e2.2 h; cases this⟩, e3⟩
    · exact ⟨.inr ⟨e1, e2.1 rfl⟩, e3⟩))
  clear hP hcs hb1 hr0 hr1 hc1 hs1 hT1 hT hs hbs hcb hrow hW1
  go_enter Tryz.func135, Tryz.ntmps135
  go_wp2_with fail
  rw [← HW1.out]
  refine HRD.out.mono ?_
  rintro e w2 ⟨hor, hb2⟩
  have r2 := HR1.out.below hb2
  have HR2 := Lib.hid r2
  have HB2 := Lib.hid (below0 HB1.out hb2)
  have c0 : w2.cell? ⟨w.heap.size + 1, 0, none⟩ = _ := r2.cell 0
  have f0 := r2.frozen 0
  have c1 : w2.cell? ⟨w.heap.size + 1, 1, none⟩ = _ := r2.cell 1
  have f1 := r2.frozen 1
  have c2 : w2.cell? ⟨w.heap.size + 1, 2, none⟩ = _ := r2.cell 2
  have f2 := r2.frozen 2
  have c3 : w2.cell? ⟨w.heap.size + 1, 3, none⟩ = _ := r2.cell 3
  have f3 := r2.frozen 3
  clear r2 hb2 HRD HB1 HR1 HW1
  rcases hor with ⟨rfl, hnp⟩ | ⟨rfl, hnp⟩
  · have HNP := Lib.hid hnp
    clear hnp
    go_wp2
    have R8 := row_set4 (.int .i64 0) (.int .i64 0) (.int .i64 0) (.int .i64 0) HR2.out
    have B8 := below_set4 (b := w.heap.size + 1) (.int .i64 0) (.int .i64 0) (.int .i64 0) (.int .i64 0) HB2.out (by omega)
    clear c0 f0 c1 f1 c2 f2 c3 f3
    have d0 : World.cell? _ ⟨w.heap.size + 1, 0, none⟩ = _ := R8.cell 0
    have d1 : World.cell? _ ⟨w.heap.size + 1, 1, none⟩ = _ := R8.cell 1
    have d2 : World.cell? _ ⟨w.heap.size + 1, 2, none⟩ = _ := R8.cell 2
    have d3 : World.cell? _ ⟨w.heap.size + 1, 3, none⟩ = _ := R8.cell 3
    exact bodyPost_ret (v := .tuple #[.agg #[.int .i64 0, .int .i64 0, .int .i64 0, .int .i64 0], .bool false]) (by simp [results, Tryz.results135, go_sem, d0, d1, d2, d3]) rfl ⟨.inl ⟨rfl, HNP.out⟩, B8⟩
  · have HNP := Lib.hid hnp
    clear hnp
    go_wp2
    have R8 := row_set4 (.int .i64 v0) (.int .i64 v1) (.int .i64 v2) (.int .i64 v3) HR2.out
    have B8 := below_set4 (b := w.heap.size + 1) (.int .i64 v0) (.int .i64 v1) (.int .i64 v2) (.int .i64 v3) HB2.out (by omega)
    clear c0 f0 c1 f1 c2 f2 c3 f3
    have d0 : World.cell? _ ⟨w.heap.size + 1, 0, none⟩ = _ := R8.cell 0
    have d1 : World.cell? _ ⟨w.heap.size + 1, 1, none⟩ = _ := R8.cell 1
    have d2 : World.cell? _ ⟨w.heap.size + 1, 2, none⟩ = _ := R8.cell 2
    have d3 : World.cell? _ ⟨w.heap.size + 1, 3, none⟩ = _ := R8.cell 3
    exact bodyPost_ret (v := .tuple #[.agg #[.int .i64 v0, .int .i64 v1, .int .i64 v2, .int .i64 v3], .bool true]) (by simp [results, Tryz.results135, go_sem, d0, d1, d2, d3]) rfl ⟨.inr ⟨rfl, HNP.out⟩, B8⟩
end Go.Proofs.YtiahmccchpmdgaaGreatDoor.Me
