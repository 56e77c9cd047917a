import Derived.Test.YtiahmccchpmdgaaGreatDoorFAK
import Derived.Test.YtiahmccchpmdgaaGreatDoorFAR
import Derived.Test.YtiahmccchpmdgaaGreatDoorFAB
namespace Go.Proofs.YtiahmccchpmdgaaGreatDoor.Me
open Go.RowKit Go.Shelf
attribute [local go_sem] Oper.semAt_some

/- THE PARTS OF A RECORD, ONE BEHIND THE OTHER. -/
structure Prt where
  wd : Nat
  mo : Nat
  tf : Nat
  sf : Nat
def Prt.cells (p : Prt) : List Value := [.int .i64 (p.wd : Int), .int .i64 (p.mo : Int), .func (.func p.tf) #[] #[], .func (.func p.sf) #[] #[]]
abbrev paV (a b : Int) (c d : Nat) : Value := .agg #[.int .i64 a, .int .i64 b, .func (.func c) #[] #[], .func (.func d) #[] #[]]
def Prt.val (p : Prt) : Value := paV (p.wd : Int) (p.mo : Int) p.tf p.sf
def prtCells (l : List Prt) : List Value := l.flatMap Prt.cells
theorem prt_cell : ∀ (l : List Prt) (k : Nat) (h : k < l.length), (prtCells l)[k * 4]? = some (.int .i64 (l[k].wd : Int)) ∧ (prtCells l)[k * 4 + 1]? = some (.int .i64 (l[k].mo : Int)) ∧ (prtCells l)[k * 4 + 2]? = some (.func (.func l[k].tf) #[] #[]) ∧ (prtCells l)[k * 4 + 3]? = some (.func (.func l[k].sf) #[] #[])
  | p :: r, 0, _ => ⟨rfl, rfl, rfl, rfl⟩
  | p :: r, k + 1, h => by
    have := prt_cell r k (by simpa using h)
    rw [show (k + 1) * 4 = k * 4 + 1 + 1 + 1 + 1 by omega]
    exact this
/-- where the k-th part begins -/
def frm : List Prt → Nat → Nat
  | [], _ => 0
  | _ :: _, 0 => 0
  | p :: r, k + 1 => p.wd + frm r k
theorem frm_zero (l : List Prt) : frm l 0 = 0 := by cases l <;> rfl
theorem frm_step : ∀ (l : List Prt) (k : Nat) (h : k < l.length), frm l (k + 1) = frm l k + l[k].wd
  | p :: r, 0, _ => by
    show p.wd + frm r 0 = 0 + p.wd
    rw [frm_zero]
    omega
  | p :: r, k + 1, h => by
    rw [frm, frm_step r k (by simpa using h), frm]
    simp only [List.getElem_cons_succ]
    omega
/-- what the iterator reads -/
structure Pls (w : World) (bo g n : Nat) (l : List Prt) (t : TypeId) (c : Nat) : Prop where
  cs : w.cell? ⟨bo, 0, none⟩ = some (.slice (some ⟨g, 0, none⟩) n c)
  row : Row w g t (prtCells l)
def pvL (bo g : Nat) (k : Nat) : Prop := k = bo ∨ k = g
section
variable {w w' : World} {bo g n c : Nat} {l : List Prt} {t : TypeId}
theorem Pls.same (h : Pls w bo g n l t c) (hp : ∀ k, pvL bo g k → w'.heap[k]? = w.heap[k]?) : Pls w' bo g n l t c := ⟨(World.cell?_of_block (hp bo (.inl rfl))).trans h.cs, h.row.same (hp g (.inr rfl))⟩
theorem Pls.lt (h : Pls w bo g n l t c) : ∀ k, pvL bo g k → k < w.heap.size := by
  rintro k (rfl | rfl)
  · exact lt_of_cell h.cs
  · exact h.row.lt
theorem Pls.at_ (h : Pls w bo g n l t c) {k : Nat} (hk : k < l.length) : w.cell? ⟨g, k * 4, none⟩ = some (.int .i64 (l[k].wd : Int)) ∧ w.cell? ⟨g, k * 4 + 1, none⟩ = some (.int .i64 (l[k].mo : Int)) ∧ w.cell? ⟨g, k * 4 + 2, none⟩ = some (.func (.func l[k].tf) #[] #[]) ∧ w.cell? ⟨g, k * 4 + 3, none⟩ = some (.func (.func l[k].sf) #[] #[]) := by
  obtain ⟨h0, h1, h2, h3⟩ := prt_cell l k hk
  exact ⟨(h.row.cell _).trans h0, (h.row.cell _).trans h1, (h.row.cell _).trans h2, (h.row.cell _).trans h3⟩
end
/-- what is handed over: a part's place in the list -/
def encP (l : List Prt) (k : Nat) : Array Value := #[.int .i64 (frm l k : Int), (l.getD k ⟨0, 0, 0, 0⟩).val]
theorem encP_at (l : List Prt) {k : Nat} (h : k < l.length) : encP l k = #[.int .i64 (frm l k : Int), paV (l[k].wd : Int) (l[k].mo : Int) l[k].tf l[k].sf] := by
  unfold encP
  rw [List.getD_eq_getElem?_getD, List.getElem?_eq_getElem h]
  rfl
def preP (l : List Prt) (pre : List Nat) (x : Nat) (_ : World) : Prop := x = pre.length ∧ x < l.length
def allP (l : List Prt) (xs : List Nat) : Prop := xs.length = l.length
def someP (_ : List Prt) (_ : List Nat) : Prop := True
theorem placed_Rec (A : Option Addr) (n c : Nat) (w : World) : Calls Tryz.prog 218 #[.slice A n c] w fun e w' => e = .returned (.func (.func 268) #[] #[.pointer (some ⟨w.heap.size, 0, none⟩)]) ∧ w' = w.alloc (.cells #[.slice A n c] 136) := by
  go_enter Tryz.func218, Tryz.ntmps218
  go_wp2
  go_ret
  exact ⟨rfl, rfl⟩
set_option maxRecDepth 100000 in
set_option maxHeartbeats 4000000 in
theorem placed1_Rec (bo g n c : Nat) (l : List Prt) (t : TypeId) (w0 : World) (h : Pls w0 bo g n l t c) (hn : l.length = n) (hm : n ≤ 6) (hc : n ≤ c) (hf : ∀ k, k ≤ n → frm l k ≤ 1000) :
    It Tryz.prog 268 #[.pointer (some ⟨bo, 0, none⟩)] (encP l) (fun _ _ => False) (preP l) (pvL bo g) (allP l) (someP l) w0 := by
  intro l0 J Jx W hpW hsW hJ hJx hY h0
  refine (callsIn_wide (n := 1)).1 ?_
  have HPW := Lib.hid hpW
  have HPL := Lib.hid h.lt
  have HP := Lib.hid (fun (V : World) (hp : ∀ k, pvL bo g k → V.heap[k]? = w0.heap[k]?) => h.same hp)
  have HN := Lib.hid hn
  have HF := Lib.hid hf
  have HFS := Lib.hid (fun k hk => frm_step l k hk)
  have HENC := Lib.hid (fun k (hk : k < l.length) => encP_at l hk)
  have c1 := (h.same hpW).cs
  have HZ := Lib.hid (frm_zero l)
  clear h hn hpW hf
  refine callsIn_of_wp Tryz.func268 rfl trivial ?_ rfl
  simp only [Tryz.ntmps268, List.size_toArray, List.length_cons, List.length_nil, Nat.reduceAdd, Nat.reduceSub, Array.replicate_succ, Array.replicate_zero, List.push_toArray, List.append_toArray, List.nil_append, List.cons_append]
  gi_wp2_with fail
  gi_loopw [3, 8] (fun f t wr => ∃ (i F : Nat) (pre : List Nat) (O : Nat → Prop), f = .int .i64 (F : Int) ∧ t = .int .i64 (i : Int) ∧ i ≤ n ∧ Hid (F = frm l i) ∧ Hid (pre.length = i) ∧ J pre O wr ∧ W.heap.size ≤ wr.heap.size ∧ (∀ b, O b → W.heap.size ≤ b ∧ b < wr.heap.size) ∧ ∀ k, pvL bo g k → wr.heap[k]? = w0.heap[k]?) (fun _ t _ => n - (_root_.Go.RowKit.intOf t).toNat)
  case atStart => exact ⟨0, 0, [], fun _ => False, rfl, rfl, Nat.zero_le _, Lib.hid HZ.out.symm, Lib.hid rfl, h0, Nat.le_refl _, fun b (h : False) => h.elim, HPW.out⟩
  case round =>
    obtain ⟨i, F, pre, O, rfl, rfl, hin, HFE, HPRE, hj, hws, hO, hpv⟩ := hrel
    by_cases hlt : i < n
    · have hil : i < l.length := by rw [HN.out]; exact hlt
      have j0 : (0 : Int) ≤ (i : Int) := by omega
      have j1 : (i : Int) < (n : Int) := by omega
      have j2 : decide ((i : Int) < (n : Int)) = true := decide_eq_true j1
      have j3 : decide (i < n) = true := decide_eq_true hlt
      obtain ⟨d0, d1, d2, d3⟩ := (HP.out wr hpv).at_ hil
      have HE := Lib.hid (HENC.out i hil)
      have hfs := HFS.out i hil
      have hb1 := HF.out (i + 1) (by omega)
      rw [← HFE.out] at hfs HE
      obtain ⟨p, hp⟩ : ∃ p, p = l[i] := ⟨_, rfl⟩
      rw [← hp] at d0 d1 d2 d3 HE hfs
      obtain ⟨a, b, tf, sf⟩ := p
      simp only at d0 d1 d2 d3 HE hfs
      obtain ⟨o, ho⟩ : ∃ o : Obj, o = .cells #[.int .i64 (a : Int), .int .i64 (b : Int), .func (.func tf) #[] #[], .func (.func sf) #[] #[]] 129 := ⟨_, rfl⟩
      obtain ⟨W1, hW1⟩ : ∃ W1, W1 = wr.alloc o := ⟨_, rfl⟩
      have hs1 : W1.heap.size = wr.heap.size + 1 := by rw [hW1]; simp
      have hlow : ∀ k, k < wr.heap.size → W1.heap[k]? = wr.heap[k]? := fun k hk => by rw [hW1]; exact Below.heap_alloc _ _ _ hk
      have hrw : Row W1 wr.heap.size 129 [.int .i64 (a : Int), .int .i64 (b : Int), .func (.func tf) #[] #[], .func (.func sf) #[] #[]] := by rw [hW1, ho]; exact Row.new _ _ _
      have hO1 : ∀ b, O b → W.heap.size ≤ b ∧ b < W1.heap.size := fun b hb => by have := hO b hb; omega
      have hj1 : J pre O W1 := by rw [hW1]; exact hJ _ _ _ _ none hj (World.grownBy_alloc wr o none) (fun r e => by cases e)
      obtain ⟨fn, tmps, assign, body, hy, hR⟩ := hY pre i O W1 (by omega) hO1 hj1 ⟨HPRE.out.symm, hil⟩ (fun b (h : False) => h.elim)
      rw [HE.out] at hy
      have HW1 := Lib.hid (show W1 = wr.alloc (.cells #[.int .i64 (a : Int), .int .i64 (b : Int), .func (.func tf) #[] #[], .func (.func sf) #[] #[]] 129) by rw [hW1, ho])
      have a1 : IntKind.i64.wrap ((i : Int) + 1) = ((i + 1 : Nat) : Int) := (wrapI _ (by omega) (by omega)).trans (by omega)
      have hFa : F + a ≤ 1000 := by omega
      have HFA := Lib.hid hfs
      have HRW := Lib.hid hrw
      have HC2 : Hid (∀ W', Keeps (pvL bo g) W.heap.size O (fun _ => False) W1 W' → W'.cell? ⟨wr.heap.size, 0, none⟩ = some (.int .i64 (a : Int))) := Lib.hid (fun W' hk => (World.cell?_of_block (hk.same wr.heap.size (by omega) (.inr ⟨hws, fun h => by have := hO _ h; omega, fun h => h⟩))).trans (hrw.cell 0))
      have HPV : Hid (∀ W', Keeps (pvL bo g) W.heap.size O (fun _ => False) W1 W' → ∀ j, pvL bo g j → W'.heap[j]? = w0.heap[j]?) := Lib.hid (fun W' hk j hj => by
        have hjl := HPL.out j hj
        exact (hk.same j (by omega) (.inl hj)).trans ((hlow j (by omega)).trans (hpv j hj)))
      have HON : Hid (∀ W', Keeps (pvL bo g) W.heap.size O (fun _ => False) W1 W' → ∀ b, nextO O (fun _ => False) W1 W' b → W.heap.size ≤ b ∧ b < W'.heap.size) := Lib.hid (fun W' hk => nextO_bound hO1 (by omega) hk.size)
      have HWS : Hid (∀ W', Keeps (pvL bo g) W.heap.size O (fun _ => False) W1 W' → W.heap.size ≤ W'.heap.size) := Lib.hid (fun W' hk => by have := hk.size; omega)
      have a2 : IntKind.i64.wrap ((F : Int) + (a : Int)) = ((F + a : Nat) : Int) := (wrapI _ (by omega) (by omega)).trans (by omega)
      clear hp hfs hb1 HFE hW1 ho hs1 hlow hrw hO1 hj1 hpv hO hj HE
      gi_wp2_with fail
      rw [← HW1.out, hy]
      go_simp
      refine hR.mono ?_
      rintro e W' ⟨hk', (⟨rfl, hj'⟩ | ⟨rfl, hjx⟩)⟩
      · have e0 := HC2.out W' hk'
        have HPV4 := Lib.hid (HPV.out W' hk')
        have HON4 := Lib.hid (HON.out W' hk')
        have HWS4 := Lib.hid (HWS.out W' hk')
        clear hk' HC2 HPV HON HWS HRW d0 d1 d2 d3 hy hR
        gi_wp2_with fail
        refine ⟨⟨i + 1, F + a, pre ++ [i], _, rfl, rfl, by omega, Lib.hid HFA.out.symm, Lib.hid (by rw [List.length_append, HPRE.out]; rfl), hj', HWS4.out, HON4.out, HPV4.out⟩, ?_⟩
        simp [_root_.Go.RowKit.intOf]; omega
      · gi_wp2_with fail
        refine bodyPost_ret (results_none rfl _ _ _) rfl ?_
        exact itEnd.part trivial hjx
    · obtain rfl : i = n := by omega
      have j2 : decide ((i : Int) < (i : Int)) = false := decide_eq_false (by omega)
      have HA := Lib.hid (show allP l pre from HPRE.out.trans HN.out.symm)
      clear HPRE
      gi_wp2_with fail
      go_end0
      exact itEnd.all HA.out hj
theorem placed_Gre (A : Option Addr) (n c : Nat) (w : World) : Calls Tryz.prog 222 #[.slice A n c] w fun e w' => e = .returned (.func (.func 271) #[] #[.pointer (some ⟨w.heap.size, 0, none⟩)]) ∧ w' = w.alloc (.cells #[.slice A n c] 145) := by
  go_enter Tryz.func222, Tryz.ntmps222
  go_wp2
  go_ret
  exact ⟨rfl, rfl⟩
set_option maxRecDepth 100000 in
set_option maxHeartbeats 4000000 in
theorem placed1_Gre (bo g n c : Nat) (l : List Prt) (t : TypeId) (w0 : World) (h : Pls w0 bo g n l t c) (hn : l.length = n) (hm : n ≤ 6) (hc : n ≤ c) (hf : ∀ k, k ≤ n → frm l k ≤ 1000) :
    It Tryz.prog 271 #[.pointer (some ⟨bo, 0, none⟩)] (encP l) (fun _ _ => False) (preP l) (pvL bo g) (allP l) (someP l) w0 := by
  intro l0 J Jx W hpW hsW hJ hJx hY h0
  refine (callsIn_wide (n := 1)).1 ?_
  have HPW := Lib.hid hpW
  have HPL := Lib.hid h.lt
  have HP := Lib.hid (fun (V : World) (hp : ∀ k, pvL bo g k → V.heap[k]? = w0.heap[k]?) => h.same hp)
  have HN := Lib.hid hn
  have HF := Lib.hid hf
  have HFS := Lib.hid (fun k hk => frm_step l k hk)
  have HENC := Lib.hid (fun k (hk : k < l.length) => encP_at l hk)
  have c1 := (h.same hpW).cs
  have HZ := Lib.hid (frm_zero l)
  clear h hn hpW hf
  refine callsIn_of_wp Tryz.func271 rfl trivial ?_ rfl
  simp only [Tryz.ntmps271, List.size_toArray, List.length_cons, List.length_nil, Nat.reduceAdd, Nat.reduceSub, Array.replicate_succ, Array.replicate_zero, List.push_toArray, List.append_toArray, List.nil_append, List.cons_append]
  gi_wp2_with fail
  gi_loopw [3, 8] (fun f t wr => ∃ (i F : Nat) (pre : List Nat) (O : Nat → Prop), f = .int .i64 (F : Int) ∧ t = .int .i64 (i : Int) ∧ i ≤ n ∧ Hid (F = frm l i) ∧ Hid (pre.length = i) ∧ J pre O wr ∧ W.heap.size ≤ wr.heap.size ∧ (∀ b, O b → W.heap.size ≤ b ∧ b < wr.heap.size) ∧ ∀ k, pvL bo g k → wr.heap[k]? = w0.heap[k]?) (fun _ t _ => n - (_root_.Go.RowKit.intOf t).toNat)
  case atStart => exact ⟨0, 0, [], fun _ => False, rfl, rfl, Nat.zero_le _, Lib.hid HZ.out.symm, Lib.hid rfl, h0, Nat.le_refl _, fun b (h : False) => h.elim, HPW.out⟩
  case round =>
    obtain ⟨i, F, pre, O, rfl, rfl, hin, HFE, HPRE, hj, hws, hO, hpv⟩ := hrel
    by_cases hlt : i < n
    · have hil : i < l.length := by rw [HN.out]; exact hlt
      have j0 : (0 : Int) ≤ (i : Int) := by omega
      have j1 : (i : Int) < (n : Int) := by omega
      have j2 : decide ((i : Int) < (n : Int)) = true := decide_eq_true j1
      have j3 : decide (i < n) = true := decide_eq_true hlt
      obtain ⟨d0, d1, d2, d3⟩ := (HP.out wr hpv).at_ hil
      have HE := Lib.hid (HENC.out i hil)
      have hfs := HFS.out i hil
      have hb1 := HF.out (i + 1) (by omega)
      rw [← HFE.out] at hfs HE
      obtain ⟨p, hp⟩ : ∃ p, p = l[i] := ⟨_, rfl⟩
      rw [← hp] at d0 d1 d2 d3 HE hfs
      obtain ⟨a, b, tf, sf⟩ := p
      simp only at d0 d1 d2 d3 HE hfs
      obtain ⟨o, ho⟩ : ∃ o : Obj, o = .cells #[.int .i64 (a : Int), .int .i64 (b : Int), .func (.func tf) #[] #[], .func (.func sf) #[] #[]] 140 := ⟨_, rfl⟩
      obtain ⟨W1, hW1⟩ : ∃ W1, W1 = wr.alloc o := ⟨_, rfl⟩
      have hs1 : W1.heap.size = wr.heap.size + 1 := by rw [hW1]; simp
      have hlow : ∀ k, k < wr.heap.size → W1.heap[k]? = wr.heap[k]? := fun k hk => by rw [hW1]; exact Below.heap_alloc _ _ _ hk
      have hrw : Row W1 wr.heap.size 140 [.int .i64 (a : Int), .int .i64 (b : Int), .func (.func tf) #[] #[], .func (.func sf) #[] #[]] := by rw [hW1, ho]; exact Row.new _ _ _
      have hO1 : ∀ b, O b → W.heap.size ≤ b ∧ b < W1.heap.size := fun b hb => by have := hO b hb; omega
      have hj1 : J pre O W1 := by rw [hW1]; exact hJ _ _ _ _ none hj (World.grownBy_alloc wr o none) (fun r e => by cases e)
      obtain ⟨fn, tmps, assign, body, hy, hR⟩ := hY pre i O W1 (by omega) hO1 hj1 ⟨HPRE.out.symm, hil⟩ (fun b (h : False) => h.elim)
      rw [HE.out] at hy
      have HW1 := Lib.hid (show W1 = wr.alloc (.cells #[.int .i64 (a : Int), .int .i64 (b : Int), .func (.func tf) #[] #[], .func (.func sf) #[] #[]] 140) by rw [hW1, ho])
      have a1 : IntKind.i64.wrap ((i : Int) + 1) = ((i + 1 : Nat) : Int) := (wrapI _ (by omega) (by omega)).trans (by omega)
      have hFa : F + a ≤ 1000 := by omega
      have HFA := Lib.hid hfs
      have HRW := Lib.hid hrw
      have HC2 : Hid (∀ W', Keeps (pvL bo g) W.heap.size O (fun _ => False) W1 W' → W'.cell? ⟨wr.heap.size, 0, none⟩ = some (.int .i64 (a : Int))) := Lib.hid (fun W' hk => (World.cell?_of_block (hk.same wr.heap.size (by omega) (.inr ⟨hws, fun h => by have := hO _ h; omega, fun h => h⟩))).trans (hrw.cell 0))
      have HPV : Hid (∀ W', Keeps (pvL bo g) W.heap.size O (fun _ => False) W1 W' → ∀ j, pvL bo g j → W'.heap[j]? = w0.heap[j]?) := Lib.hid (fun W' hk j hj => by
        have hjl := HPL.out j hj
        exact (hk.same j (by omega) (.inl hj)).trans ((hlow j (by omega)).trans (hpv j hj)))
      have HON : Hid (∀ W', Keeps (pvL bo g) W.heap.size O (fun _ => False) W1 W' → ∀ b, nextO O (fun _ => False) W1 W' b → W.heap.size ≤ b ∧ b < W'.heap.size) := Lib.hid (fun W' hk => nextO_bound hO1 (by omega) hk.size)
      have HWS : Hid (∀ W', Keeps (pvL bo g) W.heap.size O (fun _ => False) W1 W' → W.heap.size ≤ W'.heap.size) := Lib.hid (fun W' hk => by have := hk.size; omega)
      have a2 : IntKind.i64.wrap ((F : Int) + (a : Int)) = ((F + a : Nat) : Int) := (wrapI _ (by omega) (by omega)).trans (by omega)
      clear hp hfs hb1 HFE hW1 ho hs1 hlow hrw hO1 hj1 hpv hO hj HE
      gi_wp2_with fail
      rw [← HW1.out, hy]
      go_simp
      refine hR.mono ?_
      rintro e W' ⟨hk', (⟨rfl, hj'⟩ | ⟨rfl, hjx⟩)⟩
      · have e0 := HC2.out W' hk'
        have HPV4 := Lib.hid (HPV.out W' hk')
        have HON4 := Lib.hid (HON.out W' hk')
        have HWS4 := Lib.hid (HWS.out W' hk')
        clear hk' HC2 HPV HON HWS HRW d0 d1 d2 d3 hy hR
        gi_wp2_with fail
        refine ⟨⟨i + 1, F + a, pre ++ [i], _, rfl, rfl, by omega, Lib.hid HFA.out.symm, Lib.hid (by rw [List.length_append, HPRE.out]; rfl), hj', HWS4.out, HON4.out, HPV4.out⟩, ?_⟩
        simp [_root_.Go.RowKit.intOf]; omega
      · gi_wp2_with fail
        refine bodyPost_ret (results_none rfl _ _ _) rfl ?_
        exact itEnd.part trivial hjx
    · obtain rfl : i = n := by omega
      have j2 : decide ((i : Int) < (i : Int)) = false := decide_eq_false (by omega)
      have HA := Lib.hid (show allP l pre from HPRE.out.trans HN.out.symm)
      clear HPRE
      gi_wp2_with fail
      go_end0
      exact itEnd.all HA.out hj
end Go.Proofs.YtiahmccchpmdgaaGreatDoor.Me

namespace Go.Proofs.YtiahmccchpmdgaaGreatDoor.Me
open Go.RowKit Go.Shelf
attribute [local go_sem] Oper.semAt_some

/- MAY EACH NUMBER OF A RECORD BE? -/
def prt (l : List Prt) (k : Nat) : Prt := l.getD k ⟨0, 0, 0, 0⟩
theorem encP_eq (l : List Prt) (k : Nat) : encP l k = #[.int .i64 (frm l k : Int), .agg #[.int .i64 ((prt l k).wd : Int), .int .i64 ((prt l k).mo : Int), .func (.func (prt l k).tf) #[] #[], .func (.func (prt l k).sf) #[] #[]]] := rfl
def okK (l : List Prt) (tv : Nat → Int) (k : Nat) : Bool := decide (0 ≤ tv k) && decide (tv k ≤ ((prt l k).mo : Int))
def fitsL (l : List Prt) (tv : Nat → Int) : Bool := (List.range l.length).all (okK l tv)
theorem fitsL_all {l : List Prt} {tv : Nat → Int} (h : ∀ k, k < l.length → okK l tv k = true) : fitsL l tv = true := by
  unfold fitsL
  rw [List.all_eq_true]
  intro k hk
  exact h k (List.mem_range.1 hk)
theorem fitsL_not {l : List Prt} {tv : Nat → Int} {k : Nat} (hk : k < l.length) (h : okK l tv k = false) : fitsL l tv = false := by
  unfold fitsL
  rw [List.all_eq_false]
  exact ⟨k, List.mem_range.2 hk, by rw [h]; decide⟩
def FtI (w : World) (l : List Prt) (tv : Nat → Int) (gb gr : Nat) (tr : TypeId) (cs : List Value) (pre : List Nat) (_O : Nat → Prop) (V : World) : Prop :=
  Boxed V gb 4 (.bool true) ∧ Row V gr tr cs ∧ (∀ k, k < pre.length → okK l tv k = true) ∧ Below w.heap.size w V
def FtX (w : World) (l : List Prt) (tv : Nat → Int) (gb ex : Nat) (cc : Code) (_pre : List Nat) (_O : Nat → Prop) (V : World) : Prop :=
  cc = .exit ex ∧ Boxed V gb 4 (.bool false) ∧ (∃ k, k < l.length ∧ okK l tv k = false) ∧ Below w.heap.size w V
theorem row_kept {V V' : World} {b : Nat} {t : TypeId} {cs : List Value} {row : Option Nat} (h : Row V b t cs) (hg : V.grownBy V' row) (hr : some b ≠ row) : Row V' b t cs := (hg.block b h.lt hr).trans h
theorem FtI.abid {w : World} {l : List Prt} {tv : Nat → Int} {gb gr B : Nat} {tr : TypeId} {cs : List Value} (h : gb < B ∧ gr < B ∧ w.heap.size ≤ B) : Abid B (FtI w l tv gb gr tr cs) := by
  rintro pre O V V' row ⟨h1, h2, h3, h4⟩ hg hr
  exact ⟨h1.kept hg (fun e => by have := hr gb e.symm; omega), row_kept h2 hg (fun e => by have := hr gr e.symm; omega), h3, h4.grown hg h4.size (fun k e => by have := hr k e; omega)⟩
theorem FtX.abid {w : World} {l : List Prt} {tv : Nat → Int} {gb ex B : Nat} (h : gb < B ∧ w.heap.size ≤ B) (cc : Code) : Abid B (FtX w l tv gb ex cc) := by
  rintro pre O V V' row ⟨h0, h1, h2, h3⟩ hg hr
  exact ⟨h0, h1.kept hg (fun e => by have := hr gb e.symm; omega), h2, h3.grown hg h3.size (fun k e => by have := hr k e; omega)⟩
set_option maxRecDepth 100000 in
set_option maxHeartbeats 4000000 in
theorem fits_Rec (st sz no : Int) (tv : Nat → Int) (l : List Prt) (g n c : Nat) (t : TypeId) (w : World) (hrow : Row w g t (prtCells l)) (hn : l.length = n) (hm : n ≤ 6) (hc : n ≤ c) (hf : ∀ k, k ≤ n → frm l k ≤ 1000)
    (EG : ∀ k, k < l.length → ∀ args w, (callFunc (prt l k).tf args).run Tryz.prog w = .ok (.enter (prt l k).tf args) w)
    (HT : ∀ k, k < l.length → ∀ W, Calls Tryz.prog (prt l k).tf #[.agg #[.int .i64 st, .int .i64 sz, .int .u32 no]] W fun e W' => e = .returned (.int .i64 (tv k)) ∧ Below W.heap.size W W') :
    Calls Tryz.prog 137 #[.agg #[.int .i64 st, .int .i64 sz, .int .u32 no], .slice (some ⟨g, 0, none⟩) n c] w fun e w' => e = .returned (.bool (fitsL l tv)) ∧ Below w.heap.size w w' := by
  have HEG := Lib.hid EG
  have HTT := Lib.hid HT
  clear EG HT
  refine calls_marks Tryz.func137 rfl ?_
  simp only [Tryz.ntmps137, List.size_toArray, List.length_cons, List.length_nil, Nat.reduceAdd, Nat.reduceSub, Array.replicate_succ, Array.replicate_zero, List.push_toArray, List.append_toArray, List.nil_append, List.cons_append]
  go_wp2_with fail
  refine wp_scope_jump 0 fun R hR hJm => ?_
  go_wp2_with fail
  refine wp_label ?_
  go_wp2_with fail
  obtain ⟨W4, hW4⟩ : ∃ W4, W4 = ((w.alloc (.cells #[.int .i64 st, .int .i64 sz, .int .u32 no] 41)).alloc (.cells #[.bool true] 4)) := ⟨_, rfl⟩
  have hs4 : W4.heap.size = w.heap.size + 2 := by rw [hW4]; simp
  have hB4 : Below w.heap.size w W4 := by rw [hW4]; exact ((Below.refl _ _).alloc (Nat.le_refl _) _).alloc (by simp) _
  have hX1 : Row W4 w.heap.size 41 [.int .i64 st, .int .i64 sz, .int .u32 no] := by rw [hW4]; exact (Row.new w _ _).below (below1 _ _)
  have hX2 : Boxed W4 (w.heap.size + 1) 4 (.bool true) := by
    have h := Boxed.new (w.alloc (.cells #[.int .i64 st, .int .i64 sz, .int .u32 no] 41)) 4 (.bool true)
    rw [World.size_alloc] at h
    rw [hW4]
    exact h
  rw [← hW4]
  clear hW4
  refine (placed_Rec _ _ _ _).mono ?_
  rintro e W5 ⟨rfl, hW5⟩
  have hb5 : Below W4.heap.size W4 W5 := by rw [hW5]; exact below1 _ _
  have hs5 : W5.heap.size = W4.heap.size + 1 := by rw [hW5]; simp
  have hr5 : Row W5 W4.heap.size 136 [.slice (some ⟨g, 0, none⟩) n c] := by rw [hW5]; exact Row.new W4 _ _
  have hB5 := below0 hB4 hb5
  have hpl : Pls W5 W4.heap.size g n l t c := ⟨hr5.cell 0, hrow.below hB5⟩
  have hit := placed1_Rec W4.heap.size g n c l t W5 hpl hn hm hc hf
  have hpv := hpl.lt
  rw [hs4] at hit hpv
  have hY1 := hX1.below hb5
  have hY2 : Boxed W5 (w.heap.size + 1) 4 (.bool true) := (hb5.block _ (by omega)).trans hX2
  have hgl := hrow.lt
  clear hW5 hb5 hX1 hX2 hB4 hr5 hpl hrow hf
  go_wp2_with fail
  refine wpIn_wide.1 (wpIn_range_box (gf := 268) (lb := #[.pointer (some ⟨w.heap.size + 2, 0, none⟩)]) rfl (enters_of Tryz.func268 (by kernel_rfl) rfl) hit hpv (fun _ => rfl) (fun _ _ _ _ _ h => h)
    (FtI w l tv (w.heap.size + 1) w.heap.size 41 [.int .i64 st, .int .i64 sz, .int .u32 no]) (FtX w l tv (w.heap.size + 1) 0) (FtI.abid (by omega)) (FtX.abid (by omega)) ⟨hY2, hY1, fun _ h => absurd h (Nat.not_lt_zero _), hB5⟩
    (fun gg x => { tmps := #[.agg #[.int .i64 st, .int .i64 sz, .int .u32 no], .slice (some ⟨g, 0, none⟩) n c, .pointer (some ⟨w.heap.size, 0, none⟩), undef, .bool false, .pointer (some ⟨w.heap.size + 1, 0, none⟩), undef, .pointer (some ⟨gg, 0, none⟩), undef, .slice (some ⟨g, 0, none⟩) n c, .func (.func 268) #[] #[.pointer (some ⟨w.heap.size + 2, 0, none⟩)], .int .i64 (frm l x : Int), .agg #[.int .i64 ((prt l x).wd : Int), .int .i64 ((prt l x).mo : Int), .func (.func (prt l x).tf) #[] #[], .func (.func (prt l x).sf) #[] #[]], undef, undef, undef, undef, undef, undef, undef, undef, undef, undef, undef, undef, undef, undef, undef], defers := [] })
    (fun x => .cells #[.int .i64 ((prt l x).wd : Int), .int .i64 ((prt l x).mo : Int), .func (.func (prt l x).tf) #[] #[], .func (.func (prt l x).sf) #[] #[]] 129) ?assign ?body ?done ?stop)
  case assign =>
    intro l' x W' K hK
    simp only [encP_eq]
    gi_wp2
    exact hK
  case body =>
    rintro l' pre x O V hVs hO ⟨hbV, hrV, hpre, hblV⟩ ⟨hxp, hxl⟩ _
    have HCALL := Lib.hid (HTT.out x hxl)
    have eg := HEG.out x hxl
    have hok : okK l tv x = (decide (0 ≤ tv x) && decide (tv x ≤ ((prt l x).mo : Int))) := rfl
    obtain ⟨p, hp⟩ : ∃ p, p = prt l x := ⟨_, rfl⟩
    rw [← hp] at HCALL eg hok ⊢
    obtain ⟨a, b, tf, sf⟩ := p
    simp only at HCALL eg hok ⊢
    obtain ⟨V1, hV1⟩ : ∃ V1, V1 = V.alloc (.cells #[.int .i64 (a : Int), .int .i64 (b : Int), .func (.func tf) #[] #[], .func (.func sf) #[] #[]] 129) := ⟨_, rfl⟩
    have hb1 : Below V.heap.size V V1 := by rw [hV1]; exact below1 _ _
    have hz1 : V1.heap.size = V.heap.size + 1 := by rw [hV1]; simp
    have hrp : Row V1 V.heap.size 129 [.int .i64 (a : Int), .int .i64 (b : Int), .func (.func tf) #[] #[], .func (.func sf) #[] #[]] := by rw [hV1]; exact Row.new _ _ _
    have c2 : V1.cell? ⟨V.heap.size, 2, none⟩ = _ := hrp.cell 2
    have hbV1 : Boxed V1 (w.heap.size + 1) 4 (.bool true) := (hb1.block _ (by omega)).trans hbV
    have hrV1 := hrV.below hb1
    have r0 : V1.cell? ⟨w.heap.size, 0, none⟩ = _ := hrV1.cell 0
    have r1 : V1.cell? ⟨w.heap.size, 1, none⟩ = _ := hrV1.cell 1
    have r2 : V1.cell? ⟨w.heap.size, 2, none⟩ = _ := hrV1.cell 2
    have hbl1 := below0 hblV hb1
    obtain ⟨y, hy⟩ : ∃ y, y = tv x := ⟨_, rfl⟩
    rw [← hy] at HCALL hok
    have HOK := Lib.hid hok
    have HPRE := Lib.hid hpre
    rw [← hV1]
    clear hp hV1 hpre hblV hit hY1 hY2 hB5 hbV hrV hy hok
    gi_wp2_with fail
    refine ⟨trivial, rfl, CallsIn.inRound l' ((callsIn_wide.2 (HCALL.out _)).mono ?_)⟩
    rintro e V2 ⟨rfl, hb2⟩
    have hs2 := hb2.size
    have hbV2 : Boxed V2 (w.heap.size + 1) 4 (.bool true) := (hb2.block _ (by omega)).trans hbV1
    have hrV2 := hrV1.below hb2
    have c1 : V2.cell? ⟨V.heap.size, 1, none⟩ = _ := (hrp.below hb2).cell 1
    have HST : Hid (∀ r, okK l tv x = r → Boxed (V2.setCell ⟨w.heap.size + 1, 0, none⟩ (.bool r)) (w.heap.size + 1) 4 (.bool r) ∧ Row (V2.setCell ⟨w.heap.size + 1, 0, none⟩ (.bool r)) w.heap.size 41 [.int .i64 st, .int .i64 sz, .int .u32 no] ∧ Below w.heap.size w (V2.setCell ⟨w.heap.size + 1, 0, none⟩ (.bool r)) ∧ Keeps (pvL (w.heap.size + 2) g) W5.heap.size O (fun _ => False) V (V2.setCell ⟨w.heap.size + 1, 0, none⟩ (.bool r))) := Lib.hid fun r _ =>
      ⟨hbV2.set (.bool r), hrV2.same (heap_set (by omega)), (below0 hbl1 hb2).setCell (by show w.heap.size ≤ w.heap.size + 1; omega) (.bool r),
        ⟨by rw [World.size_setCell]; omega, fun k hk hp => (heap_set (by rcases hp with (h | h) | ⟨h, _⟩ <;> omega)).trans ((hb2.block k (by omega)).trans (hb1.block k hk))⟩⟩
    have f1 := hbV2.frozen
    have f2 := hbV2.cell
    have f3 : ∀ r, (V2.setCell ⟨w.heap.size + 1, 0, none⟩ (.bool r)).cell? ⟨w.heap.size + 1, 0, none⟩ = some (.bool r) := fun r => (hbV2.set (.bool r)).cell
    have HXP := Lib.hid hxp
    have HXL := Lib.hid hxl
    clear hbV1 hrV1 hbl1 hb1 hb2 hbV2 hrV2 c2 hrp hxp hxl r0 r1 r2
    by_cases y0 : 0 ≤ y
    · have e0 : decide (0 ≤ y) = true := decide_eq_true y0
      obtain ⟨r, hr⟩ : ∃ r, r = decide (y ≤ (b : Int)) := ⟨_, rfl⟩
      have HOK2 := HOK.out
      rw [e0, ← hr, Bool.true_and] at HOK2
      obtain ⟨k1, k2, k3, k4⟩ := HST.out r HOK2
      have HK := Lib.hid (And.intro k1 (And.intro k2 (And.intro k3 k4)))
      have HOK3 := Lib.hid HOK2
      have hr' := hr.symm
      have f4 := f3 r
      clear k1 k2 k3 k4 HST HOK HOK2 hr f3 y0
      cases r
      · gi_wp2_with fail
        exact ⟨HK.out.2.2.2, rfl, HK.out.1, ⟨x, HXL.out, HOK3.out⟩, HK.out.2.2.1⟩
      · gi_wp2_with fail
        refine ⟨HK.out.2.2.2, HK.out.1, HK.out.2.1, fun k hk => ?_, HK.out.2.2.1⟩
        rw [List.length_append] at hk
        by_cases hkp : k < pre.length
        · exact HPRE.out k hkp
        · have hkx : k = x := by
            have h1 := HXP.out
            simp only [List.length_cons, List.length_nil] at hk
            omega
          subst hkx
          exact HOK3.out
    · have e0 : decide (0 ≤ y) = false := decide_eq_false y0
      have HOK2 := HOK.out
      rw [e0, Bool.false_and] at HOK2
      obtain ⟨k1, k2, k3, k4⟩ := HST.out false HOK2
      have HK := Lib.hid (And.intro k1 (And.intro k2 (And.intro k3 k4)))
      have HOK3 := Lib.hid HOK2
      have f4 := f3 false
      clear k1 k2 k3 k4 HST HOK HOK2 f3 y0
      gi_wp2_with fail
      exact ⟨HK.out.2.2.2, rfl, HK.out.1, ⟨x, HXL.out, HOK3.out⟩, HK.out.2.2.1⟩
  case done =>
    intro xs O Z hall hI hD
    obtain ⟨hbx2, _, hpre, hbl⟩ := hI
    have hz := hbx2.cell
    have hfin := Lib.hid (show fitsL l tv = true from fitsL_all (by rw [← show xs.length = l.length from hall]; exact hpre))
    have HBE := Lib.hid (show Below w.heap.size w (Z.putObj W5.heap.size (.deferred none)) from hbl.grown (putObj_grown Z _ _) hbl.size (fun r e => by cases e; omega))
    have HD := Lib.hid hD
    clear hall hbx2 hpre hbl hit hY1 hY2 hD
    go_wp2_with fail
    refine hR.out _ _ _ _ (by simp) ?_
    refine ⟨by simp, .inl ⟨_, _, rfl, run_takeDeferred HD.out, ?_⟩⟩
    exact ⟨_, results_tmp (t := 4) rfl _ _ _, by rw [hfin.out]; rfl, HBE.out⟩
  case stop =>
    rintro c' xs O Z _ ⟨rfl, hbx2, hno, hbl⟩ hD
    have hz := hbx2.cell
    have hfin := Lib.hid (show fitsL l tv = false from by
      obtain ⟨k, hk, hf⟩ := hno
      exact fitsL_not hk hf)
    have HBE := Lib.hid (show Below w.heap.size w (Z.putObj W5.heap.size (.deferred none)) from hbl.grown (putObj_grown Z _ _) hbl.size (fun r e => by cases e; omega))
    have HD := Lib.hid hD
    clear hbx2 hno hbl hit hY1 hY2 hD
    refine wpIn_wide.2 ?_
    go_wp2_with fail
    refine hR.out _ _ _ _ (by simp) ?_
    refine ⟨by simp, .inl ⟨_, _, rfl, run_takeDeferred HD.out, ?_⟩⟩
    exact ⟨_, results_tmp (t := 4) rfl _ _ _, by rw [hfin.out]; rfl, HBE.out⟩
set_option maxRecDepth 100000 in
set_option maxHeartbeats 4000000 in
theorem fits_Gre (st pg sz fi : Int) (tv : Nat → Int) (l : List Prt) (g n c : Nat) (t : TypeId) (w : World) (hrow : Row w g t (prtCells l)) (hn : l.length = n) (hm : n ≤ 6) (hc : n ≤ c) (hf : ∀ k, k ≤ n → frm l k ≤ 1000)
    (EG : ∀ k, k < l.length → ∀ args w, (callFunc (prt l k).tf args).run Tryz.prog w = .ok (.enter (prt l k).tf args) w)
    (HT : ∀ k, k < l.length → ∀ W, Calls Tryz.prog (prt l k).tf #[.agg #[.int .i64 st, .int .i64 pg, .int .i64 sz, .int .i64 fi]] W fun e W' => e = .returned (.int .i64 (tv k)) ∧ Below W.heap.size W W') :
    Calls Tryz.prog 139 #[.agg #[.int .i64 st, .int .i64 pg, .int .i64 sz, .int .i64 fi], .slice (some ⟨g, 0, none⟩) n c] w fun e w' => e = .returned (.bool (fitsL l tv)) ∧ Below w.heap.size w w' := by
  have HEG := Lib.hid EG
  have HTT := Lib.hid HT
  clear EG HT
  refine calls_marks Tryz.func139 rfl ?_
  simp only [Tryz.ntmps139, List.size_toArray, List.length_cons, List.length_nil, Nat.reduceAdd, Nat.reduceSub, Array.replicate_succ, Array.replicate_zero, List.push_toArray, List.append_toArray, List.nil_append, List.cons_append]
  go_wp2_with fail
  refine wp_scope_jump 0 fun R hR hJm => ?_
  go_wp2_with fail
  refine wp_label ?_
  go_wp2_with fail
  obtain ⟨W4, hW4⟩ : ∃ W4, W4 = ((w.alloc (.cells #[.int .i64 st, .int .i64 pg, .int .i64 sz, .int .i64 fi] 43)).alloc (.cells #[.bool true] 4)) := ⟨_, rfl⟩
  have hs4 : W4.heap.size = w.heap.size + 2 := by rw [hW4]; simp
  have hB4 : Below w.heap.size w W4 := by rw [hW4]; exact ((Below.refl _ _).alloc (Nat.le_refl _) _).alloc (by simp) _
  have hX1 : Row W4 w.heap.size 43 [.int .i64 st, .int .i64 pg, .int .i64 sz, .int .i64 fi] := by rw [hW4]; exact (Row.new w _ _).below (below1 _ _)
  have hX2 : Boxed W4 (w.heap.size + 1) 4 (.bool true) := by
    have h := Boxed.new (w.alloc (.cells #[.int .i64 st, .int .i64 pg, .int .i64 sz, .int .i64 fi] 43)) 4 (.bool true)
    rw [World.size_alloc] at h
    rw [hW4]
    exact h
  rw [← hW4]
  clear hW4
  refine (placed_Gre _ _ _ _).mono ?_
  rintro e W5 ⟨rfl, hW5⟩
  have hb5 : Below W4.heap.size W4 W5 := by rw [hW5]; exact below1 _ _
  have hs5 : W5.heap.size = W4.heap.size + 1 := by rw [hW5]; simp
  have hr5 : Row W5 W4.heap.size 145 [.slice (some ⟨g, 0, none⟩) n c] := by rw [hW5]; exact Row.new W4 _ _
  have hB5 := below0 hB4 hb5
  have hpl : Pls W5 W4.heap.size g n l t c := ⟨hr5.cell 0, hrow.below hB5⟩
  have hit := placed1_Gre W4.heap.size g n c l t W5 hpl hn hm hc hf
  have hpv := hpl.lt
  rw [hs4] at hit hpv
  have hY1 := hX1.below hb5
  have hY2 : Boxed W5 (w.heap.size + 1) 4 (.bool true) := (hb5.block _ (by omega)).trans hX2
  have hgl := hrow.lt
  clear hW5 hb5 hX1 hX2 hB4 hr5 hpl hrow hf
  go_wp2_with fail
  refine wpIn_wide.1 (wpIn_range_box (gf := 271) (lb := #[.pointer (some ⟨w.heap.size + 2, 0, none⟩)]) rfl (enters_of Tryz.func271 (by kernel_rfl) rfl) hit hpv (fun _ => rfl) (fun _ _ _ _ _ h => h)
    (FtI w l tv (w.heap.size + 1) w.heap.size 43 [.int .i64 st, .int .i64 pg, .int .i64 sz, .int .i64 fi]) (FtX w l tv (w.heap.size + 1) 0) (FtI.abid (by omega)) (FtX.abid (by omega)) ⟨hY2, hY1, fun _ h => absurd h (Nat.not_lt_zero _), hB5⟩
    (fun gg x => { tmps := #[.agg #[.int .i64 st, .int .i64 pg, .int .i64 sz, .int .i64 fi], .slice (some ⟨g, 0, none⟩) n c, .pointer (some ⟨w.heap.size, 0, none⟩), undef, .bool false, .pointer (some ⟨w.heap.size + 1, 0, none⟩), undef, .pointer (some ⟨gg, 0, none⟩), undef, .slice (some ⟨g, 0, none⟩) n c, .func (.func 271) #[] #[.pointer (some ⟨w.heap.size + 2, 0, none⟩)], .int .i64 (frm l x : Int), .agg #[.int .i64 ((prt l x).wd : Int), .int .i64 ((prt l x).mo : Int), .func (.func (prt l x).tf) #[] #[], .func (.func (prt l x).sf) #[] #[]], undef, undef, undef, undef, undef, undef, undef, undef, undef, undef, undef, undef, undef, undef, undef], defers := [] })
    (fun x => .cells #[.int .i64 ((prt l x).wd : Int), .int .i64 ((prt l x).mo : Int), .func (.func (prt l x).tf) #[] #[], .func (.func (prt l x).sf) #[] #[]] 140) ?assign ?body ?done ?stop)
  case assign =>
    intro l' x W' K hK
    simp only [encP_eq]
    gi_wp2
    exact hK
  case body =>
    rintro l' pre x O V hVs hO ⟨hbV, hrV, hpre, hblV⟩ ⟨hxp, hxl⟩ _
    have HCALL := Lib.hid (HTT.out x hxl)
    have eg := HEG.out x hxl
    have hok : okK l tv x = (decide (0 ≤ tv x) && decide (tv x ≤ ((prt l x).mo : Int))) := rfl
    obtain ⟨p, hp⟩ : ∃ p, p = prt l x := ⟨_, rfl⟩
    rw [← hp] at HCALL eg hok ⊢
    obtain ⟨a, b, tf, sf⟩ := p
    simp only at HCALL eg hok ⊢
    obtain ⟨V1, hV1⟩ : ∃ V1, V1 = V.alloc (.cells #[.int .i64 (a : Int), .int .i64 (b : Int), .func (.func tf) #[] #[], .func (.func sf) #[] #[]] 140) := ⟨_, rfl⟩
    have hb1 : Below V.heap.size V V1 := by rw [hV1]; exact below1 _ _
    have hz1 : V1.heap.size = V.heap.size + 1 := by rw [hV1]; simp
    have hrp : Row V1 V.heap.size 140 [.int .i64 (a : Int), .int .i64 (b : Int), .func (.func tf) #[] #[], .func (.func sf) #[] #[]] := by rw [hV1]; exact Row.new _ _ _
    have c2 : V1.cell? ⟨V.heap.size, 2, none⟩ = _ := hrp.cell 2
    have hbV1 : Boxed V1 (w.heap.size + 1) 4 (.bool true) := (hb1.block _ (by omega)).trans hbV
    have hrV1 := hrV.below hb1
    have r0 : V1.cell? ⟨w.heap.size, 0, none⟩ = _ := hrV1.cell 0
    have r1 : V1.cell? ⟨w.heap.size, 1, none⟩ = _ := hrV1.cell 1
    have r2 : V1.cell? ⟨w.heap.size, 2, none⟩ = _ := hrV1.cell 2
    have r3 : V1.cell? ⟨w.heap.size, 3, none⟩ = _ := hrV1.cell 3
    have hbl1 := below0 hblV hb1
    obtain ⟨y, hy⟩ : ∃ y, y = tv x := ⟨_, rfl⟩
    rw [← hy] at HCALL hok
    have HOK := Lib.hid hok
    have HPRE := Lib.hid hpre
    rw [← hV1]
    clear hp hV1 hpre hblV hit hY1 hY2 hB5 hbV hrV hy hok
    gi_wp2_with fail
    refine ⟨trivial, rfl, CallsIn.inRound l' ((callsIn_wide.2 (HCALL.out _)).mono ?_)⟩
    rintro e V2 ⟨rfl, hb2⟩
    have hs2 := hb2.size
    have hbV2 : Boxed V2 (w.heap.size + 1) 4 (.bool true) := (hb2.block _ (by omega)).trans hbV1
    have hrV2 := hrV1.below hb2
    have c1 : V2.cell? ⟨V.heap.size, 1, none⟩ = _ := (hrp.below hb2).cell 1
    have HST : Hid (∀ r, okK l tv x = r → Boxed (V2.setCell ⟨w.heap.size + 1, 0, none⟩ (.bool r)) (w.heap.size + 1) 4 (.bool r) ∧ Row (V2.setCell ⟨w.heap.size + 1, 0, none⟩ (.bool r)) w.heap.size 43 [.int .i64 st, .int .i64 pg, .int .i64 sz, .int .i64 fi] ∧ Below w.heap.size w (V2.setCell ⟨w.heap.size + 1, 0, none⟩ (.bool r)) ∧ Keeps (pvL (w.heap.size + 2) g) W5.heap.size O (fun _ => False) V (V2.setCell ⟨w.heap.size + 1, 0, none⟩ (.bool r))) := Lib.hid fun r _ =>
      ⟨hbV2.set (.bool r), hrV2.same (heap_set (by omega)), (below0 hbl1 hb2).setCell (by show w.heap.size ≤ w.heap.size + 1; omega) (.bool r),
        ⟨by rw [World.size_setCell]; omega, fun k hk hp => (heap_set (by rcases hp with (h | h) | ⟨h, _⟩ <;> omega)).trans ((hb2.block k (by omega)).trans (hb1.block k hk))⟩⟩
    have f1 := hbV2.frozen
    have f2 := hbV2.cell
    have f3 : ∀ r, (V2.setCell ⟨w.heap.size + 1, 0, none⟩ (.bool r)).cell? ⟨w.heap.size + 1, 0, none⟩ = some (.bool r) := fun r => (hbV2.set (.bool r)).cell
    have HXP := Lib.hid hxp
    have HXL := Lib.hid hxl
    clear hbV1 hrV1 hbl1 hb1 hb2 hbV2 hrV2 c2 hrp hxp hxl r0 r1 r2 r3
    by_cases y0 : 0 ≤ y
    · have e0 : decide (0 ≤ y) = true := decide_eq_true y0
      obtain ⟨r, hr⟩ : ∃ r, r = decide (y ≤ (b : Int)) := ⟨_, rfl⟩
      have HOK2 := HOK.out
      rw [e0, ← hr, Bool.true_and] at HOK2
      obtain ⟨k1, k2, k3, k4⟩ := HST.out r HOK2
      have HK := Lib.hid (And.intro k1 (And.intro k2 (And.intro k3 k4)))
      have HOK3 := Lib.hid HOK2
      have hr' := hr.symm
      have f4 := f3 r
      clear k1 k2 k3 k4 HST HOK HOK2 hr f3 y0
      cases r
      · gi_wp2_with fail
        exact ⟨HK.out.2.2.2, rfl, HK.out.1, ⟨x, HXL.out, HOK3.out⟩, HK.out.2.2.1⟩
      · gi_wp2_with fail
        refine ⟨HK.out.2.2.2, HK.out.1, HK.out.2.1, fun k hk => ?_, HK.out.2.2.1⟩
        rw [List.length_append] at hk
        by_cases hkp : k < pre.length
        · exact HPRE.out k hkp
        · have hkx : k = x := by
            have h1 := HXP.out
            simp only [List.length_cons, List.length_nil] at hk
            omega
          subst hkx
          exact HOK3.out
    · have e0 : decide (0 ≤ y) = false := decide_eq_false y0
      have HOK2 := HOK.out
      rw [e0, Bool.false_and] at HOK2
      obtain ⟨k1, k2, k3, k4⟩ := HST.out false HOK2
      have HK := Lib.hid (And.intro k1 (And.intro k2 (And.intro k3 k4)))
      have HOK3 := Lib.hid HOK2
      have f4 := f3 false
      clear k1 k2 k3 k4 HST HOK HOK2 f3 y0
      gi_wp2_with fail
      exact ⟨HK.out.2.2.2, rfl, HK.out.1, ⟨x, HXL.out, HOK3.out⟩, HK.out.2.2.1⟩
  case done =>
    intro xs O Z hall hI hD
    obtain ⟨hbx2, _, hpre, hbl⟩ := hI
    have hz := hbx2.cell
    have hfin := Lib.hid (show fitsL l tv = true from fitsL_all (by rw [← show xs.length = l.length from hall]; exact hpre))
    have HBE := Lib.hid (show Below w.heap.size w (Z.putObj W5.heap.size (.deferred none)) from hbl.grown (putObj_grown Z _ _) hbl.size (fun r e => by cases e; omega))
    have HD := Lib.hid hD
    clear hall hbx2 hpre hbl hit hY1 hY2 hD
    go_wp2_with fail
    refine hR.out _ _ _ _ (by simp) ?_
    refine ⟨by simp, .inl ⟨_, _, rfl, run_takeDeferred HD.out, ?_⟩⟩
    exact ⟨_, results_tmp (t := 4) rfl _ _ _, by rw [hfin.out]; rfl, HBE.out⟩
  case stop =>
    rintro c' xs O Z _ ⟨rfl, hbx2, hno, hbl⟩ hD
    have hz := hbx2.cell
    have hfin := Lib.hid (show fitsL l tv = false from by
      obtain ⟨k, hk, hf⟩ := hno
      exact fitsL_not hk hf)
    have HBE := Lib.hid (show Below w.heap.size w (Z.putObj W5.heap.size (.deferred none)) from hbl.grown (putObj_grown Z _ _) hbl.size (fun r e => by cases e; omega))
    have HD := Lib.hid hD
    clear hbx2 hno hbl hit hY1 hY2 hD
    refine wpIn_wide.2 ?_
    go_wp2_with fail
    refine hR.out _ _ _ _ (by simp) ?_
    refine ⟨by simp, .inl ⟨_, _, rfl, run_takeDeferred HD.out, ?_⟩⟩
    exact ⟨_, results_tmp (t := 4) rfl _ _ _, by rw [hfin.out]; rfl, HBE.out⟩
end Go.Proofs.YtiahmccchpmdgaaGreatDoor.Me
