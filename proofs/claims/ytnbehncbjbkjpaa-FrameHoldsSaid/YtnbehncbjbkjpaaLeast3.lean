import Derived.Test.YtnbehncbjbkjpaaLeast2
import Derived.Deep.MidRow
import Derived.Shelf.RegionOpenPlain
namespace Go.Proofs.Ytnbehncbjbkjpaa
open Go.RowKit Go.Shelf Go.Maps Go.Sort
attribute [local go_sem] Oper.semAt_some

/- THE LEAST FREE FRAME, ONE THAT CAME BACK: THE WALK. -/

theorem Own.shrink {w : World} {t : TypeId} {v : Value} {n : Nat} {xs ys : List Value} {g : Option Nat} (h : Own w t 1 v n xs g) (m : Nat) (hm : m ≤ n) (hy : xs.take m = ys) :
    ∃ A c, v = .slice A n c ∧ n ≤ c ∧ c ≤ maxLen ∧ Own w t 1 (.slice A m c) m ys g := by
  rcases h with ⟨rfl, rfl, rfl, A, rfl⟩ | ⟨b, cap, cur, rfl, rfl, h3, h4, h5, h6, h7, h8⟩
  · obtain rfl : m = 0 := by omega
    exact ⟨A, 0, rfl, Nat.le_refl _, Nat.zero_le _, .inl ⟨rfl, rfl, by rw [← hy]; rfl, A, rfl⟩⟩
  · refine ⟨_, cap, rfl, h4, h5, .inr ⟨b, cap, cur, rfl, rfl, h3, by omega, h5, h6, ?_, ?_⟩⟩
    · rw [← hy, List.length_take, h7]; omega
    · rw [← hy, ← h8, List.take_take]
      congr 1
      omega
theorem zero_len0 : zero256.length = 256 := List.length_replicate
theorem zero_len : (zero256.map bv).length = 256 := by rw [List.length_map, zero_len0]
theorem zero_put (bs : List UInt8) (h : bs.length = 256) : putB bs 0 zero256 = zero256 := by
  unfold putB
  rw [List.take_zero, List.nil_append, List.drop_of_length_le (by rw [zero_len0, h]; exact Nat.le_refl _), List.append_nil]

theorem step_store_mid {P : Program} {ops : Array Oper} {o : Oper} {a : Act} {w : World} {K : Act → World → Prop} {Q : Exit → Act → World → Prop} {E : Prop}
    (hg : o.guard = none) (ty : TypeId) (x y : Operand) (ho : o.op = .store ty x y) (b off : Nat) (cells : Array Value) (hx : a.eval x = .pointer (some ⟨b, off, none⟩)) (hy : a.eval y = .agg cells)
    (ht : w.there b off cells.size) (hi : (P.info? ty).map (·.size) = some cells.size) (h1 : cells.all (·.oneCell') = true) (hK : K (a.put o.dst undef) (w.setCells b off cells.toList)) :
    if Region.wanted o (yielded ops a.tmps) = true then Oper.wp P o a w K Q else E := by
  rw [if_pos (by simp [Region.wanted, hg])]
  exact wp_store_mid ty x y ho b off cells hx hy ht hi h1 hK
theorem space_size : (Try.prog.info? 78).map (·.size) = some Try.zeroCells78.size := by kernel_rfl
theorem space_one : Try.zeroCells78.all (·.oneCell') = true := by kernel_rfl
theorem space_len : Try.zeroCells78.size = 256 := by kernel_rfl
theorem space_list : Try.zeroCells78.toList = zero256.map bv := by rw [zero_cells]

set_option maxRecDepth 100000 in
set_option maxHeartbeats 4000000 in
theorem least_old {b bm : Nat} {p : Pl} {fv sv : Value} {fb : List (List UInt8)} {gf gs : Option Nat} {w : World} (h : Rep w b p bm fv sv fb gf gs) (i : Nat) (sp : List Nat) (h0 : spareOf p.fr fb.length = sp ++ [i]) (hi : i < fb.length) :
    Calls Try.prog 29 #[bx b] w (LeastP w b p bm gf gs i (fb.set i zero256) sp) := by
  have hne := h.gf_ne
  have hl64 := h.ok.l64
  have c66 := h.c66
  have c67 := h.c67
  have hspr := h.spr
  rw [h0, List.map_append, List.length_append] at hspr
  obtain ⟨f0, fc, fcur, rfl, rfl, hfc1, hfc2, hfH, hfs, hft⟩ := h.frm.block (by omega)
  obtain ⟨s0, sc, scur, rfl, rfl, hsc1, hsc2, hsH, hss, hst⟩ := hspr.block (by simp)
  obtain ⟨A, c, hA, _, _, hshr⟩ := hspr.shrink sp.length (by simp) (ys := sp.map iv) (by rw [List.take_append_of_le_length (by simp)]; rw [List.take_of_length_le (by simp)])
  injection hA with hA1 hA2 hA3
  subst hA1
  subst hA3
  have hlast := hspr.cell rfl sp.length (by simp)
  rw [List.getElem?_append_right (by simp)] at hlast
  simp only [List.length_map, Nat.sub_self, List.map_cons, List.map_nil, List.getElem?_cons_zero, iv] at hlast
  have hfb : f0 ≠ b := fun e => hne.1 (by rw [e])
  have hsb : s0 ≠ b := fun e => hne.2.2.1 (by rw [e])
  have hfs0 : f0 ≠ s0 := fun e => hne.2.2.2.2 f0 rfl (by rw [e])
  have hmf : bm ≠ f0 := fun e => hne.2.1 (by rw [e])
  have hms : bm ≠ s0 := fun e => hne.2.2.2.1 (by rw [e])
  have hmb := h.ne_map
  obtain ⟨Z, hZ⟩ : ∃ Z, Z = zero256 := ⟨_, rfl⟩
  have hZl : Z.length = 256 := by rw [hZ]; exact zero_len0
  rw [← hZ]
  have hput : putB fb[i] 0 Z = Z := by rw [hZ]; exact zero_put _ (h.fbs _ (List.getElem_mem hi))
  obtain ⟨w1, hw1⟩ : ∃ w1, w1 = (w.setCell ⟨b, 67, none⟩ (.slice (some ⟨s0, 0, none⟩) sp.length sc)).drew := ⟨_, rfl⟩
  have k1 : ∀ k, k ≠ b → w1.heap[k]? = w.heap[k]? := fun k hk => by rw [hw1]; exact heap_set hk
  have hfrm1 : Own w1 78 256 (.slice (some ⟨f0, 0, none⟩) fb.length fc) fb.length (fl fb) (some f0) := h.frm.keep fun g e => by injection e with e; rw [← e]; exact k1 _ hfb
  have hput1 := hfrm1.put h.fbs i 0 hi Z (by rw [hZl]; exact Nat.le_refl _)
  rw [hput, Nat.add_zero] at hput1
  have hobj1 : Row w1 b 60 (poolL p.fr.length bm p.left (.slice (some ⟨f0, 0, none⟩) fb.length fc) (.slice (some ⟨s0, 0, none⟩) sp.length sc)) := by
    have := h.obj.set 67 (.slice (some ⟨s0, 0, none⟩) sp.length sc)
    rw [poolL_sv _ _ _ _ _ _ hl64] at this
    rw [hw1]
    exact this
  have hfin := Lib.hid (show LeastP w b p bm (some f0) (some s0) i (fb.set i Z) sp (.returned (.int .i64 (i : Int))) (w1.setCells f0 (i * 256) (Z.map bv)) from by
    have k2 : ∀ k, k ≠ f0 → (w1.setCells f0 (i * 256) (Z.map bv)).heap[k]? = w1.heap[k]? := fun k hk => setCells_block _ hk
    refine ⟨rfl, _, _, some f0, some s0, ⟨hobj1.same (k2 b (fun e => hfb e.symm)), owns_same h.map ((k2 bm hmf).trans (k1 bm (fun e => hmb e.symm))), hput1, hshr.keep fun g e => ?_⟩, ?_, fun k hk => .inl hk⟩
    · injection e with e
      rw [← e]
      exact (k2 _ (fun e2 => hfs0 e2.symm)).trans (k1 _ hsb)
    · have h1 : Keep (blocks b bm (some f0) (some s0)) w w1 := by rw [hw1]; exact ((Keep.refl w).set _ (.inl (.inl rfl))).drewN 1
      have hall : ∀ (vs : List Value) (o : Nat) (V : World), Keep (blocks b bm (some f0) (some s0)) w V → Keep (blocks b bm (some f0) (some s0)) w (V.setCells f0 o vs) := by
        intro vs
        induction vs with
        | nil => intro o V hV; exact hV
        | cons v r ih => intro o V hV; exact ih _ _ (hV.set _ (.inl (.inr (.inr (.inl rfl)))))
      exact hall _ _ _ h1)
  have hthere : w1.there f0 (i * 256) 256 := fun j hj => by
    have : (w1.cell? ⟨f0, i * 256 + j, none⟩) = (fl fb)[i * 256 + j]? := hfrm1.cell rfl _ (by have := Nat.mul_le_mul_right 256 (show i + 1 ≤ fb.length by omega); omega)
    refine ⟨?_, hfrm1.frozen rfl _⟩
    rw [this, List.getElem?_eq_getElem]
    · rfl
    · rw [fl_len _ h.fbs]; have := Nat.mul_le_mul_right 256 (show i + 1 ≤ fb.length by omega); omega
  have hrow := h.obj
  have f67 := h.obj.frozen 67
  have hmost := h.ok.most
  have hfl := h.fbl
  have hsl : sp.length < fb.length := by
    have h1 : (spareOf p.fr fb.length).length ≤ fb.length := by unfold spareOf; rw [List.length_reverse]; exact Nat.le_trans (List.length_filter_le _ _) (by simp)
    rw [h0, List.length_append] at h1
    exact h1
  simp only [List.length_cons, List.length_nil, Nat.zero_add] at c67 hsc1
  obtain ⟨n, hn⟩ : ∃ n, n = sp.length := ⟨_, rfl⟩
  obtain ⟨N, hN⟩ : ∃ N, N = fb.length := ⟨_, rfl⟩
  rw [← hn] at c67 hlast hsc1 hsl hw1
  rw [← hN] at c66 hfc1 hsl hfl hi
  have e1 : decide ((n : Int) < 0) = false := decide_eq_false (by omega)
  have i0 : (0 : Int) ≤ (n : Int) := by omega
  have i1 : (n : Int) < (n : Int) + 1 := by omega
  have j0 : (0 : Int) ≤ (i : Int) := by omega
  have j1 : (i : Int) < (N : Int) := by omega
  have l1 : (n : Int) ≤ (sc : Int) := by omega
  have l2 : ¬ (sc = 0) := by omega
  have l3 : n ≤ sc := by omega
  have mixed : Try.prog.follows .mixedOrders = true := by kernel_rfl
  have HTH2 := Lib.hid (show ((w.setCell ⟨b, 67, none⟩ (.slice (some ⟨s0, 0, none⟩) n sc)).drew).there f0 (i * 256) Try.zeroCells78.size from by rw [space_len, ← hw1]; exact hthere)
  have hfin2 := Lib.hid (show ∀ e, e = Ending.returned (.int .i64 (i : Int)) → LeastP w b p bm (some f0) (some s0) i (fb.set i Z) sp e (((w.setCell ⟨b, 67, none⟩ (.slice (some ⟨s0, 0, none⟩) n sc)).drew).setCells f0 (i * 256) Try.zeroCells78.toList) from by
    rintro e rfl
    rw [space_list, ← hZ, ← hw1]
    exact hfin.out)
  have hw64 : wrap64 (n : Int) = (n : Int) := IntWalk.wrap64_in _ (by omega)
  clear hfin hw1 hthere hZ hZl hobj1 hput1 hfrm1 k1 hput hmb hms hmf hfs0 hfb hsb hshr hst hsH hss hft hfH hfs hspr hl64 hne hrow hn hN hmost h0 h hfl hsc1 hsc2 hfc1 hfc2 hsl
  go_enter Try.func29, Try.ntmps29
  go_wp2_with fail
  refine wp_region_any mixed ?_
  refine wpAny_take (i := 0) (v := ?_) rfl (by kernel_rfl) (by kernel_rfl) (by kernel_rfl) (fun _ _ _ h => h) (Or.inl ⟨by kernel_rfl, ?_⟩) ?_
  rotate_left
  focus (intro w; go_simp; try with_reducible rfl)
  simp only [Act.put]
  refine wpAny_take (i := 1) (v := ?_) rfl (by kernel_rfl) (by kernel_rfl) (by kernel_rfl) (fun _ _ _ h => h) (Or.inl ⟨by kernel_rfl, ?_⟩) ?_
  rotate_left
  focus (intro w; go_simp; try with_reducible rfl)
  simp only [Act.put]
  refine wpAny_take (i := 2) (v := ?_) rfl (by kernel_rfl) (by kernel_rfl) (by kernel_rfl) (fun _ _ _ h => h) (Or.inl ⟨by kernel_rfl, ?_⟩) ?_
  rotate_left
  focus (intro w; go_simp; try with_reducible rfl)
  simp only [Act.put]
  refine wpAny_take (i := 3) (v := ?_) rfl (by kernel_rfl) (by kernel_rfl) (by kernel_rfl) (fun _ _ _ h => h) (Or.inl ⟨by kernel_rfl, ?_⟩) ?_
  rotate_left
  focus (intro w; go_simp; try with_reducible rfl)
  simp only [Act.put]
  refine wpAny_take (i := 6) (v := ?_) rfl (by kernel_rfl) (by kernel_rfl) (by kernel_rfl) (fun _ _ _ h => h) (Or.inl ⟨by kernel_rfl, ?_⟩) ?_
  rotate_left
  focus (intro w; go_simp; try with_reducible rfl)
  simp only [Act.put]
  refine wpAny_take (i := 7) (v := ?_) rfl (by kernel_rfl) (by kernel_rfl) (by kernel_rfl) (fun _ _ _ h => h) (Or.inl ⟨by kernel_rfl, ?_⟩) ?_
  rotate_left
  focus (intro w; go_simp; try with_reducible rfl)
  simp only [Act.put]
  refine wpAny_take (i := 8) (v := ?_) rfl (by kernel_rfl) (by kernel_rfl) (by kernel_rfl) (fun _ _ _ h => h) (Or.inl ⟨by kernel_rfl, ?_⟩) ?_
  rotate_left
  focus (intro w; go_simp; try with_reducible rfl)
  simp only [Act.put]
  refine wpAny_take (i := 10) (v := ?_) rfl (by kernel_rfl) (by kernel_rfl) (by kernel_rfl) (fun _ _ _ h => h) (Or.inl ⟨by kernel_rfl, ?_⟩) ?_
  rotate_left
  focus (intro w; go_simp; try with_reducible rfl)
  simp only [Act.put]
  refine wpAny_take (i := 12) (v := ?_) rfl (by kernel_rfl) (by kernel_rfl) (by kernel_rfl) (fun _ _ _ h => h) (Or.inl ⟨by kernel_rfl, ?_⟩) ?_
  rotate_left
  focus (intro w; go_simp; try with_reducible rfl)
  simp only [Act.put]
  refine wpAny_take (i := 5) (v := ?_) rfl (by kernel_rfl) (by kernel_rfl) (by kernel_rfl) (fun _ _ _ h => h) (Or.inl ⟨by kernel_rfl, ?_⟩) ?_
  rotate_left
  focus (intro w; go_simp; try with_reducible rfl)
  simp only [Act.put]
  refine wpAny_ready (rs := [4, 9]) (by kernel_rfl) (by simp) ?_
  refine AllReady.cons rfl (fun K hK => ?_) (AllReady.cons rfl (fun K hK => ?_) (AllReady.nil))
  · go_simp
    refine hK _ _ ?_
    clear hK K
    try simp only [Act.put]
    refine wpAny_ready (rs := [9]) (by kernel_rfl) (by simp) ?_
    refine AllReady.cons rfl (fun K hK => ?_) (AllReady.nil)
    go_simp
    refine hK _ _ ?_
    clear hK K
    try simp only [Act.put]
    refine wpAny_take (i := 11) (v := ?_) rfl (by kernel_rfl) (by kernel_rfl) (by kernel_rfl) (fun _ _ _ h => h) (Or.inl ⟨by kernel_rfl, ?_⟩) ?_
    rotate_left
    focus (intro w; go_simp; try with_reducible rfl)
    simp only [Act.put]
    refine wpAny_take (i := 13) (v := ?_) rfl (by kernel_rfl) (by kernel_rfl) (by kernel_rfl) (fun _ _ _ h => h) (Or.inl ⟨by kernel_rfl, ?_⟩) ?_
    rotate_left
    focus (intro w; go_simp; try with_reducible rfl)
    simp only [Act.put]
    refine wpAny_take (i := 14) (v := ?_) rfl (by kernel_rfl) (by kernel_rfl) (by kernel_rfl) (fun _ _ _ h => h) (Or.inl ⟨by kernel_rfl, ?_⟩) ?_
    rotate_left
    focus (intro w; go_simp; try with_reducible rfl)
    simp only [Act.put]
    refine wpAny_ready (rs := [15]) (by kernel_rfl) (by simp) ?_
    refine AllReady.cons rfl (fun K hK => ?_) (AllReady.nil)
    go_simp
    refine hK _ _ ?_
    clear hK K
    try simp only [Act.put]
    refine wpAny_take (i := 16) (v := ?_) rfl (by kernel_rfl) (by kernel_rfl) (by kernel_rfl) (fun _ _ _ h => h) (Or.inl ⟨by kernel_rfl, ?_⟩) ?_
    rotate_left
    focus (intro w; go_simp; try with_reducible rfl)
    simp only [Act.put]
    refine wpAny_ready (rs := [17]) (by kernel_rfl) (by simp) ?_
    refine AllReady.cons rfl (fun K hK => ?_) (AllReady.nil)
    refine step_store_mid rfl 78 _ _ rfl f0 (i * 256) Try.zeroCells78 (by simp [Act.eval]) (by simp [Act.eval]) HTH2.out space_size space_one ?_
    refine hK _ _ ?_
    clear hK K
    try simp only [Act.put]
    refine wpAny_done (by kernel_rfl) ?_ _
    clear HTH2
    go_wp2
    go_ret
    exact hfin2.out _ rfl
  · go_simp
    refine hK _ _ ?_
    clear hK K
    try simp only [Act.put]
    refine wpAny_take (i := 11) (v := ?_) rfl (by kernel_rfl) (by kernel_rfl) (by kernel_rfl) (fun _ _ _ h => h) (Or.inl ⟨by kernel_rfl, ?_⟩) ?_
    rotate_left
    focus (intro w; go_simp; try with_reducible rfl)
    simp only [Act.put]
    refine wpAny_ready (rs := [4]) (by kernel_rfl) (by simp) ?_
    refine AllReady.cons rfl (fun K hK => ?_) (AllReady.nil)
    go_simp
    refine hK _ _ ?_
    clear hK K
    try simp only [Act.put]
    refine wpAny_take (i := 13) (v := ?_) rfl (by kernel_rfl) (by kernel_rfl) (by kernel_rfl) (fun _ _ _ h => h) (Or.inl ⟨by kernel_rfl, ?_⟩) ?_
    rotate_left
    focus (intro w; go_simp; try with_reducible rfl)
    simp only [Act.put]
    refine wpAny_take (i := 14) (v := ?_) rfl (by kernel_rfl) (by kernel_rfl) (by kernel_rfl) (fun _ _ _ h => h) (Or.inl ⟨by kernel_rfl, ?_⟩) ?_
    rotate_left
    focus (intro w; go_simp; try with_reducible rfl)
    simp only [Act.put]
    refine wpAny_ready (rs := [15]) (by kernel_rfl) (by simp) ?_
    refine AllReady.cons rfl (fun K hK => ?_) (AllReady.nil)
    go_simp
    refine hK _ _ ?_
    clear hK K
    try simp only [Act.put]
    refine wpAny_take (i := 16) (v := ?_) rfl (by kernel_rfl) (by kernel_rfl) (by kernel_rfl) (fun _ _ _ h => h) (Or.inl ⟨by kernel_rfl, ?_⟩) ?_
    rotate_left
    focus (intro w; go_simp; try with_reducible rfl)
    simp only [Act.put]
    refine wpAny_ready (rs := [17]) (by kernel_rfl) (by simp) ?_
    refine AllReady.cons rfl (fun K hK => ?_) (AllReady.nil)
    refine step_store_mid rfl 78 _ _ rfl f0 (i * 256) Try.zeroCells78 (by simp [Act.eval]) (by simp [Act.eval]) HTH2.out space_size space_one ?_
    refine hK _ _ ?_
    clear hK K
    try simp only [Act.put]
    refine wpAny_done (by kernel_rfl) ?_ _
    clear HTH2
    go_wp2
    go_ret
    exact hfin2.out _ rfl
end Go.Proofs.Ytnbehncbjbkjpaa
