import Derived.Test.YtfmbfojlopibnaaDoorOpenU
import Derived.Test.YtfmbfojlopibnaaDoorCutR
import Derived.Test.YtfmbfojlopibnaaDoorDiffer2
namespace Go.Proofs.YtfmbfojlopibnaaDoor
open Go.RowKit Go.Shelf
attribute [local go_sem] Oper.semAt_some

/- WHAT IS SPOILT, ONE BY ONE. -/

theorem df_ge : ∀ (l m : List UInt8) (k : Nat), decide (0 ≤ df l m k) = !decide (l = m)
  | [], [], _ => rfl
  | [], b :: m, k => by simp [df]
  | a :: l, [], k => by simp [df]
  | a :: l, b :: m, k => by
    rw [df]
    by_cases h : a = b
    · rw [if_pos h, df_ge l m (k + 1)]
      simp [h]
    · rw [if_neg h]
      simp [h]
theorem sees_same {w w' : World} {B B' : Nat} {A : Option Addr} {xs : List Value} (h : Sees w B A xs) (hb : ∀ ad, A = some ad → xs ≠ [] → w'.heap[ad.block]? = w.heap[ad.block]?) (hB : ∀ ad, A = some ad → ad.block < w.heap.size → ad.block < B') : Sees w' B' A xs := fun hn => by
  obtain ⟨ad, e, hlt, hc⟩ := h hn
  have h0 : ad.block < w.heap.size := by
    obtain ⟨x, xs', rfl⟩ := List.exists_cons_of_ne_nil hn
    have := lt_of_cell (hc 0 x rfl)
    rwa [add_block] at this
  exact ⟨ad, e, hB ad e h0, fun j u hu => (World.cell?_of_block (by rw [add_block]; exact hb ad e hn)).trans (hc j u hu)⟩

/-- which are spoilt -/
def spL (l1 l2 H T : List UInt8) : List Int := (if l1 = H then [] else [1]) ++ (if l2 = T then [] else [2])

section
variable (be bt k at_ c s n : Nat) (A1 A2 : Option Addr) (n1 c1 n2 c2 : Nat) (l1 l2 : List UInt8)
/-- what stands at both ends, and the tag -/
def EndsAt (w : World) : Prop :=
  Row w be 77 [.int .u64 (k : Int), .int .u32 (at_ : Int), .slice A1 n1 c1, .slice A2 n2 c2] ∧ Row w bt 60 [.int .i64 (c : Int), .int .i64 (s : Int), .int .u32 (n : Int)] ∧ Tab w ∧ Sees w w.heap.size A1 (byt l1) ∧ Sees w w.heap.size A2 (byt l2)
def privE (b : Nat) : Prop := b = be ∨ b = bt ∨ b = 0 ∨ (∃ ad : Addr, A1 = some ad ∧ ad.block = b ∧ byt l1 ≠ []) ∨ (∃ ad : Addr, A2 = some ad ∧ ad.block = b ∧ byt l2 ≠ [])
end
section
variable {be bt k at_ c s n : Nat} {A1 A2 : Option Addr} {n1 c1 n2 c2 : Nat} {l1 l2 : List UInt8}
theorem EndsAt.same {w w' : World} (h : EndsAt be bt k at_ c s n A1 A2 n1 c1 n2 c2 l1 l2 w) (hs : w.heap.size ≤ w'.heap.size) (hp : ∀ b, privE be bt A1 A2 l1 l2 b → w'.heap[b]? = w.heap[b]?) : EndsAt be bt k at_ c s n A1 A2 n1 c1 n2 c2 l1 l2 w' := by
  obtain ⟨h1, h2, ⟨t, fr, h3⟩, h4, h5⟩ := h
  exact ⟨h1.same (hp _ (.inl rfl)), h2.same (hp _ (.inr (.inl rfl))), ⟨t, fr, (hp _ (.inr (.inr (.inl rfl)))).trans h3⟩, sees_same h4 (fun ad e hn => hp _ (.inr (.inr (.inr (.inl ⟨ad, e, rfl, hn⟩))))) (fun _ _ h => by omega), sees_same h5 (fun ad e hn => hp _ (.inr (.inr (.inr (.inr ⟨ad, e, rfl, hn⟩))))) (fun _ _ h => by omega)⟩
theorem EndsAt.below {w w' : World} (h : EndsAt be bt k at_ c s n A1 A2 n1 c1 n2 c2 l1 l2 w) (hb : Below w.heap.size w w') : EndsAt be bt k at_ c s n A1 A2 n1 c1 n2 c2 l1 l2 w' := by
  obtain ⟨h1, h2, h3, h4, h5⟩ := h
  exact ⟨h1.below hb, h2.below hb, h3.below hb, (h4.below hb).more hb.size, (h5.below hb).more hb.size⟩

theorem privE.lt {w : World} {b : Nat} (h : EndsAt be bt k at_ c s n A1 A2 n1 c1 n2 c2 l1 l2 w) (hb : privE be bt A1 A2 l1 l2 b) : b < w.heap.size := by
  obtain ⟨h1, h2, h3, h4, h5⟩ := h
  rcases hb with rfl | rfl | rfl | ⟨ad, e, rfl, hn⟩ | ⟨ad, e, rfl, hn⟩
  · exact h1.lt
  · exact h2.lt
  · exact h3.lt
  · obtain ⟨ad', e', hl, _⟩ := h4 hn
    rw [e] at e'
    injection e' with e'
    subst e'
    exact hl
  · obtain ⟨ad', e', hl, _⟩ := h5 hn
    rw [e] at e'
    injection e' with e'
    subst e'
    exact hl
/-- the calls that a region makes, from a world V on -/
theorem ends_calls {V : World} {K : Nat} {A : Option Addr} {n' c' : Nat} {l B : List UInt8} {hf : Nat} (ht : Tab V) (hs : Sees V V.heap.size A (byt l)) (hn : l.length = n') (hm : n' ≤ 140737488351232) (hK : K < 18446744073709551616) (hc : c < 8) (hs' : s ≤ 65535) (hn' : n < 4294967296) (hB : B = sealB K (tagW c s n))
    (hf_any : ∀ w : World, Calls Tryd.prog hf #[.int .u64 (k : Int), .int .u32 (at_ : Int)] w fun e w' => ∃ v, e = .returned v ∧ Sealer w K v w' ∧ Below w.heap.size w w') :
    Hid (∀ W : World, Below V.heap.size V W → Calls Tryd.prog hf #[.int .u64 (k : Int), .int .u32 (at_ : Int)] W fun e W' => ∃ g, e = .returned (.func (.func 49) #[] #[.pointer (some ⟨g, 0, none⟩)]) ∧ W'.cell? ⟨g, 0, none⟩ = some (.int .u64 (K : Int)) ∧ Below V.heap.size V W') ∧
    Hid (∀ (g : Nat) (W : World), Below V.heap.size V W → W.cell? ⟨g, 0, none⟩ = some (.int .u64 (K : Int)) → Calls Tryd.prog 49 #[.agg #[.int .i64 (c : Int), .int .i64 (s : Int), .int .u32 (n : Int)], .pointer (some ⟨g, 0, none⟩)] W fun e W' =>
      ∃ Ab cb, e = .returned (.slice Ab 16 cb) ∧ Sees W' W'.heap.size Ab (byt B) ∧ Below V.heap.size V W') ∧
    Hid (∀ (Ab : Option Addr) (cb : Nat) (W : World), Below V.heap.size V W → Sees W W.heap.size Ab (byt B) → Calls Tryd.prog 65 #[.slice A n' c', .slice Ab 16 cb] W fun e W' => e = .returned (.int .i64 (df l B 0)) ∧ Below V.heap.size V W') := by
  refine ⟨fun W hB => ?_, fun g W hbw hg => ?_, fun Ab cb W hbw hsb => ?_⟩
  · exact (hf_any W).mono fun e W' ⟨v, h1, ⟨g, h2, _, h4⟩, h5⟩ => ⟨g, h2 ▸ h1, h4, hB.trans (h5.mono hB.size)⟩
  · refine (sealing1_any c s n K g W (ht.below hbw) hc hs' hn' hK hg).mono ?_
    rintro e W' ⟨v, rfl, ho, hb⟩
    obtain ⟨Ab, cb, rfl⟩ := own_slice ho
    exact ⟨Ab, cb, rfl, by rw [hB]; exact Sees.of_own ho, hbw.trans (hb.mono hbw.size)⟩
  · exact (differ_any l B n' c' 16 cb A Ab W.heap.size W hn (by rw [hB, sealB_length]) hm (by decide) ((hs.below hbw).more hbw.size) hsb).mono fun e W' ⟨h1, h2⟩ => ⟨h1, hbw.trans (h2.mono hbw.size)⟩
end

set_option maxHeartbeats 4000000 in
theorem spoilt1_it (be bt k at_ c s n : Nat) (A1 A2 : Option Addr) (n1 c1 n2 c2 : Nat) (l1 l2 : List UInt8) (w0 : World) (hk : k < 18446744073709551616) (ha : at_ < 4294967296) (hc : c < 8) (hs : s ≤ 65535) (hn : n < 4294967296)
    (hn1 : l1.length = n1) (hm1 : n1 ≤ 140737488351232) (hn2 : l2.length = n2) (hm2 : n2 ≤ 140737488351232) (hE0 : EndsAt be bt k at_ c s n A1 A2 n1 c1 n2 c2 l1 l2 w0) :
    It Tryd.prog 64 #[.pointer (some ⟨be, 0, none⟩), .pointer (some ⟨bt, 0, none⟩)] (fun x : Int => #[.int .i64 x]) (fun _ _ => False) (fun _ _ _ => True) (privE be bt A1 A2 l1 l2)
      (fun xs => xs = spL l1 l2 (sealB (foldN [k, at_]) (tagW c s n)) (sealB (foldN [at_, k]) (tagW c s n))) (fun xs => ∃ post, spL l1 l2 (sealB (foldN [k, at_]) (tagW c s n)) (sealB (foldN [at_, k]) (tagW c s n)) = xs ++ post) w0 := by
  intro l J Jx W hpW hsW hJ hJx hY h0
  have hK1 : foldN [k, at_] < 18446744073709551616 := foldN_lt (fun x hx => by simp at hx; omega)
  have hK2 : foldN [at_, k] < 18446744073709551616 := foldN_lt (fun x hx => by simp at hx; omega)
  obtain ⟨H, hH⟩ : ∃ H, H = sealB (foldN [k, at_]) (tagW c s n) := ⟨_, rfl⟩
  obtain ⟨T, hT⟩ : ∃ T, T = sealB (foldN [at_, k]) (tagW c s n) := ⟨_, rfl⟩
  rw [← hH, ← hT]
  have HC := fun (V : World) (hE : EndsAt be bt k at_ c s n A1 A2 n1 c1 n2 c2 l1 l2 V) => ends_calls (c' := c1) hE.2.2.1 hE.2.2.2.1 hn1 hm1 hK1 hc hs hn hH (fun w => heads_any k at_ w hk ha)
  have TC := fun (V : World) (hE : EndsAt be bt k at_ c s n A1 A2 n1 c1 n2 c2 l1 l2 V) => ends_calls (c' := c2) hE.2.2.1 hE.2.2.2.2 hn2 hm2 hK2 hc hs hn hT (fun w => tails_any k at_ w hk ha)
  have hd1 := df_ge l1 H 0
  have hd2 := df_ge l2 T 0
  obtain ⟨d1, hdd1⟩ : ∃ d1, d1 = df l1 H 0 := ⟨_, rfl⟩
  obtain ⟨d2, hdd2⟩ : ∃ d2, d2 = df l2 T 0 := ⟨_, rfl⟩
  rw [← hdd1] at hd1 HC
  rw [← hdd2] at hd2 TC
  obtain ⟨K1, hKK1⟩ : ∃ K1, K1 = foldN [k, at_] := ⟨_, rfl⟩
  obtain ⟨K2, hKK2⟩ : ∃ K2, K2 = foldN [at_, k] := ⟨_, rfl⟩
  rw [← hKK1] at HC
  rw [← hKK2] at TC
  obtain ⟨L, hL⟩ : ∃ L, L = spL l1 l2 H T := ⟨_, rfl⟩
  rw [← hL]
  have hE : EndsAt be bt k at_ c s n A1 A2 n1 c1 n2 c2 l1 l2 W := hE0.same hsW hpW
  have HCW := HC W hE
  have HC := Lib.hid HC
  have TC := Lib.hid TC
  have hmix : Tryd.prog.follows .mixedOrders = true := by kernel_rfl
  clear hK1 hK2 hH hT hdd1 hdd2 hKK1 hKK2 hk ha hc hs hn hn1 hm1 hn2 hm2 hE0 hpW hsW
  refine (callsIn_wide (n := 1)).1 ?_
  refine callsIn_of_wp Tryd.func64 rfl trivial ?_ rfl
  simp only [Tryd.ntmps64, List.size_toArray, List.length_cons, List.length_nil, Nat.reduceAdd, Nat.reduceSub, Array.replicate_succ, Array.replicate_zero, List.push_toArray, List.append_toArray, List.nil_append, List.cons_append]
  obtain ⟨q1, hq1⟩ : ∃ q1, decide (l1 = H) = q1 := ⟨_, rfl⟩
  rw [hq1] at hd1
  obtain ⟨q2, hq2⟩ : ∃ q2, decide (l2 = T) = q2 := ⟨_, rfl⟩
  rw [hq2] at hd2
  have HSA := Lib.hid (fun (X : World) (hB : Below W.heap.size W X) => (show X.cell? ⟨be, 0, none⟩ = some (.int .u64 (k : Int)) ∧ X.cell? ⟨be, 1, none⟩ = some (.int .u32 (at_ : Int)) ∧ X.cell? ⟨be, 2, none⟩ = some (.slice A1 n1 c1) ∧ X.cell? ⟨be, 3, none⟩ = some (.slice A2 n2 c2) ∧ X.cell? ⟨bt, 0, none⟩ = some (.int .i64 (c : Int)) ∧ X.cell? ⟨bt, 1, none⟩ = some (.int .i64 (s : Int)) ∧ X.cell? ⟨bt, 2, none⟩ = some (.int .u32 (n : Int)) ∧ Below W.heap.size W X from
    have hE := hE.below hB
    ⟨hE.1.cell 0, hE.1.cell 1, hE.1.cell 2, hE.1.cell 3, hE.2.1.cell 0, hE.2.1.cell 1, hE.2.1.cell 2, hB⟩))
  have hdr := Lib.hid (show Below W.heap.size W W.drew from (Below.refl _ _).drew)
  obtain ⟨h1, h2, h3⟩ := HCW
  cases q1
  · -- the head is spoilt
    have e1 : decide ((0 : Int) ≤ d1) = true := hd1
    clear hd1
    gi_wp2_with fail
    refine wpIn_region_cut 13 (S := fun W' => W'.cell? ⟨be, 0, none⟩ = some (.int .u64 (k : Int)) ∧ W'.cell? ⟨be, 1, none⟩ = some (.int .u32 (at_ : Int)) ∧ W'.cell? ⟨be, 2, none⟩ = some (.slice A1 n1 c1) ∧ W'.cell? ⟨be, 3, none⟩ = some (.slice A2 n2 c2) ∧ W'.cell? ⟨bt, 0, none⟩ = some (.int .i64 (c : Int)) ∧ W'.cell? ⟨bt, 1, none⟩ = some (.int .i64 (s : Int)) ∧ W'.cell? ⟨bt, 2, none⟩ = some (.int .u32 (n : Int)) ∧ Below W.heap.size W W') hmix (by kernel_rfl) (HSA.out _ hdr.out) (fun hHeld => ?_)
    simp only [List.take_succ_cons, List.take_zero]
    refine wpAnyH_take (i := 0) (v := ?_) rfl (by kernel_rfl) (by kernel_rfl) (by kernel_rfl) (fun _ _ _ h => h) (Or.inl ⟨by kernel_rfl, ?_⟩) hHeld ?_
    rotate_left
    focus (intro w hSw; (try dsimp only at hSw); go_simp; try with_reducible rfl)
    try simp only [Act.put]
    refine wpAnyH_take (i := 1) (v := ?_) rfl (by kernel_rfl) (by kernel_rfl) (by kernel_rfl) (fun _ _ _ h => h) (Or.inl ⟨by kernel_rfl, ?_⟩) hHeld ?_
    rotate_left
    focus (intro w hSw; (try dsimp only at hSw); go_simp; try with_reducible rfl)
    try simp only [Act.put]
    refine wpAnyH_take (i := 2) (v := ?_) rfl (by kernel_rfl) (by kernel_rfl) (by kernel_rfl) (fun _ _ _ h => h) (Or.inl ⟨by kernel_rfl, ?_⟩) hHeld ?_
    rotate_left
    focus (intro w hSw; (try dsimp only at hSw); go_simp; try with_reducible rfl)
    try simp only [Act.put]
    refine wpAnyH_take (i := 3) (v := ?_) rfl (by kernel_rfl) (by kernel_rfl) (by kernel_rfl) (fun _ _ _ h => h) (Or.inl ⟨by kernel_rfl, ?_⟩) hHeld ?_
    rotate_left
    focus (intro w hSw; (try dsimp only at hSw); go_simp; try with_reducible rfl)
    try simp only [Act.put]
    refine wpAnyH_take (i := 4) (v := ?_) rfl (by kernel_rfl) (by kernel_rfl) (by kernel_rfl) (fun _ _ _ h => h) (Or.inl ⟨by kernel_rfl, ?_⟩) hHeld ?_
    rotate_left
    focus (intro w hSw; (try dsimp only at hSw); go_simp; try with_reducible rfl)
    try simp only [Act.put]
    refine wpAnyH_take (i := 5) (v := ?_) rfl (by kernel_rfl) (by kernel_rfl) (by kernel_rfl) (fun _ _ _ h => h) (Or.inl ⟨by kernel_rfl, ?_⟩) hHeld ?_
    rotate_left
    focus (intro w hSw; (try dsimp only at hSw); go_simp; try with_reducible rfl)
    try simp only [Act.put]
    refine wpAnyH_take (i := 7) (v := ?_) rfl (by kernel_rfl) (by kernel_rfl) (by kernel_rfl) (fun _ _ _ h => h) (Or.inl ⟨by kernel_rfl, ?_⟩) hHeld ?_
    rotate_left
    focus (intro w hSw; (try dsimp only at hSw); go_simp; try with_reducible rfl)
    try simp only [Act.put]
    refine wpAnyH_ready (rs := [6]) (by kernel_rfl) (by simp) ?_
    refine AllReadyH.cons rfl (fun K hK => ?_) AllReadyH.nil
    go_simp
    refine (h1.out _ hdr.out).mono ?_
    rintro e w1 ⟨g, rfl, hg, hb1⟩
    refine hK.out _ _ (HSA.out _ hb1) (fun hHeld => ?_)
    clear hK K
    refine wpAnyH_ready (rs := [8]) (by kernel_rfl) (by simp) ?_
    refine AllReadyH.cons rfl (fun K hK => ?_) AllReadyH.nil
    go_simp
    refine (h2.out _ _ hb1 hg).mono ?_
    rintro e w2 ⟨Ab, cb, rfl, hsb, hb2⟩
    refine hK.out _ _ (HSA.out _ hb2) (fun hHeld => ?_)
    clear hK K
    refine wpAnyH_ready (rs := [9]) (by kernel_rfl) (by simp) ?_
    refine AllReadyH.cons rfl (fun K hK => ?_) AllReadyH.nil
    go_simp
    refine (h3.out _ _ _ hb2 hsb).mono ?_
    rintro e w3 ⟨rfl, hb3⟩
    refine hK.out _ _ (HSA.out _ hb3) (fun hHeld => ?_)
    clear hK K
    refine wpAnyH_take (i := 10) (v := ?_) rfl (by kernel_rfl) (by kernel_rfl) (by kernel_rfl) (fun _ _ _ h => h) (Or.inl ⟨by kernel_rfl, ?_⟩) hHeld ?_
    rotate_left
    focus (intro w hSw; (try dsimp only at hSw); go_simp; try with_reducible rfl)
    try simp only [Act.put]
    refine wpAnyH_take (i := 11) (v := ?_) rfl (by kernel_rfl) (by kernel_rfl) (by kernel_rfl) (fun _ _ _ h => h) (Or.inl ⟨by kernel_rfl, ?_⟩) hHeld ?_
    rotate_left
    focus (intro w hSw; (try dsimp only at hSw); go_simp; try with_reducible rfl)
    try simp only [Act.put]
    refine wpAnyH_take (i := 12) (v := ?_) rfl (by kernel_rfl) (by kernel_rfl) (by kernel_rfl) (fun _ _ _ h => h) (Or.inl ⟨by kernel_rfl, ?_⟩) hHeld ?_
    rotate_left
    focus (intro w hSw; (try dsimp only at hSw); go_simp; try with_reducible rfl)
    try simp only [Act.put]
    refine wpAnyH_done (by kernel_rfl) ?_ _
    clear h1 h2 h3 hHeld hsb hg
    have hj3 := hJ.below h0 hb3
    have hE3 := hE.below hb3
    have hs3 := hb3.size
    obtain ⟨fn, tmps, assign, body, hy, hR⟩ := hY [] 1 (fun _ => False) w3 hs3 (fun _ h => h.elim) hj3 trivial (fun _ h => h.elim)
    clear hE hb1 hb2 hb3 h0 hj3 hdr HSA
    show wpAnyIn Fence.wide 1 Tryd.prog .any _ _ 3 (full 13 16) _ _
    refine wpAnyIn_ready (rs := [13]) (by kernel_rfl) (by simp) ?_
    refine AllReadyIn.cons rfl (fun K hK => ?_) AllReadyIn.nil
    go_simp
    refine hR.mono ?_
    clear hR hy
    rintro e V ⟨hk, (⟨rfl, hjv⟩ | ⟨rfl, hjx⟩)⟩
    · refine hK _ _ ?_
      clear hK K
      have hEV := hE3.same hk.size (fun b hb => hk.same b (privE.lt hE3 hb) (.inl hb))
      have hVs := Nat.le_trans hs3 hk.size
      have hOV : ∀ b, nextO (fun _ => False) (fun _ => False) w3 V b → W.heap.size ≤ b ∧ b < V.heap.size := nextO_bound (fun _ h => h.elim) hs3 hk.size
      clear hk hE3 hs3
      refine wpAnyIn_ready (rs := [14]) (by kernel_rfl) (by simp) ?_
      refine AllReadyIn.cons rfl (fun K hK => ?_) AllReadyIn.nil
      go_simp
      refine hK _ _ ?_
      clear hK K
      refine wpAnyIn_ready (rs := [15]) (by kernel_rfl) (by simp) ?_
      refine AllReadyIn.cons rfl (fun K hK => ?_) AllReadyIn.nil
      go_simp
      refine hK _ _ ?_
      clear hK K
      refine wpAnyIn_done (by kernel_rfl) ?_ _
      have HLL : L = [1] ++ (if l2 = T then [] else [2]) := by rw [hL, spL, if_neg (of_decide_eq_false hq1)]
      obtain ⟨h1, h2, h3⟩ := TC.out V hEV
      clear HC TC
      have hE := hEV
      have HSA := Lib.hid (fun (X : World) (hB : Below V.heap.size V X) => (show X.cell? ⟨be, 0, none⟩ = some (.int .u64 (k : Int)) ∧ X.cell? ⟨be, 1, none⟩ = some (.int .u32 (at_ : Int)) ∧ X.cell? ⟨be, 2, none⟩ = some (.slice A1 n1 c1) ∧ X.cell? ⟨be, 3, none⟩ = some (.slice A2 n2 c2) ∧ X.cell? ⟨bt, 0, none⟩ = some (.int .i64 (c : Int)) ∧ X.cell? ⟨bt, 1, none⟩ = some (.int .i64 (s : Int)) ∧ X.cell? ⟨bt, 2, none⟩ = some (.int .u32 (n : Int)) ∧ Below V.heap.size V X from
        have hE := hE.below hB
        ⟨hE.1.cell 0, hE.1.cell 1, hE.1.cell 2, hE.1.cell 3, hE.2.1.cell 0, hE.2.1.cell 1, hE.2.1.cell 2, hB⟩))
      have hdr := Lib.hid (show Below V.heap.size V V.drew from (Below.refl _ _).drew)
      cases q2
      · have e2 : decide ((0 : Int) ≤ d2) = true := hd2
        have HL := Lib.hid (show L = [1] ++ [2] by rw [HLL, if_neg (of_decide_eq_false hq2)])
        clear hd2 HLL
        gi_wp2_with fail
        refine wpIn_wide.2 ?_
        go_region_held3 (fun X => X.cell? ⟨be, 0, none⟩ = some (.int .u64 (k : Int)) ∧ X.cell? ⟨be, 1, none⟩ = some (.int .u32 (at_ : Int)) ∧ X.cell? ⟨be, 2, none⟩ = some (.slice A1 n1 c1) ∧ X.cell? ⟨be, 3, none⟩ = some (.slice A2 n2 c2) ∧ X.cell? ⟨bt, 0, none⟩ = some (.int .i64 (c : Int)) ∧ X.cell? ⟨bt, 1, none⟩ = some (.int .i64 (s : Int)) ∧ X.cell? ⟨bt, 2, none⟩ = some (.int .u32 (n : Int)) ∧ Below V.heap.size V X)
          (first | exact HSA.out _ hdr.out | (exact HSA.out _ (by assumption)) | (go_split_ands; exact HSA.out _ (by assumption)))
          (first
            | (go_at_call 21; refine (h1.out _ (by first | exact hdr.out | assumption)).mono ?_; rintro e V1 ⟨g, rfl, hg, hb1⟩)
            | (go_at_call 49; refine (h2.out _ _ (by assumption) (by assumption)).mono ?_; rintro e V2 ⟨Ab, cb, rfl, hsb, hb2⟩)
            | (go_at_call 65; refine (h3.out _ _ _ (by assumption) (by assumption)).mono ?_; rintro e V3 ⟨rfl, hb3⟩))
        have hEW := hEV.below hb3
        have hjw := hJ.below hjv hb3
        have hws := hb3.size
        obtain ⟨fn, tmps, assign, body, hy, hR⟩ := hY _ 2 _ V3 (Nat.le_trans hVs hws) (fun b hb => ⟨(hOV b hb).1, Nat.lt_of_lt_of_le (hOV b hb).2 hws⟩) hjw trivial (fun _ h => h.elim)
        clear h1 h2 h3 hE hb3 hdr HSA hEW hjw hEV hjv
        gi_wp2_with fail
        refine hR.mono ?_
        clear hR hy
        rintro e V4 ⟨hk, (⟨rfl, hjz⟩ | ⟨rfl, hjx⟩)⟩
        · gi_wp2_with fail
          go_end0
          exact itEnd.all HL.out.symm hjz
        · gi_wp2_with fail
          go_end0
          exact itEnd.part ⟨[], by rw [HL.out]; rfl⟩ hjx
      · have e2 : decide ((0 : Int) ≤ d2) = false := hd2
        have HL := Lib.hid (show L = [1] by rw [HLL, if_pos (of_decide_eq_true hq2)]; rfl)
        clear hd2 HLL
        gi_wp2_with fail
        refine wpIn_wide.2 ?_
        go_region_held3 (fun X => X.cell? ⟨be, 0, none⟩ = some (.int .u64 (k : Int)) ∧ X.cell? ⟨be, 1, none⟩ = some (.int .u32 (at_ : Int)) ∧ X.cell? ⟨be, 2, none⟩ = some (.slice A1 n1 c1) ∧ X.cell? ⟨be, 3, none⟩ = some (.slice A2 n2 c2) ∧ X.cell? ⟨bt, 0, none⟩ = some (.int .i64 (c : Int)) ∧ X.cell? ⟨bt, 1, none⟩ = some (.int .i64 (s : Int)) ∧ X.cell? ⟨bt, 2, none⟩ = some (.int .u32 (n : Int)) ∧ Below V.heap.size V X)
          (first | exact HSA.out _ hdr.out | (exact HSA.out _ (by assumption)) | (go_split_ands; exact HSA.out _ (by assumption)))
          (first
            | (go_at_call 21; refine (h1.out _ (by first | exact hdr.out | assumption)).mono ?_; rintro e V1 ⟨g, rfl, hg, hb1⟩)
            | (go_at_call 49; refine (h2.out _ _ (by assumption) (by assumption)).mono ?_; rintro e V2 ⟨Ab, cb, rfl, hsb, hb2⟩)
            | (go_at_call 65; refine (h3.out _ _ _ (by assumption) (by assumption)).mono ?_; rintro e V3 ⟨rfl, hb3⟩))
        have hjw := hJ.below hjv hb3
        clear h1 h2 h3 hE hb3 hdr HSA hEV hjv
        gi_wp2_with fail
        go_end0
        exact itEnd.all HL.out.symm hjw
    · refine hK _ _ ?_
      clear hK K hE3 hs3 hk HC TC
      refine wpAnyIn_ready (rs := [14]) (by kernel_rfl) (by simp) ?_
      refine AllReadyIn.cons rfl (fun K hK => ?_) AllReadyIn.nil
      go_simp
      refine hK _ _ ?_
      clear hK K
      refine wpAnyIn_ready (rs := [15]) (by kernel_rfl) (by simp) ?_
      refine AllReadyIn.cons rfl (fun K hK => ?_) AllReadyIn.nil
      go_simp
      refine hK _ _ ?_
      clear hK K
      refine wpAnyIn_done (by kernel_rfl) ?_ _
      gi_wp2_with fail
      refine bodyPost_ret (results_none rfl _ _ _) rfl ?_
      exact itEnd.part ⟨if l2 = T then [] else [2], by rw [spL, if_neg (of_decide_eq_false hq1)]; rfl⟩ hjx
  · -- the head is as it was made
    have e1 : decide ((0 : Int) ≤ d1) = false := hd1
    clear hd1
    gi_wp2_with fail
    refine wpIn_wide.2 ?_
    refine wp_region_held_drew (S := fun X => X.cell? ⟨be, 0, none⟩ = some (.int .u64 (k : Int)) ∧ X.cell? ⟨be, 1, none⟩ = some (.int .u32 (at_ : Int)) ∧ X.cell? ⟨be, 2, none⟩ = some (.slice A1 n1 c1) ∧ X.cell? ⟨be, 3, none⟩ = some (.slice A2 n2 c2) ∧ X.cell? ⟨bt, 0, none⟩ = some (.int .i64 (c : Int)) ∧ X.cell? ⟨bt, 1, none⟩ = some (.int .i64 (s : Int)) ∧ X.cell? ⟨bt, 2, none⟩ = some (.int .u32 (n : Int)) ∧ Below W.heap.size W X) hmix (HSA.out _ hdr.out) (fun hHeld => ?_)
    refine wpAnyH_take (i := 0) (v := ?_) rfl (by kernel_rfl) (by kernel_rfl) (by kernel_rfl) (fun _ _ _ h => h) (Or.inl ⟨by kernel_rfl, ?_⟩) hHeld ?_
    rotate_left
    focus (intro w hSw; (try dsimp only at hSw); go_simp; try with_reducible rfl)
    try simp only [Act.put]
    refine wpAnyH_take (i := 1) (v := ?_) rfl (by kernel_rfl) (by kernel_rfl) (by kernel_rfl) (fun _ _ _ h => h) (Or.inl ⟨by kernel_rfl, ?_⟩) hHeld ?_
    rotate_left
    focus (intro w hSw; (try dsimp only at hSw); go_simp; try with_reducible rfl)
    try simp only [Act.put]
    refine wpAnyH_take (i := 2) (v := ?_) rfl (by kernel_rfl) (by kernel_rfl) (by kernel_rfl) (fun _ _ _ h => h) (Or.inl ⟨by kernel_rfl, ?_⟩) hHeld ?_
    rotate_left
    focus (intro w hSw; (try dsimp only at hSw); go_simp; try with_reducible rfl)
    try simp only [Act.put]
    refine wpAnyH_take (i := 3) (v := ?_) rfl (by kernel_rfl) (by kernel_rfl) (by kernel_rfl) (fun _ _ _ h => h) (Or.inl ⟨by kernel_rfl, ?_⟩) hHeld ?_
    rotate_left
    focus (intro w hSw; (try dsimp only at hSw); go_simp; try with_reducible rfl)
    try simp only [Act.put]
    refine wpAnyH_take (i := 4) (v := ?_) rfl (by kernel_rfl) (by kernel_rfl) (by kernel_rfl) (fun _ _ _ h => h) (Or.inl ⟨by kernel_rfl, ?_⟩) hHeld ?_
    rotate_left
    focus (intro w hSw; (try dsimp only at hSw); go_simp; try with_reducible rfl)
    try simp only [Act.put]
    refine wpAnyH_take (i := 5) (v := ?_) rfl (by kernel_rfl) (by kernel_rfl) (by kernel_rfl) (fun _ _ _ h => h) (Or.inl ⟨by kernel_rfl, ?_⟩) hHeld ?_
    rotate_left
    focus (intro w hSw; (try dsimp only at hSw); go_simp; try with_reducible rfl)
    try simp only [Act.put]
    refine wpAnyH_take (i := 7) (v := ?_) rfl (by kernel_rfl) (by kernel_rfl) (by kernel_rfl) (fun _ _ _ h => h) (Or.inl ⟨by kernel_rfl, ?_⟩) hHeld ?_
    rotate_left
    focus (intro w hSw; (try dsimp only at hSw); go_simp; try with_reducible rfl)
    try simp only [Act.put]
    refine wpAnyH_ready (rs := [6]) (by kernel_rfl) (by simp) ?_
    refine AllReadyH.cons rfl (fun K hK => ?_) AllReadyH.nil
    go_simp
    refine (h1.out _ hdr.out).mono ?_
    rintro e w1 ⟨g, rfl, hg, hb1⟩
    refine hK.out _ _ (HSA.out _ hb1) (fun hHeld => ?_)
    clear hK K
    refine wpAnyH_ready (rs := [8]) (by kernel_rfl) (by simp) ?_
    refine AllReadyH.cons rfl (fun K hK => ?_) AllReadyH.nil
    go_simp
    refine (h2.out _ _ hb1 hg).mono ?_
    rintro e w2 ⟨Ab, cb, rfl, hsb, hb2⟩
    refine hK.out _ _ (HSA.out _ hb2) (fun hHeld => ?_)
    clear hK K
    refine wpAnyH_ready (rs := [9]) (by kernel_rfl) (by simp) ?_
    refine AllReadyH.cons rfl (fun K hK => ?_) AllReadyH.nil
    go_simp
    refine (h3.out _ _ _ hb2 hsb).mono ?_
    rintro e V ⟨rfl, hb3⟩
    refine hK.out _ _ (HSA.out _ hb3) (fun hHeld => ?_)
    clear hK K
    refine wpAnyH_ready (rs := [10]) (by kernel_rfl) (by simp) ?_
    refine AllReadyH.cons rfl (fun K hK => ?_) AllReadyH.nil
    go_simp
    refine hK.out _ _ (HSA.out _ hb3) (fun hHeld => ?_)
    clear hK K
    refine wpAnyH_ready (rs := [11]) (by kernel_rfl) (by simp) ?_
    refine AllReadyH.cons rfl (fun K hK => ?_) AllReadyH.nil
    go_simp
    refine hK.out _ _ (HSA.out _ hb3) (fun hHeld => ?_)
    clear hK K
    refine wpAnyH_ready (rs := [12]) (by kernel_rfl) (by simp) ?_
    refine AllReadyH.cons rfl (fun K hK => ?_) AllReadyH.nil
    go_simp
    refine hK.out _ _ (HSA.out _ hb3) (fun hHeld => ?_)
    clear hK K
    refine wpAnyH_ready (rs := [13]) (by kernel_rfl) (by simp) ?_
    refine AllReadyH.cons rfl (fun K hK => ?_) AllReadyH.nil
    go_simp
    refine hK.out _ _ (HSA.out _ hb3) (fun hHeld => ?_)
    clear hK K
    refine wpAnyH_ready (rs := [14]) (by kernel_rfl) (by simp) ?_
    refine AllReadyH.cons rfl (fun K hK => ?_) AllReadyH.nil
    go_simp
    refine hK.out _ _ (HSA.out _ hb3) (fun hHeld => ?_)
    clear hK K
    refine wpAnyH_ready (rs := [15]) (by kernel_rfl) (by simp) ?_
    refine AllReadyH.cons rfl (fun K hK => ?_) AllReadyH.nil
    go_simp
    refine hK.out _ _ (HSA.out _ hb3) (fun hHeld => ?_)
    clear hK K
    refine wpAnyH_done (by kernel_rfl) ?_ _
    have hEV := hE.below hb3
    have hVs := hb3.size
    have hjv := hJ.below h0 hb3
    have hOV : ∀ b, False → W.heap.size ≤ b ∧ b < V.heap.size := fun _ h => h.elim
    clear h1 h2 h3 hHeld hsb hg hE hb1 hb2 hb3 h0 hdr HSA
    have HLL : L = [] ++ (if l2 = T then [] else [2]) := by rw [hL, spL, if_pos (of_decide_eq_true hq1)]
    obtain ⟨h1, h2, h3⟩ := TC.out V hEV
    clear HC TC
    have hE := hEV
    have HSA := Lib.hid (fun (X : World) (hB : Below V.heap.size V X) => (show X.cell? ⟨be, 0, none⟩ = some (.int .u64 (k : Int)) ∧ X.cell? ⟨be, 1, none⟩ = some (.int .u32 (at_ : Int)) ∧ X.cell? ⟨be, 2, none⟩ = some (.slice A1 n1 c1) ∧ X.cell? ⟨be, 3, none⟩ = some (.slice A2 n2 c2) ∧ X.cell? ⟨bt, 0, none⟩ = some (.int .i64 (c : Int)) ∧ X.cell? ⟨bt, 1, none⟩ = some (.int .i64 (s : Int)) ∧ X.cell? ⟨bt, 2, none⟩ = some (.int .u32 (n : Int)) ∧ Below V.heap.size V X from
      have hE := hE.below hB
      ⟨hE.1.cell 0, hE.1.cell 1, hE.1.cell 2, hE.1.cell 3, hE.2.1.cell 0, hE.2.1.cell 1, hE.2.1.cell 2, hB⟩))
    have hdr := Lib.hid (show Below V.heap.size V V.drew from (Below.refl _ _).drew)
    cases q2
    · have e2 : decide ((0 : Int) ≤ d2) = true := hd2
      have HL := Lib.hid (show L = [] ++ [2] by rw [HLL, if_neg (of_decide_eq_false hq2)])
      clear hd2 HLL
      gi_wp2_with fail
      refine wpIn_wide.2 ?_
      go_region_held3 (fun X => X.cell? ⟨be, 0, none⟩ = some (.int .u64 (k : Int)) ∧ X.cell? ⟨be, 1, none⟩ = some (.int .u32 (at_ : Int)) ∧ X.cell? ⟨be, 2, none⟩ = some (.slice A1 n1 c1) ∧ X.cell? ⟨be, 3, none⟩ = some (.slice A2 n2 c2) ∧ X.cell? ⟨bt, 0, none⟩ = some (.int .i64 (c : Int)) ∧ X.cell? ⟨bt, 1, none⟩ = some (.int .i64 (s : Int)) ∧ X.cell? ⟨bt, 2, none⟩ = some (.int .u32 (n : Int)) ∧ Below V.heap.size V X)
        (first | exact HSA.out _ hdr.out | (exact HSA.out _ (by assumption)) | (go_split_ands; exact HSA.out _ (by assumption)))
        (first
          | (go_at_call 21; refine (h1.out _ (by first | exact hdr.out | assumption)).mono ?_; rintro e V1 ⟨g, rfl, hg, hb1⟩)
          | (go_at_call 49; refine (h2.out _ _ (by assumption) (by assumption)).mono ?_; rintro e V2 ⟨Ab, cb, rfl, hsb, hb2⟩)
          | (go_at_call 65; refine (h3.out _ _ _ (by assumption) (by assumption)).mono ?_; rintro e V3 ⟨rfl, hb3⟩))
      have hEW := hEV.below hb3
      have hjw := hJ.below hjv hb3
      have hws := hb3.size
      obtain ⟨fn, tmps, assign, body, hy, hR⟩ := hY _ 2 _ V3 (Nat.le_trans hVs hws) (fun b hb => ⟨(hOV b hb).1, Nat.lt_of_lt_of_le (hOV b hb).2 hws⟩) hjw trivial (fun _ h => h.elim)
      clear h1 h2 h3 hE hb3 hdr HSA hEW hjw hEV hjv
      gi_wp2_with fail
      refine hR.mono ?_
      clear hR hy
      rintro e V4 ⟨hk, (⟨rfl, hjz⟩ | ⟨rfl, hjx⟩)⟩
      · gi_wp2_with fail
        go_end0
        exact itEnd.all HL.out.symm hjz
      · gi_wp2_with fail
        go_end0
        exact itEnd.part ⟨[], by rw [HL.out]; rfl⟩ hjx
    · have e2 : decide ((0 : Int) ≤ d2) = false := hd2
      have HL := Lib.hid (show L = [] by rw [HLL, if_pos (of_decide_eq_true hq2)]; rfl)
      clear hd2 HLL
      gi_wp2_with fail
      refine wpIn_wide.2 ?_
      go_region_held3 (fun X => X.cell? ⟨be, 0, none⟩ = some (.int .u64 (k : Int)) ∧ X.cell? ⟨be, 1, none⟩ = some (.int .u32 (at_ : Int)) ∧ X.cell? ⟨be, 2, none⟩ = some (.slice A1 n1 c1) ∧ X.cell? ⟨be, 3, none⟩ = some (.slice A2 n2 c2) ∧ X.cell? ⟨bt, 0, none⟩ = some (.int .i64 (c : Int)) ∧ X.cell? ⟨bt, 1, none⟩ = some (.int .i64 (s : Int)) ∧ X.cell? ⟨bt, 2, none⟩ = some (.int .u32 (n : Int)) ∧ Below V.heap.size V X)
        (first | exact HSA.out _ hdr.out | (exact HSA.out _ (by assumption)) | (go_split_ands; exact HSA.out _ (by assumption)))
        (first
          | (go_at_call 21; refine (h1.out _ (by first | exact hdr.out | assumption)).mono ?_; rintro e V1 ⟨g, rfl, hg, hb1⟩)
          | (go_at_call 49; refine (h2.out _ _ (by assumption) (by assumption)).mono ?_; rintro e V2 ⟨Ab, cb, rfl, hsb, hb2⟩)
          | (go_at_call 65; refine (h3.out _ _ _ (by assumption) (by assumption)).mono ?_; rintro e V3 ⟨rfl, hb3⟩))
      have hjw := hJ.below hjv hb3
      clear h1 h2 h3 hE hb3 hdr HSA hEV hjv
      gi_wp2_with fail
      go_end0
      exact itEnd.all HL.out.symm hjw
end Go.Proofs.YtfmbfojlopibnaaDoor
