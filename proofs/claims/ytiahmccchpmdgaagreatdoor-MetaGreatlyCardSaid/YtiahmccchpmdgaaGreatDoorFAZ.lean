import Derived.Test.YtiahmccchpmdgaaGreatDoorFAK
import Derived.Test.YtiahmccchpmdgaaGreatDoorFAY
import Derived.Test.YtiahmccchpmdgaaGreatDoorFAO
import Derived.Test.YtiahmccchpmdgaaGreatDoorFAA
import Derived.ProofKit
import Derived.OpenShut
import Derived.Deep.DeepHandedRow
import Derived.Test.YtiahmccchpmdgaaGreatDoorCards
import Derived.Test.YtiahmccchpmdgaaGreatDoorTie
import Derived.Test.YtiahmccchpmdgaaGreatDoorFAE
import Derived.Lib.LaidTab
import Derived.SizedLaws
import Derived.Deep.Slices
namespace Go.Proofs.YtiahmccchpmdgaaGreatDoor.Me
open Go.RowKit Go.Shelf
attribute [local go_sem] Oper.semAt_some

/- WHOSE ADDRESS IT IS, PLAINLY. -/
/-- how far an address is ahead, around -/
def ahd (f a : Nat) : Nat := (a + (4294967296 - f)) % 4294967296
def indB (f k m a : Nat) : Bool := decide (ahd f a % k = 0) && isB ((ahd f a / k : Nat) : Int) (m : Int)
theorem isB_nat_iff (x m : Nat) : isB (x : Int) (m : Int) = decide (x < m) := by
  unfold isB
  rw [decide_eq_true (show (0 : Int) ≤ (x : Int) by omega), Bool.true_and]
  exact decide_eq_decide.2 (by omega)
theorem page_of {s c i a : Nat} (h : okS s c i) (e : atS s c i = a) : a < 16777216 ∧ ∃ q, q < 16 ∧ a / 256 = 4096 * s + 4097 + 17 * c + q := by
  obtain ⟨hs, hc, hi⟩ := h
  have hl := off_lt hc hi
  unfold atS at e
  obtain ⟨z, hz⟩ : ∃ z, z = i * (pay c + 32) := ⟨_, rfl⟩
  rw [← hz] at hl e
  exact ⟨by omega, (z + 16) / 256, by omega, by omega⟩
theorem reg_form {n : Nat} (h : Wn.isReg n) : ∃ s c q, s < 4 ∧ c < 8 ∧ q < 16 ∧ n = 4096 * s + 4097 + 17 * c + q := by
  obtain ⟨⟨h1, h2⟩, h3, h4, h5⟩ := h
  exact ⟨n / 4096 - 1, (n % 4096 - 1) / 17, (n % 4096 - 1) % 17, by omega, by omega, by omega, by omega⟩
theorem reg_div {s c q : Nat} (hc : c < 8) (hq : q < 16) : (4096 * s + 4097 + 17 * c + q) / 4096 = s + 1 ∧ (4096 * s + 4097 + 17 * c + q) % 4096 = 1 + 17 * c + q ∧ (17 * c + q) / 17 = c ∧ (17 * c + q) % 17 = q := by
  have hd : (4096 * s + 4097 + 17 * c + q) / 4096 = s + 1 := Nat.div_eq_of_lt_le (by omega) (by omega)
  have hm := Nat.div_add_mod (4096 * s + 4097 + 17 * c + q) 4096
  rw [hd] at hm
  have hd2 : (17 * c + q) / 17 = c := Nat.div_eq_of_lt_le (by omega) (by omega)
  have hm2 := Nat.div_add_mod (17 * c + q) 17
  rw [hd2] at hm2
  exact ⟨hd, by omega, hd2, by omega⟩
theorem reg_is {s c q : Nat} (hs : s < 4) (hc : c < 8) (hq : q < 16) : Wn.isReg (4096 * s + 4097 + 17 * c + q) := by
  obtain ⟨h1, h2, h3, h4⟩ := reg_div (s := s) hc hq
  unfold Wn.isReg
  rw [h2, show 1 + 17 * c + q - 1 = 17 * c + q by omega, h4]
  exact ⟨⟨by omega, by omega⟩, by omega, by omega, by omega⟩
theorem plc_reg {s c q : Nat} (hs : s < 4) (hc : c < 8) (hq : q < 16) : Wn.plc (4096 * s + 4097 + 17 * c + q) = (2, s, c, q) := by
  obtain ⟨h1, h2, h3, h4⟩ := reg_div (s := s) hc hq
  unfold Wn.plc
  rw [if_neg (by unfold Wn.isBook; omega), if_pos (reg_is hs hc hq), h1, h2, show 1 + 17 * c + q - 1 = 17 * c + q by omega, h3, h4, Nat.add_sub_cancel]
theorem plc_kind {n : Nat} (h : ¬ Wn.isReg n) : (Wn.plc n).1 ≠ 2 := by
  unfold Wn.plc
  by_cases hb : Wn.isBook n
  · rw [if_pos hb]
    exact (by decide : (1 : Nat) ≠ 2)
  · rw [if_neg hb, if_neg h]
    by_cases hw : Wn.isWin n
    · rw [if_pos hw]
      by_cases h2 : 256 ≤ n % 4096
      · rw [if_pos h2]
        exact (by decide : (3 : Nat) ≠ 2)
      · rw [if_neg h2]
        exact (by decide : (4 : Nat) ≠ 2)
    · rw [if_neg hw]
      exact (by decide : (0 : Nat) ≠ 2)
theorem plc_lt (n : Nat) (h : n < 65536) : (Wn.plc n).2.1 < 4 ∧ (Wn.plc n).2.2.1 < 8 := by
  by_cases hr : Wn.isReg n
  · obtain ⟨s, c, q, hs, hc, hq, rfl⟩ := reg_form hr
    rw [plc_reg hs hc hq]
    exact ⟨hs, hc⟩
  · unfold Wn.plc
    by_cases hb : Wn.isBook n
    · rw [if_pos hb]
      unfold Wn.isBook at hb
      exact ⟨by show (n - 1) / 64 < 4; omega, (by decide : (0 : Nat) < 8)⟩
    · rw [if_neg hb, if_neg hr]
      by_cases hw : Wn.isWin n
      · rw [if_pos hw]
        unfold Wn.isWin at hw
        by_cases h2 : 256 ≤ n % 4096
        · rw [if_pos h2]
          exact ⟨by show n / 4096 - 1 < 4; omega, (by decide : (0 : Nat) < 8)⟩
        · rw [if_neg h2]
          exact ⟨by show n / 4096 - 1 < 4; omega, (by decide : (0 : Nat) < 8)⟩
      · rw [if_neg hw]
        exact ⟨(by decide : (0 : Nat) < 4), (by decide : (0 : Nat) < 8)⟩
/-- the page that is asked: of an address that there is not, the first -/
def pgN (a : Nat) : Nat := if a < 16777216 then a / 256 else 0
theorem pgN_lt (a : Nat) : pgN a < 65536 := by unfold pgN; split <;> omega
theorem findS_eq (a : Nat) (ha : a < 4294967296) (s c : Nat) (h1 : (Wn.plc (pgN a)).2.1 = s) (h2 : (Wn.plc (pgN a)).2.2.1 = c) :
    findS a = if (Wn.plc (pgN a)).1 = 2 ∧ indB (256 * (4096 * s + 4097 + 17 * c) + 16) (pay c + 32) (cnt c) a = true then some (s, c, ahd (256 * (4096 * s + 4097 + 17 * c) + 16) a / (pay c + 32)) else none := by
  by_cases hr : Wn.isReg (pgN a)
  · obtain ⟨s', c', q, hs, hc, hq, hn⟩ := reg_form hr
    have hp := plc_reg hs hc hq
    rw [← hn] at hp
    rw [hp] at h1 h2
    simp only at h1 h2
    subst h1 h2
    rw [hp]
    have hpb := pay_bound hc
    have hcl := cnt_le hc
    obtain ⟨k, hk⟩ : ∃ k, k = pay c' + 32 := ⟨_, rfl⟩
    obtain ⟨f, hf⟩ : ∃ f, f = 256 * (4096 * s' + 4097 + 17 * c') + 16 := ⟨_, rfl⟩
    rw [← hk, ← hf]
    have ha2 : a < 16777216 ∧ a / 256 = 4096 * s' + 4097 + 17 * c' + q := by
      unfold pgN at hn
      split at hn
      · exact ⟨by assumption, hn⟩
      · omega
    by_cases hi : indB f k (cnt c') a = true
    · rw [if_pos ⟨rfl, hi⟩]
      unfold indB at hi
      rw [isB_nat_iff, Bool.and_eq_true, decide_eq_true_eq, decide_eq_true_eq] at hi
      obtain ⟨i1, i2⟩ := hi
      refine findS_some ⟨hs, hc, i2⟩ ?_
      have hdm := Nat.div_add_mod (ahd f a) k
      have hkk : ahd f a / k * k < 85 * 288 := Nat.lt_of_lt_of_le (Nat.mul_lt_mul_of_pos_right (Nat.lt_of_lt_of_le i2 hcl.2.1) (by omega)) (Nat.mul_le_mul_left 85 (by omega))
      rw [Nat.mul_comm, i1] at hdm
      unfold atS
      rw [← hk]
      obtain ⟨x, hx⟩ : ∃ x, x = ahd f a / k * k := ⟨_, rfl⟩
      rw [← hx] at hdm hkk ⊢
      unfold ahd at hdm
      omega
    · rw [if_neg (fun h => hi h.2)]
      refine findS_none fun s2 c2 i2 h e => hi ?_
      obtain ⟨_, q2, hq2, hp2⟩ := page_of h e
      obtain ⟨h1, h2, h3⟩ := h
      have e0 : 4096 * s' + 4097 + 17 * c' + q = 4096 * s2 + 4097 + 17 * c2 + q2 := ha2.2.symm.trans hp2
      have es : s2 = s' := by
        have d1 := (reg_div (s := s') hc hq).1
        rw [e0, (reg_div (s := s2) h2 hq2).1] at d1
        omega
      subst es
      have ec : c2 = c' := by
        have d1 := (reg_div (s := s2) hc hq).2.2.1
        rw [show 17 * c' + q = 17 * c2 + q2 by omega, (reg_div (s := s2) h2 hq2).2.2.1] at d1
        exact d1
      subst ec
      have hl := off_lt h2 h3
      have ed : ahd f a = i2 * k := by
        unfold atS at e
        rw [← hk] at e hl
        obtain ⟨x, hx⟩ : ∃ x, x = i2 * k := ⟨_, rfl⟩
        rw [← hx] at e hl ⊢
        unfold ahd
        omega
      unfold indB
      rw [ed, isB_nat_iff, Nat.mul_mod_left, Nat.mul_div_cancel _ (by omega)]
      simp [h3]
  · rw [if_neg (fun h => plc_kind hr h.1)]
    refine findS_none fun s2 c2 i2 h e => hr ?_
    obtain ⟨h0, q2, hq2, hp2⟩ := page_of h e
    unfold pgN
    rw [if_pos h0, hp2]
    exact reg_is h.1 h.2.1 hq2
end Go.Proofs.YtiahmccchpmdgaaGreatDoor.Me

namespace Go.Proofs.YtiahmccchpmdgaaGreatDoor.Me
open Go.RowKit Go.Shelf
attribute [local go_sem] Oper.semAt_some

/- WHOSE ADDRESS IT IS. -/
set_option maxRecDepth 100000 in
set_option maxHeartbeats 4000000 in
theorem index_any (f k m a : Nat) (w : World) (hf : f < 4294967296) (hk : 1 ≤ k) (hk2 : k < 1000) : Calls Tryz.prog 50 #[roV (f : Int) (k : Int) (m : Int), .int .u32 (a : Int)] w fun e w' => e = .returned (.tuple #[.int .i64 ((ahd f a / k : Nat) : Int), .bool (indB f k m a)]) ∧ Below w.heap.size w w' := by
  have h1 := Lib.hid (fun W => has_any (f : Int) (k : Int) (m : Int) ((ahd f a / k : Nat) : Int) W)
  have hd : ahd f a < 4294967296 := Nat.mod_lt _ (by omega)
  have e0 : IntKind.u32.wrap ((a : Int) - (f : Int)) = ((ahd f a : Nat) : Int) := by rw [IntKind.wrap_u32]; unfold ahd; omega
  unfold indB
  obtain ⟨d, hdd⟩ : ∃ d, d = ahd f a := ⟨_, rfl⟩
  rw [← hdd] at h1 hd e0 ⊢
  clear hdd
  have e1 : IntKind.i64.wrap (d : Int) = (d : Int) := wrapI _ (by omega) (by omega)
  have q1 : ((d : Int) / (k : Int)) = ((d / k : Nat) : Int) := (Int.natCast_ediv _ _).symm
  have q2 : ((d : Int) % (k : Int)) = ((d % k : Nat) : Int) := (Int.natCast_emod _ _).symm
  have q3 : ((d : Int).tmod (k : Int)) = ((d % k : Nat) : Int) := by
    rw [Int.tmod_eq_emod_of_nonneg (by omega)]
    exact q2
  have b0 : (0 : Int) ≤ (d : Int) := by omega
  have b1 : (d : Int) ≤ 9223372036854775807 := by omega
  have b2 : (1 : Int) ≤ (k : Int) := by omega
  have n0 : ¬ ((k : Int) = 0) := by omega
  have n1 : (((k : Int)) == 0) = false := beq_eq_false_iff_ne.2 n0
  have n2 : ¬ k = 0 := by omega
  have hdk : d / k ≤ d := Nat.div_le_self _ _
  have hmk : d % k ≤ d := Nat.mod_le d k
  obtain ⟨x, hx⟩ : ∃ x, x = d / k := ⟨_, rfl⟩
  rw [← hx] at h1 q1 hdk ⊢
  obtain ⟨y, hy⟩ : ∃ y, y = d % k := ⟨_, rfl⟩
  rw [← hy] at q2 q3 hmk ⊢
  have e2 : IntKind.i64.wrap (x : Int) = (x : Int) := wrapI _ (by omega) (by omega)
  have e3 : IntKind.i64.wrap (y : Int) = (y : Int) := wrapI _ (by omega) (by omega)
  have hz : ∃ z, ((y : Int) == 0) = z ∧ (y == 0) = z ∧ decide (y = 0) = z := by
    by_cases h : y = 0
    · exact ⟨true, by rw [h]; rfl, by rw [h]; rfl, decide_eq_true h⟩
    · exact ⟨false, by rw [beq_eq_false_iff_ne]; omega, by rw [beq_eq_false_iff_ne]; exact h, decide_eq_false h⟩
  obtain ⟨z, hz1, hz3, hz2⟩ := hz
  rw [hz2]
  obtain ⟨b, hb⟩ : ∃ b, b = isB (x : Int) (m : Int) := ⟨_, rfl⟩
  rw [← hb] at h1 ⊢
  have q5 : d / k = x := hx.symm
  have q6 : d % k = y := hy.symm
  clear hx hy hb hz2 hdk hmk hf hk hk2 hd
  have HSS := Lib.hid (fun W (hb : Below (w.heap.size + 1) (w.alloc (.cells #[.int .u32 (f : Int), .int .i64 (k : Int), .int .i64 (m : Int)] 99)) W) => (show Row W w.heap.size 99 [.int .u32 (f : Int), .int .i64 (k : Int), .int .i64 (m : Int)] from (Row.new w _ _).below (by rw [World.size_alloc]; exact hb)))
  have HSC := Lib.hid (fun W (hb : Below (w.heap.size + 1) (w.alloc (.cells #[.int .u32 (f : Int), .int .i64 (k : Int), .int .i64 (m : Int)] 99)) W) => (show W.cell? ⟨w.heap.size, 0, none⟩ = some (.int .u32 (f : Int)) ∧ W.cell? ⟨w.heap.size, 1, none⟩ = some (.int .i64 (k : Int)) ∧ W.cell? ⟨w.heap.size, 2, none⟩ = some (.int .i64 (m : Int)) from ⟨(HSS.out W hb).cell 0, (HSS.out W hb).cell 1, (HSS.out W hb).cell 2⟩))
  have HX := Lib.hid (fun W (hb : Below (w.heap.size + 1) (w.alloc (.cells #[.int .u32 (f : Int), .int .i64 (k : Int), .int .i64 (m : Int)] 99)) W) => (show Below w.heap.size w W from (below1 w _).trans (hb.mono (by omega))))
  have hdr : Below (w.heap.size + 1) (w.alloc (.cells #[.int .u32 (f : Int), .int .i64 (k : Int), .int .i64 (m : Int)] 99)) (w.alloc (.cells #[.int .u32 (f : Int), .int .i64 (k : Int), .int .i64 (m : Int)] 99)).drew := (Below.refl _ _).drew
  cases z
  · rw [show (false && b) = false from by cases b <;> rfl]
    go_enter Tryz.func50, Tryz.ntmps50
    go_wp2_with fail
    refine wp_region_held_drew (S := fun W => W.cell? ⟨w.heap.size, 0, none⟩ = some (.int .u32 (f : Int)) ∧ W.cell? ⟨w.heap.size, 1, none⟩ = some (.int .i64 (k : Int)) ∧ W.cell? ⟨w.heap.size, 2, none⟩ = some (.int .i64 (m : Int))) (by kernel_rfl) (HSC.out _ hdr) (fun hHeld => ?_)
    refine wpAnyH_take (i := 0) (v := ?_) rfl (by kernel_rfl) (by kernel_rfl) (by kernel_rfl) (fun _ _ _ h => h) (Or.inl ⟨by kernel_rfl, ?_⟩) hHeld ?_
    rotate_left
    focus (intro w hSw; (try dsimp only at hSw); go_simp; try with_reducible rfl)
    simp only [Act.put]
    refine wpAnyH_take (i := 1) (v := ?_) rfl (by kernel_rfl) (by kernel_rfl) (by kernel_rfl) (fun _ _ _ h => h) (Or.inl ⟨by kernel_rfl, ?_⟩) hHeld ?_
    rotate_left
    focus (intro w hSw; (try dsimp only at hSw); go_simp; try with_reducible rfl)
    simp only [Act.put]
    refine wpAnyH_take (i := 2) (v := ?_) rfl (by kernel_rfl) (by kernel_rfl) (by kernel_rfl) (fun _ _ _ h => h) (Or.inl ⟨by kernel_rfl, ?_⟩) hHeld ?_
    rotate_left
    focus (intro w hSw; (try dsimp only at hSw); go_simp; try with_reducible rfl)
    simp only [Act.put]
    refine wpAnyH_take (i := 3) (v := ?_) rfl (by kernel_rfl) (by kernel_rfl) (by kernel_rfl) (fun _ _ _ h => h) (Or.inl ⟨by kernel_rfl, ?_⟩) hHeld ?_
    rotate_left
    focus (intro w hSw; (try dsimp only at hSw); go_simp; try with_reducible rfl)
    simp only [Act.put]
    refine wpAnyH_take (i := 4) (v := ?_) rfl (by kernel_rfl) (by kernel_rfl) (by kernel_rfl) (fun _ _ _ h => h) (Or.inl ⟨by kernel_rfl, ?_⟩) hHeld ?_
    rotate_left
    focus (intro w hSw; (try dsimp only at hSw); go_simp; try with_reducible rfl)
    simp only [Act.put]
    refine wpAnyH_take (i := 5) (v := ?_) rfl (by kernel_rfl) (by kernel_rfl) (by kernel_rfl) (fun _ _ _ h => h) (Or.inl ⟨by kernel_rfl, ?_⟩) hHeld ?_
    rotate_left
    focus (intro w hSw; (try dsimp only at hSw); go_simp; try with_reducible rfl)
    simp only [Act.put]
    refine wpAnyH_take (i := 6) (v := ?_) rfl (by kernel_rfl) (by kernel_rfl) (by kernel_rfl) (fun _ _ _ h => h) (Or.inl ⟨by kernel_rfl, ?_⟩) hHeld ?_
    rotate_left
    focus (intro w hSw; (try dsimp only at hSw); go_simp; try with_reducible rfl)
    simp only [Act.put]
    refine wpAnyH_take (i := 7) (v := ?_) rfl (by kernel_rfl) (by kernel_rfl) (by kernel_rfl) (fun _ _ _ h => h) (Or.inl ⟨by kernel_rfl, ?_⟩) hHeld ?_
    rotate_left
    focus (intro w hSw; (try dsimp only at hSw); go_simp; try with_reducible rfl)
    simp only [Act.put]
    refine wpAnyH_take (i := 8) (v := ?_) rfl (by kernel_rfl) (by kernel_rfl) (by kernel_rfl) (fun _ _ _ h => h) (Or.inl ⟨by kernel_rfl, ?_⟩) hHeld ?_
    rotate_left
    focus (intro w hSw; (try dsimp only at hSw); go_simp; try with_reducible rfl)
    simp only [Act.put]
    refine wpAnyH_take (i := 9) (v := ?_) rfl (by kernel_rfl) (by kernel_rfl) (by kernel_rfl) (fun _ _ _ h => h) (Or.inl ⟨by kernel_rfl, ?_⟩) hHeld ?_
    rotate_left
    focus (intro w hSw; (try dsimp only at hSw); go_simp; try with_reducible rfl)
    simp only [Act.put]
    refine wpAnyH_take (i := 10) (v := undef) rfl (by kernel_rfl) (by kernel_rfl) (by kernel_rfl) (fun _ _ _ h => h) (Or.inr ⟨by kernel_rfl, rfl⟩) hHeld ?_
    simp only [Act.put]
    refine wpAnyH_take (i := 11) (v := undef) rfl (by kernel_rfl) (by kernel_rfl) (by kernel_rfl) (fun _ _ _ h => h) (Or.inr ⟨by kernel_rfl, rfl⟩) hHeld ?_
    simp only [Act.put]
    refine wpAnyH_take (i := 12) (v := undef) rfl (by kernel_rfl) (by kernel_rfl) (by kernel_rfl) (fun _ _ _ h => h) (Or.inr ⟨by kernel_rfl, rfl⟩) hHeld ?_
    simp only [Act.put]
    refine wpAnyH_take (i := 13) (v := undef) rfl (by kernel_rfl) (by kernel_rfl) (by kernel_rfl) (fun _ _ _ h => h) (Or.inr ⟨by kernel_rfl, rfl⟩) hHeld ?_
    simp only [Act.put]
    refine wpAnyH_take (i := 14) (v := undef) rfl (by kernel_rfl) (by kernel_rfl) (by kernel_rfl) (fun _ _ _ h => h) (Or.inr ⟨by kernel_rfl, rfl⟩) hHeld ?_
    simp only [Act.put]
    refine wpAnyH_take (i := 15) (v := undef) rfl (by kernel_rfl) (by kernel_rfl) (by kernel_rfl) (fun _ _ _ h => h) (Or.inr ⟨by kernel_rfl, rfl⟩) hHeld ?_
    simp only [Act.put]
    refine wpAnyH_take (i := 16) (v := ?_) rfl (by kernel_rfl) (by kernel_rfl) (by kernel_rfl) (fun _ _ _ h => h) (Or.inl ⟨by kernel_rfl, ?_⟩) hHeld ?_
    rotate_left
    focus (intro w hSw; (try dsimp only at hSw); go_simp; try with_reducible rfl)
    simp only [Act.put]
    refine wpAnyH_ready (rs := [17]) (by kernel_rfl) (by simp) ?_
    refine AllReadyH.cons rfl (fun K hK => ?_) (AllReadyH.nil)
    go_simp
    refine hK.out _ _ (HSC.out _ hdr) (fun hHeld => ?_)
    clear hK K
    try simp only [Act.put]
    refine wpAnyH_ready (rs := [18]) (by kernel_rfl) (by simp) ?_
    refine AllReadyH.cons rfl (fun K hK => ?_) (AllReadyH.nil)
    go_simp
    refine hK.out _ _ (HSC.out _ hdr) (fun hHeld => ?_)
    clear hK K
    try simp only [Act.put]
    refine wpAnyH_done (by kernel_rfl) ?_ _
    go_wp2
    exact bodyPost_ret (v := .tuple #[.int .i64 (x : Int), .bool false]) (by simp [results, Tryz.results50, go_sem]) rfl ⟨rfl, HX.out _ hdr⟩
  · rw [show (true && b) = b from by cases b <;> rfl]
    go_enter Tryz.func50, Tryz.ntmps50
    go_wp2_with fail
    refine wp_region_held_drew (S := fun W => W.cell? ⟨w.heap.size, 0, none⟩ = some (.int .u32 (f : Int)) ∧ W.cell? ⟨w.heap.size, 1, none⟩ = some (.int .i64 (k : Int)) ∧ W.cell? ⟨w.heap.size, 2, none⟩ = some (.int .i64 (m : Int))) (by kernel_rfl) (HSC.out _ hdr) (fun hHeld => ?_)
    refine wpAnyH_take (i := 0) (v := ?_) rfl (by kernel_rfl) (by kernel_rfl) (by kernel_rfl) (fun _ _ _ h => h) (Or.inl ⟨by kernel_rfl, ?_⟩) hHeld ?_
    rotate_left
    focus (intro w hSw; (try dsimp only at hSw); go_simp; try with_reducible rfl)
    simp only [Act.put]
    refine wpAnyH_take (i := 1) (v := ?_) rfl (by kernel_rfl) (by kernel_rfl) (by kernel_rfl) (fun _ _ _ h => h) (Or.inl ⟨by kernel_rfl, ?_⟩) hHeld ?_
    rotate_left
    focus (intro w hSw; (try dsimp only at hSw); go_simp; try with_reducible rfl)
    simp only [Act.put]
    refine wpAnyH_take (i := 2) (v := ?_) rfl (by kernel_rfl) (by kernel_rfl) (by kernel_rfl) (fun _ _ _ h => h) (Or.inl ⟨by kernel_rfl, ?_⟩) hHeld ?_
    rotate_left
    focus (intro w hSw; (try dsimp only at hSw); go_simp; try with_reducible rfl)
    simp only [Act.put]
    refine wpAnyH_take (i := 3) (v := ?_) rfl (by kernel_rfl) (by kernel_rfl) (by kernel_rfl) (fun _ _ _ h => h) (Or.inl ⟨by kernel_rfl, ?_⟩) hHeld ?_
    rotate_left
    focus (intro w hSw; (try dsimp only at hSw); go_simp; try with_reducible rfl)
    simp only [Act.put]
    refine wpAnyH_take (i := 4) (v := ?_) rfl (by kernel_rfl) (by kernel_rfl) (by kernel_rfl) (fun _ _ _ h => h) (Or.inl ⟨by kernel_rfl, ?_⟩) hHeld ?_
    rotate_left
    focus (intro w hSw; (try dsimp only at hSw); go_simp; try with_reducible rfl)
    simp only [Act.put]
    refine wpAnyH_take (i := 5) (v := ?_) rfl (by kernel_rfl) (by kernel_rfl) (by kernel_rfl) (fun _ _ _ h => h) (Or.inl ⟨by kernel_rfl, ?_⟩) hHeld ?_
    rotate_left
    focus (intro w hSw; (try dsimp only at hSw); go_simp; try with_reducible rfl)
    simp only [Act.put]
    refine wpAnyH_take (i := 6) (v := ?_) rfl (by kernel_rfl) (by kernel_rfl) (by kernel_rfl) (fun _ _ _ h => h) (Or.inl ⟨by kernel_rfl, ?_⟩) hHeld ?_
    rotate_left
    focus (intro w hSw; (try dsimp only at hSw); go_simp; try with_reducible rfl)
    simp only [Act.put]
    refine wpAnyH_take (i := 7) (v := ?_) rfl (by kernel_rfl) (by kernel_rfl) (by kernel_rfl) (fun _ _ _ h => h) (Or.inl ⟨by kernel_rfl, ?_⟩) hHeld ?_
    rotate_left
    focus (intro w hSw; (try dsimp only at hSw); go_simp; try with_reducible rfl)
    simp only [Act.put]
    refine wpAnyH_take (i := 8) (v := ?_) rfl (by kernel_rfl) (by kernel_rfl) (by kernel_rfl) (fun _ _ _ h => h) (Or.inl ⟨by kernel_rfl, ?_⟩) hHeld ?_
    rotate_left
    focus (intro w hSw; (try dsimp only at hSw); go_simp; try with_reducible rfl)
    simp only [Act.put]
    refine wpAnyH_take (i := 9) (v := ?_) rfl (by kernel_rfl) (by kernel_rfl) (by kernel_rfl) (fun _ _ _ h => h) (Or.inl ⟨by kernel_rfl, ?_⟩) hHeld ?_
    rotate_left
    focus (intro w hSw; (try dsimp only at hSw); go_simp; try with_reducible rfl)
    simp only [Act.put]
    refine wpAnyH_take (i := 10) (v := ?_) rfl (by kernel_rfl) (by kernel_rfl) (by kernel_rfl) (fun _ _ _ h => h) (Or.inl ⟨by kernel_rfl, ?_⟩) hHeld ?_
    rotate_left
    focus (intro w hSw; (try dsimp only at hSw); go_simp; try with_reducible rfl)
    simp only [Act.put]
    refine wpAnyH_take (i := 11) (v := ?_) rfl (by kernel_rfl) (by kernel_rfl) (by kernel_rfl) (fun _ _ _ h => h) (Or.inl ⟨by kernel_rfl, ?_⟩) hHeld ?_
    rotate_left
    focus (intro w hSw; (try dsimp only at hSw); go_simp; try with_reducible rfl)
    simp only [Act.put]
    refine wpAnyH_take (i := 12) (v := ?_) rfl (by kernel_rfl) (by kernel_rfl) (by kernel_rfl) (fun _ _ _ h => h) (Or.inl ⟨by kernel_rfl, ?_⟩) hHeld ?_
    rotate_left
    focus (intro w hSw; (try dsimp only at hSw); go_simp; try with_reducible rfl)
    simp only [Act.put]
    refine wpAnyH_take (i := 13) (v := ?_) rfl (by kernel_rfl) (by kernel_rfl) (by kernel_rfl) (fun _ _ _ h => h) (Or.inl ⟨by kernel_rfl, ?_⟩) hHeld ?_
    rotate_left
    focus (intro w hSw; (try dsimp only at hSw); go_simp; try with_reducible rfl)
    simp only [Act.put]
    refine wpAnyH_take (i := 14) (v := ?_) rfl (by kernel_rfl) (by kernel_rfl) (by kernel_rfl) (fun _ _ _ h => h) (Or.inl ⟨by kernel_rfl, ?_⟩) hHeld ?_
    rotate_left
    focus (intro w hSw; (try dsimp only at hSw); go_simp; try with_reducible rfl)
    simp only [Act.put]
    refine wpAnyH_ready (rs := [15]) (by kernel_rfl) (by simp) ?_
    refine AllReadyH.cons rfl (fun K hK => ?_) (AllReadyH.nil)
    go_simp
    refine (h1.out _).mono ?_
    rintro e w2 ⟨rfl, hb2⟩
    replace hdr := hdr.trans (hb2.mono (by simp))
    refine hK.out _ _ (HSC.out _ hdr) (fun hHeld => ?_)
    clear hK K
    try simp only [Act.put]
    refine wpAnyH_take (i := 16) (v := ?_) rfl (by kernel_rfl) (by kernel_rfl) (by kernel_rfl) (fun _ _ _ h => h) (Or.inl ⟨by kernel_rfl, ?_⟩) hHeld ?_
    rotate_left
    focus (intro w hSw; (try dsimp only at hSw); go_simp; try with_reducible rfl)
    simp only [Act.put]
    refine wpAnyH_ready (rs := [17]) (by kernel_rfl) (by simp) ?_
    refine AllReadyH.cons rfl (fun K hK => ?_) (AllReadyH.nil)
    go_simp
    refine hK.out _ _ (HSC.out _ hdr) (fun hHeld => ?_)
    clear hK K
    try simp only [Act.put]
    refine wpAnyH_ready (rs := [18]) (by kernel_rfl) (by simp) ?_
    refine AllReadyH.cons rfl (fun K hK => ?_) (AllReadyH.nil)
    go_simp
    refine hK.out _ _ (HSC.out _ hdr) (fun hHeld => ?_)
    clear hK K
    try simp only [Act.put]
    refine wpAnyH_done (by kernel_rfl) ?_ _
    go_wp2
    exact bodyPost_ret (v := .tuple #[.int .i64 (x : Int), .bool b]) (by simp [results, Tryz.results50, go_sem]) rfl ⟨rfl, HX.out _ hdr⟩
end Go.Proofs.YtiahmccchpmdgaaGreatDoor.Me

namespace Go.Proofs.YtiahmccchpmdgaaGreatDoor.Me
open Go.RowKit Go.Shelf
attribute [local go_sem] Oper.semAt_some

/- THE CODE's FIND. -/
theorem split_any (a : Nat) (w : World) (_h : a < 4294967296) : Calls Tryz.prog 48 #[.int .u32 (a : Int)] w fun e w' => ∃ x y : Int, e = .returned (.tuple #[.int .i64 ((pgN a : Nat) : Int), .int .i64 x, .int .i64 y]) ∧ Below w.heap.size w w' := by
  by_cases h : a < 16777216
  · rw [show pgN a = a / 256 from if_pos h]
    exact (Wn.split_yes a w h).mono fun e w' ⟨e1, e2⟩ => ⟨_, _, e1, e2⟩
  · rw [show pgN a = 0 from if_neg h]
    exact (Wn.split_no a w (by omega)).mono fun e w' ⟨e1, e2⟩ => ⟨0, 4, e1, e2⟩
set_option maxRecDepth 100000 in
set_option maxHeartbeats 4000000 in
theorem find_walk (a kd s c q i : Nat) (f k m : Int) (b : Bool) (w : World) (hT : Tabs w)
    (h1 : ∀ W, Calls Tryz.prog 48 #[.int .u32 (a : Int)] W fun e w' => ∃ x y : Int, e = .returned (.tuple #[.int .i64 ((pgN a : Nat) : Int), .int .i64 x, .int .i64 y]) ∧ Below W.heap.size W w')
    (h2 : ∀ W, Calls Tryz.prog 49 #[.int .i64 ((pgN a : Nat) : Int)] W fun e w' => e = .returned (.tuple #[Wn.siV (kd : Int) (s : Int) (c : Int) (q : Int), .int .i64 0]) ∧ Below W.heap.size W w')
    (h3 : ∀ W, Tabs W → Calls Tryz.prog 38 #[.int .i64 (s : Int), .int .i64 (c : Int)] W fun e w' => e = .returned (.tuple #[roV f k m, .bool true]) ∧ Below W.heap.size W w')
    (h4 : ∀ W, Calls Tryz.prog 50 #[roV f k m, .int .u32 (a : Int)] W fun e w' => e = .returned (.tuple #[.int .i64 (i : Int), .bool b]) ∧ Below W.heap.size W w') :
    Calls Tryz.prog 16 #[.int .u32 (a : Int)] w fun e w' => e = .returned (fndV (if kd = 2 ∧ b = true then some (s, c, i) else none)) ∧ Below w.heap.size w w' := by
  obtain ⟨ok, hok⟩ : ∃ ok, ok = decide (kd = 2 ∧ b = true) := ⟨_, rfl⟩
  have hres : (if kd = 2 ∧ b = true then some (s, c, i) else none) = if ok = true then some (s, c, i) else none := by
    rw [hok]
    by_cases h : kd = 2 ∧ b = true
    · rw [if_pos h, if_pos (decide_eq_true h)]
    · rw [if_neg h, if_neg (by rw [decide_eq_false h]; decide)]
  rw [hres]
  clear hres
  obtain ⟨p, hp⟩ : ∃ p, p = pgN a := ⟨_, rfl⟩
  rw [← hp] at h1 h2
  have H1 := Lib.hid h1
  have H2 := Lib.hid h2
  have H3 := Lib.hid h3
  have H4 := Lib.hid h4
  have HT := Lib.hid hT
  have hkd : ∃ x, ((kd : Int) == 2) = x ∧ (kd == 2) = x ∧ ok = (x && b) := by
    by_cases h : kd = 2
    · exact ⟨true, by rw [h]; rfl, by rw [h]; rfl, by rw [hok]; cases b <;> simp [h]⟩
    · exact ⟨false, by rw [beq_eq_false_iff_ne]; omega, by rw [beq_eq_false_iff_ne]; exact h, by rw [hok]; simp [h]⟩
  obtain ⟨x, hx1, hx2, hx3⟩ := hkd
  have HX3 := Lib.hid hx3
  have hx4 : ((kd : Int) != 2) = !x := by rw [bne, hx1]
  have hx5 : (kd != 2) = !x := by rw [bne, hx2]
  clear hp hok h1 h2 h3 h4 hT hx3
  go_enter Tryz.func16, Tryz.ntmps16
  go_wp2_with fail
  refine wp_scope_jump 1 fun R hR hJm => ?_
  go_wp2_with fail
  refine (H1.out _).mono ?_
  rintro e w1 ⟨x1, y1, rfl, hb1⟩
  have HB1 := Lib.hid ((below1 w (.cells #[.int .i64 0, .int .i64 0, .int .i64 0] 37)).trans (hb1.mono (by simp)))
  have HR1 := Lib.hid ((Row.new w 37 [.int .i64 0, .int .i64 0, .int .i64 0]).below hb1)
  clear hb1 H1
  go_wp2_with fail
  refine (H2.out _).mono ?_
  rintro e w2 ⟨rfl, hb2⟩
  have HB2 := Lib.hid (below0 HB1.out hb2)
  have HR2 := Lib.hid (HR1.out.below hb2)
  clear hb2 H2 HB1 HR1
  simp only [Wn.siV]
  obtain ⟨W2, hW2⟩ : ∃ W2, W2 = w2.alloc (.cells #[.int .i64 (kd : Int), .int .i64 (s : Int), .int .i64 (c : Int), .int .i64 (q : Int)] 111) := ⟨_, rfl⟩
  have hl2 := HR2.out.lt
  have hs2 : Row W2 w2.heap.size 111 [.int .i64 (kd : Int), .int .i64 (s : Int), .int .i64 (c : Int), .int .i64 (q : Int)] := by rw [hW2]; exact Row.new _ _ _
  have HB3 := Lib.hid (show Below w.heap.size w W2 by rw [hW2]; exact HB2.out.alloc HB2.out.size _)
  have HR3 := Lib.hid (show Row W2 w.heap.size 37 [.int .i64 0, .int .i64 0, .int .i64 0] by rw [hW2]; exact HR2.out.below (below1 _ _))
  have HWE := Lib.hid hW2
  have HSE := Lib.hid (show w2.heap.size < W2.heap.size by rw [hW2]; simp)
  have HLT := Lib.hid hl2
  obtain ⟨g, hg⟩ : ∃ g, g = w2.heap.size := ⟨_, rfl⟩
  have HG := Lib.hid hg
  rw [← hg] at hs2
  have HS2 := Lib.hid hs2
  clear hW2 hs2 hl2 hg HB2 HR2
  go_wp2_with fail
  rw [← HWE.out, ← HG.out]
  refine (H3.out _ (HT.out.below HB3.out)).mono ?_
  rintro e w3 ⟨rfl, hb3⟩
  have HB4 := Lib.hid (below0 HB3.out hb3)
  have HR4 := Lib.hid (HR3.out.below hb3)
  have HS4 := Lib.hid (HS2.out.below hb3)
  clear hb3 H3 HB3 HR3 HS2 HWE HG HSE HLT
  go_wp2_with fail
  refine (H4.out _).mono ?_
  rintro e w4 ⟨rfl, hb4⟩
  have hba : Below w3.heap.size w3 w4 := (below1 _ _).trans (hb4.mono (by simp))
  have HB := Lib.hid (below0 HB4.out hba)
  have r1 := HR4.out.below hba
  have st1 := HS4.out.below hba
  have HR := Lib.hid r1
  have s0 : World.cell? w4 ⟨g, 0, none⟩ = _ := st1.cell 0
  have s1 : World.cell? w4 ⟨g, 1, none⟩ = _ := st1.cell 1
  have s2 : World.cell? w4 ⟨g, 2, none⟩ = _ := st1.cell 2
  have s3 : World.cell? w4 ⟨g, 3, none⟩ = _ := st1.cell 3
  have c0 : World.cell? w4 ⟨w.heap.size, 0, none⟩ = _ := r1.cell 0
  have c1 : World.cell? w4 ⟨w.heap.size, 1, none⟩ = _ := r1.cell 1
  have c2 : World.cell? w4 ⟨w.heap.size, 2, none⟩ = _ := r1.cell 2
  have f0 := r1.frozen 0
  have f1 := r1.frozen 1
  have f2 := r1.frozen 2
  clear r1 st1 hb4 hba H4 HB4 HR4 HS4
  cases x
  · go_wp2_with fail
    refine wp_goto (hJm.out _ _ _ _ _ rfl ?_)
    go_wp2
    refine hR.out _ _ _ _ (by simp) ?_
    have hok := HX3.out
    subst hok
    have R8 := row_set3 (.int .i64 0) (.int .i64 0) (.int .i64 0) HR.out
    have B8 := below_set3 (b := w.heap.size) (.int .i64 0) (.int .i64 0) (.int .i64 0) HB.out (Nat.le_refl _)
    clear s0 s1 s2 s3 c0 c1 c2 f0 f1 f2
    have d0 : World.cell? _ ⟨w.heap.size, 0, none⟩ = _ := R8.cell 0
    have d1 : World.cell? _ ⟨w.heap.size, 1, none⟩ = _ := R8.cell 1
    have d2 : World.cell? _ ⟨w.heap.size, 2, none⟩ = _ := R8.cell 2
    exact bodyPost_ret (v := .tuple #[.agg #[.int .i64 0, .int .i64 0, .int .i64 0], .int .i64 250]) (by simp [results, Tryz.results16, go_sem, d0, d1, d2]) rfl ⟨rfl, B8⟩
  · cases b
    · go_wp2_with fail
      refine wp_goto (hJm.out _ _ _ _ _ rfl ?_)
      go_wp2
      refine hR.out _ _ _ _ (by simp) ?_
      have hok := HX3.out
      subst hok
      have R8 := row_set3 (.int .i64 0) (.int .i64 0) (.int .i64 0) HR.out
      have B8 := below_set3 (b := w.heap.size) (.int .i64 0) (.int .i64 0) (.int .i64 0) HB.out (Nat.le_refl _)
      clear s0 s1 s2 s3 c0 c1 c2 f0 f1 f2
      have d0 : World.cell? _ ⟨w.heap.size, 0, none⟩ = _ := R8.cell 0
      have d1 : World.cell? _ ⟨w.heap.size, 1, none⟩ = _ := R8.cell 1
      have d2 : World.cell? _ ⟨w.heap.size, 2, none⟩ = _ := R8.cell 2
      exact bodyPost_ret (v := .tuple #[.agg #[.int .i64 0, .int .i64 0, .int .i64 0], .int .i64 250]) (by simp [results, Tryz.results16, go_sem, d0, d1, d2]) rfl ⟨rfl, B8⟩
    · go_wp2
      refine hR.out _ _ _ _ (by simp) ?_
      have hok := HX3.out
      subst hok
      have R8 := row_set3 (.int .i64 (s : Int)) (.int .i64 (c : Int)) (.int .i64 (i : Int)) HR.out
      have B8 := below_set3 (b := w.heap.size) (.int .i64 (s : Int)) (.int .i64 (c : Int)) (.int .i64 (i : Int)) HB.out (Nat.le_refl _)
      clear s0 s1 s2 s3 c0 c1 c2 f0 f1 f2
      have d0 : World.cell? _ ⟨w.heap.size, 0, none⟩ = _ := R8.cell 0
      have d1 : World.cell? _ ⟨w.heap.size, 1, none⟩ = _ := R8.cell 1
      have d2 : World.cell? _ ⟨w.heap.size, 2, none⟩ = _ := R8.cell 2
      exact bodyPost_ret (v := .tuple #[.agg #[.int .i64 (s : Int), .int .i64 (c : Int), .int .i64 (i : Int)], .int .i64 0]) (by simp [results, Tryz.results16, go_sem, d0, d1, d2]) rfl ⟨rfl, B8⟩
theorem find_any (a : Nat) (w : World) (hT : Tabs w) (ha : a < 4294967296) : Calls Tryz.prog 16 #[.int .u32 (a : Int)] w fun e w' => e = .returned (fndV (findS a)) ∧ Below w.heap.size w w' := by
  obtain ⟨hs, hc⟩ := plc_lt (pgN a) (pgN_lt a)
  have hE := findS_eq a ha _ _ rfl rfl
  rw [hE]
  have hpb := pay_bound hc
  refine find_walk a _ _ _ (Wn.plc (pgN a)).2.2.2 _ _ _ _ _ w hT (fun W => split_any a W ha) (fun W => Wn.of_yes (pgN a) W (pgN_lt a)) (fun W hW => payloads_yes _ _ W hW hs hc) (fun W => index_any _ _ _ a W (by omega) (by omega) (by omega))
end Go.Proofs.YtiahmccchpmdgaaGreatDoor.Me

namespace Go.Proofs.YtiahmccchpmdgaaGreatDoor.Me
open Go.RowKit Go.Shelf

/- THE CODE's BOOKS KEEP WHAT THE LAWS ASK OF BOOKS, LESS THE STATES OF A CLASS. -/
theorem mbase : MBase Tabs HasM where
  tb := Tabs.below
  keep := HasM.keep
  lt := HasM.lt
  ptr := HasM.ptr
  atYes := at_yes
  atNo := at_no
  find := fun a w hT ha => find_any a w hT ha
  new1 := fun w _ => m_new1 w
  mem := fun w _ => m_mem w
  openYes := fun s _ h hE => open_yes h s hE
  openNo := fun s _ h hE => open_no h s hE
  closeYes := fun s _ h hE => close_yes h s hE
  closeNo := fun s _ h hE => close_no h s hE
  getYes := fun s c i hT h hok hf hr => m_getYes s c i hT h hok hf hr
  getBad := fun s c i hT h hok hf hr => m_getBad s c i hT h hok hf hr
  getNo := fun s c i hT h hE => m_getNo s c i hT h hE
  putYes := fun s c i st sz no hT h hok h4 h6 h7 hf => m_putYes s c i st sz no hT h hok h4 h6 h7 hf
  putNo := fun s c i st sz no hT h hno hE => m_putNo s c i st sz no hT h hno hE
  ggetYes := fun s i hT h hs hi hf hr => m_ggetYes s i hT h hs hi hf hr
  ggetBad := fun s i hT h hs hi hf hr => m_ggetBad s i hT h hs hi hf hr
  ggetNo := fun s i _ h hE => m_ggetNo s i h hE
  gputYes := fun s i st pg sz fi hT h hs hi hg hf => m_gputYes s i st pg sz fi hT h hs hi hg hf
  gputNo := fun s i st pg sz fi _ h hE => m_gputNo s i st pg sz fi h hE
  poke := fun s o bs A ca _ h hs hf ho h1 hca _ hA hF => m_poke s o bs A ca h hs hf ho h1 hca hA hF
  load := fun s o owner _ h hs hw hf ho => m_load s o owner h hs hw hf ho
  store := fun s o owner A ca _ h hs hw hf ho _ => m_store s o owner A ca h hs hw hf ho
  nGet := fun w hT => m_nget 0 0 0 hT
  nGget := fun w _ => m_nGget 0 0
  nOpen := fun w _ => open_nil 0 0 w
  nClose := fun w _ => close_nil 0 w
  nPut := fun w hT => m_nput 0 0 0 0 0 0 (by omega) hT
  nGput := fun w _ => m_nGput 0 0 0 0 0 0
end Go.Proofs.YtiahmccchpmdgaaGreatDoor.Me

namespace Go.Proofs.YtiahmccchpmdgaaGreatDoor
open Go.ChangeShapes Go.WideShapes Go.ChangeAt Go.RowKit

section
variable {H : Type} {enc : TypeId × Value → H} {P : Program}
/-- all arguments read behind the call as they did -/
theorem below_trodAll (hl : laidOutB P = true) {W W' : World} (hb : Below W.heap.size W W') : ∀ {ts : List TypeId} {vs : List Value} {ds : List (DataW H)} {ps : List MemPlace},
    (∀ t ∈ ts, P.readableRec t = true ∧ t < P.types.size) → DataW.TrodAll enc P W 0 (fun _ => true) true ts vs ds ps → (∀ x ∈ ps, x.block < W.heap.size) →
    DataW.TrodAll enc P W' 0 (fun b => decide (b < W.heap.size)) true ts vs ds ps
  | [], [], [], _, _, h, _ => h
  | t :: ts, v :: vs, d :: ds, ps, hr, h, hlt => by
    obtain ⟨p, q, h1, h2, rfl⟩ := h
    obtain ⟨hr1, hr2⟩ := hr t (by simp)
    exact ⟨p, q, Below.trod hl hr1 hr2 h1 hb (fun x hx => hlt x (by simp [hx])), below_trodAll hl hb (fun t ht => hr t (by simp [ht])) h2 (fun x hx => hlt x (by simp [hx])), rfl⟩
  | [], [], _ :: _, _, _, h, _ => h.elim
  | [], _ :: _, _, _, _, h, _ => h.elim
  | _ :: _, [], _, _, _, h, _ => h.elim
  | _ :: _, _ :: _, [], _, _, h, _ => h.elim

/-- what a law's row asks behind the call: true, and what there was lies as it lay -/
theorem law_post {f : Func} {s : ChangeSpec} {W W' : World} {args : Array Value} {ds gs : List (DataW H)} {before : List MemPlace} {tb : TypeId}
    (hl : laidOutB P = true) (hp : (f.params.toList.all fun t => P.readableRec t && decide (t < P.types.size)) = true) (hv : s.vars = [])
    (hs : s.fn H ds = { results := [.lit (.bool true)], args := ds }) (hr : f.resultTypes = #[tb]) (hb : P.underlying tb = some .bool)
    (hW : DataW.Whole enc P f.params.toList s.vars false W args.toList ds gs before) (hB : Below W.heap.size W W') :
    s.post enc P f false true false false W args (.bool true) W' := by
  have hW' := hW
  obtain ⟨p, q, hA, hV, rfl, _, _⟩ := hW
  rw [hv] at hV
  have hg : gs = [] ∧ q = [] := by
    cases gs with
    | nil => exact ⟨rfl, hV⟩
    | cons g gs => exact hV.elim
  obtain ⟨rfl, rfl⟩ := hg
  refine ⟨ds, [], p ++ [], [], p, [], hW', ?_, ?_, ?_, hB.frame _, fun h => by cases h⟩
  · rw [List.append_nil, hs, hr]
    exact trodAll_mk1 (shut_bool hb true)
  · rw [List.append_nil, hs]
    exact below_trodAll hl hB (fun t ht => by have := List.all_eq_true.1 hp t ht; simpa using this) hA (fun x hx => hW'.lt x (by simp [hx]))
  · rw [List.append_nil, hs, hv]
    rfl
end

end Go.Proofs.YtiahmccchpmdgaaGreatDoor

namespace Go.Proofs.YtiahmccchpmdgaaGreatDoor
open Go.ChangeShapes Go.WideShapes Go.ChangeAt Go.RowKit

/- THE FRAME OF ROWS THAT LIST THE TABLES OF SIZE AND OF WORD. -/
theorem laidOut : laidOutB Tryz.prog = true := by kernel_rfl
theorem ownKnob_none : ownKnob Tryz.prog.godebug = none := by kernel_rfl
theorem gPayType : (Tryz.prog.globals[0]?).map (·.type) = some 338 := by kernel_rfl
theorem gPay : Tryz.prog.globalNamed "pinfold/size.payloads" = some 0 := by kernel_rfl
theorem cellsPay : Tryz.prog.cellsOf 338 = 8 := by kernel_rfl
theorem cellsInt : Tryz.prog.cellsOf 3 = 1 := by kernel_rfl
theorem gWidType : (Tryz.prog.globals[1]?).map (·.type) = some 339 := by kernel_rfl
theorem gWid : Tryz.prog.globalNamed "pinfold/word.widths" = some 1 := by kernel_rfl
theorem cellsWid : Tryz.prog.cellsOf 339 = 4 := by kernel_rfl
theorem cellsWd : Tryz.prog.cellsOf 329 = 1 := by kernel_rfl
/-- a block's cells are laid -/
def layCells (h : Array Obj) (g : Nat) (cs : Array Value) : Array Obj := h.modify g fun
  | .cells _ t frozen => .cells cs t frozen
  | o => o
/-- the settled world, the tables as their initialisers lay them -/
noncomputable def laidWorld (os : Os) : World :=
  { World.holding Tryz.prog os ⟨#[], #[], []⟩ with heap := layCells (layCells (World.holding Tryz.prog os ⟨#[], #[], []⟩).heap 0 Sz.payCells) 1 #[.int .i64 1, .int .i64 2, .int .i64 4, .int .i64 8] }
abbrev Tab (w : World) : Prop := Me.Tabs w
theorem tab_of {W : World} (h : laidMetH Tryz.prog [("pinfold/size.payloads", Rows.laid_pinfold_size_payloads), ("pinfold/word.widths", Rows.laid_pinfold_word_widths)] W) : Me.Tabs W := by
  refine ⟨Sz.Tab.of (Lib.tabIs_of_head (rest := [("pinfold/word.widths", Rows.laid_pinfold_word_widths)]) gPay gPayType Tryz.underlying338 Tryz.underlying3 cellsInt cellsPay h), Wo.Tab.of ?_⟩
  have h : laidMet Tryz.prog [("pinfold/size.payloads", Rows.laid_pinfold_size_payloads), ("pinfold/word.widths", Rows.laid_pinfold_word_widths)] W := h
  obtain ⟨ps, ⟨g, t, cs, fuel, p, q, hg, ht, hv, hd, ⟨g2, t2, cs2, fuel2, p2, q2, hg2, ht2, hv2, hd2, _, _⟩, _⟩, _⟩ := h
  obtain rfl := Option.some.inj (gWid.symm.trans hg2)
  obtain rfl := Option.some.inj (gWidType.symm.trans ht2)
  unfold Lib.TabIs
  rw [hv2, ← Lib.cells_of_tab (zs := [1, 2, 4, 8]) Tryz.underlying339 Tryz.underlying329 cellsWd cellsWid hd2]
end Go.Proofs.YtiahmccchpmdgaaGreatDoor

namespace Go.Proofs.YtiahmccchpmdgaaGreatDoor
open Go.ChangeShapes Go.WideShapes Go.ChangeAt Go.RowKit

theorem u8_of {n : Int} (h : (Lit.int .u8 n).wf = true) : ((UInt8.ofNat n.toNat).toNat : Int) = n := by
  have hb := bounds_u8 h
  simp
  omega

section
variable {H : Type} {enc : TypeId × Value → H} {P : Program} {w : World} {base : Nat} {spare : Nat → Bool} {held : Bool}
end
end Go.Proofs.YtiahmccchpmdgaaGreatDoor

namespace Go.Proofs.YtiahmccchpmdgaaGreatDoor
open Go.ChangeShapes Go.WideShapes Go.ChangeAt Go.RowKit Go.Deep

/- PARAMETERS OF PLAIN TYPES (bool, numbers, structs and arrays of such), BY VALUE OR AS A SLICE'S ELEMENTS, OPENED BY THE TYPE'S SHAPE. -/

/-- what a plain cell holds -/
abbrev Sc := Option IntKind
/-- a truth, or a number of a kind -/
def fitsCell : Sc → Value → Prop
  | none, v => ∃ b, v = .bool b
  | some k, v => ∃ n, v = .int k n ∧ (Lit.int k n).wf = true
def FitsAll : List Sc → List Value → Prop
  | [], vs => vs = []
  | s :: ss, vs => ∃ v r, vs = v :: r ∧ fitsCell s v ∧ FitsAll ss r
theorem FitsAll.append : ∀ {a b : List Sc} {u v : List Value}, FitsAll a u → FitsAll b v → FitsAll (a ++ b) (u ++ v)
  | [], _, _, _, h, k => by rw [show _ = [] from h]; exact k
  | _ :: _, _, _, _, ⟨x, r, e, h1, h2⟩, k => ⟨x, r ++ _, by rw [e]; rfl, h1, h2.append k⟩
theorem FitsAll.length : ∀ {a : List Sc} {u : List Value}, FitsAll a u → u.length = a.length
  | [], _, h => by rw [show _ = [] from h]; rfl
  | _ :: _, _, ⟨x, r, e, _, h2⟩ => by rw [e, List.length_cons, List.length_cons, h2.length]

/-- the kinds of a plain type's cells -/
def shape (P : Program) : Nat → TypeId → Option (List Sc)
  | 0, _ => none
  | m + 1, t => match P.underlying t with
    | some .bool => some [none]
    | some (.int k) => some [some k]
    | some (.struct fs) => (fs.toList.foldr (fun f r => (shape P m f.type).bind fun ss => r.bind fun l => if ss.length = P.cellsOf f.type ∧ f.offset + ss.length + l.length = P.cellsOf t then some (ss ++ l) else none) (some [])).bind fun ss => if ss.length = P.cellsOf t then some ss else none
    | some (.array n e) => (shape P m e).bind fun ss => if ss.length = P.cellsOf e ∧ n * P.cellsOf e = P.cellsOf t then some (List.replicate n ss).flatten else none
    | _ => none

section
variable {H : Type} {enc : TypeId × Value → H} {P : Program} {w : World} {base : Nat} {sp : Nat → Bool} {held : Bool}

theorem fields_plain {m n C : Nat} {cs : List Value} (ih : ∀ t ss, shape P m t = some ss → ∀ fuel cs x, DataW.trod enc P w base sp held fuel t cs = some x → FitsAll ss cs ∧ x.2 = []) (hC : cs.length = C) :
    ∀ (fs : List Field) (xs : List (DataW H × List MemPlace)) (ss : List Sc), xs.length = fs.length →
      (fs.foldr (fun f r => (shape P m f.type).bind fun ss => r.bind fun l => if ss.length = P.cellsOf f.type ∧ f.offset + ss.length + l.length = C then some (ss ++ l) else none) (some [])) = some ss →
      (∀ (i : Nat) (f : Field), fs[i]? = some f → DataW.trod enc P w base sp held n f.type ((cs.drop f.offset).take (P.cellsOf f.type)) = xs[i]?) →
      FitsAll ss (cs.drop (C - ss.length)) ∧ ss.length ≤ C ∧ xs.flatMap (·.2) = []
  | [], [], ss, _, h, _ => by
    simp only [List.foldr_nil, Option.some.injEq] at h
    subst h
    exact ⟨by show _ = []; simp [hC], by simp, rfl⟩
  | f :: fs, x :: xs, ss, hl, h, hf => by
    simp only [List.foldr_cons, Option.bind_eq_some_iff] at h
    obtain ⟨s0, hs0, l, hl0, h⟩ := h
    split at h
    · rename_i hc
      injection h with h
      subst h
      obtain ⟨h1, h2, h3⟩ := fields_plain ih hC fs xs l (by simpa using hl) hl0 (fun i g hg => by simpa using hf (i + 1) g (by simpa using hg))
      have h0 := hf 0 f rfl
      obtain ⟨g1, g2⟩ := ih _ _ hs0 _ _ _ h0
      refine ⟨?_, by rw [List.length_append]; omega, by rw [List.flatMap_cons, g2, h3]; rfl⟩
      have e1 : C - (s0 ++ l).length = f.offset := by rw [List.length_append]; omega
      rw [e1]
      have e2 : cs.drop f.offset = (cs.drop f.offset).take (P.cellsOf f.type) ++ cs.drop (C - l.length) := by
        conv => lhs; rw [← List.take_append_drop (P.cellsOf f.type) (cs.drop f.offset)]
        rw [List.drop_drop]
        congr 2
        omega
      rw [e2]
      exact g1.append h1
    · cases h
  | [], _ :: _, _, hl, _, _ => by simp at hl
  | _ :: _, [], _, hl, _, _ => by simp at hl

theorem array_plain {c : Nat} {ss : List Sc} {cs : List Value} (hc : ss.length = c) : ∀ (n : Nat), (∀ i, i < n → FitsAll ss ((cs.drop (i * c)).take c)) → FitsAll (List.replicate n ss).flatten (cs.take (n * c))
  | 0, _ => by show _ = []; simp
  | n + 1, h => by
    rw [List.replicate_succ', List.flatten_append, Nat.add_mul, Nat.one_mul, List.take_add]
    refine (array_plain hc n fun i hi => h i (by omega)).append ?_
    simpa using h n (by omega)

theorem trod_plain : ∀ (m : Nat) (t : TypeId) (ss : List Sc), shape P m t = some ss → ∀ (fuel : Nat) (cs : List Value) (x : DataW H × List MemPlace), DataW.trod enc P w base sp held fuel t cs = some x → FitsAll ss cs ∧ x.2 = []
  | 0, _, _, h => by simp [shape] at h
  | m + 1, t, ss, h => by
    intro fuel cs x hx
    unfold shape at h
    split at h
    · rename_i ht
      injection h with h
      subst h
      obtain ⟨b, rfl, rfl⟩ := DataW.trod_bool ht hx
      exact ⟨⟨_, _, rfl, ⟨b, rfl⟩, rfl⟩, rfl⟩
    · rename_i k ht
      injection h with h
      subst h
      obtain ⟨b, rfl, rfl, hw⟩ := DataW.trod_int ht hx
      exact ⟨⟨_, _, rfl, ⟨b, rfl, hw⟩, rfl⟩, rfl⟩
    · rename_i fs ht
      obtain ⟨xs, n, _, rfl, hl, hxl, hf⟩ := DataW.trod_struct ht hx
      simp only [Option.bind_eq_some_iff] at h
      obtain ⟨s0, h, h'⟩ := h
      split at h'
      · rename_i hc
        injection h' with h'
        subst h'
        obtain ⟨h1, h2, h3⟩ := fields_plain (trod_plain m) hl fs.toList xs s0 (by simpa using hxl) h (fun i f hi => hf i f (by simpa using hi))
        refine ⟨?_, h3⟩
        rw [hc, Nat.sub_self, List.drop_zero] at h1
        exact h1
      · cases h'
    · rename_i k e ht
      obtain ⟨xs, n, _, rfl, hl, hxl, hf⟩ := DataW.trod_array ht hx
      simp only [Option.bind_eq_some_iff] at h
      obtain ⟨s0, h, h'⟩ := h
      split at h'
      · rename_i hc
        injection h' with h'
        subst h'
        have hi : ∀ i, i < k → FitsAll s0 ((cs.drop (i * P.cellsOf e)).take (P.cellsOf e)) ∧ ∀ y, xs[i]? = some y → y.2 = [] := fun i hi => by
          have h1 := hf i hi
          rw [List.getElem?_eq_getElem (by omega)] at h1
          obtain ⟨g1, g2⟩ := trod_plain m e s0 h _ _ _ h1
          refine ⟨g1, fun y hy => ?_⟩
          rw [List.getElem?_eq_getElem (by omega)] at hy
          injection hy with hy
          rw [← hy]; exact g2
        refine ⟨?_, ?_⟩
        · have h1 := array_plain hc.1 k fun i hlt => (hi i hlt).1
          rw [hc.2, ← hl, List.take_length] at h1
          exact h1
        · show xs.flatMap (·.2) = []
          rw [List.flatMap_eq_nil_iff]
          intro y hy
          obtain ⟨i, hi', rfl⟩ := List.mem_iff_getElem.1 hy
          exact (hi i (by omega)).2 _ (List.getElem?_eq_getElem hi')
      · cases h'
    · cases h

/-- a struct or an array of plain fields that came in by value -/
theorem open_plain {m : Nat} {t : TypeId} {ss : List Sc} {r : Reach} {b0 : Nat} {v : Value} {d : DataW H} {p : List MemPlace} (hs : shape P m t = some ss)
    (hu : (match P.underlying t with | some (.struct _) => true | some (.array _ _) => true | _ => false) = true)
    (hval : Value.okWide P w r b0 t v) (hd : DataW.Trod enc P w base sp held t v d p) : ∃ vs, v = .agg vs.toArray ∧ FitsAll ss vs ∧ p = [] := by
  obtain ⟨fuel, hf⟩ := hd
  have hv : ∃ cs, v = .agg cs := by
    unfold Value.okWide at hval
    split at hval
    · obtain ⟨cs, h, _⟩ := hval; exact ⟨cs, h⟩
    · obtain ⟨cs, h, _⟩ := hval; exact ⟨cs, h⟩
    · split at hu <;> simp_all
  obtain ⟨cs, rfl⟩ := hv
  obtain ⟨h1, h2⟩ := trod_plain m t ss hs fuel _ _ hf
  exact ⟨cs.toList, by simp, by simpa [Value.cells] using h1, h2⟩

end

end Go.Proofs.YtiahmccchpmdgaaGreatDoor

namespace Go.Proofs.YtiahmccchpmdgaaGreatDoor.Me
open Go.ChangeShapes Go.WideShapes Go.ChangeAt Go.RowKit

/- WHAT CAME IN: SPOTS, RECORDS, BYTES, CALLS. -/
abbrev spotSs : List Sc := [some .i64, some .i64, some .i64]
abbrev recSs : List Sc := [some .i64, some .i64, some .u32]
abbrev greatSs : List Sc := [some .i64, some .i64, some .i64, some .i64]
theorem u8_of {z : Int} (h : (Lit.int .u8 z).wf = true) : ∃ x : UInt8, Value.int .u8 z = u8V x := by
  have hb := bounds_u8 h
  refine ⟨UInt8.ofNat z.toNat, ?_⟩
  have e : (UInt8.ofNat z.toNat).toNat = z.toNat := by rw [UInt8.toNat_ofNat']; omega
  show Value.int .u8 z = Value.int .u8 ((UInt8.ofNat z.toNat).toNat : Int)
  rw [e]
  congr 1
  omega
theorem spot_of {V : List Value} (h : FitsAll spotSs V) : ∃ s c i : Int, V = [.int .i64 s, .int .i64 c, .int .i64 i] := by
  obtain ⟨_, r0, rfl, ⟨z0, rfl, w0⟩, _, r1, rfl, ⟨z1, rfl, w1⟩, _, r2, rfl, ⟨z2, rfl, w2⟩, he⟩ := h
  obtain rfl := he
  exact ⟨z0, z1, z2, rfl⟩
theorem spots_of {V : List Value} (h : FitsAll (spotSs ++ spotSs) V) : ∃ a b c d e f : Int, V = [.int .i64 a, .int .i64 b, .int .i64 c, .int .i64 d, .int .i64 e, .int .i64 f] := by
  obtain ⟨_, r0, rfl, ⟨z0, rfl, w0⟩, _, r1, rfl, ⟨z1, rfl, w1⟩, _, r2, rfl, ⟨z2, rfl, w2⟩, _, r3, rfl, ⟨z3, rfl, w3⟩, _, r4, rfl, ⟨z4, rfl, w4⟩, _, r5, rfl, ⟨z5, rfl, w5⟩, he⟩ := h
  obtain rfl := he
  exact ⟨z0, z1, z2, z3, z4, z5, rfl⟩
theorem recs_of {V : List Value} (h : FitsAll (recSs ++ recSs) V) : ∃ (a b : Int) (n : Nat) (c d : Int) (m : Nat), n < 4294967296 ∧ m < 4294967296 ∧ V = [.int .i64 a, .int .i64 b, .int .u32 (n : Int), .int .i64 c, .int .i64 d, .int .u32 (m : Int)] := by
  obtain ⟨_, r0, rfl, ⟨z0, rfl, w0⟩, _, r1, rfl, ⟨z1, rfl, w1⟩, _, r2, rfl, ⟨z2, rfl, w2⟩, _, r3, rfl, ⟨z3, rfl, w3⟩, _, r4, rfl, ⟨z4, rfl, w4⟩, _, r5, rfl, ⟨z5, rfl, w5⟩, he⟩ := h
  obtain rfl := he
  have b2 := bounds_u32 w2
  have b5 := bounds_u32 w5
  obtain ⟨n, rfl⟩ : ∃ n : Nat, z2 = n := ⟨z2.toNat, by omega⟩
  obtain ⟨m, rfl⟩ : ∃ m : Nat, z5 = m := ⟨z5.toNat, by omega⟩
  exact ⟨z0, z1, n, z3, z4, m, by omega, by omega, rfl⟩
theorem great_of {V : List Value} (h : FitsAll greatSs V) : ∃ a b c d : Int, V = [.int .i64 a, .int .i64 b, .int .i64 c, .int .i64 d] := by
  obtain ⟨_, r0, rfl, ⟨z0, rfl, w0⟩, _, r1, rfl, ⟨z1, rfl, w1⟩, _, r2, rfl, ⟨z2, rfl, w2⟩, _, r3, rfl, ⟨z3, rfl, w3⟩, he⟩ := h
  obtain rfl := he
  exact ⟨z0, z1, z2, z3, rfl⟩
theorem by8_of {V : List Value} (h : FitsAll [some .u8, some .u8, some .u8, some .u8, some .u8, some .u8, some .u8, some .u8] V) : ∃ x0 x1 x2 x3 x4 x5 x6 x7 : UInt8, V = [u8V x0, u8V x1, u8V x2, u8V x3, u8V x4, u8V x5, u8V x6, u8V x7] := by
  obtain ⟨_, r0, rfl, ⟨z0, rfl, w0⟩, _, r1, rfl, ⟨z1, rfl, w1⟩, _, r2, rfl, ⟨z2, rfl, w2⟩, _, r3, rfl, ⟨z3, rfl, w3⟩, _, r4, rfl, ⟨z4, rfl, w4⟩, _, r5, rfl, ⟨z5, rfl, w5⟩, _, r6, rfl, ⟨z6, rfl, w6⟩, _, r7, rfl, ⟨z7, rfl, w7⟩, he⟩ := h
  obtain rfl := he
  obtain ⟨x0, e0⟩ := u8_of w0
  obtain ⟨x1, e1⟩ := u8_of w1
  obtain ⟨x2, e2⟩ := u8_of w2
  obtain ⟨x3, e3⟩ := u8_of w3
  obtain ⟨x4, e4⟩ := u8_of w4
  obtain ⟨x5, e5⟩ := u8_of w5
  obtain ⟨x6, e6⟩ := u8_of w6
  obtain ⟨x7, e7⟩ := u8_of w7
  exact ⟨x0, x1, x2, x3, x4, x5, x6, x7, by rw [e0, e1, e2, e3, e4, e5, e6, e7]⟩
theorem by16_of {V : List Value} (h : FitsAll [some .u8, some .u8, some .u8, some .u8, some .u8, some .u8, some .u8, some .u8, some .u8, some .u8, some .u8, some .u8, some .u8, some .u8, some .u8, some .u8] V) : ∃ x0 x1 x2 x3 x4 x5 x6 x7 x8 x9 x10 x11 x12 x13 x14 x15 : UInt8, V = [u8V x0, u8V x1, u8V x2, u8V x3, u8V x4, u8V x5, u8V x6, u8V x7, u8V x8, u8V x9, u8V x10, u8V x11, u8V x12, u8V x13, u8V x14, u8V x15] := by
  obtain ⟨_, r0, rfl, ⟨z0, rfl, w0⟩, _, r1, rfl, ⟨z1, rfl, w1⟩, _, r2, rfl, ⟨z2, rfl, w2⟩, _, r3, rfl, ⟨z3, rfl, w3⟩, _, r4, rfl, ⟨z4, rfl, w4⟩, _, r5, rfl, ⟨z5, rfl, w5⟩, _, r6, rfl, ⟨z6, rfl, w6⟩, _, r7, rfl, ⟨z7, rfl, w7⟩, _, r8, rfl, ⟨z8, rfl, w8⟩, _, r9, rfl, ⟨z9, rfl, w9⟩, _, r10, rfl, ⟨z10, rfl, w10⟩, _, r11, rfl, ⟨z11, rfl, w11⟩, _, r12, rfl, ⟨z12, rfl, w12⟩, _, r13, rfl, ⟨z13, rfl, w13⟩, _, r14, rfl, ⟨z14, rfl, w14⟩, _, r15, rfl, ⟨z15, rfl, w15⟩, he⟩ := h
  obtain rfl := he
  obtain ⟨x0, e0⟩ := u8_of w0
  obtain ⟨x1, e1⟩ := u8_of w1
  obtain ⟨x2, e2⟩ := u8_of w2
  obtain ⟨x3, e3⟩ := u8_of w3
  obtain ⟨x4, e4⟩ := u8_of w4
  obtain ⟨x5, e5⟩ := u8_of w5
  obtain ⟨x6, e6⟩ := u8_of w6
  obtain ⟨x7, e7⟩ := u8_of w7
  obtain ⟨x8, e8⟩ := u8_of w8
  obtain ⟨x9, e9⟩ := u8_of w9
  obtain ⟨x10, e10⟩ := u8_of w10
  obtain ⟨x11, e11⟩ := u8_of w11
  obtain ⟨x12, e12⟩ := u8_of w12
  obtain ⟨x13, e13⟩ := u8_of w13
  obtain ⟨x14, e14⟩ := u8_of w14
  obtain ⟨x15, e15⟩ := u8_of w15
  exact ⟨x0, x1, x2, x3, x4, x5, x6, x7, x8, x9, x10, x11, x12, x13, x14, x15, by rw [e0, e1, e2, e3, e4, e5, e6, e7, e8, e9, e10, e11, e12, e13, e14, e15]⟩
end Go.Proofs.YtiahmccchpmdgaaGreatDoor.Me
