import Derived.Test.YtglfcfepgjldfaaFI
namespace Go.Proofs.Ytglfcfepgjldfaa.Fe
open Go.RowKit Go.Shelf
attribute [local go_sem] Oper.semAt_some

/- THE CHAPTER's ROWS. -/
/-- a law's own feed -/
def Run (Has : HasT) (w : World) (v : Value) (l : List UInt8) (p : Nat) (V : World) : Prop := ∃ F, Has V v l p F ∧ (∀ k, F k → w.heap.size ≤ k) ∧ Below w.heap.size w V
section
variable {Has : HasT} (H : Api Has) {w V V' : World} {v : Value} {l : List UInt8} {p q : Nat}
theorem Run.nx {F : Nat → Prop} (h2 : ∀ k, F k → w.heap.size ≤ k) (h3 : Below w.heap.size w V) (hn : Nx Has V v l q F V') : Run Has w v l q V' :=
  ⟨F, hn.1, h2, h3.trans (hn.2.below h2 h3.size)⟩
theorem Run.below (h : Run Has w v l p V) : Below w.heap.size w V := by
  obtain ⟨F, h1, h2, h3⟩ := h
  exact h3
include H
theorem Run.more (h : Run Has w v l p V) (hb : Below V.heap.size V V') : Run Has w v l p V' := by
  obtain ⟨F, h1, h2, h3⟩ := h
  exact ⟨F, H.below h1 hb, h2, below0 h3 hb⟩
theorem Run.pick (h : Run Has w v l p V) (n : Nat) (h1 : 1 ≤ n) (h2 : n ≤ 256) : Calls Try.prog 20 #[v, .int .i64 (n : Int)] V fun e V' => e = .returned (.tuple #[.int .i64 (pickN l p n : Int), .int .i64 0]) ∧ Run Has w v l (pickP l p) V' := by
  obtain ⟨F, a1, a2, a3⟩ := h
  exact (H.pick n a1 h1 h2).mono fun _ _ ⟨e, hn⟩ => ⟨e, Run.nx a2 a3 hn⟩
theorem Run.draw (h : Run Has w v l p V) : Calls Try.prog 19 #[v] V fun e V' => e = .returned (.tuple #[.int .u32 (le ((l.drop p).take 4) : Int), .int .i64 0]) ∧ Run Has w v l (p + min 4 (l.length - p)) V' := by
  obtain ⟨F, a1, a2, a3⟩ := h
  exact (H.draw a1).mono fun _ _ ⟨e, hn⟩ => ⟨e, Run.nx a2 a3 hn⟩
theorem Run.left (h : Run Has w v l p V) : Calls Try.prog 17 #[v] V fun e V' => e = .returned (.int .i64 ((l.length - p : Nat) : Int)) ∧ Run Has w v l p V' := by
  obtain ⟨F, a1, a2, a3⟩ := h
  exact (H.left a1).mono fun _ _ ⟨e, hb⟩ => ⟨e, Run.more H ⟨F, a1, a2, a3⟩ hb⟩
theorem Run.seek (h : Run Has w v l p V) (q : Nat) (hq : q ≤ l.length) : Calls Try.prog 18 #[v, .int .i64 (q : Int)] V fun e V' => e = .returned (.tuple #[.int .i64 (p : Int), .int .i64 0]) ∧ Run Has w v l q V' := by
  obtain ⟨F, a1, a2, a3⟩ := h
  exact (H.seek q a1 hq).mono fun _ _ ⟨e, hn⟩ => ⟨e, Run.nx a2 a3 hn⟩
/-- bytes that were taken lie apart from the feed -/
theorem Run.take (h : Run Has w v l p V) (m : Nat) (hm : m ≤ 9223372036854775807) : Calls Try.prog 14 #[v, .int .i64 (m : Int)] V fun e V' => ∃ A c, e = .returned (.tuple #[.slice A ((l.drop p).take m).length c, .int .i64 0]) ∧ Run Has w v l (p + min m (l.length - p)) V' ∧ Below w.heap.size w V' ∧
    Sees V' V'.heap.size A (byt ((l.drop p).take m)) ∧ ∃ F, Has V' v l (p + min m (l.length - p)) F ∧ (∀ k, F k → w.heap.size ≤ k) ∧ ∀ ad, A = some ad → (l.drop p).take m ≠ [] → ¬ F ad.block := by
  obtain ⟨F, a1, a2, a3⟩ := h
  refine (H.take m a1 hm).mono ?_
  rintro e V' ⟨A, c, rfl, hn, hr⟩
  refine ⟨A, c, rfl, Run.nx a2 a3 hn, (Run.nx a2 a3 hn).below, fun hne => ?_, F, hn.1, a2, fun ad e hne hf => ?_⟩
  · obtain ⟨g, rest, h1, h2, h3⟩ := hr (fun e => hne (by rw [e]; rfl))
    have := (h3.sees).take (byt ((l.drop p).take m)).length
    rw [List.take_left] at this
    rw [h2]
    exact this hne
  · obtain ⟨g, rest, h1, h2, h3⟩ := hr hne
    rw [e] at h2
    injection h2 with h2
    subst h2
    have := H.lt a1 g hf
    omega
end
theorem sees_keep {F : Nat → Prop} {V V' : World} {A : Option Addr} {xs : List Value} (h : Sees V V.heap.size A xs) (hk : Keep F V V') (hF : ∀ ad, A = some ad → xs ≠ [] → ¬ F ad.block) : Sees V' V'.heap.size A xs := fun hne => by
  obtain ⟨ad, h1, h2, h3⟩ := h hne
  refine ⟨ad, h1, Nat.lt_of_lt_of_le h2 hk.size, fun j u hu => ?_⟩
  rw [← h3 j u hu]
  exact hk.cell (p := ad.add j) (by rw [add_block]; exact h2) (by rw [add_block]; exact hF ad h1 hne)
def rowB : List UInt8 := [7, 1, 2, 0, 0, 255]
structure Nine (Has : HasT) (L : List UInt8) : Prop where
  n1 : ∀ w, Calls Try.prog 7 #[.slice (some ⟨w.heap.size, 0, none⟩) 6 6] (w.alloc (.cells #[.int .u8 7, .int .u8 1, .int .u8 2, .int .u8 0, .int .u8 0, .int .u8 255] 5)) fun e w' => ∃ v, e = .returned v ∧ Run Has w v L 0 w'
  p1 : ∀ w v V, Run Has w v L 0 V → Calls Try.prog 20 #[v, .int .i64 3] V fun e V' => e = .returned (.tuple #[.int .i64 1, .int .i64 0]) ∧ Run Has w v L 1 V'
  d1 : ∀ w v V, Run Has w v L 1 V → Calls Try.prog 19 #[v] V fun e V' => e = .returned (.tuple #[.int .u32 513, .int .i64 0]) ∧ Run Has w v L 5 V'
  p2 : ∀ w v V, Run Has w v L 5 V → Calls Try.prog 20 #[v, .int .i64 256] V fun e V' => e = .returned (.tuple #[.int .i64 255, .int .i64 0]) ∧ Run Has w v L 6 V'
  p3 : ∀ w v V, Run Has w v L 6 V → Calls Try.prog 20 #[v, .int .i64 5] V fun e V' => e = .returned (.tuple #[.int .i64 0, .int .i64 0]) ∧ Run Has w v L 6 V'
  l1 : ∀ w v V, Run Has w v L 6 V → Calls Try.prog 17 #[v] V fun e V' => e = .returned (.int .i64 0) ∧ Run Has w v L 6 V'
  s1 : ∀ w v V, Run Has w v L 6 V → Calls Try.prog 18 #[v, .int .i64 4] V fun e V' => e = .returned (.tuple #[.int .i64 6, .int .i64 0]) ∧ Run Has w v L 4 V'
  t1 : ∀ w v V, Run Has w v L 4 V → Calls Try.prog 14 #[v, .int .i64 9] V fun e V' => ∃ A c, e = .returned (.tuple #[.slice A 2 c, .int .i64 0]) ∧ Below w.heap.size w V' ∧ Sees V' V'.heap.size A (byt [0, 255]) ∧ ∃ F, Has V' v L 6 F ∧ (∀ k, F k → w.heap.size ≤ k) ∧ ∀ ad, A = some ad → ¬ F ad.block
  p4 : ∀ V v F, Has V v L 6 F → Calls Try.prog 20 #[v, .int .i64 0] V fun e V' => e = .returned (.tuple #[.int .i64 0, .int .i64 2]) ∧ Nx Has V v L 6 F V'
  s2 : ∀ V v F, Has V v L 6 F → Calls Try.prog 18 #[v, .int .i64 7] V fun e V' => e = .returned (.tuple #[.int .i64 0, .int .i64 4]) ∧ Nx Has V v L 6 F V'
theorem nine {Has : HasT} (H : Api Has) : Nine Has rowB where
  n1 w := (H.new (w.alloc (.cells (byt rowB).toArray 5)) (some ⟨w.heap.size, 0, none⟩) 6 6 rowB (by have := (Row.new w 5 (byt rowB)).sees; exact this) rfl (by omega)).mono fun _ _ ⟨v, F, e, h1, h2, h3⟩ => ⟨v, e, F, h1, fun k hk => by have := h2 k hk; rw [World.size_alloc] at this; omega, below0 (below1 _ _) h3⟩
  p1 w v V h := (Run.pick H h 3 (by omega) (by omega)).mono fun _ _ ⟨e, h1⟩ => ⟨by rw [e]; rfl, h1⟩
  d1 w v V h := (Run.draw H h).mono fun _ _ ⟨e, h1⟩ => ⟨by rw [e]; rfl, h1⟩
  p2 w v V h := (Run.pick H h 256 (by omega) (by omega)).mono fun _ _ ⟨e, h1⟩ => ⟨by rw [e]; rfl, h1⟩
  p3 w v V h := (Run.pick H h 5 (by omega) (by omega)).mono fun _ _ ⟨e, h1⟩ => ⟨by rw [e]; rfl, h1⟩
  l1 w v V h := (Run.left H h).mono fun _ _ ⟨e, h1⟩ => ⟨by rw [e]; rfl, h1⟩
  s1 w v V h := (Run.seek H h 4 (by decide)).mono fun _ _ ⟨e, h1⟩ => ⟨by rw [e]; rfl, h1⟩
  t1 w v V h := (Run.take H h 9 (by omega)).mono fun _ _ ⟨A, c, e, h1, h2, h3, F, h4, h5, h6⟩ => ⟨A, c, by rw [e]; rfl, h2, h3, F, h4, h5, fun ad e => h6 ad e (by decide)⟩
  p4 V v F h := (H.pickNo 0 h (by unfold i64; omega) (by unfold okN; omega))
  s2 V v F h := (H.seekNo 7 h (by unfold i64; omega) (.inr (by decide)))
set_option maxRecDepth 100000 in
set_option maxHeartbeats 4000000 in
theorem works_any {Has : HasT} (HA : Api Has) (w : World) : Calls Try.prog 6 #[] w fun e w' => e = .returned (.bool true) ∧ Below w.heap.size w w' := by
  obtain ⟨L, S⟩ : ∃ L, Nine Has L := ⟨_, nine HA⟩
  have H := Lib.hid S
  have hn := Lib.hid (fun n w => num_any n w)
  clear S HA
  go_enter Try.func6, Try.ntmps6
  go_wp2_with fail
  refine (H.out.n1 _).mono ?_
  rintro e w1 ⟨v, rfl, R⟩
  have R1 := Lib.hid R
  clear R
  go_wp2_with fail
  refine (H.out.p1 _ _ _ R1.out).mono ?_
  rintro e w2 ⟨rfl, R⟩
  have R2 := Lib.hid R
  clear R R1
  go_wp2_with fail
  refine (H.out.d1 _ _ _ R2.out).mono ?_
  rintro e w3 ⟨rfl, R⟩
  have R3 := Lib.hid R
  clear R R2
  go_wp2_with fail
  refine (H.out.p2 _ _ _ R3.out).mono ?_
  rintro e w4 ⟨rfl, R⟩
  have R4 := Lib.hid R
  clear R R3
  go_wp2_with fail
  refine (H.out.p3 _ _ _ R4.out).mono ?_
  rintro e w5 ⟨rfl, R⟩
  have R5 := Lib.hid R
  clear R R4
  go_wp2_with fail
  refine (H.out.l1 _ _ _ R5.out).mono ?_
  rintro e w6 ⟨rfl, R⟩
  have R6 := Lib.hid R
  clear R R5
  go_wp2_with fail
  refine (H.out.s1 _ _ _ R6.out).mono ?_
  rintro e w7 ⟨rfl, R⟩
  have R7 := Lib.hid R
  clear R R6
  go_wp2_with fail
  refine (H.out.t1 _ _ _ R7.out).mono ?_
  rintro e w8 ⟨A, c, rfl, hb8, hs8, F, hh8, hF, hA⟩
  have R8 := Lib.hid (And.intro hb8 (And.intro hs8 (And.intro hh8 (And.intro hF hA))))
  clear hb8 hs8 hh8 hF hA R7
  go_wp2_with fail
  refine (H.out.p4 _ _ _ R8.out.2.2.1).mono ?_
  rintro e w9 ⟨rfl, n9⟩
  have R9 := Lib.hid n9
  clear n9
  go_wp2_with fail
  refine (H.out.s2 _ _ _ R9.out.1).mono ?_
  rintro e wa ⟨rfl, na⟩
  have hsa : Sees wa wa.heap.size A (byt [0, 255]) := sees_keep (sees_keep R8.out.2.1 R9.out.2 (fun ad e _ => R8.out.2.2.2.2 ad e)) na.2 (fun ad e _ => R8.out.2.2.2.2 ad e)
  have hba : Below w.heap.size w wa := (R8.out.1.trans (R9.out.2.below R8.out.2.2.2.1 R8.out.1.size)).trans (na.2.below R8.out.2.2.2.1 (Nat.le_trans R8.out.1.size R9.out.2.size))
  have hcv : (convert 22 9 (.slice A 2 c)).run Try.prog wa = .ok (.string ⟨#[0, 255]⟩) wa := run_conv_sees wa Try.underlying22 Try.underlying5 Try.underlying9 (l := [0, 255]) rfl hsa
  have HFIN := Lib.hid hba
  clear hsa hba na R8 R9
  go_wp2_with (go_at_call 15; refine (hn.out _ _).mono ?_; rintro e u0 ⟨rfl, rfl⟩)
  go_ret
  exact ⟨rfl, HFIN.out⟩
end Go.Proofs.Ytglfcfepgjldfaa.Fe
