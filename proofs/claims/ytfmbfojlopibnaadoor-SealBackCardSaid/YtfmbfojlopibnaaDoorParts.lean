import Derived.Test.YtfmbfojlopibnaaDoorCuts
import Derived.Test.YtfmbfojlopibnaaDoorNum
import Derived.WalkSpells
namespace Go.Proofs.YtfmbfojlopibnaaDoor
open Go.RowKit Go.Shelf

set_option maxHeartbeats 1000000 in
theorem clone_any (l : List UInt8) (n c B : Nat) (A : Option Addr) (w : World) (hn : l.length = n) (hm : n ≤ 140737488351232) (hr : Sees w B A (byt l)) (hB : B ≤ w.heap.size) :
    Calls Tryd.prog 69 #[.slice A n c] w fun e w' => ∃ v, e = .returned v ∧ w'.ownsRow w.heap.size 5 1 v n (byt l) ∧ Below w.heap.size w w' := by
  obtain ⟨i0, hi, hz0, hz1, hz2⟩ := info_parts byte_info
  have hl : (byt l).length = n * 1 := by rw [byt_length]; omega
  have hown0 : ∀ o, o = Obj.cells #[] 5 → (w.alloc o).ownsRow w.heap.size 5 1 (.slice (some ⟨w.heap.size, 0, none⟩) 0 0) 0 [] := fun o ho => by
    subst ho
    exact World.ownsRow_lit w #[] 0 (Nat.le_refl _) (Nat.zero_le _) rfl
  have hr0 := hr.alloc hB (.cells #[] 5)
  have hb0 : Below w.heap.size w (w.alloc (.cells #[] 5)) := (Below.refl _ _).alloc (Nat.le_refl _) _
  rcases A with _ | ad
  · have hnil : l = [] := by
      rcases l with _ | ⟨u, l⟩
      · rfl
      · obtain ⟨ad, h, _⟩ := hr (by simp [byt])
        cases h
    subst hnil
    obtain rfl : n = 0 := by simpa using hn.symm
    have hnil : ∀ w, (binOp .eql 28 (.slice none 0 c) (.slice none 0 0)).run Tryd.prog w = .ok (.bool true) w := fun w => by kernel_rfl
    go_enter Tryd.func69, Tryd.ntmps69
    go_wp2
    go_ret
    exact ⟨_, rfl, World.ownsRow_nil _ _ _ _, Below.refl _ _⟩
  · have hnil : ∀ w, (binOp .eql 28 (.slice (some ad) n c) (.slice none 0 0)).run Tryd.prog w = .ok (.bool false) w := fun w => by kernel_rfl
    go_enter Tryd.func69, Tryd.ntmps69
    go_wp2_with (at_builtin; go_must (refine wpList_append_sees rfl (.tmp 5) (.tmp 6) 28 rfl w.heap.size 5 i0 _ 1 1 Tryd.underlying28 hi hz0 hz1 hz2 rfl (by decide) _ _ _ rfl (hown0 _ rfl) B (some ad) n c (byt l) rfl hl hr0 byt_one (by unfold maxLen; omega) (by omega) (by simp) ?_; intro v1 w1 hown1 hg1 hv1))
    go_ret
    exact ⟨_, rfl, by simpa using hown1, hb0.grown hg1 (by simp) (fun k hk => ((hown0 _ rfl).lt k hk).1)⟩

set_option maxHeartbeats 1000000 in
theorem partsF_any (l : List UInt8) (n c B : Nat) (A : Option Addr) (s : Int) (w : World) (hn : l.length = n) (hm : n ≤ 140737488351232) (hr : Sees w B A (byt l)) (hB : B ≤ w.heap.size) :
    Calls Tryd.prog 55 #[.slice A n c, .int .i64 s] w fun e w' => ∃ v bo bs, e = .returned (.func (.func 70) #[] #[.pointer (some ⟨bo, 0, none⟩), .pointer (some ⟨bs, 0, none⟩)]) ∧
      w.heap.size ≤ bo ∧ w.heap.size ≤ bs ∧ w'.cell? ⟨bo, 0, none⟩ = some v ∧ w'.cell? ⟨bs, 0, none⟩ = some (.int .i64 s) ∧ w'.ownsRow w.heap.size 5 1 v n (byt l) ∧ Below w.heap.size w w' := by
  go_enter Tryd.func55, Tryd.ntmps55
  go_wp2_with fail
  refine (clone_any l n c B A _ hn hm (hr.alloc hB _) (by simp; omega)).mono ?_
  rintro e w1 ⟨v, rfl, hown, hb1⟩
  obtain ⟨A1, c1, rfl⟩ := own_slice hown
  have hcs : w1.cell? ⟨w.heap.size, 0, none⟩ = some (.int .i64 s) := (hb1.cell (by simp)).trans (cell_alloc_new _ _ _ _)
  have hB1 : Below w.heap.size w w1 := ((Below.refl _ _).alloc (Nat.le_refl _) _).trans (hb1.mono (by simp))
  have hs1 := hb1.size
  simp at hs1
  go_wp2
  go_ret
  refine ⟨_, w1.heap.size, w.heap.size, rfl, by omega, Nat.le_refl _, cell_alloc_new _ _ _ _, (World.cell?_alloc_lt _ _ _ (by simp; omega)).trans hcs, own_mono (hown.alloc _) (by simp), hB1.alloc hB1.size _⟩
end Go.Proofs.YtfmbfojlopibnaaDoor
