import Derived.Test.YtbgpdahoochkiaaDoorNum
namespace Go.Proofs.YtbgpdahoochkiaaDoor
open Go.RowKit

set_option maxHeartbeats 1000000 in
theorem lent_any (l : List UInt8) (n c B : Nat) (A : Option Addr) (w : World) (hn : l.length = n) (hm : n ≤ 140737488351232) (hr : Sees w B A (byt l)) (hB : B ≤ w.heap.size) :
    Calls Tryd.prog 14 #[.slice A n c] w fun e w' => ∃ g cap, e = .returned (.slice (some ⟨g, 0, none⟩) n cap) ∧
      w'.ownsRow w.heap.size 5 1 (.slice (some ⟨g, 0, none⟩) (n + 1) cap) (n + 1) (byt l ++ [.int .u8 77]) ∧ Below w.heap.size w w' := by
  obtain ⟨i0, hi, hz0, hz1, hz2⟩ := info_parts byte_info
  have hl : (byt l).length = n * 1 := by rw [byt_length]; omega
  have hown0 : ∀ o, o = Obj.cells #[] 5 → (w.alloc o).ownsRow w.heap.size 5 1 (.slice (some ⟨w.heap.size, 0, none⟩) 0 0) 0 [] := fun o ho => by
    subst ho
    exact World.ownsRow_lit w #[] 0 (Nat.le_refl _) (Nat.zero_le _) rfl
  have hr0 := hr.alloc hB (.cells #[] 5)
  have hb0 : Below w.heap.size w (w.alloc (.cells #[] 5)) := (Below.refl _ _).alloc (Nat.le_refl _) _
  go_enter Tryd.func14, Tryd.ntmps14
  go_wp2_with (first
    | (at_builtin; refine wpList_append_sees rfl (.tmp 3) (.tmp 4) 23 rfl w.heap.size 5 i0 _ 1 1 Tryd.underlying23 hi hz0 hz1 hz2 rfl (by decide) _ _ _ rfl (hown0 _ rfl) B A n c (byt l) rfl hl hr0 byt_one (by unfold maxLen; omega) (by omega) (by simp) ?_; intro v1 w1 hown1 hg1 hv1)
    | (at_builtin; refine wpList_append_sees rfl (.tmp 5) (.tmp 6) 23 rfl w.heap.size 5 i0 _ 1 1 Tryd.underlying23 hi hz0 hz1 hz2 rfl (by decide) _ _ _ rfl (hown1.alloc _) (w1.heap.size + 1) (some ⟨w1.heap.size, 0, none⟩) 1 1 [.int .u8 77] rfl rfl (fun _ => ⟨_, rfl, by simp, cell_one_new _ _ _⟩) (by simp [Value.oneCell']) (by unfold maxLen; omega) (by omega) (by have := hg1.size; simp at this; simp; omega) ?_; intro v2 w2 hown2 hg2 hv2; obtain ⟨g, cap, rfl, hcap, hlt⟩ := hown2.form (by omega); have hcp := (own_cap hown2).1))
  go_ret
  have hs1 := hg1.size
  have hs2 := hg2.size
  have hb1 := hb0.grown hg1 (by simp) (fun k hk => ((hown0 _ rfl).lt k hk).1)
  refine ⟨g, cap, rfl, by simpa [Nat.zero_add] using hown2, (hb1.alloc hb1.size _).grown hg2 (by have := hb1.size; simp; omega) (fun k hk => (hown1.lt k hk).1)⟩
end Go.Proofs.YtbgpdahoochkiaaDoor
