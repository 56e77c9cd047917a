import Derived.Test.YtkfljominljliaaWm
namespace Go.Proofs.Ytkfljominljliaa
open Go.RowKit Go.Shelf
attribute [local go_sem] Oper.semAt_some

section
variable (c i f : Bool) (e : Int)
/-- does a look fit a sort? -/
def fitL (k : Nat) : Bool := if k = 0 then c else if k = 1 then i else if k = 2 then (f && decide (256 ≤ e)) else f
end
set_option maxHeartbeats 1000000 in
theorem fit_gen (F G : Nat) (r : Bool) (a b : Int) (c : Bool) (d e : Int) (f : Bool) (g h : Int) (i : Bool) (bl : Nat) (w : World) (hr : Row w bl 74 (lkC a b c d e f g h i))
    (eg : ∀ args w, (callFunc F args).run Try.prog w = .ok (.enter F args) w) (hF : ∀ W, Calls Try.prog F #[lkV a b c d e f g h i] W fun en w' => en = .returned (.bool r) ∧ Below W.heap.size W w') :
    Calls Try.prog 43 #[.agg #[Value.func (.func F) #[] #[], Value.func (.func G) #[] #[]], .pointer (some ⟨bl, 0, none⟩)] w fun en w' => en = .returned (.bool r) ∧ Below w.heap.size w w' := by
  obtain ⟨w0, hw0⟩ : ∃ w0, w0 = w.alloc (.cells #[Value.func (.func F) #[] #[], Value.func (.func G) #[] #[]] 79) := ⟨_, rfl⟩
  have hB : Below w.heap.size w w0 := by rw [hw0]; exact below1 _ _
  have hr0 := hr.below hB
  have c0 : w0.cell? ⟨bl, 0, none⟩ = _ := hr0.cell 0
  have c1 : w0.cell? ⟨bl, 1, none⟩ = _ := hr0.cell 1
  have c2 : w0.cell? ⟨bl, 2, none⟩ = _ := hr0.cell 2
  have c3 : w0.cell? ⟨bl, 3, none⟩ = _ := hr0.cell 3
  have c4 : w0.cell? ⟨bl, 4, none⟩ = _ := hr0.cell 4
  have c5 : w0.cell? ⟨bl, 5, none⟩ = _ := hr0.cell 5
  have c6 : w0.cell? ⟨bl, 6, none⟩ = _ := hr0.cell 6
  have c7 : w0.cell? ⟨bl, 7, none⟩ = _ := hr0.cell 7
  have c8 : w0.cell? ⟨bl, 8, none⟩ = _ := hr0.cell 8
  have hc := Lib.hid hF
  have HB := Lib.hid hB
  rw [hw0] at c0 c1 c2 c3 c4 c5 c6 c7 c8
  have HW := Lib.hid hw0
  clear hr hr0 hB hw0 hF
  go_enter Try.func43, Try.ntmps43
  go_wp2_with fail
  rw [← HW.out]
  refine (hc.out _).mono ?_
  rintro en w1 ⟨rfl, hb1⟩
  go_wp2
  go_ret
  exact ⟨rfl, HB.out.trans (hb1.mono HB.out.size)⟩
theorem fit_any (k : Nat) (hk : k < 4) (a b : Int) (c : Bool) (d e : Int) (f : Bool) (g h : Int) (i : Bool) (bl : Nat) (w : World) (hr : Row w bl 74 (lkC a b c d e f g h i)) :
    Calls Try.prog 43 #[.agg #[Value.func (.func (sF k)) #[] #[], Value.func (.func (sG k)) #[] #[]], .pointer (some ⟨bl, 0, none⟩)] w fun en w' => en = .returned (.bool (fitL c i f e k)) ∧ Below w.heap.size w w' := by
  rcases (show k = 0 ∨ k = 1 ∨ k = 2 ∨ k = 3 by omega) with rfl | rfl | rfl | rfl
  · exact fit_gen 49 (sG 0) _ a b c d e f g h i bl w hr (enters_of Try.func49 (by kernel_rfl) rfl) (fun W => fits1_any a b c d e f g h i W)
  · exact fit_gen 51 (sG 1) _ a b c d e f g h i bl w hr (enters_of Try.func51 (by kernel_rfl) rfl) (fun W => fits3_any a b c d e f g h i W)
  · exact fit_gen 53 (sG 2) _ a b c d e f g h i bl w hr (enters_of Try.func53 (by kernel_rfl) rfl) (fun W => fits5_any a b c d e f g h i W)
  · exact fit_gen 56 (sG 3) _ a b c d e f g h i bl w hr (enters_of Try.func56 (by kernel_rfl) rfl) (fun W => fits7_any a b c d e f g h i W)

/-- what a sort tells of a look -/
def tellL (a b d e g h : Int) (k : Nat) : Value := if k = 0 then siV 1 a 0 b else if k = 1 then siV 2 d g h else if k = 2 then siV 3 d 0 e else siV 4 d 0 e
theorem tell_any (k : Nat) (hk : k < 4) (a b : Int) (c : Bool) (d e : Int) (f : Bool) (g h : Int) (i : Bool) (w : World) :
    Calls Try.prog (sG k) #[lkV a b c d e f g h i] w fun en w' => en = .returned (tellL a b d e g h k) ∧ Below w.heap.size w w' := by
  rcases (show k = 0 ∨ k = 1 ∨ k = 2 ∨ k = 3 by omega) with rfl | rfl | rfl | rfl
  · exact site2_any a b c d e f g h i w
  · exact site4_any a b c d e f g h i w
  · exact site6_any a b c d e f g h i w
  · exact site8_any a b c d e f g h i w
theorem enter_tell (k : Nat) (hk : k < 4) : ∀ args w, (callFunc (sG k) args).run Try.prog w = .ok (.enter (sG k) args) w := by
  rcases (show k = 0 ∨ k = 1 ∨ k = 2 ∨ k = 3 by omega) with rfl | rfl | rfl | rfl
  · exact enters_of Try.func50 (by kernel_rfl) rfl
  · exact enters_of Try.func52 (by kernel_rfl) rfl
  · exact enters_of Try.func54 (by kernel_rfl) rfl
  · exact enters_of Try.func57 (by kernel_rfl) rfl
end Go.Proofs.Ytkfljominljliaa
