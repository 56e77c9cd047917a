import Derived.Test.YtijgkjliienjhaaCD
import Derived.Test.YtijgkjliienjhaaBaseIn
namespace Go.Proofs.Ytijgkjliienjhaa
open Go.RowKit Go.Shelf
attribute [local go_sem] Oper.semAt_some

/- CLONE, COPY; THE DOCUMENT's STORE. -/
theorem own_lst {t : TypeId} {w : World} {B n : Nat} {v : Value} {l : Cs} (h : w.ownsRow B t 2 v n (cls l)) (hv : v.ownBlock ≠ none) : ∃ g c, v = .slice (some ⟨g, 0, none⟩) n c ∧ B ≤ g ∧ Lst t w g l := by
  obtain ⟨h1, ⟨rfl, _⟩ | ⟨g, cap, cur, rfl, hb, hg, _, _, hc, ht⟩⟩ := h
  · exact absurd rfl hv
  · refine ⟨g, cap, rfl, hb, cur.toList.drop (n * 2), ?_⟩
    rw [← ht, List.take_append_drop]
    exact hg
theorem nil_row (w : World) (t : TypeId) : (w.alloc (.cells #[] t)).ownsRow w.heap.size t 2 (.slice (some ⟨w.heap.size, 0, none⟩) 0 0) 0 [] :=
  ⟨rfl, .inr ⟨_, _, _, rfl, Nat.le_refl _, World.alloc_heap_new w _, Nat.le_refl _, Nat.zero_le _, rfl, rfl⟩⟩
theorem cls_one {l : Cs} : ∀ u ∈ cls l, u.oneCell' = true := by
  intro u hu
  obtain ⟨x, _, hx⟩ := List.mem_flatMap.1 hu
  rcases List.mem_cons.1 hx with rfl | h
  · rfl
  · rcases List.mem_cons.1 h with rfl | h
    · rfl
    · cases h
theorem eql_nil {P : Program} (w : World) (t e : TypeId) (a : Option Addr) (l c : Nat) (h : P.underlying t = some (.slice e)) : (binOp .eql t (.slice a l c) (.slice none 0 0)).run P w = .ok (.bool a.isNone) w := by
  simp only [binOp]
  simp [run_equal_slice_nil w t e a l c h]
/-- what an append of a list onto an empty one gives -/
theorem app_fin {t : TypeId} {w w4 : World} {v' : Value} {n : Nat} {l : Cs} (h1 : w4.ownsRow w.heap.size t 2 v' n (cls l)) (h2 : (w.alloc (.cells #[] t)).grownBy w4 (some w.heap.size)) (h3 : v'.ownBlock = some w.heap.size ∨ v'.ownBlock = some (w.heap.size + 1)) :
    ∃ g c, v' = .slice (some ⟨g, 0, none⟩) n c ∧ w.heap.size ≤ g ∧ Lst t w4 g l ∧ Below w.heap.size w w4 := by
  obtain ⟨g, c, e, hg, hl⟩ := own_lst h1 (by rcases h3 with h | h <;> rw [h] <;> simp)
  exact ⟨g, c, e, hg, hl, (below1 w _).grown h2 (by simp) (fun k hk => by injection hk with hk; omega)⟩
def CloneP (t : TypeId) (w : World) (n : Nat) (l : Cs) (e : Ending) (w' : World) : Prop := ∃ g c, e = .returned (.slice (some ⟨g, 0, none⟩) n c) ∧ w.heap.size ≤ g ∧ Lst t w' g l ∧ Below w.heap.size w w'
set_option maxHeartbeats 1000000 in
theorem clone_any (g n c : Nat) (l : Cs) (w : World) (hl : l.length = n) (hn : n ≤ 1024) (h : Lst 70 w g l) :
    Calls Try.prog 33 #[.slice (some ⟨g, 0, none⟩) n c] w (CloneP 70 w n l) := by
  obtain ⟨i0, hi, hz0, hz1, hz2⟩ := info_parts one_info
  have hr := Lib.hid (h.below (below1 w (.cells #[] 70))).sees
  have hown := nil_row w 70
  have HF := Lib.hid (fun w4 v' h1 h2 h3 => app_fin (t := 70) (w := w) (w4 := w4) (v' := v') (n := n) (l := l) h1 h2 h3)
  have HL := Lib.hid (show (cls l).length = n * 2 by rw [cls_len, hl])
  have HO := Lib.hid (cls_one (l := l))
  have hnn : ∀ W, (binOp .eql 32 (.slice (some ⟨g, 0, none⟩) n c) (.slice none 0 0)).run Try.prog W = .ok (.bool false) W := fun W => eql_nil W _ _ _ _ _ Try.underlying32
  obtain ⟨xs, hxs⟩ : ∃ xs, xs = cls l := ⟨_, rfl⟩
  rw [← hxs] at hr HF HL HO
  have HG : Hid (∀ e w', (∃ g c, e = .returned (.slice (some ⟨g, 0, none⟩) n c) ∧ w.heap.size ≤ g ∧ Lst 70 w' g l ∧ Below w.heap.size w w') → CloneP 70 w n l e w') := Lib.hid (fun _ _ h => h)
  clear h hl hxs
  go_enter Try.func33, Try.ntmps33
  go_wp2_with (at_builtin; refine wpList_append_sees rfl (.tmp 5) (.tmp 6) 32 rfl w.heap.size 70 i0 _ 2 16 Try.underlying32 hi hz0 hz1 hz2 rfl (by decide) _ 0 [] rfl hown (w.heap.size + 1) (some ⟨g, 0, none⟩) n c xs rfl HL.out (by have := hr.out; rw [World.size_alloc] at this; exact this) HO.out (by unfold maxLen; omega) (by omega) (by simp) ?_; intro v' w4 h1 h2 h3; rw [Nat.zero_add, List.nil_append] at h1; have hfin := HF.out w4 v' h1 h2 (by rw [World.size_alloc] at h3; exact h3); obtain ⟨g', c', rfl, hg', hl', hb'⟩ := hfin; have hfin := Lib.hid (HG.out _ w4 ⟨g', c', rfl, hg', hl', hb'⟩); clear h1 h2 h3 hg' hl' hb')
  go_ret
  exact hfin.out
theorem copy_non (v : Value) (w : World) (h : Non w v) : Calls Try.prog 16 #[v] w fun e w' => e = .returned (.pointer none) ∧ w = w' := by
  have h1 := Lib.hid (there_non v w h)
  obtain ⟨pv, rfl⟩ := h.ptr
  clear h
  go_enter Try.func16, Try.ntmps16
  go_wp2_with fail
  refine h1.out.mono ?_
  rintro e w1 ⟨rfl, rfl⟩
  go_wp2_with fail
  go_ret
  exact ⟨rfl, rfl⟩
def CopyP (w : World) (l : Cs) (e : Ending) (w' : World) : Prop := ∃ b g c, e = .returned (bx b) ∧ w.heap.size ≤ b ∧ w.heap.size ≤ g ∧ Rep w' b g c l ∧ Below w.heap.size w w'
theorem copy_rep (b g c : Nat) (l : Cs) (w : World) (h : Rep w b g c l) (hn : l.length ≤ 1024) : Calls Try.prog 16 #[bx b] w (CopyP w l) := by
  have hc := h.cel
  have h1 := Lib.hid (there_at b _ _ _ w hc)
  have h2 := Lib.hid (clone_any g l.length c l w rfl hn h.row)
  have HF : Hid (∀ w1 g1 c1, w.heap.size ≤ g1 → Lst 70 w1 g1 l → Below w.heap.size w w1 → CopyP w l (.returned (bx w1.heap.size)) (w1.alloc (.cells #[.slice (some ⟨g1, 0, none⟩) l.length c1] 34))) := Lib.hid (fun w1 g1 c1 a1 a2 a3 =>
    ⟨_, g1, c1, rfl, a3.size, a1, ⟨Row.new w1 34 [.slice (some ⟨g1, 0, none⟩) l.length c1], a2.below (below1 _ _)⟩, a3.alloc a3.size _⟩)
  obtain ⟨n, hln⟩ : ∃ n, n = l.length := ⟨_, rfl⟩
  rw [← hln] at hc h2 HF
  clear h hn hln
  go_enter Try.func16, Try.ntmps16
  go_wp2_with fail
  refine h1.out.mono ?_
  rintro e w1 ⟨rfl, rfl⟩
  go_wp2_with fail
  refine h2.out.mono ?_
  rintro e w1 ⟨g1, c1, rfl, a1, a2, a3⟩
  have hfin := Lib.hid (HF.out w1 g1 c1 a1 a2 a3)
  clear a1 a2 a3 HF
  go_wp2_with fail
  go_ret
  exact hfin.out
end Go.Proofs.Ytijgkjliienjhaa
