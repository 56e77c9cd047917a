import Derived.Test.YtijgkjliienjhaaCG
namespace Go.Proofs.Ytijgkjliienjhaa
open Go.RowKit Go.Shelf
attribute [local go_sem] Oper.semAt_some

/- SAME. -/
theorem same_nn (v v' : Value) (w : World) (h : Non w v) (h' : Non w v') : Calls Try.prog 17 #[v, v'] w fun e w' => e = .returned (.bool true) ∧ w = w' := by
  have h1 := Lib.hid (there_non v w h)
  have h2 := Lib.hid (there_non v' w h')
  obtain ⟨pv, rfl⟩ := h.ptr
  obtain ⟨pv', rfl⟩ := h'.ptr
  clear h h'
  go_enter Try.func17, Try.ntmps17
  go_wp2_with fail
  refine (h1.out).mono ?_
  rintro e w1 ⟨rfl, rfl⟩
  go_wp2_with fail
  refine (h1.out).mono ?_
  rintro e w1 ⟨rfl, rfl⟩
  go_wp2_with fail
  refine (h2.out).mono ?_
  rintro e w1 ⟨rfl, rfl⟩
  go_wp2_with fail
  go_ret
  exact ⟨rfl, rfl⟩
theorem same_nr (v : Value) (b g c : Nat) (l : Cs) (w : World) (h : Non w v) (h' : Rep w b g c l) : Calls Try.prog 17 #[v, bx b] w fun e w' => e = .returned (.bool false) ∧ w = w' := by
  have h1 := Lib.hid (there_non v w h)
  have h2 := Lib.hid (there_at b _ _ _ w h'.cel)
  obtain ⟨pv, rfl⟩ := h.ptr
  clear h h'
  go_enter Try.func17, Try.ntmps17
  go_wp2_with fail
  refine (h1.out).mono ?_
  rintro e w1 ⟨rfl, rfl⟩
  go_wp2_with fail
  refine (h1.out).mono ?_
  rintro e w1 ⟨rfl, rfl⟩
  go_wp2_with fail
  refine (h2.out).mono ?_
  rintro e w1 ⟨rfl, rfl⟩
  go_wp2_with fail
  go_ret
  exact ⟨rfl, rfl⟩
theorem same_rn (v : Value) (b g c : Nat) (l : Cs) (w : World) (h : Non w v) (h' : Rep w b g c l) : Calls Try.prog 17 #[bx b, v] w fun e w' => e = .returned (.bool false) ∧ w = w' := by
  have h1 := Lib.hid (there_non v w h)
  have h2 := Lib.hid (there_at b _ _ _ w h'.cel)
  obtain ⟨pv, rfl⟩ := h.ptr
  clear h h'
  go_enter Try.func17, Try.ntmps17
  go_wp2_with fail
  refine (h2.out).mono ?_
  rintro e w1 ⟨rfl, rfl⟩
  go_wp2_with fail
  refine (h1.out).mono ?_
  rintro e w1 ⟨rfl, rfl⟩
  go_wp2_with fail
  refine (h2.out).mono ?_
  rintro e w1 ⟨rfl, rfl⟩
  go_wp2_with fail
  refine (h1.out).mono ?_
  rintro e w1 ⟨rfl, rfl⟩
  go_wp2_with fail
  go_ret
  exact ⟨rfl, rfl⟩
theorem equal_q {P : Program} {f : FuncId} {args : Array Value} {w : World} {n : Nat} {v : Value} (h : Calls P f args (w.drewN n) fun e w' => e = .returned v ∧ ∃ m, w' = (w.drewN n).drewN m) :
    Calls P f args (w.drewN n) fun e w'' => e = .returned v ∧ ∃ m, w'' = w.drewN m :=
  h.mono fun _ _ ⟨he, _, hm⟩ => ⟨he, _, hm.trans (World.drewN_drewN _ _ _)⟩
theorem same_rr (b g c b' g' c' : Nat) (l l' : Cs) (w : World) (h : Rep w b g c l) (h' : Rep w b' g' c' l') (hn : l.length ≤ 1024) : Calls Try.prog 17 #[bx b, bx b'] w fun e w' => e = .returned (.bool (decide (l = l'))) ∧ Below w.heap.size w w' := by
  have h1 := Lib.hid (there_at b _ _ _ w h.cel)
  have h2 := Lib.hid (there_at b' _ _ _ w h'.cel)
  have c1 := h.cel
  have c2 := h'.cel
  have hq := Lib.hid (fun n => equal_q (csame_any l l' (some ⟨g, 0, none⟩) (some ⟨g', 0, none⟩) c c' l.length l'.length (w.drewN n) rfl rfl (by omega) h.row.sees h'.row.sees))
  obtain ⟨q, hqq⟩ : ∃ q, q = decide (l = l') := ⟨_, rfl⟩
  obtain ⟨n, hln⟩ : ∃ n, n = l.length := ⟨_, rfl⟩
  obtain ⟨n', hln'⟩ : ∃ n, n = l'.length := ⟨_, rfl⟩
  rw [← hqq, ← hln, ← hln'] at hq
  rw [← hqq]
  rw [← hln] at c1
  rw [← hln'] at c2
  clear h h' hqq hln hln' hn
  go_enter Try.func17, Try.ntmps17
  go_wp2_with fail
  refine (h1.out).mono ?_
  rintro e w1 ⟨rfl, rfl⟩
  go_wp2_with fail
  refine (h2.out).mono ?_
  rintro e w1 ⟨rfl, rfl⟩
  go_wp2_with fail
  go_quiet ((go_at_call 34; exact hq.out _))
  go_wp2
  go_ret
  exact ⟨rfl, below_drewN (Below.refl _ _) _⟩
end Go.Proofs.Ytijgkjliienjhaa
