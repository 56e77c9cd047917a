import Derived.Test.YtmocdokikcbjeaaLook
namespace Go.Proofs.Ytmocdokikcbjeaa
open Go.RowKit Go.Shelf Go.Maps
attribute [local go_sem] Oper.semAt_some

/- NEW; GET; LEN. -/
theorem new_rep (w : World) : Rep (((w.alloc (.map #[] 0)).alloc (.map #[] 0)).alloc (.cells #[.map (some w.heap.size), .map (some (w.heap.size + 1))] 75)) (w.heap.size + 1 + 1) [] w.heap.size (w.heap.size + 1) := by
  refine ⟨Tok.nil, Row.new_at _ _ [.map (some w.heap.size), .map (some (w.heap.size + 1))] (by simp), ?_, ⟨.map [], ?_, Frs.nil⟩, by omega⟩
  · exact owns_same (owns_same ((World.ownsMap_made w Try.prog 3 entR).mono (Nat.zero_le _)) (Below.heap_alloc _ _ _ (by simp))) (Below.heap_alloc _ _ _ (by simp; omega))
  · have := World.ownsMap_made (w.alloc (.map #[] 0)) Try.prog 3 unitR
    rw [World.size_alloc] at this
    exact owns_same (this.mono (Nat.zero_le _)) (Below.heap_alloc _ _ _ (by simp))
set_option maxHeartbeats 1000000 in
theorem new_any (w : World) : Calls Try.prog 9 #[] w fun e w' => ∃ b F, e = .returned (bx b) ∧ Has w' b [] F ∧ (∀ k, F k → w.heap.size ≤ k) ∧ Below w.heap.size w w' := by
  have hmm := @run_makeMap Try.prog
  have hfin := Lib.hid (show ∃ b F, Ending.returned (bx (w.heap.size + 1 + 1)) = .returned (bx b) ∧ Has (((w.alloc (.map #[] 0)).alloc (.map #[] 0)).alloc (.cells #[.map (some w.heap.size), .map (some (w.heap.size + 1))] 75)) b [] F ∧ (∀ k, F k → w.heap.size ≤ k) ∧ Below w.heap.size w (((w.alloc (.map #[] 0)).alloc (.map #[] 0)).alloc (.cells #[.map (some w.heap.size), .map (some (w.heap.size + 1))] 75)) from by
    refine ⟨_, _, rfl, ⟨_, _, new_rep w, rfl⟩, ?_, below3 _ _ _ _⟩
    rintro k (rfl | rfl | rfl)
    · omega
    · omega
    · omega)
  go_enter Try.func9, Try.ntmps9
  go_wp2_with fail
  go_ret
  exact hfin.out

theorem get_non (v : Value) (z : Int) (w : World) (h : Non w v) : Calls Try.prog 27 #[v, .int .i64 z] w fun e w' => e = .returned (.tuple #[enV zeroEn, .bool false]) ∧ Below w.heap.size w w' := by
  have h1 := Lib.hid (fun V (hb : Below w.heap.size w V) => there_non v V (h.below hb))
  obtain ⟨pv, rfl⟩ : ∃ pv, v = .pointer pv := by
    rcases h with rfl | ⟨b, rfl, _⟩
    · exact ⟨_, rfl⟩
    · exact ⟨_, rfl⟩
  have hb := Lib.hid (below1 w (.cells #[.int .i64 0, .int .i64 0, .int .i64 0] 34))
  clear h
  go_enter Try.func27, Try.ntmps27
  go_wp2_with fail
  refine (h1.out _ hb.out).mono ?_
  rintro e w1 ⟨rfl, rfl⟩
  go_wp2_with fail
  exact bodyPost_ret (res_cell2 Try.results27 rfl (load_en1 w 0 0 0)) rfl ⟨rfl, hb.out⟩
theorem get_any {b bp bf : Nat} {l : Tb} {w : World} (h : Rep w b l bp bf) (z : Int) (hz : I64 z) : Calls Try.prog 27 #[bx b, .int .i64 z] w fun e w' => e = .returned (.tuple #[enV (getX l z), .bool (look l z).isSome]) ∧ Below w.heap.size w w' := by
  have hb1 := below1 w (.cells #[.int .i64 0, .int .i64 0, .int .i64 0] 34)
  have h1 := Lib.hid (there_map b bp (w.alloc (.cells #[.int .i64 0, .int .i64 0, .int .i64 0] 34)) (h.below hb1).c0)
  have c0 := h.c0
  have hm := (h.below hb1).pages
  have hlt := h.obj.lt
  have hkey := keyZ hz
  have hh := mapP_has l z
  have HL := Lib.hid (fun v ps h => (show v = .agg #[.int .i64 (getX l z).1, .int .i64 (getX l z).2.1, .int .i64 (getX l z).2.2] from look_en (l := l) (z := z) (v := v) (ps := ps) h))
  obtain ⟨q, hq⟩ : ∃ q, q = (look l z).isSome := ⟨_, rfl⟩
  rw [← hq] at hh ⊢
  obtain ⟨D, hD⟩ : ∃ D, D = mapP l := ⟨_, rfl⟩
  have hm : World.ownsMap (w.alloc (.cells #[.int .i64 0, .int .i64 0, .int .i64 0] 34)) Try.prog 3 entR bp 65536 D := by rw [hD]; exact hm
  rw [← hD] at hh HL
  obtain ⟨y, hy⟩ : ∃ y, y = getX l z := ⟨_, rfl⟩
  rw [← hy] at HL ⊢
  clear hD hq hy h
  obtain ⟨y1, y2, y3⟩ := y
  simp only at HL
  have HB := Lib.hid hb1
  have HE := Lib.hid (entR_en zeroEn)
  clear hb1
  go_enter Try.func27, Try.ntmps27
  go_wp2_with fail
  refine h1.out.mono ?_
  rintro e w1 ⟨rfl, rfl⟩
  go_wp2_with (at_lookup; refine wpList_lookup_own_ok _ rfl _ _ 70 rfl 3 34 law Try.underlying70 entR (zeroP _) (entD zeroEn) [] HE.out bp 65536 D rfl hm _ _ rfl hkey ?_; intro v ps hv; rw [hh]; obtain rfl := HL.out _ _ hv)
  exact bodyPost_ret (res_cell2 Try.results27 rfl (load_en2 w y1 y2 y3 _)) rfl ⟨rfl, below2 w _ _⟩
theorem len_non (v : Value) (w : World) (h : Non w v) : Calls Try.prog 25 #[v] w fun e w' => e = .returned (.int .i64 0) ∧ w = w' := by
  have h1 := Lib.hid (there_non v w h)
  obtain ⟨pv, rfl⟩ : ∃ pv, v = .pointer pv := by
    rcases h with rfl | ⟨b, rfl, _⟩
    · exact ⟨_, rfl⟩
    · exact ⟨_, rfl⟩
  clear h
  go_enter Try.func25, Try.ntmps25
  go_wp2_with fail
  refine h1.out.mono ?_
  rintro e w1 ⟨rfl, rfl⟩
  go_wp2_with fail
  go_ret
  exact ⟨rfl, rfl⟩
theorem len_any {b bp bf : Nat} {l : Tb} {w : World} (h : Rep w b l bp bf) : Calls Try.prog 25 #[bx b] w fun e w' => e = .returned (.int .i64 (l.length : Int)) ∧ w = w' := by
  have h1 := Lib.hid (there_map b bp w h.c0)
  have c0 := h.c0
  have hm := h.pages
  have hl := fun ty => World.ownsMap.len (t := 70) hm Try.underlying70 ty
  rw [mapP_size] at hl
  clear hm h
  go_enter Try.func25, Try.ntmps25
  go_wp2_with fail
  refine h1.out.mono ?_
  rintro e w1 ⟨rfl, rfl⟩
  go_wp2_with fail
  go_ret
  exact ⟨rfl, rfl⟩
end Go.Proofs.Ytmocdokikcbjeaa
