import Derived.Test.YtbiopegophdgiaaDoorLawP
namespace Go.Proofs.YtbiopegophdgiaaDoor
open Go.RowKit Go.Shelf
attribute [local go_sem] Oper.semAt_some

/- BITSCOPIES. -/

/-- two calls -/
abbrev twoV (c0 : Bool) (a0 : Int) (i0 : Bool) (c1 : Bool) (a1 : Int) (i1 : Bool) : Value := .agg #[.bool c0, .int .i64 a0, .bool i0, .bool c1, .int .i64 a1, .bool i1]

set_option maxRecDepth 100000 in
set_option maxHeartbeats 2000000 in
theorem copies_long (s : ByteArray) (c0 : Bool) (a0 : Int) (i0 : Bool) (c1 : Bool) (a1 : Int) (i1 : Bool) (many : Int) (w : World) (ht : Tab w) (hs : s.size ≤ maxLen) (hl : 4096 < s.size) : Calls Tryd.prog 5 #[.string s, twoV c0 a0 i0 c1 a1 i1, .int .i64 many] w fun e w' => e = .returned (.bool true) ∧ Below w.heap.size w w' := by
  have HT := Lib.hid ht
  have hB0 := below2 w (.cells #[.bool c0, .int .i64 a0, .bool i0, .bool c1, .int .i64 a1, .bool i1] 57) (.cells #[.int .i64 many] 3)
  have hmc : ∀ W, Below ((w.alloc (.cells #[.bool c0, .int .i64 a0, .bool i0, .bool c1, .int .i64 a1, .bool i1] 57)).alloc (.cells #[.int .i64 many] 3)).heap.size ((w.alloc (.cells #[.bool c0, .int .i64 a0, .bool i0, .bool c1, .int .i64 a1, .bool i1] 57)).alloc (.cells #[.int .i64 many] 3)) W → W.cell? ⟨w.heap.size + 1, 0, none⟩ = some (.int .i64 many) := fun W hb =>
    (hb.cell (p := ⟨w.heap.size + 1, 0, none⟩) (by simp)).trans (cell_new_at _ _ _ _ (by simp))
  have HMC := Lib.hid hmc
  have e1 : decide (300 < s.size) = true := decide_eq_true (by omega)
  have e2 : decide ((300 : Int) < (s.size : Int)) = true := decide_eq_true (by omega)
  have hp := Lib.hid (fun w => parse_long s w hs hl)
  have hq := Lib.hid (fun w => refparse_long s w hs hl)
  clear hl hs
  clear ht hmc
  go_enter Tryd.func5, Tryd.ntmps5
  go_wp2_with fail
  refine (hp.out _).mono ?_
  rintro e w1 ⟨rfl, hb1⟩
  go_wp2_with fail
  refine (hq.out _).mono ?_
  rintro e w2 ⟨rfl, hb2'⟩
  have hb2 := below0 hb1 hb2'
  clear hb1 hb2'
  have hB2 := hB0.trans (hb2.mono hB0.size)
  have hmm := HMC.out _ hb2
  clear hb2
  go_wp2_with fail
  refine (works_any _ (HT.out.below hB2)).mono ?_
  rintro e w8 ⟨rfl, hb8⟩
  have hB8 := below0 hB2 hb8
  go_wp2_with fail
  go_ret
  exact ⟨rfl, hB8⟩

set_option maxRecDepth 100000 in
set_option maxHeartbeats 2000000 in
theorem copies_bign (s : ByteArray) (c0 : Bool) (a0 : Int) (i0 : Bool) (c1 : Bool) (a1 : Int) (i1 : Bool) (many : Int) (w : World) (ht : Tab w) (hl : 300 < s.size) (hl2 : s.size ≤ 4096) (hpp : parsed s.data.toList = none) : Calls Tryd.prog 5 #[.string s, twoV c0 a0 i0 c1 a1 i1, .int .i64 many] w fun e w' => e = .returned (.bool true) ∧ Below w.heap.size w w' := by
  have HT := Lib.hid ht
  have hB0 := below2 w (.cells #[.bool c0, .int .i64 a0, .bool i0, .bool c1, .int .i64 a1, .bool i1] 57) (.cells #[.int .i64 many] 3)
  have hmc : ∀ W, Below ((w.alloc (.cells #[.bool c0, .int .i64 a0, .bool i0, .bool c1, .int .i64 a1, .bool i1] 57)).alloc (.cells #[.int .i64 many] 3)).heap.size ((w.alloc (.cells #[.bool c0, .int .i64 a0, .bool i0, .bool c1, .int .i64 a1, .bool i1] 57)).alloc (.cells #[.int .i64 many] 3)) W → W.cell? ⟨w.heap.size + 1, 0, none⟩ = some (.int .i64 many) := fun W hb =>
    (hb.cell (p := ⟨w.heap.size + 1, 0, none⟩) (by simp)).trans (cell_new_at _ _ _ _ (by simp))
  have HMC := Lib.hid hmc
  have e1 : decide (300 < s.size) = true := decide_eq_true (by omega)
  have e2 : decide ((300 : Int) < (s.size : Int)) = true := decide_eq_true (by omega)
  have hp := Lib.hid (fun w => parse_any s w (by omega))
  have hq := Lib.hid (fun w => refparse_any s w (by omega))
  rw [hpp] at hp hq
  clear hpp
  clear hl
  clear ht hmc
  go_enter Tryd.func5, Tryd.ntmps5
  go_wp2_with fail
  refine (hp.out _).mono ?_
  rintro e w1 ⟨rfl, hb1⟩
  go_wp2_with fail
  refine (hq.out _).mono ?_
  rintro e w2 ⟨rfl, hb2'⟩
  have hb2 := below0 hb1 hb2'
  clear hb1 hb2'
  have hB2 := hB0.trans (hb2.mono hB0.size)
  have hmm := HMC.out _ hb2
  clear hb2
  go_wp2_with fail
  refine (works_any _ (HT.out.below hB2)).mono ?_
  rintro e w8 ⟨rfl, hb8⟩
  have hB8 := below0 hB2 hb8
  go_wp2_with fail
  go_ret
  exact ⟨rfl, hB8⟩

set_option maxRecDepth 100000 in
set_option maxHeartbeats 2000000 in
theorem copies_bigs (s : ByteArray) (c0 : Bool) (a0 : Int) (i0 : Bool) (c1 : Bool) (a1 : Int) (i1 : Bool) (many : Int) (w : World) (ht : Tab w) (l : List Bool) (hl : 300 < s.size) (hl2 : s.size ≤ 4096) (hpp : parsed s.data.toList = some l) : Calls Tryd.prog 5 #[.string s, twoV c0 a0 i0 c1 a1 i1, .int .i64 many] w fun e w' => e = .returned (.bool true) ∧ Below w.heap.size w w' := by
  have HT := Lib.hid ht
  have hB0 := below2 w (.cells #[.bool c0, .int .i64 a0, .bool i0, .bool c1, .int .i64 a1, .bool i1] 57) (.cells #[.int .i64 many] 3)
  have hmc : ∀ W, Below ((w.alloc (.cells #[.bool c0, .int .i64 a0, .bool i0, .bool c1, .int .i64 a1, .bool i1] 57)).alloc (.cells #[.int .i64 many] 3)).heap.size ((w.alloc (.cells #[.bool c0, .int .i64 a0, .bool i0, .bool c1, .int .i64 a1, .bool i1] 57)).alloc (.cells #[.int .i64 many] 3)) W → W.cell? ⟨w.heap.size + 1, 0, none⟩ = some (.int .i64 many) := fun W hb =>
    (hb.cell (p := ⟨w.heap.size + 1, 0, none⟩) (by simp)).trans (cell_new_at _ _ _ _ (by simp))
  have HMC := Lib.hid hmc
  have e1 : decide (300 < s.size) = true := decide_eq_true (by omega)
  have e2 : decide ((300 : Int) < (s.size : Int)) = true := decide_eq_true (by omega)
  have hp := Lib.hid (fun w => parse_any s w (by omega))
  have hq := Lib.hid (fun w => refparse_any s w (by omega))
  rw [hpp] at hp hq
  clear hpp
  clear hl
  clear ht hmc
  go_enter Tryd.func5, Tryd.ntmps5
  go_wp2_with fail
  refine (hp.out _).mono ?_
  rintro e w1 ⟨b, g, rfl, _, _, _, hb1⟩
  go_wp2_with fail
  refine (hq.out _).mono ?_
  rintro e w2 ⟨v, rfl, _, hb2'⟩
  have hb2 := below0 hb1 hb2'
  clear hb1 hb2'
  have hB2 := hB0.trans (hb2.mono hB0.size)
  have hmm := HMC.out _ hb2
  clear hb2
  go_wp2_with fail
  refine (works_any _ (HT.out.below hB2)).mono ?_
  rintro e w8 ⟨rfl, hb8⟩
  have hB8 := below0 hB2 hb8
  go_wp2_with fail
  go_ret
  exact ⟨rfl, hB8⟩

set_option maxRecDepth 100000 in
set_option maxHeartbeats 2000000 in
theorem copies_none (s : ByteArray) (c0 : Bool) (a0 : Int) (i0 : Bool) (c1 : Bool) (a1 : Int) (i1 : Bool) (many : Int) (w : World) (ht : Tab w) (hl : s.size ≤ 300) (hpp : parsed s.data.toList = none) : Calls Tryd.prog 5 #[.string s, twoV c0 a0 i0 c1 a1 i1, .int .i64 many] w fun e w' => e = .returned (.bool true) ∧ Below w.heap.size w w' := by
  have HT := Lib.hid ht
  have hB0 := below2 w (.cells #[.bool c0, .int .i64 a0, .bool i0, .bool c1, .int .i64 a1, .bool i1] 57) (.cells #[.int .i64 many] 3)
  have hmc : ∀ W, Below ((w.alloc (.cells #[.bool c0, .int .i64 a0, .bool i0, .bool c1, .int .i64 a1, .bool i1] 57)).alloc (.cells #[.int .i64 many] 3)).heap.size ((w.alloc (.cells #[.bool c0, .int .i64 a0, .bool i0, .bool c1, .int .i64 a1, .bool i1] 57)).alloc (.cells #[.int .i64 many] 3)) W → W.cell? ⟨w.heap.size + 1, 0, none⟩ = some (.int .i64 many) := fun W hb =>
    (hb.cell (p := ⟨w.heap.size + 1, 0, none⟩) (by simp)).trans (cell_new_at _ _ _ _ (by simp))
  have HMC := Lib.hid hmc
  have e1 : decide (300 < s.size) = false := decide_eq_false (by omega)
  have e2 : decide ((300 : Int) < (s.size : Int)) = false := decide_eq_false (by omega)
  have hp := Lib.hid (fun w => parse_any s w (by omega))
  have hq := Lib.hid (fun w => refparse_any s w (by omega))
  rw [hpp] at hp hq
  clear hpp
  clear ht hmc
  go_enter Tryd.func5, Tryd.ntmps5
  go_wp2_with fail
  refine (hp.out _).mono ?_
  rintro e w1 ⟨rfl, hb1⟩
  go_wp2_with fail
  refine (hq.out _).mono ?_
  rintro e w2 ⟨rfl, hb2'⟩
  have hb2 := below0 hb1 hb2'
  clear hb1 hb2'
  have hB2 := hB0.trans (hb2.mono hB0.size)
  have hmm := HMC.out _ hb2
  clear hb2
  go_wp2_with fail
  refine (works_any _ (HT.out.below hB2)).mono ?_
  rintro e w8 ⟨rfl, hb8⟩
  have hB8 := below0 hB2 hb8
  go_wp2_with fail
  go_ret
  exact ⟨rfl, hB8⟩

set_option maxRecDepth 100000 in
set_option maxHeartbeats 2000000 in
theorem copies_less (s : ByteArray) (c0 : Bool) (a0 : Int) (i0 : Bool) (c1 : Bool) (a1 : Int) (i1 : Bool) (many : Int) (w : World) (ht : Tab w) (l : List Bool) (hl : s.size ≤ 300) (hpp : parsed s.data.toList = some l) (hm : many < 1) : Calls Tryd.prog 5 #[.string s, twoV c0 a0 i0 c1 a1 i1, .int .i64 many] w fun e w' => e = .returned (.bool true) ∧ Below w.heap.size w w' := by
  have HT := Lib.hid ht
  have hB0 := below2 w (.cells #[.bool c0, .int .i64 a0, .bool i0, .bool c1, .int .i64 a1, .bool i1] 57) (.cells #[.int .i64 many] 3)
  have hmc : ∀ W, Below ((w.alloc (.cells #[.bool c0, .int .i64 a0, .bool i0, .bool c1, .int .i64 a1, .bool i1] 57)).alloc (.cells #[.int .i64 many] 3)).heap.size ((w.alloc (.cells #[.bool c0, .int .i64 a0, .bool i0, .bool c1, .int .i64 a1, .bool i1] 57)).alloc (.cells #[.int .i64 many] 3)) W → W.cell? ⟨w.heap.size + 1, 0, none⟩ = some (.int .i64 many) := fun W hb =>
    (hb.cell (p := ⟨w.heap.size + 1, 0, none⟩) (by simp)).trans (cell_new_at _ _ _ _ (by simp))
  have HMC := Lib.hid hmc
  have e1 : decide (300 < s.size) = false := decide_eq_false (by omega)
  have e2 : decide ((300 : Int) < (s.size : Int)) = false := decide_eq_false (by omega)
  have hp := Lib.hid (fun w => parse_any s w (by omega))
  have hq := Lib.hid (fun w => refparse_any s w (by omega))
  rw [hpp] at hp hq
  clear hpp
  have e3 : decide (many < 1) = true := decide_eq_true hm
  clear hm
  clear ht hmc
  go_enter Tryd.func5, Tryd.ntmps5
  go_wp2_with fail
  refine (hp.out _).mono ?_
  rintro e w1 ⟨b, g, rfl, _, _, _, hb1⟩
  go_wp2_with fail
  refine (hq.out _).mono ?_
  rintro e w2 ⟨v, rfl, _, hb2'⟩
  have hb2 := below0 hb1 hb2'
  clear hb1 hb2'
  have hB2 := hB0.trans (hb2.mono hB0.size)
  have hmm := HMC.out _ hb2
  clear hb2
  go_wp2_with fail
  refine (works_any _ (HT.out.below hB2)).mono ?_
  rintro e w8 ⟨rfl, hb8⟩
  have hB8 := below0 hB2 hb8
  go_wp2_with fail
  go_ret
  exact ⟨rfl, hB8⟩

set_option maxRecDepth 100000 in
set_option maxHeartbeats 2000000 in
theorem copies_more (s : ByteArray) (c0 : Bool) (a0 : Int) (i0 : Bool) (c1 : Bool) (a1 : Int) (i1 : Bool) (many : Int) (w : World) (ht : Tab w) (l : List Bool) (hl : s.size ≤ 300) (hpp : parsed s.data.toList = some l) (hm : 300 < many) : Calls Tryd.prog 5 #[.string s, twoV c0 a0 i0 c1 a1 i1, .int .i64 many] w fun e w' => e = .returned (.bool true) ∧ Below w.heap.size w w' := by
  have HT := Lib.hid ht
  have hB0 := below2 w (.cells #[.bool c0, .int .i64 a0, .bool i0, .bool c1, .int .i64 a1, .bool i1] 57) (.cells #[.int .i64 many] 3)
  have hmc : ∀ W, Below ((w.alloc (.cells #[.bool c0, .int .i64 a0, .bool i0, .bool c1, .int .i64 a1, .bool i1] 57)).alloc (.cells #[.int .i64 many] 3)).heap.size ((w.alloc (.cells #[.bool c0, .int .i64 a0, .bool i0, .bool c1, .int .i64 a1, .bool i1] 57)).alloc (.cells #[.int .i64 many] 3)) W → W.cell? ⟨w.heap.size + 1, 0, none⟩ = some (.int .i64 many) := fun W hb =>
    (hb.cell (p := ⟨w.heap.size + 1, 0, none⟩) (by simp)).trans (cell_new_at _ _ _ _ (by simp))
  have HMC := Lib.hid hmc
  have e1 : decide (300 < s.size) = false := decide_eq_false (by omega)
  have e2 : decide ((300 : Int) < (s.size : Int)) = false := decide_eq_false (by omega)
  have hp := Lib.hid (fun w => parse_any s w (by omega))
  have hq := Lib.hid (fun w => refparse_any s w (by omega))
  rw [hpp] at hp hq
  clear hpp
  have e3 : decide (many < 1) = false := decide_eq_false (by omega)
  have e4 : decide (300 < many) = true := decide_eq_true hm
  clear hm
  clear ht hmc
  go_enter Tryd.func5, Tryd.ntmps5
  go_wp2_with fail
  refine (hp.out _).mono ?_
  rintro e w1 ⟨b, g, rfl, _, _, _, hb1⟩
  go_wp2_with fail
  refine (hq.out _).mono ?_
  rintro e w2 ⟨v, rfl, _, hb2'⟩
  have hb2 := below0 hb1 hb2'
  clear hb1 hb2'
  have hB2 := hB0.trans (hb2.mono hB0.size)
  have hmm := HMC.out _ hb2
  clear hb2
  go_wp2_with fail
  refine (works_any _ (HT.out.below hB2)).mono ?_
  rintro e w8 ⟨rfl, hb8⟩
  have hB8 := below0 hB2 hb8
  go_wp2_with fail
  go_ret
  exact ⟨rfl, hB8⟩
end Go.Proofs.YtbiopegophdgiaaDoor
