import Derived.Test.YtfmbfojlopibnaaDoorHalf
import Derived.Deep.RegionHeld3
namespace Go.Proofs.YtfmbfojlopibnaaDoor
open Go.RowKit Go.Shelf
attribute [local go_sem] Oper.semAt_some

/- A ROUND: ITS NUMBER, WHAT IT DOES. -/

theorem u32_info : (Tryd.prog.info? 23).map (fun i => (i.zero, i.size, i.bytes)) = some (some (.int .u32 0), 1, 4) := by kernel_rfl
theorem half_high (a b : Value) (W : World) : (Instr.index 97 (.agg #[a, b]) (.int .i64 0)).run Tryd.prog W = .ok a W := by
  obtain ⟨i0, hi, hz0, hz1, hz2⟩ := info_parts u32_info
  simp [Instr.index, run_underlying Tryd.underlying97, asIntOf, sizeOf, typeInfo, hi, hz1, part, go_sem]
theorem half_low (a b : Value) (W : World) : (Instr.index 97 (.agg #[a, b]) (.int .i64 1)).run Tryd.prog W = .ok b W := by
  obtain ⟨i0, hi, hz0, hz1, hz2⟩ := info_parts u32_info
  simp [Instr.index, run_underlying Tryd.underlying97, asIntOf, sizeOf, typeInfo, hi, hz1, part, go_sem]

set_option maxHeartbeats 2000000 in
theorem number_any (k n : Nat) (w : World) (hk : k < 18446744073709551616) (hn : n < 8) : Calls Tryd.prog 77 #[.agg #[.int .u64 (k : Int), .int .i64 (n : Int)]] w fun e w' => e = .returned (.int .u32 (rnum k n : Int)) ∧ Below w.heap.size w w' := by
  obtain ⟨r, hr⟩ : ∃ r, r = rnum k n := ⟨_, rfl⟩
  obtain ⟨a, ha⟩ : ∃ a, a = (halvesN k).1 := ⟨_, rfl⟩
  obtain ⟨b, hb⟩ : ∃ b, b = (halvesN k).2 := ⟨_, rfl⟩
  have hw := below1 w (.cells #[.int .u64 (k : Int), .int .i64 (n : Int)] 101)
  obtain ⟨w0, hw0⟩ : ∃ w0, w0 = w.alloc (.cells #[.int .u64 (k : Int), .int .i64 (n : Int)] 101) := ⟨_, rfl⟩
  have hz0 : w0.heap.size = w.heap.size + 1 := by rw [hw0]; simp
  have hr0 : Row w0 w.heap.size 101 [.int .u64 (k : Int), .int .i64 (n : Int)] := by rw [hw0]; exact Row.new _ _ _
  rw [← hw0] at hw
  have x0 : w0.cell? ⟨w.heap.size, 0, none⟩ = some (.int .u64 (k : Int)) := hr0.cell 0
  have x1 : w0.cell? ⟨w.heap.size, 1, none⟩ = some (.int .i64 (n : Int)) := hr0.cell 1
  have hh := Lib.hid (fun (W : World) (hb : Below w0.heap.size w0 W) => (show Calls Tryd.prog 74 #[.int .u64 (k : Int)] W (fun e w' => e = .returned (.agg #[.int .u32 ((halvesN k).1 : Int), .int .u32 ((halvesN k).2 : Int)]) ∧ Below w0.heap.size w0 w') from
    (halves_any k W hk).mono fun e w' ⟨h1, h2⟩ => ⟨h1, hb.trans (h2.mono hb.size)⟩))
  rw [← ha, ← hb] at hh
  have HSA := Lib.hid (fun W (hb : Below w0.heap.size w0 W) => (show W.cell? ⟨w.heap.size, 0, none⟩ = some (.int .u64 (k : Int)) ∧ W.cell? ⟨w.heap.size, 1, none⟩ = some (.int .i64 (n : Int)) ∧ Below w0.heap.size w0 W from
    ⟨(hb.cell (p := ⟨w.heap.size, 0, none⟩) (by simp; omega)).trans x0, (hb.cell (p := ⟨w.heap.size, 1, none⟩) (by simp; omega)).trans x1, hb⟩))
  have hdr := Lib.hid (show Below w0.heap.size w0 w0.drew from (Below.refl _ _).drew)
  have hfin := Lib.hid (fun (W : World) (hb : Below w0.heap.size w0 W) => (show Below w.heap.size w W from hw.trans (hb.mono hw.size)))
  rw [← hr]
  have i0 := half_high (.int .u32 (a : Int)) (.int .u32 (b : Int))
  have i1 := half_low (.int .u32 (a : Int)) (.int .u32 (b : Int))
  by_cases hp : n % 2 = 1
  · have e0 : ((n : Int) % 2 == 1) = true := by simp; omega
    have C3 := Lib.hid (show IntKind.u32.wrap ((a : Int) + IntKind.u32.wrap (IntKind.u32.wrap (n : Int) * 2654435769)) = (r : Int) by
      rw [hr, ha]; simp only [rnum, if_pos hp, halvesN, IntKind.wrap_u32]; omega)
    clear hr ha hb hw hr0 hz0
    go_enter Tryd.func77, Tryd.ntmps77
    go_wp2_with fail
    rw [← hw0]
    clear hw0
    go_region_held3 (fun W => W.cell? ⟨w.heap.size, 0, none⟩ = some (.int .u64 (k : Int)) ∧ W.cell? ⟨w.heap.size, 1, none⟩ = some (.int .i64 (n : Int)) ∧ Below w0.heap.size w0 W)
      (first | exact HSA.out _ hdr.out | (exact HSA.out _ (by assumption)) | (exact HSA.out _ (Below.drew (by assumption))) | (go_split_ands; exact HSA.out _ (by assumption)))
      (first | (go_at_call 74; refine (hh.out _ (by go_split_ands; assumption)).mono ?_; rintro e w2 ⟨rfl, hb2⟩))
    all_goals
      go_wp2
      go_ret
      exact ⟨by rw [C3.out]; rfl, hfin.out _ hb2⟩
  · have e0 : ((n : Int) % 2 == 1) = false := by simp; omega
    have C3 := Lib.hid (show IntKind.u32.wrap ((b : Int) + IntKind.u32.wrap (IntKind.u32.wrap (n : Int) * 2654435769)) = (r : Int) by
      rw [hr, hb]; simp only [rnum, if_neg hp, halvesN, IntKind.wrap_u32]; omega)
    clear hr ha hb hw hr0 hz0
    go_enter Tryd.func77, Tryd.ntmps77
    go_wp2_with fail
    rw [← hw0]
    clear hw0
    go_region_held3 (fun W => W.cell? ⟨w.heap.size, 0, none⟩ = some (.int .u64 (k : Int)) ∧ W.cell? ⟨w.heap.size, 1, none⟩ = some (.int .i64 (n : Int)) ∧ Below w0.heap.size w0 W)
      (first | exact HSA.out _ hdr.out | (exact HSA.out _ (by assumption)) | (exact HSA.out _ (Below.drew (by assumption))) | (go_split_ands; exact HSA.out _ (by assumption)))
      (first | (go_at_call 74; refine (hh.out _ (by go_split_ands; assumption)).mono ?_; rintro e w2 ⟨rfl, hb2⟩))
    all_goals
      go_wp2
      go_ret
      exact ⟨by rw [C3.out]; rfl, hfin.out _ hb2⟩

set_option maxHeartbeats 2000000 in
theorem mixed_any (a b by_ : Nat) (w : World) (ha : a < 4294967296) : Calls Tryd.prog 67 #[.agg #[.int .u32 (a : Int), .int .u32 (b : Int)], .int .u32 (by_ : Int)] w fun e w' =>
    e = .returned (.agg #[.int .u32 ((mixedN (a, b) by_).1 : Int), .int .u32 ((mixedN (a, b) by_).2 : Int)]) ∧ Below w.heap.size w w' := by
  have hx := Lib.hid (xor32 a (stirN b by_) ha (stirN_lt _ _))
  rw [show (mixedN (a, b) by_).1 = b from rfl, show (mixedN (a, b) by_).2 = a ^^^ stirN b by_ from rfl]
  obtain ⟨x, hxx⟩ : ∃ x, x = a ^^^ stirN b by_ := ⟨_, rfl⟩
  rw [← hxx] at hx ⊢
  obtain ⟨w0, hw0⟩ : ∃ w0, w0 = (w.alloc (.cells #[.int .u32 (a : Int), .int .u32 (b : Int)] 97)).alloc (.cells #[.int .u32 0, .int .u32 0] 97) := ⟨_, rfl⟩
  have hz0 : w0.heap.size = w.heap.size + 2 := by rw [hw0]; simp
  have hw : Below w.heap.size w w0 := by rw [hw0]; exact below2 _ _ _
  have hr0 : Row w0 w.heap.size 97 [.int .u32 (a : Int), .int .u32 (b : Int)] := by rw [hw0]; exact (Row.new _ _ _).below (below1 _ _)
  have hr1 : Row w0 (w.heap.size + 1) 97 [.int .u32 0, .int .u32 0] := by rw [hw0]; exact Row.new_at _ _ _ (by simp)
  have x0 : w0.cell? ⟨w.heap.size, 0, none⟩ = some (.int .u32 (a : Int)) := hr0.cell 0
  have x1 : w0.cell? ⟨w.heap.size, 1, none⟩ = some (.int .u32 (b : Int)) := hr0.cell 1
  have y0 : w0.cell? ⟨w.heap.size + 1, 0, none⟩ = some (.int .u32 0) := hr1.cell 0
  have y1 : w0.cell? ⟨w.heap.size + 1, 1, none⟩ = some (.int .u32 0) := hr1.cell 1
  have f0 : w0.frozen? ⟨w.heap.size + 1, 0, none⟩ = false := hr1.frozen 0
  have f1 : w0.frozen? ⟨w.heap.size + 1, 1, none⟩ = false := hr1.frozen 1
  have hs := Lib.hid (fun W => stir_any b by_ W)
  obtain ⟨y, hy⟩ : ∃ y, y = stirN b by_ := ⟨_, rfl⟩
  rw [← hy] at hs hx
  have hx := hx.out
  have HW := Lib.hid hw
  have HR := Lib.hid hr1
  clear hxx hy hr0 hr1 hw
  go_enter Tryd.func67, Tryd.ntmps67
  go_wp2_with fail
  rw [← hw0]
  clear hw0
  go_region_held3 (fun W => W.cell? ⟨w.heap.size, 0, none⟩ = some (.int .u32 (a : Int)) ∧ W.cell? ⟨w.heap.size, 1, none⟩ = some (.int .u32 (b : Int))) (first | go_keep | trivial)
    (first | (go_at_call 78; refine (hs.out _).mono ?_; rintro e w2 ⟨rfl, rfl⟩))
  all_goals
    go_wp2
    obtain ⟨W', hW'⟩ : ∃ W', W' = ((w0.setCell ⟨w.heap.size + 1, 0, none⟩ (.int .u32 (b : Int))).setCell ⟨w.heap.size + 1, 1, none⟩ (.int .u32 (x : Int))).drew := ⟨_, rfl⟩
    have HB : Below w.heap.size w W' := by rw [hW']; exact ((HW.out.setCell (by simp) _).setCell (by simp) _).drew
    have HR2 : Row W' (w.heap.size + 1) 97 [.int .u32 (b : Int), .int .u32 (x : Int)] := by rw [hW']; exact (HR.out.set 0 (.int .u32 (b : Int))).set 1 (.int .u32 (x : Int))
    rw [← hW']
    have d0 : W'.cell? ⟨w.heap.size + 1, 0, none⟩ = _ := HR2.cell 0
    have d1 : W'.cell? ⟨w.heap.size + 1, 1, none⟩ = _ := HR2.cell 1
    exact bodyPost_ret (v := .agg #[.int .u32 (b : Int), .int .u32 (x : Int)]) (by simp [results, Tryd.results67, go_sem, d0, d1]) rfl ⟨rfl, HB⟩
set_option maxHeartbeats 2000000 in
theorem undone_any (a b by_ : Nat) (w : World) (hb : b < 4294967296) : Calls Tryd.prog 61 #[.agg #[.int .u32 (a : Int), .int .u32 (b : Int)], .int .u32 (by_ : Int)] w fun e w' =>
    e = .returned (.agg #[.int .u32 ((undoneN (a, b) by_).1 : Int), .int .u32 ((undoneN (a, b) by_).2 : Int)]) ∧ Below w.heap.size w w' := by
  have hx := Lib.hid (xor32 b (stirN a by_) hb (stirN_lt _ _))
  rw [show (undoneN (a, b) by_).1 = b ^^^ stirN a by_ from rfl, show (undoneN (a, b) by_).2 = a from rfl]
  obtain ⟨x, hxx⟩ : ∃ x, x = b ^^^ stirN a by_ := ⟨_, rfl⟩
  rw [← hxx] at hx ⊢
  obtain ⟨w0, hw0⟩ : ∃ w0, w0 = (w.alloc (.cells #[.int .u32 (a : Int), .int .u32 (b : Int)] 97)).alloc (.cells #[.int .u32 0, .int .u32 0] 97) := ⟨_, rfl⟩
  have hz0 : w0.heap.size = w.heap.size + 2 := by rw [hw0]; simp
  have hw : Below w.heap.size w w0 := by rw [hw0]; exact below2 _ _ _
  have hr0 : Row w0 w.heap.size 97 [.int .u32 (a : Int), .int .u32 (b : Int)] := by rw [hw0]; exact (Row.new _ _ _).below (below1 _ _)
  have hr1 : Row w0 (w.heap.size + 1) 97 [.int .u32 0, .int .u32 0] := by rw [hw0]; exact Row.new_at _ _ _ (by simp)
  have x0 : w0.cell? ⟨w.heap.size, 0, none⟩ = some (.int .u32 (a : Int)) := hr0.cell 0
  have x1 : w0.cell? ⟨w.heap.size, 1, none⟩ = some (.int .u32 (b : Int)) := hr0.cell 1
  have y0 : w0.cell? ⟨w.heap.size + 1, 0, none⟩ = some (.int .u32 0) := hr1.cell 0
  have y1 : w0.cell? ⟨w.heap.size + 1, 1, none⟩ = some (.int .u32 0) := hr1.cell 1
  have f0 : w0.frozen? ⟨w.heap.size + 1, 0, none⟩ = false := hr1.frozen 0
  have f1 : w0.frozen? ⟨w.heap.size + 1, 1, none⟩ = false := hr1.frozen 1
  have hs := Lib.hid (fun W => stir_any a by_ W)
  obtain ⟨y, hy⟩ : ∃ y, y = stirN a by_ := ⟨_, rfl⟩
  rw [← hy] at hs hx
  have hx := hx.out
  have HW := Lib.hid hw
  have HR := Lib.hid hr1
  clear hxx hy hr0 hr1 hw
  go_enter Tryd.func61, Tryd.ntmps61
  go_wp2_with fail
  rw [← hw0]
  clear hw0
  go_region_held3 (fun W => W.cell? ⟨w.heap.size, 0, none⟩ = some (.int .u32 (a : Int)) ∧ W.cell? ⟨w.heap.size, 1, none⟩ = some (.int .u32 (b : Int))) (first | go_keep | trivial)
    (first | (go_at_call 78; refine (hs.out _).mono ?_; rintro e w2 ⟨rfl, rfl⟩))
  all_goals
    go_wp2
    obtain ⟨W', hW'⟩ : ∃ W', W' = ((w0.setCell ⟨w.heap.size + 1, 0, none⟩ (.int .u32 (x : Int))).setCell ⟨w.heap.size + 1, 1, none⟩ (.int .u32 (a : Int))).drew := ⟨_, rfl⟩
    have HB : Below w.heap.size w W' := by rw [hW']; exact ((HW.out.setCell (by simp) _).setCell (by simp) _).drew
    have HR2 : Row W' (w.heap.size + 1) 97 [.int .u32 (x : Int), .int .u32 (a : Int)] := by rw [hW']; exact (HR.out.set 0 (.int .u32 (x : Int))).set 1 (.int .u32 (a : Int))
    rw [← hW']
    have d0 : W'.cell? ⟨w.heap.size + 1, 0, none⟩ = _ := HR2.cell 0
    have d1 : W'.cell? ⟨w.heap.size + 1, 1, none⟩ = _ := HR2.cell 1
    exact bodyPost_ret (v := .agg #[.int .u32 (x : Int), .int .u32 (a : Int)]) (by simp [results, Tryd.results61, go_sem, d0, d1]) rfl ⟨rfl, HB⟩

/-- the halves that stand there -/
def Rh (w : World) (g : Nat) (h : Nat × Nat) : Prop := Row w g 97 [.int .u32 (h.1 : Int), .int .u32 (h.2 : Int)] ∧ Half h
/-- what a closure does with a round's number: it makes f of the halves that stand in block g -/
def Does (cf g : Nat) (f : Nat × Nat → Nat → Nat × Nat) : Prop :=
  ∀ (h : Nat × Nat) (b : Nat) (W : World), Rh W g h → Calls Tryd.prog cf #[.int .u32 (b : Int), .pointer (some ⟨g, 0, none⟩)] W fun e W' => e = .returned (.tuple #[]) ∧ Rh W' g (f h b) ∧ Keep (· = g) W W'
theorem mix1_does (g : Nat) : Does 66 g mixedN := by
  rintro ⟨a, b⟩ n W ⟨hr, ha, hb⟩
  have hm := Lib.hid (mixed_any a b n W ha)
  have x0 : W.cell? ⟨g, 0, none⟩ = some (.int .u32 (a : Int)) := hr.cell 0
  have x1 : W.cell? ⟨g, 1, none⟩ = some (.int .u32 (b : Int)) := hr.cell 1
  have HH := mixed_half (h := (a, b)) ⟨ha, hb⟩ n
  obtain ⟨h', hh⟩ : ∃ h', h' = mixedN (a, b) n := ⟨_, rfl⟩
  rw [← hh] at hm HH ⊢
  obtain ⟨c, d⟩ := h'
  simp only at hm
  clear hh
  go_enter Tryd.func66, Tryd.ntmps66
  go_wp2_with fail
  refine (hm.out).mono ?_
  rintro e w1 ⟨rfl, hb1⟩
  have hr1 := hr.below hb1
  have y0 : w1.cell? ⟨g, 0, none⟩ = some (.int .u32 (a : Int)) := hr1.cell 0
  have y1 : w1.cell? ⟨g, 1, none⟩ = some (.int .u32 (b : Int)) := hr1.cell 1
  have f0 := hr1.frozen 0
  have f1 := hr1.frozen 1
  have hfin := Lib.hid (show Rh ((w1.setCell ⟨g, 0, none⟩ (.int .u32 (c : Int))).setCell ⟨g, 1, none⟩ (.int .u32 (d : Int))) g (c, d) ∧ Keep (· = g) W ((w1.setCell ⟨g, 0, none⟩ (.int .u32 (c : Int))).setCell ⟨g, 1, none⟩ (.int .u32 (d : Int))) from
    ⟨⟨(hr1.set 0 (.int .u32 (c : Int))).set 1 (.int .u32 (d : Int)), HH⟩, ((Keep.of_below (F := (· = g)) hb1).set _ (.inl (show g = g from rfl))).set _ (.inl (show g = g from rfl))⟩)
  clear hr hr1 hb1 HH ha hb
  go_wp2_with fail
  go_end0
  exact ⟨rfl, hfin.out⟩
theorem undo1_does (g : Nat) : Does 60 g undoneN := by
  rintro ⟨a, b⟩ n W ⟨hr, ha, hb⟩
  have hm := Lib.hid (undone_any a b n W hb)
  have x0 : W.cell? ⟨g, 0, none⟩ = some (.int .u32 (a : Int)) := hr.cell 0
  have x1 : W.cell? ⟨g, 1, none⟩ = some (.int .u32 (b : Int)) := hr.cell 1
  have HH := undone_half (h := (a, b)) ⟨ha, hb⟩ n
  obtain ⟨h', hh⟩ : ∃ h', h' = undoneN (a, b) n := ⟨_, rfl⟩
  rw [← hh] at hm HH ⊢
  obtain ⟨c, d⟩ := h'
  simp only at hm
  clear hh
  go_enter Tryd.func60, Tryd.ntmps60
  go_wp2_with fail
  refine (hm.out).mono ?_
  rintro e w1 ⟨rfl, hb1⟩
  have hr1 := hr.below hb1
  have y0 : w1.cell? ⟨g, 0, none⟩ = some (.int .u32 (a : Int)) := hr1.cell 0
  have y1 : w1.cell? ⟨g, 1, none⟩ = some (.int .u32 (b : Int)) := hr1.cell 1
  have f0 := hr1.frozen 0
  have f1 := hr1.frozen 1
  have hfin := Lib.hid (show Rh ((w1.setCell ⟨g, 0, none⟩ (.int .u32 (c : Int))).setCell ⟨g, 1, none⟩ (.int .u32 (d : Int))) g (c, d) ∧ Keep (· = g) W ((w1.setCell ⟨g, 0, none⟩ (.int .u32 (c : Int))).setCell ⟨g, 1, none⟩ (.int .u32 (d : Int))) from
    ⟨⟨(hr1.set 0 (.int .u32 (c : Int))).set 1 (.int .u32 (d : Int)), HH⟩, ((Keep.of_below (F := (· = g)) hb1).set _ (.inl (show g = g from rfl))).set _ (.inl (show g = g from rfl))⟩)
  clear hr hr1 hb1 HH ha hb
  go_wp2_with fail
  go_end0
  exact ⟨rfl, hfin.out⟩
end Go.Proofs.YtfmbfojlopibnaaDoor
