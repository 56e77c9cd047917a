import Derived.Test.YtfmbfojlopibnaaDoorBytes
namespace Go.Proofs.YtfmbfojlopibnaaDoor
open Go.RowKit Go.Shelf
attribute [local go_sem] Oper.semAt_some

/- HEADS, TAILS, CHECK. -/

set_option maxHeartbeats 1000000 in
theorem toldB_no (c s n : Int) (v : Value) (w : World) (h : okT c s = false) : Calls Tryd.prog 19 #[.agg #[.int .i64 c, .int .i64 s, .int .u32 n], v] w fun e w' => e = .returned (.tuple #[.slice none 0 0, .int .i64 2]) ∧ Below w.heap.size w w' := by
  have h1 := Lib.hid (fun W => tknown_any c s n W)
  rw [h] at h1
  clear h
  have hB0 := below2 w (.cells #[.int .i64 c, .int .i64 s, .int .u32 n] 27) (.cells #[.int .i64 c, .int .i64 s, .int .u32 n] 60)
  go_enter Tryd.func19, Tryd.ntmps19
  go_wp2_with fail
  refine wp_scope_jump 1 fun R hR hJm => ?_
  go_wp2_with fail
  refine (h1.out _).mono ?_
  rintro e w1 ⟨rfl, hb⟩
  have hB1 := below0 hB0 hb
  clear hB0 hb
  go_wp2_with fail
  refine wp_goto (hJm.out _ _ _ _ _ rfl ?_)
  go_wp2_with fail
  refine hR.out _ _ _ _ (by simp) ?_
  go_ret2
  exact ⟨rfl, hB1⟩
set_option maxHeartbeats 1000000 in
theorem toldN_no (c s n : Int) (v : Value) (w : World) (h : okT c s = false) : Calls Tryd.prog 22 #[.agg #[.int .i64 c, .int .i64 s, .int .u32 n], v] w fun e w' => e = .returned (.tuple #[.int .u64 0, .int .i64 2]) ∧ Below w.heap.size w w' := by
  have h1 := Lib.hid (fun W => tknown_any c s n W)
  rw [h] at h1
  clear h
  have hB0 := below2 w (.cells #[.int .i64 c, .int .i64 s, .int .u32 n] 27) (.cells #[.int .i64 c, .int .i64 s, .int .u32 n] 60)
  go_enter Tryd.func22, Tryd.ntmps22
  go_wp2_with fail
  refine wp_scope_jump 1 fun R hR hJm => ?_
  go_wp2_with fail
  refine (h1.out _).mono ?_
  rintro e w1 ⟨rfl, hb⟩
  have hB1 := below0 hB0 hb
  clear hB0 hb
  go_wp2_with fail
  refine wp_goto (hJm.out _ _ _ _ _ rfl ?_)
  go_wp2_with fail
  refine hR.out _ _ _ _ (by simp) ?_
  go_ret2
  exact ⟨rfl, hB1⟩
set_option maxHeartbeats 1000000 in
theorem toldS_no (c s n : Int) (v : Value) (w : World) (h : okT c s = false) : Calls Tryd.prog 33 #[.agg #[.int .i64 c, .int .i64 s, .int .u32 n], v] w fun e w' => e = .returned (.tuple #[.int .i64 0, .int .i64 2]) ∧ Below w.heap.size w w' := by
  have h1 := Lib.hid (fun W => tknown_any c s n W)
  rw [h] at h1
  clear h
  have hB0 := below2 w (.cells #[.int .i64 c, .int .i64 s, .int .u32 n] 27) (.cells #[.int .i64 c, .int .i64 s, .int .u32 n] 60)
  go_enter Tryd.func33, Tryd.ntmps33
  go_wp2_with fail
  refine wp_scope_jump 1 fun R hR hJm => ?_
  go_wp2_with fail
  refine (h1.out _).mono ?_
  rintro e w1 ⟨rfl, hb⟩
  have hB1 := below0 hB0 hb
  clear hB0 hb
  go_wp2_with fail
  refine wp_goto (hJm.out _ _ _ _ _ rfl ?_)
  go_wp2_with fail
  refine hR.out _ _ _ _ (by simp) ?_
  go_ret2
  exact ⟨rfl, hB1⟩

/-- bytes as many as a head's are told -/
def BytesP (w : World) (B : List UInt8) (e : Ending) (w' : World) : Prop := ∃ v, e = .returned (.tuple #[v, .int .i64 0]) ∧ w'.ownsRow w.heap.size 5 1 v 16 (byt B) ∧ Below w.heap.size w w'

set_option maxHeartbeats 1000000 in
theorem toldB_ok (c s n K g : Nat) (w : World) (ht : Tab w) (hc : c < 8) (hs : s ≤ 65535) (hn : n < 4294967296) (hK : K < 18446744073709551616) (hg : w.cell? ⟨g, 0, none⟩ = some (.int .u64 (K : Int))) :
    Calls Tryd.prog 19 #[.agg #[.int .i64 (c : Int), .int .i64 (s : Int), .int .u32 (n : Int)], .func (.func 49) #[] #[.pointer (some ⟨g, 0, none⟩)]] w (BytesP w (sealB K (tagW c s n))) := by
  have h1 := Lib.hid (fun W => tknown_any (c : Int) s n W)
  rw [okT_iff.2 (show (0 : Int) ≤ c ∧ (c : Int) < 8 ∧ (0 : Int) ≤ s ∧ (s : Int) ≤ 65535 by omega)] at h1
  obtain ⟨w0, hw0⟩ : ∃ w0, w0 = (w.alloc (.cells #[.int .i64 (c : Int), .int .i64 (s : Int), .int .u32 (n : Int)] 27)).alloc (.cells #[.int .i64 (c : Int), .int .i64 (s : Int), .int .u32 (n : Int)] 60) := ⟨_, rfl⟩
  have hB0 : Below w.heap.size w w0 := by rw [hw0]; exact below2 _ _ _
  have hr0 : Row w0 (w.heap.size + 1) 60 [.int .i64 (c : Int), .int .i64 (s : Int), .int .u32 (n : Int)] := by rw [hw0]; exact Row.new_at _ _ _ (by simp)
  have x0 : w0.cell? ⟨w.heap.size + 1, 0, none⟩ = some (.int .i64 (c : Int)) := hr0.cell 0
  have x1 : w0.cell? ⟨w.heap.size + 1, 1, none⟩ = some (.int .i64 (s : Int)) := hr0.cell 1
  have x2 : w0.cell? ⟨w.heap.size + 1, 2, none⟩ = some (.int .u32 (n : Int)) := hr0.cell 2
  have h2 := Lib.hid (fun W ht hg => sealing1_any c s n K g W ht hc hs hn hK hg)
  obtain ⟨B, hBB⟩ : ∃ B, B = sealB K (tagW c s n) := ⟨_, rfl⟩
  rw [← hBB] at h2 ⊢
  have hgl := lt_of_cell hg
  clear hc hs hn hK hBB
  go_enter Tryd.func19, Tryd.ntmps19
  go_wp2_with fail
  refine wp_scope_jump 1 fun R hR hJm => ?_
  go_wp2_with fail
  rw [← hw0]
  clear hw0
  refine (h1.out _).mono ?_
  rintro e w1 ⟨rfl, hb⟩
  have hr1 := hr0.below hb
  have hB1 := below0 hB0 hb
  have y0 : w1.cell? ⟨w.heap.size + 1, 0, none⟩ = some (.int .i64 (c : Int)) := hr1.cell 0
  have y1 : w1.cell? ⟨w.heap.size + 1, 1, none⟩ = some (.int .i64 (s : Int)) := hr1.cell 1
  have y2 : w1.cell? ⟨w.heap.size + 1, 2, none⟩ = some (.int .u32 (n : Int)) := hr1.cell 2
  have hg1 := (hB1.cell (p := ⟨g, 0, none⟩) hgl).trans hg
  have ht1 := ht.below hB1
  clear hr0 hb hB0 hr1
  go_wp2_with fail
  refine (h2.out _ ht1 hg1).mono ?_
  rintro e w2 ⟨v, rfl, ho, hb⟩
  have hs1 := hB1.size
  have hB2 := below0 hB1 hb
  go_wp2_with fail
  refine hR.out _ _ _ _ (by simp) ?_
  go_ret2
  exact ⟨v, rfl, own_mono ho hs1, hB2⟩
set_option maxHeartbeats 1000000 in
theorem toldN_ok (c s n : Nat) (w : World) (hc : c < 8) (hs : s ≤ 65535) (hn : n < 4294967296) :
    Calls Tryd.prog 22 #[.agg #[.int .i64 (c : Int), .int .i64 (s : Int), .int .u32 (n : Int)], .func (.func 23) #[] #[]] w fun e w' => e = .returned (.tuple #[.int .u64 (tagW c s n : Int), .int .i64 0]) ∧ Below w.heap.size w w' := by
  have h1 := Lib.hid (fun W => tknown_any (c : Int) s n W)
  rw [okT_iff.2 (show (0 : Int) ≤ c ∧ (c : Int) < 8 ∧ (0 : Int) ≤ s ∧ (s : Int) ≤ 65535 by omega)] at h1
  obtain ⟨w0, hw0⟩ : ∃ w0, w0 = (w.alloc (.cells #[.int .i64 (c : Int), .int .i64 (s : Int), .int .u32 (n : Int)] 27)).alloc (.cells #[.int .i64 (c : Int), .int .i64 (s : Int), .int .u32 (n : Int)] 60) := ⟨_, rfl⟩
  have hB0 : Below w.heap.size w w0 := by rw [hw0]; exact below2 _ _ _
  have hr0 : Row w0 (w.heap.size + 1) 60 [.int .i64 (c : Int), .int .i64 (s : Int), .int .u32 (n : Int)] := by rw [hw0]; exact Row.new_at _ _ _ (by simp)
  have x0 : w0.cell? ⟨w.heap.size + 1, 0, none⟩ = some (.int .i64 (c : Int)) := hr0.cell 0
  have x1 : w0.cell? ⟨w.heap.size + 1, 1, none⟩ = some (.int .i64 (s : Int)) := hr0.cell 1
  have x2 : w0.cell? ⟨w.heap.size + 1, 2, none⟩ = some (.int .u32 (n : Int)) := hr0.cell 2
  have h2 := Lib.hid (fun W => tword_any c s n W hc hs hn)
  obtain ⟨B, hBB⟩ : ∃ B, B = tagW c s n := ⟨_, rfl⟩
  rw [← hBB] at h2 ⊢
  clear hc hs hn hBB
  go_enter Tryd.func22, Tryd.ntmps22
  go_wp2_with fail
  refine wp_scope_jump 1 fun R hR hJm => ?_
  go_wp2_with fail
  rw [← hw0]
  clear hw0
  refine (h1.out _).mono ?_
  rintro e w1 ⟨rfl, hb⟩
  have hr1 := hr0.below hb
  have hB1 := below0 hB0 hb
  have y0 : w1.cell? ⟨w.heap.size + 1, 0, none⟩ = some (.int .i64 (c : Int)) := hr1.cell 0
  have y1 : w1.cell? ⟨w.heap.size + 1, 1, none⟩ = some (.int .i64 (s : Int)) := hr1.cell 1
  have y2 : w1.cell? ⟨w.heap.size + 1, 2, none⟩ = some (.int .u32 (n : Int)) := hr1.cell 2
  clear hr0 hb hB0 hr1
  go_wp2_with fail
  refine (h2.out _).mono ?_
  rintro e w2 ⟨rfl, hb⟩
  have hB2 := below0 hB1 hb
  go_wp2_with fail
  refine hR.out _ _ _ _ (by simp) ?_
  go_ret2
  exact ⟨rfl, hB2⟩

theorem check_no (c s n : Int) (w : World) (h : okT c s = false) : Calls Tryd.prog 9 #[.agg #[.int .i64 c, .int .i64 s, .int .u32 n]] w fun e w' => e = .returned (.int .i64 2) ∧ Below w.heap.size w w' := by
  have h1 := Lib.hid (fun v W => toldN_no c s n v W h)
  have hB0 := below1 w (.cells #[.int .i64 c, .int .i64 s, .int .u32 n] 27)
  clear h
  go_enter Tryd.func9, Tryd.ntmps9
  go_wp2_with fail
  refine (h1.out _ _).mono ?_
  rintro e w1 ⟨rfl, hb⟩
  have hB1 := below0 hB0 hb
  go_wp2_with fail
  go_ret
  exact ⟨rfl, hB1⟩
theorem check_ok (c s n : Nat) (w : World) (hc : c < 8) (hs : s ≤ 65535) (hn : n < 4294967296) : Calls Tryd.prog 9 #[.agg #[.int .i64 (c : Int), .int .i64 (s : Int), .int .u32 (n : Int)]] w fun e w' => e = .returned (.int .i64 0) ∧ Below w.heap.size w w' := by
  have h1 := Lib.hid (fun W => toldN_ok c s n W hc hs hn)
  have hB0 := below1 w (.cells #[.int .i64 (c : Int), .int .i64 (s : Int), .int .u32 (n : Int)] 27)
  clear hc hs hn
  go_enter Tryd.func9, Tryd.ntmps9
  go_wp2_with fail
  refine (h1.out _).mono ?_
  rintro e w1 ⟨rfl, hb⟩
  have hB1 := below0 hB0 hb
  go_wp2_with fail
  go_ret
  exact ⟨rfl, hB1⟩
end Go.Proofs.YtfmbfojlopibnaaDoor
