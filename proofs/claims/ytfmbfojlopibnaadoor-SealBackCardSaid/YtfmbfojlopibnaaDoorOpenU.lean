import Derived.Test.YtfmbfojlopibnaaDoorOpenT
namespace Go.Proofs.YtfmbfojlopibnaaDoor
open Go.RowKit Go.Shelf
attribute [local go_sem] Oper.semAt_some

/- OF BYTES AS MANY AS A HEAD HAS. -/

def OpenV (x y : Nat) : Value := if y = 18446744073709551615 - x ∧ x / 281474976710656 < 8 then .tuple #[.agg #[.int .i64 ((x / 281474976710656 : Nat) : Int), .int .i64 ((x / 4294967296 % 65536 : Nat) : Int), .int .u32 ((x % 4294967296 : Nat) : Int)], .int .i64 0]
  else .tuple #[.agg #[.int .i64 0, .int .i64 0, .int .u32 0], .int .i64 160]

set_option maxHeartbeats 4000000 in
theorem open_any (k at_ : Nat) (l : List UInt8) (A : Option Addr) (c : Nat) (w : World) (ht : Tab w) (hk : k < 18446744073709551616) (ha : at_ < 4294967296) (hl : l.length = 16) (hr : Sees w w.heap.size A (byt l)) :
    Calls Tryd.prog 15 #[.int .u64 (k : Int), .int .u32 (at_ : Int), .slice A 16 c] w fun e w' =>
      e = .returned (OpenV (undoN (foldN [k, at_]) (leVal (l.take 8))) (undoN (foldN [k, at_]) (leVal (l.drop 8)))) ∧ Below w.heap.size w w' := by
  have hKl : foldN [k, at_] < 18446744073709551616 := foldN_lt (fun x hx => by simp at hx; omega)
  obtain ⟨K, hKK⟩ : ∃ K, K = foldN [k, at_] := ⟨_, rfl⟩
  rw [← hKK] at hKl ⊢
  have hxl : leVal (l.take 8) < 18446744073709551616 := Nat.lt_of_lt_of_le (leVal_lt _) (by rw [List.length_take, hl]; decide)
  have hul := undoN_lt (key := K) hxl
  obtain ⟨w0, hw0⟩ : ∃ w0, w0 = ((w.alloc (.cells #[.int .i64 0, .int .i64 0, .int .u32 0] 27)).alloc (.cells #[.int .u64 0, .int .u64 0] 66)).alloc (.cells #[.int .i64 0, .int .i64 0, .int .u32 0] 60) := ⟨_, rfl⟩
  have hs0 : w0.heap.size = w.heap.size + 3 := by rw [hw0]; simp
  have hB0 : Below w.heap.size w w0 := by rw [hw0]; exact below3 _ _ _ _
  have hr0 : Row w0 w.heap.size 27 [.int .i64 0, .int .i64 0, .int .u32 0] := by rw [hw0]; exact ((Row.new _ _ _).below (below1 _ _)).below (below1 _ _)
  have hp0 : Row w0 (w.heap.size + 1) 66 [.int .u64 0, .int .u64 0] := by rw [hw0]; exact (Row.new_at _ _ _ (by simp)).below (below1 _ _)
  have hq0 : Row w0 (w.heap.size + 1 + 1) 60 [.int .i64 0, .int .i64 0, .int .u32 0] := by rw [hw0]; exact Row.new_at _ _ _ (by simp)
  obtain ⟨w1, hw1⟩ : ∃ w1, w1 = w0.alloc (.cells #[.int .u64 (k : Int), .int .u64 (at_ : Int)] 22) := ⟨_, rfl⟩
  have hb1 : Below w0.heap.size w0 w1 := by rw [hw1]; exact below1 _ _
  have hB1 := hB0.trans (hb1.mono hB0.size)
  have h1 := Lib.hid (opening_any k at_ w0.heap.size 2 w1 hk (by omega) 22 (by rw [hw1]; exact Row.new _ _ _))
  rw [← hKK, hs0] at h1
  have h2 := Lib.hid (fun g W hB hg => opening1_any l A c K g W (ht.below hB) hl ((hr.below hB).more hB.size) hKl hg)
  obtain ⟨x, hx⟩ : ∃ x, x = undoN K (leVal (l.take 8)) := ⟨_, rfl⟩
  obtain ⟨y, hy⟩ : ∃ y, y = undoN K (leVal (l.drop 8)) := ⟨_, rfl⟩
  rw [← hx] at hul
  rw [← hx, ← hy] at h2 ⊢
  have h3 := Lib.hid (fun W => tagOf_any x W hul)
  have h4 := Lib.hid (fun W => matched_any x y W hul)
  have hok : okT ((x / 281474976710656 : Nat) : Int) ((x / 4294967296 % 65536 : Nat) : Int) = decide (x / 281474976710656 < 8) := by
    by_cases h : x / 281474976710656 < 8
    · rw [decide_eq_true h, okT_iff]
      omega
    · rw [decide_eq_false h]
      cases h2 : okT ((x / 281474976710656 : Nat) : Int) ((x / 4294967296 % 65536 : Nat) : Int)
      · rfl
      · rw [okT_iff] at h2; omega
  have hV : ∀ p q : Bool, decide (y = 18446744073709551615 - x) = p → decide (x / 281474976710656 < 8) = q → OpenV x y = if (p && q) = true then .tuple #[.agg #[.int .i64 ((x / 281474976710656 : Nat) : Int), .int .i64 ((x / 4294967296 % 65536 : Nat) : Int), .int .u32 ((x % 4294967296 : Nat) : Int)], .int .i64 0]
      else .tuple #[.agg #[.int .i64 0, .int .i64 0, .int .u32 0], .int .i64 160] := by
    rintro p q rfl rfl
    unfold OpenV
    by_cases h1 : y = 18446744073709551615 - x <;> by_cases h2 : x / 281474976710656 < 8 <;> simp [h1, h2]
  obtain ⟨p, hp⟩ : ∃ p, decide (y = 18446744073709551615 - x) = p := ⟨_, rfl⟩
  obtain ⟨q, hq⟩ : ∃ q, decide (x / 281474976710656 < 8) = q := ⟨_, rfl⟩
  rw [hq] at hok
  rw [hp] at h4
  have HV := Lib.hid (hV p q hp hq)
  rw [HV.out]
  have h5 := Lib.hid (fun n W => tknown_any ((x / 281474976710656 : Nat) : Int) ((x / 4294967296 % 65536 : Nat) : Int) n W)
  rw [hok] at h5
  obtain ⟨tc, htc⟩ : ∃ tc, tc = x / 281474976710656 := ⟨_, rfl⟩
  obtain ⟨ts, hts⟩ : ∃ ts, ts = x / 4294967296 % 65536 := ⟨_, rfl⟩
  obtain ⟨tn, htn⟩ : ∃ tn, tn = x % 4294967296 := ⟨_, rfl⟩
  rw [← htc, ← hts, ← htn] at h3 ⊢
  rw [← htc, ← hts] at h5
  clear HV hV hp hq hok htc hts htn hx hy hxl hul hKK hKl hl
  have HT := Lib.hid ht
  have HRR := Lib.hid hr
  clear ht hr
  go_enter Tryd.func15, Tryd.ntmps15
  go_wp2_with fail
  refine wp_scope_jump 1 fun R hR hJm => ?_
  go_wp2_with fail
  rw [← hw0]
  rw [← hw1]
  clear hw0 hw1
  refine (h1.out).mono ?_
  rintro e w2 ⟨v, rfl, ⟨g, rfl, hg1, hg⟩, hb⟩
  have hB2 := hB1.trans (hb.mono hB1.size)
  have hr2 := (hr0.below hb1).below hb
  have hp2 := (hp0.below hb1).below hb
  have hq2 := (hq0.below hb1).below hb
  clear hr0 hp0 hq0 hb1 hb hB1 hB0 h1 hg1
  go_wp2_with fail
  refine (h2.out g _ hB2 hg).mono ?_
  rintro e w3 ⟨rfl, hb⟩
  have hB3 := hB2.trans (hb.mono hB2.size)
  have hr3 := hr2.below hb
  have hp3 := hp2.below hb
  have hq3 := hq2.below hb
  clear hr2 hp2 hq2 hb hB2 h2 hg
  have d0 : w3.cell? ⟨w.heap.size + 1, 0, none⟩ = some (.int .u64 0) := hp3.cell 0
  have d1 : w3.cell? ⟨w.heap.size + 1, 1, none⟩ = some (.int .u64 0) := hp3.cell 1
  have f0 := hp3.frozen 0
  have f1 := hp3.frozen 1
  obtain ⟨w4, hw4⟩ : ∃ w4, w4 = (w3.setCell ⟨w.heap.size + 1, 0, none⟩ (.int .u64 (x : Int))).setCell ⟨w.heap.size + 1, 1, none⟩ (.int .u64 (y : Int)) := ⟨_, rfl⟩
  have hp4 : Row w4 (w.heap.size + 1) 66 [.int .u64 (x : Int), .int .u64 (y : Int)] := by rw [hw4]; exact (hp3.set 0 (.int .u64 (x : Int))).set 1 (.int .u64 (y : Int))
  have hB4 : Below w.heap.size w w4 := by rw [hw4]; exact (hB3.setCell (by simp) _).setCell (by simp) _
  have hr4 : Row w4 w.heap.size 27 [.int .i64 0, .int .i64 0, .int .u32 0] := by rw [hw4]; exact hr3.same ((heap_set (by omega)).trans (heap_set (by omega)))
  have hq4 : Row w4 (w.heap.size + 1 + 1) 60 [.int .i64 0, .int .i64 0, .int .u32 0] := by rw [hw4]; exact hq3.same ((heap_set (by omega)).trans (heap_set (by omega)))
  go_wp2_with fail
  rw [← hw4]
  clear hw4 hp3 hr3 hq3 hB3 d0 d1 f0 f1
  have d0 : w4.cell? ⟨w.heap.size + 1, 0, none⟩ = some (.int .u64 (x : Int)) := hp4.cell 0
  have d1 : w4.cell? ⟨w.heap.size + 1, 1, none⟩ = some (.int .u64 (y : Int)) := hp4.cell 1
  go_wp2_with fail
  refine (h3.out _).mono ?_
  rintro e w5 ⟨rfl, hb⟩
  have hB5 := hB4.trans (hb.mono hB4.size)
  have hr5 := hr4.below hb
  have hp5 := hp4.below hb
  have hq5 := hq4.below hb
  clear hr4 hp4 hq4 hB4 h3 hb d0 d1
  have d0 : w5.cell? ⟨w.heap.size + 1 + 1, 0, none⟩ = some (.int .i64 0) := hq5.cell 0
  have d1 : w5.cell? ⟨w.heap.size + 1 + 1, 1, none⟩ = some (.int .i64 0) := hq5.cell 1
  have d2 : w5.cell? ⟨w.heap.size + 1 + 1, 2, none⟩ = some (.int .u32 0) := hq5.cell 2
  have f0 := hq5.frozen 0
  have f1 := hq5.frozen 1
  have f2 := hq5.frozen 2
  obtain ⟨w6, hw6⟩ : ∃ w6, w6 = ((w5.setCell ⟨w.heap.size + 1 + 1, 0, none⟩ (.int .i64 (tc : Int))).setCell ⟨w.heap.size + 1 + 1, 1, none⟩ (.int .i64 (ts : Int))).setCell ⟨w.heap.size + 1 + 1, 2, none⟩ (.int .u32 (tn : Int)) := ⟨_, rfl⟩
  have hq6 : Row w6 (w.heap.size + 1 + 1) 60 [.int .i64 (tc : Int), .int .i64 (ts : Int), .int .u32 (tn : Int)] := by rw [hw6]; exact ((hq5.set 0 (.int .i64 (tc : Int))).set 1 (.int .i64 (ts : Int))).set 2 (.int .u32 (tn : Int))
  have hB6 : Below w.heap.size w w6 := by rw [hw6]; exact ((hB5.setCell (by simp; omega) _).setCell (by simp; omega) _).setCell (by simp; omega) _
  have hr6 : Row w6 w.heap.size 27 [.int .i64 0, .int .i64 0, .int .u32 0] := by rw [hw6]; exact hr5.same ((heap_set (by omega)).trans ((heap_set (by omega)).trans (heap_set (by omega))))
  have hp6 : Row w6 (w.heap.size + 1) 66 [.int .u64 (x : Int), .int .u64 (y : Int)] := by rw [hw6]; exact hp5.same ((heap_set (by omega)).trans ((heap_set (by omega)).trans (heap_set (by omega))))
  have g0 : w6.cell? ⟨w.heap.size + 1, 0, none⟩ = some (.int .u64 (x : Int)) := hp6.cell 0
  have g1 : w6.cell? ⟨w.heap.size + 1, 1, none⟩ = some (.int .u64 (y : Int)) := hp6.cell 1
  rw [hw6] at g0 g1
  clear hq5 hr5 hp5 hB5
  have HW6 := Lib.hid hw6
  clear hw6
  go_wp2_with fail
  rw [← HW6.out]
  clear HW6 d0 d1 d2 f0 f1 f2 g0 g1
  refine (h4.out _).mono ?_
  rintro e w7 ⟨rfl, hb⟩
  have hB7 := hB6.trans (hb.mono hB6.size)
  have hr7 := hr6.below hb
  have hq7 := hq6.below hb
  clear hr6 hp6 hq6 hB6 h4 hb
  cases p
  · have r0 : w7.cell? ⟨w.heap.size, 0, none⟩ = some (.int .i64 0) := hr7.cell 0
    have r1 : w7.cell? ⟨w.heap.size, 1, none⟩ = some (.int .i64 0) := hr7.cell 1
    have r2 : w7.cell? ⟨w.heap.size, 2, none⟩ = some (.int .u32 0) := hr7.cell 2
    have z0 := hr7.frozen 0
    have z1 := hr7.frozen 1
    have z2 := hr7.frozen 2
    clear h5 hq7
    go_wp2_with fail
    refine wp_goto (hJm.out _ _ _ _ _ rfl ?_)
    go_wp2_with fail
    refine hR.out _ _ _ _ (by simp) ?_
    obtain ⟨W', hW'⟩ : ∃ W', W' = ((w7.setCell ⟨w.heap.size, 0, none⟩ (.int .i64 0)).setCell ⟨w.heap.size, 1, none⟩ (.int .i64 0)).setCell ⟨w.heap.size, 2, none⟩ (.int .u32 0) := ⟨_, rfl⟩
    have hrz : Row W' w.heap.size 27 [.int .i64 0, .int .i64 0, .int .u32 0] := by rw [hW']; exact ((hr7.set 0 (.int .i64 0)).set 1 (.int .i64 0)).set 2 (.int .u32 0)
    have hBz : Below w.heap.size w W' := by rw [hW']; exact ((hB7.setCell (by simp) _).setCell (by simp) _).setCell (by simp) _
    rw [← hW']
    have e0 : W'.cell? ⟨w.heap.size, 0, none⟩ = some (.int .i64 0) := hrz.cell 0
    have e1 : W'.cell? ⟨w.heap.size, 1, none⟩ = some (.int .i64 0) := hrz.cell 1
    have e2 : W'.cell? ⟨w.heap.size, 2, none⟩ = some (.int .u32 0) := hrz.cell 2
    exact bodyPost_ret (v := .tuple #[.agg #[.int .i64 0, .int .i64 0, .int .u32 0], .int .i64 160]) (by simp [results, Tryd.results15, go_sem, e0, e1, e2]) rfl ⟨rfl, hBz⟩
  · have d0 : w7.cell? ⟨w.heap.size + 1 + 1, 0, none⟩ = some (.int .i64 (tc : Int)) := hq7.cell 0
    have d1 : w7.cell? ⟨w.heap.size + 1 + 1, 1, none⟩ = some (.int .i64 (ts : Int)) := hq7.cell 1
    have d2 : w7.cell? ⟨w.heap.size + 1 + 1, 2, none⟩ = some (.int .u32 (tn : Int)) := hq7.cell 2
    go_wp2_with fail
    refine (h5.out _ _).mono ?_
    rintro e w8 ⟨rfl, hb⟩
    have hB8 := hB7.trans (hb.mono hB7.size)
    have hr8 := hr7.below hb
    have hq8 := hq7.below hb
    clear hr7 hq7 hB7 h5 hb d0 d1 d2
    have r0 : w8.cell? ⟨w.heap.size, 0, none⟩ = some (.int .i64 0) := hr8.cell 0
    have r1 : w8.cell? ⟨w.heap.size, 1, none⟩ = some (.int .i64 0) := hr8.cell 1
    have r2 : w8.cell? ⟨w.heap.size, 2, none⟩ = some (.int .u32 0) := hr8.cell 2
    have z0 := hr8.frozen 0
    have z1 := hr8.frozen 1
    have z2 := hr8.frozen 2
    cases q
    · clear hq8
      go_wp2_with fail
      refine wp_goto (hJm.out _ _ _ _ _ rfl ?_)
      go_wp2_with fail
      refine hR.out _ _ _ _ (by simp) ?_
      obtain ⟨W', hW'⟩ : ∃ W', W' = ((w8.setCell ⟨w.heap.size, 0, none⟩ (.int .i64 0)).setCell ⟨w.heap.size, 1, none⟩ (.int .i64 0)).setCell ⟨w.heap.size, 2, none⟩ (.int .u32 0) := ⟨_, rfl⟩
      have hrz : Row W' w.heap.size 27 [.int .i64 0, .int .i64 0, .int .u32 0] := by rw [hW']; exact ((hr8.set 0 (.int .i64 0)).set 1 (.int .i64 0)).set 2 (.int .u32 0)
      have hBz : Below w.heap.size w W' := by rw [hW']; exact ((hB8.setCell (by simp) _).setCell (by simp) _).setCell (by simp) _
      rw [← hW']
      have e0 : W'.cell? ⟨w.heap.size, 0, none⟩ = some (.int .i64 0) := hrz.cell 0
      have e1 : W'.cell? ⟨w.heap.size, 1, none⟩ = some (.int .i64 0) := hrz.cell 1
      have e2 : W'.cell? ⟨w.heap.size, 2, none⟩ = some (.int .u32 0) := hrz.cell 2
      exact bodyPost_ret (v := .tuple #[.agg #[.int .i64 0, .int .i64 0, .int .u32 0], .int .i64 160]) (by simp [results, Tryd.results15, go_sem, e0, e1, e2]) rfl ⟨rfl, hBz⟩
    · have d0 : w8.cell? ⟨w.heap.size + 1 + 1, 0, none⟩ = some (.int .i64 (tc : Int)) := hq8.cell 0
      have d1 : w8.cell? ⟨w.heap.size + 1 + 1, 1, none⟩ = some (.int .i64 (ts : Int)) := hq8.cell 1
      have d2 : w8.cell? ⟨w.heap.size + 1 + 1, 2, none⟩ = some (.int .u32 (tn : Int)) := hq8.cell 2
      go_wp2_with fail
      refine hR.out _ _ _ _ (by simp) ?_
      obtain ⟨W', hW'⟩ : ∃ W', W' = ((w8.setCell ⟨w.heap.size, 0, none⟩ (.int .i64 (tc : Int))).setCell ⟨w.heap.size, 1, none⟩ (.int .i64 (ts : Int))).setCell ⟨w.heap.size, 2, none⟩ (.int .u32 (tn : Int)) := ⟨_, rfl⟩
      have hrz : Row W' w.heap.size 27 [.int .i64 (tc : Int), .int .i64 (ts : Int), .int .u32 (tn : Int)] := by rw [hW']; exact ((hr8.set 0 (.int .i64 (tc : Int))).set 1 (.int .i64 (ts : Int))).set 2 (.int .u32 (tn : Int))
      have hBz : Below w.heap.size w W' := by rw [hW']; exact ((hB8.setCell (by simp) _).setCell (by simp) _).setCell (by simp) _
      rw [← hW']
      have e0 : W'.cell? ⟨w.heap.size, 0, none⟩ = some (.int .i64 (tc : Int)) := hrz.cell 0
      have e1 : W'.cell? ⟨w.heap.size, 1, none⟩ = some (.int .i64 (ts : Int)) := hrz.cell 1
      have e2 : W'.cell? ⟨w.heap.size, 2, none⟩ = some (.int .u32 (tn : Int)) := hrz.cell 2
      exact bodyPost_ret (v := .tuple #[.agg #[.int .i64 (tc : Int), .int .i64 (ts : Int), .int .u32 (tn : Int)], .int .i64 0]) (by simp [results, Tryd.results15, go_sem, e0, e1, e2]) rfl ⟨rfl, hBz⟩
end Go.Proofs.YtfmbfojlopibnaaDoor
