import Derived.Test.YtmbjjbgpcacoeaaGreatRB
import Derived.Laws.ResultCell
namespace Go.Proofs.YtmbjjbgpcacoeaaGreat
open Go.RowKit Go.Shelf Go.Maps Go.Sort

/- THE DOCUMENT's POOL: WITH. -/
theorem frame_info : (Tryz.prog.info? 100).map (fun i => (i.zero, i.size, i.bytes)) = some (some (.agg #[.int .i64 0, .string ⟨#[]⟩]), 2, 24) := by kernel_rfl
theorem enc_one {fr : List Fr} : ∀ u ∈ fr.flatMap encFr, u.oneCell' = true := by
  intro u hu
  obtain ⟨x, _, hx⟩ := List.mem_flatMap.1 hu
  simp only [encFr, List.mem_cons, List.not_mem_nil, or_false] at hx
  rcases hx with rfl | rfl <;> rfl
theorem enc_set : ∀ (fr : List Fr) (k : Nat) (x : Fr), k < fr.length → (fr.set k x).flatMap encFr = ((fr.flatMap encFr).set (k * 2) (.int .i64 (oi x))).set (k * 2 + 1) (.string (sb x))
  | [], k, x, h => by simp at h
  | y :: r, 0, x, _ => rfl
  | y :: r, k + 1, x, h => by
    have := enc_set r k x (by simpa using h)
    rw [List.set_cons_succ, List.flatMap_cons, this, List.flatMap_cons, show (k + 1) * 2 = k * 2 + 2 by omega]
    rfl
/-- a pool's cells, whatever is reserved -/
theorem refR_size {R : List Value} (h : R.length = 64) (v : Value) : (Tryz.prog.info? 36).map (·.size) = some (v :: R).length := by rw [List.length_cons, h]; kernel_rfl
theorem res_cell1 {fn : Func} {p : Tmp} {ty : TypeId} (h : fn.results = #[.cell p ty]) {tmps : Array Value} {P : Program} {w : World} {a : Addr} (ha : tmps.getD p undef = .pointer (some a)) {v : Value} (hv : (loadVar ty a).run P w = .ok v w) :
    (results fn tmps).run P w = .ok v w := by
  have h1 : (results fn tmps).run P w = ((asAddr (tmps.getD p undef)).run P w).andThen fun a w₁ => (loadVar ty a).run P w₁ := by
    simp only [results, h]
    simp [Sem.run_bind, Result.andThen]
  rw [h1, ha]
  exact hv
theorem res_cell2 {fn : Func} {p u : Tmp} {ty : TypeId} (h : fn.results = #[.cell p ty, .tmp u]) {tmps : Array Value} {P : Program} {w : World} {a : Addr} (ha : tmps.getD p undef = .pointer (some a)) {v : Value} (hv : (loadVar ty a).run P w = .ok v w) :
    (results fn tmps).run P w = .ok (.tuple #[v, tmps.getD u undef]) w := by
  rw [results_cell_tmp h, ha]
  show ((loadVar ty a).run P w).andThen _ = _
  rw [hv]
  rfl
theorem res_cell3 {fn : Func} {p u t : Tmp} {ty : TypeId} (h : fn.results = #[.cell p ty, .tmp u, .tmp t]) {tmps : Array Value} {P : Program} {w : World} {a : Addr} (ha : tmps.getD p undef = .pointer (some a)) {v : Value} (hv : (loadVar ty a).run P w = .ok v w) :
    (results fn tmps).run P w = .ok (.tuple #[v, tmps.getD u undef, tmps.getD t undef]) w := by
  have h1 : (results fn tmps).run P w = ((asAddr (tmps.getD p undef)).run P w).andThen fun a w₁ => ((loadVar ty a).run P w₁).andThen fun v w₂ => .ok (.tuple #[v, tmps.getD u undef, tmps.getD t undef]) w₂ := by
    simp only [results, h]
    simp [Sem.run_bind, Result.andThen]
  rw [h1, ha]
  show ((loadVar ty a).run P w).andThen _ = _
  rw [hv]
  rfl
/-- room for a pool at b -/
structure Rm (W : World) (b : Nat) : Prop where
  h : ∃ cur : Array Value, W.heap[b]? = some (.cells cur 36 (0, 0)) ∧ cur.size = 65
theorem Rm.there {W : World} {b : Nat} (h : Rm W b) : W.there b 0 65 := fun j hj => by
  obtain ⟨cur, h1, h2⟩ := h.h
  constructor
  · simp only [World.cell?, h1, Nat.zero_add]
    simp [h2, hj]
  · simp [World.frozen?, h1]
theorem Rm.lt {W : World} {b : Nat} (h : Rm W b) : b < W.heap.size := by
  obtain ⟨cur, h1, h2⟩ := h.h
  exact (Array.getElem?_eq_some_iff.1 h1).1
theorem Rm.same {W W' : World} {b : Nat} (h : Rm W b) (hb : W'.heap[b]? = W.heap[b]?) : Rm W' b := by
  obtain ⟨cur, h1, h2⟩ := h.h
  exact ⟨cur, hb.trans h1, h2⟩
theorem Rm.new (W : World) : Rm (W.alloc (.cells Tryz.zeroCells36 36)) W.heap.size := ⟨_, World.alloc_heap_new W _, by kernel_rfl⟩
theorem Rm.below {W W' : World} {b : Nat} (h : Rm W b) (hb : Below W.heap.size W W') : Rm W' b := h.same (hb.block _ h.lt)
theorem row_range {W : World} {g : Nat} {t : TypeId} {cs : List Value} (h : Row W g t cs) : W.rangeAt g 0 cs := fun j v hj => by
  rw [h.cell, Nat.zero_add]
  exact hj
/-- the cells of a pool are stored whole -/
theorem stored_load {W : World} {b : Nat} {v : Value} {R : List Value} (hR : R.length = 64) (h : Rm W b) :
    (loadVar 36 ⟨b, 0, none⟩).run Tryz.prog (W.setCells b 0 (v :: R)) = .ok (.agg (v :: R).toArray) (W.setCells b 0 (v :: R)) :=
  run_loadVar_mid _ b 0 _ (v :: R) _ (World.rangeAt_setCells_same W b 0 (v :: R) (by rw [List.length_cons, hR]; exact h.there)) Tryz.underlying36 rfl (refR_size hR v)
theorem cells_one {v : Value} {R : List Value} (hv : v.oneCell' = true) (hR1 : ∀ u ∈ R, u.oneCell' = true) : (v :: R).toArray.all (·.oneCell') = true :=
  all_oneCell_toArray (cs := v :: R) (fun u hu => by
    rcases List.mem_cons.1 hu with rfl | hu
    · exact hv
    · exact hR1 u hu)
theorem below_setCells {n b : Nat} {w : World} (hb : n ≤ b) : ∀ (vs : List Value) (o : Nat) (V : World), Below n w V → Below n w (V.setCells b o vs)
  | [], _, _, h => h
  | v :: r, o, V, h => by
    rw [World.setCells]
    exact below_setCells hb r (o + 1) _ (h.setCell hb v)
theorem sees_setCells {B b : Nat} {A : Option Addr} {xs : List Value} (hb : B ≤ b) : ∀ (vs : List Value) (o : Nat) (V : World), Sees V B A xs → Sees (V.setCells b o vs) B A xs
  | [], _, _, h => h
  | v :: r, o, V, h => by
    rw [World.setCells]
    exact sees_setCells hb r (o + 1) _ (h.setCell hb v)
theorem size_setCells (b : Nat) : ∀ (vs : List Value) (o : Nat) (V : World), (V.setCells b o vs).heap.size = V.heap.size
  | [], _, _ => rfl
  | v :: r, o, V => by
    rw [World.setCells, size_setCells b r (o + 1), World.size_setCell]
theorem heap_setCells {b k : Nat} (h : k ≠ b) : ∀ (vs : List Value) (o : Nat) (V : World), (V.setCells b o vs).heap[k]? = V.heap[k]?
  | [], _, _ => rfl
  | v :: r, o, V => by
    rw [World.setCells, heap_setCells h r (o + 1), heap_set h]

theorem sees_own {w : World} {base size g n cap : Nat} {e : TypeId} {xs : List Value} (h : w.ownsRow base e size (.slice (some ⟨g, 0, none⟩) n cap) n xs) : Sees w w.heap.size (some ⟨g, 0, none⟩) xs := fun _ => by
  refine ⟨_, rfl, own_lt h rfl, fun j u hu => ?_⟩
  rw [add_plain, Nat.zero_add, h.cellAt j (by rw [← h.1]; exact (List.getElem?_eq_some_iff.1 hu).1)]
  exact hu
/-- what follows the append: an element is stored, the pool's slice, the whole pool -/
theorem with_after {w w3 w4 : World} {R : List Value} {fr : List Fr} {A : Option Addr} {n c k g4 cap : Nat} {x : Fr} (hl : fr.length = n) (hk : k < n) (s3 : w3.heap.size = w.heap.size + 1 + 1 + 1) (hb3 : Below w.heap.size w w3)
    (r1 : Row w3 w.heap.size 36 (.slice A n c :: R)) (r2 : Row w3 (w.heap.size + 1) 100 [.int .i64 (oi x), .string (sb x)]) (r3 : Rm w3 (w.heap.size + 1 + 1))
    (hown : w4.ownsRow w3.heap.size 100 2 (.slice (some ⟨g4, 0, none⟩) n cap) n (fr.flatMap encFr)) (hg : (w3.alloc (.cells #[] 100)).grownBy w4 (some w3.heap.size)) (w5 w6 : World)
    (h5 : w5 = (w4.setCell ⟨g4, k * 2, none⟩ (.int .i64 (oi x))).setCell ⟨g4, k * 2 + 1, none⟩ (.string (sb x))) (h6 : w6 = w5.setCell ⟨w.heap.size, 0, none⟩ (.slice (some ⟨g4, 0, none⟩) n cap)) :
    Row w4 (w.heap.size + 1) 100 [.int .i64 (oi x), .string (sb x)] ∧ Row w5 w.heap.size 36 (.slice A n c :: R) ∧ Row w6 w.heap.size 36 (.slice (some ⟨g4, 0, none⟩) n cap :: R) ∧ Rm w6 (w.heap.size + 1 + 1) ∧
      Lies (w6.setCells (w.heap.size + 1 + 1) 0 (.slice (some ⟨g4, 0, none⟩) n cap :: R)) (some ⟨g4, 0, none⟩) (fr.set k x) ∧ Below w.heap.size w (w6.setCells (w.heap.size + 1 + 1) 0 (.slice (some ⟨g4, 0, none⟩) n cap :: R)) := by
  have hlt := hown.lt g4 rfl
  have hbk : ∀ b, b < w3.heap.size → w4.heap[b]? = w3.heap[b]? := fun b hb => (hg.block b (by rw [World.size_alloc]; omega) (fun e => by injection e with e; omega)).trans (Below.heap_alloc _ _ _ hb)
  have hbk5 : ∀ b, b ≠ g4 → w5.heap[b]? = w4.heap[b]? := fun b hb => by rw [h5, heap_set hb, heap_set hb]
  have q2 : Row w4 (w.heap.size + 1) 100 [.int .i64 (oi x), .string (sb x)] := r2.same (hbk _ (by omega))
  have q5 : Row w5 w.heap.size 36 (.slice A n c :: R) := r1.same ((hbk5 _ (by omega)).trans (hbk _ (by omega)))
  have q6 : Row w6 w.heap.size 36 (.slice (some ⟨g4, 0, none⟩) n cap :: R) := h6 ▸ q5.set 0 _
  have t5 : Rm w5 (w.heap.size + 1 + 1) := r3.same ((hbk5 _ (by omega)).trans (hbk _ (by omega)))
  have t6 : Rm w6 (w.heap.size + 1 + 1) := t5.same (by rw [h6, heap_set (by omega)])
  have o5 : w5.ownsRow w3.heap.size 100 2 (.slice (some ⟨g4, 0, none⟩) n cap) n ((fr.set k x).flatMap encFr) := by
    rw [h5, enc_set _ _ _ (by omega)]
    exact ((hown.stored (k * 2) _).1.stored (k * 2 + 1) _).1
  have o7 : (w6.setCells (w.heap.size + 1 + 1) 0 (.slice (some ⟨g4, 0, none⟩) n cap :: R)).ownsRow w3.heap.size 100 2 (.slice (some ⟨g4, 0, none⟩) n cap) n ((fr.set k x).flatMap encFr) :=
    own_same o5 (fun b hb => by
      have e : g4 = b := Option.some.inj hb
      subst e
      rw [heap_setCells (by omega), h6, heap_set (by omega)])
  refine ⟨q2, q5, q6, t6, sees_own o7, below_setCells (by omega) _ _ _ ?_⟩
  rw [h6, h5]
  refine (((?_ : Below w.heap.size w w4).setCell (show w.heap.size ≤ g4 by omega) _).setCell (show w.heap.size ≤ g4 by omega) _).setCell (Nat.le_refl _) _
  exact (hb3.alloc hb3.size _).grown hg (by rw [World.size_alloc]; omega) (fun r e => by cases e; omega)

set_option maxRecDepth 100000 in
set_option maxHeartbeats 1000000 in
theorem with_any (R : List Value) (hR : R.length = 64) (hR1 : ∀ u ∈ R, u.oneCell' = true) (fr : List Fr) (A : Option Addr) (n c k : Nat) (x : Fr) (w : World) (hl : fr.length = n) (hk : k < n) (hn : n ≤ 16384) (hA : Lies w A fr) :
    Calls Tryz.prog 115 #[.agg (.slice A n c :: R).toArray, .int .i64 (k : Int), .agg #[.int .i64 (oi x), .string (sb x)]] w fun e w' =>
      ∃ A' c', e = .returned (.agg (.slice A' n c' :: R).toArray) ∧ Lies w' A' (fr.set k x) ∧ Below w.heap.size w w' ∧ ∀ a, A' = some a → w.heap.size ≤ a.block := by
  obtain ⟨i0, hi, hz0, hz1, hz2⟩ := info_parts frame_info
  obtain ⟨cs, hcs⟩ : ∃ cs, cs = Value.slice A n c :: R := ⟨_, rfl⟩
  rw [← hcs]
  obtain ⟨w1, hw1⟩ : ∃ w1, w1 = w.alloc (.cells cs.toArray 36) := ⟨_, rfl⟩
  obtain ⟨w2, hw2⟩ : ∃ w2, w2 = w1.alloc (.cells #[.int .i64 (oi x), .string (sb x)] 100) := ⟨_, rfl⟩
  obtain ⟨w3, hw3⟩ : ∃ w3, w3 = w2.alloc (.cells Tryz.zeroCells36 36) := ⟨_, rfl⟩
  have s1 : w1.heap.size = w.heap.size + 1 := by rw [hw1, World.size_alloc]
  have s2 : w2.heap.size = w.heap.size + 1 + 1 := by rw [hw2, World.size_alloc, s1]
  have s3 : w3.heap.size = w.heap.size + 1 + 1 + 1 := by rw [hw3, World.size_alloc, s2]
  have hb1 : Below w1.heap.size w1 w2 := hw2 ▸ below1 w1 _
  have hb2 : Below w2.heap.size w2 w3 := hw3 ▸ below1 w2 _
  have hb0 : Below w.heap.size w w1 := hw1 ▸ below1 w _
  have hb3 : Below w.heap.size w w3 := below0 hb0 (below0 hb1 hb2)
  have r1 : Row w3 w.heap.size 36 cs := (((hw1 ▸ Row.new w _ cs : Row w1 w.heap.size _ cs)).below hb1).below hb2
  have r2 : Row w3 (w.heap.size + 1) 100 [.int .i64 (oi x), .string (sb x)] := (s1 ▸ hw2 ▸ Row.new w1 _ _ : Row w2 (w.heap.size + 1) _ _).below hb2
  have r3 : Rm w3 (w.heap.size + 1 + 1) := s2 ▸ hw3 ▸ Rm.new w2
  have hown0 : (w3.alloc (.cells #[] 100)).ownsRow w3.heap.size 100 2 (.slice (some ⟨w3.heap.size, 0, none⟩) 0 0) 0 [] := World.ownsRow_made w3 #[] 0 (Nat.le_refl _) (Nat.zero_le _) rfl
  have hA3 := (hA.below hb3).alloc (Nat.le_refl _) (.cells #[] 100)
  have h0 : w1.cell? ⟨w.heap.size, 0, none⟩ = some (.slice A n c) := by
    rw [(hw1 ▸ Row.new w _ cs : Row w1 w.heap.size _ cs).cell, hcs]
    rfl
  rw [s3] at hown0
  have HF := Lib.hid (fun w4 g4 cap (ho : World.ownsRow w4 (w.heap.size + 1 + 1 + 1) 100 2 (.slice (some ⟨g4, 0, none⟩) n cap) n (fr.flatMap encFr)) (hg : (w3.alloc (.cells #[] 100)).grownBy w4 (some (w.heap.size + 1 + 1 + 1))) => with_after (w4 := w4) hl hk s3 hb3 (hcs ▸ r1) r2 r3 (by rw [s3]; exact ho) (by rw [s3]; exact hg) _ _ rfl rfl)
  have HG := Lib.hid (fr_get fr k 0 (by omega) (by decide))
  have HG2 := Lib.hid (fr_get fr k 1 (by omega) (by decide))
  have HL := Lib.hid (show (fr.flatMap encFr).length = n * 2 by rw [fr_len, hl])
  have H1 := Lib.hid (fun v hv => cells_one (v := v) (R := R) hv hR1)
  have HSZ := Lib.hid (fun v => refR_size hR v)
  have HLD := Lib.hid (fun W b v h => stored_load (W := W) (b := b) (v := v) hR h)
  have hc0 : w3.cell? ⟨w.heap.size, 0, none⟩ = some (.slice A n c) := by
    rw [r1.cell, hcs]
    rfl
  clear h0 hcs r1 r2 r3 hb0 hb1 hb2 hb3 s1 s2 s3 hA hR1
  subst hw3
  subst hw2
  subst hw1
  go_enter Tryz.func115, Tryz.ntmps115
  go_wp2_with (first
    | (at_builtin; refine wpList_append_sees rfl (.tmp 8) (.tmp 10) 33 rfl _ 100 i0 _ 2 24 Tryz.underlying33 hi hz0 hz1 hz2 rfl (by decide) _ 0 [] rfl hown0 _ A n c (fr.flatMap encFr) rfl HL.out hA3 enc_one (by unfold maxLen; omega) (by omega) (by simp) ?_; intro v' w4 hown4 hg4 hv4; rw [Nat.zero_add, List.nil_append] at hown4; obtain ⟨g4, cap4, rfl, hg4b, hg4l⟩ := hown4.form (by omega); obtain ⟨q2, q5, q6, t6, qL, qB⟩ := HF.out w4 g4 cap4 hown4 hg4; have e0 : w4.cell? ⟨w.heap.size + 1, 0, none⟩ = some (.int .i64 (oi x)) := q2.cell 0; have e1 : w4.cell? ⟨w.heap.size + 1, 1, none⟩ = some (.string (sb x)) := q2.cell 1; have f0 : w4.cell? ⟨g4, k * 2, none⟩ = some (.int .i64 (oi fr[k])) := (hown4.cellAt (k * 2) (by omega)).trans HG.out; have f1 : w4.cell? ⟨g4, k * 2 + 1, none⟩ = some (.string (sb fr[k])) := (hown4.cellAt (k * 2 + 1) (by omega)).trans HG2.out; have z0 := hown4.frozenAt (k * 2); have z1 := hown4.frozenAt (k * 2 + 1); have p0 := q5.cell 0; have p1 := q5.frozen 0; have Q6 := Lib.hid q6; have T6 := Lib.hid t6; have QQ := Lib.hid (And.intro qL (And.intro qB (fun (a : Addr) (e : some (⟨g4, 0, none⟩ : Addr) = some a) => (show w.heap.size ≤ a.block by cases e; show w.heap.size ≤ g4; omega)))); clear q2 q5 q6 t6 qL qB hg4 hown4 HF HG HG2 hA3 hown0)
    | refine wpList_load_mid rfl 36 (.tmp 3) rfl w.heap.size 0 rfl (_ :: R) _ (row_range Q6.out) Tryz.underlying36 rfl (HSZ.out _) ?_
    | (refine wpList_store_mid rfl 36 (.tmp 6) (.tmp 18) rfl (w.heap.size + 1 + 1) 0 (Value.slice (some ⟨g4, 0, none⟩) n cap4 :: R).toArray rfl rfl ?ht ?hi ?h1 ?hh)
    | fail)
  case ht =>
    show World.there _ _ 0 (R.length + 1)
    rw [hR]
    exact T6.out.there
  case hi => exact HSZ.out _
  case h1 => exact H1.out _ rfl
  have hres := HLD.out _ _ (.slice (some ⟨g4, 0, none⟩) n cap4) T6.out
  exact bodyPost_ret (v := .agg (.slice (some ⟨g4, 0, none⟩) n cap4 :: R).toArray) (res_cell1 Tryz.results115 rfl hres) rfl ⟨_, _, rfl, QQ.out⟩
end Go.Proofs.YtmbjjbgpcacoeaaGreat
