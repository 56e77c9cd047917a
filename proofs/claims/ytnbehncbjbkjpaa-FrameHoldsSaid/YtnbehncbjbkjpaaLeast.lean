import Derived.Test.YtnbehncbjbkjpaaSpare
import Derived.Great.BuildSlice
namespace Go.Proofs.Ytnbehncbjbkjpaa
open Go.RowKit Go.Shelf Go.Maps Go.Sort
attribute [local go_sem] Oper.semAt_some

/- THE LEAST FREE FRAME. -/

/-- what lies there while a frame is taken -/
structure Mid (w : World) (b : Nat) (p : Pl) (bm : Nat) (fv sv : Value) (fb : List (List UInt8)) (sp : List Nat) (gf gs : Option Nat) : Prop where
  obj : Row w b 60 (poolL p.fr.length bm p.left fv sv)
  map : w.ownsMap Try.prog 3 (plainElem Try.prog 3) bm 16384 (mapD (owns p.fr))
  frm : Own w 78 256 fv fb.length (fl fb) gf
  spr : Own w 3 1 sv sp.length (sp.map iv) gs
def LeastP (w : World) (b : Nat) (p : Pl) (bm : Nat) (gf gs : Option Nat) (i : Nat) (fb : List (List UInt8)) (sp : List Nat) (e : Ending) (w' : World) : Prop :=
  e = .returned (.int .i64 (i : Int)) ∧ ∃ fv sv gf' gs', Mid w' b p bm fv sv fb sp gf' gs' ∧ Keep (blocks b bm gf gs) w w' ∧ ∀ k, blocks b bm gf' gs' k → blocks b bm gf gs k ∨ w.heap.size ≤ k

theorem fl_len : ∀ (fb : List (List UInt8)), (∀ bs ∈ fb, bs.length = 256) → (fl fb).length = fb.length * 256
  | [], _ => rfl
  | bs :: r, h => by
    have h1 := fl_len r fun x hx => h x (by simp [hx])
    have h2 := h bs (by simp)
    simp only [fl, List.flatMap_cons, List.length_append, List.length_map, h2, List.length_cons] at h1 ⊢
    omega
theorem zero_cells : Try.zeroCells78 = (zero256.map bv).toArray := by kernel_rfl
theorem space_info : (Try.prog.info? 78).map (fun i => (i.zero, i.size, i.bytes)) = some (some (.agg (zero256.map bv).toArray), 256, 256) := by kernel_rfl

theorem wp_buildSlice_eq {P : Program} {o : Oper} {a : Act} {w : World} {K : Act → World → Prop} {Q : Exit → Act → World → Prop} (t : TypeId) (len : Nat) (parts : Array (Nat × Operand)) (ho : o.op = .buildSlice t len parts)
    (vs : Array (Nat × Value)) (hv : (parts.map fun (i, x) => (i, a.eval x)) = vs) (v : Value) (w' : World) (hr : (Instr.buildSlice t len vs).run P w = .ok v w') (h : K (a.put o.dst v) w') : o.wp P a w K Q := by
  unfold Oper.wp execOp
  simp only [ho, Sem.run_bind, hv, hr, Result.andThen_ok]
  exact h
theorem space_slice (W : World) : (Instr.buildSlice 57 1 #[(0, .agg Try.zeroCells78)]).run Try.prog W = .ok (.slice (some ⟨W.heap.size, 0, none⟩) 1 1) (W.alloc (.cells Try.zeroCells78 78)) := by
  obtain ⟨i0, hi, hz0, hz1, hz2⟩ := info_parts space_info
  refine run_buildSlice W 57 78 1 _ _ i0 _ Try.underlying57 hi hz0 (by rw [hz1]; decide) (by rw [hz1]; decide) ?_
  rw [hz1]
  kernel_rfl
theorem poolL_fv (many bm : Nat) (left : List Nat) (fv sv fv' : Value) (hl : left.length = 64) : (poolL many bm left fv sv).set 66 fv' = poolL many bm left fv' sv := by
  unfold poolL
  rw [List.set_cons_succ, List.set_cons_succ, List.set_append_right _ _ (by rw [List.length_map, hl]; decide), List.length_map, hl]
  rfl
theorem poolL_sv (many bm : Nat) (left : List Nat) (fv sv sv' : Value) (hl : left.length = 64) : (poolL many bm left fv sv).set 67 sv' = poolL many bm left fv sv' := by
  unfold poolL
  rw [List.set_cons_succ, List.set_cons_succ, List.set_append_right _ _ (by rw [List.length_map, hl]; decide), List.length_map, hl]
  rfl
theorem zero_one (v : Value) (h : v ∈ zero256.map bv) : v.oneCell' = true := by
  obtain ⟨x, _, rfl⟩ := List.mem_map.1 h
  rfl

set_option maxRecDepth 100000 in
set_option maxHeartbeats 1000000 in
theorem least_new {b bm : Nat} {p : Pl} {fv sv : Value} {fb : List (List UInt8)} {gf gs : Option Nat} {w : World} (h : Rep w b p bm fv sv fb gf gs) (h0 : spareOf p.fr fb.length = []) (hn : fb.length < p.fr.length) :
    Calls Try.prog 29 #[bx b] w (LeastP w b p bm gf gs fb.length (fb ++ [zero256]) []) := by
  have hlen := h.ok.most
  obtain ⟨i0, hi, hz0, hz1, hz2⟩ := info_parts space_info
  have hbl := h.obj.lt
  have hb1 := below1 w (.cells Try.zeroCells78 78)
  have hr1 := h.below hb1
  have hne := h.gf_ne
  have hnews : ∀ j u, (zero256.map bv)[j]? = some u → (w.alloc (.cells Try.zeroCells78 78)).cell? ((⟨w.heap.size, 0, none⟩ : Addr).add j) = some u := fun j u hu => by
    rw [add_plain, Nat.zero_add, cell_alloc_new, zero_cells]
    simpa using hu
  obtain ⟨v', w', g', hrun, ho, hg, hgg, hsome⟩ := hr1.frm.append (P := Try.prog) 57 57 i0 _ 256 Try.underlying57 hi hz0 hz1 hz2 (by simp [Value.cells, zero256]) (by decide) ⟨w.heap.size, 0, none⟩ 1 (zero256.map bv) (by simp [zero256]) hnews zero_one (by unfold maxLen; omega) (by omega)
  obtain ⟨A', c', rfl, _⟩ := ho.form
  have hgb : some b ≠ gf := fun e => hne.1 e.symm
  have hk := hg.block b (by simp; omega) hgb
  have hobj : Row w' b 60 (poolL p.fr.length bm p.left fv sv) := hr1.obj.same hk
  have hset := hobj.set 66 (.slice A' (fb.length + 1) c')
  rw [poolL_fv _ _ _ _ _ _ h.ok.l64] at hset
  have d66 : w'.cell? ⟨b, 66, none⟩ = some fv := (World.cell?_of_block hk).trans hr1.c66
  have f66 := hobj.frozen 66
  have hfin := Lib.hid (show ∀ e, e = .returned (.int .i64 (fb.length : Int)) → LeastP w b p bm gf gs fb.length (fb ++ [zero256]) [] e (w'.setCell ⟨b, 66, none⟩ (.slice A' (fb.length + 1) c')) from by
    rintro e rfl
    have hks : ∀ k, k ≠ b → (w'.setCell ⟨b, 66, none⟩ (.slice A' (fb.length + 1) c')).heap[k]? = w'.heap[k]? := fun k hk => heap_set hk
    have hmb : w'.heap[bm]? = (w.alloc (.cells Try.zeroCells78 78)).heap[bm]? := hg.block bm hr1.map.lt (fun e => hne.2.1 e.symm)
    have hsp := hr1.spr
    rw [h0] at hsp
    have hg'b : g' ≠ some b := by
      rcases hgg with e | e <;> rw [e]
      · exact hne.1
      · simp; omega
    refine ⟨rfl, _, _, g', gs, ⟨hset, owns_same hr1.map ((hks _ (fun e => h.ne_map e.symm)).trans hmb), ?_, ?_⟩, ?_, ?_⟩
    · have := ho.keep (w' := w'.setCell ⟨b, 66, none⟩ (.slice A' (fb.length + 1) c')) (fun g e => hks g (fun e2 => hg'b (e2 ▸ e)))
      rw [List.length_append]
      rw [show fl (fb ++ [zero256]) = fl fb ++ zero256.map bv by simp [fl]]
      exact this
    · exact hsp.keep fun g e => (hks g (fun e2 => hne.2.2.1 (e2 ▸ e))).trans (hg.block g (hr1.lt g (.inr (.inr (.inr e)))) (fun e2 => hne.2.2.2.2 g e2.symm e))
    · have h1 : Keep (blocks b bm gf gs) w w' := (Keep.of_below hb1).grown hg (fun r e => .inr (.inr (.inr (.inl e))))
      exact h1.set _ (.inl (.inl rfl))
    · rintro k (e | e | e | e)
      · exact .inl (.inl e)
      · exact .inl (.inr (.inl e))
      · rcases hgg with e2 | e2
        · exact .inl (.inr (.inr (.inl (e2 ▸ e))))
        · rw [e2] at e
          injection e with e
          refine .inr ?_
          rw [← e]
          simp
      · exact .inl (.inr (.inr (.inr e))))
  have c66 := h.c66
  have c67 := h.c67
  obtain ⟨sA, sc, rfl, _⟩ := h.spr.form
  rw [h0] at c67
  have hwr : IntKind.i64.wrap ((0 : Int) - 1) = -1 := by decide
  have hwr2 : wrap64 (fb.length : Int) = (fb.length : Int) := IntWalk.wrap64_in _ (by omega)
  have HBS := Lib.hid (space_slice w)
  have HRUN := Lib.hid hrun
  clear hrun hset hobj hk hgb hg hgg ho hnews hne hr1 hb1 h hlen
  go_enter Try.func29, Try.ntmps29
  go_wp2_with fail
  refine wp_buildSlice_eq 57 1 _ rfl #[(0, .agg Try.zeroCells78)] (by simp [Act.eval]) _ _ HBS.out ?_
  go_wp2_with (at_builtin; refine wpList_append_eq _ rfl _ _ 57 57 rfl fv (.slice (some ⟨w.heap.size, 0, none⟩) 1 1) rfl rfl _ _ HRUN.out ?_)
  go_ret
  refine hfin.out _ ?_
  show Ending.returned (.int .i64 (wrap64 (fb.length : Int))) = _
  rw [hwr2]
end Go.Proofs.Ytnbehncbjbkjpaa
