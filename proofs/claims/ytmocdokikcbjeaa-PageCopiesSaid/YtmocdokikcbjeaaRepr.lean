import Derived.Test.YtmocdokikcbjeaaRun0
import Derived.Test.YtmocdokikcbjeaaBaseIn
import Derived.Maps.OwnOps
import Derived.Maps.OwnIn
namespace Go.Proofs.Ytmocdokikcbjeaa
open Go.RowKit Go.Shelf Go.Maps

/- HOW A TABLE LIES IN MEMORY. -/

section
variable {P : Program} (w : World)
theorem run_neq_map_nil (t k e : TypeId) (p : Option Nat) (h : P.underlying t = some (.map k e)) :
    (binOp .neq t (.map p) (.map none)).run P w = .ok (.bool (!p.isNone)) w := by
  have h1 : (Op.equal t (.map p) (.map none)).run P w = .ok p.isNone w := by
    have h2 : ∀ d, (Op.equalIn (d + 1) t (.map p) (.map none)).run P w = .ok p.isNone w := fun d => by cases p <;> simp [Op.equalIn, run_underlying h]
    exact h2 9999
  simp only [binOp]
  simp [h1, Result.andThen]
end
section
variable {k : TypeId} {R : Value → Option (DataW Unit × List MemPlace)} {w w' : World} {b r n m : Nat} {D : DataW Unit} {left : Lit → Bool} {cnt : Nat}
theorem ranges_same (h : w.ranges Try.prog k R b r n D left cnt) (hb : w'.heap[b]? = w.heap[b]?) (hr : w'.heap[r]? = w.heap[r]?) : w'.ranges Try.prog k R b r n D left cnt := by
  obtain ⟨es, clock, since, seen, c0, h1, F, hs, hD, h2, rest⟩ := h
  exact ⟨es, clock, since, seen, c0, hb.trans h1, F, hs, hD, hr.trans h2, rest⟩
theorem owns_same (h : w.ownsMap Try.prog k R b n D) (hb : w'.heap[b]? = w.heap[b]?) : w'.ownsMap Try.prog k R b n D := by
  obtain ⟨es, clock, h1, rest⟩ := h
  exact ⟨es, clock, hb.trans h1, rest⟩
theorem owns_tight (h : w.ownsMap Try.prog k R b n D) (hm : Maps.size D ≤ m) : w.ownsMap Try.prog k R b m D := by
  obtain ⟨es, clock, h1, h2, h3, rfl⟩ := h
  refine ⟨es, clock, h1, h2, ?_, rfl⟩
  simpa [Maps.size, length_sorted] using hm
end

theorem Keep.grown {F : Nat → Prop} {w V V' : World} {row : Option Nat} (h : Keep F w V) (hg : V.grownBy V' row) (hr : ∀ r, row = some r → w.heap.size ≤ r ∨ F r) : Keep F w V' :=
  ⟨hg.os.trans h.os, hg.tape.trans h.tape, hg.output.trans h.output, Nat.le_trans h.size hg.size, fun k hk hf => (hg.block k (Nat.lt_of_lt_of_le hk h.size) (fun e => by
    rcases hr k e.symm with h1 | h1
    · omega
    · exact hf h1)).trans (h.block k hk hf)⟩

abbrev bx (b : Nat) : Value := .pointer (some ⟨b, 0, none⟩)
abbrev PMap (w : World) (b : Nat) (l : Tb) : Prop := w.ownsMap Try.prog 3 entR b 65536 (mapP l)
def FMap (w : World) (b : Nat) (l : Tb) : Prop := ∃ D, w.ownsMap Try.prog 3 unitR b 65536 D ∧ Frs l D
theorem FMap.same {w w' : World} {b : Nat} {l : Tb} (h : FMap w b l) (hb : w'.heap[b]? = w.heap[b]?) : FMap w' b l := by
  obtain ⟨D, h1, h2⟩ := h
  exact ⟨D, owns_same h1 hb, h2⟩
theorem FMap.lt {w : World} {b : Nat} {l : Tb} (h : FMap w b l) : b < w.heap.size := by
  obtain ⟨D, h1, h2⟩ := h
  exact h1.lt
structure Rep (w : World) (b : Nat) (l : Tb) (bp bf : Nat) : Prop where
  ok : Tok l
  obj : Row w b 75 [.map (some bp), .map (some bf)]
  pages : PMap w bp l
  frames : FMap w bf l
  ne : bp ≠ bf
def blocks (b bp bf : Nat) : Nat → Prop := fun k => k = b ∨ k = bp ∨ k = bf
/-- a table at b that owns the blocks of F -/
def Has (w : World) (b : Nat) (l : Tb) (F : Nat → Prop) : Prop := ∃ bp bf, Rep w b l bp bf ∧ F = blocks b bp bf
section
variable {w w' : World} {b bp bf : Nat} {l : Tb} {F : Nat → Prop}
theorem Rep.keep (h : Rep w b l bp bf) (hk : ∀ k, blocks b bp bf k → w'.heap[k]? = w.heap[k]?) : Rep w' b l bp bf :=
  ⟨h.ok, h.obj.same (hk _ (.inl rfl)), owns_same h.pages (hk _ (.inr (.inl rfl))), h.frames.same (hk _ (.inr (.inr rfl))), h.ne⟩
theorem Rep.lt (h : Rep w b l bp bf) : ∀ k, blocks b bp bf k → k < w.heap.size := by
  rintro k (rfl | rfl | rfl)
  · exact h.obj.lt
  · exact h.pages.lt
  · exact h.frames.lt
theorem Rep.below (h : Rep w b l bp bf) (hb : Below w.heap.size w w') : Rep w' b l bp bf := h.keep fun k hk => hb.block _ (h.lt k hk)
theorem Rep.c0 (h : Rep w b l bp bf) : w.cell? ⟨b, 0, none⟩ = some (.map (some bp)) := h.obj.cell 0
theorem Rep.c1 (h : Rep w b l bp bf) : w.cell? ⟨b, 1, none⟩ = some (.map (some bf)) := h.obj.cell 1
theorem Rep.ne_p (h : Rep w b l bp bf) : b ≠ bp := by
  rintro rfl
  obtain ⟨es, clock, h1, _⟩ := h.pages
  cases h.obj.symm.trans h1
theorem Rep.ne_f (h : Rep w b l bp bf) : b ≠ bf := by
  rintro rfl
  obtain ⟨D, ⟨es, clock, h1, _⟩, _⟩ := h.frames
  cases h.obj.symm.trans h1
theorem Has.keep (h : Has w b l F) (hk : ∀ k, F k → w'.heap[k]? = w.heap[k]?) : Has w' b l F := by
  obtain ⟨bp, bf, h1, rfl⟩ := h
  exact ⟨bp, bf, h1.keep hk, rfl⟩
theorem Has.lt (h : Has w b l F) : ∀ k, F k → k < w.heap.size := by
  obtain ⟨bp, bf, h1, rfl⟩ := h
  exact h1.lt
theorem Has.mem (h : Has w b l F) : F b := by
  obtain ⟨bp, bf, h1, rfl⟩ := h
  exact .inl rfl
theorem Has.ok (h : Has w b l F) : Tok l := by
  obtain ⟨bp, bf, h1, rfl⟩ := h
  exact h1.ok
theorem Has.below (h : Has w b l F) (hb : Below w.heap.size w w') : Has w' b l F := h.keep fun k hk => hb.block _ (h.lt k hk)
end
/-- no table: nil, or a zero one -/
def Non (w : World) (v : Value) : Prop := v = .pointer none ∨ ∃ b, v = bx b ∧ w.cell? ⟨b, 0, none⟩ = some (.map none)
theorem Non.below {w w' : World} {v : Value} (h : Non w v) (hb : Below w.heap.size w w') : Non w' v := by
  rcases h with h | ⟨b, h1, h2⟩
  · exact .inl h
  · exact .inr ⟨b, h1, (hb.cell (p := ⟨b, 0, none⟩) (lt_of_cell h2)).trans h2⟩
/-- behind a call the table is l', in its blocks and new ones -/
def Next (w : World) (b : Nat) (l' : Tb) (F : Nat → Prop) (w' : World) : Prop := Has w' b l' F ∧ Keep F w w'
theorem Next.same {w w' : World} {b : Nat} {l : Tb} {F : Nat → Prop} (h : Has w b l F) (hb : Below w.heap.size w w') : Next w b l F w' := ⟨h.below hb, Keep.of_below hb⟩
theorem law : Keyed Try.prog 3 := int_keyed Try.underlying3
theorem wf_i64 {a : Int} (h : I64 a) : (Lit.int .i64 a).wf = true := WalkArith.wf_i64 (by unfold I64 at h; omega)
theorem keyZ {a : Int} (h : I64 a) : keyOf Try.prog 3 (.int .i64 a) = some (.int .i64 a) := keyOf_int_mk Try.underlying3 (wf_i64 h)
theorem zeroP (w : World) : (zeroValue 34).run Try.prog w = .ok (enV zeroEn) w := by kernel_rfl
theorem zeroU (w : World) : (zeroValue 101).run Try.prog w = .ok (.agg #[]) w := by kernel_rfl
theorem page64 {z : Int} (h : pageB z = true) : I64 z := by have := pageB_iff.1 h; unfold I64; omega
end Go.Proofs.Ytmocdokikcbjeaa
