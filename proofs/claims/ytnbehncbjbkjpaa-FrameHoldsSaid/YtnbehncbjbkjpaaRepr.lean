import Derived.Test.YtnbehncbjbkjpaaPl
import Derived.Test.YtnbehncbjbkjpaaBaseIn
import Derived.Maps.OwnOps
import Derived.Maps.OwnIn
namespace Go.Proofs.Ytnbehncbjbkjpaa
open Go.RowKit Go.Shelf Go.Maps

/- HOW A POOL LIES IN MEMORY. -/

section
variable {P : Program} (w : World)
theorem run_neq_map_nil (t k e : TypeId) (p : Option Nat) (h : P.underlying t = some (.map k e)) :
    (binOp .neq t (.map p) (.map none)).run P w = .ok (.bool (!p.isNone)) w := by
  have h1 : (Op.equal t (.map p) (.map none)).run P w = .ok p.isNone w := by
    have h2 : ∀ d, (Op.equalIn (d + 1) t (.map p) (.map none)).run P w = .ok p.isNone w := fun d => by cases p <;> simp [Op.equalIn, run_underlying h]
    exact h2 9999
  simp only [binOp]
  simp [h1, Result.andThen]
end

/-- an append whose run is known -/
theorem wpList_append_eq {P : Program} (w : World) {ops : Array Oper} {rest : List Oper} {o : Oper} {a : Act} {Q : Exit → Act → World → Prop} (hgd : o.guard = none) (s x : Operand) (t tn : TypeId)
    (ho : o.op = .call { callee := .builtin .append, args := #[s, x], argTypes := #[t, tn] }) (vs vx : Value) (hs : a.eval s = vs) (hx : a.eval x = vx)
    (v' : Value) (w' : World) (hr : (Builtin.append_ #[t, tn] o.type #[vs, vx]).run P w = .ok v' w') (h : wpList P ops Q rest (a.put o.dst v') w') : wpList P ops Q (o :: rest) a w :=
  wpList_plain hgd fun K hK => by
    unfold Oper.wp execOp
    simp only [ho, resolve, invoke, builtin, Sem.run_bind, Sem.run_pure, Result.andThen_ok, List.map_toArray, List.map_cons, List.map_nil, hs, hx, hr]
    exact hK _ _ h

/-- a slice that owns what it shows: a block of its own (g), or none, and nothing is in it -/
def Own (w : World) (t : TypeId) (k : Nat) (v : Value) (n : Nat) (xs : List Value) (g : Option Nat) : Prop :=
  (g = none ∧ n = 0 ∧ xs = [] ∧ ∃ A, v = .slice A 0 0) ∨
  (∃ b cap cur, g = some b ∧ v = .slice (some ⟨b, 0, none⟩) n cap ∧ w.heap[b]? = some (.cells cur t (0, 0)) ∧ n ≤ cap ∧ cap ≤ maxLen ∧ cur.size = cap * k ∧ xs.length = n * k ∧ cur.toList.take (n * k) = xs)
section
variable {w w' : World} {t : TypeId} {k n : Nat} {v : Value} {xs : List Value} {g : Option Nat}
theorem Own.keep (h : Own w t k v n xs g) (hk : ∀ b, g = some b → w'.heap[b]? = w.heap[b]?) : Own w' t k v n xs g := by
  rcases h with h | ⟨b, cap, cur, h1, h2, h3, h4⟩
  · exact .inl h
  · exact .inr ⟨b, cap, cur, h1, h2, (hk b h1).trans h3, h4⟩
theorem Own.lt (h : Own w t k v n xs g) : ∀ b, g = some b → b < w.heap.size := by
  rintro b rfl
  rcases h with ⟨h, _⟩ | ⟨b', cap, cur, h1, h2, h3, h4⟩
  · cases h
  · cases h1
    exact (Array.getElem?_eq_some_iff.1 h3).1
theorem Own.len (h : Own w t k v n xs g) : xs.length = n * k := by
  rcases h with ⟨_, rfl, rfl, _⟩ | ⟨b, cap, cur, h1, h2, h3, h4, h5, h6, h7, h8⟩
  · simp
  · exact h7
theorem Own.form (h : Own w t k v n xs g) : ∃ A c, v = .slice A n c ∧ n ≤ c ∧ c ≤ maxLen := by
  rcases h with ⟨_, rfl, rfl, A, rfl⟩ | ⟨b, cap, cur, h1, rfl, h3, h4, h5, h6⟩
  · exact ⟨A, 0, rfl, Nat.le_refl _, Nat.zero_le _⟩
  · exact ⟨_, cap, rfl, h4, h5⟩
/-- where there is something, it lies in cells -/
theorem Own.block (h : Own w t k v n xs g) (hn : 0 < n) : ∃ b c cur, g = some b ∧ v = .slice (some ⟨b, 0, none⟩) n c ∧ n ≤ c ∧ c ≤ maxLen ∧ w.heap[b]? = some (.cells cur t (0, 0)) ∧ cur.size = c * k ∧ cur.toList.take (n * k) = xs := by
  rcases h with ⟨_, rfl, rfl, A, rfl⟩ | ⟨b, cap, cur, h1, rfl, h3, h4, h5, h6, h7, h8⟩
  · omega
  · exact ⟨b, cap, cur, h1, rfl, h4, h5, h3, h6, h8⟩
theorem Own.cell (h : Own w t k v n xs g) {b : Nat} (hb : g = some b) (j : Nat) (hj : j < n * k) : w.cell? ⟨b, j, none⟩ = xs[j]? := by
  rcases h with ⟨h0, _⟩ | ⟨b', cap, cur, h1, rfl, h3, h4, h5, h6, h7, h8⟩
  · rw [h0] at hb; cases hb
  · rw [h1] at hb
    cases hb
    rw [← h8, List.getElem?_take, if_pos hj]
    simp [World.cell?, h3]
theorem Own.frozen (h : Own w t k v n xs g) {b : Nat} (hb : g = some b) (j : Nat) : w.frozen? ⟨b, j, none⟩ = false := by
  rcases h with ⟨h0, _⟩ | ⟨b', cap, cur, h1, rfl, h3, h4, h5, h6, h7, h8⟩
  · rw [h0] at hb; cases hb
  · rw [h1] at hb
    cases hb
    simp [World.frozen?, h3]
theorem Own.of_row {base : Nat} (h : w.ownsRow base t k v n xs) : Own w t k v n xs v.ownBlock := by
  rcases h.2 with ⟨rfl, rfl⟩ | ⟨b, cap, cur, rfl, h1, h2, h3, h4, h5, h6⟩
  · exact .inl ⟨rfl, rfl, List.eq_nil_of_length_eq_zero (by simpa using h.1), none, rfl⟩
  · exact .inr ⟨b, cap, cur, rfl, rfl, h2, h3, h4, h5, h.1, h6⟩
theorem Own.nil (w : World) (t : TypeId) (k : Nat) : Own w t k (.slice none 0 0) 0 [] none := .inl ⟨rfl, rfl, rfl, none, rfl⟩

/-- one element more at the end -/
theorem Own.append {P : Program} (h : Own w t k v n xs g) (s ty : TypeId) (i : TypeInfo) (z : Value) (bytes : Nat) (ht : P.underlying s = some (.slice t)) (hi : P.info? t = some i) (hz : i.zero = some z) (hsize : i.size = k)
    (hby : i.bytes = bytes) (hzs : z.cells.size = k) (hk : 0 < k) (ad : Addr) (c : Nat) (news : List Value) (hl : news.length = k) (hnews : ∀ j u, news[j]? = some u → w.cell? (ad.add j) = some u)
    (h1 : ∀ u ∈ news, u.oneCell' = true) (h63 : n + 1 ≤ maxLen) (hbytes : (n + 1) * bytes ≤ 140737488355328) :
    ∃ v' w' g', (Builtin.append_ #[s, s] ty #[v, .slice (some ad) 1 c]).run P w = .ok v' w' ∧ Own w' t k v' (n + 1) (xs ++ news) g' ∧ w.grownBy w' g ∧ (g' = g ∨ g' = some w.heap.size) ∧ g'.isSome := by
  rcases h with ⟨rfl, rfl, rfl, A, rfl⟩ | ⟨b, cap, cur, rfl, rfl, h3, h4, h5, h6, h7, h8⟩
  · cases A with
    | none =>
      obtain ⟨v', w', hr, h2, h3, h4, h5⟩ := run_append_own_at (P := P) w 0 s ty t i z k bytes ht hi hz hsize hby hzs hk _ 0 [] (World.ownsRow_nil w 0 t k) ad 1 c news (by simpa using hl) hnews h1 h63 hbytes (Nat.zero_le _)
      refine ⟨v', w', v'.ownBlock, hr, Own.of_row h2, h3, h5, ?_⟩
      rcases h2.2 with ⟨rfl, h0⟩ | ⟨b, cap, cur, rfl, _⟩
      · omega
      · rfl
    | some a =>
      have hr := run_append_grow (P := P) w s ty t i z ht hi hz a 0 0 [] (by simp) (fun j u hu => by simp at hu) ad 1 c news (by rw [hsize, Nat.one_mul]; exact hl) hnews (by omega) (by omega) (by rw [hby]; exact growslice_fits (by omega) hbytes)
      refine ⟨_, _, some w.heap.size, hr, .inr ⟨w.heap.size, _, _, rfl, rfl, heap_alloc_new w.drew _, grownCap_ge _ _ _ _, grownCap_le_maxLen _ _ _ _ h63, ?_, ?_, ?_⟩, ?_, .inr rfl, rfl⟩
      · have hge := grownCap_ge w (0 + 1) 0 t
        simp only [Array.size_append, List.size_toArray, List.length_nil, Nat.zero_add, size_zeroCells, hzs, hl]
        simp only [Nat.zero_add] at hge
        rw [show k + (grownCap w 1 0 t - 1) * k = (1 + (grownCap w 1 0 t - 1)) * k by rw [Nat.add_mul, Nat.one_mul]]
        congr 1
        omega
      · simpa using hl
      · simp [← hl]
      · exact ⟨rfl, rfl, rfl, by simp, fun j hj _ => Below.heap_alloc _ _ _ hj⟩
  · obtain ⟨v', w', hr, h2, h3', h4', h5'⟩ := run_append_own_at (P := P) w 0 s ty t i z k bytes ht hi hz hsize hby hzs hk _ n xs ⟨h7, .inr ⟨b, cap, cur, rfl, Nat.zero_le _, h3, h4, h5, h6, h8⟩⟩ ad 1 c news (by simpa using hl) hnews h1 h63 hbytes (Nat.zero_le _)
    refine ⟨v', w', v'.ownBlock, hr, Own.of_row h2, h3', h5', ?_⟩
    rcases h2.2 with ⟨rfl, h0⟩ | ⟨b, cap, cur, rfl, _⟩
    · omega
    · rfl
end

def bv (x : UInt8) : Value := .int .u8 (x.toNat : Int)
def iv (n : Nat) : Value := .int .i64 (n : Int)
def fl (fb : List (List UInt8)) : List Value := fb.flatMap fun bs => bs.map bv
def poolL (many bm : Nat) (left : List Nat) (fv sv : Value) : List Value := iv many :: .map (some bm) :: (left.map iv ++ [fv, sv])
/-- the free frames below n, the least one last -/
def spareOf (fr : List Fr) (n : Nat) : List Nat := ((List.range n).filter fun i => frameO ⟨fr, []⟩ i == none).reverse

structure Rep (w : World) (b : Nat) (p : Pl) (bm : Nat) (fv sv : Value) (fb : List (List UInt8)) (gf gs : Option Nat) : Prop where
  ok : p.ok
  obj : Row w b 60 (poolL p.fr.length bm p.left fv sv)
  map : w.ownsMap Try.prog 3 (plainElem Try.prog 3) bm 16384 (mapD (owns p.fr))
  frm : Own w 78 256 fv fb.length (fl fb) gf
  spr : Own w 3 1 sv (spareOf p.fr fb.length).length ((spareOf p.fr fb.length).map iv) gs
  fbl : fb.length ≤ p.fr.length
  behind : ∀ i, fb.length ≤ i → frameO p i = none
  fbs : ∀ bs ∈ fb, bs.length = 256
  same : ∀ (i o : Nat) (bs : List UInt8), p.fr[i]? = some (some (o, bs)) → fb[i]? = some bs
def blocks (b bm : Nat) (gf gs : Option Nat) : Nat → Prop := fun k => k = b ∨ k = bm ∨ gf = some k ∨ gs = some k
/-- a pool at b that owns the blocks of F -/
def Has (w : World) (b : Nat) (p : Pl) (F : Nat → Prop) : Prop := ∃ bm fv sv fb gf gs, Rep w b p bm fv sv fb gf gs ∧ F = blocks b bm gf gs

section
variable {w w' : World} {b bm : Nat} {p : Pl} {fv sv : Value} {fb : List (List UInt8)} {gf gs : Option Nat} {F : Nat → Prop}
theorem Rep.keep (h : Rep w b p bm fv sv fb gf gs) (hk : ∀ k, blocks b bm gf gs k → w'.heap[k]? = w.heap[k]?) : Rep w' b p bm fv sv fb gf gs := by
  obtain ⟨es, clock, h1, h2, h3, h4⟩ := h.map
  exact ⟨h.ok, h.obj.same (hk _ (.inl rfl)), ⟨es, clock, (hk _ (.inr (.inl rfl))).trans h1, h2, h3, h4⟩, h.frm.keep fun g e => hk _ (.inr (.inr (.inl e))), h.spr.keep fun g e => hk _ (.inr (.inr (.inr e))), h.fbl, h.behind, h.fbs, h.same⟩
theorem Rep.lt (h : Rep w b p bm fv sv fb gf gs) : ∀ k, blocks b bm gf gs k → k < w.heap.size := by
  rintro k (rfl | rfl | e | e)
  · exact h.obj.lt
  · exact h.map.lt
  · exact h.frm.lt k e
  · exact h.spr.lt k e
theorem Rep.below (h : Rep w b p bm fv sv fb gf gs) (hb : Below w.heap.size w w') : Rep w' b p bm fv sv fb gf gs := h.keep fun k hk => hb.block _ (h.lt k hk)
theorem Has.keep (h : Has w b p F) (hk : ∀ k, F k → w'.heap[k]? = w.heap[k]?) : Has w' b p F := by
  obtain ⟨bm, fv, sv, fb, gf, gs, h1, rfl⟩ := h
  exact ⟨bm, fv, sv, fb, gf, gs, h1.keep hk, rfl⟩
theorem Has.lt (h : Has w b p F) : ∀ k, F k → k < w.heap.size := by
  obtain ⟨bm, fv, sv, fb, gf, gs, h1, rfl⟩ := h
  exact h1.lt
theorem Has.mem (h : Has w b p F) : F b := by
  obtain ⟨bm, fv, sv, fb, gf, gs, h1, rfl⟩ := h
  exact .inl rfl
theorem Has.ok (h : Has w b p F) : p.ok := by
  obtain ⟨bm, fv, sv, fb, gf, gs, h1, rfl⟩ := h
  exact h1.ok
theorem Has.below (h : Has w b p F) (hb : Below w.heap.size w w') : Has w' b p F := h.keep fun k hk => hb.block _ (h.lt k hk)
theorem Rep.ne_map (h : Rep w b p bm fv sv fb gf gs) : b ≠ bm := by
  rintro rfl
  obtain ⟨es, clock, h1, _⟩ := h.map
  have := h.obj.symm.trans h1
  cases this
theorem Own.cells_ty {t : TypeId} {k n : Nat} {v : Value} {xs : List Value} {g : Option Nat} (h : Own w t k v n xs g) {c : Nat} (hg : g = some c) : ∃ cur, w.heap[c]? = some (.cells cur t (0, 0)) := by
  rcases h with ⟨h0, _⟩ | ⟨b', cap, cur, h1, rfl, h3, h4⟩
  · rw [h0] at hg; cases hg
  · rw [h1] at hg; cases hg
    exact ⟨cur, h3⟩
theorem Rep.gf_ne (h : Rep w b p bm fv sv fb gf gs) : gf ≠ some b ∧ gf ≠ some bm ∧ gs ≠ some b ∧ gs ≠ some bm ∧ ∀ k, gf = some k → gs ≠ some k := by
  obtain ⟨es, clock, hm, _⟩ := h.map
  refine ⟨fun e => ?_, fun e => ?_, fun e => ?_, fun e => ?_, fun k e e' => ?_⟩
  · obtain ⟨cur, hc⟩ := h.frm.cells_ty e
    have := h.obj.symm.trans hc
    injection this with this
    injection this with _ h2
    exact absurd h2 (by decide)
  · obtain ⟨cur, hc⟩ := h.frm.cells_ty e
    have := hm.symm.trans hc
    cases this
  · obtain ⟨cur, hc⟩ := h.spr.cells_ty e
    have := h.obj.symm.trans hc
    injection this with this
    injection this with _ h2
    exact absurd h2 (by decide)
  · obtain ⟨cur, hc⟩ := h.spr.cells_ty e
    have := hm.symm.trans hc
    cases this
  · obtain ⟨cur, hc⟩ := h.frm.cells_ty e
    obtain ⟨cur', hc'⟩ := h.spr.cells_ty e'
    have := hc.symm.trans hc'
    injection this with this
    injection this with _ h2
    exact absurd h2 (by decide)
theorem Rep.c0 (h : Rep w b p bm fv sv fb gf gs) : w.cell? ⟨b, 0, none⟩ = some (.int .i64 (p.fr.length : Int)) := h.obj.cell 0
theorem Rep.c1 (h : Rep w b p bm fv sv fb gf gs) : w.cell? ⟨b, 1, none⟩ = some (.map (some bm)) := h.obj.cell 1
theorem Rep.cl (h : Rep w b p bm fv sv fb gf gs) {o : Nat} (ho : o < 64) : w.cell? ⟨b, 2 + o, none⟩ = some (.int .i64 (leftN p o : Int)) := by
  rw [h.obj.cell, poolL, show 2 + o = o + 1 + 1 by omega, List.getElem?_cons_succ, List.getElem?_cons_succ, List.getElem?_append_left (by rw [List.length_map, h.ok.l64]; exact ho), List.getElem?_map, h.ok.left_get ho]
  rfl
theorem Rep.c66 (h : Rep w b p bm fv sv fb gf gs) : w.cell? ⟨b, 66, none⟩ = some fv := by
  rw [h.obj.cell, poolL, List.getElem?_cons_succ, List.getElem?_cons_succ, List.getElem?_append_right (by rw [List.length_map, h.ok.l64]; decide), List.length_map, h.ok.l64]
  rfl
theorem Rep.c67 (h : Rep w b p bm fv sv fb gf gs) : w.cell? ⟨b, 67, none⟩ = some sv := by
  rw [h.obj.cell, poolL, List.getElem?_cons_succ, List.getElem?_cons_succ, List.getElem?_append_right (by rw [List.length_map, h.ok.l64]; decide), List.length_map, h.ok.l64]
  rfl
end

/-- no pool: nil, or a zero one -/
def Non (w : World) (v : Value) : Prop := v = .pointer none ∨ ∃ b, v = .pointer (some ⟨b, 0, none⟩) ∧ w.cell? ⟨b, 1, none⟩ = some (.map none)
theorem Non.below {w w' : World} {v : Value} (h : Non w v) (hb : Below w.heap.size w w') : Non w' v := by
  rcases h with h | ⟨b, h1, h2⟩
  · exact .inl h
  · exact .inr ⟨b, h1, (hb.cell (p := ⟨b, 1, none⟩) (lt_of_cell h2)).trans h2⟩
end Go.Proofs.Ytnbehncbjbkjpaa
