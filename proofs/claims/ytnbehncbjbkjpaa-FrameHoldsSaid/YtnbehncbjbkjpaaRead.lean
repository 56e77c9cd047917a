import Derived.Test.YtnbehncbjbkjpaaReach
namespace Go.Proofs.Ytnbehncbjbkjpaa
open Go.RowKit Go.Shelf Go.Maps Go.Sort
attribute [local go_sem] Oper.semAt_some

/- READ, WRITE, RESERVED, ROOM. -/

theorem u8_info : (Try.prog.info? 5).map (fun i => (i.zero, i.size, i.bytes)) = some (some (.int .u8 0), 1, 1) := by kernel_rfl
theorem run_eql_slice_none {P : Program} (w : World) (t e : TypeId) (a : Option Addr) (n c : Nat) (h : P.underlying t = some (.slice e)) : (binOp .eql t (.slice a n c) (.slice none 0 0)).run P w = .ok (.bool a.isNone) w := by
  have h1 : (Op.equal t (.slice a n c) (.slice none 0 0)).run P w = .ok a.isNone w := by
    have h2 : ∀ d, (Op.equalIn (d + 1) t (.slice a n c) (.slice none 0 0)).run P w = .ok a.isNone w := fun d => by cases a <;> simp [Op.equalIn, run_underlying h]
    exact h2 9999
  simp only [binOp]
  simp [h1, Result.andThen]
theorem clone_nil (w : World) : Calls Try.prog 40 #[.slice none 0 0] w fun e w' => e = .returned (.slice none 0 0) ∧ w = w' := by
  have q := fun w => run_eql_slice_none (P := Try.prog) w 36 5 none 0 0 Try.underlying36
  go_enter Try.func40, Try.ntmps40
  go_wp2
  go_ret
  exact ⟨rfl, rfl⟩
theorem empty_row (w : World) (t : TypeId) : (w.alloc (.cells #[] t)).ownsRow w.heap.size t 1 (.slice (some ⟨w.heap.size, 0, none⟩) 0 0) 0 [] :=
  ⟨rfl, .inr ⟨w.heap.size, 0, #[], rfl, Nat.le_refl _, World.alloc_heap_new w _, Nat.le_refl _, Nat.zero_le _, rfl, rfl⟩⟩
set_option maxHeartbeats 1000000 in
theorem clone_some (A : Addr) (n c B : Nat) (l : List UInt8) (w : World) (hl : l.length = n) (hn : n ≤ 140737488351232) (hr : Sees w B (some A) (byt l)) (hB : B ≤ w.heap.size) :
    Calls Try.prog 40 #[.slice (some A) n c] w fun e w' => ∃ v, e = .returned v ∧ w'.ownsRow w.heap.size 5 1 v n (byt l) ∧ Below w.heap.size w w' := by
  obtain ⟨i0, hi, hz0, hz1, hz2⟩ := info_parts u8_info
  have hr1 := Lib.hid (hr.alloc hB (.cells #[] 5))
  have hown := Lib.hid (empty_row w 5)
  have hfin := Lib.hid (fun (w' : World) (hg : (w.alloc (.cells #[] 5)).grownBy w' (some w.heap.size)) => (show Below w.heap.size w w' from
    (below1 w (.cells #[] 5)).grown hg (by simp) (fun r e => by cases e; exact Nat.le_refl _)))
  have q := fun w => run_eql_slice_none (P := Try.prog) w 36 5 (some A) n c Try.underlying36
  clear hr hB
  go_enter Try.func40, Try.ntmps40
  go_wp2_with (at_builtin; refine wpList_append_sees rfl _ _ 36 rfl w.heap.size 5 i0 _ 1 1 Try.underlying36 hi hz0 hz1 hz2 rfl (by decide) _ 0 [] rfl hown.out B (some A) n c (byt l) rfl (by rw [byt_length, hl, Nat.mul_one]) hr1.out byt_one (by unfold maxLen; omega) (by omega) (by simp) ?_; intro v' w' hrow hg hgg)
  go_ret
  rw [Nat.zero_add, List.nil_append] at hrow
  exact ⟨v', rfl, hrow, hfin.out _ hg⟩

theorem byt_bv (l : List UInt8) : byt l = l.map bv := rfl
theorem Rep.shows {w : World} {b bm : Nat} {p : Pl} {sv : Value} {f0 N fc : Nat} {fb : List (List UInt8)} {gs : Option Nat} (h : Rep w b p bm (.slice (some ⟨f0, 0, none⟩) N fc) sv fb (some f0) gs) (i o a m : Nat) (bs : List UInt8)
    (hx : p.fr[i]? = some (some (o, bs))) (ha : a + m ≤ 256) : Sees w w.heap.size (some ⟨f0, i * 256 + a, none⟩) (byt ((bs.drop a).take m)) := fun _ => by
  have hs := h.same i o bs hx
  have hi := (List.getElem?_eq_some_iff.1 hs).1
  have hfi : fb[i] = bs := (List.getElem?_eq_some_iff.1 hs).2
  refine ⟨_, rfl, h.frm.lt f0 rfl, fun j u hu => ?_⟩
  have hj : j < m := by
    have := (List.getElem?_eq_some_iff.1 hu).1
    simp only [byt_length, List.length_take] at this
    omega
  have hmul := Nat.mul_le_mul_right 256 (show i + 1 ≤ fb.length by omega)
  rw [add_plain, h.frm.cell rfl _ (by omega), Nat.add_assoc, fl_get fb h.fbs i (a + j) hi (by omega), hfi]
  rw [byt_bv, List.getElem?_map, List.getElem?_take, if_pos hj, List.getElem?_drop] at hu
  rw [List.getElem?_map]
  exact hu
theorem freeL_same {fr : List Fr} {i : Nat} (x : Nat × List UInt8) (n : Nat) (hi : ∃ y, fr[i]? = some (some y)) : freeL (fr.set i (some x)) n = freeL fr n := by
  obtain ⟨y, hy⟩ := hi
  have hl := (List.getElem?_eq_some_iff.1 hy).1
  unfold freeL
  refine List.filter_congr fun j _ => ?_
  rw [isFree_set _ hl]
  split
  next he =>
    subst he
    rw [(not_free hl).2 ⟨y, hy⟩]
    rfl
  · rfl
theorem Rep.write {w : World} {b bm : Nat} {p : Pl} {fv sv : Value} {f0 : Nat} {fb : List (List UInt8)} {gs : Option Nat} (h : Rep w b p bm fv sv fb (some f0) gs) (i o a : Nat) (bs l : List UInt8)
    (hx : p.fr[i]? = some (some (o, bs))) (ha : a + l.length ≤ 256) (hok : ({ p with fr := p.fr.set i (some (o, putB bs a l)) } : Pl).ok) :
    Rep (w.setCells f0 (i * 256 + a) (byt l)) b { p with fr := p.fr.set i (some (o, putB bs a l)) } bm fv sv (fb.set i (putB bs a l)) (some f0) gs := by
  have hs := h.same i o bs hx
  have hi := (List.getElem?_eq_some_iff.1 hs).1
  have hfi : fb[i] = bs := (List.getElem?_eq_some_iff.1 hs).2
  have hil := (List.getElem?_eq_some_iff.1 hx).1
  obtain ⟨n1, n2, n3, n4, n5⟩ := h.gf_ne
  have hb := h.fbs bs (List.mem_of_getElem? hs)
  have hk : ∀ k, k ≠ f0 → (w.setCells f0 (i * 256 + a) (byt l)).heap[k]? = w.heap[k]? := fun k hk => setCells_block _ hk
  refine ⟨hok, ?_, ?_, ?_, ?_, ?_, ?_, ?_, ?_⟩
  · have := h.obj.same (hk b (fun e => n1 (by rw [e])))
    simpa using this
  · have he : owns (p.fr.set i (some (o, putB bs a l))) = owns p.fr := by
      rw [owns_set]
      refine List.ext_getElem? fun j => ?_
      rw [List.getElem?_set]
      split
      next e =>
        subst e
        rw [owns_len, if_pos hil, owns_get, hx]
        rfl
      · rfl
    simp only [he]
    exact owns_same h.map (hk bm (fun e => n2 (by rw [e])))
  · have := h.frm.put h.fbs i a hi l ha
    rw [hfi] at this
    exact this
  · simp only [List.length_set]
    rw [spare_eq, freeL_same _ _ ⟨_, hx⟩, ← spare_eq]
    exact h.spr.keep fun g e => hk g (fun e2 => n5 f0 rfl (by rw [e, e2]))
  · simp only [List.length_set]
    exact h.fbl
  · intro j hj
    rw [List.length_set] at hj
    have := h.behind j hj
    unfold frameO at this ⊢
    rw [List.getElem?_set_ne (by omega)]
    exact this
  · intro x hx2
    rcases List.mem_or_eq_of_mem_set hx2 with h1 | h1
    · exact h.fbs _ h1
    · rw [h1, putB_len _ _ _ (by omega)]; exact hb
  · intro j o' x hj
    simp only [List.getElem?_set] at hj ⊢
    split at hj
    next e =>
      subst e
      simp only [Option.some.injEq, Prod.mk.injEq] at hj
      rw [if_pos rfl, if_pos hi, hj.2]
    next e =>
      rw [if_neg e]
      exact h.same j o' x hj

/-- reach, where nothing is wrong -/
theorem reach_any {b bm : Nat} {p : Pl} {fv sv : Value} {fb : List (List UInt8)} {gf gs : Option Nat} {w : World} (h : Rep w b p bm fv sv fb gf gs) (i a m : Int) (hE : reachE p i a m = 0) :
    ∃ A c f0, gf = some f0 ∧ (∀ V, Rep V b p bm fv sv fb gf gs → Calls Try.prog 39 #[bx b, .int .i64 i, .int .i64 a, .int .i64 m] V fun e w' => e = .returned (.tuple #[.slice (some A) m.toNat c, .int .i64 0]) ∧ Below V.heap.size V w') ∧
      (∀ V, Rep V b p bm fv sv fb gf gs → Sees V V.heap.size (some A) (byt (readP p i a m))) ∧ m.toNat ≤ c ∧ c ≤ 256 ∧ (0 < m → A = ⟨f0, i.toNat * 256 + a.toNat, none⟩) ∧ (readP p i a m).length = m.toNat := by
  obtain ⟨h1, h2, h3, h4, h5, o, bs, h6, h7⟩ := reach_some hE
  have hs := h.same _ o bs h6
  have hi := (List.getElem?_eq_some_iff.1 hs).1
  have hb := h.fbs bs (List.mem_of_getElem? hs)
  have hrd : readP p i a m = (bs.drop a.toNat).take m.toNat := by unfold readP; rw [if_pos hE, h7]
  obtain ⟨f0, fc, fcur, rfl, rfl, hfc1, hfc2, hfH, hfs, hft⟩ := h.frm.block (by omega)
  obtain ⟨n, rfl⟩ : ∃ n : Nat, i = n := ⟨i.toNat, by omega⟩
  obtain ⟨k, rfl⟩ : ∃ k : Nat, a = k := ⟨a.toNat, by omega⟩
  obtain ⟨q, rfl⟩ : ∃ q : Nat, m = q := ⟨m.toNat, by omega⟩
  simp only [Int.toNat_natCast] at *
  rw [hrd]
  have hN : fb.length ≤ 16384 := Nat.le_trans h.fbl h.ok.most
  rcases Nat.lt_or_ge k 256 with hk | hk
  · exact ⟨_, _, f0, rfl, fun V hV => reach_yes hV n k q hi hN hk (by omega) hE, fun V hV => hV.shows n o k q bs h6 (by omega), by omega, by omega, fun _ => rfl, by simp; omega⟩
  · obtain rfl : k = 256 := by omega
    obtain rfl : q = 0 := by omega
    exact ⟨_, _, f0, rfl, fun V hV => reach_end hV n hi hN hE, fun V hV => Sees.nil_, by omega, by omega, fun h => by omega, by simp⟩

set_option maxHeartbeats 1000000 in
theorem read_nil (v : Value) (i a m : Int) (w : World) (h : Non w v) : Calls Try.prog 15 #[v, .int .i64 i, .int .i64 a, .int .i64 m] w fun e w' => e = .returned (.tuple #[.slice none 0 0, .int .i64 1]) ∧ Below w.heap.size w w' := by
  have h1 := Lib.hid (reach_nil v i a m w h)
  have h2 := Lib.hid (fun w => clone_nil w)
  clear h
  go_enter Try.func15, Try.ntmps15
  go_wp2_with fail
  refine (h1.out).mono ?_
  rintro e w1 ⟨rfl, hb⟩
  go_wp2_with fail
  refine (h2.out _).mono ?_
  rintro e w2 ⟨rfl, rfl⟩
  go_wp2
  go_ret2
  exact ⟨rfl, hb⟩
/-- what was read -/
def ReadP (w : World) (l : List UInt8) (E : Nat) (e : Ending) (w' : World) : Prop :=
  ∃ A n c, e = .returned (.tuple #[.slice A n c, .int .i64 (E : Int)]) ∧ n = l.length ∧ n ≤ c ∧ w'.ownsRow w.heap.size 5 1 (.slice A n c) n (byt l) ∧ Below w.heap.size w w'
set_option maxHeartbeats 1000000 in
theorem read_any {b : Nat} {p : Pl} {F : Nat → Prop} {w : World} (h : Has w b p F) (i a m : Int) (hi1 : i ≤ 9223372036854775807) (ha : -9223372036854775808 ≤ a ∧ a ≤ 9223372036854775807) :
    Calls Try.prog 15 #[bx b, .int .i64 i, .int .i64 a, .int .i64 m] w (ReadP w (readP p i a m) (reachE p i a m)) := by
  obtain ⟨bm, fv, sv, fb, gf, gs, hr, rfl⟩ := h
  by_cases hE : reachE p i a m = 0
  · obtain ⟨A, c, f0, _, h1, h2, h3, h4, h5, h6⟩ := reach_any hr i a m hE
    have hm : m.toNat ≤ 256 := by omega
    have H1 := Lib.hid (h1 w hr)
    have H2 := Lib.hid (fun (w1 : World) (hb : Below w.heap.size w w1) => (show Calls Try.prog 40 #[.slice (some A) m.toNat c] w1 (fun e w' => ∃ A' c', e = .returned (.slice A' m.toNat c') ∧ m.toNat ≤ c' ∧ w'.ownsRow w.heap.size 5 1 (.slice A' m.toNat c') m.toNat (byt (readP p i a m)) ∧ Below w.heap.size w w') from by
      refine (clone_some A m.toNat c w1.heap.size (readP p i a m) w1 h6 (by omega) (h2 w1 (hr.below hb)) (Nat.le_refl _)).mono ?_
      rintro e w' ⟨v, rfl, hrow, hb2⟩
      obtain ⟨A', c', rfl⟩ := own_slice hrow
      exact ⟨A', c', rfl, (own_cap hrow).1, own_mono hrow hb.size, below0 hb hb2⟩))
    have HR : (readP p i a m).length = m.toNat := h6
    have HRl := Lib.hid HR
    rw [hE]
    obtain ⟨l, hl⟩ : ∃ l, l = readP p i a m := ⟨_, rfl⟩
    rw [← hl] at H2 HRl ⊢
    obtain ⟨q, hq⟩ : ∃ q, q = m.toNat := ⟨_, rfl⟩
    rw [← hq] at H1 H2 HRl
    clear hl hq hm HR h1 h2 h3 h4 h5 h6 hE hr hi1 ha
    go_enter Try.func15, Try.ntmps15
    go_wp2_with fail
    refine (H1.out).mono ?_
    rintro e w1 ⟨rfl, hb⟩
    have H3 := Lib.hid (H2.out w1 hb)
    clear H2 H1 hb
    go_wp2_with fail
    refine (H3.out).mono ?_
    rintro e w2 ⟨A', c', rfl, g1, g2, g3⟩
    have HF := Lib.hid (show ReadP w l 0 (.returned (.tuple #[.slice A' q c', .int .i64 0])) w2 from ⟨A', q, c', rfl, HRl.out.symm, g1, g2, g3⟩)
    clear g1 g2 g3
    go_wp2
    go_ret2
    exact HF.out
  · have H1 := Lib.hid (reach_no hr i a m hi1 ha hE)
    have h2 := Lib.hid (fun w => clone_nil w)
    have hrd : readP p i a m = [] := by unfold readP; rw [if_neg hE]
    rw [hrd]
    obtain ⟨E, hE2⟩ : ∃ E, E = reachE p i a m := ⟨_, rfl⟩
    rw [← hE2] at H1 ⊢
    have HF := Lib.hid (fun (w1 : World) (hb : Below w.heap.size w w1) => (show ReadP w [] E (.returned (.tuple #[.slice none 0 0, .int .i64 (E : Int)])) w1 from ⟨none, 0, 0, rfl, rfl, Nat.le_refl _, World.ownsRow_nil w1 _ _ _, hb⟩))
    clear hrd hE2 hE hr hi1 ha
    go_enter Try.func15, Try.ntmps15
    go_wp2_with fail
    refine (H1.out).mono ?_
    rintro e w1 ⟨rfl, hb⟩
    have HG := Lib.hid (HF.out w1 hb)
    clear HF hb
    go_wp2_with fail
    refine (h2.out _).mono ?_
    rintro e w2 ⟨rfl, rfl⟩
    go_wp2
    go_ret2
    exact HG.out
end Go.Proofs.Ytnbehncbjbkjpaa
