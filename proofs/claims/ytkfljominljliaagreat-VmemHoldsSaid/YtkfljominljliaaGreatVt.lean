import Derived.Test.YtkfljominljliaaGreatVs
namespace Go.Proofs.YtkfljominljliaaGreat.Vm
open Go.RowKit Go.Shelf Go.Maps Go.Sort

/- PLAIN: WHAT CALLS LEAVE OF WHAT THE LAW KNOWS. -/

theorem look_ins {l : Pg.Tb} (h : l.Pairwise (fun a b => a.1 < b.1)) {z : Int} (x : Pg.En) (hz : Pg.look l z = none) (y : Int) : Pg.look (Pg.ins l z x) y = if y = z then some x else Pg.look l y := by
  have hs := Pg.ins_sorted (x := x) h (Pg.look_none.1 hz)
  apply Option.ext
  intro e
  rw [Pg.look_mem hs, Pg.mem_ins]
  split
  · rename_i h1
    subst h1
    constructor
    · rintro (h2 | h2)
      · simp only [Prod.mk.injEq, true_and] at h2
        rw [h2]
      · exact absurd rfl (Pg.look_none.1 hz _ h2)
    · intro h2
      injection h2 with h2
      exact .inl (by rw [h2])
  · rename_i h1
    rw [← Pg.look_mem h]
    constructor
    · rintro (h2 | h2)
      · simp only [Prod.mk.injEq] at h2
        exact absurd h2.1 h1
      · exact h2
    · exact fun h2 => .inr h2
theorem look_del {l : Pg.Tb} (h : Pg.Tok l) (z y : Int) : Pg.look (Pg.del l z) y = if y = z then none else Pg.look l y := by
  have hs := (Pg.del_ok h z).sorted
  split
  · rename_i h1
    subst h1
    rw [Pg.look_none]
    intro r hr
    unfold Pg.del at hr
    have := (List.mem_filter.1 hr).2
    simpa using this
  · rename_i h1
    apply Option.ext
    intro e
    rw [Pg.look_mem hs, Pg.look_mem h.sorted]
    unfold Pg.del
    rw [List.mem_filter]
    constructor
    · exact fun h2 => h2.1
    · exact fun h2 => ⟨h2, by simpa using h1⟩
theorem frames_ne {l : Pg.Tb} (h : Pg.Tok l) {z y : Int} {e d : Pg.En} (h1 : Pg.look l z = some e) (h2 : Pg.look l y = some d) (hf : e.2.2 = d.2.2) : z = y := by
  obtain ⟨i, hi, e1⟩ := List.getElem_of_mem ((Pg.look_mem h.sorted).1 h1)
  obtain ⟨j, hj, e2⟩ := List.getElem_of_mem ((Pg.look_mem h.sorted).1 h2)
  have hp := List.pairwise_iff_getElem.1 h.frame
  rcases Nat.lt_trichotomy i j with h3 | h3 | h3
  · have := hp i j hi hj h3
    rw [e1, e2] at this
    exact absurd hf this
  · subst h3
    have := e1.symm.trans e2
    exact congrArg Prod.fst this
  · have := hp j i hj hi h3
    rw [e1, e2] at this
    exact absurd hf.symm this
theorem page_put {s b : List UInt8} {z a : Nat} (h : a + b.length ≤ 256) (hs : 256 * z + 256 ≤ s.length) : putB (pageOf s z) a b = pageOf (putL s (256 * z + a) b) z := by
  have hl := page_len hs
  show putL (pageOf s z) a b = _
  apply List.ext_getElem?
  intro j
  rw [putL_get (by omega), page_get, page_get, putL_get (by omega)]
  by_cases h1 : j < 256
  · rw [if_pos h1, if_pos h1]
    by_cases h2 : j < a
    · rw [if_pos h2, if_pos (by omega)]
    · by_cases h3 : j < a + b.length
      · rw [if_neg h2, if_pos h3, if_neg (by omega), if_pos (by omega)]
        congr 1
        omega
      · rw [if_neg h2, if_neg h3, if_neg (by omega), if_neg (by omega)]
  · rw [if_neg h1, if_neg (by omega), if_neg (by omega), if_neg h1]
theorem page_other {s b : List UInt8} {z y a : Nat} (h : a + b.length ≤ 256) (hs : 256 * z + 256 ≤ s.length) (hzy : y ≠ z) : pageOf (putL s (256 * z + a) b) y = pageOf s y := by
  apply List.ext_getElem?
  intro j
  rw [page_get, page_get, putL_get (by omega)]
  by_cases h1 : j < 256
  · rw [if_pos h1, if_pos h1]
    by_cases h2 : 256 * y + j < 256 * z + a
    · rw [if_pos h2]
    · rw [if_neg h2, if_neg (by omega)]
  · rw [if_neg h1, if_neg h1]
section
variable {p : Pl} {l : Pg.Tb} {now : List UInt8} {whose : List Nat}
theorem Inv.lt20 (h : Inv p l now whose) {z o : Nat} (hw : whose[z]? = some o) : z < 20 := by
  have := (List.getElem?_eq_some_iff.1 hw).1
  rw [h.wlen] at this
  exact this
/-- a part is written -/
theorem Inv.part (h : Inv p l now whose) {z o a : Nat} {b : List UInt8} (hw : whose[z]? = some o) (ho : 0 < o) (hab : a + b.length ≤ 256) : Inv (writeP p (Pg.getX l (z : Int)).2.2 (a : Int) b) l (putL now (256 * z + a) b) whose := by
  have hz := h.lt20 hw
  have hnl := h.nlen
  obtain ⟨ho2, f, fo, hl, hf⟩ := h.mine z o hw ho
  obtain ⟨h1, h2⟩ := frame_read hf hab
  have hfl := (List.getElem?_eq_some_iff.1 hf).1
  have hp : writeP p (Pg.getX l (z : Int)).2.2 (a : Int) b = { p with fr := p.fr.set f (some (fo, putB (pageOf now z) a b)) } := by
    rw [show (Pg.getX l (z : Int)).2.2 = (f : Int) by unfold Pg.getX; rw [hl]; rfl]
    unfold writeP
    rw [if_pos h1, Int.toNat_natCast, h2]
    simp
  refine ⟨write_ok h.ok _ _ _, h.tok, by rw [putL_len (by omega)]; exact hnl, h.wlen, h.free, fun y x hy hx => ?_, h.out⟩
  obtain ⟨hx2, f', fo', hl', hf'⟩ := h.mine y x hy hx
  rw [hp]
  simp only
  by_cases hyz : y = z
  · subst hyz
    rw [hl] at hl'
    simp only [Option.some.injEq, Prod.mk.injEq, true_and] at hl'
    have hff : f = f' := by omega
    subst hff
    refine ⟨hx2, f, fo, by rw [hl]; simp only [Option.some.injEq, Prod.mk.injEq, and_true]; exact hl'.1, ?_⟩
    rw [List.getElem?_set_self hfl, page_put hab (by omega)]
  · refine ⟨hx2, f', fo', hl', ?_⟩
    have hne : f ≠ f' := by
      rintro rfl
      have := frames_ne h.tok hl hl' rfl
      omega
    rw [List.getElem?_set_ne hne, page_other hab (by omega) hyz]
    exact hf'
set_option maxRecDepth 100000 in
theorem Inv.parts {o : Nat} (ho : 0 < o) : ∀ (n a : Nat) (p : Pl) (now bs : List UInt8), Inv p l now whose → fineB whose o a n → bs.length = n → a + n ≤ 5120 → Inv (wr p l (pts a n) bs) l (putL now a bs) whose := by
  intro n
  induction n using Nat.strongRecOn with
  | _ n ih =>
    intro a p now bs h hf hb han
    rcases Nat.eq_zero_or_pos n with rfl | hn
    · rw [pts_zero, List.eq_nil_of_length_eq_zero hb, putL_nil]
      exact h
    · have hm : a % 256 < 256 := Nat.mod_lt _ (by decide)
      obtain ⟨k, hk⟩ : ∃ k, k = min n (256 - a % 256) := ⟨_, rfl⟩
      have hkl : (bs.take k).length = k := by rw [List.length_take]; omega
      have h1 := h.part (a := a % 256) (b := bs.take k) (hf a (Nat.le_refl _) (by omega)) ho (by omega)
      rw [show 256 * (a / 256) + a % 256 = a by omega] at h1
      have h2 := ih (n - k) (by omega) (a + k) _ _ (bs.drop k) h1 (fun i h3 h4 => hf i (by omega) (by omega)) (by rw [List.length_drop, hb]) (by omega)
      have h3 := putL_putL (s := now) (b := bs.take k) (c := bs.drop k) (i := a) (by rw [hkl, List.length_drop, h.nlen]; omega)
      rw [hkl, List.take_append_drop] at h3
      rw [h3] at h2
      rw [pts_pos hn, ← hk]
      exact h2
/-- a store -/
theorem Inv.store (h : Inv p l now whose) {o a n : Nat} {bs : List UInt8} (ho : o = 1 ∨ o = 2) (hb : bs.length = n) (han : a + n ≤ 5120) :
    (Vm.ownE l (o : Int) 2 a (n : Int) = 0 ∧ 0 < n ∧ fineB whose o a n ∧ Inv (storeP p l (o : Int) a n bs) l (putL now a bs) whose) ∨
      (Vm.ownE l (o : Int) 2 a (n : Int) ≠ 0 ∧ (n = 0 ∨ ¬ fineB whose o a n) ∧ storeP p l (o : Int) a n bs = p) := by
  rcases Nat.eq_zero_or_pos n with rfl | hn
  · have hE : Vm.ownE l (o : Int) 2 a ((0 : Nat) : Int) = 2 := by
      unfold Vm.ownE rE
      rw [if_pos (by simp [properB])]
    refine .inr ⟨by rw [hE]; decide, .inl rfl, ?_⟩
    unfold storeP
    rw [if_neg (by rw [hE]; decide)]
  · rcases h.ownE ho 2 (by omega) hn han with ⟨h1, h2⟩ | ⟨h1, h2⟩
    · refine .inl ⟨h1, hn, h2, ?_⟩
      unfold storeP
      rw [if_pos h1]
      exact Inv.parts (by omega) n a p now bs h h2 hb han
    · refine .inr ⟨by rw [h1]; decide, .inr h2, ?_⟩
      unfold storeP
      rw [if_neg (by rw [h1]; decide)]
/-- what is unmapped -/
theorem Inv.unmap (h : Inv p l now whose) {z : Nat} (hz : z < 20) :
    (unmE p l (z : Int) = 0 ∧ Inv (unmP p l (z : Int)) (Pg.unmapT l (z : Int)) now (whose.set z 0)) ∨
      (unmE p l (z : Int) ≠ 0 ∧ Inv (unmP p l (z : Int)) (Pg.unmapT l (z : Int)) now whose) := by
  have hpg : Pg.pageB (z : Int) = true := by simp only [Pg.pageB, Bool.and_eq_true, decide_eq_true_eq]; omega
  obtain ⟨o, hw⟩ := h.who hz
  rcases Nat.eq_zero_or_pos o with rfl | ho
  · have hl := h.free z hw
    have hE : Pg.unmapE l (z : Int) = 5 := by unfold Pg.unmapE; rw [hpg, hl]; rfl
    have h1 : unmE p l (z : Int) = 5 := by unfold unmE; rw [hE]; rfl
    have h2 : unmP p l (z : Int) = p := by unfold unmP; rw [hE]; rfl
    have h3 : Pg.unmapT l (z : Int) = l := by unfold Pg.unmapT; rw [hE]; rfl
    exact .inr ⟨by rw [h1]; decide, by rw [h2, h3]; exact h⟩
  · obtain ⟨ho2, f, fo, hl, hf⟩ := h.mine z o hw ho
    have hfl := (List.getElem?_eq_some_iff.1 hf).1
    have hE : Pg.unmapE l (z : Int) = 0 := by unfold Pg.unmapE; rw [hpg, hl]; rfl
    have hX : (Pg.unmapX l (z : Int)).2.2 = (f : Int) := by unfold Pg.unmapX; rw [if_pos hE, hl]; rfl
    have hT : Pg.unmapT l (z : Int) = Pg.del l (z : Int) := by unfold Pg.unmapT; rw [if_pos hE]
    have hfo : frameO p f = some (fo, pageOf now z) := by unfold frameO; rw [hf]; rfl
    have hfb : frameB p (f : Int) = true := by simp only [frameB, Bool.and_eq_true, decide_eq_true_eq]; omega
    have hg : giveE p (f : Int) = 0 := by
      unfold giveE
      rw [if_neg (by rw [hfb]; simp), if_neg (by rw [Int.toNat_natCast, hfo]; simp)]
    have hP : unmP p l (z : Int) = giveP p (f : Int) := by unfold unmP; rw [if_pos hE, hX]
    have hgp : (giveP p (f : Int)).fr = p.fr.set f none := by
      unfold giveP
      rw [if_pos hfb, Int.toNat_natCast, hfo]
    refine .inl ⟨by unfold unmE; rw [if_pos hE, hX]; exact hg, ?_⟩
    rw [hP, hT]
    refine ⟨give_ok h.ok _, Pg.del_ok h.tok _, h.nlen, by rw [List.length_set]; exact h.wlen, fun y hy => ?_, fun y x hy hx => ?_, fun y hy => ?_⟩
    · rw [look_del h.tok]
      split
      · rfl
      · rename_i h1
        rw [List.getElem?_set_ne (by omega)] at hy
        exact h.free y hy
    · have hyz : y ≠ z := by
        rintro rfl
        rw [List.getElem?_set_self (by rw [h.wlen]; exact hz)] at hy
        injection hy with hy
        omega
      rw [List.getElem?_set_ne (fun e => hyz e.symm)] at hy
      obtain ⟨hx2, f', fo', hl', hf'⟩ := h.mine y x hy hx
      refine ⟨hx2, f', fo', by rw [look_del h.tok, if_neg (by omega)]; exact hl', ?_⟩
      have hne : f ≠ f' := by
        rintro rfl
        have := frames_ne h.tok hl hl' rfl
        omega
      rw [hgp, List.getElem?_set_ne hne]
      exact hf'
    · rw [look_del h.tok, if_neg (by omega)]
      exact h.out y hy
end
end Go.Proofs.YtkfljominljliaaGreat.Vm
