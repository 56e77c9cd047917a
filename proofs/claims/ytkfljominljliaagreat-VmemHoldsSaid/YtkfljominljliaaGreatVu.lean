import Derived.Test.YtkfljominljliaaGreatVt
namespace Go.Proofs.YtkfljominljliaaGreat.Vm
open Go.RowKit Go.Shelf Go.Maps Go.Sort

/- PLAIN: WHAT IS MAPPED; THE BEGINNING; THE END. -/

section
variable {p : Pl} {l : Pg.Tb} {now : List UInt8} {whose : List Nat}
theorem zero_len : zero256.length = 256 := List.length_replicate ..
theorem page_zero {s : List UInt8} {z : Nat} (hs : 256 * z + 256 ≤ s.length) : pageOf (putL s (256 * z) zero256) z = zero256 := by
  have h := page_put (s := s) (b := zero256) (z := z) (a := 0) (by rw [zero_len]; omega) hs
  rw [Nat.add_zero] at h
  rw [← h]
  unfold putB
  rw [List.take_zero, List.nil_append, Nat.zero_add, zero_len, List.drop_eq_nil_of_le (by rw [page_len hs]; omega), List.append_nil]
theorem Inv.map (h : Inv p l now whose) {z o : Nat} (hz : z < 20) (ho : o = 1 ∨ o = 2) :
    (mapME p l (z : Int) (o : Int) (o : Int) 2 = 0 ∧ Inv (mapMP p l (z : Int) (o : Int) (o : Int) 2) (mapML p l (z : Int) (o : Int) (o : Int) 2) (putL now (256 * z) zero256) (whose.set z o)) ∨
      (mapME p l (z : Int) (o : Int) (o : Int) 2 ≠ 0 ∧ Inv (mapMP p l (z : Int) (o : Int) (o : Int) 2) (mapML p l (z : Int) (o : Int) (o : Int) 2) now whose) := by
  have hnl := h.nlen
  have hpg : Pg.pageB (z : Int) = true := by simp only [Pg.pageB, Bool.and_eq_true, decide_eq_true_eq]; omega
  have hq : ¬ ¬ (ownsB (o : Int) && ownerB (o : Int) && Pg.mayB 2) = true := by
    simp only [ownsB, ownerB, Pg.mayB, Bool.and_eq_true, decide_eq_true_eq]
    omega
  have hmq : mqE l (z : Int) (o : Int) (o : Int) 2 = if (Pg.look l (z : Int)).isSome = true then 180 else 0 := by
    unfold mqE
    rw [if_neg hq, if_neg (by rw [hpg]; simp)]
  obtain ⟨x, hw⟩ := h.who hz
  unfold mapME mapMP mapML
  rcases Nat.eq_zero_or_pos x with rfl | hx
  · have hl := h.free z hw
    have hm0 : mqE l (z : Int) (o : Int) (o : Int) 2 = 0 := by rw [hmq, hl]; rfl
    rw [if_pos hm0, if_pos hm0, if_pos hm0]
    by_cases ht : takeE p (o : Int) = 0
    · rw [if_pos ht, if_pos ht]
      obtain ⟨_, _, _, hf1, _⟩ := takeE_left h.ok ht
      obtain ⟨f, hf⟩ : ∃ f, f = takeI p (o : Int) := ⟨_, rfl⟩
      rw [← hf] at hf1 ⊢
      have hfn := (free1_spec _ _ hf1).1
      have hfl := (List.getElem?_eq_some_iff.1 hfn).1
      have hfr : Pg.framed l (f : Int) = false := by
        rw [Pg.framed_false]
        intro r hr hrf
        have hlk := (Pg.look_mem h.tok.sorted (z := r.1) (e := r.2)).2 hr
        have hr1 : 0 ≤ r.1 ∧ r.1 < 20 := by
          have := fun hh => h.out r.1 hh
          rw [hlk] at this
          refine ⟨?_, ?_⟩
          · rcases Int.lt_or_le r.1 0 with h9 | h9
            · cases this (.inl h9)
            · exact h9
          · rcases Int.lt_or_le r.1 20 with h9 | h9
            · exact h9
            · cases this (.inr h9)
        obtain ⟨y, hy⟩ : ∃ y : Nat, r.1 = y := ⟨r.1.toNat, by omega⟩
        obtain ⟨o', hw'⟩ := h.who (z := y) (by omega)
        rw [hy] at hlk
        rcases Nat.eq_zero_or_pos o' with rfl | ho'
        · rw [h.free y hw'] at hlk
          cases hlk
        · obtain ⟨_, f', fo', hl', hf'⟩ := h.mine y o' hw' ho'
          rw [hl'] at hlk
          injection hlk with hlk
          rw [← hlk] at hrf
          simp only at hrf
          have : f' = f := by omega
          subst this
          rw [hfn] at hf'
          cases hf'
      have hE : Pg.mapE l (z : Int) ((o : Int), 2, (f : Int)) = 0 := by
        unfold Pg.mapE
        rw [if_neg, if_neg (by rw [hpg]; simp), if_neg (by rw [hl]; simp), if_neg (by simp only; rw [hfr]; simp)]
        have : Pg.rightB ((o : Int), 2, (f : Int)) = true := by
          simp only [Pg.rightB, Pg.mayB, Bool.and_eq_true, decide_eq_true_eq]
          omega
        rw [this]
        simp
      refine .inl ⟨hE, ?_⟩
      have hT : Pg.mapT l (z : Int) ((o : Int), 2, (f : Int)) = Pg.ins l (z : Int) ((o : Int), 2, (f : Int)) := by unfold Pg.mapT; rw [if_pos hE]
      have hTk : (takeP p (o : Int)).fr = p.fr.set f (some (o, zero256)) := by
        unfold takeP
        rw [if_pos ht, ← hf, Int.toNat_natCast]
      have hmost := h.ok.most
      refine ⟨take_ok h.ok _, Pg.map_ok h.tok _ _ ⟨by unfold Pg.I64; simp only; omega, by unfold Pg.I64; simp only; omega, by unfold Pg.I64; simp only; omega⟩, by rw [putL_len (by rw [zero_len]; omega)]; exact hnl, by rw [List.length_set]; exact h.wlen, fun y hy => ?_, fun y x hy hx => ?_, fun y hy => ?_⟩
      · have hyz : y ≠ z := by
          rintro rfl
          rw [List.getElem?_set_self (by rw [h.wlen]; exact hz)] at hy
          injection hy with hy
          omega
        rw [List.getElem?_set_ne (fun e => hyz e.symm)] at hy
        rw [hT, look_ins h.tok.sorted _ hl, if_neg (by omega)]
        exact h.free y hy
      · by_cases hyz : y = z
        · subst hyz
          rw [List.getElem?_set_self (by rw [h.wlen]; exact hz)] at hy
          injection hy with hy
          subst hy
          refine ⟨by omega, f, o, by rw [hT, look_ins h.tok.sorted _ hl, if_pos rfl], ?_⟩
          rw [hTk, List.getElem?_set_self hfl, page_zero (by omega)]
        · rw [List.getElem?_set_ne (fun e => hyz e.symm)] at hy
          obtain ⟨hx2, f', fo', hl', hf'⟩ := h.mine y x hy hx
          have hy20 := h.lt20 hy
          refine ⟨hx2, f', fo', by rw [hT, look_ins h.tok.sorted _ hl, if_neg (by omega)]; exact hl', ?_⟩
          have hne : f ≠ f' := by
            rintro rfl
            rw [hfn] at hf'
            cases hf'
          have hpo := page_other (s := now) (b := zero256) (z := z) (y := y) (a := 0) (by rw [zero_len]; omega) (by omega) hyz
          rw [Nat.add_zero] at hpo
          rw [hTk, List.getElem?_set_ne hne, hpo]
          exact hf'
      · rw [hT, look_ins h.tok.sorted _ hl, if_neg (by omega)]
        exact h.out y hy
    · rw [if_neg ht, if_neg ht, show takeP p (o : Int) = p by unfold takeP; rw [if_neg ht]]
      exact .inr ⟨ht, h⟩
  · obtain ⟨_, f, fo, hl, _⟩ := h.mine z x hw hx
    have hm1 : mqE l (z : Int) (o : Int) (o : Int) 2 = 180 := by rw [hmq, hl]; rfl
    rw [if_neg (by rw [hm1]; decide), if_neg (by rw [hm1]; decide), if_neg (by rw [hm1]; decide), hm1]
    exact .inr ⟨by decide, h⟩
end
theorem Inv.new {p : Pl} (h : p.ok) : Inv p [] (List.replicate 5120 0) (List.replicate 20 0) := by
  refine ⟨h, Pg.Tok.nil, List.length_replicate .., List.length_replicate .., fun _ _ => rfl, fun z o hz ho => ?_, fun _ _ => rfl⟩
  have := List.getElem?_eq_some_iff.1 hz
  obtain ⟨h1, h2⟩ := this
  rw [List.getElem_replicate] at h2
  omega
theorem Inv.reserve {p : Pl} {l : Pg.Tb} {now : List UInt8} {whose : List Nat} (h : Inv p l now whose) (o m : Int) : Inv (reserveP p o m) l now whose := by
  have hf : (reserveP p o m).fr = p.fr := by
    unfold reserveP
    split <;> rfl
  refine ⟨reserve_ok h.ok o m, h.tok, h.nlen, h.wlen, h.free, fun z x hz hx => ?_, h.out⟩
  rw [hf]
  exact h.mine z x hz hx
end Go.Proofs.YtkfljominljliaaGreat.Vm
