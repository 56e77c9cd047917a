import Derived.Test.YtglfcfepgjldfaaFN
namespace Go.Proofs.Ytglfcfepgjldfaa.Fe
open Go.RowKit Go.Shelf
attribute [local go_sem] Oper.semAt_some

/- FEEDCOPIES' STATES. -/
/-- a feed, the document's of the same in a block, two calls in another -/
structure PD (Has : HasT) (w : World) (g5 gw : Nat) (five : List Value) (v : Value) (l : List UInt8) (p : Nat) (V : World) : Prop where
  qs : QS Has w (X2 g5 gw) v l p V
  two : Row V g5 37 five
  ge : w.heap.size ≤ g5 ∧ w.heap.size ≤ gw ∧ g5 ≠ gw
  box : Row V gw 28 (fc l p)
/-- a feed and its copy, or what the two have become -/
structure E1 (Has : HasT) (w : World) (g5 gw : Nat) (X : Nat → Prop) (five : List Value) (v vc : Value) (l : List UInt8) (p q pc : Nat) (V : World) : Prop where
  ex : ∃ F Fc, Has V v l q F ∧ Has V vc l pc Fc ∧ (∀ k, F k → ¬ Fc k) ∧ (∀ k, F k → w.heap.size ≤ k ∧ ¬ X2 g5 gw k) ∧ ∀ k, Fc k → w.heap.size ≤ k ∧ ¬ X2 g5 gw k ∧ ¬ X k
  two : Row V g5 37 five
  ge : w.heap.size ≤ g5 ∧ w.heap.size ≤ gw
  box : Row V gw 28 (fc l p)
  below : Below w.heap.size w V
/-- two feeds, the document's of the same in blocks -/
structure E3 (Has : HasT) (w : World) (v1 v2 : Value) (l : List UInt8) (q1 q2 ga gb : Nat) (V : World) : Prop where
  ex : ∃ F Fc, Has V v1 l q1 F ∧ Has V v2 l q2 Fc
  box1 : Row V ga 28 (fc l q1)
  box2 : Row V gb 28 (fc l q2)
  below : Below w.heap.size w V
section
variable {Has : HasT} (H : Api Has) {w V V' : World} {X : Nat → Prop} {g5 gw ga gb n : Nat} {five : List Value} {v v' vc v1 v2 : Value} {l : List UInt8} {p q pc q1 q2 : Nat}
include H
theorem PD.more (h : PD Has w g5 gw five v l p V) (hb : Below V.heap.size V V') : PD Has w g5 gw five v l p V' :=
  ⟨QS.more H h.qs hb, h.two.below hb, h.ge, h.box.below hb⟩
omit H in
theorem PD.x2lt (h : PD Has w g5 gw five v l p V) : ∀ k, X2 g5 gw k → k < V.heap.size := fun _ hk => hk.elim (fun e => e ▸ h.two.lt) (fun e => e ▸ h.box.lt)
/-- the document's answer is laid over what there was -/
theorem PD.lay (h : PD Has w g5 gw five v l p V) (hq : QS Has w (X2 g5 gw) v' l q V') (hx : ∀ k, X2 g5 gw k → V'.heap[k]? = V.heap[k]?) : PD Has w g5 gw five v' l q ((V'.setCell ⟨gw, 0, none⟩ (.string (str l))).setCell ⟨gw, 1, none⟩ (.int .i64 (q : Int))) :=
  ⟨QS.set H (QS.set H hq (.inr rfl) h.ge.2.1 _) (.inr rfl) h.ge.2.1 _, h.two.same (((heap_set h.ge.2.2).trans (heap_set h.ge.2.2)).trans (hx _ (.inl rfl))), h.ge, ((h.box.same (hx _ (.inr rfl))).set 0 _).set 1 _⟩
theorem PD.copy (h : PD Has w g5 gw five v l p V) : Calls Try.prog 12 #[v] V fun e V' => ∃ vc, e = .returned vc ∧ E1 Has w g5 gw (fun _ => False) five v vc l p p p V' := by
  have hr5 := h.two
  have hrw := h.box
  have hge := h.ge
  obtain ⟨⟨F, h1, h2⟩, hb⟩ := h.qs
  refine (H.copy h1).mono fun e V' ⟨vc, Fc, e1, e2, e3, e4⟩ => ⟨vc, e1, ⟨F, Fc, H.below h1 e4, e2, fun k hk hf => ?_, h2, fun k hk => ⟨Nat.le_trans hb.size (e3 k hk), fun hx => ?_, fun h => h⟩⟩, hr5.below e4, ⟨hge.1, hge.2.1⟩, hrw.below e4, below0 hb e4⟩
  · have := H.lt h1 k hk
    have := e3 k hf
    omega
  · have := e3 k hk
    rcases hx with rfl | rfl
    · have := hr5.lt; omega
    · have := hrw.lt; omega
theorem E1.act (h : E1 Has w g5 gw X five v vc l p q pc V) (x : Ac) (hx : x.fits) : Calls Try.prog 8 #[v, fv l q, .agg #[.int .i64 x.what, .int .i64 x.n]] V fun e V' =>
    ∃ v1, e = .returned (.tuple #[v1, fv l (actP l q x.what x.n), .bool true]) ∧ E1 Has w g5 gw X five v1 vc l p (actP l q x.what x.n) pc V' := by
  obtain ⟨⟨F, Fc, h1, h2, h3, h4, h5⟩, h6, h7, h8, h9⟩ := h
  refine (act_any H v l q F x.what x.n V h1 hx).mono ?_
  rintro e V' ⟨v', F', rfl, a1, a2, a3⟩
  have hs := h9.size
  refine ⟨v', rfl, ⟨F', Fc, a1, H.keep h2 (fun k hk => a2.block k (H.lt h2 k hk) (fun hf => h3 k hf hk)), fun k hk hc => ?_, fun k hk => ?_, h5⟩, h6.same (a2.block _ h6.lt (fun hf => (h4 _ hf).2 (.inl rfl))), h7, h8.same (a2.block _ h8.lt (fun hf => (h4 _ hf).2 (.inr rfl))), h9.trans (a2.below (fun k hk => (h4 k hk).1) hs)⟩
  · rcases a3 k hk with hk | hk
    · exact h3 k hk hc
    · have := H.lt h2 k hc; omega
  · rcases a3 k hk with hk | hk
    · exact h4 k hk
    · refine ⟨by omega, fun hx => ?_⟩
      rcases hx with rfl | rfl
      · have := h6.lt; omega
      · have := h8.lt; omega
/-- the document's answer is laid apart -/
theorem E1.lay (h : E1 Has w g5 gw X five v vc l p q pc V) : E1 Has w g5 gw (fun k => k = V.heap.size) five v vc l p q pc (V.alloc (.cells #[.string (str l), .int .i64 (q : Int)] 28)) ∧ Row (V.alloc (.cells #[.string (str l), .int .i64 (q : Int)] 28)) V.heap.size 28 (fc l q) := by
  obtain ⟨⟨F, Fc, h1, h2, h3, h4, h5⟩, h6, h7, h8, h9⟩ := h
  have hb := below1 V (.cells #[.string (str l), .int .i64 (q : Int)] 28)
  exact ⟨⟨⟨F, Fc, H.below h1 hb, H.below h2 hb, h3, h4, fun k hk => ⟨(h5 k hk).1, (h5 k hk).2.1, fun e => by have := H.lt h2 k hk; omega⟩⟩, h6.below hb, h7, h8.below hb, below0 h9 hb⟩, Row.new V _ (fc l q)⟩
theorem E1.act2 (h : E1 Has w g5 gw (fun k => k = ga) five v vc l p q pc V) (hr : Row V ga 28 (fc l q)) (x : Ac) (hx : x.fits) : Calls Try.prog 8 #[vc, fv l pc, .agg #[.int .i64 x.what, .int .i64 x.n]] V fun e V' =>
    ∃ v2, e = .returned (.tuple #[v2, fv l (actP l pc x.what x.n), .bool true]) ∧ E3 Has w v v2 l q (actP l pc x.what x.n) ga V'.heap.size (V'.alloc (.cells #[.string (str l), .int .i64 (actP l pc x.what x.n : Int)] 28)) := by
  obtain ⟨⟨F, Fc, h1, h2, h3, h4, h5⟩, h6, h7, h8, h9⟩ := h
  refine (act_any H vc l pc Fc x.what x.n V h2 hx).mono ?_
  rintro e V' ⟨v', F', rfl, a1, a2, a3⟩
  have hb := below1 V' (.cells #[.string (str l), .int .i64 (actP l pc x.what x.n : Int)] 28)
  have h10 := h9.trans (a2.below (fun k hk => (h5 k hk).1) h9.size)
  exact ⟨v', rfl, ⟨F, F', H.below (H.keep h1 (fun k hk => a2.block k (H.lt h1 k hk) (fun hf => h3 k hk hf))) hb, H.below a1 hb⟩, (hr.same (a2.block _ hr.lt (fun hf => (h5 _ hf).2.2 rfl))).below hb, Row.new V' _ (fc l _), below0 h10 hb⟩
theorem E3.more (h : E3 Has w v1 v2 l q1 q2 ga gb V) (hb : Below V.heap.size V V') : E3 Has w v1 v2 l q1 q2 ga gb V' := by
  obtain ⟨⟨F, Fc, h1, h2⟩, h3, h4, h5⟩ := h
  exact ⟨⟨F, Fc, H.below h1 hb, H.below h2 hb⟩, h3.below hb, h4.below hb, below0 h5 hb⟩
theorem E3.is1 (h : E3 Has w v1 v2 l q1 q2 ga gb V) : Calls Try.prog 9 #[v1, fv l q1] V fun e V' => e = .returned (.bool true) ∧ E3 Has w v1 v2 l q1 q2 ga gb V' := by
  obtain ⟨F, Fc, h1, h2⟩ := h.ex
  exact (is_any H v1 l q1 F V h1).mono fun _ _ ⟨e, hb⟩ => ⟨e, E3.more H h hb⟩
theorem E3.is2 (h : E3 Has w v1 v2 l q1 q2 ga gb V) : Calls Try.prog 9 #[v2, fv l q2] V fun e V' => e = .returned (.bool true) ∧ E3 Has w v1 v2 l q1 q2 ga gb V' := by
  obtain ⟨F, Fc, h1, h2⟩ := h.ex
  exact (is_any H v2 l q2 Fc V h2).mono fun _ _ ⟨e, hb⟩ => ⟨e, E3.more H h hb⟩
theorem E3.same (h : E3 Has w v1 v2 l q1 q2 ga gb V) : Calls Try.prog 11 #[v1, v2] V fun e V' => e = .returned (.bool (decide (l.drop q1 = l.drop q2))) ∧ E3 Has w v1 v2 l q1 q2 ga gb V' := by
  obtain ⟨F, Fc, h1, h2⟩ := h.ex
  exact (H.same h1 h2).mono fun _ _ ⟨e, hb⟩ => ⟨e, E3.more H h hb⟩
theorem E3.same2 (h : E3 Has w v1 v2 l q1 q2 ga gb V) : Calls Try.prog 11 #[v2, v1] V fun e V' => e = .returned (.bool (decide (l.drop q1 = l.drop q2))) ∧ E3 Has w v1 v2 l q1 q2 ga gb V' := by
  obtain ⟨F, Fc, h1, h2⟩ := h.ex
  exact (H.same h2 h1).mono fun _ _ ⟨e, hb⟩ => ⟨by rw [e]; congr 2; exact decide_eq_decide.2 eq_comm, E3.more H h hb⟩
end
end Go.Proofs.Ytglfcfepgjldfaa.Fe
