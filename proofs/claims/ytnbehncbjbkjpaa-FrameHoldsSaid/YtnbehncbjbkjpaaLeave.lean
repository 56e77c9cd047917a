import Derived.Test.YtnbehncbjbkjpaaInsert
namespace Go.Proofs.Ytnbehncbjbkjpaa
open Go.RowKit Go.Shelf Go.Maps Go.Sort
attribute [local go_sem] Oper.semAt_some

/- A FRAME COMES BACK: THE BOOKS. -/

theorem mapD_int {l : List (Option Nat)} {z c : Int} {o : Nat} (h : (mapD l).atKey (.int .i64 z) (.lit (.int .i64 0)) = .lit (.int .i64 c)) (ho : ownAt l z = some o) : c = o := by
  have := mapD_ownN h
  rw [this]
  unfold ownN
  rw [ho]
  rfl
theorem ownAt_some {p : Pl} {i o : Nat} {bs : List UInt8} (hx : p.fr[i]? = some (some (o, bs))) : ownAt (owns p.fr) (i : Int) = some o := by
  unfold ownAt
  rw [if_neg (by omega), owns_get, Int.toNat_natCast, hx]
  rfl
theorem lookup_at {w : World} {bm n : Nat} {l : List (Option Nat)} {i o : Nat} (hown : w.ownsMap Try.prog 3 (plainElem Try.prog 3) bm n (mapD l)) (hi : i ≤ 9223372036854775807) (ho : ownAt l (i : Int) = some o) :
    (Instr.lookup 35 (.map (some bm)) (.int .i64 (i : Int)) false).run Try.prog w = .ok (.int .i64 (o : Int)) w := by
  obtain ⟨c, h1, h2, h3⟩ := hown.lookup_int law Try.underlying35 Try.underlying3 (zeroE _) (keyZ (a := (i : Int)) (by omega) (by omega))
  rw [h1, mapD_int h2 ho]

set_option maxHeartbeats 1000000 in
theorem leave_any {w : World} {b bm : Nat} {p : Pl} {fv sv : Value} {fb : List (List UInt8)} {sp : List Nat} {gf gs : Option Nat} (h : Mid w b p bm fv sv fb sp gf gs) (hok : p.ok) (i o : Nat) (bs : List UInt8) (hx : p.fr[i]? = some (some (o, bs))) :
    Calls Try.prog 35 #[bx b, .int .i64 (i : Int)] w fun e w' => (∃ v, e = .returned v) ∧ Mid w' b { fr := p.fr.set i none, left := p.left.set o (leftN p o + 1) } bm fv sv fb sp gf gs ∧ Keep (blocks b bm gf gs) w w' := by
  have hmost := hok.most
  obtain ⟨ho, _⟩ := hok.own o bs (List.mem_of_getElem? hx)
  have hi := (List.getElem?_eq_some_iff.1 hx).1
  obtain ⟨n1, n2, n3, n4, n5, n6⟩ := h.ne
  have c1 : w.cell? ⟨b, 1, none⟩ = some (.map (some bm)) := h.obj.cell 1
  have hlk := lookup_at (w := w.drew) (show (w.drew).ownsMap Try.prog 3 (plainElem Try.prog 3) bm 16384 (mapD (owns p.fr)) from h.map) (by omega) (ownAt_some hx)
  have hkey := keyZ (a := (i : Int)) (by omega) (by omega)
  have hz : (mapD (owns p.fr)).del (.int .i64 (i : Int)) = mapD (owns (p.fr.set i none)) := by rw [mapD_del, owns_set]; rfl
  have cl := h.cl hok ho
  have fl0 : w.frozen? ⟨b, 2 + o, none⟩ = false := h.obj.frozen _
  have hM1 := Mid.set_left (w := w.drew) (show Mid w.drew b p bm fv sv fb sp gf gs from ⟨h.obj, h.map, h.frm, h.spr⟩) ⟨n1, n2, n4⟩ hok.l64 o (leftN p o + 1) ho
  have hown := hM1.map
  have d1 : ((w.drew).setCell ⟨b, 2 + o, none⟩ (.int .i64 ((leftN p o + 1 : Nat) : Int))).cell? ⟨b, 1, none⟩ = some (.map (some bm)) := hM1.obj.cell 1
  have HM := Lib.hid (fun (w1 : World) (hown1 : w1.ownsMap Try.prog 3 (plainElem Try.prog 3) bm 16384 ((mapD (owns p.fr)).del (.int .i64 (i : Int)))) (hg1 : ((w.drew).setCell ⟨b, 2 + o, none⟩ (.int .i64 ((leftN p o + 1 : Nat) : Int))).mapTurned w1 bm) =>
    (show Mid w1 b { fr := p.fr.set i none, left := p.left.set o (leftN p o + 1) } bm fv sv fb sp gf gs ∧ Keep (blocks b bm gf gs) w w1 from by
      have h1 := hM1.turn hg1.grown (p.fr.set i none) (by simp) (by rw [hz] at hown1; exact hown1)
      exact ⟨h1, ((((Keep.refl w).drewN 1).set (b := b) (o := 2 + o) (.int .i64 ((leftN p o + 1 : Nat) : Int)) (.inl (.inl rfl))) : Keep (blocks b bm gf gs) w ((w.drew).setCell ⟨b, 2 + o, none⟩ (.int .i64 ((leftN p o + 1 : Nat) : Int)))).grown hg1.grown (fun r e => by cases e; exact .inr (.inr (.inl rfl)))⟩))
  have hle := left_le p hok o
  obtain ⟨x, hx0⟩ : ∃ x, x = leftN p o := ⟨_, rfl⟩
  rw [← hx0] at HM hle cl d1 hown ⊢
  have hw : IntKind.i64.wrap ((x : Int) + 1) = ((x + 1 : Nat) : Int) := by rw [wrapI _ (by omega) (by omega)]; rfl
  obtain ⟨y, hy⟩ : ∃ y, y = x + 1 := ⟨_, rfl⟩
  rw [← hy] at HM hw d1 hown ⊢
  have i0 : (0 : Int) ≤ (o : Int) := by omega
  have i1 : (o : Int) < 64 := by omega
  have mixed : Try.prog.follows .mixedOrders = true := by kernel_rfl
  obtain ⟨D, hD⟩ : ∃ D, D = mapD (owns p.fr) := ⟨_, rfl⟩
  have hownD : ((w.drew).setCell ⟨b, 2 + o, none⟩ (.int .i64 (y : Int))).ownsMap Try.prog 3 (plainElem Try.prog 3) bm 16384 D := by rw [hD]; exact hown
  rw [← hD] at HM
  clear hown hM1 hD hx0 hy hz h hok hle hmost hx hi ho n1 n2 n3 n4 n5 n6
  go_enter Try.func35, Try.ntmps35
  go_wp2_with fail
  go_region
  go_wp2_with (at_delete; refine wpList_delete_own _ rfl _ _ 35 3 rfl 3 law Try.underlying35 _ bm 16384 D rfl hownD _ _ rfl hkey ?_; intro w1 hown1 hturn1)
  go_end0
  exact ⟨⟨_, rfl⟩, HM.out w1 hown1 hturn1⟩

/-! the plain side -/
theorem split_sorted (i : Nat) : ∀ (l : List Nat), l.Pairwise (· < ·) → i ∉ l → l = l.filter (fun j => decide (j < i)) ++ l.filter (fun j => decide (i < j))
  | [], _, _ => rfl
  | a :: r, hs, hi => by
    obtain ⟨h1, h2⟩ := List.pairwise_cons.1 hs
    have hia : i ≠ a := fun e => hi (by rw [e]; simp)
    have hir : i ∉ r := fun h => hi (by simp [h])
    rcases Nat.lt_or_gt_of_ne hia with h3 | h3
    · have e1 : (a :: r).filter (fun j => decide (j < i)) = [] := List.filter_eq_nil_iff.2 fun j hj => by
        rcases List.mem_cons.1 hj with rfl | hj
        · simp; omega
        · have := h1 j hj; simp; omega
      have e2 : (a :: r).filter (fun j => decide (i < j)) = a :: r := List.filter_eq_self.2 fun j hj => by
        rcases List.mem_cons.1 hj with rfl | hj
        · simp [h3]
        · have := h1 j hj; simp; omega
      rw [e1, e2]
      rfl
    · have ih := split_sorted i r h2 hir
      rw [List.filter_cons_of_pos (by simpa using h3), List.filter_cons_of_neg (by simp; omega), List.cons_append, ← ih]
theorem spare_give {fr : List Fr} {n i : Nat} (hi : i < n) (hn : n ≤ fr.length) (hf : isFree fr i = false) :
    spareOf (fr.set i none) n = (spareOf fr n).take ((spareOf fr n).countP (fun x => decide (i < x))) ++ i :: (spareOf fr n).drop ((spareOf fr n).countP (fun x => decide (i < x))) := by
  have hs := split_sorted i (freeL fr n) (freeL_sorted fr n) (fun h => by have := (freeL_mem.1 h).2; rw [hf] at this; cases this)
  rw [spare_eq, spare_eq, freeL_give hi hn hf]
  obtain ⟨F1, h1⟩ : ∃ F1, F1 = (freeL fr n).filter (fun j => decide (j < i)) := ⟨_, rfl⟩
  obtain ⟨F2, h2⟩ : ∃ F2, F2 = (freeL fr n).filter (fun j => decide (i < j)) := ⟨_, rfl⟩
  rw [← h1, ← h2] at hs ⊢
  have g1 : ∀ x ∈ F1, ¬ i < x := fun x hx => by rw [h1, List.mem_filter] at hx; have := hx.2; simp at this; omega
  have g2 : ∀ x ∈ F2, i < x := fun x hx => by rw [h2, List.mem_filter] at hx; simpa using hx.2
  rw [hs]
  have hc : ((F1 ++ F2).reverse).countP (fun x => decide (i < x)) = F2.reverse.length := by
    rw [List.reverse_append, List.countP_append, List.countP_eq_length.2 (fun x hx => by simpa using g2 x (List.mem_reverse.1 hx)), List.countP_eq_zero.2 (fun x hx => by simpa using g1 x (List.mem_reverse.1 hx))]
    rfl
  rw [hc]
  simp only [List.reverse_append]
  rw [List.take_left' rfl, List.drop_left' rfl]
  simp
end Go.Proofs.Ytnbehncbjbkjpaa
