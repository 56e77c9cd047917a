import Derived.Test.YtijgkjliienjhaaCR
namespace Go.Proofs.Ytijgkjliienjhaa
open Go.RowKit Go.Shelf
attribute [local go_sem] Oper.semAt_some

/- CELLCOPIES' STATES: CELLS, A COPY OF THEM, AN ITERATOR; BEHIND A CALL OF THE ONE; BEHIND A CALL OF THE OTHER. -/
theorem Rep.keep {w w' : World} {b g c k : Nat} {l : Cs} (h : Rep w b g c l) (hk : Keep (· = k) w w') (hb : b ≠ k) (hg : g ≠ k) : Rep w' b g c l := h.same (hk.block _ h.obj.lt hb) (hk.block _ h.row.lt hg)
theorem Rep.neb {w : World} {b g c b' g' c' : Nat} {l l' : Cs} (h : Rep w b g c l) (h' : Rep w b' g' c' l') : b ≠ g' := h'.row.ne h.obj (by decide)
theorem Wt.ne2 {w : World} {v : Value} {gv b g c : Nat} {l l' : Cs} (h : Wt w v gv l) (hr : Rep w b g c l') : gv ≠ g := h.ne hr
structure C1 (w : World) (b g c bd gd cd gv bw : Nat) (A : Option Addr) (cA m : Nat) (vv : Value) (l : Cs) (V : World) : Prop where
  rep : Rep V b g c l
  repd : Rep V bd gd cd l
  wt : Wt V vv gv l
  ok : Ok m l
  ne : g ≠ gd
  box : V.cell? ⟨bw, 0, none⟩ = some (.slice A (wordsOf l).length cA)
  bne : bw ≠ g ∧ bw ≠ gd
  src : Src V A (wordsOf l)
  below : Below w.heap.size w V
  hg : w.heap.size ≤ g
  hgd : w.heap.size ≤ gd
structure C2 (w : World) (b1 g1 c1 gv1 bd gd cd gv bw : Nat) (A : Option Addr) (cA m : Nat) (v1 vv : Value) (l1 l : Cs) (V : World) : Prop where
  rep1 : Rep V b1 g1 c1 l1
  wt1 : Wt V v1 gv1 l1
  repd : Rep V bd gd cd l
  wt : Wt V vv gv l
  ok1 : Ok (m + 1) l1
  ok : Ok m l
  ne : g1 ≠ gd
  box : V.cell? ⟨bw, 0, none⟩ = some (.slice A (wordsOf l).length cA)
  bne : bw ≠ gd
  src : Src V A (wordsOf l)
  below : Below w.heap.size w V
  hgd : w.heap.size ≤ gd
structure C3 (w : World) (b1 g1 c1 gv1 b2 g2 c2 gv2 gv bw : Nat) (A : Option Addr) (cA m : Nat) (v1 v2 vv : Value) (l1 l2 l : Cs) (V : World) : Prop where
  rep1 : Rep V b1 g1 c1 l1
  wt1 : Wt V v1 gv1 l1
  rep2 : Rep V b2 g2 c2 l2
  wt2 : Wt V v2 gv2 l2
  wt : Wt V vv gv l
  ok1 : Ok (m + 1) l1
  ok2 : Ok (m + 1) l2
  ok : Ok m l
  box : V.cell? ⟨bw, 0, none⟩ = some (.slice A (wordsOf l).length cA)
  src : Src V A (wordsOf l)
  below : Below w.heap.size w V
theorem Src.keep {w w' : World} {A : Option Addr} {ws : List Nat} {b g c : Nat} {l : Cs} (h : Src w A ws) (hr : Rep w b g c l) (hk : Keep (· = g) w w') : Src w' A ws := by
  rcases h with h | ⟨gw, e, h⟩
  · exact .inl h
  · exact .inr ⟨gw, e, hk.row h (hr.row.ne h (by decide))⟩
section
variable {w V V' : World} {b g c bd gd cd gv bw cA m b1 g1 c1 gv1 b2 g2 c2 gv2 : Nat} {A : Option Addr} {vv v1 v2 : Value} {l l1 l2 : Cs}
theorem C1.make {V1 V2 : World} (hr : Rep V b g c l) (hv : Wt V vv gv l) (hok : Ok m l) (hb : Below w.heap.size w V) (hg : w.heap.size ≤ g) (hb1 : Below V.heap.size V V1) (hrd : Rep V1 bd gd cd l) (hgd : V.heap.size ≤ gd)
    (hb2 : Below V1.heap.size V1 V2) (hbw : V1.heap.size ≤ bw) (hbox : V2.cell? ⟨bw, 0, none⟩ = some (.slice A (wordsOf l).length cA)) (hsrc : Src V2 A (wordsOf l)) : C1 w b g c bd gd cd gv bw A cA m vv l V2 := by
  have h1 := hr.row.lt
  have h2 := hrd.row.lt
  have h3 := hb1.size
  have h4 := hb.size
  exact ⟨(hr.below hb1).below hb2, hrd.below hb2, (hv.below hb1).below hb2, hok, by omega, hbox, ⟨by omega, by omega⟩, hsrc, below0 (below0 hb hb1) hb2, hg, by omega⟩
theorem C1.act (h : C1 w b g c bd gd cd gv bw A cA m vv l V) (hm : m < 1000000) (x : Ac) (hx : x.fits) : Calls Try.prog 18 #[bx b, vv, .agg x.cells.toArray] V fun e V' =>
    ∃ b1 g1 c1 gv1 v1, e = .returned (.tuple #[bx b1, v1, .bool true]) ∧ C2 w b1 g1 c1 gv1 bd gd cd gv bw A cA m v1 vv (actL l x.what x.at_ x.src x.dst) l V' := by
  refine (act_any b g gv m c l vv x V h.rep h.wt h.ok hm).mono ?_
  rintro e V' ⟨b', g', c', v', gv', rfl, h1, h2, h3, h4, _⟩
  have hgdl := h.repd.row.lt
  have hs := h.below.size
  have hg := h.hg
  have hne := h.ne
  refine ⟨b', g', c', gv', v', rfl, h1, h2, h.repd.keep h3 (h.repd.neb h.rep) (Ne.symm hne), h.wt.keep h.rep h3, actL_ok h.ok _ _ _ hx.2.2, h.ok, ?_, ?_, h.bne.2, h.src.keep h.rep h3, h.below.trans (h3.below (fun k (e : k = g) => by rw [e]; exact hg) hs), h.hgd⟩
  · rcases h4 with ⟨_, rfl⟩ | ⟨_, h⟩ <;> omega
  · exact (h3.cell (p := ⟨bw, 0, none⟩) (lt_of_cell h.box) h.bne.1).trans h.box
theorem C2.act (h : C2 w b1 g1 c1 gv1 bd gd cd gv bw A cA m v1 vv l1 l V) (hm : m < 1000000) (x : Ac) (hx : x.fits) : Calls Try.prog 18 #[bx bd, vv, .agg x.cells.toArray] V fun e V' =>
    ∃ b2 g2 c2 gv2 v2, e = .returned (.tuple #[bx b2, v2, .bool true]) ∧ C3 w b1 g1 c1 gv1 b2 g2 c2 gv2 gv bw A cA m v1 v2 vv l1 (actL l x.what x.at_ x.src x.dst) l V' := by
  refine (act_any bd gd gv m cd l vv x V h.repd h.wt h.ok hm).mono ?_
  rintro e V' ⟨b', g', c', v', gv', rfl, h1, h2, h3, _, _⟩
  have hs := h.below.size
  have hg := h.hgd
  exact ⟨b', g', c', gv', v', rfl, h.rep1.keep h3 (h.rep1.neb h.repd) h.ne, h.wt1.keep h.repd h3, h1, h2, h.wt.keep h.repd h3, h.ok1, actL_ok h.ok _ _ _ hx.2.2, h.ok,
    (h3.cell (p := ⟨bw, 0, none⟩) (lt_of_cell h.box) h.bne).trans h.box, h.src.keep h.repd h3, h.below.trans (h3.below (fun k (e : k = gd) => by rw [e]; exact hg) hs)⟩
theorem C3.more (h : C3 w b1 g1 c1 gv1 b2 g2 c2 gv2 gv bw A cA m v1 v2 vv l1 l2 l V) (hb : Below V.heap.size V V') : C3 w b1 g1 c1 gv1 b2 g2 c2 gv2 gv bw A cA m v1 v2 vv l1 l2 l V' :=
  ⟨h.rep1.below hb, h.wt1.below hb, h.rep2.below hb, h.wt2.below hb, h.wt.below hb, h.ok1, h.ok2, h.ok, (hb.cell (p := ⟨bw, 0, none⟩) (lt_of_cell h.box)).trans h.box, h.src.below hb, below0 h.below hb⟩
theorem C3.is1 (h : C3 w b1 g1 c1 gv1 b2 g2 c2 gv2 gv bw A cA m v1 v2 vv l1 l2 l V) : Calls Try.prog 19 #[bx b1, v1] V fun e V' => e = .returned (.bool true) ∧ C3 w b1 g1 c1 gv1 b2 g2 c2 gv2 gv bw A cA m v1 v2 vv l1 l2 l V' :=
  (is_any b1 g1 gv1 c1 l1 v1 V h.rep1 h.wt1 h.ok1.most).mono fun _ _ ⟨e, hb⟩ => ⟨e, h.more hb⟩
theorem C3.is2 (h : C3 w b1 g1 c1 gv1 b2 g2 c2 gv2 gv bw A cA m v1 v2 vv l1 l2 l V) : Calls Try.prog 19 #[bx b2, v2] V fun e V' => e = .returned (.bool true) ∧ C3 w b1 g1 c1 gv1 b2 g2 c2 gv2 gv bw A cA m v1 v2 vv l1 l2 l V' :=
  (is_any b2 g2 gv2 c2 l2 v2 V h.rep2 h.wt2 h.ok2.most).mono fun _ _ ⟨e, hb⟩ => ⟨e, h.more hb⟩
theorem C3.same (h : C3 w b1 g1 c1 gv1 b2 g2 c2 gv2 gv bw A cA m v1 v2 vv l1 l2 l V) : Calls Try.prog 17 #[bx b1, bx b2] V fun e V' => e = .returned (.bool (decide (l1 = l2))) ∧ C3 w b1 g1 c1 gv1 b2 g2 c2 gv2 gv bw A cA m v1 v2 vv l1 l2 l V' :=
  (same_rr b1 g1 c1 b2 g2 c2 l1 l2 V h.rep1 h.rep2 h.ok1.most).mono fun _ _ ⟨e, hb⟩ => ⟨e, h.more hb⟩
theorem C3.same2 (h : C3 w b1 g1 c1 gv1 b2 g2 c2 gv2 gv bw A cA m v1 v2 vv l1 l2 l V) : Calls Try.prog 17 #[bx b2, bx b1] V fun e V' => e = .returned (.bool (decide (l1 = l2))) ∧ C3 w b1 g1 c1 gv1 b2 g2 c2 gv2 gv bw A cA m v1 v2 vv l1 l2 l V' :=
  (same_rr b2 g2 c2 b1 g1 c1 l2 l1 V h.rep2 h.rep1 h.ok2.most).mono fun _ _ ⟨e, hb⟩ => ⟨by rw [e]; congr 2; exact decide_eq_decide.2 eq_comm, h.more hb⟩
theorem C3.rsame (h : C3 w b1 g1 c1 gv1 b2 g2 c2 gv2 gv bw A cA m v1 v2 vv l1 l2 l V) : Calls Try.prog 21 #[v1, v2] V fun e V' => e = .returned (.bool (decide (l1 = l2))) ∧ C3 w b1 g1 c1 gv1 b2 g2 c2 gv2 gv bw A cA m v1 v2 vv l1 l2 l V' := by
  obtain ⟨a1, rfl, h1⟩ := h.wt1
  obtain ⟨a2, rfl, h2⟩ := h.wt2
  have hm := h.ok1.most
  refine (rsame_any l1 l2 _ _ a1 a2 l1.length l2.length V rfl rfl (by omega) h1.sees h2.sees).mono ?_
  rintro e V' ⟨e1, q, rfl⟩
  exact ⟨e1, h.more (below_drewN (Below.refl _ _) q)⟩
theorem C3.rows (h : C3 w b1 g1 c1 gv1 b2 g2 c2 gv2 gv bw A cA m v1 v2 vv l1 l2 l V) : Calls Try.prog 22 #[vv] V (RowsS V (nz (wordsOf l))) := by
  obtain ⟨a1, rfl, h1⟩ := h.wt
  exact (rrows_any gv a1 l.length l V rfl h.ok.most h1).mono fun _ _ h => rows_s h
end
def gatKXn {α : Type} (ex : Nat) (ti ts te : TypeId) (enc : α → List Value) (kk : Nat) (w : World) (bm bl B2 : Nat) (many : Nat) (c : Code) (pre : List α) (O : Nat → Prop) (V : World) : Prop := c = .exit ex ∧ GatK ti ts te enc kk w bm bl B2 many pre O V ∧ pre.length = many ∧ ∀ k, O k → B2 + 2 ≤ k
theorem gatKXn.abid {α : Type} {ex : Nat} {ti ts te : TypeId} {enc : α → List Value} {kk : Nat} {w : World} {B2 many : Nat} {bm bl : Nat} (h : bm < B2 ∧ bl < B2 ∧ w.heap.size ≤ B2) (c : Code) : Abid B2 (gatKXn ex ti ts te enc kk w bm bl B2 many c) :=
  fun s O V V' row hp hg hr => ⟨hp.1, GatK.abid h s O V V' row hp.2.1 hg hr, hp.2.2⟩
theorem row_take2 : ∀ (l : List (Nat × Nat)) (k : Nat), (l.flatMap encR).take (k * 2) = (l.take k).flatMap encR
  | [], k => by simp
  | r :: t, 0 => by simp
  | r :: t, k + 1 => by
    have := row_take2 t k
    rw [List.flatMap_cons, List.take_succ_cons, List.flatMap_cons, show (k + 1) * 2 = (encR r).length + k * 2 by show _ = 2 + _; omega, List.take_length_add_append, this]
end Go.Proofs.Ytijgkjliienjhaa
