import Derived.Test.YtmbjjbgpcacoeaaGreatRC
namespace Go.Proofs.YtmbjjbgpcacoeaaGreat
open Go.RowKit Go.Shelf Go.Maps Go.Sort

/- THE DOCUMENT's POOL: GIVE, RESERVE, TAKE, WRITE. -/
/-- W: a pool's box, and room for the answer -/
structure Two (w W : World) (cs : List Value) : Prop where
  row : Row W w.heap.size 36 cs
  rm : Rm W (w.heap.size + 1)
  bl : Below w.heap.size w W
theorem Two.below {w W W' : World} {cs : List Value} (h : Two w W cs) (hb : Below W.heap.size W W') : Two w W' cs := ⟨h.row.below hb, h.rm.below hb, below0 h.bl hb⟩
theorem Two.new (w : World) (cs : List Value) : Two w ((w.alloc (.cells cs.toArray 36)).alloc (.cells Tryz.zeroCells36 36)) cs := by
  have h := Rm.new (w.alloc (.cells cs.toArray 36))
  rw [World.size_alloc] at h
  exact ⟨(Row.new w _ cs).below (below1 _ _), h, below2 w _ _⟩
theorem lies_setCells {W : World} {A : Option Addr} {fr : List Fr} {b : Nat} (h : Lies W A fr) (hne : ∀ a, A = some a → a.block ≠ b) (vs : List Value) (o : Nat) : Lies (W.setCells b o vs) A fr := fun hn => by
  obtain ⟨ad, e, hb, hc⟩ := h hn
  refine ⟨ad, e, by rw [size_setCells]; exact hb, fun j u hu => ?_⟩
  exact (World.cell?_of_block (by rw [add_block]; exact heap_setCells (hne ad e) vs o W)).trans (hc j u hu)
section
variable {w W : World} {cs : List Value}
theorem Two.range (h : Two w W cs) : W.rangeAt w.heap.size 0 cs := row_range h.row
theorem Two.there (h : Two w W cs) {xs : List Value} (hl : xs.length = 65) : W.there (w.heap.size + 1) 0 xs.toArray.size := by
  show World.there _ _ _ xs.length
  rw [hl]
  exact h.rm.there
theorem Two.ld (h : Two w W cs) {v : Value} {R : List Value} (hR : R.length = 64) : (loadVar 36 ⟨w.heap.size + 1, 0, none⟩).run Tryz.prog (W.setCells (w.heap.size + 1) 0 (v :: R)) = .ok (.agg (v :: R).toArray) (W.setCells (w.heap.size + 1) 0 (v :: R)) := stored_load hR h.rm
/-- the pool as it was -/
theorem Two.fin (h : Two w W cs) {A : Option Addr} {fr : List Fr} (hA : Lies w A fr) (vs : List Value) : Lies (W.setCells (w.heap.size + 1) 0 vs) A fr ∧ Below w.heap.size w (W.setCells (w.heap.size + 1) 0 vs) := by
  refine ⟨?_, below_setCells (Nat.le_succ _) _ _ _ h.bl⟩
  refine (sees_setCells (Nat.le_succ _) vs 0 W (Sees.below hA h.bl)).more ?_
  rw [size_setCells]
  exact h.bl.size
/-- another one -/
theorem Two.fin2 (h : Two w W cs) {A : Option Addr} {fr : List Fr} {W' : World} (hA : Lies W' A fr) (hb : Below W.heap.size W W') (hne : ∀ a, A = some a → W.heap.size ≤ a.block) (vs : List Value) : Lies (W'.setCells (w.heap.size + 1) 0 vs) A fr ∧ Below w.heap.size w (W'.setCells (w.heap.size + 1) 0 vs) := by
  refine ⟨lies_setCells hA (fun a e => ?_) vs 0, below_setCells (Nat.le_succ _) _ _ _ (below0 h.bl hb)⟩
  have := hne a e
  have := h.rm.lt
  omega
end
theorem resV_one (p : Pl) : ∀ u ∈ resV p, u.oneCell' = true := by
  intro u hu
  simp only [resV, List.mem_map] at hu
  obtain ⟨k, _, rfl⟩ := hu
  rfl
theorem rc_one (p : Pl) (A : Option Addr) (n c : Nat) : (rc p A n c).toArray.all (·.oneCell') = true := cells_one rfl (resV_one p)
theorem refpool_size2 {xs : List Value} (hl : xs.length = 65) : (Tryz.prog.info? 36).map (·.size) = some xs.toArray.size := by
  show _ = some xs.length
  rw [hl]
  kernel_rfl
theorem resV_eq {p q : Pl} (h : ∀ k, k < 64 → resN p k = resN q k) : resV p = resV q := by
  unfold resV
  refine List.map_congr_left fun k hk => ?_
  rw [h k (List.mem_range.1 hk)]
theorem taken_set {fr : List Fr} {i : Nat} {x y : Fr} (h : fr[i]? = some x) (k : Nat) : taken (fr.set i y) k + (if isO k x then 1 else 0) = taken fr k + (if isO k y then 1 else 0) := countP_set (isO k) fr i y x h
theorem leftN_set {p : Pl} (h : p.ok) {o : Nat} (ho : o < 64) (v k : Nat) (fr : List Fr) : leftN { fr := fr, left := p.left.set o v } k = if k = o then v else leftN p k := by
  unfold leftN
  show ((p.left.set o v)[k]?).getD 0 = _
  rw [List.getElem?_set]
  by_cases hk : o = k
  · subst hk
    rw [if_pos rfl, if_pos rfl, if_pos (by rw [h.l64]; exact ho)]
    rfl
  · rw [if_neg hk, if_neg (Ne.symm hk)]
theorem give_res {p : Pl} (h : p.ok) (i : Int) : resV (giveP p i) = resV p := by
  unfold giveP
  split
  next o bs hx =>
    obtain ⟨h1, h2, h3, h4⟩ := give_some hx
    obtain ⟨ho, _⟩ := h.own o bs (List.mem_of_getElem? h3)
    refine resV_eq fun k hk => ?_
    unfold resN
    rw [leftN_set h ho]
    have ht := taken_set (y := none) h3 k
    show (if k = o then leftN p o + 1 else leftN p k) + taken (p.fr.set i.toNat none) k = _
    by_cases e : k = o
    · subst e
      rw [show isO k (some (k, bs)) = true by simp [isO], show isO k (none : Fr) = false from rfl] at ht
      simp at ht
      rw [if_pos rfl]
      omega
    · rw [if_neg e]
      rw [show isO k (some (o, bs)) = false from beq_eq_false_iff_ne.2 (Ne.symm e), show isO k (none : Fr) = false from rfl] at ht
      simp at ht
      omega
  · rfl
theorem give_len (p : Pl) (i : Int) : (giveP p i).fr.length = p.fr.length := by
  unfold giveP
  split
  · exact List.length_set
  · rfl
theorem take_res {p : Pl} (h : p.ok) (o : Int) : resV (takeP p o) = resV p := by
  unfold takeP
  split
  next h0 =>
    obtain ⟨h1, h2, h3, h4, h5⟩ := takeE_left h h0
    obtain ⟨hn, _⟩ := free1_spec _ _ h4
    refine resV_eq fun k hk => ?_
    unfold resN
    rw [leftN_set h (by omega)]
    have ht := taken_set (y := some (o.toNat, zero256)) hn k
    show (if k = o.toNat then leftN p o.toNat - 1 else leftN p k) + taken (p.fr.set (takeI p o) (some (o.toNat, zero256))) k = _
    by_cases e : k = o.toNat
    · rw [← e] at ht h3 ⊢
      rw [show isO k (some (k, zero256)) = true by simp [isO], show isO k (none : Fr) = false from rfl] at ht
      simp at ht
      rw [if_pos rfl]
      omega
    · rw [if_neg e]
      rw [show isO k (some (o.toNat, zero256)) = false from beq_eq_false_iff_ne.2 (Ne.symm e), show isO k (none : Fr) = false from rfl] at ht
      simp at ht
      omega
  · rfl
theorem take_len (p : Pl) (o : Int) : (takeP p o).fr.length = p.fr.length := by
  unfold takeP
  split
  · exact List.length_set
  · rfl
theorem write_res {p : Pl} (i a : Int) (l : List UInt8) : resV (writeP p i a l) = resV p := by
  unfold writeP
  split
  next h0 =>
    obtain ⟨h1, h2, h3, h4, h5, o, bs, h6, h7⟩ := reach_some h0
    rw [h7]
    refine resV_eq fun k hk => ?_
    unfold resN
    have ht := taken_set (y := some (o, putB bs a.toNat l)) h6 k
    show leftN p k + taken (p.fr.set i.toNat (some (o, putB bs a.toNat l))) k = _
    have e : isO k (some (o, putB bs a.toNat l)) = isO k (some (o, bs)) := rfl
    rw [e] at ht
    omega
  · rfl
theorem write_len (p : Pl) (i a : Int) (l : List UInt8) : (writeP p i a l).fr.length = p.fr.length := by
  unfold writeP
  split
  next h0 =>
    obtain ⟨h1, h2, h3, h4, h5, o, bs, h6, h7⟩ := reach_some h0
    rw [h7]
    exact List.length_set
  · rfl
theorem reserve_res {p : Pl} (h : p.ok) {o m : Nat} (hE : reserveE p (o : Int) (m : Int) = 0) (h64 : o < 64) : resV (reserveP p (o : Int) (m : Int)) = (resV p).set o (iv m) := by
  have hm : taken p.fr o ≤ m := by
    unfold reserveE at hE
    split at hE
    · cases hE
    split at hE
    · cases hE
    next h2 => simp at h2; omega
  unfold reserveP
  rw [if_pos hE]
  apply List.ext_getElem?
  intro k
  by_cases hk : k < 64
  · rw [resV_get _ k hk, List.getElem?_set]
    unfold resN
    rw [Int.toNat_natCast, Int.toNat_natCast, leftN_set h h64]
    show some (iv ((if k = o then m - taken p.fr o else leftN p k) + taken p.fr k)) = _
    by_cases e : o = k
    · subst e
      rw [if_pos rfl, if_pos rfl, if_pos (by rw [resV_len]; exact hk)]
      congr 2
      omega
    · rw [if_neg (Ne.symm e), if_neg e, resV_get _ k hk]
      rfl
  · rw [List.getElem?_eq_none (by rw [resV_len]; omega), List.getElem?_eq_none (by rw [List.length_set, resV_len]; omega)]
end Go.Proofs.YtmbjjbgpcacoeaaGreat
