import Derived.Test.YtmocdokikcbjeaaGreatSA
namespace Go.Proofs.YtmocdokikcbjeaaGreat
open Go.RowKit Go.Shelf Go.Maps Go.Sort
attribute [local go_sem] Oper.semAt_some

/- FRAMEPLAYS. -/
theorem Rm.setCells {g : Nat} : ∀ (vs : List Value) (o : Nat) (V : World), Rm V g → Rm (V.setCells g o vs) g
  | [], _, _, h => h
  | v :: r, o, V, h => by
    rw [World.setCells]
    refine Rm.setCells r (o + 1) _ ?_
    obtain ⟨cur, h1, h2⟩ := h.h
    exact ⟨_, set_cells (o := o) v h1, by simpa using h2⟩
/-- both pools between two steps of the law, the document's box aside -/
structure MidP (w : World) (g b n : Nat) (p : Pl) (F : Nat → Prop) (A : Option Addr) (V : World) : Prop where
  has : Has V b p F
  offg : ∀ q, F q → w.heap.size ≤ q ∧ q ≠ g
  rm : Rm V g
  len : p.fr.length = n
  lies : Lies V A p.fr
  off : Off F A p.fr
  offa : ∀ a, A = some a → p.fr ≠ [] → a.block ≠ g
  below : Below w.heap.size w V
  ge : w.heap.size ≤ g
section
variable {w V V' : World} {g b n c g7 : Nat} {p : Pl} {F : Nat → Prop} {A : Option Addr}
theorem MidP.more (h : MidP w g b n p F A V) (hb : Below V.heap.size V V') : MidP w g b n p F A V' :=
  ⟨h.has.below hb, h.offg, h.rm.below hb, h.len, h.lies.below hb, h.off, h.offa, below0 h.below hb, h.ge⟩
theorem MidP.store (h : MidP w g b n p F A V) (h1 : w.heap.size ≤ g7) (h3 : ¬ F g7) (h4 : ∀ a, A = some a → p.fr ≠ [] → a.block ≠ g7) (vs : List Value) (hr : g7 ≠ g ∨ Rm (V.setCells g7 0 vs) g) : MidP w g b n p F A (V.setCells g7 0 vs) :=
  ⟨h.has.keep fun k hk => heap_setCells (by rintro rfl; exact h3 hk) _ _ _, h.offg, hr.elim (fun hr => h.rm.same (heap_setCells (fun e => hr e.symm) _ _ _)) id, h.len, h.lies.keepX (fun a ha hn _ => heap_setCells (h4 a ha hn) _ _ _) (by rw [size_setCells]; exact Nat.le_refl _), h.off, h.offa, below_setCells h1 _ _ _ h.below, h.ge⟩
end
/-- with the document's box -/
structure PlC (w : World) (g b n : Nat) (p : Pl) (F : Nat → Prop) (A : Option Addr) (c : Nat) (V : World) : Prop where
  mid : MidP w g b n p F A V
  rg : V.rangeAt g 0 (rc p A n c)
section
variable {w V V0 : World} {g b n c g7 : Nat} {p : Pl} {F : Nat → Prop} {A : Option Addr}
theorem PlC.more (h : PlC w g b n p F A c V) (hb : Below V.heap.size V V0) : PlC w g b n p F A c V0 :=
  ⟨h.mid.more hb, fun j v hj => (World.cell?_of_block (hb.block g h.mid.rm.lt)).trans (h.rg j v hj)⟩
theorem MidP.fin (h : MidP w g b n p F A V) : PlC w g b n p F A c (V.setCells g 0 (rc p A n c)) :=
  ⟨h.store h.ge (fun hf => (h.offg g hf).2 rfl) h.offa _ (.inr (h.rm.setCells _ _ _)), World.rangeAt_setCells_same V g 0 _ (by rw [rc_len]; exact h.rm.there)⟩
/-- a call, at a world that is below -/
theorem PlC.act (h : PlC w g b n p F A c V) (hb : Below V.heap.size V V0) (x : Ac) (hx : x.fits V0) :
    Calls Tryz.prog 11 #[bx b, rv p A n c, .agg #[.int .i64 x.what, .int .i64 x.owner, .int .i64 x.n, .int .i64 x.at_, .slice x.A x.bs.length x.c]] V0 fun e V1 =>
      ∃ b' F' A' c', e = .returned (.tuple #[bx b', rv (stepP p x) A' n c', .bool true]) ∧ MidP w g b' n (stepP p x) F' A' V1 ∧ V1.rangeAt g 0 (rc p A n c) ∧
        (∀ k, V.heap.size ≤ k → k < V0.heap.size → V1.heap[k]? = V0.heap[k]? ∧ ¬ F' k ∧ ∀ a, A' = some a → (stepP p x).fr ≠ [] → a.block ≠ k) := by
  have h0 := h.more hb
  have hFl := h.mid.has.lt
  have hgl := h.mid.rm.lt
  have hs := hb.size
  refine (act_any p A n c b F x V0 hx h0.mid.has h0.mid.len h0.mid.lies h0.mid.off).mono ?_
  rintro e V1 ⟨b', F', A', c', rfl, k1, k2, k3, k4, k5, k6⟩
  have hgF : ¬ F g := fun hf => (h.mid.offg g hf).2 rfl
  have hl2 : (stepP p x).fr.length = n := (step_len p x).trans h.mid.len
  have hAx : ∀ a, A' = some a → (stepP p x).fr ≠ [] → (A = some a ∧ p.fr ≠ [] ∧ a.block < V.heap.size) ∨ V0.heap.size ≤ a.block := by
    intro a ha hn
    rcases k6 with rfl | k6
    · have hn2 : p.fr ≠ [] := by
        rintro e
        have h1 := step_len p x
        rw [e] at h1
        exact hn (List.length_eq_zero_iff.1 h1)
      exact .inl ⟨ha, hn2, h.mid.lies.lt hn2 ha⟩
    · exact .inr (k6 a ha)
  have hw := h.mid.below.size
  refine ⟨b', F', A', c', rfl, ⟨k1, fun q hq => ?_, h0.mid.rm.same (k3.block g h0.mid.rm.lt hgF), hl2, k4, k5, fun a ha hn => ?_, h0.mid.below.trans (k3.below (fun q hq => (h.mid.offg q hq).1) h0.mid.below.size), h.mid.ge⟩, fun j v hj => (World.cell?_of_block (k3.block g h0.mid.rm.lt hgF)).trans (h0.rg j v hj), fun k hk1 hk2 => ⟨k3.block k hk2 (fun hf => by have := hFl k hf; omega), fun hf => ?_, fun a ha hn => ?_⟩⟩
  · rcases k2 q hq with h1 | h1
    · exact h.mid.offg q h1
    · exact ⟨by omega, by omega⟩
  · rcases hAx a ha hn with ⟨h1, h2, _⟩ | h1
    · exact h.mid.offa a h1 h2
    · omega
  · rcases k2 k hf with h1 | h1
    · have := hFl k h1; omega
    · omega
  · rcases hAx a ha hn with ⟨_, _, h3⟩ | h1
    · omega
    · omega
end
theorem z_agg : (Value.agg Tryz.zeroCells32) = .agg Tryz.zeroCells32 := rfl
set_option maxRecDepth 100000 in
set_option maxHeartbeats 4000000 in
theorem plays_far (many : Int) (l : List Ac) (A : Option Addr) (n c : Nat) (w : World) (h : Acs w l A) (hl : l.length = n) (hn : n ≤ 4611686018427387904) (hq : fewB l 50 = false ∨ 12 < many) :
    Calls Tryz.prog 3 #[.int .i64 many, .slice A n c] w fun e w' => e = .returned (.bool true) ∧ Below w.heap.size w w' := by
  have hwk := Lib.hid (fun w => works_any w)
  have hfew := Lib.hid (few_any l A n c 50 w h hl hn)
  cases hf : fewB l 50
  · rw [hf] at hfew
    clear hq
    go_enter Tryz.func3, Tryz.ntmps3
    go_wp2_with fail
    refine (hfew.out).mono ?_
    rintro e w1 ⟨rfl, rfl⟩
    go_wp2_with fail
    refine (hwk.out _).mono ?_
    rintro e w1 ⟨rfl, hb⟩
    go_wp2_with fail
    go_ret
    exact ⟨rfl, hb⟩
  · rw [hf] at hfew hq
    have e1 : decide (12 < many) = true := decide_eq_true (by rcases hq with h | h; cases h; exact h)
    clear hq
    go_enter Tryz.func3, Tryz.ntmps3
    go_wp2_with fail
    refine (hfew.out).mono ?_
    rintro e w1 ⟨rfl, rfl⟩
    go_wp2_with fail
    refine (hwk.out _).mono ?_
    rintro e w1 ⟨rfl, hb⟩
    go_wp2_with fail
    go_ret
    exact ⟨rfl, hb⟩
set_option maxRecDepth 100000 in
set_option maxHeartbeats 4000000 in
theorem plays_less (many : Int) (l : List Ac) (A : Option Addr) (n c : Nat) (w : World) (h : Acs w l A) (hl : l.length = n) (hn : n ≤ 4611686018427387904) (hf : fewB l 50 = true) (hm : many < 0) :
    Calls Tryz.prog 3 #[.int .i64 many, .slice A n c] w fun e w' => e = .returned (.bool true) ∧ Below w.heap.size w w' := by
  have hwk := Lib.hid (fun w => works_any w)
  have hno := Lib.hid (fun z w => none_any z w)
  have hfew := Lib.hid (few_any l A n c 50 w h hl hn)
  have hnw := Lib.hid (fun w => new_no many w (by omega))
  have hrn := Lib.hid (fun w => rnew_no many w (.inl hm))
  have hE : newE many ≠ 0 := by
    unfold newE
    split <;> first | decide | omega
  have HE := Lib.hid hE
  rw [hf] at hfew
  have e1 : decide (12 < many) = false := decide_eq_false (by omega)
  clear hm hE
  go_enter Tryz.func3, Tryz.ntmps3
  go_wp2_with fail
  refine (hfew.out).mono ?_
  rintro e w1 ⟨rfl, rfl⟩
  go_wp2_with fail
  refine (hnw.out _).mono ?_
  rintro e w1 ⟨rfl, hb1⟩
  go_wp2_with fail
  refine (hrn.out _).mono ?_
  rintro e w2 ⟨_, hQ, hb2⟩
  obtain ⟨R, hR, hR1, rfl⟩ := hQ HE.out
  obtain ⟨cs, hcs⟩ : ∃ cs, cs = Value.slice none 0 0 :: R := ⟨_, rfl⟩
  have hlen : cs.length = 65 := by rw [hcs, List.length_cons, hR]
  have HLEN := Lib.hid hlen
  have HONE : Hid (cs.toArray.all (·.oneCell') = true) := Lib.hid (hcs ▸ cells_one rfl hR1)
  have hth : (w2.alloc (.cells Tryz.zeroCells32 32)).there w2.heap.size 0 cs.toArray.size := by
    show World.there _ _ 0 cs.length
    rw [hlen]
    exact (Rm.new w2).there
  have HTH := Lib.hid hth
  have hB2 := below0 hb1 hb2
  have HBB := Lib.hid (show Below w.heap.size w ((w2.alloc (.cells Tryz.zeroCells32 32)).setCells w2.heap.size 0 cs.toArray.toList) from below_setCells hB2.size _ _ _ (hB2.alloc hB2.size _))
  rw [← hcs]
  clear hcs hlen hth hR hR1 hb1 hb2 hQ hB2
  go_wp2_with (first
    | refine wpList_store_mid rfl 32 (.tmp 7) (.tmp 29) rfl w2.heap.size 0 cs.toArray rfl rfl HTH.out (refpool_size2 HLEN.out) HONE.out ?_)
  refine (hno.out _ _).mono ?_
  rintro e w3 ⟨rfl, hb3⟩
  have HB3 := Lib.hid (below0 HBB.out hb3)
  clear hb3
  go_wp2_with (first
    | (go_at_call 10; refine (num_any _ _).mono ?_; rintro e _ ⟨rfl, rfl⟩))
  refine (hwk.out _).mono ?_
  rintro e w4 ⟨rfl, hb4⟩
  have HB4 := Lib.hid (below0 HB3.out hb4)
  clear hb4
  go_wp2_with fail
  go_ret
  exact ⟨rfl, HB4.out⟩
set_option maxRecDepth 100000 in
set_option maxHeartbeats 4000000 in
theorem plays_main (mn : Nat) (l : List Ac) (A0 : Option Addr) (n0 c0 : Nat) (w : World) (h : Acs w l A0) (hl : l.length = n0) (hn : n0 ≤ 4611686018427387904) (hf : fewB l 50 = true) (hm : mn ≤ 12) :
    Calls Tryz.prog 3 #[.int .i64 (mn : Int), .slice A0 n0 c0] w fun e w' => e = .returned (.bool true) ∧ Below w.heap.size w w' := by
  have hwk := Lib.hid (fun w => works_any w)
  have hno := Lib.hid (fun z w => none_any z w)
  have hfew := Lib.hid (few_any l A0 n0 c0 50 w h hl hn)
  have hnw := Lib.hid (fun w => new_yes mn w (by omega))
  have hrn := Lib.hid (fun w => rnew_yes mn w (by omega))
  have hn50 : n0 ≤ 50 := by
    unfold fewB at hf
    simp only [Bool.and_eq_true, decide_eq_true_eq] at hf
    omega
  have HA := Lib.hid h
  have HL := Lib.hid hl
  have hE : newE (mn : Int) = 0 := by
    unfold newE
    split <;> first | rfl | omega
  have HE := Lib.hid hE
  rw [hf] at hfew
  have e1 : decide ((12 : Int) < (mn : Int)) = false := decide_eq_false (by omega)
  have e2 : decide (12 < mn) = false := decide_eq_false (by omega)
  clear hE h hl hf
  go_enter Tryz.func3, Tryz.ntmps3
  go_wp2_with fail
  refine (hfew.out).mono ?_
  rintro e w1 ⟨rfl, rfl⟩
  go_wp2_with fail
  refine (hnw.out _).mono ?_
  rintro e w1 ⟨b, F, rfl, hH, hFs, hb1⟩
  go_wp2_with fail
  refine (hrn.out _).mono ?_
  rintro e w2 ⟨hQ, _, hb2⟩
  obtain ⟨A, c, rfl, hLi, hAf⟩ := hQ HE.out
  simp only [Int.toNat_natCast] at hLi hAf ⊢
  obtain ⟨cs, hcs⟩ : ∃ cs, cs = rc (newP mn) A mn c := ⟨_, rfl⟩
  have hlen : cs.length = 65 := by rw [hcs, rc_len]
  have HLEN := Lib.hid hlen
  have HONE := Lib.hid (hcs ▸ rc_one (newP mn) A mn c : cs.toArray.all (·.oneCell') = true)
  have hth : (w2.alloc (.cells Tryz.zeroCells32 32)).there w2.heap.size 0 cs.toArray.size := by
    show World.there _ _ 0 cs.length
    rw [hlen]
    exact (Rm.new w2).there
  have HTH := Lib.hid hth
  have hB2 := below0 hb1 hb2
  have hFl := hH.lt
  have hs1 := hb2.size
  have hs0 := hb1.size
  have hPl : PlC w w2.heap.size b mn (newP mn) F A c ((w2.alloc (.cells Tryz.zeroCells32 32)).setCells w2.heap.size 0 cs.toArray.toList) := by
    have hba := below1 w2 (.cells Tryz.zeroCells32 32)
    have hM : MidP w w2.heap.size b mn (newP mn) F A (w2.alloc (.cells Tryz.zeroCells32 32)) :=
      ⟨(hH.below hb2).below hba, fun q hq => ⟨hFs q hq, by have := hFl q hq; omega⟩, Rm.new w2, by simp [newP], hLi.below hba, fun a ha hn hf => by have := hAf a ha hn; have := hFl _ hf; omega, fun a ha hn => by have := hLi.lt hn ha; omega, below0 hB2 hba, hB2.size⟩
    have := hM.fin (c := c)
    rw [← hcs] at this
    exact this
  rw [show rv (newP mn) A mn c = .agg cs.toArray by rw [hcs]; rfl]
  clear hlen hth hb1 hb2 hQ hB2 hH hFs hLi hAf hFl hs1 hs0 hcs
  go_wp2_with (first
    | refine wpList_store_mid rfl 32 (.tmp 7) (.tmp 29) rfl w2.heap.size 0 cs.toArray rfl rfl HTH.out (refpool_size2 HLEN.out) HONE.out ?_)
  obtain ⟨g, hg⟩ : ∃ g, g = w2.heap.size := ⟨_, rfl⟩
  obtain ⟨w3, hw3⟩ : ∃ w3, w3 = (w2.alloc (.cells Tryz.zeroCells32 32)).setCells w2.heap.size 0 cs.toArray.toList := ⟨_, rfl⟩
  rw [← hw3] at hPl ⊢
  rw [← hg] at hPl ⊢
  clear hw3 hg HTH
  refine (hno.out _ _).mono ?_
  rintro e w4 ⟨rfl, hb4⟩
  have hP0 := hPl.more hb4
  clear hb4 hPl
  go_wp2_with fail
  go_loopw [5, 9] (fun s5 s9 V => ∃ k b p, s5 = bx b ∧ s9 = .int .i64 ((k : Nat) : Int) ∧ k ≤ n0 ∧ ∃ F A c, PlC w g b mn p F A c V) (fun _ s9 _ => n0 - (_root_.Go.RowKit.intOf s9).toNat)
  case atStart => exact ⟨0, b, newP mn, rfl, rfl, Nat.zero_le _, F, A, c, hP0⟩
  case round =>
    clear hP0 HLEN HONE
    obtain ⟨k, b, p, rfl, rfl, hk, F, A, c, hP⟩ := hrel
    obtain ⟨cs, hcs⟩ : ∃ cs, cs = rc p A mn c := ⟨_, rfl⟩
    have HSZ := Lib.hid (show (Tryz.prog.info? 32).map (·.size) = some cs.length from hcs ▸ refpool_size p A mn c)
    by_cases hlt : k < n0
    · have i0 : (0 : Int) ≤ (k : Int) := by omega
      have i1 : (k : Int) < (n0 : Int) := by omega
      have j1 : decide ((k : Int) < (n0 : Int)) = true := decide_eq_true i1
      have hkl : k < l.length := by rw [HL.out]; exact hlt
      have HS0 : ∃ ad, A0 = some ad ∧ ∀ W, Below w.heap.size w W → (W.cell? (ad.add (k * 5)) = some (.int .i64 l[k].what) ∧ W.cell? ⟨(ad.add (k * 5)).block, (ad.add (k * 5)).off + 1, none⟩ = some (.int .i64 l[k].owner) ∧ W.cell? ⟨(ad.add (k * 5)).block, (ad.add (k * 5)).off + 2, none⟩ = some (.int .i64 l[k].n) ∧
          W.cell? ⟨(ad.add (k * 5)).block, (ad.add (k * 5)).off + 3, none⟩ = some (.int .i64 l[k].at_) ∧ W.cell? ⟨(ad.add (k * 5)).block, (ad.add (k * 5)).off + 4, none⟩ = some l[k].sl) := by
        obtain ⟨ad, e, _⟩ := HA.out.at_ k hkl
        refine ⟨ad, e, fun W hb => ?_⟩
        obtain ⟨ad', e', h'⟩ := (HA.out.below hb).at_ k hkl
        rw [e] at e'
        obtain rfl := Option.some.inj e'
        exact h'
      obtain ⟨ad, rfl, hS⟩ := HS0
      have hfit := fun W (hb : Below w.heap.size w W) => (HA.out.below hb).fits _ (List.getElem_mem hkl)
      obtain ⟨y, hy⟩ : ∃ y, y = l[k] := ⟨_, rfl⟩
      rw [← hy] at hS hfit
      clear hy
      have hrv : rv p A mn c = .agg cs.toArray := by rw [hcs]; rfl
      have HACT0 := fun (V0 : World) (hb : Below wr.heap.size wr V0) => hP.act hb y (hfit V0 (below0 hP.mid.below hb))
      rw [hrv] at HACT0
      have HACT := Lib.hid HACT0
      clear HACT0 hrv
      obtain ⟨wh, hwh⟩ : ∃ wh, wh = y.what := ⟨_, rfl⟩
      obtain ⟨ow, how⟩ : ∃ ow, ow = y.owner := ⟨_, rfl⟩
      obtain ⟨fn, hfn⟩ : ∃ fn, fn = y.n := ⟨_, rfl⟩
      obtain ⟨at_, hat⟩ : ∃ at_, at_ = y.at_ := ⟨_, rfl⟩
      obtain ⟨m, hmm⟩ : ∃ m, m = y.bs.length := ⟨_, rfl⟩
      obtain ⟨Sx, hSx⟩ : ∃ Sx, Sx = y.A := ⟨_, rfl⟩
      obtain ⟨cx, hcx⟩ : ∃ cx, cx = y.c := ⟨_, rfl⟩
      unfold Ac.sl at hS
      rw [← hwh, ← how, ← hfn, ← hat, ← hmm, ← hSx, ← hcx] at hS HACT
      have HCS := Lib.hid hcs
      have hgw := hP.mid.rm.lt
      have hsw := hP.mid.below.size
      have hge := hP.mid.ge
      have HSS := Lib.hid (fun (W : World) (hb : Below w.heap.size w W) (hr : W.rangeAt g 0 cs) => (show (fun W : World => W.rangeAt g 0 cs ∧ W.cell? (ad.add (k * 5)) = some (.int .i64 wh) ∧ W.cell? ⟨(ad.add (k * 5)).block, (ad.add (k * 5)).off + 1, none⟩ = some (.int .i64 ow) ∧ W.cell? ⟨(ad.add (k * 5)).block, (ad.add (k * 5)).off + 2, none⟩ = some (.int .i64 fn) ∧ W.cell? ⟨(ad.add (k * 5)).block, (ad.add (k * 5)).off + 3, none⟩ = some (.int .i64 at_) ∧ W.cell? ⟨(ad.add (k * 5)).block, (ad.add (k * 5)).off + 4, none⟩ = some (.slice Sx m cx)) W from ⟨hr, hS W hb⟩))
      have hbd : Below wr.heap.size wr wr.drew := (Below.refl _ _).drew
      have hba := (below1 wr (.cells Tryz.zeroCells32 32)).drew
      have HBD := Lib.hid (And.intro hbd (And.intro (below0 hP.mid.below hbd) (show wr.drew.rangeAt g 0 cs from by rw [hcs]; exact (hP.more hbd).rg)))
      have HBA := Lib.hid (And.intro hba (And.intro (below0 hP.mid.below hba) (show (wr.alloc (.cells Tryz.zeroCells32 32)).drew.rangeAt g 0 cs from by rw [hcs]; exact (hP.more hba).rg)))
      have HGW := Lib.hid (And.intro hgw (And.intro hsw hge))
      have ew : IntKind.i64.wrap ((k : Int) + 1) = (k : Int) + 1 := wrapI _ (by omega) (by omega)
      clear hP hS hfit hbd hba hcs hgw hsw hge hwh how hfn hat hmm hSx hcx
      go_wp2_with fail
      refine wp_region_held_drew (S := (fun W : World => W.rangeAt g 0 cs ∧ W.cell? (ad.add (k * 5)) = some (.int .i64 wh) ∧ W.cell? ⟨(ad.add (k * 5)).block, (ad.add (k * 5)).off + 1, none⟩ = some (.int .i64 ow) ∧ W.cell? ⟨(ad.add (k * 5)).block, (ad.add (k * 5)).off + 2, none⟩ = some (.int .i64 fn) ∧ W.cell? ⟨(ad.add (k * 5)).block, (ad.add (k * 5)).off + 3, none⟩ = some (.int .i64 at_) ∧ W.cell? ⟨(ad.add (k * 5)).block, (ad.add (k * 5)).off + 4, none⟩ = some (.slice Sx m cx))) (by kernel_rfl) (HSS.out _ HBD.out.2.1 HBD.out.2.2) (fun hHeld => ?_)
      refine wpAnyH_take (i := 0) (v := ?_) rfl (by kernel_rfl) (by kernel_rfl) (by kernel_rfl) (fun _ _ _ h => h) (Or.inl ⟨by kernel_rfl, ?_⟩) hHeld ?_
      rotate_left
      focus (intro w hSw; (try dsimp only at hSw); go_simp; try with_reducible rfl)
      simp only [Act.put]
      refine wpAnyH_take (i := 1) rfl (by kernel_rfl) (by kernel_rfl) (by kernel_rfl) (fun _ _ _ h => h) (yieldsIf_load_mid (by kernel_rfl) 32 (.tmp 7) rfl g 0 rfl cs _ (fun V hV => hV.1) Tryz.underlying32 rfl HSZ.out) hHeld ?_
      simp only [Act.put]
      refine wpAnyH_take (i := 2) (v := ?_) rfl (by kernel_rfl) (by kernel_rfl) (by kernel_rfl) (fun _ _ _ h => h) (Or.inl ⟨by kernel_rfl, ?_⟩) hHeld ?_
      rotate_left
      focus (intro w hSw; (try dsimp only at hSw); go_simp; try with_reducible rfl)
      simp only [Act.put]
      refine wpAnyH_take (i := 3) (v := ?_) rfl (by kernel_rfl) (by kernel_rfl) (by kernel_rfl) (fun _ _ _ h => h) (Or.inl ⟨by kernel_rfl, ?_⟩) hHeld ?_
      rotate_left
      focus (intro w hSw; (try dsimp only at hSw); go_simp; try with_reducible rfl)
      simp only [Act.put]
      refine wpAnyH_take (i := 4) (v := ?_) rfl (by kernel_rfl) (by kernel_rfl) (by kernel_rfl) (fun _ _ _ h => h) (Or.inl ⟨by kernel_rfl, ?_⟩) hHeld ?_
      rotate_left
      focus (intro w hSw; (try dsimp only at hSw); go_simp; try with_reducible rfl)
      simp only [Act.put]
      refine wpAnyH_take (i := 5) (v := ?_) rfl (by kernel_rfl) (by kernel_rfl) (by kernel_rfl) (fun _ _ _ h => h) (Or.inl ⟨by kernel_rfl, ?_⟩) hHeld ?_
      rotate_left
      focus (intro w hSw; (try dsimp only at hSw); go_simp; try with_reducible rfl)
      simp only [Act.put]
      refine wpAnyH_ready (rs := [6, 11]) (by kernel_rfl) (by simp) ?_
      refine AllReadyH.cons rfl (fun K hK => ?_) (AllReadyH.cons rfl (fun K hK => ?_) AllReadyH.nil)
      · go_simp
        refine (HACT.out _ HBD.out.1).mono ?_
        rintro e V1 ⟨b', F', A', c', rfl, hM, hrg, hK7⟩
        obtain ⟨cs2, hcs2⟩ : ∃ cs2, cs2 = rc (stepP p y) A' mn c' := ⟨_, rfl⟩
        have hlen2 : cs2.length = 65 := by rw [hcs2, rc_len]
        have HLEN2 := Lib.hid hlen2
        have HONE2 := Lib.hid (hcs2 ▸ rc_one (stepP p y) A' mn c' : cs2.toArray.all (·.oneCell') = true)
        have HSZ2 := Lib.hid (show (Tryz.prog.info? 32).map (·.size) = some cs2.length from hcs2 ▸ refpool_size (stepP p y) A' mn c')
        rw [show rv (stepP p y) A' mn c' = .agg cs2.toArray by rw [hcs2]; rfl]
        rw [← HCS.out] at hrg
        have HCS2 := Lib.hid hcs2
        clear hcs2
        refine hK.out _ _ (HSS.out _ hM.below hrg) (fun hHeld => ?_)
        clear hK K
        try simp only [Act.put]
        refine wpAnyH_take (i := 7) (v := ?_) rfl (by kernel_rfl) (by kernel_rfl) (by kernel_rfl) (fun _ _ _ h => h) (Or.inl ⟨by kernel_rfl, ?_⟩) hHeld ?_
        rotate_left
        focus (intro w hSw; (try dsimp only at hSw); go_simp; try with_reducible rfl)
        simp only [Act.put]
        refine wpAnyH_take (i := 8) (v := ?_) rfl (by kernel_rfl) (by kernel_rfl) (by kernel_rfl) (fun _ _ _ h => h) (Or.inl ⟨by kernel_rfl, ?_⟩) hHeld ?_
        rotate_left
        focus (intro w hSw; (try dsimp only at hSw); go_simp; try with_reducible rfl)
        simp only [Act.put]
        refine wpAnyH_take (i := 9) (v := ?_) rfl (by kernel_rfl) (by kernel_rfl) (by kernel_rfl) (fun _ _ _ h => h) (Or.inl ⟨by kernel_rfl, ?_⟩) hHeld ?_
        rotate_left
        focus (intro w hSw; (try dsimp only at hSw); go_simp; try with_reducible rfl)
        simp only [Act.put]
        refine wpAnyH_take (i := 10) (v := ?_) rfl (by kernel_rfl) (by kernel_rfl) (by kernel_rfl) (fun _ _ _ h => h) (Or.inl ⟨by kernel_rfl, ?_⟩) hHeld ?_
        rotate_left
        focus (intro w hSw; (try dsimp only at hSw); go_simp; try with_reducible rfl)
        simp only [Act.put]
        have hba := below1 V1 (.cells Tryz.zeroCells32 32)
        have hMa := hM.more hba
        have hrga : (V1.alloc (.cells Tryz.zeroCells32 32)).rangeAt g 0 cs := fun j v hj => (World.cell?_of_block (hba.block g hM.rm.lt)).trans (hrg j v hj)
        have hth7 : (V1.alloc (.cells Tryz.zeroCells32 32)).there V1.heap.size 0 cs2.toArray.size := by
          show World.there _ _ 0 cs2.length
          rw [hlen2]
          exact (Rm.new V1).there
        have hgl := hM.rm.lt
        have hne7 : V1.heap.size ≠ g := by omega
        have hM2 : MidP w g b' mn (stepP p y) F' A' ((V1.alloc (.cells Tryz.zeroCells32 32)).setCells V1.heap.size 0 cs2.toArray.toList) := hMa.store hM.below.size (fun hf => by have := hM.has.lt _ hf; omega) (fun a ha hn => by have := hM.lies.lt hn ha; omega) _ (.inl hne7)
        have hS2 := HSS.out _ hM2.below (World.rangeAt_setCells_apart hrga _ _ _ (.inl (by omega)))
        refine wpAnyH_ready (rs := [11]) (by kernel_rfl) (by simp) ?_
        refine AllReadyH.cons rfl (fun K hK => ?_) (AllReadyH.nil)
        go_simp
        refine hK.out _ _ (HSS.out _ hMa.below hrga) (fun hHeld => ?_)
        clear hK K
        try simp only [Act.put]
        refine wpAnyH_ready (rs := [12]) (by kernel_rfl) (by simp) ?_
        refine AllReadyH.cons rfl (fun K hK => ?_) (AllReadyH.nil)
        go_simp
        refine hK.out _ _ (HSS.out _ hMa.below hrga) (fun hHeld => ?_)
        clear hK K
        try simp only [Act.put]
        refine wpAnyH_ready (rs := [13]) (by kernel_rfl) (by simp) ?_
        refine AllReadyH.cons rfl (fun K hK => ?_) (AllReadyH.nil)
        refine step_store_mid rfl 32 _ _ rfl V1.heap.size 0 cs2.toArray (by simp [Act.eval]) (by simp [Act.eval]) (hth7) (refpool_size2 HLEN2.out) HONE2.out ?_
        refine hK.out _ _ (hS2) (fun hHeld => ?_)
        clear hK K
        try simp only [Act.put]
        refine wpAnyH_ready (rs := [14]) (by kernel_rfl) (by simp) ?_
        refine AllReadyH.cons rfl (fun K hK => ?_) (AllReadyH.nil)
        go_simp
        refine hK.out _ _ (hS2) (fun hHeld => ?_)
        clear hK K
        try simp only [Act.put]
        refine wpAnyH_done (by kernel_rfl) ?_ _
        clear hS2 hMa hrga hgl hba
        have HM2 := Lib.hid (show MidP w g b' mn (stepP p y) F' A' ((V1.alloc (.cells Tryz.zeroCells32 32)).setCells V1.heap.size 0 cs2.toArray.toList) from hM2)
        have HR7 := Lib.hid (show World.rangeAt ((V1.alloc (.cells Tryz.zeroCells32 32)).setCells V1.heap.size 0 cs2.toArray.toList) V1.heap.size 0 cs2 from World.rangeAt_setCells_same _ _ 0 _ hth7)
        obtain ⟨g7, hg7⟩ : ∃ g7, g7 = V1.heap.size := ⟨_, rfl⟩
        obtain ⟨V2, hV2⟩ : ∃ V2, V2 = ((V1.alloc (.cells Tryz.zeroCells32 32)).setCells V1.heap.size 0 cs2.toArray.toList) := ⟨_, rfl⟩
        rw [← hV2] at HM2 HR7 ⊢
        rw [← hg7] at HR7 ⊢
        have hne : g7 ≠ g := by rw [hg7]; exact hne7
        have HNE := Lib.hid hne
        have HFN := Lib.hid ((HM2.out.more ((Below.refl _ _).drew : Below V2.heap.size V2 V2.drew)).fin (c := c'))
        rw [← HCS2.out] at HFN
        have HTG := Lib.hid (show V2.drew.there g 0 cs2.toArray.size from by
          show World.there _ _ 0 cs2.length
          rw [hlen2]
          exact HM2.out.rm.there)
        clear hV2 hg7 hM hM2 hrg hth7 hne7 hK7 hne hlen2
        go_wp2_with fail
        refine wp_region_held_drew (S := fun W : World => W.rangeAt g7 0 cs2) (by kernel_rfl) HR7.out (fun hHeld => ?_)
        refine wpAnyH_take (i := 0) (v := ?_) rfl (by kernel_rfl) (by kernel_rfl) (by kernel_rfl) (fun _ _ _ h => h) (Or.inl ⟨by kernel_rfl, ?_⟩) hHeld ?_
        rotate_left
        focus (intro w hSw; (try dsimp only at hSw); go_simp; try with_reducible rfl)
        simp only [Act.put]
        refine wpAnyH_take (i := 1) rfl (by kernel_rfl) (by kernel_rfl) (by kernel_rfl) (fun _ _ _ h => h) (yieldsIf_load_mid (by kernel_rfl) 32 (.tmp 11) rfl g7 0 rfl cs2 _ (fun V hV => hV) Tryz.underlying32 rfl HSZ2.out) hHeld ?_
        simp only [Act.put]
        refine wpAnyH_ready (rs := [2]) (by kernel_rfl) (by simp) ?_
        refine AllReadyH.cons rfl (fun K hK => ?_) (AllReadyH.nil)
        go_simp
        refine hK.out _ _ (HR7.out) (fun hHeld => ?_)
        clear hK K
        try simp only [Act.put]
        refine wpAnyH_ready (rs := [3]) (by kernel_rfl) (by simp) ?_
        refine AllReadyH.cons rfl (fun K hK => ?_) (AllReadyH.nil)
        refine step_store_mid rfl 32 _ _ rfl g 0 cs2.toArray (by simp [Act.eval]) (by simp [Act.eval]) (HTG.out) (refpool_size2 HLEN2.out) HONE2.out ?_
        refine hK.out _ _ (World.rangeAt_setCells_apart (show V2.drew.rangeAt g7 0 cs2 from HR7.out) _ _ _ (.inl HNE.out)) (fun hHeld => ?_)
        clear hK K
        try simp only [Act.put]
        refine wpAnyH_done (by kernel_rfl) ?_ _
        have HR := Lib.hid HFN.out
        go_wp2_with fail
        go_roundw
        case rel => exact ⟨k + 1, b', stepP p y, rfl, by go_num, by omega, F', A', c', HR.out⟩
        case measure => simp [_root_.Go.RowKit.intOf]; omega
      · go_simp
        refine hK.out _ _ (HSS.out _ HBA.out.2.1 HBA.out.2.2) (fun hHeld => ?_)
        clear hK K
        try simp only [Act.put]
        refine wpAnyH_ready (rs := [6]) (by kernel_rfl) (by simp) ?_
        refine AllReadyH.cons rfl (fun K hK => ?_) (AllReadyH.nil)
        go_simp
        refine (HACT.out _ HBA.out.1).mono ?_
        rintro e V1 ⟨b', F', A', c', rfl, hM, hrg, hK7⟩
        obtain ⟨cs2, hcs2⟩ : ∃ cs2, cs2 = rc (stepP p y) A' mn c' := ⟨_, rfl⟩
        have hlen2 : cs2.length = 65 := by rw [hcs2, rc_len]
        have HLEN2 := Lib.hid hlen2
        have HONE2 := Lib.hid (hcs2 ▸ rc_one (stepP p y) A' mn c' : cs2.toArray.all (·.oneCell') = true)
        have HSZ2 := Lib.hid (show (Tryz.prog.info? 32).map (·.size) = some cs2.length from hcs2 ▸ refpool_size (stepP p y) A' mn c')
        rw [show rv (stepP p y) A' mn c' = .agg cs2.toArray by rw [hcs2]; rfl]
        rw [← HCS.out] at hrg
        have HCS2 := Lib.hid hcs2
        clear hcs2
        refine hK.out _ _ (HSS.out _ hM.below hrg) (fun hHeld => ?_)
        clear hK K
        try simp only [Act.put]
        refine wpAnyH_take (i := 7) (v := ?_) rfl (by kernel_rfl) (by kernel_rfl) (by kernel_rfl) (fun _ _ _ h => h) (Or.inl ⟨by kernel_rfl, ?_⟩) hHeld ?_
        rotate_left
        focus (intro w hSw; (try dsimp only at hSw); go_simp; try with_reducible rfl)
        simp only [Act.put]
        refine wpAnyH_take (i := 8) (v := ?_) rfl (by kernel_rfl) (by kernel_rfl) (by kernel_rfl) (fun _ _ _ h => h) (Or.inl ⟨by kernel_rfl, ?_⟩) hHeld ?_
        rotate_left
        focus (intro w hSw; (try dsimp only at hSw); go_simp; try with_reducible rfl)
        simp only [Act.put]
        refine wpAnyH_take (i := 9) (v := ?_) rfl (by kernel_rfl) (by kernel_rfl) (by kernel_rfl) (fun _ _ _ h => h) (Or.inl ⟨by kernel_rfl, ?_⟩) hHeld ?_
        rotate_left
        focus (intro w hSw; (try dsimp only at hSw); go_simp; try with_reducible rfl)
        simp only [Act.put]
        refine wpAnyH_take (i := 10) (v := ?_) rfl (by kernel_rfl) (by kernel_rfl) (by kernel_rfl) (fun _ _ _ h => h) (Or.inl ⟨by kernel_rfl, ?_⟩) hHeld ?_
        rotate_left
        focus (intro w hSw; (try dsimp only at hSw); go_simp; try with_reducible rfl)
        simp only [Act.put]
        obtain ⟨k7, k8, k9⟩ := hK7 wr.heap.size (Nat.le_refl _) (by simp)
        have hrm7 : Rm V1 wr.heap.size := (Rm.new wr).same (by rw [k7]; rfl)
        have hth7 : V1.there wr.heap.size 0 cs2.toArray.size := by
          show World.there _ _ 0 cs2.length
          rw [hlen2]
          exact hrm7.there
        have hne7 : wr.heap.size ≠ g := by have := HGW.out.1; omega
        have hM2 : MidP w g b' mn (stepP p y) F' A' (V1.setCells wr.heap.size 0 cs2.toArray.toList) := hM.store HGW.out.2.1 k8 k9 _ (.inl hne7)
        have hS2 := HSS.out _ hM2.below (World.rangeAt_setCells_apart hrg _ _ _ (.inl (by omega)))
        refine wpAnyH_ready (rs := [12]) (by kernel_rfl) (by simp) ?_
        refine AllReadyH.cons rfl (fun K hK => ?_) (AllReadyH.nil)
        go_simp
        refine hK.out _ _ (HSS.out _ hM.below hrg) (fun hHeld => ?_)
        clear hK K
        try simp only [Act.put]
        refine wpAnyH_ready (rs := [13]) (by kernel_rfl) (by simp) ?_
        refine AllReadyH.cons rfl (fun K hK => ?_) (AllReadyH.nil)
        refine step_store_mid rfl 32 _ _ rfl wr.heap.size 0 cs2.toArray (by simp [Act.eval]) (by simp [Act.eval]) (hth7) (refpool_size2 HLEN2.out) HONE2.out ?_
        refine hK.out _ _ (hS2) (fun hHeld => ?_)
        clear hK K
        try simp only [Act.put]
        refine wpAnyH_ready (rs := [14]) (by kernel_rfl) (by simp) ?_
        refine AllReadyH.cons rfl (fun K hK => ?_) (AllReadyH.nil)
        go_simp
        refine hK.out _ _ (hS2) (fun hHeld => ?_)
        clear hK K
        try simp only [Act.put]
        refine wpAnyH_done (by kernel_rfl) ?_ _
        clear hS2 hrm7 k7 k8 k9
        have HM2 := Lib.hid (show MidP w g b' mn (stepP p y) F' A' (V1.setCells wr.heap.size 0 cs2.toArray.toList) from hM2)
        have HR7 := Lib.hid (show World.rangeAt (V1.setCells wr.heap.size 0 cs2.toArray.toList) wr.heap.size 0 cs2 from World.rangeAt_setCells_same _ _ 0 _ hth7)
        obtain ⟨g7, hg7⟩ : ∃ g7, g7 = wr.heap.size := ⟨_, rfl⟩
        obtain ⟨V2, hV2⟩ : ∃ V2, V2 = (V1.setCells wr.heap.size 0 cs2.toArray.toList) := ⟨_, rfl⟩
        rw [← hV2] at HM2 HR7 ⊢
        rw [← hg7] at HR7 ⊢
        have hne : g7 ≠ g := by rw [hg7]; exact hne7
        have HNE := Lib.hid hne
        have HFN := Lib.hid ((HM2.out.more ((Below.refl _ _).drew : Below V2.heap.size V2 V2.drew)).fin (c := c'))
        rw [← HCS2.out] at HFN
        have HTG := Lib.hid (show V2.drew.there g 0 cs2.toArray.size from by
          show World.there _ _ 0 cs2.length
          rw [hlen2]
          exact HM2.out.rm.there)
        clear hV2 hg7 hM hM2 hrg hth7 hne7 hK7 hne hlen2
        go_wp2_with fail
        refine wp_region_held_drew (S := fun W : World => W.rangeAt g7 0 cs2) (by kernel_rfl) HR7.out (fun hHeld => ?_)
        refine wpAnyH_take (i := 0) (v := ?_) rfl (by kernel_rfl) (by kernel_rfl) (by kernel_rfl) (fun _ _ _ h => h) (Or.inl ⟨by kernel_rfl, ?_⟩) hHeld ?_
        rotate_left
        focus (intro w hSw; (try dsimp only at hSw); go_simp; try with_reducible rfl)
        simp only [Act.put]
        refine wpAnyH_take (i := 1) rfl (by kernel_rfl) (by kernel_rfl) (by kernel_rfl) (fun _ _ _ h => h) (yieldsIf_load_mid (by kernel_rfl) 32 (.tmp 11) rfl g7 0 rfl cs2 _ (fun V hV => hV) Tryz.underlying32 rfl HSZ2.out) hHeld ?_
        simp only [Act.put]
        refine wpAnyH_ready (rs := [2]) (by kernel_rfl) (by simp) ?_
        refine AllReadyH.cons rfl (fun K hK => ?_) (AllReadyH.nil)
        go_simp
        refine hK.out _ _ (HR7.out) (fun hHeld => ?_)
        clear hK K
        try simp only [Act.put]
        refine wpAnyH_ready (rs := [3]) (by kernel_rfl) (by simp) ?_
        refine AllReadyH.cons rfl (fun K hK => ?_) (AllReadyH.nil)
        refine step_store_mid rfl 32 _ _ rfl g 0 cs2.toArray (by simp [Act.eval]) (by simp [Act.eval]) (HTG.out) (refpool_size2 HLEN2.out) HONE2.out ?_
        refine hK.out _ _ (World.rangeAt_setCells_apart (show V2.drew.rangeAt g7 0 cs2 from HR7.out) _ _ _ (.inl HNE.out)) (fun hHeld => ?_)
        clear hK K
        try simp only [Act.put]
        refine wpAnyH_done (by kernel_rfl) ?_ _
        have HR := Lib.hid HFN.out
        go_wp2_with fail
        go_roundw
        case rel => exact ⟨k + 1, b', stepP p y, rfl, by go_num, by omega, F', A', c', HR.out⟩
        case measure => simp [_root_.Go.RowKit.intOf]; omega
    · obtain rfl : k = n0 := by omega
      have j1 : decide ((k : Int) < (k : Int)) = false := decide_eq_false (by omega)
      have hM := hP.mid
      have hrg := Lib.hid (fun V (hb : Below wr.heap.size wr V) => (show V.rangeAt g 0 cs from by rw [hcs]; exact (hP.more hb).rg))
      have HIS := Lib.hid (fun V (hb : Below wr.heap.size wr V) => (show Calls Tryz.prog 12 #[bx b, .agg cs.toArray] V (fun e w' => e = .returned (.bool true) ∧ Below V.heap.size V w') from by
        have hi := lawIs_any p A mn c b F V ((hP.more hb).mid.has) hM.len ((hP.more hb).mid.lies)
        rw [show rv p A mn c = .agg cs.toArray by rw [hcs]; rfl] at hi
        exact hi))
      have HY := Lib.hid (fun V (hb : Below wr.heap.size wr V) => there_yes ((hP.more hb).mid.has))
      have HB := Lib.hid hM.below
      clear hM hP hcs
      go_wp2_with (first
        | (go_at_call 10; refine (num_any _ _).mono ?_; rintro e _ ⟨rfl, rfl⟩)
        | refine wpList_load_midG (by kernel_rfl) 32 (.tmp 7) rfl g 0 rfl cs _ (hrg.out _ (Below.refl _ _)) Tryz.underlying32 rfl HSZ.out ?_)
      refine (HIS.out _ (Below.refl _ _)).mono ?_
      rintro e V1 ⟨rfl, hb1⟩
      go_wp2_with fail
      refine (Same_there _ _ true false _ rfl (fun U hU => HY.out _ (below0 hb1 hU)) (fun U _ => there_no (.inl rfl))).mono ?_
      rintro e V2 ⟨rfl, hb2⟩
      replace hb2 := below0 hb1 hb2
      go_wp2_with fail
      refine (Same_there _ _ false true _ rfl (fun U _ => there_no (.inl rfl)) (fun U hU => HY.out _ (below0 hb2 hU))).mono ?_
      rintro e V3 ⟨rfl, hb3⟩
      have hb4 := below0 HB.out (below0 hb2 hb3)
      clear hb1 hb2 hb3
      go_wp2_with fail
      refine (hwk.out _).mono ?_
      rintro e V4 ⟨rfl, hb5⟩
      have HF := Lib.hid (below0 hb4 hb5)
      clear hb4 hb5
      go_wp2_with fail
      go_ret
      exact ⟨rfl, HF.out⟩
theorem framePlays_any (many : Int) (l : List Ac) (A : Option Addr) (n c : Nat) (w : World) (h : Acs w l A) (hl : l.length = n) (hn : n ≤ 4611686018427387904) :
    Calls Tryz.prog 3 #[.int .i64 many, .slice A n c] w fun e w' => e = .returned (.bool true) ∧ Below w.heap.size w w' := by
  by_cases hq : fewB l 50 = false ∨ 12 < many
  · exact plays_far many l A n c w h hl hn hq
  · have hf : fewB l 50 = true := by
      cases hf : fewB l 50
      · exact absurd (.inl hf) hq
      · rfl
    by_cases h0 : many < 0
    · exact plays_less many l A n c w h hl hn hf h0
    · obtain ⟨m, rfl⟩ : ∃ m : Nat, many = m := ⟨many.toNat, by omega⟩
      exact plays_main m l A n c w h hl hn hf (by
        have : ¬ (12 < (m : Int)) := fun h => hq (.inr h)
        omega)
end Go.Proofs.YtmocdokikcbjeaaGreat
