import Derived.Test.YtglfcfepgjldfaaNC
namespace Go.Proofs.Ytglfcfepgjldfaa.Fe
open Go.RowKit Go.Shelf
attribute [local go_sem] Oper.semAt_some

/- WHAT IS ASKED FIRST; PICK, DRAW, TAKE, SEEK, AT, LEFT, COPY, SAME. -/
theorem ask_two {w : World} {b g p : Nat} {l : List UInt8} (h : FRep w b g l p) (B : List (Value × TypeId)) (s : Nat) (hs : s = w.heap.size + B.length) (cf : Nat) (caps : Array Value) (e2 : Int) (q : Bool) (hent : ∀ args V, (callFunc cf args).run Try.prog V = .ok (.enter cf args) V)
    (HQ : ∀ V, Boxes w (B.map Prod.fst) V → Calls Try.prog cf caps V fun e V' => e = .returned (.bool q) ∧ Below V.heap.size V V') :
    Calls Try.prog 29 #[.slice (some ⟨s, 0, none⟩) 2 2] (askW w B [⟨26, #[pb b], #[], 1, true⟩, ⟨cf, #[], caps, e2, true⟩]) fun e w' => e = .returned (.int .i64 (if q = true then 0 else e2)) ∧ Boxes w (B.map Prod.fst) w' := by
  have hE : askE [⟨26, #[pb b], #[], 1, true⟩, ⟨cf, #[], caps, e2, q⟩] = if q = true then 0 else e2 := by cases q <;> rfl
  refine (asked_box B [⟨26, #[pb b], #[], 1, true⟩, ⟨cf, #[], caps, e2, q⟩] 2 2 s hs rfl (by omega) fun k hk hall => ?_).mono fun e w' ⟨e1, e2, _⟩ => ⟨by rw [e1, hE], e2⟩
  rcases k with _ | _ | k
  · refine ⟨enters_of Try.func26 (by kernel_rfl) rfl, fun V hV => ?_⟩
    exact (there_at b _ _ _ V (h.below hV.below).c0).mono fun e w' ⟨e1, e2⟩ => ⟨e1, e2 ▸ Below.refl _ _⟩
  · refine ⟨hent, fun V hV => ?_⟩
    have := HQ V hV
    simpa using this
  · simp at hk
    omega
theorem ask_one {w : World} {b g p : Nat} {l : List UInt8} (h : FRep w b g l p) (B : List (Value × TypeId)) (s : Nat) (hs : s = w.heap.size + B.length) :
    Calls Try.prog 29 #[.slice (some ⟨s, 0, none⟩) 1 1] (askW w B [⟨26, #[pb b], #[], 1, true⟩]) fun e w' => e = .returned (.int .i64 0) ∧ Boxes w (B.map Prod.fst) w' := by
  refine (asked_box B [⟨26, #[pb b], #[], 1, true⟩] 1 1 s hs rfl (by omega) fun k hk hall => ?_).mono fun e w' ⟨e1, e2, _⟩ => ⟨e1, e2⟩
  rcases k with _ | k
  · refine ⟨enters_of Try.func26 (by kernel_rfl) rfl, fun V hV => ?_⟩
    exact (there_at b _ _ _ V (h.below hV.below).c0).mono fun e w' ⟨e1, e2⟩ => ⟨e1, e2 ▸ Below.refl _ _⟩
  · simp at hk
theorem ask_non {w : World} {v : Value} (h : NonF w v) (B : List (Value × TypeId)) (s : Nat) (hs : s = w.heap.size + B.length) (r : List Ask) (n : Nat) (hn : r.length + 1 = n) (hn2 : n ≤ 100) :
    Calls Try.prog 29 #[.slice (some ⟨s, 0, none⟩) n n] (askW w B (⟨26, #[v], #[], 1, true⟩ :: r)) fun e w' => e = .returned (.int .i64 1) ∧ Boxes w (B.map Prod.fst) w' := by
  refine (asked_box B (⟨26, #[v], #[], 1, false⟩ :: r) n n s hs (by rw [List.length_cons, hn]) hn2 fun k hk hall => ?_).mono fun e w' ⟨e1, e2, _⟩ => ⟨e1, e2⟩
  rcases k with _ | k
  · refine ⟨enters_of Try.func26 (by kernel_rfl) rfl, fun V hV => ?_⟩
    exact (there_non v V (h.below hV.below)).mono fun e w' ⟨e1, e2⟩ => ⟨e1, e2 ▸ Below.refl _ _⟩
  · exact absurd (hall 0 (by simp) (by omega)) (by simp)
theorem picked1_any (s : Nat) (z : Int) (w : World) (hc : w.cell? ⟨s, 0, none⟩ = some (.int .i64 z)) : Calls Try.prog 43 #[pb s] w fun e w' => e = .returned (.bool (decide (okN z))) ∧ Below w.heap.size w w' := by
  by_cases h1 : 1 ≤ z
  · have d1 : decide (1 ≤ z) = true := decide_eq_true h1
    obtain ⟨q, hq⟩ : ∃ q, q = decide (z ≤ 256) := ⟨_, rfl⟩
    have d2 : decide (okN z) = q := by
      rw [hq]
      by_cases h2 : z ≤ 256
      · rw [decide_eq_true h2, decide_eq_true (show okN z from ⟨h1, h2⟩)]
      · rw [decide_eq_false h2, decide_eq_false (fun h : okN z => h2 h.2)]
    have d3 := hq.symm
    rw [d2]
    clear hq d2 h1
    go_enter Try.func43, Try.ntmps43
    go_wp2_with fail
    go_ret
    exact ⟨rfl, Below.refl _ _⟩
  · have d1 : decide (1 ≤ z) = false := decide_eq_false h1
    have d2 : decide (okN z) = false := decide_eq_false (fun h => h1 h.1)
    rw [d2]
    clear d2 h1
    go_enter Try.func43, Try.ntmps43
    go_wp2_with fail
    go_ret
    exact ⟨rfl, Below.refl _ _⟩
theorem take1_any (s : Nat) (z : Int) (w : World) (hc : w.cell? ⟨s, 0, none⟩ = some (.int .i64 z)) : Calls Try.prog 30 #[pb s] w fun e w' => e = .returned (.bool (decide (0 ≤ z))) ∧ Below w.heap.size w w' := by
  obtain ⟨q, hq⟩ : ∃ q, q = decide (0 ≤ z) := ⟨_, rfl⟩
  have d1 := hq.symm
  rw [d1]
  clear hq
  go_enter Try.func30, Try.ntmps30
  go_wp2_with fail
  go_ret
  exact ⟨rfl, Below.refl _ _⟩
theorem has_any (A : Option Addr) (n c : Nat) (z : Int) (w : World) : Calls Try.prog 35 #[.slice A n c, .int .i64 z] w fun e w' => e = .returned (.bool (decide (0 ≤ z ∧ z ≤ (n : Int)))) ∧ w = w' := by
  by_cases h1 : 0 ≤ z
  · have d1 : decide (0 ≤ z) = true := decide_eq_true h1
    obtain ⟨q, hq⟩ : ∃ q, q = decide (z ≤ (n : Int)) := ⟨_, rfl⟩
    have d2 : decide (0 ≤ z ∧ z ≤ (n : Int)) = q := by
      rw [hq]
      by_cases h2 : z ≤ (n : Int)
      · rw [decide_eq_true h2, decide_eq_true ⟨h1, h2⟩]
      · rw [decide_eq_false h2, decide_eq_false (fun h => h2 h.2)]
    have d3 := hq.symm
    rw [d2]
    clear hq d2 h1
    go_enter Try.func35, Try.ntmps35
    go_wp2_with fail
    go_ret
    exact ⟨rfl, rfl⟩
  · have d1 : decide (0 ≤ z) = false := decide_eq_false h1
    have d2 : decide (0 ≤ z ∧ z ≤ (n : Int)) = false := decide_eq_false (fun h => h1 h.1)
    rw [d2]
    clear d2 h1
    go_enter Try.func35, Try.ntmps35
    go_wp2_with fail
    go_ret
    exact ⟨rfl, rfl⟩
set_option maxHeartbeats 1000000 in
theorem seek1_any {w : World} {b g p : Nat} {l : List UInt8} (h : FRep w b g l p) (gl gr : Nat) (r : Int) (hp : w.cell? ⟨gl, 0, none⟩ = some (pb b)) (hr : w.cell? ⟨gr, 0, none⟩ = some (.int .i64 r)) :
    Calls Try.prog 34 #[pb gl, pb gr] w fun e w' => e = .returned (.bool (decide (0 ≤ r ∧ r ≤ (l.length : Int)))) ∧ Below w.heap.size w w' := by
  have hh := Lib.hid (fun V => has_any (some ⟨g, 0, none⟩) l.length l.length r V)
  have hcl := h.c0
  have lp := lt_of_cell hp
  have lcl := lt_of_cell hcl
  have lr := lt_of_cell hr
  obtain ⟨q, hq⟩ : ∃ q, q = (decide (0 ≤ r ∧ r ≤ (l.length : Int))) := ⟨_, rfl⟩
  rw [← hq] at hh ⊢
  obtain ⟨n, hn⟩ : ∃ n, n = l.length := ⟨_, rfl⟩
  rw [← hn] at hh hcl
  have HSA := Lib.hid (fun W (hB : Below w.heap.size w W) => (show W.cell? ⟨gl, 0, none⟩ = some (pb b) ∧ W.cell? ⟨b, 0, none⟩ = some (.slice (some ⟨g, 0, none⟩) n n) ∧ W.cell? ⟨gr, 0, none⟩ = some (.int .i64 r) ∧ Below w.heap.size w W from
    ⟨(hB.cell (p := ⟨gl, 0, none⟩) lp).trans hp, (hB.cell (p := ⟨b, 0, none⟩) lcl).trans hcl, (hB.cell (p := ⟨gr, 0, none⟩) lr).trans hr, hB⟩))
  have hdr := Lib.hid (show Below w.heap.size w w.drew from (Below.refl _ _).drew)
  clear hq hn h hcl
  go_enter Try.func34, Try.ntmps34
  go_wp2_with fail
  go_region_held3 (fun W => W.cell? ⟨gl, 0, none⟩ = some (pb b) ∧ W.cell? ⟨b, 0, none⟩ = some (.slice (some ⟨g, 0, none⟩) n n) ∧ W.cell? ⟨gr, 0, none⟩ = some (.int .i64 r) ∧ Below w.heap.size w W)
    (first | exact HSA.out _ hdr.out | exact HSA.out _ (by assumption) | (go_split_ands; exact HSA.out _ (by assumption)))
    (first | (go_at_call 35; refine (hh.out _).mono ?_; rintro e w2 ⟨rfl, rfl⟩))
  go_wp2
  go_ret
  exact ⟨rfl, by go_split_ands; assumption⟩
/-- what is asked of a pick -/
theorem picked_any {w : World} {b g p : Nat} {l : List UInt8} (h : FRep w b g l p) (z : Int) : Calls Try.prog 38 #[pb b, .int .i64 z] w fun e w' => e = .returned (.int .i64 (if okN z then 0 else 2)) ∧ Below w.heap.size w w' := by
  have h1 := Lib.hid (ask_two h [(.int .i64 z, 3)] (w.heap.size + 1) rfl 43 #[pb w.heap.size] 2 (decide (okN z)) (enters_of Try.func43 (by kernel_rfl) rfl) (fun V hV => picked1_any _ z V (hV.cell 0 _ rfl)))
  have hq : (if decide (okN z) = true then (0 : Int) else 2) = if okN z then 0 else 2 := by
    by_cases hz : okN z
    · rw [if_pos hz, if_pos (decide_eq_true hz)]
    · rw [if_neg hz, if_neg (by simp [hz])]
  rw [hq] at h1
  obtain ⟨q, hq2⟩ : ∃ q : Int, q = if okN z then 0 else 2 := ⟨_, rfl⟩
  rw [← hq2] at h1 ⊢
  clear hq hq2 h
  go_enter Try.func38, Try.ntmps38
  go_wp2_with fail
  refine h1.out.mono ?_
  rintro e w1 ⟨rfl, hB⟩
  go_wp2_with fail
  go_ret
  exact ⟨rfl, hB.below⟩
theorem picked_non {w : World} {v : Value} (h : NonF w v) (z : Int) : Calls Try.prog 38 #[v, .int .i64 z] w fun e w' => e = .returned (.int .i64 1) ∧ Below w.heap.size w w' := by
  have h1 := Lib.hid (ask_non h [(.int .i64 z, 3)] (w.heap.size + 1) rfl [⟨43, #[], #[pb w.heap.size], 2, true⟩] 2 rfl (by omega))
  obtain ⟨pv, rfl⟩ := h.ptr
  clear h
  go_enter Try.func38, Try.ntmps38
  go_wp2_with fail
  refine h1.out.mono ?_
  rintro e w1 ⟨rfl, hB⟩
  go_wp2_with fail
  go_ret
  exact ⟨rfl, hB.below⟩
theorem le_first (l : List UInt8) (p : Nat) : le ((l.drop p).take 1) = (l.getD p 0).toNat := by
  rcases Nat.lt_or_ge p l.length with h | h
  · rw [List.drop_eq_getElem_cons h, List.take_succ_cons, List.take_zero, le, le, List.getD_eq_getElem?_getD, List.getElem?_eq_getElem h]
    rfl
  · rw [List.drop_eq_nil_of_le h, List.getD_eq_getElem?_getD, List.getElem?_eq_none h]
    rfl
/-- bytes that are handed on -/
theorem part_sees {w : World} {b g p q : Nat} {l : List UInt8} (h : FRep w b g l q) (m : Nat) : Sees w w.heap.size (adr g p l.length) (byt ((l.drop p).take m)) := by
  have := (adr_sees (p := p) h.row).take m
  rw [byt_take] at this
  exact this
theorem part_len (l : List UInt8) (p m : Nat) : ((l.drop p).take m).length = min m (l.length - p) := by rw [List.length_take, List.length_drop]
set_option maxHeartbeats 1000000 in
theorem pick1_any {w : World} (A : Option Addr) (xs : List UInt8) (n c : Nat) (hA : Sees w w.heap.size A (byt xs)) (hl : xs.length = n) (h4 : n ≤ 4) (s m : Nat) (hm : 1 ≤ m) (hm2 : m ≤ 256) (hc : w.cell? ⟨s, 0, none⟩ = some (.int .i64 (m : Int))) :
    Calls Try.prog 45 #[.slice A n c, pb s] w fun e w' => ∃ x, e = .returned (.int .i64 x) ∧ x = ((le xs % m : Nat) : Int) ∧ Below w.heap.size w w' := by
  have lc := lt_of_cell hc
  have h1 := Lib.hid (fun V (hb : Below w.heap.size w V) => number_any A xs n c V ((hA.below hb).more hb.size) hl h4)
  have hle := le_small (l := xs) (by omega)
  obtain ⟨y, hy⟩ : ∃ y, y = le xs := ⟨_, rfl⟩
  rw [← hy] at h1 hle ⊢
  have e1 : IntKind.i64.wrap (y : Int) = (y : Int) := wrapI _ (by omega) (by omega)
  have e2 : ((y : Int).tmod (m : Int)) = ((y % m : Nat) : Int) := by rw [Int.tmod_eq_emod_of_nonneg (by omega)]; rfl

  have hm1 : ¬ (m = 0) := by omega
  have HSA := Lib.hid (fun W (hB : Below w.heap.size w W) => (show W.cell? ⟨s, 0, none⟩ = some (.int .i64 (m : Int)) ∧ Below w.heap.size w W from
    ⟨(hB.cell (p := ⟨s, 0, none⟩) lc).trans hc, hB⟩))
  have hdr := Lib.hid (show Below w.heap.size w w.drew from (Below.refl _ _).drew)
  have e3 := Lib.hid (show y % m < 256 from Nat.lt_of_lt_of_le (Nat.mod_lt _ (by omega)) hm2)
  clear hy hA
  go_enter Try.func45, Try.ntmps45
  go_wp2_with fail
  refine wp_region_noPanic ?_
  refine wp_region_held_drew (S := fun W => W.cell? ⟨s, 0, none⟩ = some (.int .i64 (m : Int)) ∧ Below w.heap.size w W) (by kernel_rfl) (HSA.out _ hdr.out) (fun hHeld => ?_)
  refine wpAnyH_take (i := 0) (v := ?_) rfl (by kernel_rfl) (by kernel_rfl) (by kernel_rfl) (fun _ _ _ h => h) (Or.inl ⟨by kernel_rfl, ?_⟩) hHeld ?_
  rotate_left
  focus (intro w hSw; (try dsimp only at hSw); go_simp; try with_reducible rfl)
  simp only [Act.put]
  refine wpAnyH_take (i := 3) (v := ?_) rfl (by kernel_rfl) (by kernel_rfl) (by kernel_rfl) (fun _ _ _ h => h) (Or.inl ⟨by kernel_rfl, ?_⟩) hHeld ?_
  rotate_left
  focus (intro w hSw; (try dsimp only at hSw); go_simp; try with_reducible rfl)
  simp only [Act.put]
  refine wpAnyH_ready (rs := [1]) (by kernel_rfl) (by simp) ?_
  refine AllReadyH.cons rfl (fun K hK => ?_) (AllReadyH.nil)
  go_simp
  refine (h1.out _ hdr.out).mono ?_
  rintro e w2 ⟨rfl, rfl⟩
  refine hK.out _ _ (HSA.out _ hdr.out) (fun hHeld => ?_)
  clear hK K
  try simp only [Act.put]
  refine wpAnyH_take (i := 2) (v := ?_) rfl (by kernel_rfl) (by kernel_rfl) (by kernel_rfl) (fun _ _ _ h => h) (Or.inl ⟨by kernel_rfl, ?_⟩) hHeld ?_
  rotate_left
  focus (intro w hSw; (try dsimp only at hSw); go_simp; try with_reducible rfl)
  simp only [Act.put]
  refine wpAnyH_ready (rs := [4]) (by kernel_rfl) (by simp) ?_
  refine AllReadyH.cons rfl (fun K hK => ?_) (AllReadyH.nil)
  go_simp
  refine hK.out _ _ (HSA.out _ hdr.out) (fun hHeld => ?_)
  clear hK K
  try simp only [Act.put]
  refine wpAnyH_ready (rs := [5]) (by kernel_rfl) (by simp) ?_
  refine AllReadyH.cons rfl (fun K hK => ?_) (AllReadyH.nil)
  go_simp
  refine hK.out _ _ (HSA.out _ hdr.out) (fun hHeld => ?_)
  clear hK K
  try simp only [Act.put]
  refine wpAnyH_done (by kernel_rfl) (NoPanic.normal ?_) _
  go_wp2
  go_ret
  exact ⟨_, rfl, rfl, hdr.out⟩
theorem fkeep_box {w : World} {b s : Nat} {t : TypeId} {x : Value} {V : World} (hb : b < w.heap.size) (hs : s = w.heap.size) (hk : Keep (· = b) (w.alloc (.cells #[x] t)) V) : V.cell? ⟨s, 0, none⟩ = some x := by
  subst hs
  exact (hk.cell (p := ⟨w.heap.size, 0, none⟩) (by simp) (fun e => by simp only at e; omega)).trans (cell_alloc_new _ _ _ _)
theorem fkeep_alloc {w : World} {b : Nat} {o : Obj} {V : World} (hk : Keep (· = b) (w.alloc o) V) : Keep (· = b) w V := (Keep.of_below (below1 w o)).trans hk (fun _ _ h => h)
theorem fkeep_below {w w' : World} {F : Nat → Prop} {V : World} (hk : Keep F w w') (hb : Below w'.heap.size w' V) : Keep F w V := keep_low hk (hb.mono hk.size)
theorem pick_any {w : World} {b g p : Nat} {l : List UInt8} (h : FRep w b g l p) (n : Nat) (h1 : 1 ≤ n) (h2 : n ≤ 256) : Calls Try.prog 39 #[pb b, .int .i64 (n : Int)] w fun e w' => e = .returned (.int .i64 (pickN l p n : Int)) ∧ FRep w' b g l (pickP l p) ∧ Keep (· = b) w w' := by
  have hT := Lib.hid (taken_int (h.below (below1 w (.cells #[.int .i64 (n : Int)] 3))) 1 (by omega) 45 #[pb w.heap.size] (enters_of Try.func45 (by kernel_rfl) rfl) (fun v V' => v = .int .i64 (pickN l p n : Int) ∧ FRep V' b g l (pickP l p) ∧ Keep (· = b) w V')
    (fun V hV hk => (pick1_any (adr g p l.length) ((l.drop p).take 1) (min 1 (l.length - p)) (l.length - p) (part_sees hV 1) (part_len l p 1) (by omega) w.heap.size n h1 h2 (fkeep_box h.obj.lt rfl hk)).mono fun e V' ⟨x, e1, e2, e3⟩ =>
      ⟨x, e1, by rw [e2, le_first]; rfl, hV.below e3, fkeep_below (fkeep_alloc hk) e3⟩))
  clear h
  go_enter Try.func39, Try.ntmps39
  go_wp2_with fail
  refine hT.out.mono ?_
  rintro e w1 ⟨v, rfl, rfl, h3, h4⟩
  have hfin := Lib.hid (And.intro h3 h4)
  clear h3 h4 hT
  go_wp2_with fail
  go_ret
  exact ⟨rfl, hfin.out⟩
def HasF : HasT := fun w v l p F => ∃ b g, v = pb b ∧ FRep w b g l p ∧ F = fun k => k = b ∨ k = g
theorem nx_of {w w' : World} {b g q : Nat} {l : List UInt8} (h : FRep w' b g l q) (hk : Keep (· = b) w w') : Nx HasF w (pb b) l q (fun k => k = b ∨ k = g) w' := ⟨⟨b, g, rfl, h, rfl⟩, hk.mono fun _ _ e => .inl e⟩
theorem nx_low {w w' : World} {b g p : Nat} {l : List UInt8} (h : FRep w b g l p) (hb : Below w.heap.size w w') : Nx HasF w (pb b) l p (fun k => k = b ∨ k = g) w' := nx_of (h.below hb) (Keep.of_below hb)
theorem fpick {w : World} {v : Value} {l : List UInt8} {p : Nat} {F : Nat → Prop} (n : Nat) (h : HasF w v l p F) (h1 : 1 ≤ n) (h2 : n ≤ 256) : Calls Try.prog 20 #[v, .int .i64 (n : Int)] w fun e w' => e = .returned (.tuple #[.int .i64 (pickN l p n : Int), .int .i64 0]) ∧ Nx HasF w v l (pickP l p) F w' := by
  obtain ⟨b, g, rfl, h, rfl⟩ := h
  have hA := picked_any h (n : Int)
  rw [if_pos (show okN (n : Int) from ⟨by omega, by omega⟩)] at hA
  have hA := Lib.hid hA
  have hP := Lib.hid (fun w1 (hb : Below w.heap.size w w1) => (show Calls Try.prog 39 #[pb b, .int .i64 (n : Int)] w1 (fun e w' => e = .returned (.int .i64 (pickN l p n : Int)) ∧ Nx HasF w (pb b) l (pickP l p) (fun k => k = b ∨ k = g) w') from (pick_any (h.below hb) n h1 h2).mono fun e w' ⟨e1, e2, e3⟩ => ⟨e1, nx_of e2 ((Keep.of_below hb).trans e3 fun _ _ h => h)⟩))
  obtain ⟨x, hx⟩ : ∃ x, x = pickN l p n := ⟨_, rfl⟩
  rw [← hx] at hP ⊢
  clear h h1 h2 hx
  go_enter Try.func20, Try.ntmps20
  go_wp2_with fail
  refine wp_scope_jump 1 fun R hR hJm => ?_
  go_wp2_with fail
  refine hA.out.mono ?_
  rintro e w1 ⟨rfl, hb⟩
  have hPP := Lib.hid (hP.out w1 hb)
  clear hb hP hA
  go_wp2_with fail
  refine hPP.out.mono ?_
  rintro e w2 ⟨rfl, hn⟩
  have hfin := Lib.hid hn
  clear hn hPP
  go_wp2_with fail
  refine hR.out _ _ _ _ (by simp) ?_
  go_ret2
  exact ⟨rfl, hfin.out⟩
theorem fpick_no {w : World} {v : Value} {l : List UInt8} {p : Nat} {F : Nat → Prop} (z : Int) (h : HasF w v l p F) (hz : ¬ okN z) : Calls Try.prog 20 #[v, .int .i64 z] w fun e w' => e = .returned (.tuple #[.int .i64 0, .int .i64 2]) ∧ Nx HasF w v l p F w' := by
  obtain ⟨b, g, rfl, h, rfl⟩ := h
  have hA := picked_any h z
  rw [if_neg hz] at hA
  have hA := Lib.hid hA
  have hN := Lib.hid (fun w' hb => nx_low (w' := w') h hb)
  clear h hz
  go_enter Try.func20, Try.ntmps20
  go_wp2_with fail
  refine wp_scope_jump 1 fun R hR hJm => ?_
  go_wp2_with fail
  refine hA.out.mono ?_
  rintro e w1 ⟨rfl, hb⟩
  have hfin := Lib.hid (hN.out w1 hb)
  clear hb hN hA
  go_wp2_with fail
  refine wp_goto (hJm.out _ _ _ _ _ rfl ?_)
  go_wp2_with fail
  refine hR.out _ _ _ _ (by simp) ?_
  go_ret2
  exact ⟨rfl, hfin.out⟩
theorem pick_non {w : World} {v : Value} (h : NonF w v) (z : Int) : Calls Try.prog 20 #[v, .int .i64 z] w fun e w' => e = .returned (.tuple #[.int .i64 0, .int .i64 1]) ∧ Below w.heap.size w w' := by
  have hA := Lib.hid (picked_non h z)
  obtain ⟨pv, rfl⟩ := h.ptr
  clear h
  go_enter Try.func20, Try.ntmps20
  go_wp2_with fail
  refine wp_scope_jump 1 fun R hR hJm => ?_
  go_wp2_with fail
  refine hA.out.mono ?_
  rintro e w1 ⟨rfl, hb⟩
  have hfin := Lib.hid hb
  clear hb hA
  go_wp2_with fail
  refine wp_goto (hJm.out _ _ _ _ _ rfl ?_)
  go_wp2_with fail
  refine hR.out _ _ _ _ (by simp) ?_
  go_ret2
  exact ⟨rfl, hfin.out⟩
end Go.Proofs.Ytglfcfepgjldfaa.Fe
