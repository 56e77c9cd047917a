import Derived.Test.YtpnlddjobphjnaaDoorFirst
import Derived.Test.YtpnlddjobphjnaaDoorSum
namespace Go.Proofs.YtpnlddjobphjnaaDoor
open Go.RowKit

/-- what is told of a product -/
def bdN (P : Nat) : Nat := if P ≤ 262144 then P else 0
def bdE (P : Nat) : Int := if P ≤ 262144 then 0 else 2

set_option maxHeartbeats 400000 in
theorem bounded_any (l : List Nat) (n c : Nat) (A : Option Addr) (w : World) (hn : l.length = n) (hm : n ≤ 900) (hl : Fits l) (hr : Sees w w.heap.size A (nums l)) :
    Calls Tryd.prog 31 #[.slice A n c] w fun e w' => e = .returned (.tuple #[.int .u64 (bdN (prodL l) : Int), .int .i64 (bdE (prodL l))]) ∧ Below w.heap.size w w' := by
  have hc := Lib.hid (mul_any l n c A w hn hm hl hr)
  obtain ⟨P, hP⟩ : ∃ P, P = prodL l := ⟨_, rfl⟩
  rw [← hP] at hc ⊢
  clear hP hl hr hm hn
  by_cases h1 : P < big
  · rw [tellN, tellE, if_pos h1, if_pos h1] at hc
    by_cases h2 : P ≤ 262144
    · have e2 : decide (262144 < P) = false := decide_eq_false (by omega)
      have e3 : decide (262144 < (P : Int)) = false := decide_eq_false (by omega)
      rw [bdN, bdE, if_pos h2, if_pos h2]
      clear h1 h2
      go_enter Tryd.func31, Tryd.ntmps31
      go_wp2_with fail
      refine wp_scope_jump 1 fun R hR hG => ?_
      go_wp2_with fail
      refine (hc.out).mono ?_
      rintro e w1 ⟨rfl, hb1⟩
      go_wp2
      refine hR.out _ _ _ _ (by simp) ?_
      go_ret2
      exact ⟨rfl, hb1⟩
    · have e2 : decide (262144 < P) = true := decide_eq_true (by omega)
      have e3 : decide (262144 < (P : Int)) = true := decide_eq_true (by omega)
      rw [bdN, bdE, if_neg h2, if_neg h2]
      clear h1 h2
      go_enter Tryd.func31, Tryd.ntmps31
      go_wp2_with fail
      refine wp_scope_jump 1 fun R hR hG => ?_
      go_wp2_with fail
      refine (hc.out).mono ?_
      rintro e w1 ⟨rfl, hb1⟩
      go_wp2
      refine wp_goto (hG.out _ _ _ _ _ rfl ?_)
      go_wp2
      refine hR.out _ _ _ _ (by simp) ?_
      go_ret2
      exact ⟨rfl, hb1⟩
  · have h2 : ¬ P ≤ 262144 := by rw [big] at h1; omega
    rw [tellN, tellE, if_neg h1, if_neg h1] at hc
    rw [bdN, bdE, if_neg h2, if_neg h2]
    clear h1 h2
    go_enter Tryd.func31, Tryd.ntmps31
    go_wp2_with fail
    refine wp_scope_jump 1 fun R hR hG => ?_
    go_wp2_with fail
    refine (hc.out).mono ?_
    rintro e w1 ⟨rfl, hb1⟩
    go_wp2
    refine wp_goto (hG.out _ _ _ _ _ rfl ?_)
    go_wp2
    refine hR.out _ _ _ _ (by simp) ?_
    go_ret2
    exact ⟨rfl, hb1⟩

/-- may an address be asked to be one of a multiple? -/
def mayB (m : Nat) : Bool := isPow m && decide (m ≤ 256)
theorem mayBe_any (m : Nat) (w : World) (hm : m < 18446744073709551616) : Calls Tryd.prog 32 #[.int .u64 (m : Int)] w fun e w' => e = .returned (.bool (mayB m)) ∧ w = w' := by
  have hp := Lib.hid (fun w => power_any m w hm)
  unfold mayB
  by_cases h2 : m ≤ 256
  · have e2 : decide (m ≤ 256) = true := decide_eq_true h2
    have e3 : decide ((m : Int) ≤ 256) = true := decide_eq_true (by omega)
    rw [e2]
    clear h2 hm
    obtain ⟨b, hb⟩ : ∃ b, b = isPow m := ⟨_, rfl⟩
    rw [← hb] at hp ⊢
    clear hb
    cases b
    all_goals
      go_enter Tryd.func32, Tryd.ntmps32
      go_wp2_with fail
      refine (hp.out _).mono ?_
      rintro e w1 ⟨rfl, rfl⟩
      go_wp2
      go_ret
      exact ⟨rfl, rfl⟩
  · have e2 : decide (m ≤ 256) = false := decide_eq_false h2
    have e3 : decide ((m : Int) ≤ 256) = false := decide_eq_false (by omega)
    rw [e2]
    clear h2 hm
    obtain ⟨b, hb⟩ : ∃ b, b = isPow m := ⟨_, rfl⟩
    rw [← hb] at hp ⊢
    clear hb
    cases b
    all_goals
      go_enter Tryd.func32, Tryd.ntmps32
      go_wp2_with fail
      refine (hp.out _).mono ?_
      rintro e w1 ⟨rfl, rfl⟩
      go_wp2
      go_ret
      exact ⟨rfl, rfl⟩

/-- a need -/
abbrev nv (b : Bool) (c p h : Int) : Value := .agg #[.bool b, .int .i64 c, .int .i64 p, .int .i64 h]
/-- a block that holds a need -/
def Nd (V : World) (b : Nat) (x0 x1 x2 x3 : Value) : Prop := V.heap[b]? = some (.cells #[x0, x1, x2, x3] 33 (0, 0))
theorem Nd.facts {V : World} {b : Nat} {x0 x1 x2 x3 : Value} (h : Nd V b x0 x1 x2 x3) : b < V.heap.size ∧ V.cell? ⟨b, 0, none⟩ = some x0 ∧ V.cell? ⟨b, 1, none⟩ = some x1 ∧ V.cell? ⟨b, 2, none⟩ = some x2 ∧ V.cell? ⟨b, 3, none⟩ = some x3 ∧
    V.frozen? ⟨b, 0, none⟩ = false ∧ V.frozen? ⟨b, 1, none⟩ = false ∧ V.frozen? ⟨b, 2, none⟩ = false ∧ V.frozen? ⟨b, 3, none⟩ = false := by
  have h' : V.heap[b]? = some (.cells #[x0, x1, x2, x3] 33 (0, 0)) := h
  refine ⟨(Array.getElem?_eq_some_iff.1 h').1, ?_, ?_, ?_, ?_, ?_, ?_, ?_, ?_⟩ <;> simp [World.cell?, World.frozen?, h']
theorem Nd.new (V : World) (x0 x1 x2 x3 : Value) : Nd (V.alloc (.cells #[x0, x1, x2, x3] 33)) V.heap.size x0 x1 x2 x3 := World.alloc_heap_new V _
theorem Nd.same {V V' : World} {b : Nat} {x0 x1 x2 x3 : Value} (h : Nd V b x0 x1 x2 x3) (hb : V'.heap[b]? = V.heap[b]?) : Nd V' b x0 x1 x2 x3 := hb.trans h
theorem Nd.below {V V' : World} {b : Nat} {x0 x1 x2 x3 : Value} (h : Nd V b x0 x1 x2 x3) (hb : Below V.heap.size V V') : Nd V' b x0 x1 x2 x3 := (hb.block _ h.facts.1).trans h
theorem set4 {w0 V : World} {b : Nat} {y0 y1 y2 y3 : Value} (h : Below w0.heap.size w0 V) (hb : w0.heap.size ≤ b) : Below w0.heap.size w0 ((((V.setCell ⟨b, 0, none⟩ y0).setCell ⟨b, 1, none⟩ y1).setCell ⟨b, 2, none⟩ y2).setCell ⟨b, 3, none⟩ y3) :=
  (((h.setCell hb _).setCell hb _).setCell hb _).setCell hb _
/-- how many pages hold so many bytes -/
def pg (n : Nat) : Nat := (n + 255) / 256
theorem many_pg (n : Nat) : manyN 256 n = pg n := by unfold manyN pg; split <;> omega
theorem up_pg (n : Nat) (h : n ≤ 262144) : upN 256 n = 256 * pg n ∧ upE 256 n = 0 := by
  unfold upN upE pg
  by_cases h0 : n % 256 = 0
  · simp only [h0, if_true, and_true]; omega
  · have : n - n % 256 + 256 < 18446744073709551616 := by omega
    simp only [h0, this, if_true, if_false, and_true]; omega
theorem pg_le {n : Nat} (h : n ≤ 262144) : pg n ≤ 1024 := by unfold pg; omega
theorem convN (a : Nat) (h : a ≤ 9223372036854775807) : IntKind.i64.wrap (a : Int) = (a : Int) := wrapI _ (by omega) (by omega)

set_option maxHeartbeats 400000 in
theorem pagesOf_any (n : Nat) (w : World) (h : n ≤ 262144) : Calls Tryd.prog 44 #[.int .u64 (n : Int)] w fun e w' => e = .returned (nv false 0 (pg n) (256 * pg n : Nat)) ∧ Below w.heap.size w w' := by
  have h1 := Lib.hid (fun w => many_ok n 256 w (by omega) (by omega))
  have h2 := Lib.hid (fun w => up_ok n 256 w (by omega) (by omega) (by omega))
  have hpl := pg_le h
  rw [many_pg] at h1
  rw [(up_pg n h).1, (up_pg n h).2] at h2
  have c1 := convN (pg n) (by omega)
  have c2 := convN (256 * pg n) (by omega)
  obtain ⟨p, hp⟩ : ∃ p, p = pg n := ⟨_, rfl⟩
  obtain ⟨q, hq⟩ : ∃ q, q = 256 * pg n := ⟨_, rfl⟩
  rw [← hp] at h1 c1 ⊢
  rw [← hq] at h2 c2
  rw [show 256 * p = q by rw [hp, hq]]
  clear hp hq hpl h
  go_enter Tryd.func44, Tryd.ntmps44
  go_wp2_with fail
  refine (h1.out _).mono ?_
  rintro e w1 ⟨rfl, hb1⟩
  have hB1 := (below1 w (.cells #[.bool false, .int .i64 0, .int .i64 0, .int .i64 0] 33)).trans (hb1.mono (by simp))
  have hn1 := (Nd.new w (.bool false) (.int .i64 0) (.int .i64 0) (.int .i64 0)).below hb1
  go_wp2_with fail
  refine (h2.out _).mono ?_
  rintro e w2 ⟨rfl, hb2⟩
  have hB2 := hB1.trans (hb2.mono hB1.size)
  obtain ⟨_, k0, k1, k2, k3, f0, f1, f2, f3⟩ := (hn1.below hb2).facts
  go_wp2
  exact bodyPost_ret (v := nv false 0 p q) (by simp [results, Tryd.results44, go_sem, k0, k1, k2, k3]) rfl ⟨rfl, set4 hB2 (Nat.le_refl _)⟩

/-- is it a slot that is needed? -/
def ndB (n m : Nat) : Bool := clsB (n : Int) && decide (m ≤ 16)
def ndC (n m : Nat) : Int := if ndB n m then clsN n else 0
def ndP (n m : Nat) : Int := if ndB n m then 0 else pg n
def ndH (n m : Nat) : Int := if ndB n m then payN n else (256 * pg n : Nat)

set_option maxHeartbeats 1000000 in
theorem needOf_any (n m : Nat) (w : World) (ht : Tab w) (h : n ≤ 262144) : Calls Tryd.prog 33 #[.int .u64 (n : Int), .int .u64 (m : Int)] w fun e w' => e = .returned (nv (ndB n m) (ndC n m) (ndP n m) (ndH n m)) ∧ Below w.heap.size w w' := by
  have hl := Lib.hid (fun w ht => least_any (n : Int) w ht)
  have hp := Lib.hid (fun w => pagesOf_any n w h)
  have hw := convN n (by omega)
  have HT := Lib.hid ht
  clear ht h
  unfold ndC ndP ndH
  have hbb : ndB n m = (clsB (n : Int) && decide (m ≤ 16)) := rfl
  obtain ⟨z, hz⟩ : ∃ z, z = decide (m ≤ 16) := ⟨_, rfl⟩
  have hz2 : decide ((m : Int) ≤ 16) = z := by rw [hz]; congr 1; exact propext (by omega)
  have hz1 : decide (m ≤ 16) = z := hz.symm
  rw [hz1] at hbb
  rw [hbb]
  clear hz hbb
  obtain ⟨c, hc⟩ : ∃ c, c = clsB (n : Int) := ⟨_, rfl⟩
  obtain ⟨x, hx⟩ : ∃ x, x = clsN (n : Int) := ⟨_, rfl⟩
  obtain ⟨y, hy⟩ : ∃ y, y = payN (n : Int) := ⟨_, rfl⟩
  rw [← hc, ← hx, ← hy] at hl ⊢
  clear hc hx hy
  obtain ⟨p, hp1⟩ : ∃ p, p = pg n := ⟨_, rfl⟩
  obtain ⟨q, hq⟩ : ∃ q, q = 256 * pg n := ⟨_, rfl⟩
  rw [← hq, ← hp1] at hp ⊢
  clear hp1 hq
  cases c
  · go_enter Tryd.func33, Tryd.ntmps33
    go_wp2_with fail
    refine (hl.out _ (HT.out.alloc _)).mono ?_
    rintro e w1 ⟨rfl, hb1⟩
    have hB1 := (below1 w (.cells #[.bool false, .int .i64 0, .int .i64 0, .int .i64 0] 33)).trans (hb1.mono (by simp))
    have hn1 := (Nd.new w (.bool false) (.int .i64 0) (.int .i64 0) (.int .i64 0)).below hb1
    have hB2 := hB1.alloc hB1.size (.cells #[.int .i64 x, .int .i64 y] 50)
    have hn2 := hn1.below (below1 w1 (.cells #[.int .i64 x, .int .i64 y] 50))
    clear hb1 hB1 hn1
    go_wp2_with fail
    refine (hp.out _).mono ?_
    rintro e w2 ⟨rfl, hb2⟩
    obtain ⟨_, k0, k1, k2, k3, f0, f1, f2, f3⟩ := (hn2.below hb2).facts
    have hB3 := hB2.trans (hb2.mono hB2.size)
    clear hb2 hB2 hn2
    go_wp2
    exact bodyPost_ret (v := nv false 0 p q) (by simp [results, Tryd.results33, go_sem, k0, k1, k2, k3]) rfl ⟨rfl, set4 hB3 (Nat.le_refl _)⟩
  · cases z
    · go_enter Tryd.func33, Tryd.ntmps33
      go_wp2_with fail
      refine (hl.out _ (HT.out.alloc _)).mono ?_
      rintro e w1 ⟨rfl, hb1⟩
      have hB1 := (below1 w (.cells #[.bool false, .int .i64 0, .int .i64 0, .int .i64 0] 33)).trans (hb1.mono (by simp))
      have hn1 := (Nd.new w (.bool false) (.int .i64 0) (.int .i64 0) (.int .i64 0)).below hb1
      have hB2 := hB1.alloc hB1.size (.cells #[.int .i64 x, .int .i64 y] 50)
      have hn2 := hn1.below (below1 w1 (.cells #[.int .i64 x, .int .i64 y] 50))
      clear hb1 hB1 hn1
      go_wp2_with fail
      refine (hp.out _).mono ?_
      rintro e w2 ⟨rfl, hb2⟩
      obtain ⟨_, k0, k1, k2, k3, f0, f1, f2, f3⟩ := (hn2.below hb2).facts
      have hB3 := hB2.trans (hb2.mono hB2.size)
      clear hb2 hB2 hn2
      go_wp2
      exact bodyPost_ret (v := nv false 0 p q) (by simp [results, Tryd.results33, go_sem, k0, k1, k2, k3]) rfl ⟨rfl, set4 hB3 (Nat.le_refl _)⟩
    · go_enter Tryd.func33, Tryd.ntmps33
      go_wp2_with fail
      refine (hl.out _ (HT.out.alloc _)).mono ?_
      rintro e w1 ⟨rfl, hb1⟩
      have hB1 := (below1 w (.cells #[.bool false, .int .i64 0, .int .i64 0, .int .i64 0] 33)).trans (hb1.mono (by simp))
      have hn1 := (Nd.new w (.bool false) (.int .i64 0) (.int .i64 0) (.int .i64 0)).below hb1
      obtain ⟨kl, k0, k1, k2, k3, f0, f1, f2, f3⟩ := hn1.facts
      clear hb1 hn1
      have hb1z := hB1.size
      go_wp2
      exact bodyPost_ret (v := nv true x 0 y) (by simp [results, Tryd.results33, go_sem, k0, k1, k2, k3, kl]) rfl ⟨rfl, (set4 hB1 (Nat.le_refl _)).alloc (by simp [World.setCell]; omega) _⟩

/-- may it be asked? -/
def okB (s m : Nat) : Bool := decide (s ≤ 262144) && mayB m
/-- what of a size counts -/
def sz (s : Nat) : Nat := max s 1
def ofB (s m : Nat) : Bool := okB s m && ndB (sz s) m
def ofC (s m : Nat) : Int := if okB s m then ndC (sz s) m else 0
def ofP (s m : Nat) : Int := if okB s m then ndP (sz s) m else 0
def ofH (s m : Nat) : Int := if okB s m then ndH (sz s) m else 0
def ofE (s m : Nat) : Int := if okB s m then 0 else 2

theorem sees_nums (w : World) (l : List Nat) (t : TypeId) {g : Nat} (hg : w.heap.size = g) : Sees (w.alloc (.cells (nums l).toArray t)) (g + 1) (some ⟨g, 0, none⟩) (nums l) := fun _ =>
  ⟨_, rfl, Nat.lt_succ_self _, fun j u hu => by subst hg; rw [add_plain, Nat.zero_add, cell_alloc_new]; simpa using hu⟩
theorem bounded_lit (l : List Nat) (cs : Array Value) (t : TypeId) (n g : Nat) (w : World) (hg : w.heap.size = g) (hc : cs = (nums l).toArray) (hn : l.length = n) (hm : n ≤ 900) (hl : Fits l) :
    Calls Tryd.prog 31 #[.slice (some ⟨g, 0, none⟩) n n] (w.alloc (.cells cs t)) fun e w' => e = .returned (.tuple #[.int .u64 (bdN (prodL l) : Int), .int .i64 (bdE (prodL l))]) ∧ Below w.heap.size w w' := by
  subst hc hg
  exact (bounded_any l n n _ _ hn hm hl (by simpa using sees_nums w l t rfl)).mono fun e w' ⟨he, hbl⟩ => ⟨he, (below1 w _).trans (hbl.mono (by simp))⟩

theorem total_any (a b : Nat) (w : World) (ha : a < 18446744073709551616) (hb : b < 18446744073709551616) : Calls Tryd.prog 21 #[.int .u64 (a : Int), .int .u64 (b : Int)] w fun e w' => e = .returned (.tuple #[.int .u64 (bdN (a * b) : Int), .int .i64 (bdE (a * b))]) ∧ Below w.heap.size w w' := by
  have hc := Lib.hid (fun cs g hg hcs => bounded_lit [a, b] cs 31 2 g w hg hcs rfl (by omega) (by intro k hk; rcases k with _ | _ | k; exact ha; exact hb; simp at hk; omega))
  rw [show prodL [a, b] = a * b by simp [prodL]] at hc
  obtain ⟨x, hx⟩ : ∃ x, x = bdN (a * b) := ⟨_, rfl⟩
  obtain ⟨y, hy⟩ : ∃ y, y = bdE (a * b) := ⟨_, rfl⟩
  rw [← hx, ← hy] at hc ⊢
  clear hx hy ha hb
  go_enter Tryd.func21, Tryd.ntmps21
  go_wp2_with fail
  refine (hc.out _ _ rfl rfl).mono ?_
  rintro e w1 ⟨rfl, hb1⟩
  go_wp2
  go_ret2
  exact ⟨rfl, hb1⟩

set_option maxHeartbeats 1000000 in
theorem of_any (s m : Nat) (w : World) (ht : Tab w) (hs : s < 18446744073709551616) (hm : m < 18446744073709551616) :
    Calls Tryd.prog 19 #[.int .u64 (s : Int), .int .u64 (m : Int)] w fun e w' => e = .returned (.tuple #[nv (ofB s m) (ofC s m) (ofP s m) (ofH s m), .int .i64 (ofE s m)]) ∧ Below w.heap.size w w' := by
  have HT := Lib.hid ht
  have hc := Lib.hid (fun cs g w hg hcs => bounded_lit [s] cs 31 1 g w hg hcs rfl (by omega) (by intro k hk; rcases k with _ | k; exact hs; simp at hk))
  have hmb := Lib.hid (fun w => mayBe_any m w hm)
  rw [show prodL [s] = s by simp [prodL]] at hc
  clear ht hm
  unfold ofB ofC ofP ofH ofE okB
  by_cases h1 : s ≤ 262144
  · have hn := Lib.hid (fun w ht => needOf_any (sz s) m w ht (by unfold sz; omega))
    have e1 : decide (s ≤ 262144) = true := decide_eq_true h1
    rw [e1]
    rw [bdN, bdE, if_pos h1, if_pos h1] at hc
    have hmax : (if (s : Int) < 1 then 1 else (s : Int)) = ((sz s : Nat) : Int) := by unfold sz; split <;> omega
    obtain ⟨b, hb⟩ : ∃ b, b = mayB m := ⟨_, rfl⟩
    rw [← hb] at hmb ⊢
    obtain ⟨x0, hx0⟩ : ∃ x, x = ndB (sz s) m := ⟨_, rfl⟩
    obtain ⟨x1, hx1⟩ : ∃ x, x = ndC (sz s) m := ⟨_, rfl⟩
    obtain ⟨x2, hx2⟩ : ∃ x, x = ndP (sz s) m := ⟨_, rfl⟩
    obtain ⟨x3, hx3⟩ : ∃ x, x = ndH (sz s) m := ⟨_, rfl⟩
    rw [← hx0, ← hx1, ← hx2, ← hx3] at hn ⊢
    clear hx0 hx1 hx2 hx3 hb h1 hs e1
    obtain ⟨z, hz⟩ : ∃ z, z = sz s := ⟨_, rfl⟩
    rw [← hz] at hn hmax
    clear hz
    cases b
    · show Calls _ _ _ _ fun e w' => e = .returned (.tuple #[nv false 0 0 0, .int .i64 2]) ∧ Below w.heap.size w w'
      go_enter Tryd.func19, Tryd.ntmps19
      go_wp2_with fail
      refine wp_scope_jump 1 fun R hR hG => ?_
      go_wp2_with fail
      refine (hc.out _ (w.heap.size + 1) (w.alloc (.cells #[.bool false, .int .i64 0, .int .i64 0, .int .i64 0] 33)) (by simp) rfl).mono ?_
      rintro e w1 ⟨rfl, hb1⟩
      have hB1 := (below1 w (.cells #[.bool false, .int .i64 0, .int .i64 0, .int .i64 0] 33)).trans (hb1.mono (by simp))
      obtain ⟨_, k0, k1, k2, k3, f0, f1, f2, f3⟩ := ((Nd.new w (.bool false) (.int .i64 0) (.int .i64 0) (.int .i64 0)).below hb1).facts
      clear hc hb1 hn
      go_wp2_with fail
      refine (hmb.out _).mono ?_
      rintro e w' ⟨rfl, rfl⟩
      go_wp2
      refine wp_goto (hG.out _ _ _ _ _ rfl ?_)
      go_wp2
      refine hR.out _ _ _ _ (by simp) ?_
      exact bodyPost_ret (v := .tuple #[nv false 0 0 0, .int .i64 2]) (by simp [results, Tryd.results19, go_sem, k0, k1, k2, k3]) rfl ⟨rfl, set4 hB1 (Nat.le_refl _)⟩
    · show Calls _ _ _ _ fun e w' => e = .returned (.tuple #[nv x0 x1 x2 x3, .int .i64 0]) ∧ Below w.heap.size w w'
      go_enter Tryd.func19, Tryd.ntmps19
      go_wp2_with fail
      refine wp_scope_jump 1 fun R hR hG => ?_
      go_wp2_with fail
      refine (hc.out _ (w.heap.size + 1) (w.alloc (.cells #[.bool false, .int .i64 0, .int .i64 0, .int .i64 0] 33)) (by simp) rfl).mono ?_
      rintro e w1 ⟨rfl, hb1⟩
      have hB1 := (below1 w (.cells #[.bool false, .int .i64 0, .int .i64 0, .int .i64 0] 33)).trans (hb1.mono (by simp))
      have hn1 := (Nd.new w (.bool false) (.int .i64 0) (.int .i64 0) (.int .i64 0)).below hb1
      have hT1 := HT.out.below hB1
      clear hc hb1
      go_wp2_with fail
      refine (hmb.out _).mono ?_
      rintro e w' ⟨rfl, rfl⟩
      go_wp2_with fail
      refine (hn.out _ hT1).mono ?_
      rintro e w2 ⟨rfl, hb2⟩
      have hB2 := hB1.trans (hb2.mono hB1.size)
      obtain ⟨_, k0, k1, k2, k3, f0, f1, f2, f3⟩ := (hn1.below hb2).facts
      go_wp2
      refine hR.out _ _ _ _ (by simp) ?_
      exact bodyPost_ret (v := .tuple #[nv x0 x1 x2 x3, .int .i64 0]) (by simp [results, Tryd.results19, go_sem, k0, k1, k2, k3]) rfl ⟨rfl, set4 hB2 (Nat.le_refl _)⟩
  · have e1 : decide (s ≤ 262144) = false := decide_eq_false h1
    rw [e1]
    rw [bdN, bdE, if_neg h1, if_neg h1] at hc
    show Calls _ _ _ _ fun e w' => e = .returned (.tuple #[nv false 0 0 0, .int .i64 2]) ∧ Below w.heap.size w w'
    clear h1 e1 hs hmb HT
    go_enter Tryd.func19, Tryd.ntmps19
    go_wp2_with fail
    refine wp_scope_jump 1 fun R hR hG => ?_
    go_wp2_with fail
    refine (hc.out _ (w.heap.size + 1) (w.alloc (.cells #[.bool false, .int .i64 0, .int .i64 0, .int .i64 0] 33)) (by simp) rfl).mono ?_
    rintro e w1 ⟨rfl, hb1⟩
    have hB1 := (below1 w (.cells #[.bool false, .int .i64 0, .int .i64 0, .int .i64 0] 33)).trans (hb1.mono (by simp))
    obtain ⟨_, k0, k1, k2, k3, f0, f1, f2, f3⟩ := ((Nd.new w (.bool false) (.int .i64 0) (.int .i64 0) (.int .i64 0)).below hb1).facts
    clear hc hb1
    go_wp2
    refine wp_goto (hG.out _ _ _ _ _ rfl ?_)
    go_wp2
    refine hR.out _ _ _ _ (by simp) ?_
    exact bodyPost_ret (v := .tuple #[nv false 0 0 0, .int .i64 2]) (by simp [results, Tryd.results19, go_sem, k0, k1, k2, k3]) rfl ⟨rfl, set4 hB1 (Nat.le_refl _)⟩
end Go.Proofs.YtpnlddjobphjnaaDoor
