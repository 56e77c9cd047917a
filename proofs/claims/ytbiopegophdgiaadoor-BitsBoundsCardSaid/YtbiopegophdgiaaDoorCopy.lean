import Derived.Test.YtbiopegophdgiaaDoorSet
import Derived.Test.YtbiopegophdgiaaDoorStr
namespace Go.Proofs.YtbiopegophdgiaaDoor
open Go.RowKit Go.Shelf
attribute [local go_sem] Oper.semAt_some

/- COPY, SAME, TEXT. -/

theorem copy_non (m : Value) (w : World) (h : Non w m) : Calls Tryd.prog 20 #[m] w fun e w' => e = .returned (.pointer none) ∧ w = w' := by
  have h1 := Lib.hid (none_any w m h)
  go_enter Tryd.func20, Tryd.ntmps20
  go_wp2_with fail
  refine (h1.out).mono ?_
  rintro e w1 ⟨rfl, rfl⟩
  go_wp2
  go_ret
  exact ⟨rfl, rfl⟩

/-- two lists of numbers as cells are the same? -/
def eqN (a b : List Nat) : Bool := a == b
theorem eqN_ne {a b : List Nat} {k : Nat} (ha : k < a.length) (hb : k < b.length) (h : a[k] ≠ b[k]) : eqN a b = false := by
  unfold eqN
  rw [beq_eq_false_iff_ne]
  rintro rfl
  exact h rfl
theorem eqN_len {a b : List Nat} (h : a.length ≠ b.length) : eqN a b = false := by
  unfold eqN
  rw [beq_eq_false_iff_ne]
  rintro rfl
  exact h rfl
theorem eqN_end {a b : List Nat} (hl : a.length = b.length) (h : ∀ k (ha : k < a.length) (hb : k < b.length), a[k] = b[k]) : eqN a b = true := by
  unfold eqN
  rw [beq_iff_eq]
  exact List.ext_getElem hl h

set_option maxHeartbeats 1000000 in
theorem equal_any (a b : List Nat) (A A' : Option Addr) (n c c' B : Nat) (w : World) (hn : n ≤ 140737488351232) (hla : a.length = n) (hlb : b.length = n) (hr : Sees w B A (wds a)) (hr' : Sees w B A' (wds b)) :
    Calls Tryd.prog 43 #[.slice A n c, .slice A' n c'] w fun e w' => e = .returned (.bool (eqN a b)) ∧ ∃ m, w' = w.drewN m := by
  have HA := Lib.hid hla
  have HB := Lib.hid hlb
  clear hla hlb
  go_enter Tryd.func43, Tryd.ntmps43
  go_wp2_with fail
  go_loopw [13] (fun i wr => ∃ k : Nat, k ≤ n ∧ i = .int .i64 k ∧ Hid (∀ j (ha : j < a.length) (hb : j < b.length), j < k → a[j] = b[j]) ∧ ∃ m, wr = w.drewN m) (fun i _ => n - (intOf i).toNat)
  case atStart => exact ⟨0, Nat.zero_le _, rfl, Lib.hid (fun j _ _ h => absurd h (by omega)), 0, rfl⟩
  case round =>
    obtain ⟨k, hk, rfl, H, m, rfl⟩ := hrel
    by_cases hlt : k < n
    · have hka : k < a.length := by rw [HA.out]; exact hlt
      have hkb : k < b.length := by rw [HB.out]; exact hlt
      obtain ⟨ad, rfl, _, hc⟩ := hr.at_ (k := k) (by rw [wds_len]; exact hka)
      obtain ⟨ad', rfl, _, hc'⟩ := hr'.at_ (k := k) (by rw [wds_len]; exact hkb)
      have e1 : (wds a)[k]'(by rw [wds_len]; exact hka) = .int .u64 (a[k] : Int) := by simp [wds]
      have e2 : (wds b)[k]'(by rw [wds_len]; exact hkb) = .int .u64 (b[k] : Int) := by simp [wds]
      rw [e1] at hc
      rw [e2] at hc'
      obtain ⟨x, hx⟩ : ∃ x, x = a[k] := ⟨_, rfl⟩
      obtain ⟨y, hy⟩ : ∃ y, y = b[k] := ⟨_, rfl⟩
      rw [← hx] at hc
      rw [← hy] at hc'
      clear e1 e2
      by_cases hxy : x = y
      · have hd : ((x : Int) != (y : Int)) = false := by subst hxy; simp
        have hnx : Hid (∀ j (ha : j < a.length) (hb : j < b.length), j < k + 1 → a[j] = b[j]) := Lib.hid (fun j ha hb hj => by
          by_cases e : j = k
          · subst e
            rw [← hx, ← hy]; exact hxy
          · exact H.out j ha hb (by omega))
        clear hx hy hxy
        go_wp2_with fail
        go_quiet (fail)
        go_wp2_with fail
        go_roundw
        case rel => exact ⟨k + 1, by omega, by go_num, hnx, _, rfl⟩
        case measure => simp [intOf]; omega
      · have hd : ((x : Int) != (y : Int)) = true := by simp; omega
        have hne : Hid (eqN a b = false) := Lib.hid (eqN_ne hka hkb (by rw [← hx, ← hy]; exact hxy))
        clear hx hy hxy
        go_wp2_with fail
        go_quiet (fail)
        go_wp2_with fail
        go_ret
        exact ⟨by rw [hne.out]; rfl, _, World.drewN_drewN _ _ _⟩
    · obtain rfl : k = n := by omega
      have he : Hid (eqN a b = true) := Lib.hid (eqN_end (by rw [HA.out, HB.out]) (fun j ha hb => H.out j ha hb (by rw [← HA.out]; exact ha)))
      go_wp2_with fail
      go_ret
      exact ⟨by rw [he.out]; rfl, _, rfl⟩

theorem equal_q {P : Program} {f : FuncId} {args : Array Value} {w : World} {n : Nat} {v : Value} (h : Calls P f args (w.drewN n) fun e w' => e = .returned v ∧ ∃ m, w' = (w.drewN n).drewN m) :
    Calls P f args (w.drewN n) fun e w'' => e = .returned v ∧ ∃ m, w'' = w.drewN m :=
  h.mono fun _ _ ⟨he, _, hm⟩ => ⟨he, _, hm.trans (World.drewN_drewN _ _ _)⟩

def CopyP (w : World) (l : List Bool) (e : Ending) (w' : World) : Prop :=
  ∃ b g, e = .returned (.pointer (some ⟨b, 0, none⟩)) ∧ w.heap.size ≤ b ∧ w.heap.size ≤ g ∧ Rep w' b g l ∧ Below w.heap.size w w'
set_option maxHeartbeats 1000000 in
theorem copy_rep (b g : Nat) (l : List Bool) (w : World) (h : Rep w b g l) : Calls Tryd.prog 20 #[.pointer (some ⟨b, 0, none⟩)] w (CopyP w l) := by
  have hm := h.most
  have h1 := Lib.hid (none_not w b _ (h.obj.cell 0) (h.obj.cell 2))
  have hc0 : w.cell? ⟨b, 0, none⟩ = some (.int .i64 (l.length : Int)) := h.obj.cell 0
  have hbl := h.obj.lt
  have hs := Lib.hid (such_any true l b g w.drew (h.same rfl rfl))
  rw [such_true] at hs
  obtain ⟨n, hn⟩ : ∃ n, n = l.length := ⟨_, rfl⟩
  rw [← hn] at hc0
  obtain ⟨k, hk⟩ : ∃ k, k = nw l.length := ⟨_, rfl⟩
  rw [← hk] at hs
  have HN := Lib.hid hn
  have HK := Lib.hid hk
  clear h hn hk
  go_enter Tryd.func20, Tryd.ntmps20
  go_wp2_with fail
  refine (h1.out).mono ?_
  rintro e w1 ⟨rfl, rfl⟩
  go_wp2_with fail
  go_region_held3 (fun W => W.cell? ⟨b, 0, none⟩ = some (.int .i64 (n : Int))) (first | go_keep | trivial)
    (first | (go_at_call 39; refine (hs.out).mono ?_; rintro e w1 ⟨g1, rfl, hg1, hr1, hb1'⟩; have hb1 : Below w.heap.size w w1 := ⟨hb1'.os, hb1'.tape, hb1'.output, hb1'.size, hb1'.block⟩; clear hb1'; have hc1 := (hb1.cell (p := ⟨b, 0, none⟩) hbl).trans hc0; have hlast := Lib.hid (show Rep (w1.alloc (.cells #[.int .i64 (n : Int), .slice (some ⟨g1, 0, none⟩) k k, .bool true] 34)) w1.heap.size g1 l ∧ w.heap.size ≤ w1.heap.size ∧ w.heap.size ≤ g1 ∧ Below w.heap.size w (w1.alloc (.cells #[.int .i64 (n : Int), .slice (some ⟨g1, 0, none⟩) k k, .bool true] 34)) from ⟨rep_new hr1 hm HN.out HK.out, hb1.size, hg1, hb1.alloc hb1.size _⟩)))
  go_wp2
  go_ret
  exact ⟨_, _, rfl, hlast.out.2.1, hlast.out.2.2.1, hlast.out.1, hlast.out.2.2.2⟩

/-- are two lists of truths the same? -/
def eqB (a b : List Bool) : Bool := a == b
theorem eqB_words {a b : List Bool} (h : a.length = b.length) : eqN (words a) (words b) = eqB a b := by
  unfold eqN eqB
  rw [Bool.eq_iff_iff, beq_iff_eq, beq_iff_eq]
  exact ⟨words_inj h, fun e => by rw [e]⟩
theorem eqB_len {a b : List Bool} (h : a.length ≠ b.length) : eqB a b = false := by
  unfold eqB
  rw [beq_eq_false_iff_ne]
  rintro rfl
  exact h rfl

theorem same_nn (m m' : Value) (w : World) (h : Non w m) (h' : Non w m') : Calls Tryd.prog 21 #[m, m'] w fun e w' => e = .returned (.bool true) ∧ w = w' := by
  have h1 := Lib.hid (none_any w m h)
  have h2 := Lib.hid (none_any w m' h')
  go_enter Tryd.func21, Tryd.ntmps21
  go_wp2_with fail
  refine (h1.out).mono ?_
  rintro e w1 ⟨rfl, rfl⟩
  go_wp2_with fail
  refine (h1.out).mono ?_
  rintro e w1 ⟨rfl, rfl⟩
  go_wp2_with fail
  refine (h2.out).mono ?_
  rintro e w1 ⟨rfl, rfl⟩
  go_wp2
  go_ret
  exact ⟨rfl, rfl⟩
theorem same_nr (m : Value) (b g : Nat) (l : List Bool) (w : World) (h : Non w m) (h' : Rep w b g l) : Calls Tryd.prog 21 #[m, .pointer (some ⟨b, 0, none⟩)] w fun e w' => e = .returned (.bool false) ∧ w = w' := by
  have h1 := Lib.hid (none_any w m h)
  have h2 := Lib.hid (none_not w b _ (h'.obj.cell 0) (h'.obj.cell 2))
  go_enter Tryd.func21, Tryd.ntmps21
  go_wp2_with fail
  refine (h1.out).mono ?_
  rintro e w1 ⟨rfl, rfl⟩
  go_wp2_with fail
  refine (h1.out).mono ?_
  rintro e w1 ⟨rfl, rfl⟩
  go_wp2_with fail
  refine (h2.out).mono ?_
  rintro e w1 ⟨rfl, rfl⟩
  go_wp2
  go_ret
  exact ⟨rfl, rfl⟩
theorem same_rn (m : Value) (b g : Nat) (l : List Bool) (w : World) (h : Non w m) (h' : Rep w b g l) : Calls Tryd.prog 21 #[.pointer (some ⟨b, 0, none⟩), m] w fun e w' => e = .returned (.bool false) ∧ w = w' := by
  have h1 := Lib.hid (none_any w m h)
  have h2 := Lib.hid (none_not w b _ (h'.obj.cell 0) (h'.obj.cell 2))
  go_enter Tryd.func21, Tryd.ntmps21
  go_wp2_with fail
  refine (h2.out).mono ?_
  rintro e w1 ⟨rfl, rfl⟩
  go_wp2_with fail
  refine (h1.out).mono ?_
  rintro e w1 ⟨rfl, rfl⟩
  go_wp2_with fail
  refine (h2.out).mono ?_
  rintro e w1 ⟨rfl, rfl⟩
  go_wp2
  go_ret
  exact ⟨rfl, rfl⟩
set_option maxHeartbeats 1000000 in
theorem same_rr (b g b' g' : Nat) (l l' : List Bool) (w : World) (h : Rep w b g l) (h' : Rep w b' g' l') : Calls Tryd.prog 21 #[.pointer (some ⟨b, 0, none⟩), .pointer (some ⟨b', 0, none⟩)] w fun e w' => e = .returned (.bool (eqB l l')) ∧ Below w.heap.size w w' := by
  have h1 := Lib.hid (none_not w b _ (h.obj.cell 0) (h.obj.cell 2))
  have h2 := Lib.hid (none_not w b' _ (h'.obj.cell 0) (h'.obj.cell 2))
  have hc0 : w.cell? ⟨b, 0, none⟩ = some (.int .i64 (l.length : Int)) := h.obj.cell 0
  have hc0' : w.cell? ⟨b', 0, none⟩ = some (.int .i64 (l'.length : Int)) := h'.obj.cell 0
  have hc1 : w.cell? ⟨b, 1, none⟩ = some (.slice (some ⟨g, 0, none⟩) (nw l.length) (nw l.length)) := h.obj.cell 1
  have hc1' : w.cell? ⟨b', 1, none⟩ = some (.slice (some ⟨g', 0, none⟩) (nw l'.length) (nw l'.length)) := h'.obj.cell 1
  by_cases hl : l.length = l'.length
  · have hq := Lib.hid (fun n => equal_q (equal_any (words l) (words l') (some ⟨g, 0, none⟩) (some ⟨g', 0, none⟩) (nw l.length) (nw l.length) (nw l.length) w.heap.size (w.drewN n) (by have := h.most; unfold nw; omega) (words_len l) (by rw [words_len, hl]) h.row.sees h'.row.sees))
    rw [eqB_words hl] at hq
    rw [← hl] at hc0' hc1'
    obtain ⟨n, hn⟩ : ∃ n, n = l.length := ⟨_, rfl⟩
    obtain ⟨k, hk⟩ : ∃ k, k = nw n := ⟨_, rfl⟩
    rw [← hn] at hc0 hc1 hc0' hc1' hq
    rw [← hk] at hc1 hc1' hq
    have hbe : ((n : Int) == (n : Int)) = true := by simp
    have hbl := h.obj.lt
    have hbl' := h'.obj.lt
    clear hn hk hl h h'
    go_enter Tryd.func21, Tryd.ntmps21
    go_wp2_with fail
    refine (h1.out).mono ?_
    rintro e w1 ⟨rfl, rfl⟩
    go_wp2_with fail
    refine (h2.out).mono ?_
    rintro e w1 ⟨rfl, rfl⟩
    go_wp2_with fail
    go_quiet ((go_at_call 43; exact hq.out _))
    go_wp2
    go_ret
    exact ⟨rfl, below_drewN (Below.refl _ _) _⟩
  · have hne : ((l.length : Int) == (l'.length : Int)) = false := by simp; omega
    have HE := Lib.hid (eqB_len hl)
    obtain ⟨n, hn⟩ : ∃ n, n = l.length := ⟨_, rfl⟩
    obtain ⟨n', hn'⟩ : ∃ n', n' = l'.length := ⟨_, rfl⟩
    rw [← hn] at hc0 hne
    rw [← hn'] at hc0' hne
    clear hn hn' hl h h'
    go_enter Tryd.func21, Tryd.ntmps21
    go_wp2_with fail
    refine (h1.out).mono ?_
    rintro e w1 ⟨rfl, rfl⟩
    go_wp2_with fail
    refine (h2.out).mono ?_
    rintro e w1 ⟨rfl, rfl⟩
    go_wp2_with fail
    go_quiet (fail)
    go_wp2
    go_ret
    exact ⟨by rw [HE.out]; rfl, below_drewN (Below.refl _ _) _⟩
end Go.Proofs.YtbiopegophdgiaaDoor
