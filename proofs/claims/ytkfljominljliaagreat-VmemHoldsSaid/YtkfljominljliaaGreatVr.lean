import Derived.Test.YtkfljominljliaaGreatVq
namespace Go.Proofs.YtkfljominljliaaGreat.Vm
open Go.RowKit Go.Shelf Go.Maps Go.Sort
attribute [local go_sem] Oper.semAt_some

/- CALLS, AS THE LAW READS THEM. -/

structure Ac where
  what : Int
  page : Int
  owner : Int
  payer : Int
  many : Int
  may : Int
  at_ : Nat
  bs : List UInt8
  A : Option Addr
  c : Nat
def Ac.sl (x : Ac) : Value := .slice x.A x.bs.length x.c
def Ac.cells (x : Ac) : List Value := [.int .i64 x.what, .int .i64 x.page, .int .i64 x.owner, .int .i64 x.payer, .int .i64 x.many, .int .i64 x.may, .int .u32 (x.at_ : Int), x.sl]
def i64 (z : Int) : Prop := -9223372036854775808 ≤ z ∧ z ≤ 9223372036854775807
structure Ac.fits (w : World) (x : Ac) : Prop where
  what : i64 x.what
  page : i64 x.page
  owner : i64 x.owner
  payer : i64 x.payer
  many : i64 x.many
  may : i64 x.may
  at_ : x.at_ < 4294967296
  cap : x.bs.length ≤ x.c
  len : x.bs.length ≤ 140737488351232
  sees : Sees w w.heap.size x.A (byt x.bs)
theorem Ac.fits.below {w w' : World} {x : Ac} (h : x.fits w) (hb : Below w.heap.size w w') : x.fits w' := ⟨h.what, h.page, h.owner, h.payer, h.many, h.may, h.at_, h.cap, h.len, (h.sees.below hb).more hb.size⟩
/-- calls in memory -/
structure Acs (w : World) (l : List Ac) (A : Option Addr) : Prop where
  sees : Sees w w.heap.size A (l.flatMap Ac.cells)
  fits : ∀ x ∈ l, x.fits w
theorem Acs.below {w w' : World} {l : List Ac} {A : Option Addr} (h : Acs w l A) (hb : Below w.heap.size w w') : Acs w' l A := ⟨(h.sees.below hb).more hb.size, fun x hx => (h.fits x hx).below hb⟩
theorem add_off (a : Addr) (m j : Nat) (hj : j ≠ 0) : a.add (m + j) = ⟨(a.add m).block, (a.add m).off + j, none⟩ := by
  unfold Addr.add
  rw [if_neg (by omega)]
  split
  · rename_i h; subst h; simp
  · simp; omega
theorem acs_get : ∀ (l : List Ac) (k j : Nat) (hk : k < l.length), j < 8 → (l.flatMap Ac.cells)[k * 8 + j]? = l[k].cells[j]?
  | [], k, _, h, _ => by simp at h
  | x :: r, 0, j, _, hj => by
    rw [List.flatMap_cons, Nat.zero_mul, Nat.zero_add, List.getElem?_append_left (by show j < 8; exact hj)]
    rfl
  | x :: r, k + 1, j, h, hj => by
    have := acs_get r k j (by simpa using h) hj
    rw [List.flatMap_cons, List.getElem?_append_right (by show 8 ≤ _; omega), show (k + 1) * 8 + j - x.cells.length = k * 8 + j by show (k + 1) * 8 + j - 8 = _; omega]
    exact this
/-- a call's eight cells -/
theorem Acs.at_ {w : World} {l : List Ac} {A : Option Addr} (h : Acs w l A) (k : Nat) (hk : k < l.length) :
    ∃ ad, A = some ad ∧ w.cell? (ad.add (k * 8)) = some (.int .i64 l[k].what) ∧ w.cell? ⟨(ad.add (k * 8)).block, (ad.add (k * 8)).off + 1, none⟩ = some (.int .i64 l[k].page) ∧ w.cell? ⟨(ad.add (k * 8)).block, (ad.add (k * 8)).off + 2, none⟩ = some (.int .i64 l[k].owner) ∧ w.cell? ⟨(ad.add (k * 8)).block, (ad.add (k * 8)).off + 3, none⟩ = some (.int .i64 l[k].payer) ∧ w.cell? ⟨(ad.add (k * 8)).block, (ad.add (k * 8)).off + 4, none⟩ = some (.int .i64 l[k].many) ∧ w.cell? ⟨(ad.add (k * 8)).block, (ad.add (k * 8)).off + 5, none⟩ = some (.int .i64 l[k].may) ∧ w.cell? ⟨(ad.add (k * 8)).block, (ad.add (k * 8)).off + 6, none⟩ = some (.int .u32 (l[k].at_ : Int)) ∧ w.cell? ⟨(ad.add (k * 8)).block, (ad.add (k * 8)).off + 7, none⟩ = some (l[k].sl) := by
  have hne : l.flatMap Ac.cells ≠ [] := fun e => by
    have := acs_get l k 0 hk (by omega)
    rw [e] at this
    simp [Ac.cells] at this
  obtain ⟨ad, hA, _, hc⟩ := h.sees hne
  have g : ∀ j, j < 8 → w.cell? (ad.add (k * 8 + j)) = l[k].cells[j]? := fun j hj => by
    have h1 := acs_get l k j hk hj
    rw [← h1]
    cases hx : (l.flatMap Ac.cells)[k * 8 + j]? with
    | some u => exact hc _ _ hx
    | none =>
      rw [h1] at hx
      have : j < l[k].cells.length := hj
      rw [List.getElem?_eq_getElem this] at hx
      cases hx
  refine ⟨ad, hA, g 0 (by omega), ?_, ?_, ?_, ?_, ?_, ?_, ?_⟩
  · rw [← add_off ad (k * 8) 1 (by decide)]
    exact g 1 (by omega)
  · rw [← add_off ad (k * 8) 2 (by decide)]
    exact g 2 (by omega)
  · rw [← add_off ad (k * 8) 3 (by decide)]
    exact g 3 (by omega)
  · rw [← add_off ad (k * 8) 4 (by decide)]
    exact g 4 (by omega)
  · rw [← add_off ad (k * 8) 5 (by decide)]
    exact g 5 (by omega)
  · rw [← add_off ad (k * 8) 6 (by decide)]
    exact g 6 (by omega)
  · rw [← add_off ad (k * 8) 7 (by decide)]
    exact g 7 (by omega)

/-- a call that is no more than it may -/
def okA (x : Ac) : Bool := decide (x.bs.length ≤ 600) && !(decide (600 < x.many) && decide (x.many ≤ 16777216))
def fewB (l : List Ac) (most : Nat) : Bool := l.all okA && decide (l.length ≤ most)
theorem few_take {l : List Ac} {k : Nat} (hk : k < l.length) : (l.take (k + 1)).all okA = ((l.take k).all okA && okA l[k]) := by
  rw [List.take_succ_eq_append_getElem hk, List.all_append]
  simp
set_option maxHeartbeats 1000000 in
theorem few_any (l : List Ac) (A : Option Addr) (n c most : Nat) (w : World) (h : Acs w l A) (hl : l.length = n) (hn : n ≤ 4611686018427387904) : Calls Tryz.prog 4 #[.slice A n c, .int .i64 (most : Int)] w fun e w' => e = .returned (.bool (fewB l most)) ∧ w = w' := by
  have HA := Lib.hid h
  have HL := Lib.hid hl
  have HF := Lib.hid (fun k hk => few_take (l := l) (k := k) hk)
  have HE := Lib.hid (show fewB l most = (l.all okA && decide (n ≤ most)) from by rw [← hl]; rfl)
  have HN := Lib.hid (fun (h : ¬ (l.all okA = true)) => (show fewB l most = false from by unfold fewB; rw [Bool.eq_false_iff.2 h]; rfl))
  obtain ⟨E, hE⟩ : ∃ E, E = fewB l most := ⟨_, rfl⟩
  rw [← hE] at HE HN ⊢
  have hmi : decide ((n : Int) ≤ (most : Int)) = decide (n ≤ most) := by simp
  clear h hE hl
  go_enter Tryz.func4, Tryz.ntmps4
  go_wp2_with fail
  go_loopw [5] (fun t wr => ∃ k : Nat, t = .int .i64 (k : Int) ∧ k ≤ n ∧ Hid ((l.take k).all okA = true) ∧ wr = w) (fun t _ => n - (_root_.Go.RowKit.intOf t).toNat)
  case atStart => exact ⟨0, rfl, Nat.zero_le _, Lib.hid (by simp), rfl⟩
  case round =>
    obtain ⟨k, rfl, hk, Hall, rfl⟩ := hrel
    by_cases hlt : k < n
    · have hkl : k < l.length := by rw [HL.out]; exact hlt
      have hf := HF.out k hkl
      obtain ⟨ad, rfl, _, _, _, _, c4, _, _, c7⟩ := HA.out.at_ k hkl
      unfold Ac.sl at c7
      have i0 : (0 : Int) ≤ (k : Int) := by omega
      have i1 : (k : Int) < (n : Int) := by omega
      have e0 : decide ((k : Int) < (n : Int)) = true := decide_eq_true i1
      have hno : okA l[k] = false → Hid (E = false) := fun h9 => Lib.hid (HN.out (fun h => by have := List.all_eq_true.1 h _ (List.getElem_mem hkl); rw [h9] at this; cases this))
      have hyes : okA l[k] = true → Hid ((l.take (k + 1)).all okA = true) := fun h9 => Lib.hid (by rw [hf, Hall.out, h9]; rfl)
      obtain ⟨x, hx⟩ : ∃ x, x = l[k] := ⟨_, rfl⟩
      rw [← hx] at c4 c7 hno hyes
      unfold okA at hno hyes
      have HNO := Lib.hid hno
      have HYES := Lib.hid hyes
      obtain ⟨m, hm⟩ : ∃ m, m = x.bs.length := ⟨_, rfl⟩
      obtain ⟨mn, hmn⟩ : ∃ mn, mn = x.many := ⟨_, rfl⟩
      rw [← hm] at c7
      rw [← hmn] at c4
      have HM := Lib.hid (And.intro hm hmn)
      clear hf hm hmn hx hno hyes HN HF
      by_cases hb : m ≤ 600
      · have e1 : decide ((600 : Int) < (m : Int)) = false := decide_eq_false (by omega)
        by_cases h2 : 600 < mn
        · have e2 : decide (600 < mn) = true := decide_eq_true h2
          by_cases h3 : mn ≤ 16777216
          · have e3 : decide (mn ≤ 16777216) = true := decide_eq_true h3
            have HZ := HNO.out (by rw [← HM.out.1, ← HM.out.2, e2, e3]; simp)
            clear h2 h3 hb HM HNO HYES
            go_wp2
            go_ret
            exact ⟨by rw [HZ.out]; rfl, rfl⟩
          · have e3 : decide (mn ≤ 16777216) = false := decide_eq_false h3
            have HZ := HYES.out (by rw [← HM.out.1, ← HM.out.2, e2, e3, decide_eq_true hb]; rfl)
            clear h2 h3 hb HM HNO HYES
            go_wp2
            go_roundw
            case rel => exact ⟨k + 1, by go_num, by omega, HZ, trivial⟩
            case measure => simp [_root_.Go.RowKit.intOf]; omega
        · have e2 : decide (600 < mn) = false := decide_eq_false h2
          have HZ := HYES.out (by rw [← HM.out.1, ← HM.out.2, e2, decide_eq_true hb]; rfl)
          clear h2 hb HM HNO HYES
          go_wp2
          go_roundw
          case rel => exact ⟨k + 1, by go_num, by omega, HZ, trivial⟩
          case measure => simp [_root_.Go.RowKit.intOf]; omega
      · have e1 : decide ((600 : Int) < (m : Int)) = true := decide_eq_true (by omega)
        have HZ := HNO.out (by rw [← HM.out.1, decide_eq_false hb]; rfl)
        clear hb HM HNO HYES
        go_wp2
        go_ret
        exact ⟨by rw [HZ.out]; rfl, rfl⟩
    · obtain rfl : k = n := by omega
      have he := HE.out
      have ha := Hall.out
      rw [List.take_of_length_le (by rw [HL.out]; exact Nat.le_refl _)] at ha
      rw [ha, Bool.true_and] at he
      have HE2 := Lib.hid he
      clear he ha HE
      go_wp2
      go_ret
      exact ⟨by rw [HE2.out]; simp, rfl⟩
end Go.Proofs.YtkfljominljliaaGreat.Vm
