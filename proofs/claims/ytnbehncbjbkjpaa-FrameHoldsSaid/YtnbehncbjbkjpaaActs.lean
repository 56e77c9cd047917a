import Derived.Test.YtnbehncbjbkjpaaWorks
namespace Go.Proofs.Ytnbehncbjbkjpaa
open Go.RowKit Go.Shelf Go.Maps Go.Sort
attribute [local go_sem] Oper.semAt_some

/- CALLS, AS A LAW READS THEM. -/

structure Ac where
  what : Int
  owner : Int
  n : Int
  at_ : Int
  bs : List UInt8
  A : Option Addr
  c : Nat
def Ac.sl (x : Ac) : Value := .slice x.A x.bs.length x.c
def Ac.cells (x : Ac) : List Value := [.int .i64 x.what, .int .i64 x.owner, .int .i64 x.n, .int .i64 x.at_, x.sl]
def i64 (z : Int) : Prop := -9223372036854775808 ≤ z ∧ z ≤ 9223372036854775807
structure Ac.fits (w : World) (x : Ac) : Prop where
  what : i64 x.what
  owner : i64 x.owner
  n : i64 x.n
  at_ : i64 x.at_
  len : x.bs.length ≤ 140737488351232
  sees : Sees w w.heap.size x.A (byt x.bs)
theorem Ac.fits.below {w w' : World} {x : Ac} (h : x.fits w) (hb : Below w.heap.size w w') : x.fits w' := ⟨h.what, h.owner, h.n, h.at_, h.len, (h.sees.below hb).more hb.size⟩
/-- calls in memory -/
structure Acs (w : World) (l : List Ac) (A : Option Addr) : Prop where
  sees : Sees w w.heap.size A (l.flatMap Ac.cells)
  fits : ∀ x ∈ l, x.fits w
theorem Acs.below {w w' : World} {l : List Ac} {A : Option Addr} (h : Acs w l A) (hb : Below w.heap.size w w') : Acs w' l A := ⟨(h.sees.below hb).more hb.size, fun x hx => (h.fits x hx).below hb⟩
theorem add_off (a : Addr) (m j : Nat) (hj : j ≠ 0) : a.add (m + j) = ⟨(a.add m).block, (a.add m).off + j, none⟩ := by
  unfold Addr.add
  rw [if_neg (by omega)]
  split
  · rename_i h; subst h; simp
  · simp; omega
theorem acs_get : ∀ (l : List Ac) (k j : Nat) (hk : k < l.length), j < 5 → (l.flatMap Ac.cells)[k * 5 + j]? = l[k].cells[j]?
  | [], k, _, h, _ => by simp at h
  | x :: r, 0, j, _, hj => by
    rw [List.flatMap_cons, Nat.zero_mul, Nat.zero_add, List.getElem?_append_left (by show j < 5; exact hj)]
    rfl
  | x :: r, k + 1, j, h, hj => by
    have := acs_get r k j (by simpa using h) hj
    rw [List.flatMap_cons, List.getElem?_append_right (by show 5 ≤ _; omega), show (k + 1) * 5 + j - x.cells.length = k * 5 + j by show (k + 1) * 5 + j - 5 = _; omega]
    exact this
/-- a call's five cells -/
theorem Acs.at_ {w : World} {l : List Ac} {A : Option Addr} (h : Acs w l A) (k : Nat) (hk : k < l.length) :
    ∃ ad, A = some ad ∧ w.cell? (ad.add (k * 5)) = some (.int .i64 l[k].what) ∧ w.cell? ⟨(ad.add (k * 5)).block, (ad.add (k * 5)).off + 1, none⟩ = some (.int .i64 l[k].owner) ∧ w.cell? ⟨(ad.add (k * 5)).block, (ad.add (k * 5)).off + 2, none⟩ = some (.int .i64 l[k].n) ∧
      w.cell? ⟨(ad.add (k * 5)).block, (ad.add (k * 5)).off + 3, none⟩ = some (.int .i64 l[k].at_) ∧ w.cell? ⟨(ad.add (k * 5)).block, (ad.add (k * 5)).off + 4, none⟩ = some l[k].sl := by
  have hne : l.flatMap Ac.cells ≠ [] := fun e => by
    have := acs_get l k 0 hk (by omega)
    rw [e] at this
    simp [Ac.cells] at this
  obtain ⟨ad, hA, _, hc⟩ := h.sees hne
  have g : ∀ j, j < 5 → w.cell? (ad.add (k * 5 + j)) = l[k].cells[j]? := fun j hj => by
    have h1 := acs_get l k j hk hj
    rw [← h1]
    cases hx : (l.flatMap Ac.cells)[k * 5 + j]? with
    | some u => exact hc _ _ hx
    | none =>
      rw [h1] at hx
      have : j < l[k].cells.length := hj
      rw [List.getElem?_eq_getElem this] at hx
      cases hx
  refine ⟨ad, hA, g 0 (by omega), ?_, ?_, ?_, ?_⟩
  · rw [← add_off ad (k * 5) 1 (by decide)]
    exact g 1 (by omega)
  · rw [← add_off ad (k * 5) 2 (by decide)]
    exact g 2 (by omega)
  · rw [← add_off ad (k * 5) 3 (by decide)]
    exact g 3 (by omega)
  · rw [← add_off ad (k * 5) 4 (by decide)]
    exact g 4 (by omega)

/-- few: at most so many calls, of 300 bytes -/
def fewB (l : List Ac) (most : Nat) : Bool := l.all (fun x => decide (x.bs.length ≤ 300)) && decide (l.length ≤ most)
theorem few_take {l : List Ac} {k : Nat} (hk : k < l.length) : (l.take (k + 1)).all (fun x => decide (x.bs.length ≤ 300)) = ((l.take k).all (fun x => decide (x.bs.length ≤ 300)) && decide (l[k].bs.length ≤ 300)) := by
  rw [List.take_succ_eq_append_getElem hk, List.all_append]
  simp
set_option maxHeartbeats 1000000 in
theorem few_any (l : List Ac) (A : Option Addr) (n c most : Nat) (w : World) (h : Acs w l A) (hl : l.length = n) (hn : n ≤ 4611686018427387904) : Calls Try.prog 11 #[.slice A n c, .int .i64 (most : Int)] w fun e w' => e = .returned (.bool (fewB l most)) ∧ w = w' := by
  have HA := Lib.hid h
  have HL := Lib.hid hl
  have HF := Lib.hid (fun k hk => few_take (l := l) (k := k) hk)
  have HE := Lib.hid (show fewB l most = (l.all (fun x => decide (x.bs.length ≤ 300)) && decide (n ≤ most)) from by rw [← hl]; rfl)
  have HN := Lib.hid (fun (h : ¬ (l.all (fun x => decide (x.bs.length ≤ 300)) = true)) => (show fewB l most = false from by unfold fewB; rw [Bool.eq_false_iff.2 h]; rfl))
  obtain ⟨E, hE⟩ : ∃ E, E = fewB l most := ⟨_, rfl⟩
  rw [← hE] at HE HN ⊢
  have hmi : decide ((n : Int) ≤ (most : Int)) = decide (n ≤ most) := by simp
  clear h hE hl
  go_enter Try.func11, Try.ntmps11
  go_wp2_with fail
  go_loopw [5] (fun t wr => ∃ k : Nat, t = .int .i64 (k : Int) ∧ k ≤ n ∧ Hid ((l.take k).all (fun x => decide (x.bs.length ≤ 300)) = true) ∧ wr = w) (fun t _ => n - (_root_.Go.RowKit.intOf t).toNat)
  case atStart => exact ⟨0, rfl, Nat.zero_le _, Lib.hid (by simp), rfl⟩
  case round =>
    obtain ⟨k, rfl, hk, Hall, rfl⟩ := hrel
    by_cases hlt : k < n
    · have hkl : k < l.length := by rw [HL.out]; exact hlt
      have hf := HF.out k hkl
      obtain ⟨ad, rfl, _, _, _, _, c4⟩ := HA.out.at_ k hkl
      unfold Ac.sl at c4
      have i0 : (0 : Int) ≤ (k : Int) := by omega
      have i1 : (k : Int) < (n : Int) := by omega
      have e0 : decide ((k : Int) < (n : Int)) = true := decide_eq_true i1
      by_cases hb : l[k].bs.length ≤ 300
      · rw [Hall.out, decide_eq_true hb] at hf
        have HF2 := Lib.hid hf
        have e1 : decide ((300 : Int) < (l[k].bs.length : Int)) = false := decide_eq_false (by omega)
        obtain ⟨m, hm⟩ : ∃ m, m = l[k].bs.length := ⟨_, rfl⟩
        rw [← hm] at c4 e1
        clear hf hm hb
        go_wp2
        go_roundw
        case rel => exact ⟨k + 1, by go_num, by omega, HF2, trivial⟩
        case measure => simp [_root_.Go.RowKit.intOf]; omega
      · have HNO := Lib.hid (HN.out (fun h => hb (by have := List.all_eq_true.1 h _ (List.getElem_mem hkl); simpa using this)))
        have e1 : decide ((300 : Int) < (l[k].bs.length : Int)) = true := decide_eq_true (by omega)
        obtain ⟨m, hm⟩ : ∃ m, m = l[k].bs.length := ⟨_, rfl⟩
        rw [← hm] at c4 e1
        clear hf hm hb HN
        go_wp2
        go_ret
        exact ⟨by rw [HNO.out]; rfl, rfl⟩
    · obtain rfl : k = n := by omega
      have he := HE.out
      have ha := Hall.out
      rw [List.take_of_length_le (by rw [HL.out]; exact Nat.le_refl _)] at ha
      rw [ha, Bool.true_and] at he
      have HE2 := Lib.hid he
      clear he ha HE
      go_wp2
      go_ret
      exact ⟨by rw [HE2.out]; simp, rfl⟩
end Go.Proofs.Ytnbehncbjbkjpaa
