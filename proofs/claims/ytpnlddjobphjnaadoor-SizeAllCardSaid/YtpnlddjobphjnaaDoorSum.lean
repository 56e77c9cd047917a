import Derived.Test.YtpnlddjobphjnaaDoorFold
namespace Go.Proofs.YtpnlddjobphjnaaDoor
open Go.RowKit

def big : Nat := 18446744073709551616
theorem big_eq : big = 18446744073709551616 := rfl
def tellN (P : Nat) : Nat := if P < big then P else 0
def tellE (P : Nat) : Int := if P < big then 0 else 120
def sumL : List Nat → Nat
  | [] => 0
  | x :: l => x + sumL l
def prodL : List Nat → Nat
  | [] => 1
  | x :: l => x * prodL l
theorem sumL_append (a b : List Nat) : sumL (a ++ b) = sumL a + sumL b := by
  induction a with
  | nil => simp [sumL]
  | cons x a ih => simp only [List.cons_append, sumL, ih]; omega
theorem prodL_append (a b : List Nat) : prodL (a ++ b) = prodL a * prodL b := by
  induction a with
  | nil => simp [prodL]
  | cons x a ih => simp only [List.cons_append, prodL, ih, Nat.mul_assoc]
theorem sumL_succ {l : List Nat} {k : Nat} (h : k < l.length) : sumL (l.take (k + 1)) = sumL (l.take k) + l[k] := by
  rw [List.take_succ_eq_append_getElem h, sumL_append]; simp [sumL]
theorem prodL_succ {l : List Nat} {k : Nat} (h : k < l.length) : prodL (l.take (k + 1)) = prodL (l.take k) * l[k] := by
  rw [List.take_succ_eq_append_getElem h, prodL_append]; simp [prodL]
theorem sumL_le (l : List Nat) (k : Nat) : sumL (l.take k) ≤ sumL l := by
  conv => rhs; rw [← List.take_append_drop k l, sumL_append]
  omega
theorem prodL_pos : ∀ (l : List Nat), (∀ x ∈ l, 0 < x) → 0 < prodL l
  | [], _ => by simp [prodL]
  | x :: l, h => by
    simp only [prodL]
    exact Nat.mul_pos (h x (by simp)) (prodL_pos l fun y hy => h y (by simp [hy]))
theorem prodL_le (l : List Nat) (k : Nat) (h : ∀ x ∈ l, 0 < x) : prodL (l.take k) ≤ prodL l := by
  conv => rhs; rw [← List.take_append_drop k l, prodL_append]
  exact Nat.le_mul_of_pos_right _ (prodL_pos _ fun x hx => h x (List.mem_of_mem_drop hx))
theorem prodL_zero : ∀ (l : List Nat) (k : Nat) (h : k < l.length), l[k] = 0 → prodL l = 0
  | x :: l, 0, _, h0 => by
    have h1 : x = 0 := h0
    simp [prodL, h1]
  | x :: l, k + 1, h, h0 => by
    simp only [prodL]
    rw [prodL_zero l k (by simpa using h) (by simpa using h0), Nat.mul_zero]

/-- two halves that stand for a number -/
def Rep (q : Nat × Nat) (P : Nat) : Prop := (P < big ∧ q.1 = 0 ∧ q.2 = P) ∨ (big ≤ P ∧ 0 < q.1 ∧ q.2 < big)
theorem Rep.snd {q : Nat × Nat} {P : Nat} (h : Rep q P) : q.2 < 18446744073709551616 := by
  rw [← big_eq]
  rcases h with ⟨h1, _, h2⟩ | ⟨_, _, h2⟩ <;> omega
theorem Rep.tell {q : Nat × Nat} {P : Nat} (h : Rep q P) : outN q = tellN P ∧ outE q = tellE P := by
  unfold outN outE tellN tellE
  rcases h with ⟨h1, h2, h3⟩ | ⟨h1, h2, h3⟩
  · simp only [h1, show ¬ 0 < q.1 by omega, if_true, if_false, h3, and_self]
  · simp only [h2, show ¬ P < big by omega, if_true, if_false, and_self]

theorem stP_plus : ∀ (l : List Nat) (k : Nat), k ≤ l.length → stP plusP (0, 0) l k = (sumL (l.take k) / big, sumL (l.take k) % big)
  | l, 0, _ => by simp [stP, sumL, big]
  | l, k + 1, h => by
    rw [stP_succ (by omega), stP_plus l k (by omega), sumL_succ (by omega)]
    unfold plusP big
    simp only [Prod.mk.injEq]
    omega
theorem rep_plus (S : Nat) : Rep (S / big, S % big) S := by
  rcases Nat.lt_or_ge S big with h | h
  · exact .inl ⟨h, Nat.div_eq_of_lt h, Nat.mod_eq_of_lt h⟩
  · exact .inr ⟨h, Nat.div_pos h (by simp [big]), Nat.mod_lt _ (by simp [big])⟩
theorem sumL_bound : ∀ (l : List Nat) (k : Nat), Fits l → k ≤ l.length → sumL (l.take k) ≤ k * big
  | l, 0, _, _ => by simp [sumL]
  | l, k + 1, hf, h => by
    have := sumL_bound l k hf (by omega)
    have h2 := hf k (by omega)
    rw [sumL_succ (by omega), Nat.add_mul, Nat.one_mul]
    rw [← big_eq] at h2
    omega
theorem rep_tim {q : Nat × Nat} {P n : Nat} (h : Rep q P) : Rep (timP q n) (P * n) := by
  unfold timP
  by_cases h0 : n = 0
  · subst h0
    rw [if_pos rfl, Nat.mul_zero]
    exact .inl ⟨by simp [big], rfl, rfl⟩
  · rw [if_neg h0]
    rcases h with ⟨h1, h2, h3⟩ | ⟨h1, h2, h3⟩
    · rw [if_neg (by omega), h3, ← big_eq]
      exact rep_plus (P * n)
    · rw [if_pos h2]
      exact .inr ⟨Nat.le_trans h1 (Nat.le_mul_of_pos_right _ (by omega)), h2, h3⟩
theorem stP_tim : ∀ (l : List Nat) (k : Nat), k ≤ l.length → Rep (stP timP (0, 1) l k) (prodL (l.take k))
  | l, 0, _ => .inl ⟨by simp [big, prodL], rfl, by simp [stP, prodL]⟩
  | l, k + 1, h => by
    rw [stP_succ (by omega), prodL_succ (by omega)]
    exact rep_tim (stP_tim l k (by omega))

theorem mul_any (l : List Nat) (n c : Nat) (A : Option Addr) (w : World) (hn : l.length = n) (hm : n ≤ 900) (hl : Fits l) (hr : Sees w w.heap.size A (nums l)) :
    Calls Tryd.prog 42 #[.slice A n c] w fun e w' => e = .returned (.tuple #[.int .u64 (tellN (prodL l) : Int), .int .i64 (tellE (prodL l))]) ∧ Below w.heap.size w w' := by
  have hT := stP_tim l n (by omega)
  obtain ⟨t1, t2⟩ := hT.tell
  have hcall := Lib.hid (worked_mul l (0, 1) n c A w hn (by omega) hl hr (fun k hk => ⟨trivial, (stP_tim l k (by omega)).snd⟩))
  rw [t1, t2, List.take_of_length_le (by omega)] at hcall
  clear t1 t2 hT hl hr hm
  obtain ⟨a, ha⟩ : ∃ a, a = tellN (prodL l) := ⟨_, rfl⟩
  obtain ⟨b, hb⟩ : ∃ b, b = tellE (prodL l) := ⟨_, rfl⟩
  rw [← ha, ← hb] at hcall ⊢
  clear ha hb hn
  go_enter Tryd.func42, Tryd.ntmps42
  go_wp2_with fail
  refine (hcall.out).mono ?_
  rintro e w1 ⟨rfl, hb1⟩
  go_wp2_with fail
  go_ret2
  exact ⟨rfl, hb1⟩
end Go.Proofs.YtpnlddjobphjnaaDoor
