import Derived.Test.YtbgpdahoochkiaaDoorRefGet
import Derived.BigQuiet
import Derived.Deep.QuietTactic
namespace Go.Proofs.YtbgpdahoochkiaaDoor
open Go.RowKit

/-- the first place at which one has another byte than the other, or none, from k on -/
def df : List UInt8 → List UInt8 → Nat → Int
  | [], [], _ => -1
  | a :: l, b :: m, k => if a = b then df l m (k + 1) else (k : Int)
  | _, _, k => (k : Int)

theorem df_self : ∀ (l : List UInt8) (k : Nat), df l l k = -1
  | [], _ => rfl
  | a :: l, k => by simp [df, df_self l]
theorem df_comm : ∀ (l m : List UInt8) (k : Nat), df l m k = df m l k
  | [], [], _ => rfl
  | [], _ :: _, _ => rfl
  | _ :: _, [], _ => rfl
  | a :: l, b :: m, k => by
    simp only [df, df_comm l m]
    by_cases h : a = b
    · subst h; rfl
    · rw [if_neg h, if_neg (fun e => h e.symm)]

section
variable {l m : List UInt8} {k : Nat}
theorem df_drop (h : k < l.length) (h' : k < m.length) : df (l.drop k) (m.drop k) k = if l[k] = m[k] then df (l.drop (k + 1)) (m.drop (k + 1)) (k + 1) else (k : Int) := by
  rw [List.drop_eq_getElem_cons h, List.drop_eq_getElem_cons h']
  rfl
theorem df_step (h : k < l.length) (h' : k < m.length) (he : ((l[k].toNat : Int) != (m[k].toNat : Int)) = false) (H : df l m 0 = df (l.drop k) (m.drop k) k) : Hid (df l m 0 = df (l.drop (k + 1)) (m.drop (k + 1)) (k + 1)) := by
  show _ = _
  have : l[k] = m[k] := by apply UInt8.toNat.inj; simp at he; omega
  rw [H, df_drop h h', if_pos this]
theorem df_here (h : k < l.length) (h' : k < m.length) (he : ((l[k].toNat : Int) != (m[k].toNat : Int)) = true) (H : df l m 0 = df (l.drop k) (m.drop k) k) : df l m 0 = (k : Int) := by
  have : ¬ l[k] = m[k] := by intro e; rw [e] at he; simp at he
  rw [H, df_drop h h', if_neg this]
theorem df_left (h : l.length ≤ k) (h' : k < m.length) (H : df l m 0 = df (l.drop k) (m.drop k) k) : df l m 0 = (k : Int) := by
  rw [H, List.drop_eq_nil_of_le h, List.drop_eq_getElem_cons h']
  rfl
theorem df_right (h : k < l.length) (h' : m.length ≤ k) (H : df l m 0 = df (l.drop k) (m.drop k) k) : df l m 0 = (k : Int) := by
  rw [H, List.drop_eq_nil_of_le h', List.drop_eq_getElem_cons h]
  rfl
theorem df_end (h : l.length ≤ k) (h' : m.length ≤ k) (H : df l m 0 = df (l.drop k) (m.drop k) k) : df l m 0 = -1 := by
  rw [H, List.drop_eq_nil_of_le h', List.drop_eq_nil_of_le h]
  rfl
end

set_option maxHeartbeats 1000000 in
theorem refdiffer_any (l m : List UInt8) (n c n' c' : Nat) (A A' : Option Addr) (B : Nat) (w : World) (hn : l.length = n) (hn' : m.length = n') (hm : n ≤ 140737488351232) (hm' : n' ≤ 140737488351232) (hr : Sees w B A (byt l)) (hr' : Sees w B A' (byt m)) :
    Calls Tryd.prog 20 #[.slice A n c, .slice A' n' c'] w fun e w' => e = .returned (.int .i64 (df l m 0)) ∧ Below w.heap.size w w' := by
  subst hn
  subst hn'
  go_enter Tryd.func20, Tryd.ntmps20
  go_wp2
  go_loopw [5] (fun i wr => ∃ k : Nat, k ≤ max l.length m.length ∧ i = .int .i64 k ∧ Hid (df l m 0 = df (l.drop k) (m.drop k) k) ∧ Sees wr B A (byt l) ∧ Sees wr B A' (byt m) ∧ Below w.heap.size w wr) (fun i _ => max l.length m.length - (intOf i).toNat)
  case atStart => exact ⟨0, Nat.zero_le _, rfl, rfl, hr, hr', Below.refl _ _⟩
  case round =>
    obtain ⟨k, hk, rfl, H, hr, hr', hb⟩ := hrel
    by_cases h1 : k < l.length
    · by_cases h2 : k < m.length
      · obtain ⟨ad, rfl, _, hc⟩ := hr.byte h1
        obtain ⟨ad', rfl, _, hc'⟩ := hr'.byte h2
        have d1 : decide (l.length ≤ k) = false := by simpa using h1
        have d2 : decide (m.length ≤ k) = false := by simpa using h2
        go_wp2
        go_quiet (fail)
        go_wp2
        · go_ret
          exact ⟨by rw [df_here h1 h2 ‹_› H.out]; rfl, below_drewN hb _⟩
        · go_roundw
          case rel => exact ⟨k + 1, by omega, by go_num, df_step h1 h2 ‹_› H.out, hr, hr', below_drewN hb _⟩
          case measure => simp [intOf]; omega
      · have d1 : decide (l.length ≤ k) = false := by simpa using h1
        have d2 : decide (m.length ≤ k) = true := by simpa using h2
        go_wp2
        go_quiet (fail)
        go_wp2
        go_ret
        exact ⟨by rw [df_right h1 (by omega) H.out]; rfl, below_drewN hb _⟩
    · have d1 : decide (l.length ≤ k) = true := by simpa using h1
      by_cases h2 : k < m.length
      · go_wp2
        go_quiet (fail)
        go_wp2
        go_ret
        exact ⟨by rw [df_left (by omega) h2 H.out]; rfl, below_drewN hb _⟩
      · go_wp2
        go_ret
        exact ⟨by rw [df_end (by omega) (by omega) H.out]; rfl, hb⟩
end Go.Proofs.YtbgpdahoochkiaaDoor
