import Derived.Test.YtfmbfojlopibnaaDoorRefGet
import Derived.BigQuiet
import Derived.Deep.QuietTactic
namespace Go.Proofs.YtfmbfojlopibnaaDoor
open Go.RowKit

/-- the first place at which one has another byte than the other, or none, from k on -/
def df : List UInt8 → List UInt8 → Nat → Int
  | [], [], _ => -1
  | a :: l, b :: m, k => if a = b then df l m (k + 1) else (k : Int)
  | _, _, k => (k : Int)

theorem df_self : ∀ (l : List UInt8) (k : Nat), df l l k = -1
  | [], _ => rfl
  | a :: l, k => by simp [df, df_self l]
theorem df_comm : ∀ (l m : List UInt8) (k : Nat), df l m k = df m l k
  | [], [], _ => rfl
  | [], _ :: _, _ => rfl
  | _ :: _, [], _ => rfl
  | a :: l, b :: m, k => by
    simp only [df, df_comm l m]
    by_cases h : a = b
    · subst h; rfl
    · rw [if_neg h, if_neg (fun e => h e.symm)]

section
variable {l m : List UInt8} {k : Nat}
theorem df_drop (h : k < l.length) (h' : k < m.length) : df (l.drop k) (m.drop k) k = if l[k] = m[k] then df (l.drop (k + 1)) (m.drop (k + 1)) (k + 1) else (k : Int) := by
  rw [List.drop_eq_getElem_cons h, List.drop_eq_getElem_cons h']
  rfl
theorem df_step (h : k < l.length) (h' : k < m.length) (he : ((l[k].toNat : Int) != (m[k].toNat : Int)) = false) (H : df l m 0 = df (l.drop k) (m.drop k) k) : Hid (df l m 0 = df (l.drop (k + 1)) (m.drop (k + 1)) (k + 1)) := by
  show _ = _
  have : l[k] = m[k] := by apply UInt8.toNat.inj; simp at he; omega
  rw [H, df_drop h h', if_pos this]
theorem df_here (h : k < l.length) (h' : k < m.length) (he : ((l[k].toNat : Int) != (m[k].toNat : Int)) = true) (H : df l m 0 = df (l.drop k) (m.drop k) k) : df l m 0 = (k : Int) := by
  have : ¬ l[k] = m[k] := by intro e; rw [e] at he; simp at he
  rw [H, df_drop h h', if_neg this]
theorem df_left (h : l.length ≤ k) (h' : k < m.length) (H : df l m 0 = df (l.drop k) (m.drop k) k) : df l m 0 = (k : Int) := by
  rw [H, List.drop_eq_nil_of_le h, List.drop_eq_getElem_cons h']
  rfl
theorem df_right (h : k < l.length) (h' : m.length ≤ k) (H : df l m 0 = df (l.drop k) (m.drop k) k) : df l m 0 = (k : Int) := by
  rw [H, List.drop_eq_nil_of_le h', List.drop_eq_getElem_cons h]
  rfl
theorem df_end (h : l.length ≤ k) (h' : m.length ≤ k) (H : df l m 0 = df (l.drop k) (m.drop k) k) : df l m 0 = -1 := by
  rw [H, List.drop_eq_nil_of_le h', List.drop_eq_nil_of_le h]
  rfl
end

end Go.Proofs.YtfmbfojlopibnaaDoor
