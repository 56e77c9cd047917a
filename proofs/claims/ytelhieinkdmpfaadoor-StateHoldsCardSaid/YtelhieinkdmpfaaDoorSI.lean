import Derived.Test.YtelhieinkdmpfaaDoorSV
import Derived.Test.YtelhieinkdmpfaaDoorRange
namespace Go.Proofs.YtelhieinkdmpfaaDoor.Sh
open Go.RowKit Go.Shelf
attribute [local go_sem] Oper.semAt_some

/- WHAT THE LAWS ASK OF THE CODE's SHEETS, WHATEVER THEY LOOK LIKE; A CALL BY BOTH. -/
def i64 (z : Int) : Prop := -9223372036854775808 ≤ z ∧ z ≤ 9223372036854775807
abbrev HasT := World → Value → Ls → (Nat → Prop) → Prop
/-- behind a call: the sheet, in blocks that it had or new ones -/
def Nx (Has : HasT) (w : World) (v : Value) (l' : Ls) (F : Nat → Prop) (w' : World) : Prop := ∃ F', Has w' v l' F' ∧ Keep F w w' ∧ ∀ k, F' k → F k ∨ w.heap.size ≤ k
def inB (l : Ls) (z : Int) : Bool := decide (0 ≤ z ∧ z < (l.length : Int))
def getV (l : Ls) (z : Int) : Int := if inB l z then l.getD z.toNat 0 else 0
def encN (x : Nat) : Array Value := #[.int .i64 (x : Int)]
def preN (L pre : List Nat) (x : Nat) (_ : World) : Prop := ∃ post, L = pre ++ x :: post
def allN (L xs : List Nat) : Prop := xs = L
def someN (L xs : List Nat) : Prop := ∃ post, L = xs ++ post
structure Api (Has : HasT) : Prop where
  keep : ∀ {w w' v l F}, Has w v l F → (∀ k, F k → w'.heap[k]? = w.heap[k]?) → Has w' v l F
  lt : ∀ {w v l F}, Has w v l F → ∀ k, F k → k < w.heap.size
  ptr : ∀ {w v l F}, Has w v l F → ∃ ad, v = .pointer (some ad)
  sts : ∀ {w v l F}, Has w v l F → Sts l
  most : ∀ {w v l F}, Has w v l F → l.length ≤ 256
  may : ∀ (a b : Int) (w : World), Tb w → i64 a → i64 b → Calls Tryd.prog 7 #[.int .i64 a, .int .i64 b] w fun e w' => e = .returned (.bool (stB b && mayB a b)) ∧ Below w.heap.size w w'
  name : ∀ (z : Int) (w : World), Tb w → i64 z → Calls Tryd.prog 10 #[.int .i64 z] w fun e w' => e = .returned (.string (nameB z)) ∧ Below w.heap.size w w'
  new : ∀ (w : World) (n : Nat), n ≤ 256 → Calls Tryd.prog 13 #[.int .i64 (n : Int)] w fun e w' => ∃ v F, e = .returned (.tuple #[v, .int .i64 0]) ∧ Has w' v (zs n) F ∧ (∀ k, F k → w.heap.size ≤ k) ∧ Below w.heap.size w w'
  newNo : ∀ (w : World) (z : Int), i64 z → z < 0 ∨ 256 < z → Calls Tryd.prog 13 #[.int .i64 z] w fun e w' => e = .returned (.tuple #[.pointer none, .int .i64 2]) ∧ Below w.heap.size w w'
  get : ∀ {w v l F} (z : Int), Has w v l F → i64 z → Calls Tryd.prog 16 #[v, .int .i64 z] w fun e w' => e = .returned (.tuple #[.int .i64 (getV l z), .bool (inB l z)]) ∧ Below w.heap.size w w'
  move : ∀ {w v l F} (a t : Int), Tb w → Has w v l F → i64 a → i64 t → Calls Tryd.prog 15 #[v, .int .i64 a, .int .i64 t] w fun e w' => e = .returned (.tuple #[.int .i64 (moveW l a t), .int .i64 (moveE l a t)]) ∧ Nx Has w v (moveL l a t) F w'
  count : ∀ {w v l F} (x : Int), Has w v l F → i64 x → Calls Tryd.prog 19 #[v, .int .i64 x] w fun e w' => e = .returned (.int .i64 ((places l x).length : Int)) ∧ Below w.heap.size w w'
  len : ∀ {w v l F}, Has w v l F → Calls Tryd.prog 18 #[v] w fun e w' => e = .returned (.int .i64 (l.length : Int)) ∧ Below w.heap.size w w'
  text : ∀ {w v l F}, Has w v l F → Calls Tryd.prog 21 #[v] w fun e w' => e = .returned (.string (str (text l))) ∧ Below w.heap.size w w'
  parse : ∀ (s : ByteArray) (l : Ls) (w : World), s.size ≤ 256 → untext s.data.toList = some l → Calls Tryd.prog 26 #[.string s] w fun e w' => ∃ v F, e = .returned (.tuple #[v, .int .i64 0]) ∧ Has w' v l F ∧ (∀ k, F k → w.heap.size ≤ k) ∧ Below w.heap.size w w'
  parseNo : ∀ (s : ByteArray) (w : World), s.size ≤ maxLen → 256 < s.size ∨ untext s.data.toList = none → Calls Tryd.prog 26 #[.string s] w fun e w' => e = .returned (.tuple #[.pointer none, .int .i64 241]) ∧ Below w.heap.size w w'
  copy : ∀ {w v l F}, Has w v l F → Calls Tryd.prog 22 #[v] w fun e w' => ∃ v' F', e = .returned v' ∧ Has w' v' l F' ∧ (∀ k, F' k → w.heap.size ≤ k) ∧ Below w.heap.size w w'
  same : ∀ {w v l F v' l' F'}, Has w v l F → Has w v' l' F' → Calls Tryd.prog 23 #[v, v'] w fun e w' => e = .returned (.bool (decide (l = l'))) ∧ Below w.heap.size w w'
  all : ∀ {w v l F} (x : Int), Has w v l F → i64 x → Calls Tryd.prog 28 #[v, .int .i64 x] w fun e w' => ∃ gf lb Pv, e = .returned (.func (.func gf) #[] lb) ∧ (∀ (args : Array Value) (V : World), (callFunc gf args).run Tryd.prog V = .ok (.enter gf args) V) ∧
    (∀ V : World, (binOp .eql 62 (.func (.func gf) #[] lb) .nilFunc).run Tryd.prog V = .ok (.bool false) V) ∧
    It Tryd.prog gf lb encN (fun _ _ => False) (preN (places l x)) Pv (allN (places l x)) (someN (places l x)) w' ∧ (∀ k, Pv k → w.heap.size ≤ k ∧ k < w'.heap.size) ∧ Below w.heap.size w w'
section
variable {Has : HasT} (H : Api Has) {w w' : World} {v vv : Value} {l l' : Ls} {F : Nat → Prop}
include H
theorem Api.below (h : Has w v l F) (hb : Below w.heap.size w w') : Has w' v l F := H.keep h fun k hk => hb.block _ (H.lt h k hk)
theorem Api.nx (h : Has w v l F) (hb : Below w.heap.size w w') : Nx Has w v l F w' := ⟨F, H.below h hb, Keep.of_below hb, fun _ hk => .inl hk⟩
end
/-- a list that is none of those blocks -/
def Ap (v : Value) (l : Ls) (F : Nat → Prop) : Prop := l ≠ [] → ∀ g, v.ownBlock = some g → ¬ F g
theorem Wi.keep {w w' : World} {v : Value} {l : Ls} {F : Nat → Prop} (h : Wi w v l) (ha : Ap v l F) (hk : Keep F w w') : Wi w' v l := by
  obtain ⟨A, c, rfl, hc, h⟩ := h
  refine ⟨A, c, rfl, hc, fun hn => ?_⟩
  obtain ⟨g, rest, rfl, hr⟩ := h hn
  exact ⟨g, rest, rfl, hr.same (hk.block g hr.lt (ha hn g rfl))⟩
theorem Wi.lt {w : World} {v : Value} {l : Ls} (h : Wi w v l) (hn : l ≠ []) : ∀ g, v.ownBlock = some g → g < w.heap.size := by
  obtain ⟨A, c, rfl, hc, h⟩ := h
  obtain ⟨g, rest, rfl, hr⟩ := h hn
  intro k hk
  cases hk
  exact hr.lt
/-- a call -/
structure Ac where
  copy : Bool
  at_ : Int
  to : Int
def Ac.cells (x : Ac) : List Value := [.bool x.copy, .int .i64 x.at_, .int .i64 x.to]
def Ac.fits (x : Ac) : Prop := i64 x.at_ ∧ i64 x.to
def actL (l : Ls) (x : Ac) : Ls := if x.copy then l else moveL l x.at_ x.to
theorem actL_len (l : Ls) (x : Ac) : (actL l x).length = l.length := by unfold actL; split <;> simp [moveL_len]
theorem num_any (z : Int) (w : World) : Calls Tryd.prog 17 #[.int .i64 z] w fun e w' => e = .returned (.int .i64 z) ∧ w = w' := by
  go_enter Tryd.func17, Tryd.ntmps17
  go_wp2_with fail
  go_ret
  exact ⟨rfl, rfl⟩
/-- behind a call by both -/
def ActP (Has : HasT) (w : World) (F : Nat → Prop) (vv : Value) (l' : Ls) (e : Ending) (w' : World) : Prop :=
  ∃ v' vv' F', e = .returned (.tuple #[v', vv', .bool true]) ∧ Has w' v' l' F' ∧ Wi w' vv' l' ∧ Ap vv' l' F' ∧ Keep F w w' ∧ (∀ k, F' k → F k ∨ w.heap.size ≤ k) ∧ (vv' = vv ∨ ∀ g, vv'.ownBlock = some g → w.heap.size ≤ g)
end Go.Proofs.YtelhieinkdmpfaaDoor.Sh
