import Derived.Test.YtpnlddjobphjnaaDoorKind
import Derived.Test.YtpnlddjobphjnaaDoorBaseIn
namespace Go.Proofs.YtpnlddjobphjnaaDoor
open Go.RowKit Go.Shelf
attribute [local go_sem] Oper.semAt_some

theorem nextO_bound {O M : Nat → Prop} {B : Nat} {W W' : World} (hO : ∀ b, O b → B ≤ b ∧ b < W.heap.size) (hB : B ≤ W.heap.size) (hs : W.heap.size ≤ W'.heap.size) (hM : ∀ b, M b → B ≤ b ∧ b < W.heap.size := by exact fun _ h => h.elim) :
    ∀ b, nextO O M W W' b → B ≤ b ∧ b < W'.heap.size := by
  rintro b (h | h | h)
  · have := hO b h; omega
  · have := hM b h; omega
  · omega
theorem Abid.below {β : Type} {B : Nat} {J : β → (Nat → Prop) → World → Prop} (hJ : Abid B J) {s : β} {O : Nat → Prop} {W W' : World} (h : J s O W) (hb : Below W.heap.size W W') : J s O W' :=
  hJ _ _ _ _ none h ⟨hb.os, hb.tape, hb.output, hb.size, fun k hk _ => hb.block k hk⟩ (fun r e => by cases e)

def encKind (k : Nat) : Array Value := #[kv k (pay k)]
def preK (pre : List Nat) (x : Nat) (_ : World) : Prop := x = pre.length ∧ x < 8 ∧ pre = List.range x
def allK (xs : List Nat) : Prop := xs = List.range 8
def someK (xs : List Nat) : Prop := xs = List.range xs.length ∧ xs.length ≤ 8
abbrev payG (k : Nat) : Prop := k = 0
theorem range_snoc {pre : List Nat} {k : Nat} (h : pre = List.range k) : Hid (pre ++ [k] = List.range (k + 1)) := by
  show _ = _
  rw [List.range_succ, h]

set_option maxHeartbeats 1000000 in
theorem kinds1_it (w0 : World) (ht : Tab w0) : It Tryd.prog 47 #[] encKind (fun _ _ => False) preK payG allK someK w0 := by
  intro l J Jx W hpW hsW hJ hJx hY h0
  have htW : Tab W := ht.same (hpW _ rfl)
  refine (callsIn_wide (n := 1)).1 ?_
  refine callsIn_of_wp Tryd.func47 rfl trivial ?_ rfl
  simp only [Tryd.ntmps47, List.size_toArray, List.length_cons, List.length_nil, Nat.reduceAdd, Nat.reduceSub, Array.replicate_succ, Array.replicate_zero, List.push_toArray, List.append_toArray, List.nil_append, List.cons_append]
  gi_wp2_with fail
  gi_loopw [3] (fun t wr => ∃ (k : Nat) (pre : List Nat) (O : Nat → Prop), t = .int .i64 k ∧ k ≤ 8 ∧ Hid (pre = List.range k) ∧ J pre O wr ∧ W.heap.size ≤ wr.heap.size ∧ (∀ b, O b → W.heap.size ≤ b ∧ b < wr.heap.size) ∧ Tab wr) (fun t _ => 8 - (intOf t).toNat)
  case atStart => exact ⟨0, [], fun _ => False, rfl, by omega, rfl, h0, Nat.le_refl _, fun b (h : False) => h.elim, htW⟩
  case round =>
    obtain ⟨k, pre, O, rfl, hk, Hpre, hj, hws, hO, htr⟩ := hrel
    by_cases hlt : k < 8
    · have hl8 : decide ((k : Int) < 8) = true := decide_eq_true (by omega)
      have hlen : pre.length = k := by rw [Hpre.out]; simp
      have Hlen := Lib.hid hlen
      clear hlen
      gi_wp2_with fail
      refine ⟨trivial, (callsIn_wide.2 (kindOf_yes k _ htr hlt)).mono ?_⟩
      rintro e w1 ⟨rfl, hb1⟩
      obtain ⟨fn, tmps, assign, body, hy, hR⟩ := hY pre k O w1 (Nat.le_trans hws hb1.size) (fun b h => by have := hO b h; have := hb1.size; omega) (hJ.below hj (hb1.mono (by omega))) ⟨Hlen.out.symm, hlt, Hpre.out⟩ (fun b (h : False) => h.elim)
      simp only [encKind] at hy
      gi_wp2
      refine hR.mono ?_
      rintro e W' ⟨hk', (⟨rfl, hj'⟩ | ⟨rfl, hjx⟩)⟩
      · gi_wp2
        go_roundw
        case rel => exact ⟨k + 1, _, _, by go_num, by omega, range_snoc Hpre.out, hj', Nat.le_trans (Nat.le_trans hws hb1.size) hk'.size, nextO_bound (M := fun _ => False) (fun b h => by have := hO b h; have := hb1.size; omega) (Nat.le_trans hws hb1.size) hk'.size, (htr.below hb1).same (hk'.same _ (htr.below hb1).lt (.inl rfl))⟩
        case measure => simp [intOf]; omega
      · gi_wp2
        refine bodyPost_ret (results_none rfl _ _ _) rfl ?_
        have HX := range_snoc Hpre.out
        exact itEnd.part ⟨by rw [List.length_append, Hlen.out]; exact HX.out, by rw [List.length_append, Hlen.out]; simp; omega⟩ hjx
    · obtain rfl : k = 8 := by omega
      gi_wp2
      go_end0
      exact itEnd.all Hpre.out hj

theorem kinds_any (w : World) : Calls Tryd.prog 40 #[] w fun e w' => e = .returned (.func (.func 47) #[] #[]) ∧ w = w' := by
  go_enter Tryd.func40, Tryd.ntmps40
  go_wp2
  go_ret
  exact ⟨rfl, rfl⟩
end Go.Proofs.YtpnlddjobphjnaaDoor
