import Derived.Test.YtglfcfepgjldfaaFJ
namespace Go.Proofs.Ytglfcfepgjldfaa.Fe
open Go.RowKit Go.Shelf
attribute [local go_sem] Oper.semAt_some

/- A LAW's OWN FEED AND ITS COPY. -/
structure Two (Has : HasT) (w : World) (v v' : Value) (l : List UInt8) (p p' : Nat) (V : World) : Prop where
  ex : ∃ F F', Has V v l p F ∧ Has V v' l p' F' ∧ (∀ k, F k → ¬ F' k) ∧ (∀ k, F k → w.heap.size ≤ k) ∧ ∀ k, F' k → w.heap.size ≤ k
  below : Below w.heap.size w V
/-- behind a take: a slice of bytes that are nobody else's -/
def TakeP (w V : World) (l : List UInt8) (p m : Nat) (S : World → Prop) (e : Ending) (V' : World) : Prop :=
  ∃ A c, e = .returned (.tuple #[.slice A ((l.drop p).take m).length c, .int .i64 0]) ∧ Sees V' V'.heap.size A (byt ((l.drop p).take m)) ∧ (∀ ad, A = some ad → (l.drop p).take m ≠ [] → V.heap.size ≤ ad.block) ∧ Below w.heap.size w V' ∧ S V'
section
variable {Has : HasT} (H : Api Has) {w V V' : World} {v v' : Value} {l : List UInt8} {p p' q : Nat}
theorem Two.swap (h : Two Has w v v' l p p' V) : Two Has w v' v l p' p V := by
  obtain ⟨⟨F, F', h1, h2, h3, h4, h5⟩, hb⟩ := h
  exact ⟨⟨F', F, h2, h1, fun k hk hf => h3 k hf hk, h5, h4⟩, hb⟩
theorem Two.run (h : Two Has w v v' l p p' V) : Run Has w v l p V := by
  obtain ⟨⟨F, F', h1, h2, h3, h4, h5⟩, hb⟩ := h
  exact ⟨F, h1, h4, hb⟩
include H
theorem Two.more (h : Two Has w v v' l p p' V) (hb : Below V.heap.size V V') : Two Has w v v' l p p' V' := by
  obtain ⟨⟨F, F', h1, h2, h3, h4, h5⟩, hb0⟩ := h
  exact ⟨⟨F, F', H.below h1 hb, H.below h2 hb, h3, h4, h5⟩, below0 hb0 hb⟩
theorem two_nx {F F' : Nat → Prop} (h2 : Has V v' l p' F') (h3 : ∀ k, F k → ¬ F' k) (h4 : ∀ k, F k → w.heap.size ≤ k) (h5 : ∀ k, F' k → w.heap.size ≤ k) (hb : Below w.heap.size w V) (hn : Nx Has V v l q F V') : Two Has w v v' l q p' V' :=
  ⟨⟨F, F', hn.1, H.keep h2 (fun k hk => hn.2.block k (H.lt h2 k hk) (fun hf => h3 k hf hk)), h3, h4, h5⟩, hb.trans (hn.2.below h4 hb.size)⟩
theorem Two.take (h : Two Has w v v' l p p' V) (m : Nat) (hm : m ≤ 9223372036854775807) : Calls Try.prog 14 #[v, .int .i64 (m : Int)] V (TakeP w V l p m (Two Has w v v' l (p + min m (l.length - p)) p')) := by
  obtain ⟨⟨F, F', h1, h2, h3, h4, h5⟩, hb⟩ := h
  refine (H.take m h1 hm).mono ?_
  rintro e V' ⟨A, c, rfl, hn, hr⟩
  have h6 := two_nx H h2 h3 h4 h5 hb hn
  refine ⟨A, c, rfl, fun hne => ?_, fun ad e hne => ?_, h6.below, h6⟩
  · obtain ⟨g, rest, h1, h2, h3⟩ := hr (fun e => hne (by rw [e]; rfl))
    have := (h3.sees).take (byt ((l.drop p).take m)).length
    rw [List.take_left] at this
    rw [h2]
    exact this hne
  · obtain ⟨g, rest, h1, h2, h3⟩ := hr hne
    rw [e] at h2
    injection h2 with h2
    subst h2
    exact h1
theorem Two.at_ (h : Two Has w v v' l p p' V) : Calls Try.prog 16 #[v] V fun e V' => e = .returned (.int .i64 (p : Int)) ∧ Below V.heap.size V V' := by
  obtain ⟨⟨F, F', h1, h2, h3, h4, h5⟩, hb⟩ := h
  exact H.at_ h1
theorem Two.left (h : Two Has w v v' l p p' V) : Calls Try.prog 17 #[v] V fun e V' => e = .returned (.int .i64 ((l.length - p : Nat) : Int)) ∧ Below V.heap.size V V' := by
  obtain ⟨⟨F, F', h1, h2, h3, h4, h5⟩, hb⟩ := h
  exact H.left h1
theorem Two.same (h : Two Has w v v' l p p' V) : Calls Try.prog 11 #[v, v'] V fun e V' => e = .returned (.bool (decide (l.drop p = l.drop p'))) ∧ Below V.heap.size V V' := by
  obtain ⟨⟨F, F', h1, h2, h3, h4, h5⟩, hb⟩ := h
  exact H.same h1 h2
theorem run_copy (h : Run Has w v l p V) : Calls Try.prog 12 #[v] V fun e V' => ∃ v', e = .returned v' ∧ Two Has w v v' l p p V' := by
  obtain ⟨F, h1, h2, h3⟩ := h
  exact (H.copy h1).mono fun e V' ⟨v', F', e1, e2, e3, e4⟩ => ⟨v', e1, ⟨F, F', H.below h1 e4, e2, fun k hk hf => by have := H.lt h1 k hk; have := e3 k hf; omega, h2, fun k hk => Nat.le_trans h3.size (e3 k hk)⟩, below0 h3 e4⟩
omit H
/-- bytes that were taken, and the feed -/
structure One (Has : HasT) (w : World) (v : Value) (l : List UInt8) (p : Nat) (A : Option Addr) (xs : List UInt8) (V : World) : Prop where
  ex : ∃ F, Has V v l p F ∧ (∀ k, F k → w.heap.size ≤ k) ∧ ∀ ad, A = some ad → byt xs ≠ [] → ¬ F ad.block
  sees : Sees V V.heap.size A (byt xs)
  below : Below w.heap.size w V
include H
theorem run_take1 (h : Run Has w v l p V) (m : Nat) (hm : m ≤ 9223372036854775807) : Calls Try.prog 14 #[v, .int .i64 (m : Int)] V fun e V' => ∃ A c, e = .returned (.tuple #[.slice A ((l.drop p).take m).length c, .int .i64 0]) ∧ One Has w v l (p + min m (l.length - p)) A ((l.drop p).take m) V' := by
  refine (Run.take H h m hm).mono ?_
  rintro e V' ⟨A, c, e1, _, e3, e4, F, e5, e6, e7⟩
  exact ⟨A, c, e1, ⟨F, e5, e6, fun ad ea hne => e7 ad ea (fun e => hne (by rw [e]; rfl))⟩, e4, e3⟩
theorem One.draw {A : Option Addr} {xs : List UInt8} (h : One Has w v l p A xs V) : Calls Try.prog 19 #[v] V fun e V' => e = .returned (.tuple #[.int .u32 (le ((l.drop p).take 4) : Int), .int .i64 0]) ∧ One Has w v l (p + min 4 (l.length - p)) A xs V' := by
  obtain ⟨⟨F, h1, h2, h3⟩, h4, h5⟩ := h
  exact (H.draw h1).mono fun _ _ ⟨e, hn⟩ => ⟨e, ⟨F, hn.1, h2, h3⟩, sees_keep h4 hn.2 h3, h5.trans (hn.2.below h2 h5.size)⟩
theorem One.seek {A : Option Addr} {xs : List UInt8} (h : One Has w v l p A xs V) (q : Nat) (hq : q ≤ l.length) : Calls Try.prog 18 #[v, .int .i64 (q : Int)] V fun e V' => e = .returned (.tuple #[.int .i64 (p : Int), .int .i64 0]) ∧ One Has w v l q A xs V' := by
  obtain ⟨⟨F, h1, h2, h3⟩, h4, h5⟩ := h
  exact (H.seek q h1 hq).mono fun _ _ ⟨e, hn⟩ => ⟨e, ⟨F, hn.1, h2, h3⟩, sees_keep h4 hn.2 h3, h5.trans (hn.2.below h2 h5.size)⟩
end
end Go.Proofs.Ytglfcfepgjldfaa.Fe
