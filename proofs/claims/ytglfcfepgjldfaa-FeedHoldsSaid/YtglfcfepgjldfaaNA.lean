import Derived.Test.YtglfcfepgjldfaaFC
import Derived.Test.YtglfcfepgjldfaaMake
import Derived.Laws.IdiomCopy
import Derived.Laws.Cover3
import Derived.Lib.SlBuf
import Derived.Laws.Entries
import Derived.Laws.EntriesVeiled
import Derived.Shelf.RegionOpen
import Derived.Deep.RegionHeld3
import Derived.BigQuiet
namespace Go.Proofs.Ytglfcfepgjldfaa.Fe
open Go.RowKit Go.Shelf
attribute [local go_sem] Oper.semAt_some

/- A FEED IN MEMORY: A ROW OF BYTES AND A PLACE; THE SMALL FUNCTIONS. -/
abbrev pb (b : Nat) : Value := .pointer (some ⟨b, 0, none⟩)
structure FRep (w : World) (b g : Nat) (l : List UInt8) (p : Nat) : Prop where
  obj : Row w b 54 [.slice (some ⟨g, 0, none⟩) l.length l.length, .int .i64 (p : Int)]
  row : Row w g 5 (byt l)
  le : p ≤ l.length
  most : l.length ≤ 300
section
variable {w w' : World} {b g p : Nat} {l : List UInt8}
theorem FRep.c0 (h : FRep w b g l p) : w.cell? ⟨b, 0, none⟩ = some (.slice (some ⟨g, 0, none⟩) l.length l.length) := h.obj.cell 0
theorem FRep.c1 (h : FRep w b g l p) : w.cell? ⟨b, 1, none⟩ = some (.int .i64 (p : Int)) := h.obj.cell 1
theorem FRep.ne (h : FRep w b g l p) : b ≠ g := by
  rintro rfl
  have := h.obj.symm.trans h.row
  injection this with this
  injection this with _ e
  exact absurd e (by decide)
theorem FRep.same (h : FRep w b g l p) (h1 : w'.heap[b]? = w.heap[b]?) (h2 : w'.heap[g]? = w.heap[g]?) : FRep w' b g l p := ⟨h.obj.same h1, h.row.same h2, h.le, h.most⟩
theorem FRep.below (h : FRep w b g l p) (hb : Below w.heap.size w w') : FRep w' b g l p := h.same (hb.block _ h.obj.lt) (hb.block _ h.row.lt)
/-- the place is set -/
theorem FRep.at_ (h : FRep w b g l p) {q : Nat} (hq : q ≤ l.length) : FRep (w.setCell ⟨b, 1, none⟩ (.int .i64 (q : Int))) b g l q :=
  ⟨h.obj.set 1 _, h.row.same (heap_set h.ne.symm), hq, h.most⟩
end
/-- no feed: nil, or what no call made -/
def NonF (w : World) (v : Value) : Prop := v = .pointer none ∨ ∃ b, v = pb b ∧ w.cell? ⟨b, 0, none⟩ = some (.slice none 0 0)
theorem NonF.below {w w' : World} {v : Value} (h : NonF w v) (hb : Below w.heap.size w w') : NonF w' v := by
  rcases h with h | ⟨b, h1, h2⟩
  · exact .inl h
  · exact .inr ⟨b, h1, (hb.cell (p := ⟨b, 0, none⟩) (lt_of_cell h2)).trans h2⟩
theorem NonF.ptr {w : World} {v : Value} (h : NonF w v) : ∃ pv, v = .pointer pv := by
  rcases h with rfl | ⟨b, rfl, _⟩
  · exact ⟨_, rfl⟩
  · exact ⟨_, rfl⟩
theorem there_non (v : Value) (w : World) (h : NonF w v) : Calls Try.prog 26 #[v] w fun e w' => e = .returned (.bool false) ∧ w = w' := by
  rcases h with rfl | ⟨b, rfl, hc⟩
  · go_enter Try.func26, Try.ntmps26
    go_wp2_with fail
    go_ret
    exact ⟨rfl, rfl⟩
  · go_enter Try.func26, Try.ntmps26
    go_wp2_with fail

    go_ret
    exact ⟨rfl, rfl⟩
theorem there_at (b : Nat) (ad : Addr) (n c : Nat) (w : World) (hc : w.cell? ⟨b, 0, none⟩ = some (.slice (some ad) n c)) : Calls Try.prog 26 #[pb b] w fun e w' => e = .returned (.bool true) ∧ w = w' := by
  go_enter Try.func26, Try.ntmps26
  go_wp2_with fail
  go_ret
  exact ⟨rfl, rfl⟩
/-- where the bytes from a place on lie: at the end of all, it is still the row's own place -/
def adr (g p n : Nat) : Option Addr := some (if n = p then ⟨g, 0, none⟩ else ⟨g, p, none⟩)
theorem adr_sees {w : World} {g : Nat} {l : List UInt8} (h : Row w g 5 (byt l)) {p : Nat} : Sees w w.heap.size (adr g p l.length) (byt (l.drop p)) := by
  unfold adr
  by_cases hp : l.length = p
  · rw [if_pos hp, ← hp, List.drop_length]
    exact fun hn => absurd rfl hn
  · rw [if_neg hp]
    have := (h.sees).sub p (byt l).length
    rw [Nat.zero_add] at this
    rw [← byt_drop]
    have e : ((byt l).drop p).take (byt l).length = (byt l).drop p := List.take_of_length_le (by simp)
    rw [e] at this
    exact this
theorem from_any (g n p : Nat) (w : World) (hp : p ≤ n) : Calls Try.prog 41 #[.slice (some ⟨g, 0, none⟩) n n, .int .i64 (p : Int)] w fun e w' => e = .returned (.slice (adr g p n) (n - p) (n - p)) ∧ w = w' := by
  have hsz : ∀ W : World, (sizeOf (Program.elem Try.prog 52)).run Try.prog W = .ok 1 W := fun _ => by kernel_rfl
  have hsl : (Instr.slice 52 (.slice (some ⟨g, 0, none⟩) n n) (some (.int .i64 (p : Int))) none none).run Try.prog w = .ok (.slice (adr g p n) (n - p) (n - p)) w := by
    rw [run_slice_l w 52 (some ⟨g, 0, none⟩) n n Try.underlying52 .i64 (p : Int) (by omega) (by omega), hsz]
    simp only [Result.andThen, sliced, Int.toNat_natCast, Nat.mul_one, adr, Option.map, add_plain, Nat.zero_add]
    by_cases h : n = p
    · rw [if_pos h, if_pos h]
    · rw [if_neg h, if_neg h]
  clear hsz
  go_enter Try.func41, Try.ntmps41
  go_wp2_with fail
  go_ret
  exact ⟨rfl, rfl⟩
theorem left_non (v : Value) (w : World) (h : NonF w v) : Calls Try.prog 28 #[v] w fun e w' => e = .returned (.slice none 0 0) ∧ w = w' := by
  have h1 := Lib.hid (there_non v w h)
  obtain ⟨pv, rfl⟩ := h.ptr
  clear h
  go_enter Try.func28, Try.ntmps28
  go_wp2_with fail
  refine h1.out.mono ?_
  rintro e w1 ⟨rfl, rfl⟩
  go_wp2_with fail
  go_ret
  exact ⟨rfl, rfl⟩
set_option maxHeartbeats 1000000 in
theorem left_any {w : World} {b g p : Nat} {l : List UInt8} (h : FRep w b g l p) : Calls Try.prog 28 #[pb b] w fun e w' => e = .returned (.slice (adr g p l.length) (l.length - p) (l.length - p)) ∧ Below w.heap.size w w' := by
  have hc0 := h.c0
  have hc1 := h.c1
  have lb := h.obj.lt
  have h1 := Lib.hid (there_at b _ _ _ w hc0)
  have h2 := Lib.hid (fun w => from_any g l.length p w h.le)
  obtain ⟨A, hA⟩ : ∃ A, A = adr g p l.length := ⟨_, rfl⟩
  obtain ⟨m, hm⟩ : ∃ m, m = l.length - p := ⟨_, rfl⟩
  obtain ⟨n, hn⟩ : ∃ n, n = l.length := ⟨_, rfl⟩
  rw [← hA, ← hm, ← hn] at h2
  rw [← hn] at hc0
  rw [← hA, ← hm]
  have HSA := Lib.hid (fun W (hB : Below w.heap.size w W) => (show W.cell? ⟨b, 0, none⟩ = some (.slice (some ⟨g, 0, none⟩) n n) ∧ W.cell? ⟨b, 1, none⟩ = some (.int .i64 (p : Int)) ∧ Below w.heap.size w W from
    ⟨(hB.cell (p := ⟨b, 0, none⟩) lb).trans hc0, (hB.cell (p := ⟨b, 1, none⟩) lb).trans hc1, hB⟩))
  have hdr := Lib.hid (show Below w.heap.size w w.drew from (Below.refl _ _).drew)
  clear hA hm hn h lb
  go_enter Try.func28, Try.ntmps28
  go_wp2_with fail
  refine h1.out.mono ?_
  rintro e w1 ⟨rfl, rfl⟩
  go_wp2_with fail
  go_region_held3 (fun W => W.cell? ⟨b, 0, none⟩ = some (.slice (some ⟨g, 0, none⟩) n n) ∧ W.cell? ⟨b, 1, none⟩ = some (.int .i64 (p : Int)) ∧ Below w.heap.size w W)
    (first | exact HSA.out _ hdr.out | exact HSA.out _ (by assumption) | (go_split_ands; exact HSA.out _ (by assumption)))
    (first | (go_at_call 41; refine (h2.out _).mono ?_; rintro e w2 ⟨rfl, rfl⟩))
  go_wp2
  go_ret
  exact ⟨rfl, by go_split_ands; assumption⟩
end Go.Proofs.Ytglfcfepgjldfaa.Fe
