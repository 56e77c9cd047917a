import Derived.Test.YtnbehncbjbkjpaaCount
import Derived.Deep.MidRow
import Derived.Deep.RegionHeld3
import Derived.BigQuiet
namespace Go.Proofs.Ytnbehncbjbkjpaa
open Go.RowKit Go.Shelf Go.Maps Go.Sort
attribute [local go_sem] Oper.semAt_some

/- HOW MANY AN OWNER HAS RESERVED; HOW MANY ARE UNRESERVED. -/

theorem has_any {b bm o : Nat} {p : Pl} {fv sv : Value} {fb : List (List UInt8)} {gf gs : Option Nat} {w : World} (h : Rep w b p bm fv sv fb gf gs) :
    Calls Try.prog 23 #[.pointer (some ⟨b, 0, none⟩), .int .i64 (o : Int)] w fun e w' => e = .returned (.int .i64 (taken p.fr o : Int)) ∧ Below w.heap.size w w' :=
  has_map b bm 16384 o p.fr w h.ok.most h.c1 h.map

theorem taken_le (p : Pl) (h : p.ok) (o : Nat) : taken p.fr o ≤ 16384 := Nat.le_trans (taken_used _ _) (Nat.le_trans (used_len _) h.most)
theorem left_le (p : Pl) (h : p.ok) (o : Nat) : leftN p o ≤ 16384 := by
  rcases Nat.lt_or_ge o 64 with ho | ho
  · have := sum_ge _ _ _ (h.left_get ho)
    have := h.sum
    have := h.most
    omega
  · unfold leftN
    rw [List.getElem?_eq_none (by rw [h.l64]; exact ho)]
    simp

set_option maxHeartbeats 1000000 in
theorem reserved_any {b bm o : Nat} {p : Pl} {fv sv : Value} {fb : List (List UInt8)} {gf gs : Option Nat} {w : World} (h : Rep w b p bm fv sv fb gf gs) (ho : o < 64) :
    Calls Try.prog 25 #[.pointer (some ⟨b, 0, none⟩), .int .i64 (o : Int)] w fun e w' => e = .returned (.int .i64 (resN p o : Int)) ∧ Below w.heap.size w w' := by
  have hh := Lib.hid (fun V (hb : Below w.heap.size w V) => (show Calls Try.prog 23 #[.pointer (some ⟨b, 0, none⟩), .int .i64 (o : Int)] V (fun e w' => e = .returned (.int .i64 (taken p.fr o : Int)) ∧ Below w.heap.size w w') from
    (has_any (o := o) (h.below hb)).mono fun e w' ⟨h1, h2⟩ => ⟨h1, hb.trans (h2.mono hb.size)⟩))
  have hcl := h.cl ho
  have hlt := h.obj.lt
  have hwr : IntKind.i64.wrap ((leftN p o : Int) + (taken p.fr o : Int)) = (resN p o : Int) := by
    have := taken_le p h.ok o
    have := left_le p h.ok o
    rw [wrapI _ (by omega) (by omega)]
    unfold resN
    omega
  obtain ⟨x, hx⟩ : ∃ x, x = leftN p o := ⟨_, rfl⟩
  obtain ⟨y, hy⟩ : ∃ y, y = taken p.fr o := ⟨_, rfl⟩
  obtain ⟨z, hz⟩ : ∃ z, z = resN p o := ⟨_, rfl⟩
  rw [← hx, ← hy, ← hz] at hwr
  rw [← hy] at hh
  rw [← hx] at hcl
  rw [← hz]
  have HSA := Lib.hid (fun W (hB : Below w.heap.size w W) => (show W.cell? ⟨b, 2 + o, none⟩ = some (.int .i64 (x : Int)) ∧ Below w.heap.size w W from ⟨(hB.cell (p := ⟨b, 2 + o, none⟩) hlt).trans hcl, hB⟩))
  have hdr := Lib.hid (show Below w.heap.size w w.drew from (Below.refl _ _).drew)
  have i0 : (0 : Int) ≤ (o : Int) := by omega
  have i1 : (o : Int) < 64 := by omega
  clear hx hy hz h
  go_enter Try.func25, Try.ntmps25
  go_wp2_with fail
  go_region_held3 (fun W => W.cell? ⟨b, 2 + o, none⟩ = some (.int .i64 (x : Int)) ∧ Below w.heap.size w W)
    (first | exact HSA.out _ hdr.out | exact HSA.out _ (by assumption) | (go_split_ands; exact HSA.out _ (by assumption)))
    (first | (go_at_call 23; refine (hh.out _ (by go_split_ands; assumption)).mono ?_; rintro e w2 ⟨rfl, hb2⟩))
  go_wp2
  go_ret
  exact ⟨rfl, hb2⟩

theorem sum_take_succ (l : List Nat) (k : Nat) (h : k < l.length) : (l.take (k + 1)).sum = (l.take k).sum + l[k] := by
  rw [List.take_succ_eq_append_getElem h, List.sum_append]
  simp
theorem sum_take_le (l : List Nat) (k : Nat) : (l.take k).sum ≤ l.sum := by
  conv => rhs; rw [← List.take_append_drop k l, List.sum_append]
  omega
theorem int_info : (Try.prog.info? 3).map (fun i => (i.zero, i.size, i.bytes)) = some (some (.int .i64 0), 1, 8) := by kernel_rfl
theorem run_index64 (w : World) (l : List Nat) (k : Nat) (hk : k < l.length) (h64 : k < 64) :
    (Instr.index 54 (.agg (l.map iv).toArray) (.int .i64 (k : Int))).run Try.prog w = .ok (.int .i64 (l[k] : Int)) w := by
  obtain ⟨i0, hi, hz0, hz1, hz2⟩ := info_parts int_info
  simp [Instr.index, run_underlying Try.underlying54, run_underlying Try.underlying3, asIntOf, sizeOf, typeInfo, hi, hz1, part, isAgg, go_sem, h64]
  rw [List.getElem?_eq_getElem hk]
  rfl

set_option maxRecDepth 100000 in
set_option maxHeartbeats 1000000 in
theorem room_any {b bm : Nat} {p : Pl} {fv sv : Value} {fb : List (List UInt8)} {gf gs : Option Nat} {w : World} (h : Rep w b p bm fv sv fb gf gs) :
    Calls Try.prog 26 #[.pointer (some ⟨b, 0, none⟩)] w fun e w' => e = .returned (.int .i64 (p.room : Int)) ∧ ∃ m, w' = w.drewN m := by
  have hc0 := h.c0
  have hc1 := h.c1
  have hl64 := h.ok.l64
  have hroom := h.ok.room_eq
  have hmost := h.ok.most
  have hlen : ∀ m ty, (Builtin.len_ #[35] ty #[.map (some bm)]).run Try.prog (w.drewN m) = .ok (.int .i64 (used p.fr : Int)) (w.drewN m) := fun m ty => by
    have := (owns_same (w' := w.drewN m) h.map rfl).len Try.underlying35 ty
    rw [mapD_size, owns_used] at this
    exact this
  have hlen0 := fun ty => (show (Builtin.len_ #[35] ty #[.map (some bm)]).run Try.prog w = .ok (.int .i64 (used p.fr : Int)) w from hlen 0 ty)
  have hrow : w.rangeAt b 2 (p.left.map iv) := fun j v hj => by
    rw [List.getElem?_map, Option.map_eq_some_iff] at hj
    obtain ⟨x, hx, rfl⟩ := hj
    have hj64 : j < 64 := by rw [← hl64]; exact (List.getElem?_eq_some_iff.1 hx).1
    rw [h.cl hj64]
    have := h.ok.left_get hj64
    rw [hx] at this
    injection this with this
    rw [this]
    rfl
  have hsz : (Try.prog.info? 54).map (·.size) = some (p.left.map iv).length := by rw [List.length_map, hl64]; kernel_rfl
  have HRW := Lib.hid (fun m => (show (w.drewN m).rangeAt b 2 (p.left.map iv) from hrow))
  have HSZ := Lib.hid hsz
  have hix := Lib.hid (fun W k hk => run_index64 W p.left k hk (by rw [← hl64]; exact hk))
  have hst := Lib.hid (fun k => sum_take_le p.left k)
  have hss := Lib.hid (fun k hk => sum_take_succ p.left k hk)
  obtain ⟨N, hN⟩ : ∃ N, N = p.fr.length := ⟨_, rfl⟩
  obtain ⟨U, hU⟩ : ∃ U, U = used p.fr := ⟨_, rfl⟩
  obtain ⟨R, hR⟩ : ∃ R, R = p.room := ⟨_, rfl⟩
  obtain ⟨L, hL⟩ : ∃ L, L = p.left := ⟨_, rfl⟩
  rw [← hN] at hc0 hroom hmost
  rw [← hU] at hlen hlen0 hroom
  rw [← hR] at hroom ⊢
  rw [← hL] at hroom hl64 HRW HSZ hix hst hss
  have hw1 : IntKind.i64.wrap ((N : Int) - (U : Int)) = (N : Int) - (U : Int) := wrapI _ (by omega) (by omega)
  have HR := Lib.hid hroom
  have HM := Lib.hid hmost
  have H64 := Lib.hid hl64
  clear hN hU hR hL hrow hsz h hroom hmost hl64
  go_enter Try.func26, Try.ntmps26
  go_wp2_with fail
  go_quiet (fail)
  go_wp2_with (refine wpList_load_mid rfl 54 (.tmp 18) rfl b 2 rfl (L.map iv) _ (HRW.out _) Try.underlying54 rfl HSZ.out ?_)
  go_loopw [3, 20] (fun s3 s20 wr => ∃ k : Nat, k ≤ 64 ∧ s20 = .int .i64 (k : Int) ∧ s3 = .int .i64 ((N : Int) - (U : Int) - ((L.take k).sum : Int)) ∧ ∃ m, wr = w.drewN m) (fun _ s20 _ => 64 - (_root_.Go.RowKit.intOf s20).toNat)
  case atStart => exact ⟨0, by omega, rfl, by simp, _, rfl⟩
  case round =>
    obtain ⟨k, hk, rfl, rfl, m, rfl⟩ := hrel
    have h1 := hst.out k
    have hrm := HR.out
    have hmt := HM.out
    by_cases hlt : k < 64
    · have hkl : k < L.length := by rw [H64.out]; exact hlt
      have e0 : decide ((k : Int) < 64) = true := decide_eq_true (by omega)
      have hi := hix.out (w.drewN m) k hkl
      have h2 := hst.out (k + 1)
      have h3 := hss.out k hkl
      obtain ⟨x, hx⟩ : ∃ x, x = L[k] := ⟨_, rfl⟩
      rw [← hx] at hi h3
      have hw2 : IntKind.i64.wrap ((N : Int) - (U : Int) - ((L.take k).sum : Int) - (x : Int)) = (N : Int) - (U : Int) - ((L.take (k + 1)).sum : Int) := by rw [wrapI _ (by omega) (by omega)]; omega
      obtain ⟨y, hy⟩ : ∃ y, y = (L.take (k + 1)).sum := ⟨_, rfl⟩
      have HY := Lib.hid hy
      rw [← hy] at hw2
      clear hx h3 h2 h1 hy hrm hmt
      go_wp2
      go_roundw
      case rel => exact ⟨k + 1, by omega, by go_num, by rw [← HY.out], m, rfl⟩
      case measure => simp [_root_.Go.RowKit.intOf]; omega
    · obtain rfl : k = 64 := by omega
      rw [List.take_of_length_le (by rw [H64.out]; omega)] at h1 ⊢
      have he : (N : Int) - (U : Int) - (L.sum : Int) = (R : Int) := by omega
      rw [he]
      clear he h1 hrm hmt
      go_wp2
      go_ret
      exact ⟨rfl, m, rfl⟩
end Go.Proofs.Ytnbehncbjbkjpaa
