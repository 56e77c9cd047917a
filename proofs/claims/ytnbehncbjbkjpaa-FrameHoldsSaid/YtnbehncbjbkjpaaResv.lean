import Derived.Test.YtnbehncbjbkjpaaNew
namespace Go.Proofs.Ytnbehncbjbkjpaa
open Go.RowKit Go.Shelf Go.Maps Go.Sort
attribute [local go_sem] Oper.semAt_some

/- RESERVE. -/

theorem poolL_left (many bm : Nat) (left : List Nat) (fv sv : Value) (o v : Nat) (hl : left.length = 64) (ho : o < 64) : (poolL many bm left fv sv).set (2 + o) (.int .i64 (v : Int)) = poolL many bm (left.set o v) fv sv := by
  unfold poolL
  rw [show 2 + o = o + 1 + 1 by omega, List.set_cons_succ, List.set_cons_succ, List.set_append_left _ _ (by rw [List.length_map, hl]; exact ho), List.map_set]
  rfl
theorem Rep.set_left {w : World} {b bm : Nat} {p : Pl} {fv sv : Value} {fb : List (List UInt8)} {gf gs : Option Nat} (h : Rep w b p bm fv sv fb gf gs) (o v : Nat) (ho : o < 64) (hok : ({ p with left := p.left.set o v } : Pl).ok) :
    Rep (w.setCell ⟨b, 2 + o, none⟩ (.int .i64 (v : Int))) b { p with left := p.left.set o v } bm fv sv fb gf gs := by
  obtain ⟨h1, h2, h3, h4, h5⟩ := h.gf_ne
  have hk : ∀ k, k ≠ b → (w.setCell ⟨b, 2 + o, none⟩ (.int .i64 (v : Int))).heap[k]? = w.heap[k]? := fun k hk => heap_set hk
  refine ⟨hok, ?_, owns_same h.map (hk _ (fun e => h.ne_map e.symm)), h.frm.keep fun g e => hk _ (fun e2 => h1 (e2 ▸ e)), h.spr.keep fun g e => hk _ (fun e2 => h3 (e2 ▸ e)), h.fbl, h.behind, h.fbs, h.same⟩
  have := h.obj.set (2 + o) (.int .i64 (v : Int))
  rw [poolL_left _ _ _ _ _ _ _ h.ok.l64 ho] at this
  exact this

theorem resv1_any (go gm : Nat) (o m : Int) (w : World) (ho : w.cell? ⟨go, 0, none⟩ = some (.int .i64 o)) (hm : w.cell? ⟨gm, 0, none⟩ = some (.int .i64 m)) :
    Calls Try.prog 20 #[.pointer (some ⟨go, 0, none⟩), .pointer (some ⟨gm, 0, none⟩)] w fun e w' => e = .returned (.bool (ownerB o && decide (0 ≤ m))) ∧ Below w.heap.size w w' := by
  have h1 := Lib.hid (fun w => known_any o w)
  obtain ⟨q, hq⟩ : ∃ q, q = ownerB o := ⟨_, rfl⟩
  rw [← hq] at h1 ⊢
  clear hq
  go_enter Try.func20, Try.ntmps20
  go_wp2_with fail
  refine (h1.out _).mono ?_
  rintro e w1 ⟨rfl, rfl⟩
  cases q
  · go_wp2
    go_ret
    exact ⟨rfl, Below.refl _ _⟩
  · go_wp2
    go_ret
    exact ⟨by simp, Below.refl _ _⟩

set_option maxHeartbeats 1000000 in
theorem resv2_any {b bm o : Nat} {p : Pl} {fv sv : Value} {fb : List (List UInt8)} {gf gs : Option Nat} {w : World} (h : Rep w b p bm fv sv fb gf gs) (gm gp go : Nat) (m : Int)
    (hm : w.cell? ⟨gm, 0, none⟩ = some (.int .i64 m)) (hp : w.cell? ⟨gp, 0, none⟩ = some (.pointer (some ⟨b, 0, none⟩))) (ho : w.cell? ⟨go, 0, none⟩ = some (.int .i64 (o : Int))) :
    Calls Try.prog 22 #[.pointer (some ⟨gm, 0, none⟩), .pointer (some ⟨gp, 0, none⟩), .pointer (some ⟨go, 0, none⟩)] w fun e w' => e = .returned (.bool (decide ((taken p.fr o : Int) ≤ m))) ∧ Below w.heap.size w w' := by
  have hh := Lib.hid (fun V (hb : Below w.heap.size w V) => (show Calls Try.prog 23 #[.pointer (some ⟨b, 0, none⟩), .int .i64 (o : Int)] V (fun e w' => e = .returned (.int .i64 (taken p.fr o : Int)) ∧ Below w.heap.size w w') from
    (has_any (o := o) (h.below hb)).mono fun e w' ⟨h1, h2⟩ => ⟨h1, hb.trans (h2.mono hb.size)⟩))
  have l1 := lt_of_cell hm
  have l2 := lt_of_cell hp
  have l3 := lt_of_cell ho
  obtain ⟨x, hx⟩ : ∃ x, x = taken p.fr o := ⟨_, rfl⟩
  rw [← hx] at hh ⊢
  have HSA := Lib.hid (fun W (hB : Below w.heap.size w W) => (show W.cell? ⟨gm, 0, none⟩ = some (.int .i64 m) ∧ W.cell? ⟨gp, 0, none⟩ = some (.pointer (some ⟨b, 0, none⟩)) ∧ W.cell? ⟨go, 0, none⟩ = some (.int .i64 (o : Int)) ∧ Below w.heap.size w W from
    ⟨(hB.cell (p := ⟨gm, 0, none⟩) l1).trans hm, (hB.cell (p := ⟨gp, 0, none⟩) l2).trans hp, (hB.cell (p := ⟨go, 0, none⟩) l3).trans ho, hB⟩))
  have hdr := Lib.hid (show Below w.heap.size w w.drew from (Below.refl _ _).drew)
  clear hx h
  go_enter Try.func22, Try.ntmps22
  go_wp2_with fail
  go_region_held3 (fun W => W.cell? ⟨gm, 0, none⟩ = some (.int .i64 m) ∧ W.cell? ⟨gp, 0, none⟩ = some (.pointer (some ⟨b, 0, none⟩)) ∧ W.cell? ⟨go, 0, none⟩ = some (.int .i64 (o : Int)) ∧ Below w.heap.size w W)
    (first | exact HSA.out _ hdr.out | exact HSA.out _ (by assumption) | (go_split_ands; exact HSA.out _ (by assumption)))
    (first | (go_at_call 23; refine (hh.out _ (by go_split_ands; assumption)).mono ?_; rintro e w2 ⟨rfl, hb2⟩))
  go_wp2
  go_ret
  exact ⟨rfl, hb2⟩

set_option maxHeartbeats 1000000 in
theorem resv3_any {b bm o : Nat} {p : Pl} {fv sv : Value} {fb : List (List UInt8)} {gf gs : Option Nat} {w : World} (h : Rep w b p bm fv sv fb gf gs) (gm gp go : Nat) (m : Int) (h64 : o < 64) (hm0 : 0 ≤ m) (hm1 : m ≤ 9223372036854775807)
    (hm : w.cell? ⟨gm, 0, none⟩ = some (.int .i64 m)) (hp : w.cell? ⟨gp, 0, none⟩ = some (.pointer (some ⟨b, 0, none⟩))) (ho : w.cell? ⟨go, 0, none⟩ = some (.int .i64 (o : Int))) :
    Calls Try.prog 24 #[.pointer (some ⟨gm, 0, none⟩), .pointer (some ⟨gp, 0, none⟩), .pointer (some ⟨go, 0, none⟩)] w fun e w' => e = .returned (.bool (decide (m - (resN p o : Int) ≤ (p.room : Int)))) ∧ Below w.heap.size w w' := by
  have hh := Lib.hid (fun V (hb : Below w.heap.size w V) => (show Calls Try.prog 25 #[.pointer (some ⟨b, 0, none⟩), .int .i64 (o : Int)] V (fun e w' => e = .returned (.int .i64 (resN p o : Int)) ∧ Below w.heap.size w w') from
    (reserved_any (o := o) (h.below hb) h64).mono fun e w' ⟨h1, h2⟩ => ⟨h1, hb.trans (h2.mono hb.size)⟩))
  have hr := Lib.hid (fun V (hb : Below w.heap.size w V) => (show Calls Try.prog 26 #[.pointer (some ⟨b, 0, none⟩)] V (fun e w' => e = .returned (.int .i64 (p.room : Int)) ∧ Below w.heap.size w w') from
    (room_any (h.below hb)).mono fun e w' ⟨h1, k, h2⟩ => ⟨h1, by rw [h2]; exact below_drewN hb k⟩))
  have l1 := lt_of_cell hm
  have l2 := lt_of_cell hp
  have l3 := lt_of_cell ho
  have hw : IntKind.i64.wrap (m - (resN p o : Int)) = m - (resN p o : Int) := by
    have := taken_le p h.ok o
    have := left_le p h.ok o
    have : resN p o ≤ 32768 := by unfold resN; omega
    exact wrapI _ (by omega) (by omega)
  obtain ⟨x, hx⟩ : ∃ x, x = resN p o := ⟨_, rfl⟩
  rw [← hx] at hh hw ⊢
  obtain ⟨y, hy⟩ : ∃ y, y = p.room := ⟨_, rfl⟩
  rw [← hy] at hr ⊢
  have HSA := Lib.hid (fun W (hB : Below w.heap.size w W) => (show W.cell? ⟨gm, 0, none⟩ = some (.int .i64 m) ∧ W.cell? ⟨gp, 0, none⟩ = some (.pointer (some ⟨b, 0, none⟩)) ∧ W.cell? ⟨go, 0, none⟩ = some (.int .i64 (o : Int)) ∧ Below w.heap.size w W from
    ⟨(hB.cell (p := ⟨gm, 0, none⟩) l1).trans hm, (hB.cell (p := ⟨gp, 0, none⟩) l2).trans hp, (hB.cell (p := ⟨go, 0, none⟩) l3).trans ho, hB⟩))
  have hdr := Lib.hid (show Below w.heap.size w w.drew from (Below.refl _ _).drew)
  clear hx hy h
  go_enter Try.func24, Try.ntmps24
  go_wp2_with fail
  go_region_held3 (fun W => W.cell? ⟨gm, 0, none⟩ = some (.int .i64 m) ∧ W.cell? ⟨gp, 0, none⟩ = some (.pointer (some ⟨b, 0, none⟩)) ∧ W.cell? ⟨go, 0, none⟩ = some (.int .i64 (o : Int)) ∧ Below w.heap.size w W)
    (first | exact HSA.out _ hdr.out | exact HSA.out _ (by assumption) | (go_split_ands; exact HSA.out _ (by assumption)))
    (first | (go_at_call 25; refine (hh.out _ (by go_split_ands; assumption)).mono ?_; rintro e w2 ⟨rfl, hb2⟩) | (go_at_call 26; refine (hr.out _ (by go_split_ands; assumption)).mono ?_; rintro e w3 ⟨rfl, hb3⟩))
  all_goals
    go_wp2
    go_ret
    exact ⟨rfl, by assumption⟩
end Go.Proofs.Ytnbehncbjbkjpaa
