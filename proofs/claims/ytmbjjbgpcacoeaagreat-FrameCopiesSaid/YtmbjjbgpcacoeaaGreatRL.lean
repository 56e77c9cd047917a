import Derived.Test.YtmbjjbgpcacoeaaGreatRK
namespace Go.Proofs.YtmbjjbgpcacoeaaGreat
open Go.RowKit Go.Shelf Go.Maps Go.Sort

/- OWNER. -/
theorem lookup2_map {w : World} {g n : Nat} {l : List (Option Nat)} {i : Int} (h : w.ownsMap Tryz.prog 3 (plainElem Tryz.prog 3) g n (mapD l)) (h1 : -9223372036854775808 ≤ i) (h2 : i ≤ 9223372036854775807) :
    (Instr.lookup 92 (.map (some g)) (.int .i64 i) true).run Tryz.prog w = .ok (.tuple #[.int .i64 (ownN l i : Int), .bool (ownAt l i).isSome]) w := by
  obtain ⟨v, ps, hrun, hv⟩ := h.look_ok law Tryz.underlying92 (zeroE _) (plainElem_int Tryz.underlying3 (by decide)) (keyZ h1 h2)
  obtain ⟨c, rfl, hc, _⟩ := plainElem_int_inv Tryz.underlying3 hv
  rw [hrun, mapD_has]
  have := mapD_ownN (congrArg Prod.fst hc)
  rw [this]
set_option maxHeartbeats 1000000 in
theorem Owner_nil (v : Value) (i : Int) (w : World) (h : Non w v) : Calls Tryz.prog 51 #[v, .int .i64 i] w fun e w' => e = .returned (.tuple #[.int .i64 0, .bool false]) ∧ w = w' := by
  have h1 := Lib.hid (there_non v w h)
  obtain ⟨pv, rfl⟩ : ∃ pv, v = .pointer pv := by
    rcases h with rfl | ⟨b, rfl, _⟩
    · exact ⟨_, rfl⟩
    · exact ⟨_, rfl⟩
  clear h
  go_enter Tryz.func51, Tryz.ntmps51
  go_wp2_with fail
  refine h1.out.mono ?_
  rintro e w1 ⟨rfl, rfl⟩
  go_wp2_with fail
  exact bodyPost_ret (v := .tuple #[.int .i64 0, .bool false]) (by simp [results, Tryz.results51, go_sem]) rfl ⟨rfl, rfl⟩
set_option maxHeartbeats 1000000 in
theorem Owner_any {b : Nat} {p : Pl} {F : Nat → Prop} {w : World} (h : Has w b p F) (i : Int) (hi1 : -9223372036854775808 ≤ i) (hi2 : i ≤ 9223372036854775807) :
    Calls Tryz.prog 51 #[bx b, .int .i64 i] w fun e w' => e = .returned (.tuple #[.int .i64 (ownN (owns p.fr) i : Int), .bool (ownAt (owns p.fr) i).isSome]) ∧ w = w' := by
  obtain ⟨bm, fv, sv, fb, gf, gs, hr, _⟩ := h
  have c1 := hr.c1
  have h1 := Lib.hid (there_map b bm w c1)
  have hlk := lookup2_map (i := i) hr.map hi1 hi2
  obtain ⟨O, hO⟩ : ∃ O, O = ownN (owns p.fr) i := ⟨_, rfl⟩
  obtain ⟨Q, hQ⟩ : ∃ Q, Q = (ownAt (owns p.fr) i).isSome := ⟨_, rfl⟩
  rw [← hO, ← hQ] at hlk
  rw [← hO, ← hQ]
  clear hO hQ hr
  go_enter Tryz.func51, Tryz.ntmps51
  go_wp2_with fail
  refine h1.out.mono ?_
  rintro e w1 ⟨rfl, rfl⟩
  go_wp2_with fail
  exact bodyPost_ret (v := .tuple #[.int .i64 (O : Int), .bool Q]) (by simp [results, Tryz.results51, go_sem]) rfl ⟨rfl, rfl⟩
end Go.Proofs.YtmbjjbgpcacoeaaGreat
