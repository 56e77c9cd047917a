import Derived.Test.YtmocdokikcbjeaaSmall
namespace Go.Proofs.Ytmocdokikcbjeaa
open Go.RowKit Go.Shelf Go.Maps
attribute [local go_sem] Oper.semAt_some

/- IS A PAGE MAPPED? HAS A PAGE THAT FRAME? -/
theorem look_en {l : Tb} {z : Int} {v : Value} {ps : List MemPlace} (h : entR v = some ((mapP l).atKey (.int .i64 z) (entD zeroEn), ps)) : v = enV (getX l z) := by
  obtain ⟨x, rfl, hy⟩ := entR_inv h
  injection hy with hy _
  rw [mapP_at] at hy
  unfold getX
  cases hl : look l z with
  | none =>
    rw [hl] at hy
    rw [← entD_inj hy]
    rfl
  | some e =>
    rw [hl] at hy
    rw [← entD_inj hy]
    rfl
theorem unit_v {v : Value} {y : DataW Unit × List MemPlace} (h : unitR v = some y) : v = .agg #[] := by
  unfold unitR at h
  split at h
  · rfl
  · cases h
theorem mapped_any (b bp : Nat) (l : Tb) (z : Int) (w : World) (hz : I64 z) (hc : w.cell? ⟨b, 0, none⟩ = some (.map (some bp))) (hm : PMap w bp l) :
    Calls Try.prog 46 #[bx b, .int .i64 z] w fun e w' => e = .returned (.bool (look l z).isSome) ∧ Below w.heap.size w w' := by
  have hkey := keyZ hz
  have hh := mapP_has l z
  have HL := Lib.hid (fun v ps h => (show v = .agg #[.int .i64 (getX l z).1, .int .i64 (getX l z).2.1, .int .i64 (getX l z).2.2] from look_en (l := l) (z := z) (v := v) (ps := ps) h))
  obtain ⟨q, hq⟩ : ∃ q, q = (look l z).isSome := ⟨_, rfl⟩
  rw [← hq] at hh ⊢
  obtain ⟨D, hD⟩ : ∃ D, D = mapP l := ⟨_, rfl⟩
  have hm : w.ownsMap Try.prog 3 entR bp 65536 D := by rw [hD]; exact hm
  rw [← hD] at hh HL
  obtain ⟨y, hy⟩ : ∃ y, y = getX l z := ⟨_, rfl⟩
  rw [← hy] at HL
  clear hD hq hy
  obtain ⟨y1, y2, y3⟩ := y
  simp only at HL
  have HB := Lib.hid (fun V => below1 w V)
  have HE := Lib.hid (entR_en zeroEn)
  go_enter Try.func46, Try.ntmps46
  go_wp2_with (at_lookup; refine wpList_lookup_own_ok _ rfl _ _ 70 rfl 3 34 law Try.underlying70 entR (zeroP _) (entD zeroEn) [] HE.out bp 65536 D rfl hm _ _ rfl hkey ?_; intro v ps hv; rw [hh]; obtain rfl := HL.out _ _ hv)
  go_ret
  exact ⟨rfl, HB.out _⟩
theorem framed_any (b bf : Nat) (l : Tb) (z : Int) (w : World) (hz : I64 z) (hc : w.cell? ⟨b, 1, none⟩ = some (.map (some bf))) (hm : FMap w bf l) :
    Calls Try.prog 48 #[bx b, .int .i64 z] w fun e w' => e = .returned (.bool (framed l z)) ∧ Below w.heap.size w w' := by
  obtain ⟨D, hm, hF⟩ := hm
  have hkey := keyZ hz
  have hh := hF.has z
  obtain ⟨q, hq⟩ : ∃ q, q = framed l z := ⟨_, rfl⟩
  rw [← hq] at hh ⊢
  clear hq hF
  have HB := Lib.hid (fun V => below1 w V)
  have HE : Hid (unitR (.agg #[]) = some (unitD, [])) := Lib.hid rfl
  go_enter Try.func48, Try.ntmps48
  go_wp2_with (at_lookup; refine wpList_lookup_own_ok _ rfl _ _ 71 rfl 3 101 law Try.underlying71 unitR (zeroU _) unitD [] HE.out bf 65536 D rfl hm _ _ rfl hkey ?_; intro v ps hv; rw [hh]; obtain rfl := unit_v hv)
  go_ret
  exact ⟨rfl, HB.out _⟩
end Go.Proofs.Ytmocdokikcbjeaa
