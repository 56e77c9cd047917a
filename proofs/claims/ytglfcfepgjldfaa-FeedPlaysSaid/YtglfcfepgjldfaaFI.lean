import Derived.Test.YtglfcfepgjldfaaFH
namespace Go.Proofs.Ytglfcfepgjldfaa.Fe
open Go.RowKit Go.Shelf
attribute [local go_sem] Oper.semAt_some

/- DOES A FEED STAND AS THE DOCUMENT's? -/
set_option maxRecDepth 100000 in
set_option maxHeartbeats 4000000 in
theorem is_any {Has : HasT} (H : Api Has) (v : Value) (l : List UInt8) (p : Nat) (F : Nat → Prop) (w : World) (h : Has w v l p F) :
    Calls Try.prog 9 #[v, fv l p] w fun e w' => e = .returned (.bool true) ∧ Below w.heap.size w w' := by
  have hsm := H.sm h
  obtain ⟨W0, hW0⟩ : ∃ W0, W0 = w.alloc (.cells #[.string (str l), .int .i64 (p : Int)] 28) := ⟨_, rfl⟩
  have hB0 : Below w.heap.size w W0 := by rw [hW0]; exact below1 _ _
  have hrow : Row W0 w.heap.size 28 (fc l p) := by rw [hW0]; exact Row.new w _ (fc l p)
  have HRW := Lib.hid hrow
  have HB0 := Lib.hid hB0
  have HH := Lib.hid (fun (W : World) (hb : Below W0.heap.size W0 W) => H.below (H.below h hB0) hb)
  have HA := Lib.hid (fun (W : World) (hb : Below W0.heap.size W0 W) => H.at_ (H.below (H.below h hB0) hb))
  have HL := Lib.hid (fun (W : World) (hb : Below W0.heap.size W0 W) => H.left (H.below (H.below h hB0) hb))
  have HR := Lib.hid (fun w => rleft_any l p hsm w)
  have hsz := str_size (l.drop p)
  rw [List.length_drop] at hsz
  obtain ⟨q, hq⟩ : ∃ q, q = l.length - p := ⟨_, rfl⟩
  rw [← hq] at HL hsz
  obtain ⟨T, hT⟩ : ∃ T, T = str (l.drop p) := ⟨_, rfl⟩
  rw [← hT] at HR hsz
  have hpp : ((p : Int) == (p : Int)) = true := by simp
  have hqq : ((q : Int) == (q : Int)) = true := by simp
  have HW0 := Lib.hid hW0
  clear h hsm hB0 hrow hq hT hW0
  go_enter Try.func9, Try.ntmps9
  go_wp2_with fail
  rw [← HW0.out]
  have hdr := Lib.hid (show Below W0.heap.size W0 W0.drew from (Below.refl _ _).drew)
  have HSA := Lib.hid (fun (W : World) (hb : Below W0.heap.size W0 W) => (show W.cell? ⟨w.heap.size, 0, none⟩ = some (.string (str l)) ∧ W.cell? ⟨w.heap.size, 1, none⟩ = some (.int .i64 (p : Int)) ∧ Below W0.heap.size W0 W from ⟨(HRW.out.below hb).cell 0, (HRW.out.below hb).cell 1, hb⟩))
  have HAL := Lib.hid (fun (V V' : World) (h1 : Below W0.heap.size W0 V) (h2 : Below V.heap.size V V') => below0 h1 h2)
  have hfin := Lib.hid (fun (V : World) (hb : Below W0.heap.size W0 V) => below0 HB0.out hb)
  go_region_held3 (fun W => W.cell? ⟨w.heap.size, 0, none⟩ = some (.string (str l)) ∧ W.cell? ⟨w.heap.size, 1, none⟩ = some (.int .i64 (p : Int)) ∧ Below W0.heap.size W0 W)
    (first | exact HSA.out _ hdr.out | (exact HSA.out _ (by assumption)) | (go_split_ands; exact HSA.out _ (by assumption)))
    (first
      | (go_at_call 16; refine (HA.out _ (by first | exact hdr.out | assumption | (go_split_ands; assumption))).mono ?_; rintro e w2 ⟨rfl, hbq⟩; have hb2 := HAL.out _ _ (by first | exact hdr.out | assumption | (go_split_ands; assumption)) hbq; clear hbq)
      | (go_at_call 17; refine (HL.out _ (by first | exact hdr.out | assumption | (go_split_ands; assumption))).mono ?_; rintro e w3 ⟨rfl, hbq⟩; have hb3 := HAL.out _ _ (by first | exact hdr.out | assumption | (go_split_ands; assumption)) hbq; clear hbq)
      | (go_at_call 13; refine (HR.out _).mono ?_; rintro e w4 ⟨rfl, hbq⟩; have hb4 := HAL.out _ _ (by first | exact hdr.out | assumption | (go_split_ands; assumption)) hbq; clear hbq))
  all_goals
    first
      | have HB := hfin.out _ hb4
      | have HB := hfin.out _ hb3
    go_wp2
    go_ret
    exact ⟨rfl, HB⟩
end Go.Proofs.Ytglfcfepgjldfaa.Fe
