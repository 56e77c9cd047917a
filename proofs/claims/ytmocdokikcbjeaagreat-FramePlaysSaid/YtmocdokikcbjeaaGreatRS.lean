import Derived.Test.YtmocdokikcbjeaaGreatRR
namespace Go.Proofs.YtmocdokikcbjeaaGreat
open Go.RowKit Go.Shelf Go.Maps Go.Sort
attribute [local go_sem] Oper.semAt_some

/- NONE. -/
set_option maxRecDepth 100000 in
set_option maxHeartbeats 2000000 in
theorem none_any (z : Bool) (w : World) : Calls Tryz.prog 9 #[.bool z] w fun e w' => e = .returned (.bool true) ∧ Below w.heap.size w w' := by
  cases z with
  | false =>
    have H : Hid (∀ V, Below w.heap.size w V → Non V (.pointer none)) := Lib.hid (fun V _ => .inl rfl)
    have hB : Below w.heap.size w w := Below.refl _ _
    go_enter Tryz.func9, Tryz.ntmps9
    go_wp2_with fail
    refine (take_nil _ _ _ (H.out _ hB)).mono ?_
    rintro e V ⟨rfl, hb⟩
    replace hB := below0 hB hb
    clear hb
    go_wp2_with fail
    refine (read_nil _ _ _ _ _ (H.out _ hB)).mono ?_
    rintro e V ⟨rfl, hb⟩
    replace hB := below0 hB hb
    clear hb
    go_wp2_with fail
    refine (Owner_nil _ _ _ (H.out _ hB)).mono ?_
    rintro e V ⟨rfl, rfl⟩
    go_wp2_with fail
    refine (reserved_nil _ _ _ (H.out _ hB)).mono ?_
    rintro e V ⟨rfl, rfl⟩
    go_wp2_with fail
    refine (num_any _ _).mono ?_
    rintro e V ⟨rfl, rfl⟩
    go_wp2_with fail
    refine (num_any _ _).mono ?_
    rintro e V ⟨rfl, rfl⟩
    go_wp2_with fail
    refine (room_nil _ _ (H.out _ hB)).mono ?_
    rintro e V ⟨rfl, rfl⟩
    go_wp2_with fail
    refine (reserve_non _ _ _ _ (H.out _ hB)).mono ?_
    rintro e V ⟨rfl, hb⟩
    replace hB := below0 hB hb
    clear hb
    go_wp2_with fail
    refine (num_any _ _).mono ?_
    rintro e V ⟨rfl, rfl⟩
    go_wp2_with fail
    refine (give_nil _ _ _ (H.out _ hB)).mono ?_
    rintro e V ⟨rfl, hb⟩
    replace hB := below0 hB hb
    clear hb
    go_wp2_with fail
    refine (num_any _ _).mono ?_
    rintro e V ⟨rfl, rfl⟩
    go_wp2_with fail
    refine (write_nil _ _ _ _ _ _ _ (H.out _ hB)).mono ?_
    rintro e V ⟨rfl, hb⟩
    replace hB := below0 hB hb
    clear hb
    go_wp2_with fail
    refine (num_any _ _).mono ?_
    rintro e V ⟨rfl, rfl⟩
    go_wp2_with fail
    refine (all_nil (H.out _ hB) 9 (by decide)).mono ?_
    rintro e V ⟨A, c, rfl, _, hb⟩
    replace hB := below0 hB hb
    clear hb
    go_wp2_with fail
    refine (Copy_nil _ _ (H.out _ hB)).mono ?_
    rintro e V ⟨rfl, rfl⟩
    go_wp2_with fail
    refine (Same_there _ _ false false _ rfl (fun U hU => there_no (H.out _ (below0 hB hU))) (fun U _ => there_no (.inl rfl))).mono ?_
    rintro e V ⟨rfl, hb⟩
    replace hB := below0 hB hb
    clear hb
    go_wp2_with fail
    go_ret
    exact ⟨rfl, hB⟩
  | true =>
    have hz : (w.alloc (.cells Tryz.zeroCells73 73)).cell? ⟨w.heap.size, 1, none⟩ = some (.map none) := by
      simp only [World.cell?, World.alloc_heap_new w _]
      kernel_rfl
    have H : Hid (∀ V, Below (w.alloc (.cells Tryz.zeroCells73 73)).heap.size (w.alloc (.cells Tryz.zeroCells73 73)) V → Non V (.pointer (some ⟨w.heap.size, 0, none⟩))) := Lib.hid (fun V hb => Non.below (.inr ⟨_, rfl, hz⟩) hb)
    have hB : Below (w.alloc (.cells Tryz.zeroCells73 73)).heap.size (w.alloc (.cells Tryz.zeroCells73 73)) (w.alloc (.cells Tryz.zeroCells73 73)) := Below.refl _ _
    clear hz
    go_enter Tryz.func9, Tryz.ntmps9
    go_wp2_with fail
    refine (take_nil _ _ _ (H.out _ hB)).mono ?_
    rintro e V ⟨rfl, hb⟩
    replace hB := below0 hB hb
    clear hb
    go_wp2_with fail
    refine (read_nil _ _ _ _ _ (H.out _ hB)).mono ?_
    rintro e V ⟨rfl, hb⟩
    replace hB := below0 hB hb
    clear hb
    go_wp2_with fail
    refine (Owner_nil _ _ _ (H.out _ hB)).mono ?_
    rintro e V ⟨rfl, rfl⟩
    go_wp2_with fail
    refine (reserved_nil _ _ _ (H.out _ hB)).mono ?_
    rintro e V ⟨rfl, rfl⟩
    go_wp2_with fail
    refine (num_any _ _).mono ?_
    rintro e V ⟨rfl, rfl⟩
    go_wp2_with fail
    refine (num_any _ _).mono ?_
    rintro e V ⟨rfl, rfl⟩
    go_wp2_with fail
    refine (room_nil _ _ (H.out _ hB)).mono ?_
    rintro e V ⟨rfl, rfl⟩
    go_wp2_with fail
    refine (reserve_non _ _ _ _ (H.out _ hB)).mono ?_
    rintro e V ⟨rfl, hb⟩
    replace hB := below0 hB hb
    clear hb
    go_wp2_with fail
    refine (num_any _ _).mono ?_
    rintro e V ⟨rfl, rfl⟩
    go_wp2_with fail
    refine (give_nil _ _ _ (H.out _ hB)).mono ?_
    rintro e V ⟨rfl, hb⟩
    replace hB := below0 hB hb
    clear hb
    go_wp2_with fail
    refine (num_any _ _).mono ?_
    rintro e V ⟨rfl, rfl⟩
    go_wp2_with fail
    refine (write_nil _ _ _ _ _ _ _ (H.out _ hB)).mono ?_
    rintro e V ⟨rfl, hb⟩
    replace hB := below0 hB hb
    clear hb
    go_wp2_with fail
    refine (num_any _ _).mono ?_
    rintro e V ⟨rfl, rfl⟩
    go_wp2_with fail
    refine (all_nil (H.out _ hB) 9 (by decide)).mono ?_
    rintro e V ⟨A, c, rfl, _, hb⟩
    replace hB := below0 hB hb
    clear hb
    go_wp2_with fail
    refine (Copy_nil _ _ (H.out _ hB)).mono ?_
    rintro e V ⟨rfl, rfl⟩
    go_wp2_with fail
    refine (Same_there _ _ false false _ rfl (fun U hU => there_no (H.out _ (below0 hB hU))) (fun U _ => there_no (.inl rfl))).mono ?_
    rintro e V ⟨rfl, hb⟩
    replace hB := below0 hB hb
    clear hb
    go_wp2_with fail
    go_ret
    exact ⟨rfl, below0 (below1 w _) hB⟩
end Go.Proofs.YtmocdokikcbjeaaGreat
