import Derived.Test.YtmbjjbgpcacoeaaGreatRO
namespace Go.Proofs.YtmbjjbgpcacoeaaGreat
open Go.RowKit Go.Shelf Go.Maps Go.Sort
attribute [local go_sem] Oper.semAt_some

/- ALL, WHERE THERE IS NO POOL: NO ROWS. -/
theorem sorted_nil (g : Nat) (w : World) (hc : w.cell? ⟨g, 0, none⟩ = some (.map none)) :
    Calls Tryz.prog 119 #[.func (.func 166) #[] #[.pointer (some ⟨g, 0, none⟩)]] w fun e w' => ∃ A c, e = .returned (.slice A 0 c) ∧ Below w.heap.size w w' := by
  refine (callsIn_wide (n := 5)).1 ?_
  have hseq : SeqGives Fence.wide 2 Tryz.prog 166 #[.pointer (some ⟨g, 0, none⟩)] encZ (fun ss : List Int => ss = []) 0 w :=
    AnyZI.keys_gives_nil (ρ := keysL_ren) { keysL with } Fence.wide _ trivial rfl g w (lt_of_cell hc) hc
  refine (AnyZI.sorted_in sortedL Fence.wide 5 trivial trivial trivial trivial rfl (by omega) (sortsT _) (enters_of Tryz.func165 (by kernel_rfl) rfl) 166 #[.pointer (some ⟨g, 0, none⟩)] trivial (enters_of Tryz.func166 (by kernel_rfl) rfl) _ 0 (Nat.zero_le _) (by omega) _ hseq).mono ?_
  rintro e w' ⟨v, ss, rfl, hp, hrow, _, hb⟩
  subst hp
  obtain ⟨A, c, rfl⟩ := own_slice hrow
  exact ⟨A, c, rfl, hb⟩
set_option maxHeartbeats 2000000 in
theorem rise0_it (bb pb : Nat) (w0 : World) (hcb : w0.cell? ⟨bb, 0, none⟩ = some (bx pb)) (hcp : w0.cell? ⟨pb, 1, none⟩ = some (.map none)) :
    It Tryz.prog 118 #[bx bb] encP (fun _ _ => False) (fun _ _ _ => False) (fun k => k = bb ∨ k = pb) (fun xs => xs = []) (fun xs => xs = []) w0 := by
  intro l0 J Jx W hpW hsW hJ hJx hY h0
  refine (callsIn_wide (n := 1)).1 ?_
  have c1 : W.cell? ⟨bb, 0, none⟩ = some (bx pb) := (World.cell?_of_block (hpW bb (.inl rfl))).trans hcb
  have c2 : W.cell? ⟨pb, 1, none⟩ = some (.map none) := (World.cell?_of_block (hpW pb (.inr rfl))).trans hcp
  have HK := Lib.hid (fun w => keys_any none w)
  have HS := Lib.hid (show Calls Tryz.prog 119 #[.func (.func 166) #[] #[.pointer (some ⟨W.heap.size, 0, none⟩)]] (W.alloc (.cells #[.map none] 92)) (fun e w' => ∃ A c, e = .returned (.slice A 0 c) ∧ Below W.heap.size W w') from by
    refine (sorted_nil W.heap.size _ (cell_alloc_new _ _ _ _)).mono ?_
    rintro e w' ⟨A, c, rfl, hb⟩
    exact ⟨A, c, rfl, below0 (below1 W _) hb⟩)
  clear hY hpW
  refine callsIn_of_wp Tryz.func118 rfl trivial ?_ rfl
  simp only [Tryz.ntmps118, List.size_toArray, List.length_cons, List.length_nil, Nat.reduceAdd, Nat.reduceSub, Array.replicate_succ, Array.replicate_zero, List.push_toArray, List.append_toArray, List.nil_append, List.cons_append]
  gi_wp2_with fail
  refine ⟨trivial, (callsIn_wide.2 (HK.out _)).mono ?_⟩
  rintro e w1 ⟨rfl, rfl⟩
  gi_wp2_with fail
  refine ⟨trivial, (callsIn_wide.2 HS.out).mono ?_⟩
  rintro e w2 ⟨A, c, rfl, hb2⟩
  have hj2 : J [] (fun _ => False) w2 := hJ.below h0 hb2
  clear HS HK h0
  gi_wp2_with fail
  gi_loopw [12] (fun t wr => t = .int .i64 0 ∧ wr = w2) (fun _ _ => 0)
  case atStart => exact ⟨rfl, rfl⟩
  case round =>
    obtain ⟨rfl, rfl⟩ := hrel
    gi_wp2
    go_end0
    exact itEnd.all rfl hj2
end Go.Proofs.YtmbjjbgpcacoeaaGreat
