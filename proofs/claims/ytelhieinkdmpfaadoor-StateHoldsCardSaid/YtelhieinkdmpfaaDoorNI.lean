import Derived.Test.YtelhieinkdmpfaaDoorNH
namespace Go.Proofs.YtelhieinkdmpfaaDoor.Sh
open Go.RowKit Go.Shelf
attribute [local go_sem] Oper.semAt_some

/- THE CODE's SHEETS KEEP WHAT THE LAWS ASK. -/
theorem api : Api HasS where
  keep := by
    rintro w w' v l F ⟨b, g, c, rest, rfl, h, rfl⟩ hk
    exact ⟨b, g, c, rest, rfl, h.same (hk b (.inl rfl)) (hk g (.inr rfl)), rfl⟩
  lt := by
    rintro w v l F ⟨b, g, c, rest, rfl, h, rfl⟩ k (rfl | rfl)
    · exact h.obj.lt
    · exact h.row.lt
  ptr := by
    rintro w v l F ⟨b, g, c, rest, rfl, h, rfl⟩
    exact ⟨_, rfl⟩
  sts := by
    rintro w v l F ⟨b, g, c, rest, rfl, h, rfl⟩
    exact h.sts
  most := by
    rintro w v l F ⟨b, g, c, rest, rfl, h, rfl⟩
    exact h.most
  may := fun a b w hT _ _ => may_any a b w hT
  name := fun z w hT _ => name_any z w hT
  new := fun w n h => snew w n h
  newNo := fun w z _ h => new_no w z h
  get := fun z h _ => sget z h
  move := fun a t hT h _ _ => smove a t hT h
  count := fun x h _ => scount x h
  len := fun h => slen h
  text := fun h => stext h
  parse := fun s l w h hu => sparse s l w h hu
  parseNo := fun s w _ h => sparse_no s w h
  copy := fun h => scopy h
  same := fun h h' => ssame h h'
  all := fun x h _ => sall x h
theorem apiN : ApiN HasS NonS where
  keep := by
    rintro w w' u G (⟨rfl, hg⟩ | ⟨b, rfl, h, rfl⟩) hk
    · exact .inl ⟨rfl, hg⟩
    · exact .inr ⟨b, rfl, (World.cell?_of_block (hk b rfl)).trans h, rfl⟩
  lt := by
    rintro w u G (⟨rfl, hg⟩ | ⟨b, rfl, h, rfl⟩) k hk
    · exact absurd hk (hg k)
    · obtain rfl : k = b := hk
      exact lt_of_cell h
  move := fun h => move_non 0 1 h
  get := fun h => get_non 0 h
  len := fun h => len_non h
  count := fun h => count_non 0 h
  all := fun {w u G} h => by
    refine (all_of u [] 0 9 w (fun V hb => all_non 0 (nons_below h hb)) (by omega) (by omega)).mono ?_
    rintro e w' ⟨_, rfl, ⟨A, c, rfl, _, _⟩, hb⟩
    exact ⟨A, c, rfl, hb⟩
  text := fun h => text_non h
  copy := fun h => copy_non h
  same := fun h => same_none (G' := fun _ => False) h (.inl ⟨rfl, fun _ h => h⟩)
  same1 := fun h h' => same_one h' h
  same2 := fun h h' => same_two h' h
theorem non_nil (w : World) : NonS w (.pointer none) (fun _ => False) := .inl ⟨rfl, fun _ h => h⟩
theorem non_zero (w : World) : NonS (w.alloc (.cells #[.slice none 0 0] 40)) (.pointer (some ⟨w.heap.size, 0, none⟩)) (fun k => k = w.heap.size) :=
  .inr ⟨w.heap.size, rfl, cell_alloc_new _ _ _ _, rfl⟩
end Go.Proofs.YtelhieinkdmpfaaDoor.Sh
