import Derived.Test.YtnbehncbjbkjpaaLays
namespace Go.Proofs.Ytnbehncbjbkjpaa
open Go.RowKit Go.Shelf Go.Maps Go.Sort
attribute [local go_sem] Oper.semAt_some

/- THE PLACE OF A FREE FRAME, LOOKED UP AND FILLED. -/

theorem sw_below {α : Type} [Inhabited α] {enc : α → Value} {w W : World} {blk off : Nat} {d : Array α} (h : SW enc w blk off d W) (hH : Holds enc w blk off d) : Below w.heap.size w W := by
  obtain ⟨n, os, rfl⟩ := h
  have h1 : sortWorld enc w blk off n d os = grow (Sort.ahead w n) os := by
    unfold sortWorld
    rw [putRow_ahead, putRow_self enc w blk off d hH]
  rw [h1]
  refine ⟨rfl, rfl, rfl, by simp [grow, Sort.ahead], fun k hk => ?_⟩
  show (w.heap ++ os)[k]? = w.heap[k]?
  rw [Array.getElem?_append_left hk]

theorem give3_wrap (x t : Int) (w : World) : Calls Try.prog 37 #[.int .i64 x, .int .i64 t] w fun e w' => e = .returned (.int .i64 (wrap64 (t - x))) ∧ w' = w := by
  go_enter Try.func37, Try.ntmps37
  go_wp2
  go_ret
  exact ⟨rfl, rfl⟩

/-- how many stand ahead of i in what falls -/
theorem search_any (xs : List Nat) (i n : Nat) (v : Value) (g : Option Nat) (w : World) (h : Own w 3 1 v n (xs.map iv) g) (hx : ∀ x ∈ xs, x ≤ 16384) (hi : i ≤ 16384) (hn : n ≤ 16384) (hs : xs.Pairwise (fun a b => b < a)) :
    Calls Try.prog 36 #[v, .int .i64 (i : Int), .func (.func 37) #[] #[]] w fun e w' => (∃ q, e = .returned (.tuple #[.int .i64 (xs.countP (fun x => decide (i < x)) : Nat), .bool q])) ∧ Below w.heap.size w w' := by
  have hlen : xs.length = n := by have := h.len; rw [List.length_map, Nat.mul_one] at this; exact this
  rcases h with ⟨rfl, rfl, he, A, rfl⟩ | ⟨b, cap, cur, rfl, rfl, h3, h4, h5, h6, h7, h8⟩
  · obtain rfl : xs = [] := List.eq_nil_of_length_eq_zero hlen
    exact (Any.slices_BinarySearchFunc_none searchL A 0 _ _ w).mono fun e w' ⟨e1, e2⟩ => ⟨⟨_, e1⟩, e2 ▸ Below.refl _ _⟩
  · subst hlen
    have hw : ∀ x ∈ xs, wrap64 ((i : Int) - (x : Int)) = (i : Int) - (x : Int) := fun x hx' => IntWalk.wrap64_in _ (by have := hx x hx'; omega)
    have hd : (xs.map (fun n : Nat => (n : Int))).toArray.size = xs.length := by simp
    have hget : ∀ j (hj : j < xs.length), ((xs.map (fun n : Nat => (n : Int))).toArray)[j]! = (xs[j] : Int) := fun j hj => by
      rw [getElem!_pos _ j (by simpa using hj)]
      simp
    have hH : Holds (Value.int .i64) w b 0 (xs.map (fun n : Nat => (n : Int))).toArray := fun j hj => by
      rw [hd] at hj
      have h9 : w.cell? ⟨b, 0 + j, none⟩ = (xs.map iv)[j]? := by
        rw [← h8, List.getElem?_take, if_pos (by omega), Nat.zero_add]
        simp [World.cell?, h3]
      refine ⟨?_, by simp [World.frozen?, h3]⟩
      rw [h9, List.getElem?_map, List.getElem?_eq_getElem hj, hget j hj]
      rfl
    have hc := Any.slices_BinarySearchFunc searchL (Value.int .i64) (fun _ => rfl) (.int .i64 (i : Int)) (fun x => wrap64 ((i : Int) - x)) 37 #[] b 0 cap (xs.map (fun n : Nat => (n : Int))).toArray w
      (enters_of Try.func37 (by kernel_rfl) rfl) (fun m os dk _ x => (give3_wrap x i _).mono fun e w' ⟨e1, e2⟩ => ⟨e1, 0, #[], by rw [e2, grow_empty]; rfl⟩) hH (Array.getElem?_eq_some_iff.1 h3).1 (by rw [hd]; omega) (fun a c hac hc hlt => by
        rw [hd] at hc
        rw [hget c hc, hw _ (List.getElem_mem _)] at hlt
        rw [hget a (by omega), hw _ (List.getElem_mem _)]
        rcases Nat.eq_or_lt_of_le hac with rfl | hac
        · exact hlt
        · have := List.pairwise_iff_getElem.1 hs a c (by omega) hc hac
          omega)
    have hcount : (xs.map (fun n : Nat => (n : Int))).toArray.toList.countP (fun x => decide (wrap64 ((i : Int) - x) < 0)) = xs.countP (fun x => decide (i < x)) := by
      show (xs.map (fun n : Nat => (n : Int))).countP _ = _
      rw [List.countP_map]
      refine List.countP_congr fun x hx' => ?_
      simp only [Function.comp]
      rw [hw x hx']
      simp only [decide_eq_true_eq]
      omega
    rw [hcount] at hc
    simp only [hd] at hc
    exact hc.mono fun e w' ⟨e1, e2⟩ => ⟨⟨_, e1⟩, sw_below e2 hH⟩
end Go.Proofs.Ytnbehncbjbkjpaa
