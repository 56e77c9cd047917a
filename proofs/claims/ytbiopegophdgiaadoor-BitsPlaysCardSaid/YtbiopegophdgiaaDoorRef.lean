import Derived.Test.YtbiopegophdgiaaDoorAll
namespace Go.Proofs.YtbiopegophdgiaaDoor
open Go.RowKit Go.Shelf
attribute [local go_sem] Oper.semAt_some

/- THE DOCUMENT'S ANSWERS: lists of truths. -/

/-- truths, numbers as cells -/
def bls (l : List Bool) : List Value := l.map fun b => .bool b
def ins (l : List Nat) : List Value := l.map fun n : Nat => .int .i64 (n : Int)
theorem bls_len (l : List Bool) : (bls l).length = l.length := by simp [bls]
theorem ins_len (l : List Nat) : (ins l).length = l.length := by simp [ins]
theorem bls_get {l : List Bool} {k : Nat} (h : k < l.length) : (bls l)[k]'(by rw [bls_len]; exact h) = .bool l[k] := by simp [bls]
theorem ins_get {l : List Nat} {k : Nat} (h : k < l.length) : (ins l)[k]'(by rw [ins_len]; exact h) = .int .i64 (l[k] : Int) := by simp [ins]
theorem ins_append (a b : List Nat) : ins (a ++ b) = ins a ++ ins b := by simp [ins]
theorem bls_append (a b : List Bool) : bls (a ++ b) = bls a ++ bls b := by simp [bls]
theorem bls_one {l : List Bool} : ∀ u ∈ bls l, u.oneCell' = true := by
  intro u hu
  simp only [bls, List.mem_map] at hu
  obtain ⟨b, _, rfl⟩ := hu
  rfl
theorem bool_info : (Tryd.prog.info? 4).map (fun i => (i.zero, i.size, i.bytes)) = some (some (.bool false), 1, 1) := by kernel_rfl
theorem int_info : (Tryd.prog.info? 3).map (fun i => (i.zero, i.size, i.bytes)) = some (some (.int .i64 0), 1, 8) := by kernel_rfl

/-- a list that a call made -/
def Bl (w : World) (v : Value) (l : List Bool) : Prop := ∃ A c, v = .slice A l.length c ∧ Sees w w.heap.size A (bls l)
def Il (w : World) (v : Value) (l : List Nat) : Prop := ∃ A c, v = .slice A l.length c ∧ Sees w w.heap.size A (ins l)
theorem Bl.below {w w' : World} {v : Value} {l : List Bool} (h : Bl w v l) (hb : Below w.heap.size w w') : Bl w' v l := by
  obtain ⟨A, c, h1, h2⟩ := h
  exact ⟨A, c, h1, (h2.below hb).more hb.size⟩
theorem Il.below {w w' : World} {v : Value} {l : List Nat} (h : Il w v l) (hb : Below w.heap.size w w') : Il w' v l := by
  obtain ⟨A, c, h1, h2⟩ := h
  exact ⟨A, c, h1, (h2.below hb).more hb.size⟩

theorem refnew_no (n : Int) (w : World) (h : n < 0 ∨ 4096 < n) : Calls Tryd.prog 10 #[.int .i64 n] w fun e w' => e = .returned (.tuple #[.slice none 0 0, .int .i64 2]) ∧ w = w' := by
  rcases h with h | h
  · go_enter Tryd.func10, Tryd.ntmps10
    go_wp2
    go_ret2
    exact ⟨rfl, rfl⟩
  · have h0 : decide (n < 0) = false := decide_eq_false (by omega)
    go_enter Tryd.func10, Tryd.ntmps10
    go_wp2
    go_ret2
    exact ⟨rfl, rfl⟩
theorem bls_false (n : Nat) : bls (List.replicate n false) = List.replicate n (.bool false) := by simp [bls]
def TwoB (w : World) (l : List Bool) (e : Ending) (w' : World) : Prop := ∃ v, e = .returned (.tuple #[v, .int .i64 0]) ∧ Bl w' v l ∧ Below w.heap.size w w'
def OneB (w : World) (l : List Bool) (e : Ending) (w' : World) : Prop := ∃ v, e = .returned v ∧ Bl w' v l ∧ Below w.heap.size w w'
def OneI (w : World) (l : List Nat) (e : Ending) (w' : World) : Prop := ∃ v, e = .returned v ∧ Il w' v l ∧ Below w.heap.size w w'
theorem refnew_ok (n : Nat) (w : World) (h : n ≤ 4096) : Calls Tryd.prog 10 #[.int .i64 (n : Int)] w (TwoB w (List.replicate n false)) := by
  obtain ⟨i0, hi, hz0, hz1, hz2⟩ := info_parts bool_info
  have hmk : ∀ W : World, (Instr.makeSlice 28 (.int .i64 (n : Int)) (.int .i64 (n : Int))).run Tryd.prog W = .ok (.slice (some ⟨W.heap.size, 0, none⟩) n n) (W.alloc (.cells (bls (List.replicate n false)).toArray 4)) := fun W => by
    have h := make_one (P := Tryd.prog) Tryd.underlying28 hi hz0 hz1 rfl n n (Nat.le_refl _) (by rw [hz2]; omega) (by omega) W
    rw [← bls_false] at h
    exact h
  have h0 : decide ((n : Int) < 0) = false := decide_eq_false (by omega)
  have h1 : decide ((4096 : Int) < (n : Int)) = false := decide_eq_false (by omega)
  have hfin := Lib.hid (show TwoB w (List.replicate n false) (.returned (.tuple #[.slice (some ⟨w.heap.size, 0, none⟩) n n, .int .i64 0])) (w.alloc (.cells (bls (List.replicate n false)).toArray 4)) from
    ⟨_, rfl, ⟨some ⟨w.heap.size, 0, none⟩, n, by simp, (Row.new w 4 (bls (List.replicate n false))).sees⟩, below1 _ _⟩)
  clear hi hz0 hz1 hz2 h
  go_enter Tryd.func10, Tryd.ntmps10
  go_wp2
  go_ret2
  exact hfin.out

/-- the same, with the room that the list has -/
def OneIc (w : World) (l : List Nat) (e : Ending) (w' : World) : Prop := ∃ A c, e = .returned (.slice A l.length c) ∧ l.length ≤ c ∧ Sees w' w'.heap.size A (ins l) ∧ Below w.heap.size w w'
set_option maxHeartbeats 1000000 in
theorem places_refc (l : List Bool) (is : Bool) (A : Option Addr) (c : Nat) (w : World) (hl : l.length ≤ 4096) (hr : Sees w w.heap.size A (bls l)) :
    Calls Tryd.prog 29 #[.slice A l.length c, .bool is] w (OneIc w (idxs 0 (such is l))) := by
  obtain ⟨i0, hi, hz0, hz1, hz2⟩ := info_parts int_info
  obtain ⟨n, hn⟩ : ∃ n, n = l.length := ⟨_, rfl⟩
  rw [← hn] at hl ⊢
  have HN := Lib.hid hn
  clear hn
  go_enter Tryd.func29, Tryd.ntmps29
  go_wp2_with fail
  go_loopw [5, 6] (fun v i wr => ∃ (k : Nat) (xs : List Nat), k ≤ n ∧ i = .int .i64 k ∧ Hid (xs = idxs 0 ((such is l).take k)) ∧ wr.ownsRow w.heap.size 3 1 v xs.length (ins xs) ∧ Sees wr w.heap.size A (bls l) ∧ Below w.heap.size w wr) (fun _ i _ => n - (intOf i).toNat)
  case atStart => exact ⟨0, [], Nat.zero_le _, rfl, Lib.hid (by simp [idxs]), World.ownsRow_nil _ _ _ _, hr, Below.refl _ _⟩
  case round =>
    obtain ⟨k, xs, hk, rfl, HX, hown, hrr, hB⟩ := hrel
    by_cases hlt : k < n
    · have hkl : k < l.length := by rw [← HN.out]; exact hlt
      obtain ⟨ad, rfl, hadb, hc⟩ := hrr.at_ (k := k) (by rw [bls_len]; exact hkl)
      rw [bls_get hkl] at hc
      have hxl : xs.length ≤ 4096 := by
        rw [HX.out, idxs_len]
        have h1 := List.count_le_length (a := true) (l := (such is l).take k)
        rw [List.length_take] at h1
        omega
      have hts : (such is l).take (k + 1) = (such is l).take k ++ [l[k] == is] := by
        rw [List.take_add_one, such_get, List.getElem?_eq_getElem hkl]; rfl
      have hix : idxs 0 ((such is l).take (k + 1)) = xs ++ (if (l[k] == is) then [k] else []) := by
        rw [hts, idxs_append, ← HX.out]
        congr 1
        have hle : ((such is l).take k).length = k := by simp [such]; omega
        rw [hle, Nat.zero_add]
        cases l[k] == is <;> rfl
      obtain ⟨x, hx⟩ : ∃ x, x = l[k] := ⟨_, rfl⟩
      rw [← hx] at hc hix
      have HIX := Lib.hid hix
      clear hx hts hix
      obtain ⟨Av, cv, rfl⟩ := own_slice hown
      by_cases he : x = is
      · have hd : (x == is) = true := by simpa using he
        have hix2 : Hid (idxs 0 ((such is l).take (k + 1)) = xs ++ [k]) := Lib.hid (by rw [HIX.out, hd]; rfl)
        have hown1 := hown.alloc (.cells #[.int .i64 (k : Int)] 3)
        clear he HIX
        go_wp2_with (at_builtin; refine wpList_append_sees rfl (.tmp 19) (.tmp 21) 42 rfl w.heap.size 3 i0 _ 1 8 Tryd.underlying42 hi hz0 hz1 hz2 rfl (by decide) _ xs.length (ins xs) rfl hown1 (wr.heap.size + 1) (some ⟨wr.heap.size, 0, none⟩) 1 1 [.int .i64 (k : Int)] rfl rfl (fun _ => ⟨_, rfl, by simp, cell_one_new _ _ _⟩) (by simp [Value.oneCell']) (by unfold maxLen; omega) (by omega) (by simp; have := hB.size; omega) ?_; intro v' w4 hown4 hg4 hv4)
        go_roundw
        case rel =>
          refine ⟨k + 1, xs ++ [k], by omega, by go_num, Lib.hid hix2.out.symm, ?_, ?_, ?_⟩
          · rw [List.length_append, List.length_singleton, ins_append]; exact hown4
          · exact (hrr.alloc hB.size _).grown hg4 (by simp; have := hB.size; omega) (fun g e => (hown1.lt g e).1)
          · exact (hB.alloc hB.size _).grown hg4 (by simp; have := hB.size; omega) (fun g e => (hown1.lt g e).1)
        case measure => simp [intOf]; omega
      · have hd : (x == is) = false := by simpa using he
        have hix2 : Hid (idxs 0 ((such is l).take (k + 1)) = xs) := Lib.hid (by rw [HIX.out, hd]; simp)
        clear he HIX
        go_wp2_with fail
        go_roundw
        case rel => exact ⟨k + 1, xs, by omega, by go_num, Lib.hid hix2.out.symm, hown, hrr, hB⟩
        case measure => simp [intOf]; omega
    · obtain rfl : k = n := by omega
      obtain ⟨Av, cv, rfl⟩ := own_slice hown
      have hfin := Lib.hid (show OneIc w (idxs 0 (such is l)) (.returned (.slice Av xs.length cv)) wr from by
        have hx : xs = idxs 0 (such is l) := by rw [HX.out, List.take_of_length_le (by rw [such_len, HN.out]; exact Nat.le_refl _)]
        rw [← hx]
        exact ⟨Av, cv, rfl, (own_cap hown).1, Sees.of_own hown, hB⟩)
      clear hown HX
      go_wp2_with fail
      go_ret
      exact hfin.out
theorem places_ref (l : List Bool) (is : Bool) (A : Option Addr) (c : Nat) (w : World) (hl : l.length ≤ 4096) (hr : Sees w w.heap.size A (bls l)) :
    Calls Tryd.prog 29 #[.slice A l.length c, .bool is] w (OneI w (idxs 0 (such is l))) :=
  (places_refc l is A c w hl hr).mono fun _ _ ⟨A', c', h1, _, h3, h4⟩ => ⟨_, h1, ⟨A', c', rfl, h3⟩, h4⟩
end Go.Proofs.YtbiopegophdgiaaDoor
