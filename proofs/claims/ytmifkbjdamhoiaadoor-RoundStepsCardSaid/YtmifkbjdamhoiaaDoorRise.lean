import Derived.Test.YtmifkbjdamhoiaaDoorSum
import Derived.Test.YtmifkbjdamhoiaaDoorRange
namespace Go.Proofs.YtmifkbjdamhoiaaDoor
open Go.RowKit Go.Shelf
attribute [local go_sem] Oper.semAt_some

theorem nextO_bound {O M : Nat → Prop} {B : Nat} {W W' : World} (hO : ∀ b, O b → B ≤ b ∧ b < W.heap.size) (hB : B ≤ W.heap.size) (hs : W.heap.size ≤ W'.heap.size) (hM : ∀ b, M b → B ≤ b ∧ b < W.heap.size := by exact fun _ h => h.elim) :
    ∀ b, nextO O M W W' b → B ≤ b ∧ b < W'.heap.size := by
  rintro b (h | h | h)
  · have := hO b h; omega
  · have := hM b h; omega
  · omega
theorem range_next {α : Type} {f : Nat → α} {pre : List α} {k : Nat} {x : α} (h : pre = (List.range k).map f) (hx : x = f k) : Hid (pre ++ [x] = (List.range (k + 1)).map f) := by
  show _ = _
  rw [List.range_succ, List.map_append, h, hx]
  rfl
theorem Abid.below {β : Type} {B : Nat} {J : β → (Nat → Prop) → World → Prop} (hJ : Abid B J) {s : β} {O : Nat → Prop} {W W' : World} (h : J s O W) (hb : Below W.heap.size W W') : J s O W' :=
  hJ _ _ _ _ none h ⟨hb.os, hb.tape, hb.output, hb.size, fun k hk _ => hb.block k hk⟩ (fun r e => by cases e)
theorem Pair.same {w w' : World} {b : Nat} {p : Nat × Nat} (h : Pair w b p) (hb : w'.heap[b]? = w.heap[b]?) : Pair w' b p := by
  have hf : ∀ o, w'.frozen? ⟨b, o, none⟩ = w.frozen? ⟨b, o, none⟩ := fun o => by simp only [World.frozen?, hb]
  refine ⟨(World.cell?_of_block hb).trans h.c0, (World.cell?_of_block hb).trans h.c1, (hf 0).trans h.f0, (hf 1).trans h.f1, ?_⟩
  have := h.lt
  rw [Array.getElem?_eq_getElem this] at hb
  exact (Array.getElem?_eq_some_iff.1 hb).1

def encNum (x : Nat) : Array Value := #[.int .u64 (x : Int)]
/-- the k-th of the steps -/
def stepk (f s k : Nat) : Nat := f + k * s
def preRise (f s : Nat) (pre : List Nat) (x : Nat) (_ : World) : Prop := x = stepk f s pre.length ∧ x < big ∧ 0 < s
def allRise (f s : Nat) (xs : List Nat) : Prop := xs = (List.range xs.length).map (stepk f s) ∧ (s = 0 → xs = []) ∧ (0 < s → big ≤ stepk f s xs.length)
def someRise (f s : Nat) (xs : List Nat) : Prop := xs = (List.range xs.length).map (stepk f s) ∧ 0 < s
theorem some_of {f s k : Nat} {pre : List Nat} (h : pre = (List.range k).map (stepk f s)) (hs : 0 < s) : someRise f s pre := by
  have hl : pre.length = k := by rw [h]; simp
  exact ⟨by rw [hl]; exact h, hs⟩
theorem all_of {f s k : Nat} {pre : List Nat} (h : pre = (List.range k).map (stepk f s)) (hs : 0 < s) (hT : big ≤ stepk f s k) : allRise f s pre := by
  have hl : pre.length = k := by rw [h]; simp
  exact ⟨by rw [hl]; exact h, fun h => by omega, fun _ => by rw [hl]; exact hT⟩

/-- what is left: of the number that the pointer shows -/
def left (v : Value) (w : World) : Nat := match v with
  | .pointer (some a) => match w.cell? ⟨a.block, 0, none⟩, w.cell? ⟨a.block, 1, none⟩ with
    | some (.int _ h), some (.int _ l) => 3 * big - (h.toNat * big + l.toNat)
    | _, _ => 0
  | _ => 0
theorem left_pair {w : World} {b T : Nat} (h : Pair w b (T / big, T % big)) : left (.pointer (some ⟨b, 0, none⟩)) w = 3 * big - T := by
  have h0 := h.c0
  have h1 := h.c1
  simp only at h0 h1
  simp only [left, h0, h1, Int.toNat_natCast]
  have := Nat.div_add_mod T big
  rw [Nat.mul_comm] at this
  omega

set_option maxHeartbeats 2000000 in
theorem rise1_it (f s bn : Nat) (w0 : World) (hf : f < big) (hs : s < big) (hcs : w0.cell? ⟨bn, 0, none⟩ = some (.int .u64 (s : Int))) (hcf : w0.cell? ⟨bn, 1, none⟩ = some (.int .u64 (f : Int))) :
    It Tryd.prog 48 #[.pointer (some ⟨bn, 0, none⟩)] encNum (fun _ _ => False) (preRise f s) (fun k => k = bn) (allRise f s) (someRise f s) w0 := by
  intro l J Jx W hpW hsW hJ hJx hY h0
  refine (callsIn_wide (n := 1)).1 ?_
  have hWs : W.cell? ⟨bn, 0, none⟩ = some (.int .u64 (s : Int)) := (World.cell?_of_block (hpW bn rfl)).trans hcs
  have hWf : W.cell? ⟨bn, 1, none⟩ = some (.int .u64 (f : Int)) := (World.cell?_of_block (hpW bn rfl)).trans hcf
  refine callsIn_of_wp Tryd.func48 rfl trivial ?_ rfl
  simp only [Tryd.ntmps48, List.size_toArray, List.length_cons, List.length_nil, Nat.reduceAdd, Nat.reduceSub, Array.replicate_succ, Array.replicate_zero, List.push_toArray, List.append_toArray, List.nil_append, List.cons_append]
  rcases Nat.eq_zero_or_pos s with rfl | hs1
  · gi_wp2_with fail
    refine ⟨trivial, (callsIn_wide.2 (none_zero _)).mono ?_⟩
    rintro e w1 ⟨rfl, rfl⟩
    gi_wp2
    refine bodyPost_ret (results_none rfl _ _ _) rfl ?_
    exact itEnd.all ⟨rfl, fun _ => rfl, fun h => absurd h (by omega)⟩ h0
  · have HS := Lib.hid hs1
    have HF := Lib.hid hf
    have HS2 := Lib.hid hs
    clear hs1 hf hs
    gi_wp2_with fail
    refine ⟨trivial, (callsIn_wide.2 (none_pos s _ HS.out)).mono ?_⟩
    rintro e w1 ⟨rfl, rfl⟩
    gi_wp2_with fail
    gi_loopw [3] (fun t wr => ∃ (k T bt : Nat) (pre : List Nat) (O : Nat → Prop), t = .pointer (some ⟨bt, 0, none⟩) ∧ W.heap.size ≤ bt ∧ ¬ O bt ∧ Pair wr bt (T / big, T % big) ∧ Hid (T = stepk f s k ∧ T < 2 * big) ∧ Hid (pre = (List.range k).map (stepk f s)) ∧ J pre O wr ∧ W.heap.size ≤ wr.heap.size ∧ (∀ b, O b → W.heap.size ≤ b ∧ b < wr.heap.size) ∧ wr.cell? ⟨bn, 0, none⟩ = some (.int .u64 (s : Int)) ∧ wr.cell? ⟨bn, 1, none⟩ = some (.int .u64 (f : Int))) (fun t wr => left t wr)
    case atStart =>
      have hff := HF.out
      refine ⟨0, f, W.heap.size, [], fun _ => False, rfl, Nat.le_refl _, fun h => h, ?_, Lib.hid ⟨by simp [stepk], by omega⟩, rfl, hJ.below h0 (below1 _ _), by simp, fun b (h : False) => h.elim, (World.cell?_alloc_lt _ _ _ (lt_of_cell hWs)).trans hWs, (World.cell?_alloc_lt _ _ _ (lt_of_cell hWf)).trans hWf⟩
      rw [Nat.div_eq_of_lt hff, Nat.mod_eq_of_lt hff]
      exact pair_new _ _ _ _ rfl
    case round =>
      obtain ⟨k, T, bt, pre, O, rfl, hbt, hnO, hp, HT, Hpre, hj, hws, hO, hcs', hcf'⟩ := hrel
      have hlen : pre.length = k := by rw [Hpre.out]; simp
      have HP0 := Lib.hid hp
      by_cases hlt : T < big
      · rw [Nat.div_eq_of_lt hlt, Nat.mod_eq_of_lt hlt] at hp
        have HL := Lib.hid hlt
        have Hlen := Lib.hid hlen
        clear hlt hlen
        obtain ⟨hc0, hc1, hf0, hf1, hblt⟩ := hp
        gi_wp2_with fail
        refine ⟨trivial, (callsIn_wide.2 (over_no T _)).mono ?_⟩
        rintro e w1 ⟨rfl, hb1⟩
        obtain ⟨fn, tmps, assign, body, hy, hR⟩ := hY pre T O w1 (Nat.le_trans hws hb1.size) (fun b h => by have := hO b h; have := hb1.size; omega) (hJ.below hj hb1) ⟨by rw [Hlen.out]; exact HT.out.1, HL.out, HS.out⟩ (fun b (h : False) => h.elim)
        simp only [encNum] at hy
        have hp1 : Pair w1 bt (0, T) := Pair.below ⟨hc0, hc1, hf0, hf1, hblt⟩ hb1 hblt
        have hcs1 := (hb1.cell (p := ⟨bn, 0, none⟩) (lt_of_cell hcs')).trans hcs'
        have hcf1 := (hb1.cell (p := ⟨bn, 1, none⟩) (lt_of_cell hcf')).trans hcf'
        have hO1 : ∀ b, O b → W.heap.size ≤ b ∧ b < w1.heap.size := fun b h => by have := hO b h; have := hb1.size; omega
        have hws1 := Nat.le_trans hws hb1.size
        clear hc0 hc1 hf0 hf1 hblt hcs' hcf' hO hws hj hb1
        obtain ⟨hc0, hc1, hf0, hf1, hblt⟩ := hp1
        gi_wp2
        refine hR.mono ?_
        rintro e W' ⟨hk, (⟨rfl, hj'⟩ | ⟨rfl, hjx⟩)⟩
        · have hp2 : Pair W' bt (0, T) := Pair.same ⟨hc0, hc1, hf0, hf1, hblt⟩ (hk.same bt hblt (.inr ⟨hbt, hnO, fun h => h⟩))
          have hcs2 := (World.cell?_of_block (hk.same bn (lt_of_cell hcs1) (.inl rfl))).trans hcs1
          have hcf2 := (World.cell?_of_block (hk.same bn (lt_of_cell hcf1) (.inl rfl))).trans hcf1
          have hO2 := nextO_bound (M := fun _ => False) hO1 hws1 hk.size
          have hws2 := Nat.le_trans hws1 hk.size
          have hbn := lt_of_cell hcs2
          clear hc0 hc1 hf0 hf1 hblt hcs1 hcf1
          obtain ⟨hc0, hc1, hf0, hf1, hblt⟩ := hp2
          have hpl := Lib.hid (fun w => plus_any 0 T s w (by omega) HL.out HS2.out)
          rw [Nat.zero_add] at hpl
          obtain ⟨x, hx⟩ : ∃ x, x = (T + s) / 18446744073709551616 := ⟨_, rfl⟩
          obtain ⟨y, hy2⟩ : ∃ y, y = (T + s) % 18446744073709551616 := ⟨_, rfl⟩
          rw [← hx, ← hy2] at hpl
          have hxy : ((T + s) / big, (T + s) % big) = (x, y) := by rw [hx, hy2]; rfl
          have HXY := Lib.hid hxy
          clear hx hy2 hxy
          gi_wp2_with fail
          refine ⟨trivial, (callsIn_wide.2 (hpl.out _)).mono ?_⟩
          rintro e w3 ⟨rfl, hb3⟩
          obtain ⟨hd0, hd1, hg0, hg1, hdlt⟩ : Pair w3 W'.heap.size (0, T) := (pair_new W' 0 T 46 rfl).below hb3 (by simp)
          have hs3 := hb3.size
          simp only [World.size_alloc] at hs3
          have hB3 := (below1 W' (.cells #[.int .u64 0, .int .u64 (T : Int)] 46)).trans (hb3.mono (by simp))
          have hB4 := (hB3.setCell (p := ⟨W'.heap.size, 0, none⟩) (Nat.le_refl _) (.int .u64 (x : Int))).setCell (p := ⟨W'.heap.size, 1, none⟩) (Nat.le_refl _) (.int .u64 (y : Int))
          have hp4 : Pair ((w3.setCell ⟨W'.heap.size, 0, none⟩ (.int .u64 (x : Int))).setCell ⟨W'.heap.size, 1, none⟩ (.int .u64 (y : Int))) W'.heap.size (x, y) := Pair.set (p := (0, T)) (q := (x, y)) ⟨hd0, hd1, hg0, hg1, hdlt⟩
          have HP4 := Lib.hid hp4
          have HB4 := Lib.hid hB4
          clear hp4 hB4 hB3 hb3
          gi_wp2
          go_roundw
          case rel =>
            have hT2 : T + s < 2 * big := by have := HL.out; have := HS2.out; omega
            have hsz := HB4.out.size
            exact ⟨k + 1, T + s, W'.heap.size, _, _, rfl, hws2, fun h => by have := (hO2 _ h).2; omega, by rw [HXY.out]; exact HP4.out, Lib.hid ⟨by rw [HT.out.1]; simp only [stepk, Nat.add_mul]; omega, hT2⟩, range_next Hpre.out HT.out.1, hJ.below hj' HB4.out, Nat.le_trans hws2 hsz, fun b h => by have := hO2 b h; omega, (HB4.out.cell hbn).trans hcs2, (HB4.out.cell hbn).trans hcf2⟩
          case measure =>
            have h1 := left_pair HP0.out
            have h2 : left (.pointer (some ⟨W'.heap.size, 0, none⟩)) ((w3.setCell ⟨W'.heap.size, 0, none⟩ (.int .u64 (x : Int))).setCell ⟨W'.heap.size, 1, none⟩ (.int .u64 (y : Int))) = 3 * big - (T + s) := left_pair (by rw [HXY.out]; exact HP4.out)
            show left (.pointer (some ⟨W'.heap.size, 0, none⟩)) _ < left (.pointer (some ⟨bt, 0, none⟩)) _
            rw [h2, h1]
            have := HL.out
            have := HS.out
            omega
        · gi_wp2
          refine bodyPost_ret (results_none rfl _ _ _) rfl ?_
          have HX := range_next Hpre.out HT.out.1
          exact itEnd.part (some_of HX.out HS.out) hjx
      · have hq : 0 < T / big := Nat.div_pos (by omega) (by simp [big])
        have HQ := Lib.hid hq
        have HL := Lib.hid hlt
        obtain ⟨hc0, hc1, hf0, hf1, hblt⟩ := hp
        obtain ⟨x, hx⟩ : ∃ x, x = T / big := ⟨_, rfl⟩
        obtain ⟨y, hy⟩ : ∃ y, y = T % big := ⟨_, rfl⟩
        simp only at hc0 hc1
        rw [← hx] at hc0 HQ
        rw [← hy] at hc1
        clear hq hlt hx hy hlen
        gi_wp2_with fail
        refine ⟨trivial, (callsIn_wide.2 (over_yes x y _ HQ.out)).mono ?_⟩
        rintro e w1 ⟨rfl, hb1⟩
        gi_wp2
        go_end0
        exact itEnd.all (all_of Hpre.out HS.out (by have := HL.out; have := HT.out.1; omega)) (hJ.below hj hb1)
end Go.Proofs.YtmifkbjdamhoiaaDoor
