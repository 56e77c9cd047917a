import Derived.Test.YtfmbfojlopibnaaDoorBase
import Derived.Test.YtfmbfojlopibnaaDoorRange
import Derived.Test.YtfmbfojlopibnaaDoorGen
namespace Go.Proofs.YtfmbfojlopibnaaDoor
open Go.RowKit Go.Shelf
attribute [local go_sem] Oper.semAt_some

/-- where a part begins, and where it ends -/
def cutk (s m k : Nat) : Nat × Nat := (k * s, min (k * s + s) m)

theorem cuts_any (m s : Int) (w : World) : Calls Tryd.prog 71 #[.int .i64 m, .int .i64 s] w fun e w' =>
    e = .returned (.func (.func 82) #[] #[.pointer (some ⟨w.heap.size + 1, 0, none⟩), .pointer (some ⟨w.heap.size, 0, none⟩)]) ∧ (w.alloc (.cells #[.int .i64 m] 3)).alloc (.cells #[.int .i64 s] 3) = w' := by
  go_enter Tryd.func71, Tryd.ntmps71
  go_wp2
  go_ret
  exact ⟨rfl, rfl⟩

def encCut (x : Nat × Nat) : Array Value := #[.int .i64 x.1, .int .i64 x.2]
def preCut (s : Int) (m : Nat) (pre : List (Nat × Nat)) (x : Nat × Nat) (_ : World) : Prop := x = cutk s.toNat m pre.length ∧ pre.length * s.toNat < m ∧ 1 ≤ s
def allCut (s : Int) (m : Nat) (xs : List (Nat × Nat)) : Prop := xs = (List.range xs.length).map (cutk s.toNat m) ∧ (s < 1 → xs = []) ∧ (1 ≤ s → m ≤ xs.length * s.toNat)
def someCut (s : Int) (m : Nat) (xs : List (Nat × Nat)) : Prop := xs = (List.range xs.length).map (cutk s.toNat m)

theorem allCut_nil {s : Int} {m : Nat} (h : s < 1) : allCut s m [] := ⟨rfl, fun _ => rfl, fun h' => by omega⟩
theorem min_next {F k sn m : Nat} (h : F = min (k * sn) m) (hF : F < m) (hle : sn ≤ m - F) : Hid (F + sn = min ((k + 1) * sn) m) := by
  show _ = _
  rw [Nat.add_mul, Nat.one_mul]
  omega
theorem min_last {F k sn m : Nat} (h : F = min (k * sn) m) (hF : F < m) (hle : m - F < sn) : Hid (m = min ((k + 1) * sn) m) := by
  show _ = _
  rw [Nat.add_mul, Nat.one_mul]
  omega
theorem cut_next {F k sn m : Nat} (h : F = min (k * sn) m) (hF : F < m) (hle : sn ≤ m - F) : (F, F + sn) = cutk sn m k := by
  have : F = k * sn := by omega
  simp only [cutk, ← this]
  congr 1
  omega
theorem cut_last {F k sn m : Nat} (h : F = min (k * sn) m) (hF : F < m) (hle : m - F < sn) : (F, m) = cutk sn m k := by
  have : F = k * sn := by omega
  simp only [cutk, ← this]
  congr 1
  omega
theorem range_next {α : Type} {f : Nat → α} {pre : List α} {k : Nat} {x : α} (h : pre = (List.range k).map f) (hx : x = f k) : Hid (pre ++ [x] = (List.range (k + 1)).map f) := by
  show _ = _
  rw [List.range_succ, List.map_append, h, hx]
  rfl
theorem some_of {sn m k : Nat} {pre : List (Nat × Nat)} (h : Hid (pre = (List.range k).map (cutk sn m))) : someCut (sn : Int) m pre := by
  have h := h.out
  have hl : pre.length = k := by rw [h]; simp
  unfold someCut
  rw [hl, Int.toNat_natCast]
  exact h
theorem all_of {sn m k F : Nat} {pre : List (Nat × Nat)} (h : pre = (List.range k).map (cutk sn m)) (hF : F = min (k * sn) m) (he : F = m) (hs : 1 ≤ sn) : Hid (allCut (sn : Int) m pre) := by
  have hl : pre.length = k := by rw [h]; simp
  exact ⟨some_of h, fun h' => by omega, fun _ => by rw [hl, Int.toNat_natCast]; omega⟩
set_option maxHeartbeats 1000000 in
theorem cuts1_it (m : Nat) (s : Int) (bs bm : Nat) (w0 : World) (hm : m ≤ 140737488351232) (hcs : w0.cell? ⟨bs, 0, none⟩ = some (.int .i64 s)) (hcm : w0.cell? ⟨bm, 0, none⟩ = some (.int .i64 m)) :
    It Tryd.prog 82 #[.pointer (some ⟨bs, 0, none⟩), .pointer (some ⟨bm, 0, none⟩)] encCut (fun _ _ => False) (preCut s m) (fun k => k = bs ∨ k = bm) (allCut s m) (someCut s m) w0 := by
  intro l J Jx W hpW hsW hJ hJx hY h0
  refine (callsIn_wide (n := 1)).1 ?_
  have hWs : W.cell? ⟨bs, 0, none⟩ = some (.int .i64 s) := (World.cell?_of_block (hpW bs (.inl rfl))).trans hcs
  have hWm : W.cell? ⟨bm, 0, none⟩ = some (.int .i64 m) := (World.cell?_of_block (hpW bm (.inr rfl))).trans hcm
  refine callsIn_of_wp Tryd.func82 rfl trivial ?_ rfl
  simp only [Tryd.ntmps82, List.size_toArray, List.length_cons, List.length_nil, Nat.reduceAdd, Nat.reduceSub, Array.replicate_succ, Array.replicate_zero, List.push_toArray, List.append_toArray, List.nil_append, List.cons_append]
  by_cases hlt : s < 1
  · gi_wp2
    refine bodyPost_ret (results_none rfl _ _ _) rfl ?_
    exact itEnd.all (allCut_nil hlt) h0
  · obtain ⟨sn, rfl⟩ : ∃ sn : Nat, s = sn := ⟨s.toNat, by omega⟩
    have hs1 : 1 ≤ sn := by omega
    clear hlt
    gi_wp2
    gi_loopw [4] (fun i wr => ∃ (k F : Nat) (pre : List (Nat × Nat)) (O : Nat → Prop), i = .int .i64 F ∧ F ≤ m ∧ Hid (F = min (k * sn) m) ∧ Hid (pre = (List.range k).map (cutk sn m)) ∧ J pre O wr ∧ W.heap.size ≤ wr.heap.size ∧ (∀ b, O b → W.heap.size ≤ b ∧ b < wr.heap.size) ∧ wr.cell? ⟨bs, 0, none⟩ = some (.int .i64 sn) ∧ wr.cell? ⟨bm, 0, none⟩ = some (.int .i64 m)) (fun i _ => m - (intOf i).toNat)
    case atStart => exact ⟨0, 0, [], fun _ => False, rfl, Nat.zero_le _, by simp [Hid], rfl, h0, Nat.le_refl _, fun _ h => h.elim, hWs, hWm⟩
    case round =>
      obtain ⟨k, F, pre, O, rfl, hFm, HF, Hpre, hj, hws, hO, hcs', hcm'⟩ := hrel
      by_cases hF : F < m
      · have hlen : pre.length = k := by rw [Hpre.out]; simp
        have hFk : F = k * sn := by have := HF.out; omega
        by_cases hle : sn ≤ m - F
        · obtain ⟨fn, tmps, assign, body, hy, hR⟩ := hY pre (F, F + sn) O wr hws hO hj ⟨by rw [hlen]; simp only [cutk, Int.toNat_natCast]; rw [← hFk]; congr 1; omega, by rw [hlen]; simp only [Int.toNat_natCast]; omega, by omega⟩ (fun _ h => h.elim)
          clear hlen hFk
          simp only [encCut, Int.natCast_add] at hy
          gi_wp2
          refine hR.mono ?_
          rintro e W' ⟨hk, (⟨rfl, hj'⟩ | ⟨rfl, hjx⟩)⟩
          · have hs2 := (World.cell?_of_block (hk.same bs (lt_of_cell hcs') (.inl (.inl rfl)))).trans hcs'
            have hm2 := (World.cell?_of_block (hk.same bm (lt_of_cell hcm') (.inl (.inr rfl)))).trans hcm'
            gi_wp2
            go_roundw
            case rel => exact ⟨k + 1, F + sn, _, _, by go_num, by omega, min_next HF.out hF hle, range_next Hpre.out (cut_next HF.out hF hle), hj', Nat.le_trans hws hk.size, nextO_bound hO hws hk.size, hs2, hm2⟩
            case measure => simp [intOf]; omega
          · gi_wp2
            refine bodyPost_ret (results_none rfl _ _ _) rfl ?_
            exact itEnd.part (some_of (range_next Hpre.out (cut_next HF.out hF hle))) hjx
        · have hgt : m - F < sn := by omega
          obtain ⟨fn, tmps, assign, body, hy, hR⟩ := hY pre (F, m) O wr hws hO hj ⟨by rw [hlen]; simp only [cutk, Int.toNat_natCast]; rw [← hFk]; congr 1; omega, by rw [hlen]; simp only [Int.toNat_natCast]; omega, by omega⟩ (fun _ h => h.elim)
          clear hlen hFk
          simp only [encCut] at hy
          have hmin : (m : Int) - (F : Int) ≤ (sn : Int) := by omega
          have hsum : (F : Int) + ((m : Int) - (F : Int)) = (m : Int) := by omega
          gi_wp2
          refine hR.mono ?_
          rintro e W' ⟨hk, (⟨rfl, hj'⟩ | ⟨rfl, hjx⟩)⟩
          · have hs2 := (World.cell?_of_block (hk.same bs (lt_of_cell hcs') (.inl (.inl rfl)))).trans hcs'
            have hm2 := (World.cell?_of_block (hk.same bm (lt_of_cell hcm') (.inl (.inr rfl)))).trans hcm'
            gi_wp2
            go_roundw
            case rel => exact ⟨k + 1, m, _, _, by go_num, Nat.le_refl _, min_last HF.out hF hgt, range_next Hpre.out (cut_last HF.out hF hgt), hj', Nat.le_trans hws hk.size, nextO_bound hO hws hk.size, hs2, hm2⟩
            case measure => simp [intOf]; omega
          · gi_wp2
            refine bodyPost_ret (results_none rfl _ _ _) rfl ?_
            exact itEnd.part (some_of (range_next Hpre.out (cut_last HF.out hF hgt))) hjx
      · have hFe : F = m := by omega
        have hall : Hid (allCut (sn : Int) m pre) := all_of Hpre.out HF.out hFe hs1
        clear hFe
        gi_wp2
        go_end0
        exact itEnd.all hall.out hj
end Go.Proofs.YtfmbfojlopibnaaDoor
