import Derived.Test.YtmifkbjdamhoiaaDoorCollect
import Derived.Test.YtmifkbjdamhoiaaDoorWorks
namespace Go.Proofs.YtmifkbjdamhoiaaDoor
open Go.RowKit

/-- where the law's own walk stands -/
def At (f s u : Nat) (xs : List Nat) (i n : Nat) (more : Bool) : Prop := i ≤ xs.length ∧ n < big ∧ ((more = true ∧ 0 < s ∧ n = stepk f s i) ∨ (more = false ∧ (s = 0 ∨ u ≤ stepk f s i)))
theorem At.start {f s u : Nat} {xs : List Nat} (hf : f < big) : At f s u xs 0 f (decide (0 < s)) := by
  refine ⟨Nat.zero_le _, hf, ?_⟩
  rcases Nat.eq_zero_or_pos s with rfl | h
  · exact .inr ⟨by simp, .inl rfl⟩
  · exact .inl ⟨by simp [h], h, by simp [stepk]⟩
theorem stepk_lt {f s i j : Nat} (h : i < j) (_hs : 0 < s) : stepk f s i + s ≤ stepk f s j := by
  unfold stepk
  have := Nat.mul_le_mul_right s (show i + 1 ≤ j from h)
  rw [Nat.add_mul, Nat.one_mul] at this
  omega
theorem got_get {f s u many : Nat} {xs : List Nat} (h : Got f s u many xs) {i : Nat} (hi : i < xs.length) : xs[i] = stepk f s i ∧ stepk f s i < u := by
  have e : xs[i] = stepk f s i := by
    have h1 := h.1
    have h2 : xs[i]? = ((List.range xs.length).map (stepk f s))[i]? := by rw [← h1]
    rw [List.getElem?_eq_getElem hi] at h2
    simp [hi] at h2
    exact h2
  exact ⟨e, by rw [← e]; exact h.2.2.1 _ (List.getElem_mem hi)⟩
theorem at_len {f s u many i n : Nat} {xs : List Nat} {more : Bool} (h : Got f s u many xs) (ha : At f s u xs i n more) (hx : more = false ∨ u ≤ n) : xs.length = i := by
  obtain ⟨h1, _, h2⟩ := ha
  have hle : s = 0 ∨ u ≤ stepk f s i := by
    rcases h2 with ⟨a, b, c⟩ | ⟨a, b⟩
    · rcases hx with hx | hx
      · rw [a] at hx; cases hx
      · exact .inr (by omega)
    · exact b
  rcases hle with h0 | hle
  · have := h.2.1 h0
    rw [this] at h1 ⊢
    simp at h1
    simp [h1]
  · rcases Nat.lt_or_ge i xs.length with hlt | hge
    · have := (got_get h hlt).2
      omega
    · omega
theorem at_lt {f s u many i n : Nat} {xs : List Nat} (h : Got f s u many xs) (ha : At f s u xs i n true) (hn : n < u) (hi : i < many) : i < xs.length ∧ n = stepk f s i ∧ 0 < s := by
  obtain ⟨h1, _, h2⟩ := ha
  obtain ⟨hs, hk⟩ : 0 < s ∧ n = stepk f s i := by
    rcases h2 with ⟨_, b, c⟩ | ⟨a, _⟩
    · exact ⟨b, c⟩
    · cases a
  refine ⟨?_, hk, hs⟩
  rcases h.2.2.2.2 with h3 | h3 | h3
  · omega
  · omega
  · rcases Nat.lt_or_ge i xs.length with hlt | hge
    · exact hlt
    · have : i = xs.length := by omega
      subst this
      omega
theorem at_next {f s u many i n : Nat} {xs : List Nat} (h : Got f s u many xs) (ha : At f s u xs i n true) (hn : n < u) (hu : u < big) (hi : i < many) : At f s u xs (i + 1) (n + min s (u - n)) (decide (s < u - n)) := by
  obtain ⟨h1, h2, h3⟩ := at_lt h ha hn hi
  have hk : stepk f s (i + 1) = n + s := by rw [h2]; simp only [stepk, Nat.add_mul]; omega
  refine ⟨by omega, by omega, ?_⟩
  by_cases hq : s < u - n
  · exact .inl ⟨by simp [hq], h3, by rw [hk]; omega⟩
  · exact .inr ⟨by simp [hq], .inr (by rw [hk]; omega)⟩

set_option maxRecDepth 100000 in
set_option maxHeartbeats 1000000 in
theorem roundSteps_far (f u s : Nat) (many : Int) (w : World) (ht : Tab w) (hm : many < 1 ∨ 300 < many) :
    Calls Tryd.prog 6 #[.int .u64 (f : Int), .agg #[.int .u64 (u : Int), .int .u64 (s : Int)], .int .i64 many] w fun e w' => e = .returned (.bool true) ∧ Below w.heap.size w w' := by
  have hB0 := below1 w (.cells #[.int .u64 (u : Int), .int .u64 (s : Int)] 40)
  by_cases h1 : many < 1
  · clear hm
    go_enter Tryd.func6, Tryd.ntmps6
    go_wp2_with fail
    go_quiet (fail)
    go_wp2_with fail
    have hB1 := below_drewN hB0 nq
    refine (works_any _ (ht.below hB1)).mono ?_
    rintro r w1 ⟨rfl, hb1⟩
    go_wp2_with fail
    go_ret
    exact ⟨rfl, hB1.trans (hb1.mono hB1.size)⟩
  · have h2 : 300 < many := by omega
    clear hm
    go_enter Tryd.func6, Tryd.ntmps6
    go_wp2_with fail
    go_quiet (fail)
    go_wp2_with fail
    have hB1 := below_drewN hB0 nq
    refine (works_any _ (ht.below hB1)).mono ?_
    rintro r w1 ⟨rfl, hb1⟩
    go_wp2_with fail
    go_ret
    exact ⟨rfl, hB1.trans (hb1.mono hB1.size)⟩

set_option maxRecDepth 100000 in
set_option maxHeartbeats 2000000 in
theorem roundSteps_near (f u s many : Nat) (w : World) (ht : Tab w) (hf : f < big) (hu : u < big) (hs : s < big) (hm1 : 1 ≤ many) (hm : many ≤ 300) :
    Calls Tryd.prog 6 #[.int .u64 (f : Int), .agg #[.int .u64 (u : Int), .int .u64 (s : Int)], .int .i64 (many : Int)] w fun e w' => e = .returned (.bool true) ∧ Below w.heap.size w w' := by
  have hB0 := below1 w (.cells #[.int .u64 (u : Int), .int .u64 (s : Int)] 40)
  have hstep := Lib.hid (fun w => steps_any f u s many w hf hu hs hm1 hm)
  have HF := Lib.hid hf
  have HU := Lib.hid hu
  clear hf hu hs
  go_enter Tryd.func6, Tryd.ntmps6
  go_wp2_with fail
  go_quiet (fail)
  go_wp2_with fail
  have hB1 := below_drewN hB0 nq
  refine (hstep.out _).mono ?_
  rintro r w1 ⟨v, xs, rfl, hgot, hown, hb1⟩
  have hB2 := hB1.trans (hb1.mono hB1.size)
  have ht1 := ht.below hB2
  obtain ⟨A, c, rfl⟩ := own_slice hown
  have hse := Sees.of_own hown
  have hxl : xs.length ≤ many := hgot.2.2.2.1
  have HG := Lib.hid hgot
  clear hgot hown hB0 hB1 hb1 hstep ht
  go_wp2_with fail
  go_loop [10, 11, 12] (fun n m i => ∃ (k N : Nat) (M : Bool), k ≤ many ∧ i = .int .i64 k ∧ n = .int .u64 (N : Int) ∧ m = .bool M ∧ Hid (At f s u xs k N M)) (fun _ _ i => many - (intOf i).toNat)
  case atStart => exact ⟨0, f, _, Nat.zero_le _, rfl, rfl, rfl, At.start HF.out⟩
  case round =>
    obtain ⟨k, N, M, hk, rfl, rfl, rfl, HA⟩ := hrel
    by_cases hlt : k < many
    · by_cases hx : M = false ∨ u ≤ N
      · have hlen := at_len HG.out HA.out hx
        cases M with
        | false =>
          clear hx
          subst hlen
          go_wp2_with fail
          refine (works_any _ ht1).mono ?_
          rintro r w2 ⟨rfl, hb2⟩
          go_wp2_with fail
          go_ret
          exact ⟨rfl, hB2.trans (hb2.mono hB2.size)⟩
        | true =>
          have hux : decide (u ≤ N) = true := by
            rcases hx with hx | hx
            · cases hx
            · exact decide_eq_true hx
          clear hx
          subst hlen
          go_wp2_with fail
          refine (works_any _ ht1).mono ?_
          rintro r w2 ⟨rfl, hb2⟩
          go_wp2_with fail
          go_ret
          exact ⟨rfl, hB2.trans (hb2.mono hB2.size)⟩
      · obtain ⟨rfl, hNu⟩ : M = true ∧ N < u := by
          cases M
          · exact absurd (.inl rfl) hx
          · exact ⟨rfl, by omega⟩
        clear hx
        obtain ⟨hkl, hNk, hs0⟩ := at_lt HG.out HA.out hNu hlt
        have HN := at_next HG.out HA.out hNu HU.out hlt
        have HNX := Lib.hid HN
        obtain ⟨ad, rfl, hadb, hcell⟩ := hse.num hkl
        rw [(got_get HG.out hkl).1, ← hNk] at hcell
        have hux : decide (u ≤ N) = false := decide_eq_false (by omega)
        have hle2 : decide (xs.length ≤ k) = false := decide_eq_false (by omega)
        have hsub : IntKind.u64.wrap ((u : Int) - (N : Int)) = ((u - N : Nat) : Int) := by
          rw [← Int.ofNat_sub (by omega)]
          exact wrapN _ (by have := HU.out; rw [big] at this; omega)
        obtain ⟨d, hd⟩ : ∃ d, d = u - N := ⟨_, rfl⟩
        rw [← hd] at hsub HNX
        have hadd : IntKind.u64.wrap ((N : Int) + ((min s d : Nat) : Int)) = ((N + min s d : Nat) : Int) := wrapN (N + min s d) (by have := HU.out; rw [big] at this; omega)
        clear hNk hs0 HN hd hNu
        go_wp2_with fail
        refine ⟨⟨k + 1, N + min s d, _, by omega, by go_num, ?_, rfl, HNX⟩, by simp [intOf]; omega⟩
        rw [show (if d < s then (d : Int) else (s : Int)) = ((min s d : Nat) : Int) by split <;> omega, hadd]
    · obtain rfl : k = many := by omega
      have hlen : xs.length = k := by have := HA.out.1; omega
      clear hlt
      subst hlen
      go_wp2_with fail
      refine (works_any _ ht1).mono ?_
      rintro r w2 ⟨rfl, hb2⟩
      go_wp2_with fail
      go_ret
      exact ⟨rfl, hB2.trans (hb2.mono hB2.size)⟩

theorem roundSteps_any (f u s : Nat) (many : Int) (w : World) (ht : Tab w) (hf : f < big) (hu : u < big) (hs : s < big) :
    Calls Tryd.prog 6 #[.int .u64 (f : Int), .agg #[.int .u64 (u : Int), .int .u64 (s : Int)], .int .i64 many] w fun e w' => e = .returned (.bool true) ∧ Below w.heap.size w w' := by
  by_cases h : many < 1 ∨ 300 < many
  · exact roundSteps_far f u s many w ht h
  · obtain ⟨m, rfl⟩ : ∃ m : Nat, many = m := ⟨many.toNat, by omega⟩
    exact roundSteps_near f u s m w ht hf hu hs (by omega) (by omega)
end Go.Proofs.YtmifkbjdamhoiaaDoor
