import Derived.Test.YtijgkjliienjhaaCH
import Derived.Test.YtijgkjliienjhaaRange
namespace Go.Proofs.Ytijgkjliienjhaa
open Go.RowKit Go.Shelf
attribute [local go_sem] Oper.semAt_some

/- THE WORDS OF ALL CELLS; THE NUMBERS THAT ARE NOT ZERO, EACH WITH ITS PLACE. -/
theorem own_row {W : World} {base g k : Nat} {e : TypeId} {xs : List Value} (h : W.ownsRow base e 1 (.slice (some ⟨g, 0, none⟩) k k) k xs) : Row W g e xs := by
  obtain ⟨_, ⟨hv, _⟩ | ⟨g', c', cur, hv, _, hh, _, _, hs, ht⟩⟩ := h
  · cases hv
  · simp only [Value.slice.injEq, Option.some.injEq, Addr.mk.injEq, and_true, true_and] at hv
    obtain ⟨rfl, rfl⟩ := hv
    rw [List.take_of_length_le (by simp [hs])] at ht
    show W.heap[g]? = _
    rw [hh, ← ht]
def wds (l : List Nat) : List Value := l.map fun n : Nat => .int .u64 (n : Int)
theorem wds_len (l : List Nat) : (wds l).length = l.length := by simp [wds]
theorem wds_get (l : List Nat) {i : Nat} (h : i < l.length) : (wds l)[i]? = some (.int .u64 (l[i] : Int)) := by simp [wds, h]
theorem word_info : (Try.prog.info? 35).map (fun i => (i.zero, i.size, i.bytes)) = some (some (.int .u64 0), 1, 8) := by kernel_rfl
def wordsOf (l : Cs) : List Nat := l.map Prod.fst
theorem wordsOf_len (l : Cs) : (wordsOf l).length = l.length := by simp [wordsOf]
theorem words_step {l : Cs} {k : Nat} (h : k < l.length) : wds ((wordsOf l).take (k + 1)) = wds ((wordsOf l).take k) ++ [.int .u64 (l[k].1 : Int)] := by
  rw [List.take_succ_eq_append_getElem (by rw [wordsOf_len]; exact h), wds, List.map_append]
  simp [wds, wordsOf]
set_option maxHeartbeats 1000000 in
theorem words_any (g n c : Nat) (l : Cs) (w : World) (hl : l.length = n) (hn : n ≤ 1024) (h : Lst 70 w g l) :
    Calls Try.prog 37 #[.slice (some ⟨g, 0, none⟩) n c] w fun e w' => e = .returned (.slice (some ⟨w.heap.size, 0, none⟩) n n) ∧ Row w' w.heap.size 35 (wds (wordsOf l)) ∧ Below w.heap.size w w' := by
  obtain ⟨i0, hi, hz0, hz1, hz2⟩ := info_parts word_info
  have hmk : ∀ W : World, (Instr.makeSlice 65 (.int .i64 0) (.int .i64 (n : Int))).run Try.prog W = .ok (.slice (some ⟨W.heap.size, 0, none⟩) 0 n) (W.alloc (.cells (List.replicate n (.int .u64 0)).toArray 35)) := fun W =>
    make_one (P := Try.prog) Try.underlying65 hi hz0 hz1 rfl 0 n (Nat.zero_le _) (by rw [hz2]; omega) (by omega) W
  have HC : Hid (∀ k (hk : k < n) V, Below w.heap.size w V → ∃ x y, V.cell? ⟨g, k * 2, none⟩ = some (.int .u64 (x : Int)) ∧ V.cell? ⟨g, k * 2 + 1, none⟩ = some (.int .i64 (y : Int)) ∧ wds ((wordsOf l).take (k + 1)) = wds ((wordsOf l).take k) ++ [.int .u64 (x : Int)]) := Lib.hid (fun k hk V hb =>
    ⟨l[k].1, l[k].2, (h.below hb).c0 _, (h.below hb).c1 _, words_step _⟩)
  have HEND : Hid (wds ((wordsOf l).take n) = wds (wordsOf l)) := Lib.hid (by rw [List.take_of_length_le (by rw [wordsOf_len, hl]; exact Nat.le_refl _)])
  have HST : Hid ((w.alloc (.cells (List.replicate n (.int .u64 0)).toArray 35)).ownsRow w.heap.size 35 1 (.slice (some ⟨w.heap.size, 0, none⟩) 0 n) 0 (wds ((wordsOf l).take 0))) := Lib.hid (World.ownsRow_made w _ n (Nat.le_refl _) (by unfold maxLen; omega) (by simp))
  obtain ⟨zs, hzs⟩ : ∃ zs, zs = (List.replicate n (Value.int .u64 0)).toArray := ⟨_, rfl⟩
  rw [← hzs] at hmk HST
  clear h hl hzs
  go_enter Try.func37, Try.ntmps37
  go_wp2_with fail
  clear hmk
  go_loopw [3, 11] (fun v i wr => ∃ k : Nat, k ≤ n ∧ i = .int .i64 k ∧ v = .slice (some ⟨w.heap.size, 0, none⟩) k n ∧ wr.ownsRow w.heap.size 35 1 v k (wds ((wordsOf l).take k)) ∧ Below w.heap.size w wr ∧ w.heap.size < wr.heap.size) (fun _ i _ => n - (intOf i).toNat)
  case atStart => exact ⟨0, Nat.zero_le _, rfl, rfl, HST.out, below1 _ _, by simp⟩
  case round =>
    obtain ⟨k, hk, rfl, rfl, hown, hB, hws⟩ := hrel
    by_cases hlt : k < n
    · obtain ⟨x, y, c0, c1, hstep⟩ := HC.out k hlt wr hB
      have i1 : decide ((k : Int) < (n : Int)) = true := decide_eq_true (by omega)
      have i2 : (0 : Int) ≤ (k : Int) := by omega
      have i3 : (k : Int) < (n : Int) := by omega
      have hnext := Lib.hid hstep
      have hown1 := (hown.alloc (.cells #[.int .u64 (x : Int), .int .i64 (y : Int)] 70)).alloc (.cells #[.int .u64 (x : Int)] 35)
      have hB1 := Lib.hid (below0 hB (below2 wr (.cells #[.int .u64 (x : Int), .int .i64 (y : Int)] 70) (.cells #[.int .u64 (x : Int)] 35)))
      clear hstep
      go_wp2_with (at_builtin; refine wpList_append_fits _ rfl (.tmp 15) (.tmp 18) 65 rfl w.heap.size 35 i0 1 Try.underlying65 hi hz1 w.heap.size k n _ rfl hown1 ⟨wr.heap.size + 1, 0, none⟩ 1 1 [.int .u64 (x : Int)] rfl rfl (fun j u hu => by rw [add_plain, Nat.zero_add]; exact (cell_new_at _ _ _ _ (by simp)).trans (by simpa using hu)) (by simp [Value.oneCell']) (by omega) ?_; intro w4 hown4 hg4)
      go_roundw
      case rel =>
        refine ⟨k + 1, by omega, by go_num, rfl, by rw [hnext.out]; exact hown4, hB1.out.grown hg4 ?_ ?_, ?_⟩
        · simp; have := hB.size; omega
        · intro r e; cases e; exact Nat.le_refl _
        · have := hg4.size; simp at this; omega
      case measure => simp [intOf]; omega
    · obtain rfl : k = n := by omega
      go_wp2
      go_ret
      rw [HEND.out] at hown
      exact ⟨rfl, own_row hown, hB⟩

/-- where words come from: nowhere, or a block -/
def Src (w : World) (A : Option Addr) (l : List Nat) : Prop := (A = none ∧ l = []) ∨ ∃ g, A = some ⟨g, 0, none⟩ ∧ Row w g 35 (wds l)
theorem Src.same {w w' : World} {A : Option Addr} {l : List Nat} (h : Src w A l) (hk : ∀ k, A = some ⟨k, 0, none⟩ → w'.heap[k]? = w.heap[k]?) : Src w' A l := by
  rcases h with h | ⟨g, e, h⟩
  · exact .inl h
  · exact .inr ⟨g, e, h.same (hk g e)⟩
theorem Src.below {w w' : World} {A : Option Addr} {l : List Nat} (h : Src w A l) (hb : Below w.heap.size w w') : Src w' A l := by
  rcases h with h | ⟨g, e, h⟩
  · exact .inl h
  · exact .inr ⟨g, e, h.below hb⟩
theorem Src.lt {w : World} {A : Option Addr} {l : List Nat} (h : Src w A l) {k : Nat} (e : A = some ⟨k, 0, none⟩) : k < w.heap.size := by
  rcases h with ⟨h, _⟩ | ⟨g, e', h⟩
  · rw [h] at e; cases e
  · rw [e'] at e
    simp only [Option.some.injEq, Addr.mk.injEq, and_true] at e
    rw [← e]; exact h.lt
theorem Src.word {w : World} {A : Option Addr} {l : List Nat} (h : Src w A l) {k : Nat} (hk : k < l.length) : ∃ g, A = some ⟨g, 0, none⟩ ∧ w.cell? ⟨g, k, none⟩ = some (.int .u64 (l[k] : Int)) := by
  rcases h with ⟨_, rfl⟩ | ⟨g, e, h⟩
  · simp at hk
  · exact ⟨g, e, by rw [h.cell k]; exact wds_get _ hk⟩

/-! those that are not zero -/
def nzAt (l : List Nat) (i : Nat) : List (Nat × Nat) := if l.getD i 0 = 0 then [] else [(i, l.getD i 0)]
def nzTo (l : List Nat) : Nat → List (Nat × Nat)
  | 0 => []
  | i + 1 => nzTo l i ++ nzAt l i
def nz (l : List Nat) : List (Nat × Nat) := nzTo l l.length
theorem nzTo_more (l : List Nat) (i : Nat) : ∀ d, ∃ r, nzTo l (i + d) = nzTo l i ++ r
  | 0 => ⟨[], by simp⟩
  | d + 1 => by
    obtain ⟨r, h⟩ := nzTo_more l i d
    exact ⟨r ++ nzAt l (i + d), by rw [show i + (d + 1) = (i + d) + 1 by omega, nzTo, h, List.append_assoc]⟩
theorem nz_from (l : List Nat) {i : Nat} (h : i ≤ l.length) : ∃ r, nz l = nzTo l i ++ r := by
  obtain ⟨r, e⟩ := nzTo_more l i (l.length - i)
  exact ⟨r, by unfold nz; rw [← e, show i + (l.length - i) = l.length by omega]⟩
theorem nzTo_len (l : List Nat) : ∀ i, (nzTo l i).length ≤ i
  | 0 => Nat.le_refl _
  | i + 1 => by
    have h1 := nzTo_len l i
    have h2 : (nzAt l i).length ≤ 1 := by
      unfold nzAt
      split <;> simp
    rw [nzTo, List.length_append]
    omega
theorem nz_skip {l : List Nat} {k : Nat} (h : k < l.length) (h0 : l[k] = 0) : nzTo l (k + 1) = nzTo l k := by
  rw [nzTo, nzAt, if_pos (by simpa [h] using h0), List.append_nil]
theorem nz_take {l : List Nat} {k : Nat} (h : k < l.length) (h0 : l[k] ≠ 0) : nzTo l (k + 1) = nzTo l k ++ [(k, l[k])] := by
  rw [nzTo, nzAt, if_neg (by simpa [h] using h0)]
  simp [h]
def encA (x : Nat × Nat) : Array Value := #[.int .i64 (x.1 : Int), .int .u64 (x.2 : Int)]
def preA (L : List (Nat × Nat)) (pre : List (Nat × Nat)) (x : Nat × Nat) (_ : World) : Prop := ∃ post, L = pre ++ x :: post
def allA (L : List (Nat × Nat)) (xs : List (Nat × Nat)) : Prop := xs = L
def someA (L : List (Nat × Nat)) (xs : List (Nat × Nat)) : Prop := ∃ post, L = xs ++ post
theorem nz_pre {l : List Nat} {k : Nat} (h : k < l.length) (h0 : l[k] ≠ 0) (w : World) : preA (nz l) (nzTo l k) (k, l[k]) w := by
  obtain ⟨r, e⟩ := nz_from l (i := k + 1) (by omega)
  exact ⟨r, by rw [e, nz_take h h0]; simp⟩
theorem nz_some {l : List Nat} {k : Nat} (h : k ≤ l.length) : someA (nz l) (nzTo l k) := nz_from l h
def privA (bw : Nat) (A : Option Addr) (k : Nat) : Prop := k = bw ∨ A = some ⟨k, 0, none⟩
theorem notz_any (A : Option Addr) (n c : Nat) (w : World) : Calls Try.prog 39 #[.slice A n c] w fun e w' =>
    e = .returned (.func (.func 41) #[] #[bx w.heap.size]) ∧ w.alloc (.cells #[.slice A n c] 65) = w' := by
  go_enter Try.func39, Try.ntmps39
  go_wp2
  go_ret
  exact ⟨rfl, rfl⟩
set_option maxHeartbeats 2000000 in
theorem notz_it (l : List Nat) (A : Option Addr) (c bw : Nat) (w0 : World) (hl : l.length ≤ 1024) (hcw : w0.cell? ⟨bw, 0, none⟩ = some (.slice A l.length c)) (hsrc : Src w0 A l) :
    It Try.prog 41 #[bx bw] encA (fun _ _ => False) (preA (nz l)) (privA bw A) (allA (nz l)) (someA (nz l)) w0 := by
  intro l0 J Jx W hpW hsW hJ hJx hY h0
  have hWc : W.cell? ⟨bw, 0, none⟩ = some (.slice A l.length c) := (World.cell?_of_block (hpW bw (.inl rfl))).trans hcw
  have hWs : Src W A l := hsrc.same fun k hk => hpW k (.inr hk)
  refine (callsIn_wide (n := 1)).1 ?_
  have HL := Lib.hid hl
  obtain ⟨n, hn⟩ : ∃ n, n = l.length := ⟨_, rfl⟩
  rw [← hn] at hWc HL
  have HN := Lib.hid hn
  clear hn hcw hsrc hpW hl
  refine callsIn_of_wp Try.func41 rfl trivial ?_ rfl
  simp only [Try.ntmps41, List.size_toArray, List.length_cons, List.length_nil, Nat.reduceAdd, Nat.reduceSub, Array.replicate_succ, Array.replicate_zero, List.push_toArray, List.append_toArray, List.nil_append, List.cons_append]
  gi_wp2_with fail
  gi_loopw [7] (fun t wr => ∃ (k : Nat) (pre : List (Nat × Nat)) (O : Nat → Prop), t = .int .i64 k ∧ k ≤ n ∧ Hid (pre = nzTo l k) ∧ J pre O wr ∧ W.heap.size ≤ wr.heap.size ∧ (∀ b, O b → W.heap.size ≤ b ∧ b < wr.heap.size) ∧ Src wr A l) (fun t _ => n - (intOf t).toNat)
  case atStart => exact ⟨0, [], fun _ => False, rfl, by omega, rfl, h0, Nat.le_refl _, fun b (h : False) => h.elim, hWs⟩
  case round =>
    obtain ⟨k, pre, O, rfl, hk, Hpre, hj, hws, hO, hsr⟩ := hrel
    by_cases hlt : k < n
    · have hnb : n ≤ 1024 := HL.out
      have hkl : k < l.length := by rw [← HN.out]; exact hlt
      obtain ⟨g, rfl, hc⟩ := hsr.word hkl
      have i0 : (0 : Int) ≤ (k : Int) := by omega
      have i1 : (k : Int) < (n : Int) := by omega
      have i2 : decide ((k : Int) < (n : Int)) = true := decide_eq_true i1
      by_cases hz : l[k] = 0
      · rw [hz] at hc
        have HP : Hid (pre = nzTo l (k + 1)) := Lib.hid (by rw [Hpre.out, nz_skip hkl hz])
        clear hz Hpre
        gi_wp2_with fail
        refine ⟨(fun _ h => by cases h), ?_⟩
        gi_wp2_with fail
        go_roundw
        case rel => exact ⟨k + 1, pre, O, by go_num, by omega, HP, hj, hws, hO, hsr⟩
        case measure => simp [intOf]; omega
      · have HT := Lib.hid (nz_take hkl hz)
        have HPP := Lib.hid (nz_pre hkl hz)
        obtain ⟨x, hx⟩ : ∃ x, x = l[k] := ⟨_, rfl⟩
        rw [← hx] at hz hc HT HPP
        have hne : ((x : Int) != 0) = true := by simp; omega
        obtain ⟨fn, tmps, assign, body, hy, hR⟩ := hY pre (k, x) O wr hws hO hj (by rw [Hpre.out]; exact HPP.out _) (fun b (h : False) => h.elim)
        simp only [encA] at hy
        clear hx hz HPP
        gi_wp2_with fail
        refine hR.mono ?_
        rintro e W' ⟨hk', (⟨rfl, hj'⟩ | ⟨rfl, hjx⟩)⟩
        · have hsr4 : Src W' (some ⟨g, 0, none⟩) l := hsr.same fun k hk => hk'.same k (hsr.lt hk) (.inl (.inr hk))
          have hO4 := nextO_bound (M := fun _ => False) hO hws hk'.size
          have hws4 := Nat.le_trans hws hk'.size
          clear hsr hO hws hk'
          gi_wp2
          go_roundw
          case rel => exact ⟨k + 1, _, _, by go_num, by omega, Lib.hid (by rw [Hpre.out, HT.out]), hj', hws4, hO4, hsr4⟩
          case measure => simp [intOf]; omega
        · gi_wp2
          refine bodyPost_ret (results_none rfl _ _ _) rfl ?_
          refine itEnd.part ?_ hjx
          rw [Hpre.out, ← HT.out]
          exact nz_some (by rw [← HN.out]; omega)
    · obtain rfl : k = n := by omega
      gi_wp2
      go_end0
      exact itEnd.all (show pre = _ by rw [Hpre.out, HN.out]; rfl) hj
end Go.Proofs.Ytijgkjliienjhaa
