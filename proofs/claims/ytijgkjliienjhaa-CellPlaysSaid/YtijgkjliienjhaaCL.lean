import Derived.Test.YtijgkjliienjhaaCK
namespace Go.Proofs.Ytijgkjliienjhaa
open Go.RowKit Go.Shelf
attribute [local go_sem] Oper.semAt_some

/- THE LAW's LIST OF THE DOCUMENT's CELLS THAT ARE NOT ZERO. -/
def RI (w : World) (ws : List Nat) (s3 s4 : Value) (wr : World) : Prop :=
  ∃ (i m : Nat) (A : Option Addr) (c : Nat), i ≤ ws.length ∧ s4 = .int .i64 (i : Int) ∧ m ≤ i ∧ s3 = .slice A m c ∧ Hid (m = (nzTo ws i).length) ∧ wr.ownsRow w.heap.size 61 2 (.slice A m c) m ((nzTo ws i).flatMap encR) ∧ Below w.heap.size w wr
theorem ri_step {w wr w4 : World} {ws : List Nat} {i m : Nat} {v' : Value} {A : Option Addr} {c : Nat} {ob : Obj} (hi : i < ws.length) (h0 : ws[i] ≠ 0) (hm : m = (nzTo ws i).length) (hmi : m ≤ i) (ho : w4.ownsRow w.heap.size 61 2 v' (m + 1) ((nzTo ws i).flatMap encR ++ encR (i, ws[i])))
    (ho0 : wr.ownsRow w.heap.size 61 2 (.slice A m c) m ((nzTo ws i).flatMap encR)) (hb : Below w.heap.size w wr) (hg : (wr.alloc ob).grownBy w4 (Value.slice A m c).ownBlock) : ∃ A' c', v' = .slice A' (m + 1) c' ∧ RI w ws (.slice A' (m + 1) c') (.int .i64 ((i : Int) + 1)) w4 := by
  obtain ⟨A', c', rfl⟩ := own_slice ho
  refine ⟨A', c', rfl, i + 1, m + 1, A', c', by omega, by go_num, by omega, rfl, ?_, ?_, ?_⟩
  · show _ = _
    rw [nz_take hi h0, List.length_append, hm]
    rfl
  · rw [nz_take hi h0, List.flatMap_append]
    simpa using ho
  · exact (hb.alloc hb.size ob).grown hg (by rw [World.size_alloc]; have := hb.size; omega) (fun k hk => (ho0.lt k hk).1)
theorem ri_skip {w wr : World} {ws : List Nat} {i m : Nat} {A : Option Addr} {c : Nat} (hi : i < ws.length) (h0 : ws[i] = 0) (hm : m = (nzTo ws i).length) (hmi : m ≤ i) (ho0 : wr.ownsRow w.heap.size 61 2 (.slice A m c) m ((nzTo ws i).flatMap encR)) (hb : Below w.heap.size w wr) : RI w ws (.slice A m c) (.int .i64 ((i : Int) + 1)) wr := by
  refine ⟨i + 1, m, A, c, by omega, by go_num, by omega, rfl, ?_, ?_, hb⟩
  · show _ = _
    rw [nz_skip hi h0]
    exact hm
  · rw [nz_skip hi h0]
    exact ho0
set_option maxRecDepth 100000 in
set_option maxHeartbeats 1000000 in
theorem rrows_any (g c n : Nat) (l : Cs) (w : World) (hl : l.length = n) (hn : n ≤ 1024) (h : Lst 82 w g l) :
    Calls Try.prog 22 #[.slice (some ⟨g, 0, none⟩) n c] w (RowsP w (nz (wordsOf l))) := by
  obtain ⟨i0, hi0, hz0, hz1, hz2⟩ := info_parts row_info
  have HL := Lib.hid (show (wordsOf l).length = n by rw [wordsOf_len, hl])
  have HC : Hid (∀ k (hk : k < n) V, Below w.heap.size w V → V.cell? ⟨g, k * 2, none⟩ = some (.int .u64 ((wordsOf l)[k]'(by rw [wordsOf_len, hl]; exact hk) : Int))) := Lib.hid (fun k hk V hb => by
    have := (h.below hb).c0 (k := k) (by rw [hl]; exact hk)
    simpa [wordsOf] using this)
  have HST : Hid (RI w (wordsOf l) (.slice none 0 0) (.int .i64 0) w) := Lib.hid ⟨0, 0, none, 0, Nat.zero_le _, rfl, Nat.le_refl _, rfl, rfl, World.ownsRow_nil _ _ _ _, Below.refl _ _⟩
  obtain ⟨ws, hws⟩ : ∃ ws, ws = wordsOf l := ⟨_, rfl⟩
  have HC2 : Hid (∀ k (hk : k < ws.length) V, Below w.heap.size w V → V.cell? ⟨g, k * 2, none⟩ = some (.int .u64 (ws[k] : Int))) := Lib.hid (by subst hws; exact fun k hk V hb => HC.out k (by rw [wordsOf_len, hl] at hk; exact hk) V hb)
  rw [← hws] at HL HST ⊢
  clear h hl hws HC
  go_enter Try.func22, Try.ntmps22
  go_wp2_with fail
  go_loopw [3, 4] (fun s3 s4 wr => RI w ws s3 s4 wr) (fun _ s4 _ => n - (_root_.Go.RowKit.intOf s4).toNat)
  case atStart => exact HST.out
  case round =>
    obtain ⟨i, m, A, cc, hi, rfl, hmi, rfl, hm, ho, hb⟩ := hrel
    rw [HL.out] at hi
    by_cases hlt : i < n
    · have hil : i < ws.length := by rw [HL.out]; exact hlt
      have j0 : (0 : Int) ≤ (i : Int) := by omega
      have j1 : (i : Int) < (n : Int) := by omega
      have j2 : decide ((i : Int) < (n : Int)) = true := decide_eq_true j1
      have jw : IntKind.i64.wrap ((i : Int) + 1) = (i : Int) + 1 := wrapI _ (by omega) (by omega)
      have hc := HC2.out i hil wr hb
      by_cases h0 : ws[i] = 0
      · have HN := Lib.hid (ri_skip hil h0 hm.out hmi ho hb)
        rw [h0] at hc
        clear h0 ho hm hi hb
        go_wp2_with fail
        go_roundw
        case rel => exact HN.out
        case measure => simp [_root_.Go.RowKit.intOf]; omega
      · obtain ⟨x, hx⟩ : ∃ x, x = ws[i] := ⟨_, rfl⟩
        have HN : Hid (∀ v' w4, w4.ownsRow w.heap.size 61 2 v' (m + 1) ((nzTo ws i).flatMap encR ++ encR (i, x)) → (wr.alloc (.cells #[.int .i64 (i : Int), .int .u64 (x : Int)] 61)).grownBy w4 (Value.slice A m cc).ownBlock → ∃ A' c', v' = .slice A' (m + 1) c' ∧ RI w ws (.slice A' (m + 1) c') (.int .i64 ((i : Int) + 1)) w4) := Lib.hid (fun v' w4 a1 a2 => ri_step hil h0 hm.out hmi (hx ▸ a1) ho hb a2)
        rw [← hx] at hc
        have hxn : ((x : Int) != 0) = true := by rw [← hx] at h0; simp; omega
        have ho1 := ho.alloc (.cells #[.int .i64 (i : Int), .int .u64 (x : Int)] 61)
        have hws := hb.size
        clear h0 hx hm hb ho
        go_wp2_with (at_builtin; refine wpList_append_sees rfl (.tmp 17) (.tmp 25) 45 rfl w.heap.size 61 i0 _ 2 16 Try.underlying45 hi0 hz0 hz1 hz2 rfl (by decide) _ m ((nzTo ws i).flatMap encR) rfl ho1 (wr.heap.size + 1) (some ⟨wr.heap.size, 0, none⟩) 1 1 (encR (i, x)) rfl rfl (fun _ => ⟨_, rfl, by simp, cells_two_new _ _ _ _⟩) (by simp [encR, Value.oneCell']) (by unfold maxLen; omega) (by omega) (by simp; omega) ?_; intro v' w4 a1 a2 _; obtain ⟨A', c', rfl, hri⟩ := HN.out v' w4 a1 a2; have HR := Lib.hid hri; clear a1 a2 hri HN)
        go_roundw
        case rel => exact HR.out
        case measure => simp [_root_.Go.RowKit.intOf]; omega
    · obtain rfl : i = n := by omega
      have j2 : decide ((i : Int) < (i : Int)) = false := decide_eq_false (by omega)
      have hfin := Lib.hid (show RowsP w (nz ws) (.returned (.slice A m cc)) wr from by
        have e : nzTo ws i = nz ws := by rw [← HL.out]; rfl
        have hm := hm.out
        rw [e] at hm ho
        subst hm
        exact ⟨A, cc, rfl, ho, hb⟩)
      clear ho hb hm
      go_wp2_with fail
      go_ret
      exact hfin.out
end Go.Proofs.Ytijgkjliienjhaa
