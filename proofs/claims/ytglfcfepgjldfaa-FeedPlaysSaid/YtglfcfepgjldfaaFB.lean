import Derived.Test.YtglfcfepgjldfaaFA
import Derived.Laws.BitsAllLaws
namespace Go.Proofs.Ytglfcfepgjldfaa.Fe
open Go.RowKit Go.Shelf
attribute [local go_sem] Oper.semAt_some

/- THE DOCUMENT's FEED: SEEK, PICK, DRAW. -/
theorem rseek_no (l : List UInt8) (p : Nat) (z : Int) (hz : z < 0 ∨ (l.length : Int) < z) (w : World) : Calls Try.prog 24 #[fv l p, .int .i64 z] w fun e w' => e = .returned (.tuple #[fv l p, .int .i64 0, .int .i64 4]) ∧ Below w.heap.size w w' := by
  have hsz := str_size l
  obtain ⟨S, hS⟩ : ∃ S, S = str l := ⟨_, rfl⟩
  unfold fv
  rw [← hS] at hsz ⊢
  obtain ⟨k, hk⟩ : ∃ k, k = l.length := ⟨_, rfl⟩
  rw [← hk] at hsz hz
  clear hS hk
  by_cases h0 : z < 0
  · have d1 : decide (z < 0) = true := decide_eq_true h0
    clear hz
    go_enter Try.func24, Try.ntmps24
    go_wp2_with fail
    exact bodyPost_ret (v := .tuple #[.agg #[.string S, .int .i64 (p : Int)], .int .i64 0, .int .i64 4]) (by simp [results, Try.results24, go_sem]) rfl ⟨rfl, below2 _ _ _⟩
  · have d1 : decide (z < 0) = false := decide_eq_false h0
    have d2 : decide ((k : Int) < z) = true := decide_eq_true (by omega)
    clear hz
    go_enter Try.func24, Try.ntmps24
    go_wp2_with fail
    exact bodyPost_ret (v := .tuple #[.agg #[.string S, .int .i64 (p : Int)], .int .i64 0, .int .i64 4]) (by simp [results, Try.results24, go_sem]) rfl ⟨rfl, below2 _ _ _⟩
theorem rseek_ok (l : List UInt8) (p q : Nat) (hq : q ≤ l.length) (w : World) : Calls Try.prog 24 #[fv l p, .int .i64 (q : Int)] w fun e w' => e = .returned (.tuple #[fv l q, .int .i64 (p : Int), .int .i64 0]) ∧ Below w.heap.size w w' := by
  have hsz := str_size l
  obtain ⟨S, hS⟩ : ∃ S, S = str l := ⟨_, rfl⟩
  unfold fv
  rw [← hS] at hsz ⊢
  obtain ⟨k, hk⟩ : ∃ k, k = l.length := ⟨_, rfl⟩
  rw [← hk] at hsz hq
  clear hS hk
  have d1 : decide ((q : Int) < 0) = false := decide_eq_false (by omega)
  have d2 : decide ((k : Int) < (q : Int)) = false := decide_eq_false (by omega)
  have d3 : decide (k < q) = false := decide_eq_false (by omega)
  go_enter Try.func24, Try.ntmps24
  go_wp2_with fail
  go_region
  go_wp2_with fail
  exact bodyPost_ret (v := .tuple #[.agg #[.string S, .int .i64 (q : Int)], .int .i64 (p : Int), .int .i64 0]) (by simp [results, Try.results24, go_sem]) rfl ⟨rfl, (below2 _ _ _).drew⟩
theorem rpick_no (l : List UInt8) (p : Nat) (z : Int) (hz : z < 1 ∨ 256 < z) (w : World) : Calls Try.prog 21 #[fv l p, .int .i64 z] w fun e w' => e = .returned (.tuple #[fv l p, .int .i64 0, .int .i64 2]) ∧ Below w.heap.size w w' := by
  obtain ⟨S, hS⟩ : ∃ S, S = str l := ⟨_, rfl⟩
  unfold fv
  rw [← hS]
  clear hS
  by_cases h0 : z < 1
  · have d1 : decide (z < 1) = true := decide_eq_true h0
    clear hz
    go_enter Try.func21, Try.ntmps21
    go_wp2_with fail
    exact bodyPost_ret (v := .tuple #[.agg #[.string S, .int .i64 (p : Int)], .int .i64 0, .int .i64 2]) (by simp [results, Try.results21, go_sem]) rfl ⟨rfl, below2 _ _ _⟩
  · have d1 : decide (z < 1) = false := decide_eq_false h0
    have d2 : decide ((256 : Int) < z) = true := decide_eq_true (by omega)
    clear hz
    go_enter Try.func21, Try.ntmps21
    go_wp2_with fail
    exact bodyPost_ret (v := .tuple #[.agg #[.string S, .int .i64 (p : Int)], .int .i64 0, .int .i64 2]) (by simp [results, Try.results21, go_sem]) rfl ⟨rfl, below2 _ _ _⟩
/-- a result's two cells stored, behind a new object -/
theorem two_set {w w1 : World} {g : Nat} {t : TypeId} {a b : Value} (hrow : Row w1 g t [a, b]) (hb : Below w.heap.size w w1) (hg : w.heap.size ≤ g) (S q : Value) (o : Obj) :
    (((w1.setCell ⟨g, 0, none⟩ S).setCell ⟨g, 1, none⟩ q).alloc o).cell? ⟨g, 0, none⟩ = some S ∧ (((w1.setCell ⟨g, 0, none⟩ S).setCell ⟨g, 1, none⟩ q).alloc o).cell? ⟨g, 1, none⟩ = some q ∧ Below w.heap.size w (((w1.setCell ⟨g, 0, none⟩ S).setCell ⟨g, 1, none⟩ q).alloc o) := by
  have h1 := (hrow.set 0 S).set 1 q
  have h2 : Row (((w1.setCell ⟨g, 0, none⟩ S).setCell ⟨g, 1, none⟩ q).alloc o) g t [S, q] := h1.below (below1 _ o)
  have h3 := (hb.setCell (p := ⟨g, 0, none⟩) hg S).setCell (p := ⟨g, 1, none⟩) hg q
  exact ⟨h2.cell 0, h2.cell 1, h3.alloc h3.size o⟩
def pickN (l : List UInt8) (p n : Nat) : Nat := (l.getD p 0).toNat % n
def pickP (l : List UInt8) (p : Nat) : Nat := p + min 1 (l.length - p)
theorem rpick_ok (l : List UInt8) (p n : Nat) (h : small l p) (h1 : 1 ≤ n) (h2 : n ≤ 256) (w : World) : Calls Try.prog 21 #[fv l p, .int .i64 (n : Int)] w fun e w' => e = .returned (.tuple #[fv l (pickP l p), .int .i64 (pickN l p n : Int), .int .i64 0]) ∧ Below w.heap.size w w' := by
  have HT := Lib.hid (fun w => rtake_ok l p 1 h (by omega) w)
  have HB := Lib.hid (fun (w1 : World) (hb : Below ((w.alloc (.cells #[.string (str l), .int .i64 (p : Int)] 28)).alloc (.cells #[.string (str []), .int .i64 0] 28)).heap.size ((w.alloc (.cells #[.string (str l), .int .i64 (p : Int)] 28)).alloc (.cells #[.string (str []), .int .i64 0] 28)) w1) => below0 (below2 w _ _) hb)
  have d1 : decide ((n : Int) < 1) = false := decide_eq_false (by omega)
  have d2 : decide ((256 : Int) < (n : Int)) = false := decide_eq_false (by omega)
  have d3 : decide (256 < n) = false := decide_eq_false (by omega)
  by_cases hp : p < l.length
  · have ht : (l.drop p).take 1 = [l[p]] := by rw [List.drop_eq_getElem_cons hp]; rfl
    have hP : pickP l p = p + min 1 (l.length - p) := rfl
    have hN : pickN l p n = l[p].toNat % n := by unfold pickN; simp [hp]
    rw [ht, ← hP] at HT
    rw [hN]
    obtain ⟨S, hS⟩ : ∃ S, S = str l := ⟨_, rfl⟩
    obtain ⟨q, hq⟩ : ∃ q, q = pickP l p := ⟨_, rfl⟩
    obtain ⟨b, hb⟩ : ∃ b, b = l[p] := ⟨_, rfl⟩
    have hix : ∀ w : World, (Instr.index 9 (.string (str [b])) (.int .i64 0)).run Try.prog w = .ok (.int .u8 (b.toNat : Int)) w := fun w => by
      rw [run_index_string w 9 (str [b]) .i64 0 Try.underlying9, dif_pos ⟨by omega, by rw [str_size]; simp⟩]
      rfl
    have hem : (str [b]).toList.isEmpty = false := by rw [str_toList]; rfl
    unfold fv at *
    rw [← hq, ← hb, ← hS] at HT
    rw [← hS] at HB
    rw [← hq, ← hb, ← hS]
    obtain ⟨T, hT⟩ : ∃ T, T = str [b] := ⟨_, rfl⟩
    rw [← hT] at HT hix hem
    have hbl : b.toNat < 256 := b.toNat_lt
    obtain ⟨m, hm⟩ : ∃ m, m = b.toNat := ⟨_, rfl⟩
    rw [← hm] at hix hbl
    rw [← hm]
    have e2 : (m : Int) % (n : Int) = ((m % n : Nat) : Int) := by omega
    have e3 : (m : Int).tmod (n : Int) = ((m % n : Nat) : Int) := rfl
    obtain ⟨r, hr⟩ : ∃ r, r = m % n := ⟨_, rfl⟩
    rw [← hr] at e2 e3
    rw [← hr]
    have hrl : r < 256 := by have := Nat.mod_le m n; omega
    have e4 : IntKind.i64.wrap (r : Int) = (r : Int) := wrapI _ (by omega) (by omega)
    have e1 : IntKind.i64.wrap (m : Int) = (m : Int) := wrapI _ (by omega) (by omega)
    have hn0 : ((n : Int) == 0) = false := by rw [beq_eq_false_iff_ne]; omega
    have hn1 : ¬ (n : Int) = 0 := by omega
    have hn2 : ¬ n = 0 := by omega
    clear ht hP hN hS hq hb hp h hT hm hr
    go_enter Try.func21, Try.ntmps21
    go_wp2_with fail
    refine (HT.out _).mono ?_
    rintro e w1 ⟨rfl, hb1⟩
    have hw1 := HB.out _ hb1
    have hrow : Row w1 (w.heap.size + 1) 28 [.string (str []), .int .i64 0] := by
      have := Row.new (w.alloc (.cells #[.string S, .int .i64 (p : Int)] 28)) 28 [.string (str []), .int .i64 0]
      rw [World.size_alloc] at this
      exact this.below hb1
    have c0 : w1.cell? ⟨w.heap.size + 1, 0, none⟩ = some (.string (str [])) := hrow.cell 0
    have c1 : w1.cell? ⟨w.heap.size + 1, 1, none⟩ = some (.int .i64 0) := hrow.cell 1
    have f0 := hrow.frozen 0
    have f1 := hrow.frozen 1
    have HF := Lib.hid (two_set hrow hw1 (show w.heap.size ≤ w.heap.size + 1 by omega) (.string S) (.int .i64 (q : Int)) (.cells #[.string S, .int .i64 (q : Int)] 28))
    have hlt := hrow.lt
    clear hb1 hw1 hrow
    go_wp2_with fail
    go_region
    go_wp2_with fail
    have k0 := HF.out.1
    have k1 := HF.out.2.1
    exact bodyPost_ret (v := .tuple #[.agg #[.string S, .int .i64 (q : Int)], .int .i64 (r : Int), .int .i64 0]) (by simp [results, Try.results21, go_sem, k0, k1]) rfl ⟨rfl, HF.out.2.2.drew⟩
  · have ht : (l.drop p).take 1 = [] := by rw [List.drop_eq_nil_of_le (by omega)]; rfl
    have hP : pickP l p = p + min 1 (l.length - p) := rfl
    have hN : pickN l p n = 0 := by unfold pickN; simp [List.getElem?_eq_none (show l.length ≤ p by omega)]
    rw [ht, ← hP] at HT
    rw [hN]
    obtain ⟨S, hS⟩ : ∃ S, S = str l := ⟨_, rfl⟩
    obtain ⟨q, hq⟩ : ∃ q, q = pickP l p := ⟨_, rfl⟩
    have hem : (str []).toList.isEmpty = true := by rw [str_toList]; rfl
    unfold fv at *
    rw [← hq, ← hS] at HT
    rw [← hS] at HB
    rw [← hq, ← hS]
    obtain ⟨T, hT⟩ : ∃ T, T = str [] := ⟨_, rfl⟩
    rw [← hT] at HT hem HB
    clear ht hP hN hS hq hp h
    have HTT := Lib.hid hT
    clear hT
    go_enter Try.func21, Try.ntmps21
    go_wp2_with fail
    refine (HT.out _).mono ?_
    rintro e w1 ⟨rfl, hb1⟩
    rw [HTT.out] at HB
    have hw1 := HB.out _ hb1
    have hrow : Row w1 (w.heap.size + 1) 28 [.string (str []), .int .i64 0] := by
      have := Row.new (w.alloc (.cells #[.string S, .int .i64 (p : Int)] 28)) 28 [.string (str []), .int .i64 0]
      rw [World.size_alloc] at this
      exact this.below hb1
    have c0 : w1.cell? ⟨w.heap.size + 1, 0, none⟩ = some (.string (str [])) := hrow.cell 0
    have c1 : w1.cell? ⟨w.heap.size + 1, 1, none⟩ = some (.int .i64 0) := hrow.cell 1
    have f0 := hrow.frozen 0
    have f1 := hrow.frozen 1
    have HF := Lib.hid (two_set hrow hw1 (show w.heap.size ≤ w.heap.size + 1 by omega) (.string S) (.int .i64 (q : Int)) (.cells #[.string S, .int .i64 (q : Int)] 28))
    have hlt := hrow.lt
    clear hb1 hw1 hrow
    go_wp2_with fail
    have k0 := HF.out.1
    have k1 := HF.out.2.1
    exact bodyPost_ret (v := .tuple #[.agg #[.string S, .int .i64 (q : Int)], .int .i64 0, .int .i64 0]) (by simp [results, Try.results21, go_sem, k0, k1]) rfl ⟨rfl, HF.out.2.2⟩
/-- a number out of bytes, the lowest ahead -/
def le : List UInt8 → Nat
  | [] => 0
  | b :: l => b.toNat + 256 * le l
theorem le_lt : ∀ l : List UInt8, le l < 256 ^ l.length
  | [] => by decide
  | b :: l => by
    have := le_lt l
    have := b.toNat_lt
    rw [List.length_cons, Nat.pow_succ]
    unfold le
    omega
theorem le_small {l : List UInt8} (h : l.length ≤ 4) : le l < 4294967296 := Nat.lt_of_lt_of_le (le_lt l) (Nat.pow_le_pow_right (by decide) h)
theorem le_shl {l : List UInt8} {j : Nat} (h4 : l.length ≤ 4) (hj : j < l.length) :
    bits .or .u32 (IntKind.u32.wrap ((le (l.drop (j + 1)) : Int) * 256)) (IntKind.u32.wrap (l[j].toNat : Int)) = (le (l.drop j) : Int) := by
  have hb : l[j].toNat < 256 := l[j].toNat_lt
  have h3 := le_small (l := l.drop j) (by simp; omega)
  rw [List.drop_eq_getElem_cons hj] at h3 ⊢
  simp only [le] at h3 ⊢
  have w1 : ∀ a : Nat, a < 4294967296 → IntKind.u32.wrap (a : Int) = (a : Int) := fun a ha => by rw [IntKind.wrap_u32]; omega
  rw [w1 _ (by omega), show (le (l.drop (j + 1)) : Int) * 256 = ((le (l.drop (j + 1)) * 256 : Nat) : Int) by simp, w1 _ (by omega), u32_or_nat _ _ (by omega) (by omega), nat_join 8 _ _ (by omega) (by omega)]
  congr 1
  omega
theorem rdraw_any (l : List UInt8) (p : Nat) (h : small l p) (w : World) : Calls Try.prog 22 #[fv l p] w fun e w' => e = .returned (.tuple #[fv l (p + min 4 (l.length - p)), .int .u32 (le ((l.drop p).take 4) : Int)]) ∧ Below w.heap.size w w' := by
  have HT := Lib.hid (fun w => rtake_ok l p 4 h (by omega) w)
  have HB := Lib.hid (fun (w1 : World) (hb : Below ((w.alloc (.cells #[.string (str l), .int .i64 (p : Int)] 28)).alloc (.cells #[.string (str []), .int .i64 0] 28)).heap.size ((w.alloc (.cells #[.string (str l), .int .i64 (p : Int)] 28)).alloc (.cells #[.string (str []), .int .i64 0] 28)) w1) => below0 (below2 w _ _) hb)
  obtain ⟨t, ht⟩ : ∃ t, t = (l.drop p).take 4 := ⟨_, rfl⟩
  have ht4 : t.length ≤ 4 := by rw [ht, List.length_take]; omega
  obtain ⟨S, hS⟩ : ∃ S, S = str l := ⟨_, rfl⟩
  obtain ⟨q, hq⟩ : ∃ q, q = p + min 4 (l.length - p) := ⟨_, rfl⟩
  unfold fv at *
  rw [← hq, ← hS, ← ht] at HT
  rw [← hS] at HB
  rw [← hq, ← hS, ← ht]
  have hsz := str_size t
  have hix : ∀ j (hj : j < t.length) (w : World), (Instr.index 9 (.string (str t)) (.int .i64 (j : Int))).run Try.prog w = .ok (.int .u8 (t[j].toNat : Int)) w := fun j hj w => by
    rw [run_index_string w 9 (str t) .i64 _ Try.underlying9, dif_pos ⟨by omega, by rw [str_size]; omega⟩]
    rfl
  obtain ⟨T, hT⟩ : ∃ T, T = str t := ⟨_, rfl⟩
  rw [← hT] at HT hix hsz
  clear hS hq ht hT h
  obtain ⟨k, hk⟩ : ∃ k, k = t.length := ⟨_, rfl⟩
  rw [← hk] at hsz
  have e1 : IntKind.i64.wrap ((k : Int) - 1) = (k : Int) - 1 := wrapI _ (by omega) (by omega)
  have HK := Lib.hid hk
  have HIX := Lib.hid hix
  clear hk hix
  go_enter Try.func22, Try.ntmps22
  go_wp2_with fail
  refine (HT.out _).mono ?_
  rintro e w1 ⟨rfl, hb1⟩
  have hw1 := HB.out _ hb1
  have hrow : Row w1 (w.heap.size + 1) 28 [.string (str []), .int .i64 0] := by
    have := Row.new (w.alloc (.cells #[.string S, .int .i64 (p : Int)] 28)) 28 [.string (str []), .int .i64 0]
    rw [World.size_alloc] at this
    exact this.below hb1
  have c0 : w1.cell? ⟨w.heap.size + 1, 0, none⟩ = some (.string (str [])) := hrow.cell 0
  have c1 : w1.cell? ⟨w.heap.size + 1, 1, none⟩ = some (.int .i64 0) := hrow.cell 1
  have f0 := hrow.frozen 0
  have f1 := hrow.frozen 1
  have HF := Lib.hid (two_set hrow hw1 (show w.heap.size ≤ w.heap.size + 1 by omega) (.string S) (.int .i64 (q : Int)) (.cells #[.string S, .int .i64 (q : Int)] 28))
  have hlt := hrow.lt
  clear hb1 hw1 hrow
  go_wp2_with fail
  go_loop [7, 8] (fun x i => (∃ j : Nat, j < t.length ∧ i = .int .i64 j ∧ x = .int .u32 (le (t.drop (j + 1)))) ∨ (i = .int .i64 (-1) ∧ x = .int .u32 (le t))) (fun _ i => (intOf i + 1).toNat)
  case atStart =>
    have hk := HK.out
    by_cases h0 : k = 0
    · right
      have ht0 : t = [] := List.eq_nil_of_length_eq_zero (by omega)
      exact ⟨by rw [h0]; rfl, by rw [ht0]; rfl⟩
    · exact .inl ⟨k - 1, by omega, by congr 1; omega, by rw [show k - 1 + 1 = t.length by omega, List.drop_length]; rfl⟩
  case round =>
    rcases hrel with ⟨j, hj, rfl, rfl⟩ | ⟨rfl, rfl⟩
    · have hx := HIX.out j hj
      have hkk := HK.out
      have d1 : decide ((0 : Int) ≤ (j : Int)) = true := decide_eq_true (by omega)
      have e2 : IntKind.i64.wrap ((j : Int) - 1) = (j : Int) - 1 := wrapI _ (by omega) (by omega)
      have hsh := le_shl ht4 hj
      rw [IntKind.wrap_u32, IntKind.wrap_u32] at hsh
      have HSH := Lib.hid hsh
      clear hkk hsh
      go_wp2_with fail
      refine ⟨?_, by simp [intOf]⟩
      rw [HSH.out]
      by_cases h0 : j = 0
      · right
        subst h0
        exact ⟨rfl, rfl⟩
      · exact .inl ⟨j - 1, by omega, by congr 1; omega, by rw [show j - 1 + 1 = j by omega]⟩
    · have d1 : decide ((0 : Int) ≤ -1) = false := by decide
      go_wp2_with fail
      have k0 := HF.out.1
      have k1 := HF.out.2.1
      exact bodyPost_ret (v := .tuple #[.agg #[.string S, .int .i64 (q : Int)], .int .u32 (le t : Int)]) (by simp [results, Try.results22, go_sem, k0, k1]) rfl ⟨rfl, HF.out.2.2⟩
end Go.Proofs.Ytglfcfepgjldfaa.Fe
