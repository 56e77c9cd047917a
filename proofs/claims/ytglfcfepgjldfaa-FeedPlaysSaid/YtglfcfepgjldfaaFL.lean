import Derived.Test.YtglfcfepgjldfaaFK
namespace Go.Proofs.Ytglfcfepgjldfaa.Fe
open Go.RowKit Go.Shelf
attribute [local go_sem] Oper.semAt_some

/- FEEDHOLDS: PART BY PART IS AT ONCE; A FEED THAT IS SENT BACK TELLS THE SAME AGAIN. -/
theorem run_add_str {P : Program} (a b : List UInt8) (h : a.length + b.length ≤ 9223372036854775807) (w : World) : (Op.stringOp .add (str a) (str b)).run P w = .ok (.string (str (a ++ b))) w := by
  rw [run_string_add_sum w _ _ (by simpa [str, ByteArray.size] using h)]
  simp [str, ByteArray.mk_append_mk]
theorem byt_get {l : List UInt8} {k : Nat} (hk : k < l.length) : (byt l)[k]? = some (.int .u8 (l[k].toNat : Int)) := by simp [byt, hk]
theorem add_zero (ad : Addr) : ad.add 0 = ad := by
  unfold Addr.add
  rw [if_pos rfl]
theorem slice_to (A : Option Addr) (n c k : Nat) (V : World) (hk : k ≤ c) : (Instr.slice 22 (.slice A n c) none (some (.int .i64 (k : Int))) none).run Try.prog V = .ok (.slice A k c) V := by
  have h1 := run_underlying (w := V) Try.underlying22
  have h2 := Try.sizeOf5 V
  by_cases hc : c = 0
  · subst hc
    obtain rfl : k = 0 := by omega
    simp [Instr.slice, Instr.sliceBounds, Instr.sliceBound, asIntOf, h1, h2, Result.andThen]
  · cases A with
    | none => simp [Instr.slice, Instr.sliceBounds, Instr.sliceBound, asIntOf, h1, h2, hk, Result.andThen]
    | some ad => simp [Instr.slice, Instr.sliceBounds, Instr.sliceBound, asIntOf, h1, h2, hk, Result.andThen, add_zero]
/-- what is known between two parts -/
structure HI (Has : HasT) (w : World) (v v' : Value) (l : List UInt8) (s : Nat) (V : World) : Prop where
  two : Two Has w v v' l (min s l.length) 0 V
theorem pos_step {l : List UInt8} {s m : Nat} : min s l.length + min m (l.length - min s l.length) = min (s + m) l.length := by omega
theorem take_step {l : List UInt8} {s m : Nat} : l.take (min s l.length) ++ (l.drop (min s l.length)).take m = l.take (min (s + m) l.length) := by
  by_cases h : s ≤ l.length
  · rw [show min s l.length = s by omega]
    have e : l.take (min (s + m) l.length) = l.take (s + m) := by
      rw [Nat.min_def]
      split
      · rfl
      · rw [List.take_of_length_le (Nat.le_refl _), List.take_of_length_le (show l.length ≤ s + m by omega)]
    rw [e, List.take_add]
  · rw [show min s l.length = l.length by omega, show min (s + m) l.length = l.length by omega, List.drop_length, List.take_nil, List.append_nil]
set_option maxRecDepth 100000 in
set_option maxHeartbeats 8000000 in
theorem holds_main {Has : HasT} (H : Api Has) (bs : List UInt8) (A : Option Addr) (n ca : Nat) (ps : List UInt8) (B : Option Addr) (m cb : Nat) (w : World) (hA : Sees w w.heap.size A (byt bs)) (hn : bs.length = n) (hn3 : n ≤ 300) (hca : n ≤ ca) (hB : Sees w w.heap.size B (byt ps)) (hm : ps.length = m) (hm4 : m ≤ 40) :
    Calls Try.prog 5 #[.slice A n ca, .slice B m cb] w fun e w' => e = .returned (.bool true) ∧ Below w.heap.size w w' := by
  have HNUM := Lib.hid num_any
  have HW := Lib.hid (fun W => works_any H W)
  have HNEW : Hid (Calls Try.prog 7 #[.slice A n ca] w fun e w' => ∃ ad, e = .returned (.pointer (some ad)) ∧ Run Has w (.pointer (some ad)) bs 0 w') := Lib.hid ((H.new w A n ca bs hA hn hn3).mono fun e w' ⟨v, F, e1, e2, e3, e4⟩ => by
    obtain ⟨ad, rfl⟩ := H.ptr e2
    exact ⟨ad, e1, F, e2, e3, e4⟩)
  have HCOPY : Hid (∀ v V, Run Has w v bs 0 V → Calls Try.prog 12 #[v] V fun e V' => ∃ ad, e = .returned (.pointer (some ad)) ∧ Two Has w v (.pointer (some ad)) bs 0 0 V') := Lib.hid (fun v V h => (run_copy H h).mono fun e V' ⟨v', e1, e2⟩ => by
    obtain ⟨⟨F, F', h1, h2, h3⟩, h4⟩ := e2
    obtain ⟨ad, rfl⟩ := H.ptr h2
    exact ⟨ad, e1, ⟨⟨F, F', h1, h2, h3⟩, h4⟩⟩)
  have d1 : decide ((300 : Int) < (n : Int)) = false := decide_eq_false (by omega)
  have d2 : decide ((40 : Int) < (m : Int)) = false := decide_eq_false (by omega)
  have HPS := Lib.hid (fun k (hk : k < m) => (show ∃ (ad : Addr) (x : Nat), B = some ad ∧ x < 256 ∧ ∀ V, Below w.heap.size w V → V.cell? (ad.add k) = some (.int .u8 (x : Int)) from by
    have hk2 : k < ps.length := by rw [hm]; exact hk
    have hne : byt ps ≠ [] := fun e => by have := byt_get hk2; rw [e] at this; simp at this
    obtain ⟨ad, e1, _, e2⟩ := hB hne
    refine ⟨ad, ps[k].toNat, e1, ps[k].toNat_lt, fun V hb => ?_⟩
    obtain ⟨ad', e3, _, e4⟩ := (hB.below hb) hne
    rw [e1] at e3
    injection e3 with e3
    rw [e3]
    exact e4 k _ (byt_get hk2)))
  have HAS := Lib.hid (fun V (hb : Below w.heap.size w V) => hA.below hb)
  have HN := Lib.hid hn
  have HCONV : Hid (∀ (W : World) (A : Option Addr) (k c : Nat) (xs : List UInt8), xs.length = k → Sees W W.heap.size A (byt xs) → (convert 22 9 (.slice A k c)).run Try.prog W = .ok (.string (str xs)) W) := Lib.hid (fun W A k c xs hl hs => run_conv_sees W Try.underlying22 Try.underlying5 Try.underlying9 hl hs)
  have HTK : Hid (∀ (v v' : Value) (V : World) (s x : Nat), Two Has w v v' bs (min s n) 0 V → x ≤ 9223372036854775807 → Calls Try.prog 14 #[v, .int .i64 (x : Int)] V fun e V' => ∃ A c k, e = .returned (.tuple #[.slice A k c, .int .i64 0]) ∧ (∀ W, Below V'.heap.size V' W → (convert 22 9 (.slice A k c)).run Try.prog W = .ok (.string (str ((bs.drop (min s n)).take x))) W) ∧ Two Has w v v' bs (min (s + x) n) 0 V') := Lib.hid (fun v v' V s x h hx =>
    (Two.take H h x hx).mono fun e V' ⟨A, c, e1, e2, _, _, e5⟩ => ⟨A, c, _, e1, fun W hb => HCONV.out W A _ c _ rfl ((e2.below hb).more hb.size), by rw [← hn] at e5 ⊢; rw [← pos_step]; exact e5⟩)
  have HAT : Hid (∀ (v v' : Value) (V : World) (p : Nat), Two Has w v v' bs p 0 V → Calls Try.prog 16 #[v] V fun e V' => e = .returned (.int .i64 (p : Int)) ∧ Below V.heap.size V V' ∧ Two Has w v v' bs p 0 V') := Lib.hid (fun v v' V p h => (Two.at_ H h).mono fun e V' ⟨e1, e2⟩ => ⟨e1, e2, Two.more H h e2⟩)
  have HLF : Hid (∀ (v v' : Value) (V : World) (p : Nat), Two Has w v v' bs p 0 V → Calls Try.prog 17 #[v] V fun e V' => e = .returned (.int .i64 ((n - p : Nat) : Int)) ∧ Below V.heap.size V V' ∧ Two Has w v v' bs p 0 V') := Lib.hid (fun v v' V p h => by
    have := (Two.left H h).mono fun e V' ⟨e1, e2⟩ => (⟨e1, e2, Two.more H h e2⟩ : _ ∧ Below V.heap.size V V' ∧ Two Has w v v' bs p 0 V')
    rw [hn] at this
    exact this)
  have HCAT : Hid (∀ (s x : Nat) (W : World), s ≤ 20000 → (Op.stringOp .add (str (bs.take (min s n))) (str ((bs.drop (min s n)).take x))).run Try.prog W = .ok (.string (str (bs.take (min (s + x) n)))) W) := Lib.hid (fun s x W _ => by
    rw [run_add_str _ _ (by simp only [List.length_take, List.length_drop]; omega), ← hn, take_step])
  have HTK2 : Hid (∀ (v v' : Value) (V : World) (s : Nat), Two Has w v v' bs (min s n) 0 V → s ≤ 20000 → Calls Try.prog 14 #[v', .int .i64 (s : Int)] V fun e V' => ∃ A c k, e = .returned (.tuple #[.slice A k c, .int .i64 0]) ∧ (∀ W, Below V'.heap.size V' W → (convert 22 9 (.slice A k c)).run Try.prog W = .ok (.string (str (bs.take (min s n)))) W) ∧ Two Has w v v' bs (min s n) (min s n) V') := Lib.hid (fun v v' V s h hx =>
    (Two.take H h.swap s (by omega)).mono fun e V' ⟨A, c, e1, e2, _, _, e5⟩ => ⟨A, c, _, e1, fun W hb => by
      have := HCONV.out W A _ c _ rfl ((e2.below hb).more hb.size)
      rw [List.drop_zero] at this ⊢
      rw [this, ← hn, List.take_eq_take_min (i := s)], by
      have := e5.swap
      rw [Nat.zero_add, Nat.sub_zero, hn] at this
      exact this⟩)
  have HSEEK : Hid (∀ (v : Value) (V : World) (p q : Nat), Run Has w v bs p V → q ≤ n → Calls Try.prog 18 #[v, .int .i64 (q : Int)] V fun e V' => e = .returned (.tuple #[.int .i64 (p : Int), .int .i64 0]) ∧ Run Has w v bs q V') := Lib.hid (fun v V p q h hq => Run.seek H h q (by omega))
  have HTAKE1 : Hid (∀ (v : Value) (V : World) (p : Nat), p ≤ n → Run Has w v bs 0 V → Calls Try.prog 14 #[v, .int .i64 (p : Int)] V fun e V' => ∃ A c k, e = .returned (.tuple #[.slice A k c, .int .i64 0]) ∧ (bs.take p).length = k ∧ One Has w v bs p A (bs.take p) V') := Lib.hid (fun v V p hp h => (run_take1 H h p (by omega)).mono fun e V' ⟨A, c, e1, e2⟩ => ⟨A, c, _, e1, rfl, by
      rw [List.drop_zero, show 0 + min p (bs.length - 0) = p by omega] at e2
      exact e2⟩)
  have HDRAW : Hid (∀ (v : Value) (V : World) (p : Nat) (A : Option Addr) (xs : List UInt8), One Has w v bs p A xs V → Calls Try.prog 19 #[v] V fun e V' => e = .returned (.tuple #[.int .u32 (le ((bs.drop p).take 4) : Int), .int .i64 0]) ∧ One Has w v bs (p + min 4 (n - p)) A xs V') := Lib.hid (fun v V p A xs h => by rw [← hn]; exact One.draw H h)
  have HSEEKO : Hid (∀ (v : Value) (V : World) (p q : Nat) (A : Option Addr) (xs : List UInt8), One Has w v bs p A xs V → q ≤ n → Calls Try.prog 18 #[v, .int .i64 (q : Int)] V fun e V' => e = .returned (.tuple #[.int .i64 (p : Int), .int .i64 0]) ∧ One Has w v bs q A xs V') := Lib.hid (fun v V p q A xs h hq => One.seek H h q (by omega))
  have HSAME : Hid (∀ (v v' : Value) (V : World) (p : Nat), Two Has w v v' bs p p V → Calls Try.prog 11 #[v, v'] V fun e V' => e = .returned (.bool true) ∧ Run Has w v bs p V') := Lib.hid (fun v v' V p h => (Two.same H h).mono fun e V' ⟨e1, e2⟩ => ⟨by rw [e1, decide_eq_true rfl], (Two.more H h e2).run⟩)
  have HCVB : Hid (∀ p, p ≤ n → ∀ W, Below w.heap.size w W → (convert 22 9 (.slice A p ca)).run Try.prog W = .ok (.string (str (bs.take p))) W) := Lib.hid (fun p hp W hb => HCONV.out W A p ca _ (by rw [List.length_take]; omega) (by
    have := ((hA.below hb).more hb.size).take p
    have e : (byt bs).take p = byt (bs.take p) := by unfold byt; rw [List.map_take]
    rw [e] at this
    exact this))
  clear hA hB hm
  go_enter Try.func5, Try.ntmps5
  go_wp2_with fail
  refine HNEW.out.mono ?_
  rintro e w1 ⟨ad1, rfl, R1⟩
  have HC := Lib.hid (HCOPY.out _ w1 R1)
  clear R1 HNEW HCOPY
  go_wp2_with fail
  refine HC.out.mono ?_
  rintro e w2 ⟨ad2, rfl, T2⟩
  have HT2 := Lib.hid T2
  clear T2 HC
  go_wp2_with fail
  go_loopw [7, 8, 9] (fun s7 s8 s9 wr => ∃ (i s : Nat) (S1 : ByteArray), i ≤ m ∧ s ≤ 255 * i ∧ s7 = .string S1 ∧ Hid (S1 = str (bs.take (min s n))) ∧ s8 = .int .i64 (s : Int) ∧ s9 = .int .i64 (i : Int) ∧ Two Has w (.pointer (some ad1)) (.pointer (some ad2)) bs (min s n) 0 wr) (fun _ _ s9 _ => m - (_root_.Go.RowKit.intOf s9).toNat)
  case atStart => exact ⟨0, 0, str [], Nat.zero_le _, by omega, rfl, Lib.hid (by simp), rfl, rfl, by rw [Nat.zero_min]; exact HT2.out⟩
  case round =>
    obtain ⟨i, s, S1, hi, hs, rfl, HS1, rfl, rfl, hT⟩ := hrel
    by_cases hlt : i < m
    · obtain ⟨ad, x, rfl, hx, hcx0⟩ := HPS.out i hlt
      have hcx := hcx0 wr hT.below
      have HCX := Lib.hid hcx0
      clear hcx0
      have i0 : (0 : Int) ≤ (i : Int) := by omega
      have i1 : (i : Int) < (m : Int) := by omega
      have i2 : decide ((i : Int) < (m : Int)) = true := decide_eq_true i1
      have i3 : decide (i < m) = true := decide_eq_true hlt
      have hcx8 : IntKind.i64.wrap (x : Int) = (x : Int) := wrapI _ (by omega) (by omega)
      have HT := Lib.hid (HTK.out _ _ wr s x hT (by omega))
      have hc1 := fun W => HCAT.out s x W (by omega)
      have hsx : IntKind.i64.wrap ((s : Int) + (x : Int)) = ((s + x : Nat) : Int) := by rw [wrapI _ (by omega) (by omega)]; omega
      obtain ⟨S2, hS2⟩ : ∃ S2, S2 = str ((bs.drop (min s n)).take x) := ⟨_, rfl⟩
      obtain ⟨S3, hS3⟩ : ∃ S3, S3 = str (bs.take (min (s + x) n)) := ⟨_, rfl⟩
      have HS3 := Lib.hid hS3
      have HS3Y : Hid (S3 = str (bs.take (min (s + x) n))) := Lib.hid hS3
      obtain ⟨s2, hs2⟩ : ∃ s2, s2 = s + x := ⟨_, rfl⟩
      obtain ⟨q, hq⟩ : ∃ q, q = min s2 n := ⟨_, rfl⟩
      have hqn : q ≤ n := by omega
      rw [← HS1.out, ← hS2, ← hS3] at hc1
      rw [← hS2, ← hs2, ← hq] at HT
      rw [← hs2] at hsx
      have HQ := Lib.hid hq
      have HS2 := Lib.hid hs2
      have HS3X : Hid (S3 = str (bs.take (min s2 n))) := Lib.hid (by rw [hs2]; exact HS3Y.out)
      clear HS3 HS3Y
      have hsum : IntKind.i64.wrap ((q : Int) + ((n - q : Nat) : Int)) = (n : Int) := by rw [wrapI _ (by omega) (by omega)]; omega
      have hnn : ((n : Int) != (n : Int)) = false := by simp
      obtain ⟨r, hr⟩ : ∃ r, r = n - q := ⟨_, rfl⟩
      rw [← hr] at hsum
      have HR := Lib.hid hr
      clear hT hq hs2 hS2 hS3 hr hqn
      go_wp2_with fail
      refine HT.out.mono ?_
      rintro e w3 ⟨A3, c3, k3, rfl, hcv, hT3⟩
      have HCV := Lib.hid hcv
      have HA3 := Lib.hid (HAT.out _ _ w3 q hT3)
      clear hcv hT3 HT
      go_wp2_with fail
      refine (HNUM.out _ _).mono ?_
      rintro e u0 ⟨rfl, rfl⟩
      go_wp2_with fail
      refine HA3.out.mono ?_
      rintro e w4 ⟨rfl, hb4, hT4⟩
      have HL4 := Lib.hid (HLF.out _ _ w4 q hT4)
      rw [← HR.out] at HL4
      have HB4 := Lib.hid hb4
      clear hb4 hT4 HA3
      go_wp2_with fail
      refine HL4.out.mono ?_
      rintro e w5 ⟨rfl, hb5, hT5⟩
      have hcv5 := HCV.out w5 (below0 HB4.out hb5)
      have HT5 := Lib.hid hT5
      have hcx5 := HCX.out w5 hT5.below
      clear hb5 hT5 HL4
      go_wp2_with fail
      go_roundw
      case rel => exact ⟨i + 1, s2, S3, by omega, by have := HS2.out; omega, rfl, HS3X, rfl, by go_num, by rw [← HQ.out]; exact HT5.out⟩
      case measure => simp [_root_.Go.RowKit.intOf]; omega
    · obtain rfl : i = m := by omega
      obtain ⟨p, hp⟩ : ∃ p, p = min s n := ⟨_, rfl⟩
      have hpn : p ≤ n := by omega
      have HE2 := Lib.hid (HTK2.out _ _ wr s hT (by omega))
      rw [← hp] at HE2 HS1
      have HCB := Lib.hid (HCVB.out p hpn)
      rw [← HS1.out] at HE2 HCB
      have hsl := fun W => slice_to A n ca p W (by omega)
      have hmin1 : (if (n : Int) < (s : Int) then (n : Int) else (s : Int)) = (p : Int) := by split <;> omega
      have hmin2 : (if n < s then (n : Int) else (s : Int)) = (p : Int) := by split <;> omega
      have HP := Lib.hid hp
      have e00 : (S1.toList != S1.toList) = false := by simp
      have e01 : (S1.toList == S1.toList) = true := by simp
      clear hT hp
      go_wp2_with fail
      refine HE2.out.mono ?_
      rintro e w3 ⟨A3, c3, k3, rfl, hcv, hT3⟩
      have hcv3 := hcv w3 (Below.refl _ _)
      have HS4 := Lib.hid (HSAME.out _ _ w3 p hT3)
      clear hcv hT3 HE2
      go_wp2_with fail
      refine (HNUM.out _ _).mono ?_
      rintro e u0 ⟨rfl, rfl⟩
      go_wp2_with fail
      refine HS4.out.mono ?_
      rintro e w4 ⟨rfl, R4⟩
      have hcb4 := HCB.out w4 R4.below
      have HR4 := Lib.hid R4
      clear R4 HS4 hcv3
      go_wp2_with fail
      have HK0 := Lib.hid (HSEEK.out _ w4 p 0 HR4.out (Nat.zero_le _))
      clear HR4 hcb4 hsl
      refine HK0.out.mono ?_
      rintro e w5 ⟨rfl, R5⟩
      have HT5 := Lib.hid (HTAKE1.out _ w5 p hpn R5)
      clear R5 HK0
      go_wp2_with fail
      refine HT5.out.mono ?_
      rintro e w6 ⟨A6, c6, k6, rfl, hk6, O6⟩
      have HD6 := Lib.hid (HDRAW.out _ w6 p A6 _ O6)
      have HK6 := Lib.hid hk6
      obtain ⟨d, hd⟩ : ∃ d, d = le ((bs.drop p).take 4) := ⟨_, rfl⟩
      obtain ⟨q, hq⟩ : ∃ q, q = p + min 4 (n - p) := ⟨_, rfl⟩
      have hqn : q ≤ n := by omega
      rw [← hd, ← hq] at HD6
      have HD := Lib.hid hd
      have HQ := Lib.hid hq
      clear O6 HT5 hk6 hd hq
      go_wp2_with fail
      refine HD6.out.mono ?_
      rintro e w7 ⟨rfl, O7⟩
      have HK7 := Lib.hid (HSEEKO.out _ w7 q p A6 _ O7 hpn)
      clear O7 HD6
      go_wp2_with fail
      refine HK7.out.mono ?_
      rintro e w8 ⟨rfl, O8⟩
      have HD8 := Lib.hid (HDRAW.out _ w8 p A6 _ O8)
      rw [← HD.out, ← HQ.out] at HD8
      clear O8 HK7
      go_wp2_with fail
      refine HD8.out.mono ?_
      rintro e w9 ⟨rfl, O9⟩
      have hcv9 := HCONV.out w9 A6 k6 c6 _ HK6.out O9.sees
      rw [← HS1.out] at hcv9
      have HB9 := Lib.hid O9.below
      have hw4 : IntKind.i64.wrap ((p : Int) + 4) = (p : Int) + 4 := wrapI _ (by omega) (by omega)
      have hm1 : (if ((p : Int) + 4) < (n : Int) then ((p : Int) + 4) else (n : Int)) = (q : Int) := by have := HQ.out; split <;> omega
      have hm2 : min (n : Int) ((p : Int) + 4) = (q : Int) := by have := HQ.out; omega
      have hqq : ((q : Int) == (q : Int)) = true := by simp
      have hdd : ((d : Int) == (d : Int)) = true := by simp
      clear O9 HD8
      go_wp2_with (go_at_call 15; refine (HNUM.out _ _).mono ?_; rintro e u0 ⟨rfl, rfl⟩)
      refine (HW.out _).mono ?_
      rintro e wa ⟨rfl, hba⟩
      have HBA := Lib.hid (below0 HB9.out hba)
      clear hba
      go_wp2_with fail
      go_ret
      exact ⟨rfl, HBA.out⟩
set_option maxRecDepth 100000 in
set_option maxHeartbeats 1000000 in
theorem feedHolds_any {Has : HasT} (H : Api Has) (bs : List UInt8) (A : Option Addr) (n ca : Nat) (ps : List UInt8) (B : Option Addr) (m cb : Nat) (w : World) (hA : Sees w w.heap.size A (byt bs)) (hn : bs.length = n) (hca : n ≤ ca) (hB : Sees w w.heap.size B (byt ps)) (hm : ps.length = m) :
    Calls Try.prog 5 #[.slice A n ca, .slice B m cb] w fun e w' => e = .returned (.bool true) ∧ Below w.heap.size w w' := by
  have HW := Lib.hid (fun W => works_any H W)
  by_cases h3 : n ≤ 300
  · by_cases h4 : m ≤ 40
    · exact holds_main H bs A n ca ps B m cb w hA hn h3 hca hB hm h4
    · have d1 : decide ((300 : Int) < (n : Int)) = false := decide_eq_false (by omega)
      have d2 : decide ((40 : Int) < (m : Int)) = true := decide_eq_true (by omega)
      clear hA hB hn hm h3 h4 hca
      go_enter Try.func5, Try.ntmps5
      go_wp2_with fail
      refine (HW.out _).mono ?_
      rintro e wa ⟨rfl, hba⟩
      go_wp2_with fail
      go_ret
      exact ⟨rfl, hba⟩
  · have d1 : decide ((300 : Int) < (n : Int)) = true := decide_eq_true (by omega)
    clear hA hB hn hm h3 hca
    go_enter Try.func5, Try.ntmps5
    go_wp2_with fail
    refine (HW.out _).mono ?_
    rintro e wa ⟨rfl, hba⟩
    go_wp2_with fail
    go_ret
    exact ⟨rfl, hba⟩
end Go.Proofs.Ytglfcfepgjldfaa.Fe
