import Derived.Test.YtglfcfepgjldfaaFD
namespace Go.Proofs.Ytglfcfepgjldfaa.Fe
open Go.RowKit Go.Shelf
attribute [local go_sem] Oper.semAt_some

/- A CALL BY BOTH: PICKS, GONE OVER. -/
structure KM (Has : HasT) (w : World) (F : Nat → Prop) (v : Value) (l : List UInt8) (p k i : Nat) (n : Int) (B : Nat) (A : Option Addr) (V : World) : Prop where
  am : AM Has w F v l p (p + k) 4 n V
  bx : Row V B 28 (fc l (p + i))
  se : Sees V V.heap.size A (ins (pickL l p n.toNat k))
  hb : w.heap.size + 3 ≤ B
  sb : ∀ ad, A = some ad → k ≠ 0 → ad.block ≠ B
theorem KM.more {Has : HasT} (H : Api Has) {w V V' : World} {F : Nat → Prop} {v : Value} {l : List UInt8} {p k i : Nat} {n : Int} {B : Nat} {A : Option Addr} (h : KM Has w F v l p k i n B A V) (hb : Below V.heap.size V V') : KM Has w F v l p k i n B A V' :=
  ⟨AM.more H h.am hb, h.bx.below hb, (h.se.below hb).more hb.size, h.hb, h.sb⟩
theorem ins_get {l : List UInt8} {p n k i : Nat} (hi : i < k) : (ins (pickL l p n k))[i]? = some (.int .i64 (pickN l (p + i) n : Int)) := by
  simp [ins, pickL, hi]
theorem KM.set {Has : HasT} (H : Api Has) {w V : World} {F : Nat → Prop} {v : Value} {l : List UInt8} {p k i : Nat} {n : Int} {B : Nat} {A : Option Addr} (h : KM Has w F v l p k i n B A V) :
    KM Has w F v l p k (i + 1) n B A ((V.setCell ⟨B, 0, none⟩ (.string (str l))).setCell ⟨B, 1, none⟩ (.int .i64 ((p + (i + 1) : Nat) : Int))) := by
  have hb := h.hb
  have hkk : ∀ k, k ≠ B → ((V.setCell ⟨B, 0, none⟩ (.string (str l))).setCell ⟨B, 1, none⟩ (.int .i64 ((p + (i + 1) : Nat) : Int))).heap[k]? = V.heap[k]? := fun k hk => (heap_set hk).trans (heap_set hk)
  refine ⟨⟨H.keep h.am.has (fun k hk => hkk k (by have := h.am.fl k hk; omega)), (h.am.keep.set _ (.inr (by omega))).set _ (.inr (by omega)), h.am.box.same (hkk _ (by omega)), h.am.act.same (hkk _ (by omega)), h.am.res.same (hkk _ (by omega)), h.am.fl⟩, (h.bx.set 0 _).set 1 _, fun hne => ?_, hb, h.sb⟩
  obtain ⟨ad, h1, h2, h3⟩ := h.se hne
  have hk0 : k ≠ 0 := fun e => hne (by rw [e]; rfl)
  refine ⟨ad, h1, by simpa [World.setCell] using h2, fun j u hu => ?_⟩
  rw [← h3 j u hu]
  have : (ad.add j).block = ad.block := add_block ad j
  exact World.cell?_of_block (by rw [this]; exact hkk _ (h.sb ad h1 hk0))
set_option maxRecDepth 100000 in
set_option maxHeartbeats 8000000 in
theorem act_picks {Has : HasT} (H : Api Has) (v : Value) (l : List UInt8) (p : Nat) (F : Nat → Prop) (n : Int) (w : World) (h : Has w v l p F) (hf : i64 n) :
    Calls Try.prog 8 #[v, fv l p, .agg #[.int .i64 4, .int .i64 n]] w (ActP Has w F l (p + min 2 (cnt l p n))) := by
  have hsm := H.sm h
  obtain ⟨W0, hW0⟩ : ∃ W0, W0 = ((w.alloc (.cells #[.string (str l), .int .i64 (p : Int)] 28)).alloc (.cells #[.int .i64 4, .int .i64 n] 32)).alloc (.cells #[.string { data := #[] }, .int .i64 0] 28) := ⟨_, rfl⟩
  have hM : AM Has w F v l p p 4 n W0 := by rw [hW0]; exact AM.start H h
  have HM := Lib.hid hM
  have HW0 := Lib.hid hW0
  have HP := Lib.hid (picks_any H v l p n F 2 W0 hM.has hf (by omega) (by omega))
  obtain ⟨k, hk⟩ : ∃ k, k = min 2 (cnt l p n) := ⟨_, rfl⟩
  rw [← hk] at HP ⊢
  have HK := Lib.hid hk
  have HSM := Lib.hid hsm
  clear hW0 hM h hf hk hsm
  go_enter Try.func8, Try.ntmps8
  go_wp2_with fail
  rw [← HW0.out]
  refine HP.out.mono ?_
  rintro e W1 ⟨A, c, rfl, hse, hha, hkp⟩
  have hx0 : W1.cell? ⟨w.heap.size, 0, none⟩ = some (.string (str l)) := (AM.step HM.out ⟨hha, hkp⟩).box.cell 0
  have hx1 : W1.cell? ⟨w.heap.size, 1, none⟩ = some (.int .i64 (p : Int)) := (AM.step HM.out ⟨hha, hkp⟩).box.cell 1
  have HKM := Lib.hid (show KM Has w F v l p k 0 n W1.heap.size A (W1.alloc (.cells #[.string (str l), .int .i64 (p : Int)] 28)) from by
    have ham := AM.step HM.out ⟨hha, hkp⟩
    have hlt := ham.res.lt
    refine ⟨AM.more H ham (below1 _ _), Row.new W1 _ (fc l p), (hse.below (below1 _ _)).more (by simp), by omega, fun ad e hk0 eb => ?_⟩
    obtain ⟨ad', e2, h2, _⟩ := hse (fun e => hk0 (by have := congrArg List.length e; simpa [ins, pickL] using this))
    rw [e] at e2
    injection e2 with e2
    subst e2
    omega)
  obtain ⟨B, hB⟩ : ∃ B, B = W1.heap.size := ⟨_, rfl⟩
  obtain ⟨W2, hW2⟩ : ∃ W2, W2 = W1.alloc (.cells #[.string (str l), .int .i64 (p : Int)] 28) := ⟨_, rfl⟩
  rw [← hB, ← hW2] at HKM
  have HB := Lib.hid hB
  have HW2 := Lib.hid hW2
  clear hse hha hkp hB hW2
  go_wp2_with fail
  rw [← HB.out, ← HW2.out]
  clear hx0 hx1
  go_loopw [32] (fun s32 wr => ∃ i : Nat, s32 = .int .i64 (i : Int) ∧ i ≤ k ∧ Hid (KM Has w F v l p k i n B A wr)) (fun s32 _ => k - (_root_.Go.RowKit.intOf s32).toNat)
  case atStart => exact ⟨0, rfl, Nat.zero_le _, HKM⟩
  case round =>
    obtain ⟨i, rfl, hi, HPV⟩ := hrel
    obtain ⟨V0, hV0⟩ : ∃ x : World, x = wr := ⟨_, rfl⟩
    subst hV0
    have hkk := HK.out
    by_cases hlt : i < k
    · have hok : okN n := by
        by_cases hz : okN n
        · exact hz
        · unfold cnt at hkk; rw [if_neg hz] at hkk; omega
      have hcn : cnt l p n = l.length - p := by unfold cnt; rw [if_pos hok]
      have hsm := HSM.out
      obtain ⟨y, hy⟩ : ∃ y, y = p + i := ⟨_, rfl⟩
      have hyl : y < l.length := by omega
      have hys : small l y := ⟨by omega, hsm.2⟩
      obtain ⟨m, hm⟩ : ∃ m : Nat, n = m := ⟨n.toNat, by unfold okN at hok; omega⟩
      have hem : (str (l.drop y)).toList.isEmpty = false := by
        rw [str_toList, List.isEmpty_eq_false_iff]
        intro e
        have := congrArg List.length e
        simp at this
        omega
      have hpp : pickP l y = y + 1 := by unfold pickP; omega
      have HL := Lib.hid (fun w => rleft_any l y hys w)
      have HR := Lib.hid (fun w => rpick_ok l y m hys (by unfold okN at hok; omega) (by unfold okN at hok; omega) w)
      rw [hpp, ← hm] at HR
      have hrn : pickN l y m = pickN l (p + i) n.toNat := by rw [hy, hm, Int.toNat_natCast]
      obtain ⟨r, hr⟩ : ∃ r, r = pickN l y m := ⟨_, rfl⟩
      rw [← hr] at HR hrn
      obtain ⟨y1, hy1⟩ : ∃ y1, y1 = y + 1 := ⟨_, rfl⟩
      rw [← hy1] at HR
      obtain ⟨T, hT⟩ : ∃ T, T = str (l.drop y) := ⟨_, rfl⟩
      rw [← hT] at HL hem
      have HP1 := Lib.hid (show y = p + i ∧ y1 = p + (i + 1) from ⟨hy, by omega⟩)
      have HRN := Lib.hid hrn
      have hx0 : V0.cell? ⟨B, 0, none⟩ = some (.string (str l)) := HPV.out.bx.cell 0
      have hx1 : V0.cell? ⟨B, 1, none⟩ = some (.int .i64 (y : Int)) := by rw [hy]; exact HPV.out.bx.cell 1
      have ha1 : V0.cell? ⟨w.heap.size + 1, 1, none⟩ = some (.int .i64 n) := HPV.out.am.act.cell 1
      have i2 : i < 2 := by omega
      have d1 : decide ((i : Int) < 2) = true := decide_eq_true (by omega)
      have d2 : decide ((1 : Int) ≤ n) = true := decide_eq_true (by unfold okN at hok; omega)
      have d3 : decide (n ≤ (256 : Int)) = true := decide_eq_true (by unfold okN at hok; omega)
      have d4 : decide ((k : Int) ≤ (i : Int)) = false := decide_eq_false (by omega)
      have d5 : decide (k ≤ i) = false := decide_eq_false (by omega)
      have j0 : (0 : Int) ≤ (i : Int) := by omega
      have j1 : (i : Int) < (k : Int) := by omega
      have hrr : ((r : Int) != (r : Int)) = false := by simp
      have e1 : IntKind.i64.wrap ((i : Int) + 1) = ((i + 1 : Nat) : Int) := by rw [wrapI _ (by omega) (by omega)]; omega
      clear hkk hok hcn hsm hy hyl hys hm hpp hrn hr hy1 hT
      go_wp2_with fail
      refine (HL.out _).mono ?_
      rintro e V1 ⟨rfl, hb1⟩
      have HK1 := Lib.hid (KM.more H HPV.out hb1)
      clear hx0 hx1 ha1 hb1
      have hx0 : V1.cell? ⟨B, 0, none⟩ = some (.string (str l)) := HK1.out.bx.cell 0
      have hx1 : V1.cell? ⟨B, 1, none⟩ = some (.int .i64 (y : Int)) := by rw [HP1.out.1]; exact HK1.out.bx.cell 1
      have ha1 : V1.cell? ⟨w.heap.size + 1, 1, none⟩ = some (.int .i64 n) := HK1.out.am.act.cell 1
      go_wp2_with fail
      refine (HR.out _).mono ?_
      rintro e V2 ⟨rfl, hb2⟩
      have HK2 := Lib.hid (KM.more H HK1.out hb2)
      clear hx0 hx1 ha1 hb2
      have hx0 : V2.cell? ⟨B, 0, none⟩ = some (.string (str l)) := HK2.out.bx.cell 0
      have hx1 : V2.cell? ⟨B, 1, none⟩ = some (.int .i64 (y : Int)) := by rw [HP1.out.1]; exact HK2.out.bx.cell 1
      have f0 := HK2.out.bx.frozen 0
      have f1 := HK2.out.bx.frozen 1
      have hltB := HK2.out.bx.lt
      obtain ⟨ad, rfl, hcA, hcB⟩ : ∃ ad, A = some ad ∧ ad.block < V2.heap.size ∧ V2.cell? (ad.add i) = some (.int .i64 (r : Int)) := by
        obtain ⟨ad, q1, q2, q3⟩ := HK2.out.se (fun e => by have := congrArg List.length e; simp [ins, pickL] at this; omega)
        exact ⟨ad, q1, q2, by rw [HRN.out]; exact q3 i _ (ins_get hlt)⟩
      have hcC : (V2.alloc (.cells #[.string (str l), .int .i64 (y1 : Int)] 28)).cell? (ad.add i) = some (.int .i64 (r : Int)) := by
        rw [World.cell?_alloc_lt _ _ _ (by rw [add_block]; exact hcA)]
        exact hcB
      have HK3 := Lib.hid (KM.more H (KM.set H HK2.out) (below1 _ (.cells #[.string (str l), .int .i64 (y1 : Int)] 28)))
      rw [← HP1.out.2] at HK3
      clear hcB hcA
      go_wp2_with fail
      go_roundw
      case rel => exact ⟨i + 1, by go_num, by omega, HK3⟩
      case measure => simp [_root_.Go.RowKit.intOf]; omega
    · have hik : i = k := by omega
      have HIK := Lib.hid hik
      have ha1 : V0.cell? ⟨w.heap.size + 1, 1, none⟩ = some (.int .i64 n) := HPV.out.am.act.cell 1
      have hi2 : i ≤ 2 := by omega
      by_cases h2 : i = 2
      · have d1 : decide ((i : Int) < 2) = false := decide_eq_false (by omega)
        clear hik hkk hi hi2 h2 hlt
        have P := HPV.out
        have hik := HIK.out
        obtain ⟨q, hq⟩ : ∃ q, q = p + k := ⟨_, rfl⟩
        have hqi : p + i = q := by omega
        have b0 : V0.cell? ⟨B, 0, none⟩ = some (.string (str l)) := P.bx.cell 0
        have b1 : V0.cell? ⟨B, 1, none⟩ = some (.int .i64 (q : Int)) := by rw [← hqi]; exact P.bx.cell 1
        have c0 : V0.cell? ⟨w.heap.size + 1 + 1, 0, none⟩ = some (.string (str [])) := P.am.res.cell 0
        have c1 : V0.cell? ⟨w.heap.size + 1 + 1, 1, none⟩ = some (.int .i64 0) := P.am.res.cell 1
        have f0 : V0.frozen? ⟨w.heap.size + 1 + 1, 0, none⟩ = false := P.am.res.frozen 0
        have f1 : V0.frozen? ⟨w.heap.size + 1 + 1, 1, none⟩ = false := P.am.res.frozen 1
        have hlt1 : w.heap.size + 1 + 1 < V0.heap.size := P.am.res.lt
        have hik2 : ((i : Int) == (k : Int)) = true := by rw [beq_iff_eq]; omega
        have HBZ := Lib.hid (show ((V0.drew.setCell ⟨w.heap.size + 1 + 1, 0, none⟩ (.string (str l))).setCell ⟨w.heap.size + 1 + 1, 1, none⟩ (.int .i64 (q : Int))).cell? ⟨B, 0, none⟩ = some (.string (str l)) ∧ ((V0.drew.setCell ⟨w.heap.size + 1 + 1, 0, none⟩ (.string (str l))).setCell ⟨w.heap.size + 1 + 1, 1, none⟩ (.int .i64 (q : Int))).cell? ⟨B, 1, none⟩ = some (.int .i64 (q : Int)) from by
          have hd : Row V0.drew B 28 (fc l q) := by rw [← hqi]; exact P.bx
          have hbb := P.hb
          have hz : Row ((V0.drew.setCell ⟨w.heap.size + 1 + 1, 0, none⟩ (.string (str l))).setCell ⟨w.heap.size + 1 + 1, 1, none⟩ (.int .i64 (q : Int))) B 28 (fc l q) := hd.same ((heap_set (by omega)).trans (heap_set (by omega)))
          exact ⟨hz.cell 0, hz.cell 1⟩)
        have HAM := Lib.hid P.am
        rw [← hq] at HAM
        have HQ := Lib.hid hq
        clear P HPV hqi hq hik HIK
        go_wp2_with fail
        refine wp_region_noPanic ?_
        refine wp_region_held_drew (S := fun W => W.cell? ⟨B, 0, none⟩ = some (.string (str l)) ∧ W.cell? ⟨B, 1, none⟩ = some (.int .i64 (q : Int))) (by kernel_rfl) ?_ (fun hHeld => ?_)
        · exact ⟨b0, b1⟩
        refine wpAnyH_take (i := 0) (v := ?_) rfl (by kernel_rfl) (by kernel_rfl) (by kernel_rfl) (fun _ _ _ h => h) (Or.inl ⟨by kernel_rfl, ?_⟩) hHeld ?_
        rotate_left
        focus (intro w hSw; (try dsimp only at hSw); go_simp; try with_reducible rfl)
        try simp only [Act.put]
        refine wpAnyH_take (i := 1) (v := ?_) rfl (by kernel_rfl) (by kernel_rfl) (by kernel_rfl) (fun _ _ _ h => h) (Or.inl ⟨by kernel_rfl, ?_⟩) hHeld ?_
        rotate_left
        focus (intro w hSw; (try dsimp only at hSw); go_simp; try with_reducible rfl)
        try simp only [Act.put]
        refine wpAnyH_take (i := 2) (v := ?_) rfl (by kernel_rfl) (by kernel_rfl) (by kernel_rfl) (fun _ _ _ h => h) (Or.inl ⟨by kernel_rfl, ?_⟩) hHeld ?_
        rotate_left
        focus (intro w hSw; (try dsimp only at hSw); go_simp; try with_reducible rfl)
        try simp only [Act.put]
        refine wpAnyH_take (i := 3) (v := ?_) rfl (by kernel_rfl) (by kernel_rfl) (by kernel_rfl) (fun _ _ _ h => h) (Or.inl ⟨by kernel_rfl, ?_⟩) hHeld ?_
        rotate_left
        focus (intro w hSw; (try dsimp only at hSw); go_simp; try with_reducible rfl)
        try simp only [Act.put]
        refine wpAnyH_take (i := 4) (v := ?_) rfl (by kernel_rfl) (by kernel_rfl) (by kernel_rfl) (fun _ _ _ h => h) (Or.inl ⟨by kernel_rfl, ?_⟩) hHeld ?_
        rotate_left
        focus (intro w hSw; (try dsimp only at hSw); go_simp; try with_reducible rfl)
        try simp only [Act.put]
        refine wpAnyH_take (i := 5) (v := ?_) rfl (by kernel_rfl) (by kernel_rfl) (by kernel_rfl) (fun _ _ _ h => h) (Or.inl ⟨by kernel_rfl, ?_⟩) hHeld ?_
        rotate_left
        focus (intro w hSw; (try dsimp only at hSw); go_simp; try with_reducible rfl)
        try simp only [Act.put]
        refine wpAnyH_take (i := 6) (v := ?_) rfl (by kernel_rfl) (by kernel_rfl) (by kernel_rfl) (fun _ _ _ h => h) (Or.inl ⟨by kernel_rfl, ?_⟩) hHeld ?_
        rotate_left
        focus (intro w hSw; (try dsimp only at hSw); go_simp; try with_reducible rfl)
        try simp only [Act.put]
        refine wpAnyH_ready (rs := [7]) (by kernel_rfl) (by simp) ?_
        refine AllReadyH.cons rfl (fun K hK => ?_) (AllReadyH.nil)
        go_simp
        refine hK.out _ _ ?_ (fun hHeld => ?_)
        · exact HBZ.out
        clear hK K
        try simp only [Act.put]
        refine wpAnyH_ready (rs := [8]) (by kernel_rfl) (by simp) ?_
        refine AllReadyH.cons rfl (fun K hK => ?_) (AllReadyH.nil)
        go_simp
        refine hK.out _ _ ?_ (fun hHeld => ?_)
        · exact HBZ.out
        clear hK K
        try simp only [Act.put]
        refine wpAnyH_done (by kernel_rfl) ?_ _
        refine NoPanic.normal ?_
        go_wp2_with fail
        obtain ⟨Z, hZ⟩ : ∃ Z, Z = ((V0.setCell ⟨w.heap.size + 1 + 1, 0, none⟩ (.string (str l))).setCell ⟨w.heap.size + 1 + 1, 1, none⟩ (.int .i64 (q : Int))).drew := ⟨_, rfl⟩
        have kk : Has Z v l q F ∧ Keep F w Z ∧ Z.cell? ⟨w.heap.size + 1 + 1, 0, none⟩ = some (.string (str l)) ∧ Z.cell? ⟨w.heap.size + 1 + 1, 1, none⟩ = some (.int .i64 (q : Int)) := by
          rw [hZ]
          exact AM.fin H (q := q) HAM.out ((V0.setCell ⟨w.heap.size + 1 + 1, 0, none⟩ (.string (str l))).setCell ⟨w.heap.size + 1 + 1, 1, none⟩ (.int .i64 (q : Int))).drew rfl rfl rfl rfl
        rw [← hZ]
        obtain ⟨z1, z2, k0, k1⟩ := kk
        exact bodyPost_ret (v := .tuple #[v, fv l q, .bool true]) (by simp [results, Try.results8, go_sem, k0, k1]) rfl ⟨v, F, by rw [HQ.out], by rw [← HQ.out]; exact z1, z2, fun _ hk => .inl hk⟩
      · have d1 : decide ((i : Int) < 2) = true := decide_eq_true (by omega)
        by_cases hn1 : 1 ≤ n
        · have d2 : decide ((1 : Int) ≤ n) = true := decide_eq_true hn1
          by_cases hn2 : n ≤ 256
          · have d3 : decide (n ≤ (256 : Int)) = true := decide_eq_true hn2
            have hok : okN n := ⟨hn1, hn2⟩
            have hcn : cnt l p n = l.length - p := by unfold cnt; rw [if_pos hok]
            have hsm := HSM.out
            have hys : small l (p + i) := ⟨by have := hsm.1; omega, hsm.2⟩
            have hem : (str (l.drop (p + i))).toList.isEmpty = true := by
              rw [str_toList, List.drop_eq_nil_of_le (by have := hsm.1; omega)]
              rfl
            have HL := Lib.hid (fun w => rleft_any l (p + i) hys w)
            obtain ⟨T, hT⟩ : ∃ T, T = str (l.drop (p + i)) := ⟨_, rfl⟩
            rw [← hT] at HL hem
            obtain ⟨y, hy⟩ : ∃ y, y = p + i := ⟨_, rfl⟩
            have hx0 : V0.cell? ⟨B, 0, none⟩ = some (.string (str l)) := HPV.out.bx.cell 0
            have hx1 : V0.cell? ⟨B, 1, none⟩ = some (.int .i64 (y : Int)) := by rw [hy]; exact HPV.out.bx.cell 1
            rw [← hy] at HL
            clear hik hkk hi hi2 h2 hlt hok hcn hsm hys hT hn1 hn2 hy
            go_wp2_with fail
            refine (HL.out _).mono ?_
            rintro e V1 ⟨rfl, hb1⟩
            have HPV2 := Lib.hid (KM.more H HPV.out hb1)
            clear HPV hb1 hx0 hx1 ha1
            have P := HPV2.out
            have hik := HIK.out
            obtain ⟨q, hq⟩ : ∃ q, q = p + k := ⟨_, rfl⟩
            have hqi : p + i = q := by omega
            have b0 : V1.cell? ⟨B, 0, none⟩ = some (.string (str l)) := P.bx.cell 0
            have b1 : V1.cell? ⟨B, 1, none⟩ = some (.int .i64 (q : Int)) := by rw [← hqi]; exact P.bx.cell 1
            have c0 : V1.cell? ⟨w.heap.size + 1 + 1, 0, none⟩ = some (.string (str [])) := P.am.res.cell 0
            have c1 : V1.cell? ⟨w.heap.size + 1 + 1, 1, none⟩ = some (.int .i64 0) := P.am.res.cell 1
            have f0 : V1.frozen? ⟨w.heap.size + 1 + 1, 0, none⟩ = false := P.am.res.frozen 0
            have f1 : V1.frozen? ⟨w.heap.size + 1 + 1, 1, none⟩ = false := P.am.res.frozen 1
            have hlt1 : w.heap.size + 1 + 1 < V1.heap.size := P.am.res.lt
            have hik2 : ((i : Int) == (k : Int)) = true := by rw [beq_iff_eq]; omega
            have HBZ := Lib.hid (show ((V1.drew.setCell ⟨w.heap.size + 1 + 1, 0, none⟩ (.string (str l))).setCell ⟨w.heap.size + 1 + 1, 1, none⟩ (.int .i64 (q : Int))).cell? ⟨B, 0, none⟩ = some (.string (str l)) ∧ ((V1.drew.setCell ⟨w.heap.size + 1 + 1, 0, none⟩ (.string (str l))).setCell ⟨w.heap.size + 1 + 1, 1, none⟩ (.int .i64 (q : Int))).cell? ⟨B, 1, none⟩ = some (.int .i64 (q : Int)) from by
              have hd : Row V1.drew B 28 (fc l q) := by rw [← hqi]; exact P.bx
              have hbb := P.hb
              have hz : Row ((V1.drew.setCell ⟨w.heap.size + 1 + 1, 0, none⟩ (.string (str l))).setCell ⟨w.heap.size + 1 + 1, 1, none⟩ (.int .i64 (q : Int))) B 28 (fc l q) := hd.same ((heap_set (by omega)).trans (heap_set (by omega)))
              exact ⟨hz.cell 0, hz.cell 1⟩)
            have HAM := Lib.hid P.am
            rw [← hq] at HAM
            have HQ := Lib.hid hq
            clear P HPV2 hqi hq hik HIK
            go_wp2_with fail
            refine wp_region_noPanic ?_
            refine wp_region_held_drew (S := fun W => W.cell? ⟨B, 0, none⟩ = some (.string (str l)) ∧ W.cell? ⟨B, 1, none⟩ = some (.int .i64 (q : Int))) (by kernel_rfl) ?_ (fun hHeld => ?_)
            · exact ⟨b0, b1⟩
            refine wpAnyH_take (i := 0) (v := ?_) rfl (by kernel_rfl) (by kernel_rfl) (by kernel_rfl) (fun _ _ _ h => h) (Or.inl ⟨by kernel_rfl, ?_⟩) hHeld ?_
            rotate_left
            focus (intro w hSw; (try dsimp only at hSw); go_simp; try with_reducible rfl)
            try simp only [Act.put]
            refine wpAnyH_take (i := 1) (v := ?_) rfl (by kernel_rfl) (by kernel_rfl) (by kernel_rfl) (fun _ _ _ h => h) (Or.inl ⟨by kernel_rfl, ?_⟩) hHeld ?_
            rotate_left
            focus (intro w hSw; (try dsimp only at hSw); go_simp; try with_reducible rfl)
            try simp only [Act.put]
            refine wpAnyH_take (i := 2) (v := ?_) rfl (by kernel_rfl) (by kernel_rfl) (by kernel_rfl) (fun _ _ _ h => h) (Or.inl ⟨by kernel_rfl, ?_⟩) hHeld ?_
            rotate_left
            focus (intro w hSw; (try dsimp only at hSw); go_simp; try with_reducible rfl)
            try simp only [Act.put]
            refine wpAnyH_take (i := 3) (v := ?_) rfl (by kernel_rfl) (by kernel_rfl) (by kernel_rfl) (fun _ _ _ h => h) (Or.inl ⟨by kernel_rfl, ?_⟩) hHeld ?_
            rotate_left
            focus (intro w hSw; (try dsimp only at hSw); go_simp; try with_reducible rfl)
            try simp only [Act.put]
            refine wpAnyH_take (i := 4) (v := ?_) rfl (by kernel_rfl) (by kernel_rfl) (by kernel_rfl) (fun _ _ _ h => h) (Or.inl ⟨by kernel_rfl, ?_⟩) hHeld ?_
            rotate_left
            focus (intro w hSw; (try dsimp only at hSw); go_simp; try with_reducible rfl)
            try simp only [Act.put]
            refine wpAnyH_take (i := 5) (v := ?_) rfl (by kernel_rfl) (by kernel_rfl) (by kernel_rfl) (fun _ _ _ h => h) (Or.inl ⟨by kernel_rfl, ?_⟩) hHeld ?_
            rotate_left
            focus (intro w hSw; (try dsimp only at hSw); go_simp; try with_reducible rfl)
            try simp only [Act.put]
            refine wpAnyH_take (i := 6) (v := ?_) rfl (by kernel_rfl) (by kernel_rfl) (by kernel_rfl) (fun _ _ _ h => h) (Or.inl ⟨by kernel_rfl, ?_⟩) hHeld ?_
            rotate_left
            focus (intro w hSw; (try dsimp only at hSw); go_simp; try with_reducible rfl)
            try simp only [Act.put]
            refine wpAnyH_ready (rs := [7]) (by kernel_rfl) (by simp) ?_
            refine AllReadyH.cons rfl (fun K hK => ?_) (AllReadyH.nil)
            go_simp
            refine hK.out _ _ ?_ (fun hHeld => ?_)
            · exact HBZ.out
            clear hK K
            try simp only [Act.put]
            refine wpAnyH_ready (rs := [8]) (by kernel_rfl) (by simp) ?_
            refine AllReadyH.cons rfl (fun K hK => ?_) (AllReadyH.nil)
            go_simp
            refine hK.out _ _ ?_ (fun hHeld => ?_)
            · exact HBZ.out
            clear hK K
            try simp only [Act.put]
            refine wpAnyH_done (by kernel_rfl) ?_ _
            refine NoPanic.normal ?_
            go_wp2_with fail
            obtain ⟨Z, hZ⟩ : ∃ Z, Z = ((V1.setCell ⟨w.heap.size + 1 + 1, 0, none⟩ (.string (str l))).setCell ⟨w.heap.size + 1 + 1, 1, none⟩ (.int .i64 (q : Int))).drew := ⟨_, rfl⟩
            have kk : Has Z v l q F ∧ Keep F w Z ∧ Z.cell? ⟨w.heap.size + 1 + 1, 0, none⟩ = some (.string (str l)) ∧ Z.cell? ⟨w.heap.size + 1 + 1, 1, none⟩ = some (.int .i64 (q : Int)) := by
              rw [hZ]
              exact AM.fin H (q := q) HAM.out ((V1.setCell ⟨w.heap.size + 1 + 1, 0, none⟩ (.string (str l))).setCell ⟨w.heap.size + 1 + 1, 1, none⟩ (.int .i64 (q : Int))).drew rfl rfl rfl rfl
            rw [← hZ]
            obtain ⟨z1, z2, k0, k1⟩ := kk
            exact bodyPost_ret (v := .tuple #[v, fv l q, .bool true]) (by simp [results, Try.results8, go_sem, k0, k1]) rfl ⟨v, F, by rw [HQ.out], by rw [← HQ.out]; exact z1, z2, fun _ hk => .inl hk⟩
          · have d3 : decide (n ≤ (256 : Int)) = false := decide_eq_false hn2
            clear hik hkk hi hi2 h2 hlt hn1 hn2
            have P := HPV.out
            have hik := HIK.out
            obtain ⟨q, hq⟩ : ∃ q, q = p + k := ⟨_, rfl⟩
            have hqi : p + i = q := by omega
            have b0 : V0.cell? ⟨B, 0, none⟩ = some (.string (str l)) := P.bx.cell 0
            have b1 : V0.cell? ⟨B, 1, none⟩ = some (.int .i64 (q : Int)) := by rw [← hqi]; exact P.bx.cell 1
            have c0 : V0.cell? ⟨w.heap.size + 1 + 1, 0, none⟩ = some (.string (str [])) := P.am.res.cell 0
            have c1 : V0.cell? ⟨w.heap.size + 1 + 1, 1, none⟩ = some (.int .i64 0) := P.am.res.cell 1
            have f0 : V0.frozen? ⟨w.heap.size + 1 + 1, 0, none⟩ = false := P.am.res.frozen 0
            have f1 : V0.frozen? ⟨w.heap.size + 1 + 1, 1, none⟩ = false := P.am.res.frozen 1
            have hlt1 : w.heap.size + 1 + 1 < V0.heap.size := P.am.res.lt
            have hik2 : ((i : Int) == (k : Int)) = true := by rw [beq_iff_eq]; omega
            have HBZ := Lib.hid (show ((V0.drew.setCell ⟨w.heap.size + 1 + 1, 0, none⟩ (.string (str l))).setCell ⟨w.heap.size + 1 + 1, 1, none⟩ (.int .i64 (q : Int))).cell? ⟨B, 0, none⟩ = some (.string (str l)) ∧ ((V0.drew.setCell ⟨w.heap.size + 1 + 1, 0, none⟩ (.string (str l))).setCell ⟨w.heap.size + 1 + 1, 1, none⟩ (.int .i64 (q : Int))).cell? ⟨B, 1, none⟩ = some (.int .i64 (q : Int)) from by
              have hd : Row V0.drew B 28 (fc l q) := by rw [← hqi]; exact P.bx
              have hbb := P.hb
              have hz : Row ((V0.drew.setCell ⟨w.heap.size + 1 + 1, 0, none⟩ (.string (str l))).setCell ⟨w.heap.size + 1 + 1, 1, none⟩ (.int .i64 (q : Int))) B 28 (fc l q) := hd.same ((heap_set (by omega)).trans (heap_set (by omega)))
              exact ⟨hz.cell 0, hz.cell 1⟩)
            have HAM := Lib.hid P.am
            rw [← hq] at HAM
            have HQ := Lib.hid hq
            clear P HPV hqi hq hik HIK
            go_wp2_with fail
            refine wp_region_noPanic ?_
            refine wp_region_held_drew (S := fun W => W.cell? ⟨B, 0, none⟩ = some (.string (str l)) ∧ W.cell? ⟨B, 1, none⟩ = some (.int .i64 (q : Int))) (by kernel_rfl) ?_ (fun hHeld => ?_)
            · exact ⟨b0, b1⟩
            refine wpAnyH_take (i := 0) (v := ?_) rfl (by kernel_rfl) (by kernel_rfl) (by kernel_rfl) (fun _ _ _ h => h) (Or.inl ⟨by kernel_rfl, ?_⟩) hHeld ?_
            rotate_left
            focus (intro w hSw; (try dsimp only at hSw); go_simp; try with_reducible rfl)
            try simp only [Act.put]
            refine wpAnyH_take (i := 1) (v := ?_) rfl (by kernel_rfl) (by kernel_rfl) (by kernel_rfl) (fun _ _ _ h => h) (Or.inl ⟨by kernel_rfl, ?_⟩) hHeld ?_
            rotate_left
            focus (intro w hSw; (try dsimp only at hSw); go_simp; try with_reducible rfl)
            try simp only [Act.put]
            refine wpAnyH_take (i := 2) (v := ?_) rfl (by kernel_rfl) (by kernel_rfl) (by kernel_rfl) (fun _ _ _ h => h) (Or.inl ⟨by kernel_rfl, ?_⟩) hHeld ?_
            rotate_left
            focus (intro w hSw; (try dsimp only at hSw); go_simp; try with_reducible rfl)
            try simp only [Act.put]
            refine wpAnyH_take (i := 3) (v := ?_) rfl (by kernel_rfl) (by kernel_rfl) (by kernel_rfl) (fun _ _ _ h => h) (Or.inl ⟨by kernel_rfl, ?_⟩) hHeld ?_
            rotate_left
            focus (intro w hSw; (try dsimp only at hSw); go_simp; try with_reducible rfl)
            try simp only [Act.put]
            refine wpAnyH_take (i := 4) (v := ?_) rfl (by kernel_rfl) (by kernel_rfl) (by kernel_rfl) (fun _ _ _ h => h) (Or.inl ⟨by kernel_rfl, ?_⟩) hHeld ?_
            rotate_left
            focus (intro w hSw; (try dsimp only at hSw); go_simp; try with_reducible rfl)
            try simp only [Act.put]
            refine wpAnyH_take (i := 5) (v := ?_) rfl (by kernel_rfl) (by kernel_rfl) (by kernel_rfl) (fun _ _ _ h => h) (Or.inl ⟨by kernel_rfl, ?_⟩) hHeld ?_
            rotate_left
            focus (intro w hSw; (try dsimp only at hSw); go_simp; try with_reducible rfl)
            try simp only [Act.put]
            refine wpAnyH_take (i := 6) (v := ?_) rfl (by kernel_rfl) (by kernel_rfl) (by kernel_rfl) (fun _ _ _ h => h) (Or.inl ⟨by kernel_rfl, ?_⟩) hHeld ?_
            rotate_left
            focus (intro w hSw; (try dsimp only at hSw); go_simp; try with_reducible rfl)
            try simp only [Act.put]
            refine wpAnyH_ready (rs := [7]) (by kernel_rfl) (by simp) ?_
            refine AllReadyH.cons rfl (fun K hK => ?_) (AllReadyH.nil)
            go_simp
            refine hK.out _ _ ?_ (fun hHeld => ?_)
            · exact HBZ.out
            clear hK K
            try simp only [Act.put]
            refine wpAnyH_ready (rs := [8]) (by kernel_rfl) (by simp) ?_
            refine AllReadyH.cons rfl (fun K hK => ?_) (AllReadyH.nil)
            go_simp
            refine hK.out _ _ ?_ (fun hHeld => ?_)
            · exact HBZ.out
            clear hK K
            try simp only [Act.put]
            refine wpAnyH_done (by kernel_rfl) ?_ _
            refine NoPanic.normal ?_
            go_wp2_with fail
            obtain ⟨Z, hZ⟩ : ∃ Z, Z = ((V0.setCell ⟨w.heap.size + 1 + 1, 0, none⟩ (.string (str l))).setCell ⟨w.heap.size + 1 + 1, 1, none⟩ (.int .i64 (q : Int))).drew := ⟨_, rfl⟩
            have kk : Has Z v l q F ∧ Keep F w Z ∧ Z.cell? ⟨w.heap.size + 1 + 1, 0, none⟩ = some (.string (str l)) ∧ Z.cell? ⟨w.heap.size + 1 + 1, 1, none⟩ = some (.int .i64 (q : Int)) := by
              rw [hZ]
              exact AM.fin H (q := q) HAM.out ((V0.setCell ⟨w.heap.size + 1 + 1, 0, none⟩ (.string (str l))).setCell ⟨w.heap.size + 1 + 1, 1, none⟩ (.int .i64 (q : Int))).drew rfl rfl rfl rfl
            rw [← hZ]
            obtain ⟨z1, z2, k0, k1⟩ := kk
            exact bodyPost_ret (v := .tuple #[v, fv l q, .bool true]) (by simp [results, Try.results8, go_sem, k0, k1]) rfl ⟨v, F, by rw [HQ.out], by rw [← HQ.out]; exact z1, z2, fun _ hk => .inl hk⟩
        · have d2 : decide ((1 : Int) ≤ n) = false := decide_eq_false hn1
          clear hik hkk hi hi2 h2 hlt hn1
          have P := HPV.out
          have hik := HIK.out
          obtain ⟨q, hq⟩ : ∃ q, q = p + k := ⟨_, rfl⟩
          have hqi : p + i = q := by omega
          have b0 : V0.cell? ⟨B, 0, none⟩ = some (.string (str l)) := P.bx.cell 0
          have b1 : V0.cell? ⟨B, 1, none⟩ = some (.int .i64 (q : Int)) := by rw [← hqi]; exact P.bx.cell 1
          have c0 : V0.cell? ⟨w.heap.size + 1 + 1, 0, none⟩ = some (.string (str [])) := P.am.res.cell 0
          have c1 : V0.cell? ⟨w.heap.size + 1 + 1, 1, none⟩ = some (.int .i64 0) := P.am.res.cell 1
          have f0 : V0.frozen? ⟨w.heap.size + 1 + 1, 0, none⟩ = false := P.am.res.frozen 0
          have f1 : V0.frozen? ⟨w.heap.size + 1 + 1, 1, none⟩ = false := P.am.res.frozen 1
          have hlt1 : w.heap.size + 1 + 1 < V0.heap.size := P.am.res.lt
          have hik2 : ((i : Int) == (k : Int)) = true := by rw [beq_iff_eq]; omega
          have HBZ := Lib.hid (show ((V0.drew.setCell ⟨w.heap.size + 1 + 1, 0, none⟩ (.string (str l))).setCell ⟨w.heap.size + 1 + 1, 1, none⟩ (.int .i64 (q : Int))).cell? ⟨B, 0, none⟩ = some (.string (str l)) ∧ ((V0.drew.setCell ⟨w.heap.size + 1 + 1, 0, none⟩ (.string (str l))).setCell ⟨w.heap.size + 1 + 1, 1, none⟩ (.int .i64 (q : Int))).cell? ⟨B, 1, none⟩ = some (.int .i64 (q : Int)) from by
            have hd : Row V0.drew B 28 (fc l q) := by rw [← hqi]; exact P.bx
            have hbb := P.hb
            have hz : Row ((V0.drew.setCell ⟨w.heap.size + 1 + 1, 0, none⟩ (.string (str l))).setCell ⟨w.heap.size + 1 + 1, 1, none⟩ (.int .i64 (q : Int))) B 28 (fc l q) := hd.same ((heap_set (by omega)).trans (heap_set (by omega)))
            exact ⟨hz.cell 0, hz.cell 1⟩)
          have HAM := Lib.hid P.am
          rw [← hq] at HAM
          have HQ := Lib.hid hq
          clear P HPV hqi hq hik HIK
          go_wp2_with fail
          refine wp_region_noPanic ?_
          refine wp_region_held_drew (S := fun W => W.cell? ⟨B, 0, none⟩ = some (.string (str l)) ∧ W.cell? ⟨B, 1, none⟩ = some (.int .i64 (q : Int))) (by kernel_rfl) ?_ (fun hHeld => ?_)
          · exact ⟨b0, b1⟩
          refine wpAnyH_take (i := 0) (v := ?_) rfl (by kernel_rfl) (by kernel_rfl) (by kernel_rfl) (fun _ _ _ h => h) (Or.inl ⟨by kernel_rfl, ?_⟩) hHeld ?_
          rotate_left
          focus (intro w hSw; (try dsimp only at hSw); go_simp; try with_reducible rfl)
          try simp only [Act.put]
          refine wpAnyH_take (i := 1) (v := ?_) rfl (by kernel_rfl) (by kernel_rfl) (by kernel_rfl) (fun _ _ _ h => h) (Or.inl ⟨by kernel_rfl, ?_⟩) hHeld ?_
          rotate_left
          focus (intro w hSw; (try dsimp only at hSw); go_simp; try with_reducible rfl)
          try simp only [Act.put]
          refine wpAnyH_take (i := 2) (v := ?_) rfl (by kernel_rfl) (by kernel_rfl) (by kernel_rfl) (fun _ _ _ h => h) (Or.inl ⟨by kernel_rfl, ?_⟩) hHeld ?_
          rotate_left
          focus (intro w hSw; (try dsimp only at hSw); go_simp; try with_reducible rfl)
          try simp only [Act.put]
          refine wpAnyH_take (i := 3) (v := ?_) rfl (by kernel_rfl) (by kernel_rfl) (by kernel_rfl) (fun _ _ _ h => h) (Or.inl ⟨by kernel_rfl, ?_⟩) hHeld ?_
          rotate_left
          focus (intro w hSw; (try dsimp only at hSw); go_simp; try with_reducible rfl)
          try simp only [Act.put]
          refine wpAnyH_take (i := 4) (v := ?_) rfl (by kernel_rfl) (by kernel_rfl) (by kernel_rfl) (fun _ _ _ h => h) (Or.inl ⟨by kernel_rfl, ?_⟩) hHeld ?_
          rotate_left
          focus (intro w hSw; (try dsimp only at hSw); go_simp; try with_reducible rfl)
          try simp only [Act.put]
          refine wpAnyH_take (i := 5) (v := ?_) rfl (by kernel_rfl) (by kernel_rfl) (by kernel_rfl) (fun _ _ _ h => h) (Or.inl ⟨by kernel_rfl, ?_⟩) hHeld ?_
          rotate_left
          focus (intro w hSw; (try dsimp only at hSw); go_simp; try with_reducible rfl)
          try simp only [Act.put]
          refine wpAnyH_take (i := 6) (v := ?_) rfl (by kernel_rfl) (by kernel_rfl) (by kernel_rfl) (fun _ _ _ h => h) (Or.inl ⟨by kernel_rfl, ?_⟩) hHeld ?_
          rotate_left
          focus (intro w hSw; (try dsimp only at hSw); go_simp; try with_reducible rfl)
          try simp only [Act.put]
          refine wpAnyH_ready (rs := [7]) (by kernel_rfl) (by simp) ?_
          refine AllReadyH.cons rfl (fun K hK => ?_) (AllReadyH.nil)
          go_simp
          refine hK.out _ _ ?_ (fun hHeld => ?_)
          · exact HBZ.out
          clear hK K
          try simp only [Act.put]
          refine wpAnyH_ready (rs := [8]) (by kernel_rfl) (by simp) ?_
          refine AllReadyH.cons rfl (fun K hK => ?_) (AllReadyH.nil)
          go_simp
          refine hK.out _ _ ?_ (fun hHeld => ?_)
          · exact HBZ.out
          clear hK K
          try simp only [Act.put]
          refine wpAnyH_done (by kernel_rfl) ?_ _
          refine NoPanic.normal ?_
          go_wp2_with fail
          obtain ⟨Z, hZ⟩ : ∃ Z, Z = ((V0.setCell ⟨w.heap.size + 1 + 1, 0, none⟩ (.string (str l))).setCell ⟨w.heap.size + 1 + 1, 1, none⟩ (.int .i64 (q : Int))).drew := ⟨_, rfl⟩
          have kk : Has Z v l q F ∧ Keep F w Z ∧ Z.cell? ⟨w.heap.size + 1 + 1, 0, none⟩ = some (.string (str l)) ∧ Z.cell? ⟨w.heap.size + 1 + 1, 1, none⟩ = some (.int .i64 (q : Int)) := by
            rw [hZ]
            exact AM.fin H (q := q) HAM.out ((V0.setCell ⟨w.heap.size + 1 + 1, 0, none⟩ (.string (str l))).setCell ⟨w.heap.size + 1 + 1, 1, none⟩ (.int .i64 (q : Int))).drew rfl rfl rfl rfl
          rw [← hZ]
          obtain ⟨z1, z2, k0, k1⟩ := kk
          exact bodyPost_ret (v := .tuple #[v, fv l q, .bool true]) (by simp [results, Try.results8, go_sem, k0, k1]) rfl ⟨v, F, by rw [HQ.out], by rw [← HQ.out]; exact z1, z2, fun _ hk => .inl hk⟩
end Go.Proofs.Ytglfcfepgjldfaa.Fe
