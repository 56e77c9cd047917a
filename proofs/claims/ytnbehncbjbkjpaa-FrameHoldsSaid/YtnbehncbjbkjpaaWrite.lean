import Derived.Test.YtnbehncbjbkjpaaRead
namespace Go.Proofs.Ytnbehncbjbkjpaa
open Go.RowKit Go.Shelf Go.Maps Go.Sort
attribute [local go_sem] Oper.semAt_some

/- WRITE, RESERVED, ROOM. -/

theorem u8_size : (Try.prog.info? 5).map (·.size) = some 1 := by kernel_rfl
theorem setCells_keep {F : Nat → Prop} {w : World} {b : Nat} (hb : F b) : ∀ (vs : List Value) (o : Nat) (V : World), Keep F w V → Keep F w (V.setCells b o vs)
  | [], _, _, h => h
  | _ :: r, _, _, h => setCells_keep hb r _ _ (h.set _ (.inl hb))
theorem writeP_ok {p : Pl} {i a : Int} {l : List UInt8} {o : Nat} {bs : List UInt8} (hE : reachE p i a l.length = 0) (h7 : frameO p i.toNat = some (o, bs)) : writeP p i a l = { p with fr := p.fr.set i.toNat (some (o, putB bs a.toNat l)) } := by
  unfold writeP
  rw [if_pos hE, h7]
theorem putB_nil (bs : List UInt8) (a : Nat) : putB bs a [] = bs := by simp [putB]
theorem write_same {p : Pl} {i : Nat} {o : Nat} {bs : List UInt8} (h : p.fr[i]? = some (some (o, bs))) : ({ p with fr := p.fr.set i (some (o, bs)) } : Pl) = p := by
  have : p.fr.set i (some (o, bs)) = p.fr := by
    refine List.ext_getElem? fun j => ?_
    rw [List.getElem?_set]
    split
    next e =>
      subst e
      rw [if_pos (List.getElem?_eq_some_iff.1 h).1, h]
    · rfl
  rw [this]

/-- the copy of a write -/
theorem write_copy {b bm : Nat} {p : Pl} {fv sv : Value} {fb : List (List UInt8)} {gf gs : Option Nat} {w : World} (h : Rep w b p bm fv sv fb gf gs) (i a : Int) (l : List UInt8) (hE : reachE p i a l.length = 0) (A : Addr) (c f0 : Nat) (hgf : gf = some f0) (hA : 0 < (l.length : Int) → A = ⟨f0, i.toNat * 256 + a.toNat, none⟩) (B n cs : Nat) (S : Option Addr) (hl : l.length = n) (hS : Sees w B S (byt l)) :
    ∃ u W2, (∀ ty, (Builtin.copy_ #[36, 36] ty #[.slice (some A) n c, .slice S n cs]).run Try.prog w = .ok u W2) ∧ Next w b (writeP p i a l) (blocks b bm gf gs) W2 := by
  subst hgf
  have hok := write_ok h.ok i a l
  obtain ⟨h1, h2, h3, h4, h5, o, bs, h6, h7⟩ := reach_some hE
  rw [writeP_ok hE h7] at hok ⊢
  rcases Nat.eq_zero_or_pos n with h0 | h0
  · obtain rfl : l = [] := List.eq_nil_of_length_eq_zero (by omega)
    rw [putB_nil, write_same h6]
    exact ⟨_, w, fun ty => run_copy_none w _ _ ty 5 _ _ _ _ _ _ Try.underlying36 u8_size (by rw [h0]; rfl), Next.same ⟨_, _, _, _, _, _, h, rfl⟩ (Below.refl _ _)⟩
  · obtain rfl := hA (by omega)
    obtain ⟨S', rfl, hSB, hSc⟩ := hS (by intro e; have := congrArg List.length e; rw [byt_length, List.length_nil] at this; omega)
    have hs := h.same _ o bs h6
    have hi := (List.getElem?_eq_some_iff.1 hs).1
    have hmul := Nat.mul_le_mul_right 256 (show i.toNat + 1 ≤ fb.length by omega)
    have hfl := fl_len fb h.fbs
    have hR := h.write i.toNat o a.toNat bs l h6 (by omega) hok
    refine ⟨_, w.setCells f0 (i.toNat * 256 + a.toNat) (byt l), fun ty => run_copy_cells w _ _ ty 5 f0 (i.toNat * 256 + a.toNat) n c S' n cs (byt l) Try.underlying36 u8_size (by rw [byt_length, hl]; exact (Nat.min_self n).symm) (fun j v hj => hSc j v hj) (fun j hj => ?_) (fun j hj => h.frm.frozen rfl _) byt_one, ?_⟩
    · rw [byt_length] at hj
      rw [h.frm.cell rfl _ (by omega), List.getElem?_eq_getElem (by omega)]
      rfl
    · exact ⟨_, ⟨_, _, _, _, _, _, hR, rfl⟩, setCells_keep (.inr (.inr (.inl rfl))) _ _ _ (Keep.refl w), fun k hk => .inl hk⟩

set_option maxRecDepth 100000 in
set_option maxHeartbeats 1000000 in
theorem write_nil (v : Value) (i a : Int) (S : Option Addr) (n c : Nat) (w : World) (h : Non w v) : Calls Try.prog 13 #[v, .int .i64 i, .int .i64 a, .slice S n c] w fun e w' => e = .returned (.int .i64 1) ∧ Below w.heap.size w w' := by
  have h1 := Lib.hid (reach_nil v i a (n : Int) w h)
  have h2 := (fun (W : World) ty => run_copy_none (P := Try.prog) W 36 36 ty 5 none S 0 0 n c Try.underlying36 u8_size (by simp))
  clear h
  go_enter Try.func13, Try.ntmps13
  go_wp2_with fail
  refine (h1.out).mono ?_
  rintro e w1 ⟨rfl, hb⟩
  go_wp2
  go_ret
  exact ⟨rfl, hb⟩
set_option maxRecDepth 100000 in
set_option maxHeartbeats 1000000 in
theorem write_any {b : Nat} {p : Pl} {F : Nat → Prop} {w : World} (h : Has w b p F) (i a : Int) (hi1 : i ≤ 9223372036854775807) (ha : -9223372036854775808 ≤ a ∧ a ≤ 9223372036854775807) (S : Option Addr) (n cs : Nat) (l : List UInt8) (hl : l.length = n) (hS : Sees w w.heap.size S (byt l)) :
    Calls Try.prog 13 #[bx b, .int .i64 i, .int .i64 a, .slice S n cs] w fun e w' => e = .returned (.int .i64 (reachE p i a l.length : Int)) ∧ Next w b (writeP p i a l) F w' := by
  obtain ⟨bm, fv, sv, fb, gf, gs, hr, rfl⟩ := h
  by_cases hE : reachE p i a l.length = 0
  · obtain ⟨A, c, f0, hgf, h1, h2, h3, h4, h5, h6⟩ := reach_any hr i a l.length hE
    rw [Int.toNat_natCast] at h1
    have H1 := Lib.hid (h1 w hr)
    rw [hl] at H1
    have H2 := Lib.hid (fun (w1 : World) (hb : Below w.heap.size w w1) => (show ∃ u W2, (∀ ty, (Builtin.copy_ #[36, 36] ty #[.slice (some A) n c, .slice S n cs]).run Try.prog w1 = .ok u W2) ∧ Next w b (writeP p i a l) (blocks b bm gf gs) W2 from by
      obtain ⟨u, W2, g1, F', g2, g3, g4⟩ := write_copy (hr.below hb) i a l hE A c f0 hgf h5 w.heap.size n cs S hl (hS.below hb)
      exact ⟨u, W2, g1, F', g2, (Keep.of_below hb).trans g3 (fun k _ h => h), fun k hk => (g4 k hk).elim .inl fun h => .inr (Nat.le_trans hb.size h)⟩))
    rw [hE]
    obtain ⟨P', hP'⟩ : ∃ P', P' = writeP p i a l := ⟨_, rfl⟩
    rw [← hP'] at H2 ⊢
    clear hP' h1 h2 h3 h4 h5 h6 hE hr hi1 ha hS hl
    go_enter Try.func13, Try.ntmps13
    go_wp2_with fail
    refine (H1.out).mono ?_
    rintro e w1 ⟨rfl, hb⟩
    obtain ⟨u, W2, g1, g2⟩ := H2.out w1 hb
    have H4 := Lib.hid g2
    clear H2 H1 hb g2
    go_wp2
    go_ret
    exact ⟨rfl, H4.out⟩
  · have H1 := Lib.hid (reach_no hr i a l.length hi1 ha hE)
    rw [hl] at H1
    have h2 := (fun (W : World) ty => run_copy_none (P := Try.prog) W 36 36 ty 5 none S 0 0 n cs Try.underlying36 u8_size (by simp))
    have hN := Lib.hid (fun w' (hb : Below w.heap.size w w') => (show Next w b (writeP p i a l) (blocks b bm gf gs) w' from by
      unfold writeP
      rw [if_neg hE]
      exact Next.same ⟨_, _, _, _, _, _, hr, rfl⟩ hb))
    rw [hl]
    obtain ⟨E, hE2⟩ : ∃ E, E = reachE p i a n := ⟨_, rfl⟩
    rw [← hE2] at H1 ⊢
    clear hE2 hE hr hi1 ha hS hl
    go_enter Try.func13, Try.ntmps13
    go_wp2_with fail
    refine (H1.out).mono ?_
    rintro e w1 ⟨rfl, hb⟩
    have HG := Lib.hid (hN.out w1 hb)
    clear hN hb
    go_wp2
    go_ret
    exact ⟨rfl, HG.out⟩

/-! reserved, room -/
set_option maxHeartbeats 1000000 in
theorem reserved_nil (v : Value) (o : Int) (w : World) (h : Non w v) : Calls Try.prog 14 #[v, .int .i64 o] w fun e w' => e = .returned (.tuple #[.int .i64 0, .int .i64 0]) ∧ w = w' := by
  have h1 := Lib.hid (there_non v w h)
  obtain ⟨pv, rfl⟩ : ∃ pv, v = .pointer pv := by
    rcases h with rfl | ⟨b, rfl, _⟩
    · exact ⟨_, rfl⟩
    · exact ⟨_, rfl⟩
  clear h
  go_enter Try.func14, Try.ntmps14
  go_wp2_with fail
  refine (h1.out).mono ?_
  rintro e w1 ⟨rfl, rfl⟩
  go_wp2
  go_ret2
  exact ⟨rfl, rfl⟩
set_option maxHeartbeats 1000000 in
theorem room_nil (v : Value) (w : World) (h : Non w v) : Calls Try.prog 10 #[v] w fun e w' => e = .returned (.int .i64 0) ∧ w = w' := by
  have h1 := Lib.hid (there_non v w h)
  obtain ⟨pv, rfl⟩ : ∃ pv, v = .pointer pv := by
    rcases h with rfl | ⟨b, rfl, _⟩
    · exact ⟨_, rfl⟩
    · exact ⟨_, rfl⟩
  clear h
  go_enter Try.func10, Try.ntmps10
  go_wp2_with fail
  refine (h1.out).mono ?_
  rintro e w1 ⟨rfl, rfl⟩
  go_wp2
  go_ret
  exact ⟨rfl, rfl⟩
set_option maxHeartbeats 1000000 in
theorem Room_any {b : Nat} {p : Pl} {F : Nat → Prop} {w : World} (h : Has w b p F) : Calls Try.prog 10 #[bx b] w fun e w' => e = .returned (.int .i64 (p.room : Int)) ∧ Below w.heap.size w w' := by
  obtain ⟨bm, fv, sv, fb, gf, gs, hr, rfl⟩ := h
  have h1 := Lib.hid (there_map b bm w hr.c1)
  have h2 := Lib.hid ((room_any hr).mono fun e w' ⟨e1, m, e2⟩ => (show e = Ending.returned (.int .i64 (p.room : Int)) ∧ Below w.heap.size w w' from ⟨e1, e2 ▸ below_drewN (Below.refl _ _) m⟩))
  obtain ⟨x, hx⟩ : ∃ x, x = p.room := ⟨_, rfl⟩
  rw [← hx] at h2 ⊢
  clear hx hr
  go_enter Try.func10, Try.ntmps10
  go_wp2_with fail
  refine (h1.out).mono ?_
  rintro e w1 ⟨rfl, rfl⟩
  go_wp2_with fail
  refine (h2.out).mono ?_
  rintro e w2 ⟨rfl, hb⟩
  go_wp2
  go_ret
  exact ⟨rfl, hb⟩
set_option maxHeartbeats 1000000 in
theorem Reserved_no {b : Nat} {p : Pl} {F : Nat → Prop} {w : World} (h : Has w b p F) (o : Int) (ho : ownerB o = false) : Calls Try.prog 14 #[bx b, .int .i64 o] w fun e w' => e = .returned (.tuple #[.int .i64 0, .int .i64 0]) ∧ w = w' := by
  obtain ⟨bm, fv, sv, fb, gf, gs, hr, rfl⟩ := h
  have h1 := Lib.hid (there_map b bm w hr.c1)
  have h2 := Lib.hid (known_any o w)
  rw [ho] at h2
  clear hr
  go_enter Try.func14, Try.ntmps14
  go_wp2_with fail
  refine (h1.out).mono ?_
  rintro e w1 ⟨rfl, rfl⟩
  go_wp2_with fail
  refine (h2.out).mono ?_
  rintro e w2 ⟨rfl, rfl⟩
  go_wp2
  go_ret2
  exact ⟨rfl, rfl⟩
set_option maxHeartbeats 1000000 in
theorem Reserved_yes {b : Nat} {p : Pl} {F : Nat → Prop} {w : World} (h : Has w b p F) (o : Nat) (ho : o < 64) : Calls Try.prog 14 #[bx b, .int .i64 (o : Int)] w fun e w' => e = .returned (.tuple #[.int .i64 (resN p o : Int), .int .i64 (taken p.fr o : Int)]) ∧ Below w.heap.size w w' := by
  obtain ⟨bm, fv, sv, fb, gf, gs, hr, rfl⟩ := h
  have h1 := Lib.hid (there_map b bm w hr.c1)
  have h2 := Lib.hid (known_any (o : Int) w)
  have hob : ownerB (o : Int) = true := by unfold ownerB; rw [decide_eq_true (by omega), decide_eq_true (by omega)]; rfl
  rw [hob] at h2
  have H3 := Lib.hid (fun W (hb : Below w.heap.size w W) => (show Calls Try.prog 25 #[bx b, .int .i64 (o : Int)] W (fun e w' => e = .returned (.int .i64 (resN p o : Int)) ∧ Below w.heap.size w w') from (reserved_any (hr.below hb) ho).mono fun e w' ⟨e1, e2⟩ => ⟨e1, below0 hb e2⟩))
  have H4 := Lib.hid (fun W (hb : Below w.heap.size w W) => (show Calls Try.prog 23 #[bx b, .int .i64 (o : Int)] W (fun e w' => e = .returned (.int .i64 (taken p.fr o : Int)) ∧ Below w.heap.size w w') from (has_any (o := o) (hr.below hb)).mono fun e w' ⟨e1, e2⟩ => ⟨e1, below0 hb e2⟩))
  have hdr := Lib.hid (show Below w.heap.size w w.drew from (Below.refl _ _).drew)
  obtain ⟨x, hx⟩ : ∃ x, x = resN p o := ⟨_, rfl⟩
  obtain ⟨y, hy⟩ : ∃ y, y = taken p.fr o := ⟨_, rfl⟩
  rw [← hx] at H3 ⊢
  rw [← hy] at H4 ⊢
  clear hx hy hr ho hob
  go_enter Try.func14, Try.ntmps14
  go_wp2_with fail
  refine (h1.out).mono ?_
  rintro e w1 ⟨rfl, rfl⟩
  go_wp2_with fail
  refine (h2.out).mono ?_
  rintro e w2 ⟨rfl, rfl⟩
  go_wp2_with fail
  go_region_held3 (fun W => Below w.heap.size w W) (first | exact hdr.out | assumption)
    (first | (go_at_call 25; refine (H3.out _ (by first | exact hdr.out | assumption)).mono ?_; rintro e w2 ⟨rfl, hb2⟩) | (go_at_call 23; refine (H4.out _ (by first | exact hdr.out | assumption)).mono ?_; rintro e w3 ⟨rfl, hb3⟩))
  all_goals
    go_wp2
    go_ret2
    exact ⟨rfl, by assumption⟩
end Go.Proofs.Ytnbehncbjbkjpaa
