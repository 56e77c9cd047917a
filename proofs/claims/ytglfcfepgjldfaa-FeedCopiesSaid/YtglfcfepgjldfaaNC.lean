import Derived.Test.YtglfcfepgjldfaaNB
import Derived.Test.YtglfcfepgjldfaaBaseIn
namespace Go.Proofs.Ytglfcfepgjldfaa.Fe
open Go.RowKit Go.Shelf
attribute [local go_sem] Oper.semAt_some

/- NEW; THE FIRST SO MANY; A NUMBER OUT OF BYTES; WHAT IS TAKEN. -/
theorem set_from {w : World} {g : Nat} {t : TypeId} : ∀ (cs pre mid : List Value), Row w g t (pre ++ mid) → mid.length = cs.length → Row (w.setCells g pre.length cs) g t (pre ++ cs)
  | [], pre, mid, h, hl => by
    obtain rfl : mid = [] := List.eq_nil_of_length_eq_zero hl
    exact h
  | v :: r, pre, m :: mid, h, hl => by
    rw [World.setCells]
    have h1 := h.set pre.length v
    rw [List.set_append_right _ _ (Nat.le_refl _), Nat.sub_self, List.set_cons_zero, show pre ++ v :: mid = (pre ++ [v]) ++ mid by simp] at h1
    have h2 := set_from r (pre ++ [v]) mid h1 (by simpa using hl)
    rw [List.length_append, List.length_singleton] at h2
    rw [show pre ++ v :: r = (pre ++ [v]) ++ r by simp]
    exact h2
theorem set_below (g B : Nat) (hB : B ≤ g) {w : World} : ∀ (cs : List Value) (o : Nat) (V : World), Below B w V → Below B w (V.setCells g o cs) ∧ (V.setCells g o cs).heap.size = V.heap.size
  | [], o, V, h => ⟨h, rfl⟩
  | v :: r, o, V, h => by
    rw [World.setCells]
    have := set_below g B hB r (o + 1) (V.setCell ⟨g, o, none⟩ v) (h.setCell hB v)
    exact ⟨this.1, this.2.trans (by simp)⟩
theorem byte_info : (Try.prog.info? 5).map (fun i => (i.zero, i.size, i.bytes)) = some (some (.int .u8 0), 1, 1) := by kernel_rfl
theorem byte_size : (Try.prog.info? 5).map (·.size) = some 1 := by kernel_rfl
/-- the copy of the bytes into the row that was made -/
theorem new_copy (w : World) (A : Option Addr) (n c : Nat) (bs : List UInt8) (h : Sees w w.heap.size A (byt bs)) (hn : bs.length = n) :
    ∃ W2, (∀ ty, (Builtin.copy_ #[52, 22] ty #[.slice (some ⟨w.heap.size, 0, none⟩) n n, .slice A n c]).run Try.prog (w.alloc (.cells (List.replicate n (.int .u8 0)).toArray 5)) = .ok (goInt n) W2) ∧ Row W2 w.heap.size 5 (byt bs) ∧ Below w.heap.size w W2 ∧ W2.heap.size = w.heap.size + 1 := by
  subst hn
  have hr := Row.new w 5 (List.replicate bs.length (.int .u8 0))
  rcases Nat.eq_zero_or_pos bs.length with h0 | h0
  · obtain rfl : bs = [] := List.eq_nil_of_length_eq_zero h0
    exact ⟨_, fun ty => run_copy_none _ _ _ ty 5 _ _ _ _ _ _ Try.underlying52 byte_size rfl, hr, below1 _ _, by simp⟩
  · obtain ⟨ad, rfl, hlt, hc⟩ := h (fun e => by have := congrArg List.length e; rw [byt_length, List.length_nil] at this; omega)
    have hs := set_from (w := w.alloc (.cells (List.replicate bs.length (.int .u8 0)).toArray 5)) (g := w.heap.size) (t := 5) (byt bs) [] (List.replicate bs.length (.int .u8 0)) hr (by rw [List.length_replicate, byt_length])
    have hb := set_below w.heap.size w.heap.size (Nat.le_refl _) (byt bs) 0 _ (below1 w (.cells (List.replicate bs.length (.int .u8 0)).toArray 5))
    refine ⟨_, fun ty => ?_, hs, hb.1, by rw [List.length_nil, hb.2]; simp⟩
    have := run_copy_cells (P := Try.prog) (w.alloc (.cells (List.replicate bs.length (.int .u8 0)).toArray 5)) 52 22 ty 5 w.heap.size 0 bs.length bs.length ad bs.length c (byt bs) Try.underlying52 byte_size (by rw [byt_length]; exact (Nat.min_self _).symm)
      (fun j v hj => by rw [World.cell?_alloc_lt _ _ _ (by rw [add_block]; exact hlt)]; exact hc j v hj) (fun j hj => ?_) (fun j hj => hr.frozen _) byt_one
    · rw [byt_length] at this
      exact this
    · rw [byt_length] at hj
      rw [hr.cell, List.getElem?_eq_getElem (by simpa using hj)]
      rfl
def NewP (w : World) (bs : List UInt8) (e : Ending) (w' : World) : Prop := ∃ b g, e = .returned (pb b) ∧ w.heap.size ≤ b ∧ w.heap.size ≤ g ∧ FRep w' b g bs 0 ∧ Below w.heap.size w w'
theorem new_any (w : World) (A : Option Addr) (n c : Nat) (bs : List UInt8) (h : Sees w w.heap.size A (byt bs)) (hn : bs.length = n) (h300 : n ≤ 300) : Calls Try.prog 7 #[.slice A n c] w (NewP w bs) := by
  obtain ⟨i0, hi, hz0, hz1, hz2⟩ := info_parts byte_info
  have hmk := make_one (P := Try.prog) Try.underlying52 hi hz0 hz1 rfl n n (Nat.le_refl _) (by rw [hz2]; omega) (by omega) w
  obtain ⟨W2, hcp, hr, hb, hs⟩ := new_copy w A n c bs h hn
  have hfin := Lib.hid (show NewP w bs (.returned (pb W2.heap.size)) (W2.alloc (.cells #[.slice (some ⟨w.heap.size, 0, none⟩) n n, .int .i64 0] 54)) from
    ⟨_, w.heap.size, rfl, hb.size, Nat.le_refl _, ⟨by rw [hn]; exact Row.new W2 54 [.slice (some ⟨w.heap.size, 0, none⟩) n n, .int .i64 0], hr.below (below1 _ _), Nat.zero_le _, by omega⟩, hb.alloc hb.size _⟩)
  obtain ⟨zs, hzs⟩ : ∃ zs : Array Value, zs = (List.replicate n (Value.int .u8 0)).toArray := ⟨_, rfl⟩
  rw [← hzs] at hmk hcp
  have HG : Hid (∀ e w', NewP w bs e w' → NewP w bs e w') := Lib.hid (fun _ _ h => h)
  clear hzs hi hz0 hz1 hz2 h hn hr hb hs
  go_enter Try.func7, Try.ntmps7
  go_wp2_with (at_builtin; refine Lib.wpList_copy_run _ rfl (.tmp 7) (.tmp 8) 52 22 rfl _ _ rfl rfl (hcp _) ?_)
  go_ret
  exact hfin.out
theorem app_fin {w w4 : World} {v' : Value} {n : Nat} {xs : List UInt8} (h1 : w4.ownsRow w.heap.size 5 1 v' n (byt xs)) (h2 : (w.alloc (.cells #[] 5)).grownBy w4 (some w.heap.size)) (h3 : v'.ownBlock = some w.heap.size ∨ v'.ownBlock = some (w.heap.size + 1)) :
    ∃ g c rest, v' = .slice (some ⟨g, 0, none⟩) n c ∧ w.heap.size ≤ g ∧ Row w4 g 5 (byt xs ++ rest) ∧ Below w.heap.size w w4 := by
  have hbl : Below w.heap.size w w4 := (below1 w _).grown h2 (by simp) (fun k hk => by injection hk with hk; omega)
  obtain ⟨h1, ⟨rfl, _⟩ | ⟨g, cap, cur, rfl, hb, hg, _, _, hc, ht⟩⟩ := h1
  · rcases h3 with h | h <;> cases h
  · refine ⟨g, cap, cur.toList.drop (n * 1), rfl, hb, ?_, hbl⟩
    rw [← ht, List.take_append_drop]
    exact hg
def CloneP (w : World) (xs : List UInt8) (e : Ending) (w' : World) : Prop := ∃ g c rest, e = .returned (.slice (some ⟨g, 0, none⟩) xs.length c) ∧ w.heap.size ≤ g ∧ Row w' g 5 (byt xs ++ rest) ∧ Below w.heap.size w w'
set_option maxHeartbeats 1000000 in
theorem clone_any (ad : Addr) (n c : Nat) (xs : List UInt8) (w : World) (hl : xs.length = n) (hn : n ≤ 300) (h : Sees w w.heap.size (some ad) (byt xs)) :
    Calls Try.prog 33 #[.slice (some ad) n c] w (CloneP w xs) := by
  obtain ⟨i0, hi, hz0, hz1, hz2⟩ := info_parts byte_info
  have hr := Lib.hid ((h.alloc (Nat.le_refl _) (.cells #[] 5)).more (show w.heap.size ≤ w.heap.size + 1 by omega))
  have hown : (w.alloc (.cells #[] 5)).ownsRow w.heap.size 5 1 (.slice (some ⟨w.heap.size, 0, none⟩) 0 0) 0 [] :=
    ⟨rfl, .inr ⟨_, _, _, rfl, Nat.le_refl _, World.alloc_heap_new w _, Nat.le_refl _, Nat.zero_le _, rfl, rfl⟩⟩
  have HF := Lib.hid (fun w4 v' h1 h2 h3 => app_fin (w := w) (w4 := w4) (v' := v') (n := n) (xs := xs) h1 h2 h3)
  have HL := Lib.hid (show (byt xs).length = n * 1 by rw [byt_length, hl, Nat.mul_one])
  have HO := Lib.hid (byt_one (l := xs))
  have hnn : ∀ W, (binOp .eql 22 (.slice (some ad) n c) (.slice none 0 0)).run Try.prog W = .ok (.bool false) W := fun W => by
    simp only [binOp]
    simp [run_equal_slice_nil W _ _ _ _ _ Try.underlying22]
  have HG : Hid (∀ e w', (∃ g c rest, e = .returned (.slice (some ⟨g, 0, none⟩) n c) ∧ w.heap.size ≤ g ∧ Row w' g 5 (byt xs ++ rest) ∧ Below w.heap.size w w') → CloneP w xs e w') := Lib.hid (fun _ _ h => by rw [← hl] at h; exact h)
  obtain ⟨ys, hys⟩ : ∃ ys, ys = byt xs := ⟨_, rfl⟩
  rw [← hys] at hr HF HL HO HG
  clear h hl hys
  go_enter Try.func33, Try.ntmps33
  go_wp2_with (at_builtin; refine wpList_append_sees rfl (.tmp 5) (.tmp 6) 22 rfl w.heap.size 5 i0 _ 1 1 Try.underlying22 hi hz0 hz1 hz2 rfl (by decide) _ 0 [] rfl hown (w.heap.size + 1) (some ad) n c ys rfl HL.out hr.out HO.out (by unfold maxLen; omega) (by omega) (by simp) ?_; intro v' w4 h1 h2 h3; rw [Nat.zero_add, List.nil_append] at h1; have hfin := HF.out w4 v' h1 h2 (by rw [World.size_alloc] at h3; exact h3); obtain ⟨g', c', rest', rfl, hg', hl', hb'⟩ := hfin; have hfin := Lib.hid (HG.out _ w4 ⟨g', c', rest', rfl, hg', hl', hb'⟩); clear h1 h2 h3 hg' hl' hb')
  go_ret
  exact hfin.out
theorem le_take : ∀ (xs : List UInt8) (j : Nat) (hj : j < xs.length), le (xs.take (j + 1)) = le (xs.take j) + xs[j].toNat * 256 ^ j
  | x :: r, 0, _ => by simp [le]
  | x :: r, j + 1, h => by
    have := le_take r j (by simpa using h)
    rw [List.take_succ_cons, List.take_succ_cons, le, le, this, List.getElem_cons_succ, Nat.pow_succ]
    rw [Nat.mul_add, ← Nat.add_assoc, Nat.mul_comm (256 ^ j) 256, ← Nat.mul_assoc, ← Nat.mul_assoc, Nat.mul_comm 256 (r[j]'(by simpa using h)).toNat]
theorem number_any (A : Option Addr) (xs : List UInt8) (n c : Nat) (w : World) (hA : Sees w w.heap.size A (byt xs)) (hl : xs.length = n) (h4 : n ≤ 4) : Calls Try.prog 37 #[.slice A n c] w fun e w' => e = .returned (.int .u32 (le xs : Int)) ∧ w = w' := by
  have hbyte := fun (k : Nat) (hk : k < n) => hA.byte (k := k) (by rw [hl]; exact hk)
  have hS : Hid (∀ (j : Nat) (hj : j < xs.length), ∃ z : Int, IntKind.u32.wrap ((xs[j].toNat : Int) * 2 ^ (8 * j)) = z ∧ bits .or .u32 (le (xs.take j) : Int) z = (le (xs.take (j + 1)) : Int)) := Lib.hid (fun j hj => by
    have hb : xs[j].toNat < 256 := xs[j].toNat_lt
    have h1 := le_lt (xs.take j)
    have e1 : (xs.take j).length = j := by rw [List.length_take]; omega
    rw [e1] at h1
    have h2 := le_small (l := xs.take (j + 1)) (by rw [List.length_take]; omega)
    rw [le_take xs j hj] at h2 ⊢
    have hp : (256 : Nat) ^ j = 2 ^ (8 * j) := by rw [Nat.pow_mul]
    have w1 : ∀ a : Nat, a < 4294967296 → IntKind.u32.wrap (a : Int) = (a : Int) := fun a ha => by rw [IntKind.wrap_u32]; omega
    refine ⟨((xs[j].toNat * 256 ^ j : Nat) : Int), ?_, ?_⟩
    · rw [show (xs[j].toNat : Int) * 2 ^ (8 * j) = ((xs[j].toNat * 256 ^ j : Nat) : Int) by rw [hp]; push_cast; rfl]
      exact w1 _ (by omega)
    · rw [u32_or_nat _ _ (by omega) (by omega), Nat.or_comm, hp]
      rw [hp] at h1
      rw [nat_join (8 * j) _ _ (Nat.mul_mod_left _ _) h1]
      congr 1
      omega)
  clear hA
  go_enter Try.func37, Try.ntmps37
  go_wp2_with fail
  go_loop [3, 4, 5, 8] (fun x _ _ i => ∃ j : Nat, j ≤ n ∧ i = .int .i64 (j : Int) ∧ x = .int .u32 (le (xs.take j) : Int)) (fun _ _ _ i => n - (_root_.Go.RowKit.intOf i).toNat)
  case atStart => exact ⟨0, by omega, rfl, rfl⟩
  case round =>
    obtain ⟨j, hj, rfl, rfl⟩ := hrel
    by_cases hlt : j < n
    · have d1 : decide ((j : Int) < (n : Int)) = true := decide_eq_true (by omega)
      have i0 : (0 : Int) ≤ (j : Int) := by omega
      have i1 : (j : Int) < (n : Int) := by omega
      obtain ⟨ad, rfl, _, hc⟩ := hbyte j hlt
      have e1 : IntKind.i64.wrap (8 * (j : Int)) = ((8 * j : Nat) : Int) := by rw [wrapI _ (by omega) (by omega)]; omega
      have e2 : IntKind.i64.wrap ((j : Int) + 1) = ((j + 1 : Nat) : Int) := by rw [wrapI _ (by omega) (by omega)]; omega
      have e3 : (0 : Int) ≤ ((8 * j : Nat) : Int) := by omega
      have e4 : ((8 * j : Nat) : Int) ≤ 32 := by omega
      have e5 : IntKind.u32.wrap (xs[j].toNat : Int) = (xs[j].toNat : Int) := by have := xs[j].toNat_lt; rw [IntKind.wrap_u32]; omega
      obtain ⟨z, z1, z2⟩ := hS.out j (by omega)
      rw [IntKind.wrap_u32] at z1
      clear hbyte
      go_wp2_with fail
      exact ⟨⟨j + 1, by omega, by congr 1, rfl⟩, by simp [_root_.Go.RowKit.intOf]; omega⟩
    · obtain rfl : j = n := by omega
      have d1 : decide ((j : Int) < (j : Int)) = false := decide_eq_false (by omega)
      have hx : xs.take j = xs := List.take_of_length_le (by omega)
      rw [hx]
      go_wp2_with fail
      go_ret
      exact ⟨rfl, rfl⟩

theorem first_any {w : World} {b g p : Nat} {l : List UInt8} (h : FRep w b g l p) (m : Nat) (hm : m ≤ 9223372036854775807) : Calls Try.prog 42 #[.int .i64 (m : Int), .func (.func 28) #[pb b] #[]] w fun e w' => e = .returned (.slice (adr g p l.length) (min m (l.length - p)) (l.length - p)) ∧ Below w.heap.size w w' := by
  have h1 := Lib.hid (left_any h)
  have hent := enters_of (P := Try.prog) Try.func28 (by kernel_rfl) rfl
  have hle := h.le
  obtain ⟨A, hA⟩ : ∃ A, A = adr g p l.length := ⟨_, rfl⟩
  have hA2 : ∀ W : World, (Instr.slice 22 (.slice A (l.length - p) (l.length - p)) none (some (.int .i64 ((min m (l.length - p) : Nat) : Int))) none).run Try.prog W = .ok (.slice A (min m (l.length - p)) (l.length - p)) W := fun W => by
    have hsz : (sizeOf (Program.elem Try.prog 22)).run Try.prog W = .ok 1 W := by kernel_rfl
    rw [run_slice_h W 22 A (l.length - p) (l.length - p) Try.underlying22 .i64 _ (by omega) (by omega), hsz]
    simp only [Result.andThen, sliced, Int.toNat_natCast, Nat.zero_mul, Nat.sub_zero]
    congr 2
    rw [hA]
    unfold adr
    by_cases hk : l.length = p
    · rw [if_pos hk, if_pos (by omega)]
    · rw [if_neg hk, if_neg (by omega)]
      exact congrArg some (add_plain g p 0)
  rw [← hA] at h1 ⊢
  obtain ⟨q, hq⟩ : ∃ q, q = l.length - p := ⟨_, rfl⟩
  obtain ⟨k, hk⟩ : ∃ k, k = min m (l.length - p) := ⟨_, rfl⟩
  rw [← hq] at h1 hk
  rw [← hq, ← hk] at hA2 ⊢
  have hmin : min (m : Int) (q : Int) = (k : Int) := by omega
  clear hA h hq hk
  go_enter Try.func42, Try.ntmps42
  go_wp2_with fail
  refine h1.out.mono ?_
  rintro e w1 ⟨rfl, hb⟩
  go_wp2_with fail
  go_ret
  exact ⟨rfl, hb⟩

set_option maxHeartbeats 1000000 in
theorem taken_int {w : World} {b g p : Nat} {l : List UInt8} (h : FRep w b g l p) (m : Nat) (hm : m ≤ 9223372036854775807) (cf : Nat) (caps : Array Value) (hent : ∀ args V, (callFunc cf args).run Try.prog V = .ok (.enter cf args) V) (Q : Value → World → Prop)
    (HC : ∀ V, FRep V b g l (p + min m (l.length - p)) → Keep (· = b) w V → Calls Try.prog cf (#[.slice (adr g p l.length) (min m (l.length - p)) (l.length - p)] ++ caps) V fun e V' => ∃ x, e = .returned (.int .i64 x) ∧ Q (.int .i64 x) V') :
    Calls Try.prog 44 #[pb b, .int .i64 (m : Int), .func (.func cf) #[] caps] w fun e w' => ∃ v, e = .returned v ∧ Q v w' := by
  have h1 := Lib.hid (first_any h m hm)
  have hle := h.le
  have hmo := h.most
  have hbl := h.obj.lt
  obtain ⟨k, hk⟩ : ∃ k, k = min m (l.length - p) := ⟨_, rfl⟩
  rw [← hk] at h1 HC
  have HS := Lib.hid (fun w1 (hb : Below w.heap.size w w1) => (show FRep (w1.setCell ⟨b, 1, none⟩ (.int .i64 ((p + k : Nat) : Int))) b g l (p + k) ∧ Keep (· = b) w (w1.setCell ⟨b, 1, none⟩ (.int .i64 ((p + k : Nat) : Int))) from
    ⟨(h.below hb).at_ (by omega), (Keep.of_below hb).set _ (.inl rfl)⟩))
  have hcf := Lib.hid (fun w1 (hb : Below w.heap.size w w1) => (show w1.cell? ⟨b, 1, none⟩ = some (.int .i64 (p : Int)) ∧ w1.frozen? ⟨b, 1, none⟩ = false from ⟨(h.below hb).c1, (h.below hb).obj.frozen 1⟩))
  have e1 : IntKind.i64.wrap ((p : Int) + (k : Int)) = ((p + k : Nat) : Int) := by rw [wrapI _ (by omega) (by omega)]; omega
  obtain ⟨r, hr⟩ : ∃ r, r = p + k := ⟨_, rfl⟩
  rw [← hr] at HC HS e1
  have HCH := Lib.hid HC
  obtain ⟨A, hA⟩ : ∃ A, A = adr g p l.length := ⟨_, rfl⟩
  obtain ⟨c, hc⟩ : ∃ c, c = l.length - p := ⟨_, rfl⟩
  rw [← hA, ← hc] at h1 HCH
  clear HC hA hc hr hk h hle hmo
  go_enter Try.func44, Try.ntmps44
  go_wp2_with fail
  refine h1.out.mono ?_
  rintro e w1 ⟨rfl, hb⟩
  obtain ⟨hc1, hf1⟩ := hcf.out w1 hb
  obtain ⟨hs1, hs2⟩ := HS.out w1 hb
  have HCC := Lib.hid (HCH.out _ hs1 hs2)
  clear hcf HS hs1 hs2 HCH h1
  go_wp2_with fail
  refine HCC.out.mono ?_
  rintro e w2 ⟨x, rfl, hQ⟩
  have hfin := Lib.hid hQ
  clear HCC hQ
  go_wp2_with fail
  go_ret
  exact ⟨_, rfl, hfin.out⟩

set_option maxHeartbeats 1000000 in
theorem taken_u32 {w : World} {b g p : Nat} {l : List UInt8} (h : FRep w b g l p) (m : Nat) (hm : m ≤ 9223372036854775807) (cf : Nat) (caps : Array Value) (hent : ∀ args V, (callFunc cf args).run Try.prog V = .ok (.enter cf args) V) (Q : Value → World → Prop)
    (HC : ∀ V, FRep V b g l (p + min m (l.length - p)) → Keep (· = b) w V → Calls Try.prog cf (#[.slice (adr g p l.length) (min m (l.length - p)) (l.length - p)] ++ caps) V fun e V' => ∃ x, e = .returned (.int .u32 x) ∧ Q (.int .u32 x) V') :
    Calls Try.prog 36 #[pb b, .int .i64 (m : Int), .func (.func cf) #[] caps] w fun e w' => ∃ v, e = .returned v ∧ Q v w' := by
  have h1 := Lib.hid (first_any h m hm)
  have hle := h.le
  have hmo := h.most
  have hbl := h.obj.lt
  obtain ⟨k, hk⟩ : ∃ k, k = min m (l.length - p) := ⟨_, rfl⟩
  rw [← hk] at h1 HC
  have HS := Lib.hid (fun w1 (hb : Below w.heap.size w w1) => (show FRep (w1.setCell ⟨b, 1, none⟩ (.int .i64 ((p + k : Nat) : Int))) b g l (p + k) ∧ Keep (· = b) w (w1.setCell ⟨b, 1, none⟩ (.int .i64 ((p + k : Nat) : Int))) from
    ⟨(h.below hb).at_ (by omega), (Keep.of_below hb).set _ (.inl rfl)⟩))
  have hcf := Lib.hid (fun w1 (hb : Below w.heap.size w w1) => (show w1.cell? ⟨b, 1, none⟩ = some (.int .i64 (p : Int)) ∧ w1.frozen? ⟨b, 1, none⟩ = false from ⟨(h.below hb).c1, (h.below hb).obj.frozen 1⟩))
  have e1 : IntKind.i64.wrap ((p : Int) + (k : Int)) = ((p + k : Nat) : Int) := by rw [wrapI _ (by omega) (by omega)]; omega
  obtain ⟨r, hr⟩ : ∃ r, r = p + k := ⟨_, rfl⟩
  rw [← hr] at HC HS e1
  have HCH := Lib.hid HC
  obtain ⟨A, hA⟩ : ∃ A, A = adr g p l.length := ⟨_, rfl⟩
  obtain ⟨c, hc⟩ : ∃ c, c = l.length - p := ⟨_, rfl⟩
  rw [← hA, ← hc] at h1 HCH
  clear HC hA hc hr hk h hle hmo
  go_enter Try.func36, Try.ntmps36
  go_wp2_with fail
  refine h1.out.mono ?_
  rintro e w1 ⟨rfl, hb⟩
  obtain ⟨hc1, hf1⟩ := hcf.out w1 hb
  obtain ⟨hs1, hs2⟩ := HS.out w1 hb
  have HCC := Lib.hid (HCH.out _ hs1 hs2)
  clear hcf HS hs1 hs2 HCH h1
  go_wp2_with fail
  refine HCC.out.mono ?_
  rintro e w2 ⟨x, rfl, hQ⟩
  have hfin := Lib.hid hQ
  clear HCC hQ
  go_wp2_with fail
  go_ret
  exact ⟨_, rfl, hfin.out⟩

set_option maxHeartbeats 1000000 in
theorem taken_bytes {w : World} {b g p : Nat} {l : List UInt8} (h : FRep w b g l p) (m : Nat) (hm : m ≤ 9223372036854775807) (cf : Nat) (caps : Array Value) (hent : ∀ args V, (callFunc cf args).run Try.prog V = .ok (.enter cf args) V) (Q : Value → World → Prop)
    (HC : ∀ V, FRep V b g l (p + min m (l.length - p)) → Keep (· = b) w V → Calls Try.prog cf (#[.slice (adr g p l.length) (min m (l.length - p)) (l.length - p)] ++ caps) V fun e V' => ∃ A2 n2 c2, e = .returned (.slice A2 n2 c2) ∧ Q (.slice A2 n2 c2) V') :
    Calls Try.prog 31 #[pb b, .int .i64 (m : Int), .func (.func cf) #[] caps] w fun e w' => ∃ v, e = .returned v ∧ Q v w' := by
  have h1 := Lib.hid (first_any h m hm)
  have hle := h.le
  have hmo := h.most
  have hbl := h.obj.lt
  obtain ⟨k, hk⟩ : ∃ k, k = min m (l.length - p) := ⟨_, rfl⟩
  rw [← hk] at h1 HC
  have HS := Lib.hid (fun w1 (hb : Below w.heap.size w w1) => (show FRep (w1.setCell ⟨b, 1, none⟩ (.int .i64 ((p + k : Nat) : Int))) b g l (p + k) ∧ Keep (· = b) w (w1.setCell ⟨b, 1, none⟩ (.int .i64 ((p + k : Nat) : Int))) from
    ⟨(h.below hb).at_ (by omega), (Keep.of_below hb).set _ (.inl rfl)⟩))
  have hcf := Lib.hid (fun w1 (hb : Below w.heap.size w w1) => (show w1.cell? ⟨b, 1, none⟩ = some (.int .i64 (p : Int)) ∧ w1.frozen? ⟨b, 1, none⟩ = false from ⟨(h.below hb).c1, (h.below hb).obj.frozen 1⟩))
  have e1 : IntKind.i64.wrap ((p : Int) + (k : Int)) = ((p + k : Nat) : Int) := by rw [wrapI _ (by omega) (by omega)]; omega
  obtain ⟨r, hr⟩ : ∃ r, r = p + k := ⟨_, rfl⟩
  rw [← hr] at HC HS e1
  have HCH := Lib.hid HC
  obtain ⟨A, hA⟩ : ∃ A, A = adr g p l.length := ⟨_, rfl⟩
  obtain ⟨c, hc⟩ : ∃ c, c = l.length - p := ⟨_, rfl⟩
  rw [← hA, ← hc] at h1 HCH
  clear HC hA hc hr hk h hle hmo
  go_enter Try.func31, Try.ntmps31
  go_wp2_with fail
  refine h1.out.mono ?_
  rintro e w1 ⟨rfl, hb⟩
  obtain ⟨hc1, hf1⟩ := hcf.out w1 hb
  obtain ⟨hs1, hs2⟩ := HS.out w1 hb
  have HCC := Lib.hid (HCH.out _ hs1 hs2)
  clear hcf HS hs1 hs2 HCH h1
  go_wp2_with fail
  refine HCC.out.mono ?_
  rintro e w2 ⟨A2, n2, c2, rfl, hQ⟩
  have hfin := Lib.hid hQ
  clear HCC hQ
  go_wp2_with fail
  go_ret
  exact ⟨_, rfl, hfin.out⟩
end Go.Proofs.Ytglfcfepgjldfaa.Fe
