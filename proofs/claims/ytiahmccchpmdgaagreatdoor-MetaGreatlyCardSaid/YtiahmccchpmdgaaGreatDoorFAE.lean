import Derived.Test.YtiahmccchpmdgaaGreatDoorFAD
import Derived.Test.YtiahmccchpmdgaaGreatDoorFAC
namespace Go.Proofs.YtiahmccchpmdgaaGreatDoor.Me
open Go.RowKit Go.Shelf
attribute [local go_sem] Oper.semAt_some

/- THE DOCUMENT's ANSWER TO 'WHOSE ADDRESS IS IT?': SPOT BY SPOT. -/
theorem three_set {w w1 : World} {g : Nat} {t : TypeId} {x y z : Value} (hrow : Row w1 g t [x, y, z]) (hb : Below w.heap.size w w1) (hg : w.heap.size ≤ g) (a b c : Value) :
    (((w1.setCell ⟨g, 0, none⟩ a).setCell ⟨g, 1, none⟩ b).setCell ⟨g, 2, none⟩ c).cell? ⟨g, 0, none⟩ = some a ∧ (((w1.setCell ⟨g, 0, none⟩ a).setCell ⟨g, 1, none⟩ b).setCell ⟨g, 2, none⟩ c).cell? ⟨g, 1, none⟩ = some b ∧ (((w1.setCell ⟨g, 0, none⟩ a).setCell ⟨g, 1, none⟩ b).setCell ⟨g, 2, none⟩ c).cell? ⟨g, 2, none⟩ = some c ∧ Below w.heap.size w (((w1.setCell ⟨g, 0, none⟩ a).setCell ⟨g, 1, none⟩ b).setCell ⟨g, 2, none⟩ c) := by
  have h := ((hrow.set 0 a).set 1 b).set 2 c
  exact ⟨h.cell 0, h.cell 1, h.cell 2, ((hb.setCell hg _).setCell hg _).setCell hg _⟩
/-- nothing ahead of a spot has that address -/
def NoS (A a k j : Nat) : Prop := ∀ s c i, okS s c i → (s < a ∨ (s = a ∧ (c < k ∨ (c = k ∧ i < j)))) → atS s c i ≠ A
theorem NoS.one {A a k j : Nat} (h : NoS A a k j) (hn : atS a k j ≠ A) : NoS A a k (j + 1) := by
  intro s c i hs hl
  by_cases he : s = a ∧ c = k ∧ i = j
  · obtain ⟨rfl, rfl, rfl⟩ := he
    exact hn
  · exact h s c i hs (by omega)
theorem NoS.cls {A a k : Nat} (h : NoS A a k (cnt k)) : NoS A a (k + 1) 0 := by
  intro s c i hs hl
  have := hs.2.2
  rcases hl with hl | ⟨rfl, hl | ⟨_, hl⟩⟩
  · exact h s c i hs (.inl hl)
  · rcases Nat.lt_or_ge c k with hk | hk
    · exact h s c i hs (.inr ⟨rfl, .inl hk⟩)
    · obtain rfl : c = k := by omega
      exact h s c i hs (.inr ⟨rfl, .inr ⟨rfl, this⟩⟩)
  · omega
theorem NoS.slot {A a : Nat} (h : NoS A a 8 0) : NoS A (a + 1) 0 0 := by
  intro s c i hs hl
  have := hs.2.1
  exact h s c i hs (by omega)
theorem NoS.all {A : Nat} (h : NoS A 4 0 0) : findS A = none := findS_none fun s c i hs => h s c i hs (.inl hs.1)
def fndV (o : Option (Nat × Nat × Nat)) : Value := match o with
  | some (s, c, i) => .tuple #[spV (s : Int) (c : Int) (i : Int), .int .i64 0]
  | none => .tuple #[spV 0 0 0, .int .i64 250]
set_option maxHeartbeats 2000000 in
theorem rfind_any (A : Nat) (hA : A < 4294967296) (w : World) : Calls Tryz.prog 17 #[.int .u32 (A : Int)] w fun e w' => e = .returned (fndV (findS A)) ∧ Below w.heap.size w w' := by
  have hrow0 := Row.new w 37 [.int .i64 0, .int .i64 0, .int .i64 0]
  have hb0 := below1 w (.cells #[.int .i64 0, .int .i64 0, .int .i64 0] 37)
  have HB0 : Hid (∀ W, Below (w.heap.size + 1) (w.alloc (.cells #[.int .i64 0, .int .i64 0, .int .i64 0] 37)) W → Row W w.heap.size 37 [.int .i64 0, .int .i64 0, .int .i64 0] ∧ Below w.heap.size w W) := Lib.hid (fun W hW => ⟨hrow0.same (hW.block _ (by omega)), hb0.trans (hW.mono (by omega))⟩)
  have HAT := Lib.hid (fun s c i (h : okS s c i) V => rat_any s c i h V)
  have HCT := Lib.hid (fun k (hk : k < 8) V => refcount_yes k V hk)
  obtain ⟨w1, hw1⟩ : ∃ w1, w1 = w.alloc (.cells #[.int .i64 0, .int .i64 0, .int .i64 0] 37) := ⟨_, rfl⟩
  rw [← hw1] at HB0
  have hs1 : w1.heap.size = w.heap.size + 1 := by rw [hw1]; simp
  clear hrow0 hb0
  go_enter Tryz.func17, Tryz.ntmps17
  go_wp2_with fail
  rw [← hw1]
  clear hw1
  go_loopw [4] (fun s wr => ∃ a : Nat, a ≤ 4 ∧ s = .int .i64 (a : Int) ∧ Hid (NoS A a 0 0) ∧ Hid (Below (w.heap.size + 1) w1 wr)) (fun s _ => 4 - (_root_.Go.RowKit.intOf s).toNat)
  case atStart => exact ⟨0, by omega, rfl, Lib.hid (fun s c i _ h => by omega), Lib.hid (Below.refl _ _)⟩
  case round =>
    obtain ⟨a, ha, rfl, HN, HB⟩ := hrel
    by_cases ha4 : a < 4
    · have d0 : decide ((a : Int) < 4) = true := decide_eq_true (by omega)
      have dn0 : a < 4 := ha4
      clear ha ha4
      go_wp2_with fail
      go_loopw [5] (fun s wr => ∃ k : Nat, k ≤ 8 ∧ s = .int .i64 (k : Int) ∧ Hid (NoS A a k 0) ∧ Hid (Below (w.heap.size + 1) w1 wr)) (fun s _ => 8 - (_root_.Go.RowKit.intOf s).toNat)
      case atStart => exact ⟨0, by omega, rfl, HN, HB⟩
      case round =>
        clear HN HB
        obtain ⟨k, hk, rfl, HN, HB⟩ := hrel
        by_cases hk8 : k < 8
        · have d0 : decide ((k : Int) < 8) = true := decide_eq_true (by omega)
          have dn1 : k < 8 := hk8
          have hcc := cnt_le hk8
          have HC := HCT.out k hk8
          have e0 : 4096 / (pay k + 32) = cnt k := rfl
          rw [e0] at HC
          have HAK := Lib.hid (fun i (hi : i < cnt k) V => HAT.out a k i ⟨dn0, dn1, hi⟩ V)
          obtain ⟨C, hC⟩ : ∃ C, C = cnt k := ⟨_, rfl⟩
          rw [← hC] at HC hcc HAK
          have HCC := Lib.hid HC
          have HCE := Lib.hid hC
          clear HC e0 hC hk hk8
          go_wp2_with fail
          go_loopw [6] (fun s wr => ∃ j : Nat, j ≤ C ∧ s = .int .i64 (j : Int) ∧ Hid (NoS A a k j) ∧ Hid (Below (w.heap.size + 1) w1 wr)) (fun s _ => C - (_root_.Go.RowKit.intOf s).toNat)
          case atStart => exact ⟨0, by omega, rfl, HN, HB⟩
          case round =>
            clear HN HB
            obtain ⟨j, hj, rfl, HN, HB⟩ := hrel
            by_cases hjc : j < C
            · have d2 : decide ((j : Int) < (C : Int)) = true := decide_eq_true (by omega)
              have dn2 : j < C := hjc
              clear hj hjc
              go_wp2_with fail
              refine (HCC.out _).mono ?_
              rintro e wa ⟨rfl, rfl⟩
              go_wp2_with fail
              refine (HAK.out j dn2 _).mono ?_
              rintro e wb ⟨rfl, hb⟩
              have hsz := HB.out.size
              have HB2 := Lib.hid (show Below (w.heap.size + 1) w1 wb from (HB.out.alloc (by omega) _).trans (hb.mono (by simp only [World.size_alloc]; omega)))
              obtain ⟨b0, b1, b2⟩ := box3 wr (.int .i64 (a : Int)) (.int .i64 (k : Int)) (.int .i64 (j : Int)) 37
              have hlt : wr.heap.size < (wr.alloc (.cells #[.int .i64 (a : Int), .int .i64 (k : Int), .int .i64 (j : Int)] 37)).heap.size := by simp
              have g0 : wb.cell? ⟨wr.heap.size, 0, none⟩ = some (.int .i64 (a : Int)) := (hb.cell (p := ⟨wr.heap.size, 0, none⟩) hlt).trans b0
              have g1 : wb.cell? ⟨wr.heap.size, 1, none⟩ = some (.int .i64 (k : Int)) := (hb.cell (p := ⟨wr.heap.size, 1, none⟩) hlt).trans b1
              have g2 : wb.cell? ⟨wr.heap.size, 2, none⟩ = some (.int .i64 (j : Int)) := (hb.cell (p := ⟨wr.heap.size, 2, none⟩) hlt).trans b2
              obtain ⟨x, hx⟩ : ∃ x, x = atS a k j := ⟨_, rfl⟩
              have HX := Lib.hid hx
              rw [← hx]
              clear b0 b1 b2 hlt hb hx hsz
              by_cases he : x = A
              · subst he
                obtain ⟨hr, hbb⟩ := HB0.out _ HB2.out
                obtain ⟨k0, k1, k2, k3⟩ := three_set hr hbb (Nat.le_refl _) (.int .i64 (a : Int)) (.int .i64 (k : Int)) (.int .i64 (j : Int))
                have hf := findS_some ⟨dn0, dn1, by rw [← HCE.out]; exact dn2⟩ HX.out.symm
                have f0 := hr.frozen 0
                have f1 := hr.frozen 1
                have f2 := hr.frozen 2
                have c0 : wb.cell? ⟨w.heap.size, 0, none⟩ = some (.int .i64 0) := hr.cell 0
                have c1 : wb.cell? ⟨w.heap.size, 1, none⟩ = some (.int .i64 0) := hr.cell 1
                have c2 : wb.cell? ⟨w.heap.size, 2, none⟩ = some (.int .i64 0) := hr.cell 2
                have HK := Lib.hid (And.intro k0 (And.intro k1 (And.intro k2 k3)))
                have HF := Lib.hid hf
                clear k0 k1 k2 k3 hr hbb hf HX
                go_wp2_with fail
                obtain ⟨k0, k1, k2, k3⟩ := HK.out
                exact bodyPost_ret (v := .tuple #[spV (a : Int) (k : Int) (j : Int), .int .i64 0]) (by simp [results, Tryz.results17, go_sem, k0, k1, k2]) rfl ⟨by rw [HF.out]; rfl, k3⟩
              · have d3 : ((x : Int) == (A : Int)) = false := beq_eq_false_iff_ne.2 (by omega)
                have d3n : ¬ x = A := he
                have HN2 := Lib.hid (HN.out.one (by rw [← HX.out]; exact he))
                have e1 : IntKind.i64.wrap ((j : Int) + 1) = ((j + 1 : Nat) : Int) := (wrapI _ (by omega) (by omega)).trans (by omega)
                clear g0 g1 g2 he HX
                go_wp2_with fail
                go_roundw
                case rel => exact ⟨j + 1, by omega, by first | rfl | go_num, HN2, HB2⟩
                case measure => simp [_root_.Go.RowKit.intOf]; omega
            · obtain rfl : j = C := by omega
              have d2 : decide ((j : Int) < (j : Int)) = false := decide_eq_false (by omega)
              have hn2 := HN.out
              rw [HCE.out] at hn2
              have HN2 := Lib.hid hn2.cls
              have e1 : IntKind.i64.wrap ((k : Int) + 1) = ((k + 1 : Nat) : Int) := (wrapI _ (by omega) (by omega)).trans (by omega)
              clear hn2
              go_wp2_with fail
              refine (HCC.out _).mono ?_
              rintro e wa ⟨rfl, rfl⟩
              go_wp2_with fail
              go_roundw
              case rel => exact ⟨k + 1, by omega, by first | rfl | go_num, HN2, HB⟩
              case measure => simp [_root_.Go.RowKit.intOf]; omega
        · obtain rfl : k = 8 := by omega
          have HN2 := Lib.hid HN.out.slot
          have e1 : IntKind.i64.wrap ((a : Int) + 1) = ((a + 1 : Nat) : Int) := (wrapI _ (by omega) (by omega)).trans (by omega)
          go_wp2_with fail
          go_roundw
          case rel => exact ⟨a + 1, by omega, by first | rfl | go_num, HN2, HB⟩
          case measure => simp [_root_.Go.RowKit.intOf]; omega
    · obtain rfl : a = 4 := by omega
      obtain ⟨hr, hb⟩ := HB0.out _ HB.out
      obtain ⟨k0, k1, k2, k3⟩ := three_set hr hb (Nat.le_refl _) (.int .i64 0) (.int .i64 0) (.int .i64 0)
      have hn := HN.out.all
      have f0 := hr.frozen 0
      have f1 := hr.frozen 1
      have f2 := hr.frozen 2
      have c0 : wr.cell? ⟨w.heap.size, 0, none⟩ = some (.int .i64 0) := hr.cell 0
      have c1 : wr.cell? ⟨w.heap.size, 1, none⟩ = some (.int .i64 0) := hr.cell 1
      have c2 : wr.cell? ⟨w.heap.size, 2, none⟩ = some (.int .i64 0) := hr.cell 2
      have HK := Lib.hid (And.intro k0 (And.intro k1 (And.intro k2 k3)))
      have HF := Lib.hid hn
      clear k0 k1 k2 k3 hr hb hn
      go_wp2_with fail
      obtain ⟨k0, k1, k2, k3⟩ := HK.out
      exact bodyPost_ret (v := .tuple #[spV 0 0 0, .int .i64 250]) (by simp [results, Tryz.results17, go_sem, k0, k1, k2]) rfl ⟨by rw [HF.out]; rfl, k3⟩
end Go.Proofs.YtiahmccchpmdgaaGreatDoor.Me

namespace Go.Proofs.YtiahmccchpmdgaaGreatDoor.Me
open Go.RowKit Go.Shelf
attribute [local go_sem] Oper.semAt_some

/- BOOKS' BYTES, PLAINLY: RECORDS AND GREAT ONES IN THEM; WHAT THE LAWS ASK OF THE CODE's BOOKS. -/
abbrev Byts := Nat → UInt8
/-- the tenants' books: their bytes, where they are open -/
abbrev Bks := Nat → Option Byts
def zeroB : Byts := fun _ => 0
def upd (B : Bks) (s : Nat) (x : Option Byts) : Bks := fun k => if k = s then x else B k
def le2 (f : Byts) (o : Nat) : Nat := (f o).toNat + 256 * (f (o + 1)).toNat
def le4 (f : Byts) (o : Nat) : Nat := le2 f o + 65536 * le2 f (o + 2)
/-- so many bytes put from a place on -/
def putB (f : Byts) (o : Nat) (bs : List UInt8) : Byts := fun k => if o ≤ k ∧ k < o + bs.length then bs.getD (k - o) 0 else f k
/-- the record that stands at a place: state, size, nonce -/
def recAt (f : Byts) (o : Nat) : Option (Nat × Nat × Nat) := if (f o).toNat ≤ 4 ∧ f (o + 1) = 0 then some ((f o).toNat, le2 f (o + 2), le4 f (o + 4)) else none
/-- the great one: state, pages, size, first -/
def greatAt (f : Byts) (o : Nat) : Option (Nat × Nat × Nat × Nat) := if (f o).toNat ≤ 4 ∧ f (o + 1) = 0 ∧ le4 f (o + 4) ≤ 262144 ∧ le4 f (o + 8) ≤ 65535 ∧ le4 f (o + 12) = 0 then some ((f o).toNat, le2 f (o + 2), le4 f (o + 4), le4 f (o + 8)) else none
def by2 (n : Nat) : List UInt8 := [UInt8.ofNat n, UInt8.ofNat (n / 256)]
def by4 (n : Nat) : List UInt8 := by2 n ++ by2 (n / 65536)
def recB (st sz no : Nat) : List UInt8 := [UInt8.ofNat st, 0] ++ by2 sz ++ by4 no
def greatB (st pg sz fi : Nat) : List UInt8 := [UInt8.ofNat st, 0] ++ by2 pg ++ by4 sz ++ by4 fi ++ by4 0
def recO (c i : Nat) : Nat := 768 * c + 8 * i
def greatO (i : Nat) : Nat := 6144 + 16 * i
abbrev rcV (st sz : Int) (no : Nat) : Value := .agg #[.int .i64 st, .int .i64 sz, .int .u32 (no : Int)]
abbrev gtV (st pg sz fi : Int) : Value := .agg #[.int .i64 st, .int .i64 pg, .int .i64 sz, .int .i64 fi]
def rightR (st sz : Int) : Prop := 0 ≤ st ∧ st ≤ 4 ∧ 0 ≤ sz ∧ sz ≤ 65535
def rightG (st pg sz fi : Int) : Prop := 0 ≤ st ∧ st ≤ 4 ∧ 0 ≤ sz ∧ sz ≤ 262144 ∧ 0 ≤ pg ∧ pg ≤ 65535 ∧ 0 ≤ fi ∧ fi ≤ 65535
instance (st sz : Int) : Decidable (rightR st sz) := inferInstanceAs (Decidable (_ ∧ _))
instance (st pg sz fi : Int) : Decidable (rightG st pg sz fi) := inferInstanceAs (Decidable (_ ∧ _))
/-- is the tenant's book open? (as a number may be no tenant's) -/
def openE (B : Bks) (s : Int) : Int := if (B s.toNat).isNone then 5 else 0
def getE (B : Bks) (s c i : Int) : Int := if asksS s c i ≠ 0 then asksS s c i else openE B s
def putE (B : Bks) (s c i st sz : Int) : Int := if asksS s c i = 2 ∨ ¬ rightR st sz then 2 else getE B s c i
def gasks (s i : Int) : Int := if isB s 4 = true then (if i < 0 ∨ 384 ≤ i then 4 else 0) else 2
def ggetE (B : Bks) (s i : Int) : Int := if gasks s i ≠ 0 then gasks s i else openE B s
def gputE (B : Bks) (s i st pg sz fi : Int) : Int := if gasks s i = 2 ∨ ¬ rightG st pg sz fi then 2 else ggetE B s i
def openA (B : Bks) (n : Nat) (s : Int) : Int := if isB s 4 = false then 2 else if (B s.toNat).isSome then 180 else if n < 48 then 171 else 0
def closeA (B : Bks) (s : Int) : Int := if isB s 4 = false then 2 else openE B s
abbrev HasT := World → Value → Bks → Nat → (Nat → Prop) → Prop
def Nx (Has : HasT) (w : World) (v : Value) (B : Bks) (n : Nat) (F : Nat → Prop) (w' : World) : Prop := ∃ F', Has w' v B n F' ∧ Keep F w w' ∧ ∀ k, F' k → F k ∨ w.heap.size ≤ k
structure MBase (T : World → Prop) (Has : HasT) : Prop where
  tb : ∀ {w w'}, T w → Below w.heap.size w w' → T w'
  keep : ∀ {w w' v B n F}, Has w v B n F → (∀ k, F k → w'.heap[k]? = w.heap[k]?) → Has w' v B n F
  lt : ∀ {w v B n F}, Has w v B n F → ∀ k, F k → k < w.heap.size
  ptr : ∀ {w v B n F}, Has w v B n F → ∃ ad, v = .pointer (some ad)
  atYes : ∀ {s c i : Nat} (w : World), T w → okS s c i → Calls Tryz.prog 12 #[spV (s : Int) (c : Int) (i : Int)] w fun e w' => e = .returned (.tuple #[.int .u32 (atS s c i : Int), .int .i64 0]) ∧ Below w.heap.size w w'
  atNo : ∀ {s c i : Int} (w : World), T w → asksS s c i ≠ 0 → Calls Tryz.prog 12 #[spV s c i] w fun e w' => e = .returned (.tuple #[.int .u32 0, .int .i64 (asksS s c i)]) ∧ Below w.heap.size w w'
  find : ∀ (a : Nat) (w : World), T w → a < 4294967296 → Calls Tryz.prog 16 #[.int .u32 (a : Int)] w fun e w' => e = .returned (fndV (findS a)) ∧ Below w.heap.size w w'
  new1 : ∀ (w : World), T w → Calls Tryz.prog 27 #[.int .i64 1] w fun e w' => ∃ v F, e = .returned (.tuple #[v, .int .i64 0]) ∧ Has w' v (fun _ => none) 0 F ∧ (∀ k, F k → w.heap.size ≤ k) ∧ Below w.heap.size w w'
  mem : ∀ (w : World), T w → Calls Tryz.prog 9 #[] w fun e w' => ∃ v F, e = .returned (.tuple #[v, .bool true]) ∧ Has w' v (fun _ => none) 100 F ∧ (∀ k, F k → w.heap.size ≤ k) ∧ Below w.heap.size w w'
  openYes : ∀ {w v B n F} (s : Nat), T w → Has w v B n F → openA B n (s : Int) = 0 → Calls Tryz.prog 18 #[v, .int .i64 (s : Int), .int .i64 63] w fun e w' => e = .returned (.int .i64 0) ∧ Nx Has w v (upd B s (some zeroB)) (n - 48) F w'
  openNo : ∀ {w v B n F} (s : Int), T w → Has w v B n F → openA B n s ≠ 0 → Calls Tryz.prog 18 #[v, .int .i64 s, .int .i64 63] w fun e w' => e = .returned (.int .i64 (openA B n s)) ∧ Nx Has w v B n F w'
  closeYes : ∀ {w v B n F} (s : Nat), T w → Has w v B n F → closeA B (s : Int) = 0 → Calls Tryz.prog 30 #[v, .int .i64 (s : Int)] w fun e w' => e = .returned (.int .i64 0) ∧ Nx Has w v (upd B s none) (n + 48) F w'
  closeNo : ∀ {w v B n F} (s : Int), T w → Has w v B n F → closeA B s ≠ 0 → Calls Tryz.prog 30 #[v, .int .i64 s] w fun e w' => e = .returned (.int .i64 (closeA B s)) ∧ Nx Has w v B n F w'
  getYes : ∀ {w v B n F f st sz no} (s c i : Nat), T w → Has w v B n F → okS s c i → B s = some f → recAt f (recO c i) = some (st, sz, no) → Calls Tryz.prog 21 #[v, spV (s : Int) (c : Int) (i : Int)] w fun e w' => e = .returned (.tuple #[rcV (st : Int) (sz : Int) no, .int .i64 0]) ∧ Nx Has w v B n F w'
  getBad : ∀ {w v B n F f} (s c i : Nat), T w → Has w v B n F → okS s c i → B s = some f → recAt f (recO c i) = none → Calls Tryz.prog 21 #[v, spV (s : Int) (c : Int) (i : Int)] w fun e w' => e = .returned (.tuple #[rcV 0 0 0, .int .i64 251]) ∧ Nx Has w v B n F w'
  getNo : ∀ {w v B n F} (s c i : Int), T w → Has w v B n F → getE B s c i ≠ 0 → Calls Tryz.prog 21 #[v, spV s c i] w fun e w' => e = .returned (.tuple #[rcV 0 0 0, .int .i64 (getE B s c i)]) ∧ Nx Has w v B n F w'
  putYes : ∀ {w v B n F f} (s c i st sz no : Nat), T w → Has w v B n F → okS s c i → st ≤ 4 → sz ≤ 65535 → no < 4294967296 → B s = some f → Calls Tryz.prog 23 #[v, spV (s : Int) (c : Int) (i : Int), rcV (st : Int) (sz : Int) no] w fun e w' => e = .returned (.int .i64 0) ∧ Nx Has w v (upd B s (some (putB f (recO c i) (recB st sz no)))) n F w'
  putNo : ∀ {w v B n F} (s c i st sz : Int) (no : Nat), T w → Has w v B n F → no < 4294967296 → putE B s c i st sz ≠ 0 → Calls Tryz.prog 23 #[v, spV s c i, rcV st sz no] w fun e w' => e = .returned (.int .i64 (putE B s c i st sz)) ∧ Nx Has w v B n F w'
  ggetYes : ∀ {w v B n F f st pg sz fi} (s i : Nat), T w → Has w v B n F → s < 4 → i < 384 → B s = some f → greatAt f (greatO i) = some (st, pg, sz, fi) → Calls Tryz.prog 22 #[v, .int .i64 (s : Int), .int .i64 (i : Int)] w fun e w' => e = .returned (.tuple #[gtV (st : Int) (pg : Int) (sz : Int) (fi : Int), .int .i64 0]) ∧ Nx Has w v B n F w'
  ggetBad : ∀ {w v B n F f} (s i : Nat), T w → Has w v B n F → s < 4 → i < 384 → B s = some f → greatAt f (greatO i) = none → Calls Tryz.prog 22 #[v, .int .i64 (s : Int), .int .i64 (i : Int)] w fun e w' => e = .returned (.tuple #[gtV 0 0 0 0, .int .i64 251]) ∧ Nx Has w v B n F w'
  ggetNo : ∀ {w v B n F} (s i : Int), T w → Has w v B n F → ggetE B s i ≠ 0 → Calls Tryz.prog 22 #[v, .int .i64 s, .int .i64 i] w fun e w' => e = .returned (.tuple #[gtV 0 0 0 0, .int .i64 (ggetE B s i)]) ∧ Nx Has w v B n F w'
  gputYes : ∀ {w v B n F f} (s i st pg sz fi : Nat), T w → Has w v B n F → s < 4 → i < 384 → rightG (st : Int) (pg : Int) (sz : Int) (fi : Int) → B s = some f → Calls Tryz.prog 24 #[v, .int .i64 (s : Int), .int .i64 (i : Int), gtV (st : Int) (pg : Int) (sz : Int) (fi : Int)] w fun e w' => e = .returned (.int .i64 0) ∧ Nx Has w v (upd B s (some (putB f (greatO i) (greatB st pg sz fi)))) n F w'
  gputNo : ∀ {w v B n F} (s i st pg sz fi : Int), T w → Has w v B n F → gputE B s i st pg sz fi ≠ 0 → Calls Tryz.prog 24 #[v, .int .i64 s, .int .i64 i, gtV st pg sz fi] w fun e w' => e = .returned (.int .i64 (gputE B s i st pg sz fi)) ∧ Nx Has w v B n F w'
  poke : ∀ {w v B n F f} (s o : Nat) (bs : List UInt8) (A : Option Addr) (ca : Nat), T w → Has w v B n F → s < 4 → B s = some f → o + bs.length ≤ 12288 → 1 ≤ bs.length → bs.length ≤ ca → bs.length ≤ 16 → Sees w w.heap.size A (byt bs) → (∀ ad, A = some ad → ¬ F ad.block) → Calls Tryz.prog 20 #[v, .int .u32 ((256 * (64 * s + 1) + o : Nat) : Int), .slice A bs.length ca] w fun e w' => e = .returned (.int .i64 0) ∧ Nx Has w v (upd B s (some (putB f o bs))) n F w'
  load : ∀ {w v B n F f} (s o owner : Nat), T w → Has w v B n F → s < 4 → owner < 4 → B s = some f → o < 48 → Calls Tryz.prog 25 #[v, .int .i64 (owner : Int), .int .u32 ((256 * (64 * s + 1 + o) : Nat) : Int), .int .i64 1] w fun e w' => ∃ x, e = .returned (.tuple #[x, .int .i64 190]) ∧ Nx Has w v B n F w'
  store : ∀ {w v B n F f} (s o owner : Nat) (A : Option Addr) (ca : Nat), T w → Has w v B n F → s < 4 → owner < 4 → B s = some f → o < 48 → Sees w w.heap.size A (byt [1]) → Calls Tryz.prog 26 #[v, .int .i64 (owner : Int), .int .u32 ((256 * (64 * s + 1 + o) : Nat) : Int), .slice A 1 ca] w fun e w' => e = .returned (.int .i64 190) ∧ Nx Has w v B n F w'
  nGet : ∀ w, T w → Calls Tryz.prog 21 #[.pointer none, spV 0 0 0] w fun e w' => e = .returned (.tuple #[rcV 0 0 0, .int .i64 1]) ∧ Below w.heap.size w w'
  nGget : ∀ w, T w → Calls Tryz.prog 22 #[.pointer none, .int .i64 0, .int .i64 0] w fun e w' => e = .returned (.tuple #[gtV 0 0 0 0, .int .i64 1]) ∧ Below w.heap.size w w'
  nOpen : ∀ w, T w → Calls Tryz.prog 18 #[.pointer none, .int .i64 0, .int .i64 0] w fun e w' => e = .returned (.int .i64 1) ∧ Below w.heap.size w w'
  nClose : ∀ w, T w → Calls Tryz.prog 30 #[.pointer none, .int .i64 0] w fun e w' => e = .returned (.int .i64 1) ∧ Below w.heap.size w w'
  nPut : ∀ w, T w → Calls Tryz.prog 23 #[.pointer none, spV 0 0 0, rcV 0 0 0] w fun e w' => e = .returned (.int .i64 1) ∧ Below w.heap.size w w'
  nGput : ∀ w, T w → Calls Tryz.prog 24 #[.pointer none, .int .i64 0, .int .i64 0, gtV 0 0 0 0] w fun e w' => e = .returned (.int .i64 1) ∧ Below w.heap.size w w'
theorem ok000 : okS 0 0 0 := ⟨by omega, by omega, by have := (cnt_le (c := 0) (by omega)).1; omega⟩
theorem ok001 : okS 0 0 1 := ⟨by omega, by omega, by have := cnt_cases (c := 0) (by omega); omega⟩
theorem asks_85 : asksS 0 0 85 = 4 := by rw [asksS, if_pos ⟨by decide, by decide⟩, if_pos]; right; rcases cnt_cases (c := 0) (by omega) with h | h | h | h | h | h | h | h <;> rw [show ((0 : Int).toNat) = 0 from rfl, h.2] <;> decide
theorem at_000 : atS 0 0 0 = 1048848 := rfl
theorem at_001 : atS 0 0 1 = 1048896 := rfl
set_option maxHeartbeats 2000000 in
theorem works_any {T : World → Prop} {Has : HasT} (H : MBase T Has) (w : World) (ht : T w) : Calls Tryz.prog 8 #[] w fun e w' => e = .returned (.bool true) ∧ Below w.heap.size w w' := by
  have HT := Lib.hid (fun W (hb : Below w.heap.size w W) => H.tb ht hb)
  have h1 := Lib.hid (fun W (hb : Below w.heap.size w W) => H.atYes W (HT.out W hb) ok000)
  have h2 := Lib.hid (fun W (hb : Below w.heap.size w W) => H.atYes W (HT.out W hb) ok001)
  have h3 := Lib.hid (fun W (hb : Below w.heap.size w W) => H.find 1048848 W (HT.out W hb) (by omega))
  have h4 := Lib.hid (fun W (hb : Below w.heap.size w W) => H.find 1048849 W (HT.out W hb) (by omega))
  have h5 := Lib.hid (fun W (hb : Below w.heap.size w W) => H.atNo (s := 0) (c := 0) (i := 85) W (HT.out W hb) (by rw [asks_85]; decide))
  have h6 := Lib.hid (fun W (hb : Below w.heap.size w W) => H.atNo (s := 4) (c := 0) (i := 0) W (HT.out W hb) (by decide))
  have h7 := Lib.hid (fun W (hb : Below w.heap.size w W) => H.new1 W (HT.out W hb))
  rw [asks_85] at h5
  rw [show asksS 4 0 0 = 2 by decide] at h6
  rw [at_000] at h1
  rw [at_001] at h2
  rw [find_first] at h3
  rw [find_odd] at h4
  simp only [fndV] at h3 h4
  have hb := Below.refl w.heap.size w
  clear ht
  go_enter Tryz.func8, Tryz.ntmps8
  go_wp2_with fail
  refine (h1.out _ hb).mono ?_
  rintro e w1 ⟨rfl, hb'⟩
  have hb := hb.trans (hb'.mono hb.size)
  clear hb'
  go_wp2_with fail
  refine (h2.out _ hb).mono ?_
  rintro e w2 ⟨rfl, hb'⟩
  have hb := hb.trans (hb'.mono hb.size)
  clear hb'
  go_wp2_with fail
  refine (h3.out _ hb).mono ?_
  rintro e w3 ⟨rfl, hb'⟩
  have hb := hb.trans (hb'.mono hb.size)
  clear hb'
  have hr3 := Row.new w3 37 [.int .i64 0, .int .i64 0, .int .i64 0]
  have hb := hb.alloc hb.size (.cells #[.int .i64 0, .int .i64 0, .int .i64 0] 37)
  go_wp2_with fail
  refine (h4.out _ hb).mono ?_
  rintro e w4 ⟨rfl, hb'⟩
  have hr4 := hr3.below hb'
  have hb := hb.trans (hb'.mono hb.size)
  clear hb' hr3
  have hr5 := hr4.below (below1 w4 (.cells #[.int .i64 0, .int .i64 0, .int .i64 0] 37))
  have hb := hb.alloc hb.size (.cells #[.int .i64 0, .int .i64 0, .int .i64 0] 37)
  clear hr4
  go_wp2_with fail
  refine (h5.out _ hb).mono ?_
  rintro e w5 ⟨rfl, hb'⟩
  have hr6 := hr5.below hb'
  have hb := hb.trans (hb'.mono hb.size)
  clear hb' hr5
  go_wp2_with fail
  refine (h6.out _ hb).mono ?_
  rintro e w6 ⟨rfl, hb'⟩
  have hr7 := hr6.below hb'
  have hb := hb.trans (hb'.mono hb.size)
  clear hb' hr6
  go_wp2_with fail
  refine (h7.out _ hb).mono ?_
  rintro e w7 ⟨v, F, rfl, hHas, hF, hb'⟩
  have hr8 := hr7.below hb'
  obtain ⟨ad, rfl⟩ := H.ptr hHas
  have hlF := hr7.lt
  have hsz6 := hb.size
  have h8 := Lib.hid (H.putNo 0 0 0 0 0 0 (HT.out _ (hb.trans (hb'.mono hb.size))) hHas (by decide) (by decide))
  rw [show putE (fun _ => none) 0 0 0 0 0 = 5 by decide] at h8
  have hb := hb.trans (hb'.mono hb.size)
  clear hr7 hHas
  go_wp2_with fail
  refine h8.out.mono ?_
  rintro e w8 ⟨rfl, F', _, hk, _⟩
  have hr9 : Row w8 w3.heap.size 37 [.int .i64 0, .int .i64 0, .int .i64 0] := hr8.same (hk.block _ hr8.lt (fun hf => by have := hF _ hf; omega))
  have hb := hb.trans (hk.below (fun k hf => Nat.le_trans hsz6 (hF k hf)) hb.size)
  have c0 : w8.cell? ⟨w3.heap.size, 0, none⟩ = some (.int .i64 0) := hr9.cell 0
  have c1 : w8.cell? ⟨w3.heap.size, 1, none⟩ = some (.int .i64 0) := hr9.cell 1
  have c2 : w8.cell? ⟨w3.heap.size, 2, none⟩ = some (.int .i64 0) := hr9.cell 2
  clear hr8 hr9 hk
  go_wp2_with fail
  refine (num_any _ _).mono ?_
  rintro e wx ⟨rfl, rfl⟩
  go_wp2_with fail
  refine (num_any _ _).mono ?_
  rintro e wx ⟨rfl, rfl⟩
  go_wp2_with fail
  refine (num_any _ _).mono ?_
  rintro e wx ⟨rfl, rfl⟩
  go_wp2_with fail
  refine (num_any _ _).mono ?_
  rintro e wx ⟨rfl, rfl⟩
  go_wp2_with fail
  refine (num_any _ _).mono ?_
  rintro e wx ⟨rfl, rfl⟩
  go_wp2_with fail
  refine (num_any _ _).mono ?_
  rintro e wx ⟨rfl, rfl⟩
  go_wp2_with fail
  refine (num_any _ _).mono ?_
  rintro e wx ⟨rfl, rfl⟩
  go_wp2_with fail
  refine (num_any _ _).mono ?_
  rintro e wx ⟨rfl, rfl⟩
  go_wp2_with fail
  go_ret
  exact ⟨rfl, hb⟩
end Go.Proofs.YtiahmccchpmdgaaGreatDoor.Me

namespace Go.Proofs.YtiahmccchpmdgaaGreatDoor.Me
open Go.RowKit Go.Shelf
attribute [local go_sem] Oper.semAt_some

/- THE CODE's TABLES, AND ITS ROWS OF THINGS. -/
def Tabs (w : World) : Prop := Sz.Tab w ∧ Wo.Tab w
theorem Tabs.below {w w' : World} (h : Tabs w) (hb : Below w.heap.size w w') : Tabs w' := ⟨h.1.below hb, h.2.below hb⟩
theorem pay_eq (c : Nat) : Sz.pay c = pay c := rfl
theorem isB_cases (n : Int) (b : Nat) : isB n (b : Int) = false ∨ ∃ k : Nat, n = (k : Int) ∧ k < b ∧ isB n (b : Int) = true := by
  rcases h : isB n (b : Int) with _ | _
  · exact .inl rfl
  · obtain ⟨k, e, hk⟩ := isB_nat h
    exact .inr ⟨k, e, hk, rfl⟩
abbrev roV (f k m : Int) : Value := .agg #[.int .u32 f, .int .i64 k, .int .i64 m]
theorem has_any (f k m i : Int) (w : World) : Calls Tryz.prog 42 #[roV f k m, .int .i64 i] w fun e w' => e = .returned (.bool (isB i m)) ∧ Below w.heap.size w w' := by
  by_cases h0 : 0 ≤ i
  · have e0 : decide (0 ≤ i) = true := decide_eq_true h0
    obtain ⟨c, hc⟩ : ∃ c, decide (i < m) = c := ⟨_, rfl⟩
    rw [isB, e0, hc]
    go_enter Tryz.func42, Tryz.ntmps42
    go_wp2
    go_ret
    exact ⟨rfl, below1 _ _⟩
  · have e0 : decide (0 ≤ i) = false := decide_eq_false h0
    rw [isB, e0]
    go_enter Tryz.func42, Tryz.ntmps42
    go_wp2
    go_ret
    exact ⟨rfl, below1 _ _⟩
theorem at_any (f k m i x y z : Int) (w : World) (h1 : IntKind.i64.wrap (i * k) = x) (h2 : IntKind.u32.wrap x = y) (h3 : IntKind.u32.wrap (f + y) = z) : Calls Tryz.prog 43 #[roV f k m, .int .i64 i] w fun e w' => e = .returned (.int .u32 z) ∧ Below w.heap.size w w' := by
  go_enter Tryz.func43, Tryz.ntmps43
  go_wp2
  go_ret
  exact ⟨rfl, below1 _ _⟩
end Go.Proofs.YtiahmccchpmdgaaGreatDoor.Me

namespace Go.Proofs.YtiahmccchpmdgaaGreatDoor.Me
open Go.RowKit Go.Shelf
attribute [local go_sem] Oper.semAt_some

/- THE CODE's ROWS: PAYLOADS, RECORDS, GREAT ONES. -/
theorem row_set3 {V : World} {b : Nat} {t : TypeId} {x0 x1 x2 : Value} (y0 y1 y2 : Value) (h : Row V b t [x0, x1, x2]) : Row (((V.setCell ⟨b, 0, none⟩ y0).setCell ⟨b, 1, none⟩ y1).setCell ⟨b, 2, none⟩ y2) b t [y0, y1, y2] := (((h.set 0 y0).set 1 y1).set 2 y2)
theorem below_set3 {B : Nat} {w V : World} {b : Nat} (y0 y1 y2 : Value) (h : Below B w V) (hb : B ≤ b) : Below B w (((V.setCell ⟨b, 0, none⟩ y0).setCell ⟨b, 1, none⟩ y1).setCell ⟨b, 2, none⟩ y2) := (((h.setCell (p := ⟨b, 0, none⟩) hb _).setCell (p := ⟨b, 1, none⟩) hb _).setCell (p := ⟨b, 2, none⟩) hb _)
theorem row_set4 {V : World} {b : Nat} {t : TypeId} {x0 x1 x2 x3 : Value} (y0 y1 y2 y3 : Value) (h : Row V b t [x0, x1, x2, x3]) : Row ((((V.setCell ⟨b, 0, none⟩ y0).setCell ⟨b, 1, none⟩ y1).setCell ⟨b, 2, none⟩ y2).setCell ⟨b, 3, none⟩ y3) b t [y0, y1, y2, y3] := ((((h.set 0 y0).set 1 y1).set 2 y2).set 3 y3)
theorem below_set4 {B : Nat} {w V : World} {b : Nat} (y0 y1 y2 y3 : Value) (h : Below B w V) (hb : B ≤ b) : Below B w ((((V.setCell ⟨b, 0, none⟩ y0).setCell ⟨b, 1, none⟩ y1).setCell ⟨b, 2, none⟩ y2).setCell ⟨b, 3, none⟩ y3) := ((((h.setCell (p := ⟨b, 0, none⟩) hb _).setCell (p := ⟨b, 1, none⟩) hb _).setCell (p := ⟨b, 2, none⟩) hb _).setCell (p := ⟨b, 3, none⟩) hb _)
theorem row_set7 {V : World} {b : Nat} {t : TypeId} {x0 x1 x2 x3 x4 x5 x6 : Value} (y0 y1 y2 y3 y4 y5 y6 : Value) (h : Row V b t [x0, x1, x2, x3, x4, x5, x6]) : Row (((((((V.setCell ⟨b, 0, none⟩ y0).setCell ⟨b, 1, none⟩ y1).setCell ⟨b, 2, none⟩ y2).setCell ⟨b, 3, none⟩ y3).setCell ⟨b, 4, none⟩ y4).setCell ⟨b, 5, none⟩ y5).setCell ⟨b, 6, none⟩ y6) b t [y0, y1, y2, y3, y4, y5, y6] := (((((((h.set 0 y0).set 1 y1).set 2 y2).set 3 y3).set 4 y4).set 5 y5).set 6 y6)
theorem below_set7 {B : Nat} {w V : World} {b : Nat} (y0 y1 y2 y3 y4 y5 y6 : Value) (h : Below B w V) (hb : B ≤ b) : Below B w (((((((V.setCell ⟨b, 0, none⟩ y0).setCell ⟨b, 1, none⟩ y1).setCell ⟨b, 2, none⟩ y2).setCell ⟨b, 3, none⟩ y3).setCell ⟨b, 4, none⟩ y4).setCell ⟨b, 5, none⟩ y5).setCell ⟨b, 6, none⟩ y6) := (((((((h.setCell (p := ⟨b, 0, none⟩) hb _).setCell (p := ⟨b, 1, none⟩) hb _).setCell (p := ⟨b, 2, none⟩) hb _).setCell (p := ⟨b, 3, none⟩) hb _).setCell (p := ⟨b, 4, none⟩) hb _).setCell (p := ⟨b, 5, none⟩) hb _).setCell (p := ⟨b, 6, none⟩) hb _)
theorem region_any (s c : Int) (w : World) (h : isB s 4 = false ∨ isB c 8 = false) : Calls Tryz.prog 86 #[.int .i64 s, .int .i64 c] w fun e w' => e = .returned (.tuple #[.int .i64 0, .int .i64 2]) ∧ Below w.heap.size w w' := by
  rcases isB_cases c 8 with h8 | ⟨k, rfl, hk, h8⟩
  · exact Wn.region_noc s c w h8
  · exact Wn.region_nos s k w hk (h.resolve_right (by rw [show isB (k : Int) 8 = true from h8]; decide))
theorem payloads_no (s c : Int) (w : World) (h : isB s 4 = false ∨ isB c 8 = false) : Calls Tryz.prog 38 #[.int .i64 s, .int .i64 c] w fun e w' => e = .returned (.tuple #[roV 0 0 0, .bool false]) ∧ Below w.heap.size w w' := by
  have h1 := Lib.hid (fun W => region_any s c W h)
  clear h
  go_enter Tryz.func38, Tryz.ntmps38
  go_wp2_with fail
  refine (h1.out _).mono ?_
  rintro e w1 ⟨rfl, hb1⟩
  have r1 : Row w1 w.heap.size 99 [.int .u32 0, .int .i64 0, .int .i64 0] := (Row.new w 99 [.int .u32 0, .int .i64 0, .int .i64 0]).below hb1
  have HB := Lib.hid ((below1 w (.cells #[.int .u32 0, .int .i64 0, .int .i64 0] 99)).trans (hb1.mono (by simp)))
  have HR := Lib.hid r1
  have c0 : World.cell? w1 ⟨w.heap.size, 0, none⟩ = _ := r1.cell 0
  have c1 : World.cell? w1 ⟨w.heap.size, 1, none⟩ = _ := r1.cell 1
  have c2 : World.cell? w1 ⟨w.heap.size, 2, none⟩ = _ := r1.cell 2
  have f0 := r1.frozen 0
  have f1 := r1.frozen 1
  have f2 := r1.frozen 2
  clear r1 hb1 h1
  go_wp2
  have R8 := row_set3 (.int .u32 0) (.int .i64 0) (.int .i64 0) HR.out
  have B8 := below_set3 (b := w.heap.size) (.int .u32 0) (.int .i64 0) (.int .i64 0) HB.out (Nat.le_refl _)
  clear c0 c1 c2 f0 f1 f2
  have d0 : World.cell? _ ⟨w.heap.size, 0, none⟩ = _ := R8.cell 0
  have d1 : World.cell? _ ⟨w.heap.size, 1, none⟩ = _ := R8.cell 1
  have d2 : World.cell? _ ⟨w.heap.size, 2, none⟩ = _ := R8.cell 2
  exact bodyPost_ret (v := .tuple #[roV 0 0 0, .bool false]) (by simp [results, Tryz.results38, go_sem, d0, d1, d2]) rfl ⟨rfl, B8⟩
set_option maxHeartbeats 1000000 in
theorem payloads_yes (s c : Nat) (w : World) (hT : Tabs w) (hs : s < 4) (hc : c < 8) : Calls Tryz.prog 38 #[.int .i64 (s : Int), .int .i64 (c : Int)] w fun e w' => e = .returned (.tuple #[roV ((256 * (4096 * s + 4097 + 17 * c) + 16 : Nat) : Int) ((pay c + 32 : Nat) : Int) ((cnt c : Nat) : Int), .bool true]) ∧ Below w.heap.size w w' := by
  have h1 := Lib.hid (fun W => Wn.region_yes s c W hs hc)
  have h2 := Lib.hid (fun W => Wn.address_yes (4096 * s + 4097 + 17 * c) 16 W (by omega) (by omega))
  have h3 := Lib.hid (fun W (hb : Below w.heap.size w W) => Sz.slot_yes c W (hT.below hb).1 hc)
  have h4 := Lib.hid (fun W (hb : Below w.heap.size w W) => Sz.count_yes c W (hT.below hb).1 hc)
  simp only [pay_eq] at h3 h4
  obtain ⟨m, hm⟩ : ∃ m, m = cnt c := ⟨_, rfl⟩
  have hm' : 4096 / (pay c + 32) = m := hm.symm
  rw [hm'] at h4
  rw [← hm]
  obtain ⟨k, hk⟩ : ∃ k, k = pay c + 32 := ⟨_, rfl⟩
  rw [← hk] at h3 ⊢
  obtain ⟨f, hf⟩ : ∃ f, f = 256 * (4096 * s + 4097 + 17 * c) + 16 := ⟨_, rfl⟩
  rw [← hf] at h2 ⊢
  obtain ⟨p, hp⟩ : ∃ p, p = 4096 * s + 4097 + 17 * c := ⟨_, rfl⟩
  rw [← hp] at h1 h2
  rw [show ((16 : Nat) : Int) = 16 from rfl] at h2
  clear hm hm' hk hf hp hT hs hc
  go_enter Tryz.func38, Tryz.ntmps38
  go_wp2_with fail
  refine (h1.out _).mono ?_
  rintro e w1 ⟨rfl, hb1⟩
  have HB1 := Lib.hid ((below1 w (.cells #[.int .u32 0, .int .i64 0, .int .i64 0] 99)).trans (hb1.mono (by simp)))
  have HR1 := Lib.hid ((Row.new w 99 [.int .u32 0, .int .i64 0, .int .i64 0]).below hb1)
  clear hb1 h1
  go_wp2_with fail
  refine (h2.out _).mono ?_
  rintro e w2 ⟨rfl, hb2⟩
  have HB2 := Lib.hid (below0 HB1.out hb2)
  have HR2 := Lib.hid (HR1.out.below hb2)
  clear hb2 h2 HB1 HR1
  go_wp2_with fail
  refine (h3.out _ HB2.out).mono ?_
  rintro e w3 ⟨rfl, hb3⟩
  have HB3 := Lib.hid (below0 HB2.out hb3)
  have HR3 := Lib.hid (HR2.out.below hb3)
  clear hb3 h3 HB2 HR2
  go_wp2_with fail
  refine (h4.out _ HB3.out).mono ?_
  rintro e w4 ⟨rfl, hb4⟩
  have HB := Lib.hid (below0 HB3.out hb4)
  have r1 := HR3.out.below hb4
  have HR := Lib.hid r1
  clear hb4 h4 HB3 HR3
  have c0 : World.cell? w4 ⟨w.heap.size, 0, none⟩ = _ := r1.cell 0
  have c1 : World.cell? w4 ⟨w.heap.size, 1, none⟩ = _ := r1.cell 1
  have c2 : World.cell? w4 ⟨w.heap.size, 2, none⟩ = _ := r1.cell 2
  have f0 := r1.frozen 0
  have f1 := r1.frozen 1
  have f2 := r1.frozen 2
  clear r1
  go_wp2
  have R8 := row_set3 (.int .u32 (f : Int)) (.int .i64 (k : Int)) (.int .i64 (m : Int)) HR.out
  have B8 := below_set3 (b := w.heap.size) (.int .u32 (f : Int)) (.int .i64 (k : Int)) (.int .i64 (m : Int)) HB.out (Nat.le_refl _)
  clear c0 c1 c2 f0 f1 f2
  have d0 : World.cell? _ ⟨w.heap.size, 0, none⟩ = _ := R8.cell 0
  have d1 : World.cell? _ ⟨w.heap.size, 1, none⟩ = _ := R8.cell 1
  have d2 : World.cell? _ ⟨w.heap.size, 2, none⟩ = _ := R8.cell 2
  exact bodyPost_ret (v := .tuple #[roV f k m, .bool true]) (by simp [results, Tryz.results38, go_sem, d0, d1, d2]) rfl ⟨rfl, B8⟩
theorem book_any (s : Int) (w : World) : Calls Tryz.prog 95 #[.int .i64 s] w fun e w' => e = .returned (.tuple #[.int .i64 (if isB s 4 = true then 64 * s + 1 else 0), .int .i64 (if isB s 4 = true then 0 else 2)]) ∧ Below w.heap.size w w' := by
  rcases isB_cases s 4 with h | ⟨k, rfl, hk, h⟩
  · rw [show isB s 4 = false from h]
    exact Wn.book_no s w h
  · rw [show isB (k : Int) 4 = true from h, if_pos rfl, if_pos rfl]
    have := Wn.book_yes k w hk
    rw [show ((64 * k + 1 : Nat) : Int) = 64 * (k : Int) + 1 by omega] at this
    exact this
theorem scount_any (c : Int) (w : World) (hT : Tabs w) : Calls Tryz.prog 89 #[.int .i64 c] w fun e w' => e = .returned (.tuple #[.int .i64 (if isB c 8 = true then ((cnt c.toNat : Nat) : Int) else 0), .int .i64 (if isB c 8 = true then 0 else 2)]) ∧ Below w.heap.size w w' := by
  rcases isB_cases c 8 with h | ⟨k, rfl, hk, h⟩
  · rw [show isB c 8 = false from h]
    exact Sz.count_no c w h
  · rw [show isB (k : Int) 8 = true from h, if_pos rfl, if_pos rfl, Int.toNat_natCast]
    exact Sz.count_yes k w hT.1 hk
set_option maxHeartbeats 1000000 in
theorem records_no (s c : Int) (w : World) (hT : Tabs w) (h : isB s 4 = false ∨ isB c 8 = false) : Calls Tryz.prog 125 #[.int .i64 s, .int .i64 c] w fun e w' => e = .returned (.tuple #[roV 0 0 0, .bool false]) ∧ Below w.heap.size w w' := by
  have h1 := Lib.hid (fun W => book_any s W)
  have h2 := Lib.hid (fun W (hb : Below w.heap.size w W) => scount_any c W (hT.below hb))
  obtain ⟨a, ha⟩ : ∃ a, a = (if isB s 4 = true then 64 * s + 1 else 0) := ⟨_, rfl⟩
  obtain ⟨m, hm⟩ : ∃ m, m = (if isB c 8 = true then ((cnt c.toNat : Nat) : Int) else 0) := ⟨_, rfl⟩
  obtain ⟨x, hx⟩ : ∃ x : Int, x = (if isB s 4 = true then 0 else 2) := ⟨_, rfl⟩
  obtain ⟨y, hy⟩ : ∃ y : Int, y = (if isB c 8 = true then 0 else 2) := ⟨_, rfl⟩
  rw [← ha, ← hx] at h1
  rw [← hm, ← hy] at h2
  have hxy : (x = 2) ∨ (x = 0 ∧ y = 2) := by
    rcases h with h | h
    · left; rw [hx, h]; rfl
    · rcases hq : isB s 4 with _ | _
      · left; rw [hx, hq]; rfl
      · right; exact ⟨by rw [hx, hq]; rfl, by rw [hy, h]; rfl⟩
  clear ha hm hx hy hT h
  go_enter Tryz.func125, Tryz.ntmps125
  go_wp2_with fail
  refine (h1.out _).mono ?_
  rintro e w1 ⟨rfl, hb1⟩
  have HB1 := Lib.hid ((below1 w (.cells #[.int .u32 0, .int .i64 0, .int .i64 0] 99)).trans (hb1.mono (by simp)))
  have HR1 := Lib.hid ((Row.new w 99 [.int .u32 0, .int .i64 0, .int .i64 0]).below hb1)
  clear hb1 h1
  go_wp2_with fail
  refine (h2.out _ HB1.out).mono ?_
  rintro e w2 ⟨rfl, hb2⟩
  have HB := Lib.hid (below0 HB1.out hb2)
  have r1 := HR1.out.below hb2
  have HR := Lib.hid r1
  clear hb2 h2 HB1 HR1
  have c0 : World.cell? w2 ⟨w.heap.size, 0, none⟩ = _ := r1.cell 0
  have c1 : World.cell? w2 ⟨w.heap.size, 1, none⟩ = _ := r1.cell 1
  have c2 : World.cell? w2 ⟨w.heap.size, 2, none⟩ = _ := r1.cell 2
  have f0 := r1.frozen 0
  have f1 := r1.frozen 1
  have f2 := r1.frozen 2
  clear r1
  rcases hxy with rfl | ⟨rfl, rfl⟩
  · go_wp2
    have R8 := row_set3 (.int .u32 0) (.int .i64 0) (.int .i64 0) HR.out
    have B8 := below_set3 (b := w.heap.size) (.int .u32 0) (.int .i64 0) (.int .i64 0) HB.out (Nat.le_refl _)
    clear c0 c1 c2 f0 f1 f2
    have d0 : World.cell? _ ⟨w.heap.size, 0, none⟩ = _ := R8.cell 0
    have d1 : World.cell? _ ⟨w.heap.size, 1, none⟩ = _ := R8.cell 1
    have d2 : World.cell? _ ⟨w.heap.size, 2, none⟩ = _ := R8.cell 2
    exact bodyPost_ret (v := .tuple #[roV 0 0 0, .bool false]) (by simp [results, Tryz.results125, go_sem, d0, d1, d2]) rfl ⟨rfl, B8⟩
  · go_wp2
    have R8 := row_set3 (.int .u32 0) (.int .i64 0) (.int .i64 0) HR.out
    have B8 := below_set3 (b := w.heap.size) (.int .u32 0) (.int .i64 0) (.int .i64 0) HB.out (Nat.le_refl _)
    clear c0 c1 c2 f0 f1 f2
    have d0 : World.cell? _ ⟨w.heap.size, 0, none⟩ = _ := R8.cell 0
    have d1 : World.cell? _ ⟨w.heap.size, 1, none⟩ = _ := R8.cell 1
    have d2 : World.cell? _ ⟨w.heap.size, 2, none⟩ = _ := R8.cell 2
    exact bodyPost_ret (v := .tuple #[roV 0 0 0, .bool false]) (by simp [results, Tryz.results125, go_sem, d0, d1, d2]) rfl ⟨rfl, B8⟩
set_option maxHeartbeats 1000000 in
theorem records_yes (s c : Nat) (w : World) (hT : Tabs w) (hs : s < 4) (hc : c < 8) : Calls Tryz.prog 125 #[.int .i64 (s : Int), .int .i64 (c : Int)] w fun e w' => e = .returned (.tuple #[roV ((256 * (64 * s + 1) + 768 * c : Nat) : Int) 8 ((cnt c : Nat) : Int), .bool true]) ∧ Below w.heap.size w w' := by
  have h1 := Lib.hid (fun W => Wn.book_yes s W hs)
  have h2 := Lib.hid (fun W (hb : Below w.heap.size w W) => Sz.count_yes c W (hT.below hb).1 hc)
  have h3 := Lib.hid (fun W => Wn.address_yes (64 * s + 1 + 3 * c) 0 W (by omega) (by omega))
  simp only [pay_eq] at h2
  obtain ⟨m, hm⟩ : ∃ m, m = cnt c := ⟨_, rfl⟩
  have hm' : 4096 / (pay c + 32) = m := hm.symm
  rw [hm'] at h2
  rw [← hm]
  have e1 : IntKind.i64.wrap (3 * (c : Int)) = 3 * (c : Int) := wrapI _ (by omega) (by omega)
  have e2 : IntKind.i64.wrap (((64 * s + 1 : Nat) : Int) + 3 * (c : Int)) = ((64 * s + 1 + 3 * c : Nat) : Int) := (wrapI _ (by omega) (by omega)).trans (by omega)
  obtain ⟨f, hf⟩ : ∃ f, f = 256 * (64 * s + 1) + 768 * c := ⟨_, rfl⟩
  rw [show 256 * (64 * s + 1 + 3 * c) + 0 = f by omega] at h3
  rw [← hf]
  obtain ⟨p, hp⟩ : ∃ p, p = 64 * s + 1 + 3 * c := ⟨_, rfl⟩
  rw [← hp] at h3 e2
  obtain ⟨q, hq⟩ : ∃ q, q = 64 * s + 1 := ⟨_, rfl⟩
  rw [← hq] at h1 e2
  rw [show ((0 : Nat) : Int) = 0 from rfl] at h3
  obtain ⟨t, ht⟩ : ∃ t, 3 * (c : Int) = t := ⟨_, rfl⟩
  replace e1 : IntKind.i64.wrap (3 * (c : Int)) = t := e1.trans ht
  rw [ht] at e2
  clear hm hm' hf hp hq ht hT hs
  go_enter Tryz.func125, Tryz.ntmps125
  go_wp2_with fail
  refine (h1.out _).mono ?_
  rintro e w1 ⟨rfl, hb1⟩
  have HB1 := Lib.hid ((below1 w (.cells #[.int .u32 0, .int .i64 0, .int .i64 0] 99)).trans (hb1.mono (by simp)))
  have HR1 := Lib.hid ((Row.new w 99 [.int .u32 0, .int .i64 0, .int .i64 0]).below hb1)
  clear hb1 h1
  go_wp2_with fail
  refine (h2.out _ HB1.out).mono ?_
  rintro e w2 ⟨rfl, hb2⟩
  have HB2 := Lib.hid (below0 HB1.out hb2)
  have HR2 := Lib.hid (HR1.out.below hb2)
  clear hb2 h2 HB1 HR1
  go_wp2_with fail
  refine (h3.out _).mono ?_
  rintro e w3 ⟨rfl, hb3⟩
  have HB := Lib.hid (below0 HB2.out hb3)
  have r1 := HR2.out.below hb3
  have HR := Lib.hid r1
  clear hb3 h3 HB2 HR2
  have c0 : World.cell? w3 ⟨w.heap.size, 0, none⟩ = _ := r1.cell 0
  have c1 : World.cell? w3 ⟨w.heap.size, 1, none⟩ = _ := r1.cell 1
  have c2 : World.cell? w3 ⟨w.heap.size, 2, none⟩ = _ := r1.cell 2
  have f0 := r1.frozen 0
  have f1 := r1.frozen 1
  have f2 := r1.frozen 2
  clear r1
  go_wp2
  have R8 := row_set3 (.int .u32 (f : Int)) (.int .i64 8) (.int .i64 (m : Int)) HR.out
  have B8 := below_set3 (b := w.heap.size) (.int .u32 (f : Int)) (.int .i64 8) (.int .i64 (m : Int)) HB.out (Nat.le_refl _)
  clear c0 c1 c2 f0 f1 f2
  have d0 : World.cell? _ ⟨w.heap.size, 0, none⟩ = _ := R8.cell 0
  have d1 : World.cell? _ ⟨w.heap.size, 1, none⟩ = _ := R8.cell 1
  have d2 : World.cell? _ ⟨w.heap.size, 2, none⟩ = _ := R8.cell 2
  exact bodyPost_ret (v := .tuple #[roV f 8 m, .bool true]) (by simp [results, Tryz.results125, go_sem, d0, d1, d2]) rfl ⟨rfl, B8⟩
set_option maxHeartbeats 1000000 in
theorem greats_no (s : Int) (w : World) (h : isB s 4 = false) : Calls Tryz.prog 136 #[.int .i64 s] w fun e w' => e = .returned (.tuple #[roV 0 0 0, .bool false]) ∧ Below w.heap.size w w' := by
  have h1 := Lib.hid (fun W => Wn.book_no s W h)
  clear h
  go_enter Tryz.func136, Tryz.ntmps136
  go_wp2_with fail
  refine (h1.out _).mono ?_
  rintro e w1 ⟨rfl, hb1⟩
  have HB := Lib.hid ((below1 w (.cells #[.int .u32 0, .int .i64 0, .int .i64 0] 99)).trans (hb1.mono (by simp)))
  have r1 := (Row.new w 99 [.int .u32 0, .int .i64 0, .int .i64 0]).below hb1
  have HR := Lib.hid r1
  clear hb1 h1
  have c0 : World.cell? w1 ⟨w.heap.size, 0, none⟩ = _ := r1.cell 0
  have c1 : World.cell? w1 ⟨w.heap.size, 1, none⟩ = _ := r1.cell 1
  have c2 : World.cell? w1 ⟨w.heap.size, 2, none⟩ = _ := r1.cell 2
  have f0 := r1.frozen 0
  have f1 := r1.frozen 1
  have f2 := r1.frozen 2
  clear r1
  go_wp2
  have R8 := row_set3 (.int .u32 0) (.int .i64 0) (.int .i64 0) HR.out
  have B8 := below_set3 (b := w.heap.size) (.int .u32 0) (.int .i64 0) (.int .i64 0) HB.out (Nat.le_refl _)
  clear c0 c1 c2 f0 f1 f2
  have d0 : World.cell? _ ⟨w.heap.size, 0, none⟩ = _ := R8.cell 0
  have d1 : World.cell? _ ⟨w.heap.size, 1, none⟩ = _ := R8.cell 1
  have d2 : World.cell? _ ⟨w.heap.size, 2, none⟩ = _ := R8.cell 2
  exact bodyPost_ret (v := .tuple #[roV 0 0 0, .bool false]) (by simp [results, Tryz.results136, go_sem, d0, d1, d2]) rfl ⟨rfl, B8⟩
set_option maxHeartbeats 1000000 in
theorem greats_yes (s : Nat) (w : World) (hs : s < 4) : Calls Tryz.prog 136 #[.int .i64 (s : Int)] w fun e w' => e = .returned (.tuple #[roV ((256 * (64 * s + 1) + 6144 : Nat) : Int) 16 384, .bool true]) ∧ Below w.heap.size w w' := by
  have h1 := Lib.hid (fun W => Wn.book_yes s W hs)
  have h3 := Lib.hid (fun W => Wn.address_yes (64 * s + 1 + 24) 0 W (by omega) (by omega))
  have e2 : IntKind.i64.wrap (((64 * s + 1 : Nat) : Int) + 24) = ((64 * s + 1 + 24 : Nat) : Int) := (wrapI _ (by omega) (by omega)).trans (by omega)
  obtain ⟨f, hf⟩ : ∃ f, f = 256 * (64 * s + 1) + 6144 := ⟨_, rfl⟩
  rw [show 256 * (64 * s + 1 + 24) + 0 = f by omega] at h3
  rw [← hf]
  obtain ⟨p, hp⟩ : ∃ p, p = 64 * s + 1 + 24 := ⟨_, rfl⟩
  rw [← hp] at h3 e2
  obtain ⟨q, hq⟩ : ∃ q, q = 64 * s + 1 := ⟨_, rfl⟩
  rw [← hq] at h1 e2
  rw [show ((0 : Nat) : Int) = 0 from rfl] at h3
  clear hf hp hq hs
  go_enter Tryz.func136, Tryz.ntmps136
  go_wp2_with fail
  refine (h1.out _).mono ?_
  rintro e w1 ⟨rfl, hb1⟩
  have HB1 := Lib.hid ((below1 w (.cells #[.int .u32 0, .int .i64 0, .int .i64 0] 99)).trans (hb1.mono (by simp)))
  have HR1 := Lib.hid ((Row.new w 99 [.int .u32 0, .int .i64 0, .int .i64 0]).below hb1)
  clear hb1 h1
  go_wp2_with fail
  refine (h3.out _).mono ?_
  rintro e w3 ⟨rfl, hb3⟩
  have HB := Lib.hid (below0 HB1.out hb3)
  have r1 := HR1.out.below hb3
  have HR := Lib.hid r1
  clear hb3 h3 HB1 HR1
  have c0 : World.cell? w3 ⟨w.heap.size, 0, none⟩ = _ := r1.cell 0
  have c1 : World.cell? w3 ⟨w.heap.size, 1, none⟩ = _ := r1.cell 1
  have c2 : World.cell? w3 ⟨w.heap.size, 2, none⟩ = _ := r1.cell 2
  have f0 := r1.frozen 0
  have f1 := r1.frozen 1
  have f2 := r1.frozen 2
  clear r1
  go_wp2
  have R8 := row_set3 (.int .u32 (f : Int)) (.int .i64 16) (.int .i64 384) HR.out
  have B8 := below_set3 (b := w.heap.size) (.int .u32 (f : Int)) (.int .i64 16) (.int .i64 384) HB.out (Nat.le_refl _)
  clear c0 c1 c2 f0 f1 f2
  have d0 : World.cell? _ ⟨w.heap.size, 0, none⟩ = _ := R8.cell 0
  have d1 : World.cell? _ ⟨w.heap.size, 1, none⟩ = _ := R8.cell 1
  have d2 : World.cell? _ ⟨w.heap.size, 2, none⟩ = _ := R8.cell 2
  exact bodyPost_ret (v := .tuple #[roV f 16 384, .bool true]) (by simp [results, Tryz.results136, go_sem, d0, d1, d2]) rfl ⟨rfl, B8⟩
end Go.Proofs.YtiahmccchpmdgaaGreatDoor.Me
