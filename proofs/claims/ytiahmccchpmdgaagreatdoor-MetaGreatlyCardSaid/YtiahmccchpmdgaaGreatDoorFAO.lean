import Derived.Test.YtiahmccchpmdgaaGreatDoorFAN
import Derived.Test.YtiahmccchpmdgaaGreatDoorFAE
import Derived.Deep.RegionHeld3
import Derived.Test.YtiahmccchpmdgaaGreatDoorFAK
namespace Go.Proofs.YtiahmccchpmdgaaGreatDoor.Vm
open Go.RowKit Go.Shelf Go.Maps Go.Sort

/- A MEMORY BY PAGES, PLAINLY: REACHES OF SEVERAL PARTS. -/
/-- the byte at an address -/
def byZ (V : Int → Option Bys) (a : Nat) : UInt8 := match V ((a / 256 : Nat) : Int) with
  | some g => g (a % 256)
  | none => 0
/-- bytes put from an address on -/
def putZ (V : Int → Option Bys) (a : Nat) (b : List UInt8) : Int → Option Bys := fun z => (V z).map fun g j => if j < 256 ∧ (a : Int) ≤ 256 * z + j ∧ 256 * z + j < a + b.length then b.getD (256 * z + j - a).toNat 0 else g j
theorem putZ_some (V : Int → Option Bys) (a : Nat) (b : List UInt8) (z : Int) : (putZ V a b z).isSome = (V z).isSome := by
  unfold putZ
  cases V z <;> rfl
theorem putZ_nil (V : Int → Option Bys) (a : Nat) : putZ V a [] = V := by
  funext z
  unfold putZ
  cases V z with
  | none => rfl
  | some g =>
    simp only [Option.map_some]
    congr 1
    funext j
    rw [if_neg (by simp only [List.length_nil]; omega)]
theorem putZ_one {V : Int → Option Bys} {z r : Nat} {g : Bys} {b : List UInt8} (hv : V (z : Int) = some g) (hb : r + b.length ≤ 256) :
    upz V (z : Int) (some fun k => if r ≤ k ∧ k < r + b.length then b.getD (k - r) 0 else g k) = putZ V (256 * z + r) b := by
  funext y
  by_cases hy : y = (z : Int)
  · subst hy
    rw [upz_same]
    unfold putZ
    rw [hv]
    simp only [Option.map_some]
    congr 1
    funext j
    by_cases c : r ≤ j ∧ j < r + b.length
    · rw [if_pos c, if_pos (by omega)]
      congr 1
      omega
    · rw [if_neg c, if_neg (by omega)]
  · rw [upz_other _ _ _ hy]
    unfold putZ
    cases V y with
    | none => rfl
    | some g' =>
      simp only [Option.map_some]
      congr 1
      funext j
      rw [if_neg (by omega)]
theorem putZ_putZ (V : Int → Option Bys) (a : Nat) (b c : List UInt8) : putZ (putZ V a b) (a + b.length) c = putZ V a (b ++ c) := by
  funext z
  unfold putZ
  cases V z with
  | none => rfl
  | some g =>
    simp only [Option.map_some]
    congr 1
    funext j
    rw [List.length_append]
    by_cases c1 : j < 256 ∧ (a : Int) ≤ 256 * z + j ∧ 256 * z + j < a + (b.length + c.length : Nat)
    · rw [if_pos c1]
      by_cases c2 : 256 * z + j < a + b.length
      · rw [if_neg (by omega), if_pos ⟨c1.1, c1.2.1, by omega⟩, List.getD_eq_getElem?_getD, List.getD_eq_getElem?_getD, List.getElem?_append_left (by omega)]
      · rw [if_pos ⟨c1.1, by omega, by omega⟩, List.getD_eq_getElem?_getD, List.getD_eq_getElem?_getD, List.getElem?_append_right (by omega)]
        congr 2
        omega
    · rw [if_neg c1, if_neg (by omega), if_neg (by omega)]
section
variable {p : Pl} {l : Pg.Tb} {V : Int → Option Bys} {n : Nat}
/-- each page of so many bytes is mapped -/
def fineZ (V : Int → Option Bys) (a k : Nat) : Prop := ∀ i, a ≤ i → i < a + k → (V ((i / 256 : Nat) : Int)).isSome = true
set_option maxRecDepth 100000 in
theorem Pv.rd (h : Pv p l V n) : ∀ (k a : Nat), fineZ V a k → rdB p l a k = (List.range k).map fun j => byZ V (a + j) := by
  intro k
  induction k using Nat.strongRecOn with
  | _ k ih =>
    intro a hf
    rcases Nat.eq_zero_or_pos k with rfl | hn
    · unfold rdB
      rw [pts_zero]
      simp [flat]
    · have hm : a % 256 < 256 := Nat.mod_lt _ (by decide)
      obtain ⟨m, hk⟩ : ∃ m, m = min k (256 - a % 256) := ⟨_, rfl⟩
      have h2 := ih (k - m) (by omega) (a + m) (fun i h3 h4 => hf i (by omega) (by omega))
      have hp : rdB p l a k = Vm.pce p l (a / 256, a % 256, m) ++ rdB p l (a + m) (k - m) := by
        unfold rdB
        rw [pts_pos hn, ← hk, List.map_cons, flat]
      obtain ⟨g, hg⟩ := Option.isSome_iff_exists.1 (hf a (Nat.le_refl _) (by omega))
      rw [hp, h2, h.pce hg (by omega)]
      apply List.ext_getElem?
      intro j
      rcases Nat.lt_or_ge j m with h3 | h3
      · rw [List.getElem?_append_left (by simpa using h3), List.getElem?_map, List.getElem?_map, List.getElem?_range h3, List.getElem?_range (by omega)]
        simp only [Option.map_some]
        unfold byZ
        rw [show (a + j) / 256 = a / 256 by omega, hg, show (a + j) % 256 = a % 256 + j by omega]
      · rw [List.getElem?_append_right (by simpa using h3), List.length_map, List.length_range]
        rcases Nat.lt_or_ge j k with h4 | h4
        · rw [List.getElem?_map, List.getElem?_map, List.getElem?_range (by omega), List.getElem?_range h4]
          simp only [Option.map_some]
          rw [show a + m + (j - m) = a + j by omega]
        · rw [List.getElem?_eq_none (by simp; omega), List.getElem?_eq_none (by simp; omega)]
set_option maxRecDepth 100000 in
theorem Pv.parts : ∀ (k a : Nat) (p : Pl) (V : Int → Option Bys) (bs : List UInt8), Pv p l V n → fineZ V a k → bs.length = k → Pv (wr p l (pts a k) bs) l (putZ V a bs) n := by
  intro k
  induction k using Nat.strongRecOn with
  | _ k ih =>
    intro a p V bs h hf hb
    rcases Nat.eq_zero_or_pos k with rfl | hn
    · rw [pts_zero, List.eq_nil_of_length_eq_zero hb, putZ_nil]
      exact h
    · have hm : a % 256 < 256 := Nat.mod_lt _ (by decide)
      obtain ⟨m, hk⟩ : ∃ m, m = min k (256 - a % 256) := ⟨_, rfl⟩
      have hkl : (bs.take m).length = m := by rw [List.length_take]; omega
      obtain ⟨g, hg⟩ := Option.isSome_iff_exists.1 (hf a (Nat.le_refl _) (by omega))
      have h1 := h.part (a := a % 256) (b := bs.take m) hg (by omega)
      rw [putZ_one hg (by omega), show 256 * (a / 256) + a % 256 = a by omega] at h1
      have h2 := ih (k - m) (by omega) (a + m) _ _ (bs.drop m) h1 (fun i h3 h4 => by rw [putZ_some]; exact hf i (by omega) (by omega)) (by rw [List.length_drop, hb])
      have h3 := putZ_putZ V a (bs.take m) (bs.drop m)
      rw [hkl, List.take_append_drop] at h3
      rw [h3] at h2
      rw [pts_pos hn, ← hk]
      exact h2
end
end Go.Proofs.YtiahmccchpmdgaaGreatDoor.Vm

namespace Go.Proofs.YtiahmccchpmdgaaGreatDoor.Me
open Go.RowKit Go.Shelf

/- THE BOOKS' PAGES IN A MEMORY BY PAGES, PLAINLY. -/
/-- the pages of open books -/
def bookV (B : Bks) (z : Int) : Option Vm.Bys := if 0 ≤ z ∧ z < 256 ∧ 1 ≤ z % 64 ∧ z % 64 ≤ 48 then (B (z / 64).toNat).map fun f j => if j < 256 then f (256 * ((z % 64).toNat - 1) + j) else 0 else none
theorem bookV_at (B : Bks) {s o : Nat} (hs : s < 4) (ho : o < 48) : bookV B (((64 * s + 1 + o) : Nat) : Int) = (B s).map fun f j => if j < 256 then f (256 * o + j) else 0 := by
  unfold bookV
  rw [if_pos (by omega), show ((((64 * s + 1 + o) : Nat) : Int) / 64).toNat = s by omega, show ((((64 * s + 1 + o) : Nat) : Int) % 64).toNat - 1 = o by omega]
theorem bookV_off (B : Bks) {z : Int} (h : ¬ ∃ s o : Nat, s < 4 ∧ o < 48 ∧ z = (((64 * s + 1 + o) : Nat) : Int)) : bookV B z = none := by
  unfold bookV
  rw [if_neg]
  rintro ⟨h1, h2, h3, h4⟩
  exact h ⟨(z / 64).toNat, (z % 64).toNat - 1, by omega, by omega, by omega⟩
theorem bookV_none : bookV (fun _ => none) = fun _ => none := by
  funext z
  unfold bookV
  split <;> rfl
theorem bookV_ext {V : Int → Option Vm.Bys} {B : Bks} (h1 : ∀ s o : Nat, s < 4 → o < 48 → V (((64 * s + 1 + o) : Nat) : Int) = (B s).map fun f j => if j < 256 then f (256 * o + j) else 0)
    (h2 : ∀ z, (¬ ∃ s o : Nat, s < 4 ∧ o < 48 ∧ z = (((64 * s + 1 + o) : Nat) : Int)) → V z = none) : V = bookV B := by
  funext z
  by_cases h : ∃ s o : Nat, s < 4 ∧ o < 48 ∧ z = (((64 * s + 1 + o) : Nat) : Int)
  · obtain ⟨s, o, hs, ho, rfl⟩ := h
    rw [h1 s o hs ho, bookV_at B hs ho]
  · rw [h2 z h, bookV_off B h]
theorem upd_at (B : Bks) (s : Nat) (x : Option Byts) (k : Nat) : upd B s x k = if k = s then x else B k := rfl
/-- bytes are put into an open book -/
theorem bookV_put {B : Bks} {s o : Nat} {f : Byts} {b : List UInt8} (hs : s < 4) (hf : B s = some f) (ho : o + b.length ≤ 12288) :
    Vm.putZ (bookV B) (256 * (64 * s + 1) + o) b = bookV (upd B s (some (putB f o b))) := by
  refine bookV_ext (fun s' o' hs' ho' => ?_) (fun z hz => ?_)
  · unfold Vm.putZ
    rw [bookV_at B hs' ho', upd_at]
    by_cases e : s' = s
    · subst e
      rw [if_pos rfl, hf]
      simp only [Option.map_some]
      congr 1
      funext j
      by_cases c0 : j < 256
      · rw [if_pos c0]
        unfold putB
        by_cases c : o ≤ 256 * o' + j ∧ 256 * o' + j < o + b.length
        · rw [if_pos (by omega), if_pos c, show (256 * ((64 * s' + 1 + o' : Nat) : Int) + (j : Int) - ((256 * (64 * s' + 1) + o : Nat) : Int)).toNat = 256 * o' + j - o by omega, if_pos c0]
        · rw [if_neg (by omega), if_pos c0, if_neg c]
      · rw [if_neg c0, if_neg (by omega), if_neg c0]
    · rw [if_neg e]
      cases B s' with
      | none => rfl
      | some f' =>
        simp only [Option.map_some]
        congr 1
        funext j
        rw [if_neg (by omega)]
  · unfold Vm.putZ
    rw [bookV_off B hz]
    rfl
/-- the bytes of an open book -/
theorem bookV_byte {B : Bks} {s o : Nat} {f : Byts} (hs : s < 4) (hf : B s = some f) (ho : o < 12288) : Vm.byZ (bookV B) (256 * (64 * s + 1) + o) = f o := by
  unfold Vm.byZ
  rw [show (256 * (64 * s + 1) + o) / 256 = (64 * s + 1 + (o / 256)) by omega, bookV_at B hs (by omega), hf]
  simp only [Option.map_some]
  rw [if_pos (by omega)]
  congr 1
  omega
theorem bookV_fine {B : Bks} {s o k : Nat} {f : Byts} (hs : s < 4) (hf : B s = some f) (ho : o + k ≤ 12288) : Vm.fineZ (bookV B) (256 * (64 * s + 1) + o) k := fun i h1 h2 => by
  rw [show i / 256 = (64 * s + 1 + (i / 256 - (64 * s + 1))) by omega, bookV_at B hs (by omega), hf]
  rfl
/-- so many pages of a book are mapped already, or unmapped -/
def partV (B : Bks) (s k : Nat) (x : Option Vm.Bys) (z : Int) : Option Vm.Bys := if (64 * s + 1 : Int) ≤ z ∧ z < 64 * s + 1 + k then x else bookV B z
theorem partV_zero (B : Bks) (s : Nat) (x : Option Vm.Bys) : partV B s 0 x = bookV B := by
  funext z
  unfold partV
  rw [if_neg (by omega)]
theorem partV_step (B : Bks) (s k : Nat) (x : Option Vm.Bys) : Vm.upz (partV B s k x) (((64 * s + 1 + k) : Nat) : Int) x = partV B s (k + 1) x := by
  funext z
  unfold Vm.upz partV
  have e : (((64 * s + 1 + k) : Nat) : Int) = 64 * s + 1 + k := by omega
  rw [e]
  by_cases h : z = 64 * (s : Int) + 1 + k
  · rw [if_pos h, if_pos (by omega)]
  · rw [if_neg h]
    by_cases h2 : (64 * s + 1 : Int) ≤ z ∧ z < 64 * s + 1 + k
    · rw [if_pos h2, if_pos (by omega)]
    · rw [if_neg h2, if_neg (by omega)]
theorem partV_next (B : Bks) (s k : Nat) (x : Option Vm.Bys) : partV B s k x (((64 * s + 1 + k) : Nat) : Int) = bookV B (((64 * s + 1 + k) : Nat) : Int) := by
  unfold partV
  have e : (((64 * s + 1 + k) : Nat) : Int) = 64 * s + 1 + k := by omega
  rw [if_neg (by omega)]
theorem partV_open (B : Bks) {s : Nat} (hs : s < 4) : partV B s 48 (some fun _ => 0) = bookV (upd B s (some zeroB)) := by
  refine bookV_ext (fun s' o' hs' ho' => ?_) (fun z hz => ?_)
  · unfold partV
    have e : (((64 * s' + 1 + o') : Nat) : Int) = 64 * s' + 1 + o' := by omega
    rw [upd_at, e]
    by_cases h : s' = s
    · subst h
      rw [if_pos (by omega), if_pos rfl]
      simp only [Option.map_some]
      congr 1
      funext j
      unfold zeroB
      split <;> rfl
    · rw [if_neg (by omega), if_neg h, ← e, bookV_at B hs' ho']
  · unfold partV
    rw [if_neg, bookV_off B hz]
    intro h
    exact hz ⟨s, (z - (64 * s + 1)).toNat, hs, by omega, by omega⟩
theorem partV_close (B : Bks) {s : Nat} (hs : s < 4) : partV B s 48 none = bookV (upd B s none) := by
  refine bookV_ext (fun s' o' hs' ho' => ?_) (fun z hz => ?_)
  · unfold partV
    have e : (((64 * s' + 1 + o') : Nat) : Int) = 64 * s' + 1 + o' := by omega
    rw [upd_at, e]
    by_cases h : s' = s
    · subst h
      rw [if_pos (by omega), if_pos rfl]
      rfl
    · rw [if_neg (by omega), if_neg h, ← e, bookV_at B hs' ho']
  · unfold partV
    split
    · rfl
    · exact bookV_off B hz
end Go.Proofs.YtiahmccchpmdgaaGreatDoor.Me

namespace Go.Proofs.YtiahmccchpmdgaaGreatDoor.Vm
open Go.RowKit Go.Shelf Go.Maps Go.Sort
attribute [local go_sem] Oper.semAt_some

/- POKE. -/
def pokeP (p : Pl) (l : Pg.Tb) (a n : Nat) (bs : List UInt8) : Pl := if hndE l a (n : Int) = 0 then wr p l (pts a n) bs else p
set_option maxHeartbeats 1000000 in
theorem poke_any {w : World} {b t q : Nat} {l : Pg.Tb} {p : Pl} {F1 F2 : Nat → Prop} (h : MRep w b t q l p F1 F2) (a n c : Nat) (S : Option Addr) (bs : List UInt8) (ha : a < 4294967296) (hn : bs.length = n) (hc : n ≤ c) (hS : Src w b F1 F2 S bs) :
    Calls Tryz.prog 20 #[bx b, .int .u32 (a : Int), .slice S n c] w fun e w' => e = .returned (.int .i64 (hndE l a (n : Int) : Int)) ∧ MNext w b t q l (pokeP p l a n bs) F1 F2 w' := by
  have hbb := below1 w (.cells #[.int .u32 (a : Int), .int .i64 (n : Int)] 123)
  have HO := Lib.hid (handed_any (h.below hbb) a (n : Int) ha)
  unfold pokeP
  by_cases hE : hndE l a (n : Int) = 0
  · rw [if_pos hE]
    obtain ⟨m, hm, hm1, hm2, _⟩ := rE_0 hE
    have hmn : m = n := by omega
    subst hmn
    rw [hE] at HO ⊢
    have hw0 := lt_of_cell (show (w.alloc (.cells #[.int .u32 (a : Int), .int .i64 (m : Int)] 123)).cell? ⟨w.heap.size, 0, none⟩ = some (.int .u32 (a : Int)) from cell_alloc_new _ _ _ _)
    have HR := Lib.hid (fun W (hb : Below (w.alloc (.cells #[.int .u32 (a : Int), .int .i64 (m : Int)] 123)).heap.size (w.alloc (.cells #[.int .u32 (a : Int), .int .i64 (m : Int)] 123)) W) => (writeM_any ((h.below hbb).below hb) a m c S bs hm2 hn hc ⟨(hS.1.below (below0 hbb hb)).more (below0 hbb hb).size, fun ad e hne => by
      have h1 := hS.2 ad e hne
      have h2 := (below0 hbb hb).size
      exact ⟨by omega, h1.2⟩⟩).mono fun e w' ⟨e1, ⟨F3, e2, e3⟩, e4⟩ => (show (∃ v, e = Ending.returned v) ∧ MNext w b t q l (wr p l (pts a m) bs) F1 F2 w' from
        ⟨e1, F3, e2, fun k hf => (e3 k hf).imp id (fun hk => by have := (below0 hbb hb).size; omega), (Keep.of_below (F := fun k => F1 k ∨ F2 k) (below0 hbb hb)).trans e4 fun _ _ hf => .inr hf⟩))
    clear h hbb hE hm hS hn hc
    go_enter Tryz.func20, Tryz.ntmps20
    go_wp2_with fail
    refine wp_scope_jump 1 fun R hR hJm => ?_
    go_wp2_with fail
    refine (HO.out).mono ?_
    rintro e W1 ⟨rfl, hb1⟩
    have c0 : W1.cell? ⟨w.heap.size, 0, none⟩ = some (.int .u32 (a : Int)) := (hb1.cell (p := ⟨w.heap.size, 0, none⟩) hw0).trans (cell_alloc_new _ _ _ _)
    have c1 : W1.cell? ⟨w.heap.size, 1, none⟩ = some (.int .i64 (m : Int)) := (hb1.cell (p := ⟨w.heap.size, 1, none⟩) hw0).trans (cell_alloc_new _ _ _ _)
    have HR1 := Lib.hid (HR.out _ hb1)
    clear hb1 HR
    go_wp2_with fail
    refine (HR1.out).mono ?_
    rintro e W2 ⟨⟨v, rfl⟩, hnx⟩
    have HF := Lib.hid hnx
    clear hnx c0 c1 hw0
    go_wp2_with fail
    refine hR.out _ _ _ _ (by simp) ?_
    go_ret
    exact ⟨rfl, HF.out⟩
  · rw [if_neg hE]
    have HM := Lib.hid (fun W (hb : Below (w.alloc (.cells #[.int .u32 (a : Int), .int .i64 (n : Int)] 123)).heap.size (w.alloc (.cells #[.int .u32 (a : Int), .int .i64 (n : Int)] 123)) W) => MNext.same h (below0 hbb hb))
    obtain ⟨E, hE2⟩ : ∃ E, E = hndE l a (n : Int) := ⟨_, rfl⟩
    rw [← hE2] at HO hE ⊢
    have e0 : (((E : Int)) == 0) = false := by rw [beq_eq_false_iff_ne]; omega
    have e1 : ¬ ((E : Int) = 0) := by omega
    clear h hbb hE hE2 hS hn hc
    go_enter Tryz.func20, Tryz.ntmps20
    go_wp2_with fail
    refine wp_scope_jump 1 fun R hR hJm => ?_
    go_wp2_with fail
    refine (HO.out).mono ?_
    rintro e W1 ⟨rfl, hb1⟩
    have HF := Lib.hid (HM.out _ hb1)
    clear hb1 HM
    go_wp2_with fail
    refine wp_goto (hJm.out _ _ _ _ _ rfl ?_)
    go_wp2_with fail
    refine hR.out _ _ _ _ (by simp) ?_
    go_ret
    exact ⟨rfl, HF.out⟩
end Go.Proofs.YtiahmccchpmdgaaGreatDoor.Vm

namespace Go.Proofs.YtiahmccchpmdgaaGreatDoor.Me
open Go.RowKit Go.Shelf
attribute [local go_sem] Oper.semAt_some

/- A MEMORY WITH BOOKS, AS IT LIES; WHAT THE LAWS CALL OF THE MEMORY ITSELF. -/
def HasM : HasT := fun w v B n F => ∃ b t q l p F1 F2, v = bx b ∧ Vm.MRep w b t q l p F1 F2 ∧ Vm.Pv p l (bookV B) n ∧ F = fun k => k = b ∨ F1 k ∨ F2 k
theorem HasM.keep {w w' : World} {v : Value} {B : Bks} {n : Nat} {F : Nat → Prop} (h : HasM w v B n F) (hk : ∀ k, F k → w'.heap[k]? = w.heap[k]?) : HasM w' v B n F := by
  obtain ⟨b, t, q, l, p, F1, F2, rfl, h, hp, rfl⟩ := h
  exact ⟨b, t, q, l, p, F1, F2, rfl, ⟨h.obj.same (hk b (.inl rfl)), h.tab.keep (fun k hf => hk k (.inr (.inl hf))), h.pool.keep (fun k hf => hk k (.inr (.inr hf))), h.apart, h.b1, h.b2⟩, hp, rfl⟩
theorem HasM.lt {w : World} {v : Value} {B : Bks} {n : Nat} {F : Nat → Prop} (h : HasM w v B n F) : ∀ k, F k → k < w.heap.size := by
  obtain ⟨b, t, q, l, p, F1, F2, rfl, h, hp, rfl⟩ := h
  rintro k (rfl | hf | hf)
  · exact h.obj.lt
  · exact h.tab.lt k hf
  · exact h.pool.lt k hf
theorem HasM.ptr {w : World} {v : Value} {B : Bks} {n : Nat} {F : Nat → Prop} (h : HasM w v B n F) : ∃ ad, v = .pointer (some ad) := by
  obtain ⟨b, t, q, l, p, F1, F2, rfl, _⟩ := h
  exact ⟨_, rfl⟩
/-- behind a call of the memory's -/
theorem nx_mem {w w' : World} {b t q : Nat} {l' : Pg.Tb} {p' : Pl} {F1 F2 : Nat → Prop} {B' : Bks} {n' : Nat} (hn : Vm.MNext w b t q l' p' F1 F2 w') (hp : Vm.Pv p' l' (bookV B') n') : Nx HasM w (bx b) B' n' (fun k => k = b ∨ F1 k ∨ F2 k) w' := by
  obtain ⟨F3, h1, h2, h3⟩ := hn
  refine ⟨_, ⟨b, t, q, l', p', F1, F3, rfl, h1, hp, rfl⟩, h3.mono (fun k _ hk => .inr hk), fun k hk => ?_⟩
  rcases hk with hk | hk | hk
  · exact .inl (.inl hk)
  · exact .inl (.inr (.inl hk))
  · rcases h2 k hk with h | h
    · exact .inl (.inr (.inr h))
    · exact .inr h
theorem m_new1 (w : World) : Calls Tryz.prog 27 #[.int .i64 1] w fun e w' => ∃ v F, e = .returned (.tuple #[v, .int .i64 0]) ∧ HasM w' v (fun _ => none) 0 F ∧ (∀ k, F k → w.heap.size ≤ k) ∧ Below w.heap.size w w' := by
  refine (Vm.new_any 1 w (by omega)).mono ?_
  rintro e w' ⟨b, t, q, F1, F2, rfl, h1, h2, h3⟩
  exact ⟨_, _, rfl, ⟨b, t, q, [], newP 1, F1, F2, rfl, h1, by rw [bookV_none]; exact Vm.Pv.new (newP_ok (by omega)) (by decide), rfl⟩, h2, h3⟩
theorem res_ok : reserveE (newP 100) 63 100 = 0 := by kernel_rfl
theorem res_left : leftN (reserveP (newP 100) 63 100) 63 = 100 := by kernel_rfl
theorem m_mem (w : World) : Calls Tryz.prog 9 #[] w fun e w' => ∃ v F, e = .returned (.tuple #[v, .bool true]) ∧ HasM w' v (fun _ => none) 100 F ∧ (∀ k, F k → w.heap.size ≤ k) ∧ Below w.heap.size w w' := by
  have HN := Lib.hid (Vm.new_any 100 w (by omega))
  have HNUM := Lib.hid (fun (n : Int) (w : World) => num_any n w)
  go_enter Tryz.func9, Tryz.ntmps9
  go_wp2_with fail
  refine HN.out.mono ?_
  rintro e w1 ⟨b, t, q, F1, F2, rfl, h1, h2, h3⟩
  have hres := Vm.reserve_any h1 63 100 (by omega)
  rw [res_ok] at hres
  have HR := Lib.hid hres
  have H2 := Lib.hid (And.intro h2 h3)
  clear h1 h2 h3 hres HN
  go_wp2_with fail
  refine HR.out.mono ?_
  rintro e w2 ⟨rfl, F3, g1, g2, g3⟩
  have HFIN := Lib.hid (show HasM w2 (bx b) (fun _ => none) 100 (fun k => k = b ∨ F1 k ∨ F3 k) ∧ (∀ k, (k = b ∨ F1 k ∨ F3 k) → w.heap.size ≤ k) ∧ Below w.heap.size w w2 from by
    have hs := H2.out.2.size
    refine ⟨⟨b, t, q, _, _, F1, F3, rfl, g1, by rw [bookV_none]; exact Vm.Pv.new g1.pool.ok res_left, rfl⟩, fun k hk => ?_, H2.out.2.trans (g3.below (fun k hf => H2.out.1 k (hf.elim (fun h => .inr (.inl h)) (fun h => .inr (.inr h)))) hs)⟩
    rcases hk with hk | hk | hk
    · exact H2.out.1 k (.inl hk)
    · exact H2.out.1 k (.inr (.inl hk))
    · rcases g2 k hk with h | h
      · exact H2.out.1 k (.inr (.inr h))
      · omega)
  clear g1 g2 g3 HR H2
  go_wp2_with (first | (go_at_call 14; refine (HNUM.out _ _).mono ?_; rintro e u0 ⟨rfl, rfl⟩))
  go_ret2
  exact ⟨_, _, rfl, HFIN.out.1, HFIN.out.2.1, HFIN.out.2.2⟩
section
variable {w : World} {v : Value} {B : Bks} {n : Nat} {F : Nat → Prop} {f : Byts}
theorem seen_fine {V : Int → Option Vm.Bys} {g : Nat → Bool} (hg : ∀ z : Nat, (V (z : Int)).isSome = true → g z = true) : ∀ (k a : Nat), Vm.fineZ V a k → Vm.seenB g a k = true := by
  intro k
  induction k using Nat.strongRecOn with
  | _ k ih =>
    intro a hf
    unfold Vm.seenB
    rcases Nat.eq_zero_or_pos k with rfl | hn
    · rw [Vm.pts_zero]
      rfl
    · rw [Vm.pts_pos hn, List.all_cons, Bool.and_eq_true]
      refine ⟨hg _ (hf a (Nat.le_refl _) (by omega)), ?_⟩
      have := ih (k - min k (256 - a % 256)) (by omega) (a + min k (256 - a % 256)) (fun i h3 h4 => hf i (by omega) (by omega))
      unfold Vm.seenB at this
      exact this
end
end Go.Proofs.YtiahmccchpmdgaaGreatDoor.Me

namespace Go.Proofs.YtiahmccchpmdgaaGreatDoor.Me
open Go.RowKit Go.Shelf
attribute [local go_sem] Oper.semAt_some

/- POKE INTO AN OPEN BOOK; NO TENANT REACHES ONE. -/
section
variable {w : World} {v : Value} {B : Bks} {n : Nat} {F : Nat → Prop} {f : Byts}
theorem hnd_zero {p : Pl} {l : Pg.Tb} {s o k : Nat} (hp : Vm.Pv p l (bookV B) n) (hs : s < 4) (hf : B s = some f) (ho : o + k ≤ 12288) (hk : 1 ≤ k) : Vm.hndE l (256 * (64 * s + 1) + o) (k : Int) = 0 := by
  unfold Vm.hndE Vm.rE
  have e1 : ¬ ¬ (true && Vm.properB (k : Int)) = true := by
    simp only [Vm.properB, Bool.true_and, Bool.and_eq_true, decide_eq_true_eq]
    omega
  have e2 : ¬ ¬ Vm.withinB (256 * (64 * s + 1) + o) (k : Int) = true := by
    simp only [Vm.withinB, Bool.and_eq_true, decide_eq_true_eq]
    omega
  rw [if_neg e1, if_neg e2, Int.toNat_natCast, if_neg]
  intro h
  refine h (seen_fine (V := bookV B) (fun z hz => ?_) k _ (bookV_fine hs hf ho))
  obtain ⟨g, hg⟩ := Option.isSome_iff_exists.1 hz
  obtain ⟨m, i, bs, hl, _⟩ := hp.opn _ g hg
  rw [hl]
  rfl
theorem m_poke (s o : Nat) (bs : List UInt8) (A : Option Addr) (ca : Nat) (h : HasM w v B n F) (hs : s < 4) (hf : B s = some f) (ho : o + bs.length ≤ 12288) (h1 : 1 ≤ bs.length) (hca : bs.length ≤ ca) (hA : Sees w w.heap.size A (byt bs)) (hF : ∀ ad, A = some ad → ¬ F ad.block) :
    Calls Tryz.prog 20 #[v, .int .u32 ((256 * (64 * s + 1) + o : Nat) : Int), .slice A bs.length ca] w fun e w' => e = .returned (.int .i64 0) ∧ Nx HasM w v (upd B s (some (putB f o bs))) n F w' := by
  obtain ⟨b, t, q, l, p, F1, F2, rfl, h, hp, rfl⟩ := h
  have hE := hnd_zero (n := n) hp hs hf ho h1
  refine (Vm.poke_any h (256 * (64 * s + 1) + o) bs.length ca A bs (by omega) rfl hca ⟨hA, fun ad e hne => ?_⟩).mono ?_
  · have := hF ad e
    obtain ⟨ad', e', hlt, _⟩ := hA (fun e2 => hne (by cases bs with | nil => rfl | cons _ _ => cases e2))
    rw [e] at e'
    injection e' with e'
    subst e'
    exact ⟨hlt, fun h => this (.inr (.inl h)), fun h => this (.inr (.inr h)), fun h => this (.inl h)⟩
  · rintro e w' ⟨rfl, hn⟩
    rw [hE]
    refine ⟨rfl, nx_mem hn ?_⟩
    unfold Vm.pokeP
    rw [if_pos hE, ← bookV_put hs hf ho]
    exact Vm.Pv.parts bs.length _ p _ bs hp (bookV_fine hs hf ho) rfl
theorem own_fault {p : Pl} {l : Pg.Tb} {s o owner : Nat} {m : Int} (hp : Vm.Pv p l (bookV B) n) (hs : s < 4) (hf : B s = some f) (ho : o < 48) (hw : owner < 4) : Vm.ownE l (owner : Int) m (256 * (64 * s + 1 + o)) 1 = 190 := by
  unfold Vm.ownE Vm.rE
  have e1 : ¬ ¬ (Vm.ownsB (owner : Int) && Vm.properB 1) = true := by
    simp only [Vm.ownsB, Vm.properB, Bool.and_eq_true, decide_eq_true_eq]
    omega
  have e2 : ¬ ¬ Vm.withinB (256 * (64 * s + 1 + o)) 1 = true := by
    simp only [Vm.withinB, Bool.and_eq_true, decide_eq_true_eq]
    omega
  rw [if_neg e1, if_neg e2, if_pos]
  unfold Vm.seenB
  rw [show (1 : Int).toNat = 1 from rfl, Vm.pts_pos (by omega), List.all_cons, Bool.and_eq_true]
  rintro ⟨h1, _⟩
  simp only at h1
  rw [show (256 * (64 * s + 1 + o)) / 256 = (64 * s + 1 + o) by omega] at h1
  have hb := bookV_at B hs ho
  rw [hf] at hb
  obtain ⟨m', i, bs, hl, _⟩ := hp.opn _ _ hb
  unfold Vm.grantB at h1
  rw [hl] at h1
  simp at h1
end
end Go.Proofs.YtiahmccchpmdgaaGreatDoor.Me

namespace Go.Proofs.YtiahmccchpmdgaaGreatDoor.Vm
open Go.RowKit Go.Shelf Go.Maps Go.Sort
attribute [local go_sem] Oper.semAt_some

/- A STORE THAT IS REFUSED, WHATEVER WAS HANDED IN. -/
set_option maxHeartbeats 1000000 in
theorem store_fault {w : World} {b t q : Nat} {l : Pg.Tb} {p : Pl} {F1 F2 : Nat → Prop} (h : MRep w b t q l p F1 F2) (a n c : Nat) (o : Int) (S : Option Addr) (ha : a < 4294967296) (hE : ownE l o 2 a (n : Int) ≠ 0) :
    Calls Tryz.prog 26 #[bx b, .int .i64 o, .int .u32 (a : Int), .slice S n c] w fun e w' => e = .returned (.int .i64 (ownE l o 2 a (n : Int) : Int)) ∧ MNext w b t q l p F1 F2 w' := by
  have hbb := below1 w (.cells #[.int .u32 (a : Int), .int .i64 (n : Int)] 123)
  have HO := Lib.hid (owned_any (h.below hbb) a (n : Int) o 2 ha)
  have HM := Lib.hid (fun W (hb : Below (w.alloc (.cells #[.int .u32 (a : Int), .int .i64 (n : Int)] 123)).heap.size (w.alloc (.cells #[.int .u32 (a : Int), .int .i64 (n : Int)] 123)) W) => MNext.same h (below0 hbb hb))
  obtain ⟨E, hE2⟩ : ∃ E, E = ownE l o 2 a (n : Int) := ⟨_, rfl⟩
  rw [← hE2] at HO hE ⊢
  have e0 : (((E : Int)) == 0) = false := by rw [beq_eq_false_iff_ne]; omega
  have e1 : ¬ ((E : Int) = 0) := by omega
  clear h hbb hE hE2
  go_enter Tryz.func26, Tryz.ntmps26
  go_wp2_with fail
  refine wp_scope_jump 1 fun R hR hJm => ?_
  go_wp2_with fail
  refine (HO.out).mono ?_
  rintro e W1 ⟨rfl, hb1⟩
  have HF := Lib.hid (HM.out _ hb1)
  clear hb1 HM
  go_wp2_with fail
  refine wp_goto (hJm.out _ _ _ _ _ rfl ?_)
  go_wp2_with fail
  refine hR.out _ _ _ _ (by simp) ?_
  go_ret
  exact ⟨rfl, HF.out⟩
end Go.Proofs.YtiahmccchpmdgaaGreatDoor.Vm

namespace Go.Proofs.YtiahmccchpmdgaaGreatDoor.Me
open Go.RowKit Go.Shelf
attribute [local go_sem] Oper.semAt_some

/- NO TENANT READS OR WRITES AN OPEN BOOK. -/
section
variable {w : World} {v : Value} {B : Bks} {n : Nat} {F : Nat → Prop} {f : Byts}
theorem m_load (s o owner : Nat) (h : HasM w v B n F) (hs : s < 4) (hw : owner < 4) (hf : B s = some f) (ho : o < 48) :
    Calls Tryz.prog 25 #[v, .int .i64 (owner : Int), .int .u32 ((256 * (64 * s + 1 + o) : Nat) : Int), .int .i64 1] w fun e w' => ∃ x, e = .returned (.tuple #[x, .int .i64 190]) ∧ Nx HasM w v B n F w' := by
  obtain ⟨b, t, q, l, p, F1, F2, rfl, h, hp, rfl⟩ := h
  have hE := own_fault (m := 1) hp hs hf ho hw
  have := Vm.load_any h (256 * (64 * s + 1 + o)) 1 (owner : Int) (by omega)
  rw [hE] at this
  refine this.mono ?_
  rintro e w' ⟨A, m, c, rfl, _, _, hb⟩
  exact ⟨_, rfl, nx_mem (Vm.MNext.same h hb) hp⟩
theorem m_store (s o owner : Nat) (A : Option Addr) (ca : Nat) (h : HasM w v B n F) (hs : s < 4) (hw : owner < 4) (hf : B s = some f) (ho : o < 48) :
    Calls Tryz.prog 26 #[v, .int .i64 (owner : Int), .int .u32 ((256 * (64 * s + 1 + o) : Nat) : Int), .slice A 1 ca] w fun e w' => e = .returned (.int .i64 190) ∧ Nx HasM w v B n F w' := by
  obtain ⟨b, t, q, l, p, F1, F2, rfl, h, hp, rfl⟩ := h
  have hE := own_fault (m := 2) hp hs hf ho hw
  have := Vm.store_fault h (256 * (64 * s + 1 + o)) 1 ca (owner : Int) A (by omega) (by rw [show ((1 : Nat) : Int) = 1 from rfl, hE]; decide)
  rw [show ((1 : Nat) : Int) = 1 from rfl, hE] at this
  refine this.mono ?_
  rintro e w' ⟨rfl, hn⟩
  exact ⟨rfl, nx_mem hn hp⟩
/-- bytes of an open book, told by Peek -/
theorem m_peek (s o k : Nat) (h : HasM w v B n F) (hs : s < 4) (hf : B s = some f) (ho : o + k ≤ 12288) (hk : 1 ≤ k) :
    Calls Tryz.prog 94 #[v, .int .u32 ((256 * (64 * s + 1) + o : Nat) : Int), .int .i64 (k : Int)] w (Vm.RdA w 0 ((List.range k).map fun j => f (o + j))) := by
  obtain ⟨b, t, q, l, p, F1, F2, rfl, h, hp, rfl⟩ := h
  have hE := hnd_zero (n := n) hp hs hf ho hk
  have := Vm.peek_any h (256 * (64 * s + 1) + o) (k : Int) (by omega)
  rw [hE, if_pos rfl, Int.toNat_natCast, hp.rd k _ (bookV_fine hs hf ho)] at this
  have e : ((List.range k).map fun j => Vm.byZ (bookV B) (256 * (64 * s + 1) + o + j)) = (List.range k).map fun j => f (o + j) := by
    apply List.map_congr_left
    intro j hj
    rw [List.mem_range] at hj
    rw [Nat.add_assoc]
    exact bookV_byte hs hf (by omega)
  rw [e] at this
  exact this
end
end Go.Proofs.YtiahmccchpmdgaaGreatDoor.Me

namespace Go.Proofs.YtiahmccchpmdgaaGreatDoor.Me
open Go.RowKit Go.Shelf
attribute [local go_sem] Oper.semAt_some

/- A MEMORY BY PAGES, AS IT LIES: A PAGE IS MAPPED, UNMAPPED; WHAT IS TOLD WHERE IT MAY NOT BE. -/
def HasV (w : World) (v : Value) (V : Int → Option Vm.Bys) (n : Nat) (F : Nat → Prop) : Prop := ∃ b t q l p F1 F2, v = bx b ∧ Vm.MRep w b t q l p F1 F2 ∧ Vm.Pv p l V n ∧ F = fun k => k = b ∨ F1 k ∨ F2 k
def NxV (w : World) (v : Value) (V : Int → Option Vm.Bys) (n : Nat) (F : Nat → Prop) (w' : World) : Prop := ∃ F', HasV w' v V n F' ∧ Keep F w w' ∧ ∀ k, F' k → F k ∨ w.heap.size ≤ k
theorem nx_v {w w' : World} {b t q : Nat} {l' : Pg.Tb} {p' : Pl} {F1 F2 : Nat → Prop} {V' : Int → Option Vm.Bys} {n' : Nat} (hn : Vm.MNext w b t q l' p' F1 F2 w') (hp : Vm.Pv p' l' V' n') : NxV w (bx b) V' n' (fun k => k = b ∨ F1 k ∨ F2 k) w' := by
  obtain ⟨F3, h1, h2, h3⟩ := hn
  refine ⟨_, ⟨b, t, q, l', p', F1, F3, rfl, h1, hp, rfl⟩, h3.mono (fun k _ hk => .inr hk), fun k hk => ?_⟩
  rcases hk with hk | hk | hk
  · exact .inl (.inl hk)
  · exact .inl (.inr (.inl hk))
  · rcases h2 k hk with h | h
    · exact .inl (.inr (.inr h))
    · exact .inr h
section
variable {w w' w2 : World} {v : Value} {V V' V2 : Int → Option Vm.Bys} {n n' n2 : Nat} {F : Nat → Prop}
theorem NxV.refl (h : HasV w v V n F) (hb : Below w.heap.size w w') : NxV w v V n F w' := by
  obtain ⟨b, t, q, l, p, F1, F2, rfl, h, hp, rfl⟩ := h
  exact nx_v (Vm.MNext.same h hb) hp
/-- two steps are one -/
theorem NxV.trans (h : NxV w v V n F w') (h2 : ∀ F', HasV w' v V n F' → NxV w' v V2 n2 F' w2) : NxV w v V2 n2 F w2 := by
  obtain ⟨F', a1, a2, a3⟩ := h
  obtain ⟨F2, b1, b2, b3⟩ := h2 F' a1
  have hs := a2.size
  refine ⟨F2, b1, ⟨b2.os.trans a2.os, b2.tape.trans a2.tape, b2.output.trans a2.output, Nat.le_trans hs b2.size, fun k hk hf => ?_⟩, fun k hk => ?_⟩
  · refine (b2.block k (by omega) (fun h' => ?_)).trans (a2.block k hk hf)
    rcases a3 k h' with h9 | h9
    · exact hf h9
    · omega
  · rcases b3 k hk with h9 | h9
    · exact a3 k h9
    · exact .inr (by omega)
theorem v_map {z m : Int} (h : HasV w v V n F) (hz : Pg.pageB z = true) (hm : Pg.mayB m = true) (hv : V z = none) (hn : 0 < n) :
    Calls Tryz.prog 59 #[v, .int .i64 z, .int .i64 (-1), .int .i64 63, .int .i64 m] w fun e w' => e = .returned (.int .i64 0) ∧ NxV w v (Vm.upz V z (some fun _ => 0)) (n - 1) F w' := by
  obtain ⟨b, t, q, l, p, F1, F2, rfl, h, hp, rfl⟩ := h
  obtain ⟨h1, h2⟩ := hp.map hz hm hv hn
  have hm64 : Pg.I64 m := by
    simp only [Pg.mayB, Bool.and_eq_true, decide_eq_true_eq] at hm
    unfold Pg.I64
    omega
  have := Vm.map_any h z (-1) 63 m (by unfold Pg.I64; omega) hm64
  rw [h1] at this
  refine this.mono ?_
  rintro e w' ⟨rfl, hn⟩
  exact ⟨rfl, nx_v hn h2⟩
theorem v_unmap {z : Int} {g : Vm.Bys} (h : HasV w v V n F) (hz : Pg.pageB z = true) (hv : V z = some g) :
    Calls Tryz.prog 80 #[v, .int .i64 z] w fun e w' => e = .returned (.int .i64 0) ∧ NxV w v (Vm.upz V z none) (n + 1) F w' := by
  obtain ⟨b, t, q, l, p, F1, F2, rfl, h, hp, rfl⟩ := h
  obtain ⟨h1, h2⟩ := hp.unmap hz hv
  have := Vm.unmap_any h z
  rw [h1] at this
  refine this.mono ?_
  rintro e w' ⟨rfl, hn⟩
  exact ⟨rfl, nx_v hn h2⟩
end
end Go.Proofs.YtiahmccchpmdgaaGreatDoor.Me

namespace Go.Proofs.YtiahmccchpmdgaaGreatDoor
open Go.RowKit Go.Shelf Go.Maps Go.Sort
attribute [local go_sem] Oper.semAt_some

/- WHAT A PAYER HAS LEFT; A PAGE'S ENTRY. -/
set_option maxHeartbeats 1000000 in
theorem Reserved_yes {b : Nat} {p : Pl} {F : Nat → Prop} {w : World} (h : Has w b p F) (o : Nat) (ho : o < 64) : Calls Tryz.prog 98 #[bx b, .int .i64 (o : Int)] w fun e w' => e = .returned (.tuple #[.int .i64 (resN p o : Int), .int .i64 (taken p.fr o : Int)]) ∧ Below w.heap.size w w' := by
  obtain ⟨bm, fv, sv, fb, gf, gs, hr, rfl⟩ := h
  have h1 := Lib.hid (there_map b bm w hr.c1)
  have h2 := Lib.hid (known_any (o : Int) w)
  have hob : ownerB (o : Int) = true := by unfold ownerB; rw [decide_eq_true (by omega), decide_eq_true (by omega)]; rfl
  rw [hob] at h2
  have H3 := Lib.hid (fun W (hb : Below w.heap.size w W) => (show Calls Tryz.prog 155 #[bx b, .int .i64 (o : Int)] W (fun e w' => e = .returned (.int .i64 (resN p o : Int)) ∧ Below w.heap.size w w') from (reserved_any (hr.below hb) ho).mono fun e w' ⟨e1, e2⟩ => ⟨e1, below0 hb e2⟩))
  have H4 := Lib.hid (fun W (hb : Below w.heap.size w W) => (show Calls Tryz.prog 153 #[bx b, .int .i64 (o : Int)] W (fun e w' => e = .returned (.int .i64 (taken p.fr o : Int)) ∧ Below w.heap.size w w') from (has_any (o := o) (hr.below hb)).mono fun e w' ⟨e1, e2⟩ => ⟨e1, below0 hb e2⟩))
  have hdr := Lib.hid (show Below w.heap.size w w.drew from (Below.refl _ _).drew)
  obtain ⟨x, hx⟩ : ∃ x, x = resN p o := ⟨_, rfl⟩
  obtain ⟨y, hy⟩ : ∃ y, y = taken p.fr o := ⟨_, rfl⟩
  rw [← hx] at H3 ⊢
  rw [← hy] at H4 ⊢
  clear hx hy hr ho hob
  go_enter Tryz.func98, Tryz.ntmps98
  go_wp2_with fail
  refine (h1.out).mono ?_
  rintro e w1 ⟨rfl, rfl⟩
  go_wp2_with fail
  refine (h2.out).mono ?_
  rintro e w2 ⟨rfl, rfl⟩
  go_wp2_with fail
  go_region_held3 (fun W => Below w.heap.size w W) (first | exact hdr.out | assumption)
    (first | (go_at_call 155; refine (H3.out _ (by first | exact hdr.out | assumption)).mono ?_; rintro e w2 ⟨rfl, hb2⟩) | (go_at_call 153; refine (H4.out _ (by first | exact hdr.out | assumption)).mono ?_; rintro e w3 ⟨rfl, hb3⟩))
  all_goals
    go_wp2
    go_ret2
    exact ⟨rfl, by assumption⟩
end Go.Proofs.YtiahmccchpmdgaaGreatDoor

namespace Go.Proofs.YtiahmccchpmdgaaGreatDoor.Me
open Go.RowKit Go.Shelf
attribute [local go_sem] Oper.semAt_some
section
variable {w : World} {v : Value} {V : Int → Option Vm.Bys} {n : Nat} {F : Nat → Prop}
theorem res_sub (p : Pl) (o : Nat) : (resN p o : Int) - (taken p.fr o : Int) = (leftN p o : Int) := by unfold resN; omega
theorem v_left (h : HasV w v V n F) : Calls Tryz.prog 57 #[v, .int .i64 63] w fun e w' => e = .returned (.int .i64 (n : Int)) ∧ Below w.heap.size w w' := by
  obtain ⟨b, t, q, l, p, F1, F2, rfl, h, hp, rfl⟩ := h
  have h1 := Lib.hid (Vm.frames_any b q w h.c1)
  have h2 := Lib.hid (Reserved_yes h.pool 63 (by omega))
  have hs := res_sub p 63
  rw [hp.left] at hs
  have hok := hp.ok
  have hn : n ≤ 16384 := by
    have h3 := sum_ge p.left 63 _ (hok.left_get (o := 63) (by omega))
    have h4 := hok.sum
    have h5 := hok.most
    have h6 := hp.left
    omega
  have ew : IntKind.i64.wrap ((resN p 63 : Int) - (taken p.fr 63 : Int)) = (n : Int) := by rw [hs]; exact wrapI _ (by omega) (by omega)
  obtain ⟨x, hx⟩ : ∃ x, x = resN p 63 := ⟨_, rfl⟩
  obtain ⟨y, hy⟩ : ∃ y, y = taken p.fr 63 := ⟨_, rfl⟩
  rw [← hx, ← hy] at h2 ew
  clear hx hy hs h hp hok hn
  go_enter Tryz.func57, Tryz.ntmps57
  go_wp2_with fail
  refine h1.out.mono ?_
  rintro e w1 ⟨rfl, rfl⟩
  go_wp2_with fail
  refine h2.out.mono ?_
  rintro e w2 ⟨rfl, hb⟩
  have HB := Lib.hid hb
  clear hb
  go_wp2_with fail
  go_ret
  exact ⟨rfl, HB.out⟩
end
end Go.Proofs.YtiahmccchpmdgaaGreatDoor.Me

namespace Go.Proofs.YtiahmccchpmdgaaGreatDoor.Me
open Go.RowKit Go.Shelf
attribute [local go_sem] Oper.semAt_some

/- GET OF A PAGE: IS IT MAPPED? -/
section
variable {w : World} {v : Value} {V : Int → Option Vm.Bys} {n : Nat} {F : Nat → Prop}
theorem look_some (h : HasV w v V n F) (z : Int) : ∃ l t q b p F1 F2, v = bx b ∧ Vm.MRep w b t q l p F1 F2 ∧ (Pg.look l z).isSome = (V z).isSome ∧ ((V z).isSome = true → (Pg.getX l z).1 = -1) := by
  obtain ⟨b, t, q, l, p, F1, F2, rfl, h, hp, rfl⟩ := h
  refine ⟨l, t, q, b, p, F1, F2, rfl, h, ?_⟩
  cases hv : V z with
  | none =>
    rw [hp.shut z hv]
    exact ⟨rfl, fun e => by simp at e⟩
  | some g =>
    obtain ⟨m, i, bs, hl, _⟩ := hp.opn z g hv
    exact ⟨by rw [hl]; rfl, fun _ => by unfold Pg.getX; rw [hl]; rfl⟩
set_option maxHeartbeats 1000000 in
theorem v_get (h : HasV w v V n F) (z : Int) (hz : Pg.I64 z) : Calls Tryz.prog 185 #[v, .int .i64 z] w fun e w' => ∃ x y i, e = .returned (.tuple #[.agg #[.int .i64 x, .int .i64 y, .int .i64 i], .bool (V z).isSome]) ∧ ((V z).isSome = true → x = -1) ∧ Below w.heap.size w w' := by
  obtain ⟨l, t, q, b, p, F1, F2, rfl, h, hs, hown⟩ := look_some h z
  obtain ⟨W1, hW1⟩ : ∃ W1, W1 = w.alloc (.cells #[.int .i64 0, .int .i64 0, .int .i64 0] 181) := ⟨_, rfl⟩
  have hb1 : Below w.heap.size w W1 := by rw [hW1]; exact below1 _ _
  have hr1 : Row W1 w.heap.size 181 [.int .i64 0, .int .i64 0, .int .i64 0] := by rw [hW1]; exact Row.new w _ _
  have h' := h.below hb1
  have h1 := Lib.hid (Vm.entries_any b t q W1 h'.c0 h'.c1)
  have h2 := Lib.hid (Vm.get_any h'.tab z hz)
  rw [hs] at h2
  obtain ⟨X, hX⟩ : ∃ X, X = Pg.getX l z := ⟨_, rfl⟩
  rw [← hX] at h2 hown
  obtain ⟨x, y, i⟩ := X
  obtain ⟨tf, htf⟩ : ∃ tf, tf = (V z).isSome := ⟨_, rfl⟩
  rw [← htf] at h2 hown ⊢
  have HOWN := Lib.hid hown
  replace h2 : Hid (Calls Tryz.prog 186 #[bx t, .int .i64 z] W1 fun e w' => e = .returned (.tuple #[.agg #[.int .i64 x, .int .i64 y, .int .i64 i], .bool tf]) ∧ Below W1.heap.size W1 w') := h2
  have HR1 := Lib.hid hr1
  have HB1 := Lib.hid hb1
  have HW1 := Lib.hid hW1
  clear h h' hs hX htf hr1 hb1 hW1 hown
  go_enter Tryz.func185, Tryz.ntmps185
  go_wp2_with fail
  rw [← HW1.out]
  refine h1.out.mono ?_
  rintro e w1 ⟨rfl, rfl⟩
  go_wp2_with fail
  refine h2.out.mono ?_
  rintro e w2 ⟨rfl, hb⟩
  have hr := HR1.out.below hb
  have f0 := hr.frozen 0
  have f1 := hr.frozen 1
  have f2 := hr.frozen 2
  have c0 : w2.cell? ⟨w.heap.size, 0, none⟩ = some (.int .i64 0) := hr.cell 0
  have c1 : w2.cell? ⟨w.heap.size, 1, none⟩ = some (.int .i64 0) := hr.cell 1
  have c2 : w2.cell? ⟨w.heap.size, 2, none⟩ = some (.int .i64 0) := hr.cell 2
  obtain ⟨k0, k1, k2, k3⟩ := three_set hr (below0 HB1.out hb) (by omega) (Value.int .i64 x) (Value.int .i64 y) (Value.int .i64 i)
  have HK := Lib.hid (And.intro k0 (And.intro k1 (And.intro k2 k3)))
  clear k0 k1 k2 k3 hb
  go_wp2_with fail
  obtain ⟨k0, k1, k2, k3⟩ := HK.out
  exact bodyPost_ret (v := .tuple #[.agg #[Value.int .i64 x, Value.int .i64 y, Value.int .i64 i], .bool tf]) (by simp [results, Tryz.results185, go_sem, k0, k1, k2]) rfl ⟨x, y, i, rfl, HOWN.out, k3⟩
end
end Go.Proofs.YtiahmccchpmdgaaGreatDoor.Me

namespace Go.Proofs.YtiahmccchpmdgaaGreatDoor.Vm
open Go.RowKit Go.Shelf Go.Maps Go.Sort
attribute [local go_sem] Oper.semAt_some

/- A MEMORY ASKED: A PAGE THAT THERE IS NOT; NO MEMORY. -/
set_option maxRecDepth 100000 in
set_option maxHeartbeats 2000000 in
theorem map_low {w : World} {b t q : Nat} {l : Pg.Tb} {p : Pl} {F1 F2 : Nat → Prop} (h : MRep w b t q l p F1 F2) (z o y m : Int) (hE : mqE l z o y m ≠ 0) :
    Calls Tryz.prog 59 #[bx b, .int .i64 z, .int .i64 o, .int .i64 y, .int .i64 m] w fun e w' => e = .returned (.int .i64 (mqE l z o y m : Int)) ∧ Below w.heap.size w w' := by
  have HQ := Lib.hid ((mq_asked h z o y m).mono fun e w' ⟨e1, e2⟩ => (show e = Ending.returned (Value.int .i64 (mqE l z o y m : Int)) ∧ Below w.heap.size w w' from ⟨e1, e2.below⟩))
  obtain ⟨E, hE2⟩ : ∃ E, E = mqE l z o y m := ⟨_, rfl⟩
  rw [← hE2] at HQ hE ⊢
  have e0 : (((E : Int)) == 0) = false := by rw [beq_eq_false_iff_ne]; omega
  have e1 : ¬ ((E : Int) = 0) := by omega
  clear hE2 h hE
  go_enter Tryz.func59, Tryz.ntmps59
  go_wp2_with fail
  refine wp_scope_jump 1 fun R hR hJm => ?_
  go_wp2_with fail
  refine (HQ.out).mono ?_
  rintro e w1 ⟨rfl, hn⟩
  have HN := Lib.hid hn
  clear hn HQ
  go_wp2_with fail
  refine wp_goto (hJm.out _ _ _ _ _ rfl ?_)
  go_wp2_with fail
  refine hR.out _ _ _ _ (by simp) ?_
  go_ret
  exact ⟨rfl, HN.out⟩
theorem there_nil (w : World) : Calls Tryz.prog 100 #[.pointer none] w fun e w' => e = .returned (.bool false) ∧ w = w' := by
  go_enter Tryz.func100, Tryz.ntmps100
  go_wp2
  go_ret
  exact ⟨rfl, rfl⟩
theorem rch_nil {w : World} (a : Nat) (n : Int) (may : Bool) (fv : Value) (qs : List Ask) (hl : qs.length = 3) :
    Calls Tryz.prog 99 #[.slice (some ⟨w.heap.size + 3, 0, none⟩) 4 4] (askW w (rchB a n may fv) (⟨100, #[.pointer none], #[], 1, false⟩ :: qs)) fun e w' => e = .returned (.int .i64 1) ∧ Below w.heap.size w w' := by
  refine (asked_box (rchB a n may fv) (⟨100, #[.pointer none], #[], 1, false⟩ :: qs) 4 4 _ rfl (by simp [hl]) (by omega) fun k hk hall => ?_).mono fun e w' ⟨e1, e2, _⟩ => ⟨e1, e2.below⟩
  rcases k with _ | k
  · refine ⟨enters_of Tryz.func100 (by kernel_rfl) rfl, fun V hV => ?_⟩
    exact (there_nil V).mono fun e w' ⟨e1, e2⟩ => ⟨e1, e2 ▸ Below.refl _ _⟩
  · exact absurd (hall 0 (by simp) (by omega)) (by simp)
set_option maxHeartbeats 1000000 in
theorem reached_nil {w : World} (a : Nat) (n : Int) (may : Bool) (cf : Nat) (cap : Array Value) :
    Calls Tryz.prog 111 #[.pointer none, .agg #[.int .u32 (a : Int), .int .i64 n], .bool may, .func (.func cf) #[] cap] w fun e w' => e = .returned (.int .i64 1) ∧ Below w.heap.size w w' := by
  have h1 := Lib.hid (rch_nil (w := w) a n may (.func (.func cf) #[] cap) [⟨202, #[], #[bx (w.heap.size + 1), bx w.heap.size], 2, true⟩, ⟨204, #[.agg #[.int .u32 (a : Int), .int .i64 n]], #[], 4, true⟩, ⟨205, #[], #[bx w.heap.size, bx (w.heap.size + 2)], 190, true⟩] rfl)
  go_enter Tryz.func111, Tryz.ntmps111
  go_wp2_with fail
  refine (h1.out).mono ?_
  rintro e w1 ⟨rfl, hb⟩
  go_wp2_with fail
  go_ret
  exact ⟨rfl, hb⟩
set_option maxHeartbeats 1000000 in
theorem handed_nil {w : World} (a : Nat) (n : Int) :
    Calls Tryz.prog 60 #[.pointer none, .agg #[.int .u32 (a : Int), .int .i64 n]] w fun e w' => e = .returned (.int .i64 1) ∧ Below w.heap.size w w' := by
  go_enter Tryz.func60, Tryz.ntmps60
  go_wp2_with fail
  refine (reached_nil a n _ _ _).mono ?_
  rintro e w1 ⟨rfl, hb⟩
  go_wp2_with fail
  go_ret
  exact ⟨rfl, (((Below.refl w.heap.size w).alloc (Nat.le_refl _) _).alloc (by simp) _).trans (hb.mono (by simp; omega))⟩
set_option maxHeartbeats 1000000 in
theorem peek_nil {w : World} (a : Nat) (n : Int) :
    Calls Tryz.prog 94 #[.pointer none, .int .u32 (a : Int), .int .i64 n] w fun e w' => e = .returned (.tuple #[.slice none 0 0, .int .i64 1]) ∧ Below w.heap.size w w' := by
  go_enter Tryz.func94, Tryz.ntmps94
  go_wp2_with fail
  refine wp_scope_jump 1 fun R hR hJm => ?_
  go_wp2_with fail
  refine (handed_nil a n).mono ?_
  rintro e w1 ⟨rfl, hb⟩
  go_wp2_with fail
  refine wp_goto (hJm.out _ _ _ _ _ rfl ?_)
  go_wp2_with fail
  refine hR.out _ _ _ _ (by simp) ?_
  exact bodyPost_ret (v := .tuple #[.slice none 0 0, .int .i64 1]) (by simp [results, Tryz.results94, go_sem]) rfl ⟨rfl, (below1 _ _).trans (hb.mono (by simp))⟩
end Go.Proofs.YtiahmccchpmdgaaGreatDoor.Vm

namespace Go.Proofs.YtiahmccchpmdgaaGreatDoor.Me
open Go.RowKit Go.Shelf
attribute [local go_sem] Oper.semAt_some

/- METASPOILS OVER ANY BOOKS: WHAT STANDS THERE, AND IS NO RECORD, IS TOLD. -/
theorem putB_in (f : Byts) (o : Nat) (bs : List UInt8) (k : Nat) (h : k < bs.length) : putB f o bs (o + k) = bs.getD k 0 := by
  unfold putB
  rw [if_pos ⟨by omega, by omega⟩, Nat.add_sub_cancel_left]
theorem putB_in0 (f : Byts) (o : Nat) (bs : List UInt8) (h : 0 < bs.length) : putB f o bs o = bs.getD 0 0 := putB_in f o bs 0 h
theorem putB_out (f : Byts) (o : Nat) (bs : List UInt8) (k : Nat) (h : k < o ∨ o + bs.length ≤ k) : putB f o bs k = f k := by
  unfold putB
  rw [if_neg (by omega)]
theorem upd_same (B : Bks) (s : Nat) (x : Option Byts) : upd B s x s = x := by unfold upd; rw [if_pos rfl]
theorem upd_other (B : Bks) (s k : Nat) (x : Option Byts) (h : k ≠ s) : upd B s x k = B k := by unfold upd; rw [if_neg h]
theorem upd_upd (B : Bks) (s : Nat) (x y : Option Byts) : upd (upd B s x) s y = upd B s y := by
  funext k
  unfold upd
  by_cases h : k = s
  · rw [if_pos h, if_pos h]
  · rw [if_neg h, if_neg h, if_neg h]
theorem rec_in (f : Byts) (o : Nat) (x0 x1 x2 x3 x4 x5 x6 x7 : UInt8) : recAt (putB f o [x0, x1, x2, x3, x4, x5, x6, x7]) o =
    if x0.toNat ≤ 4 ∧ x1 = 0 then some (x0.toNat, x2.toNat + 256 * x3.toNat, (x4.toNat + 256 * x5.toNat) + 65536 * (x6.toNat + 256 * x7.toNat)) else none := by
  unfold recAt le4 le2
  have h := fun k hk => putB_in f o [x0, x1, x2, x3, x4, x5, x6, x7] k hk
  have h0 := putB_in0 f o [x0, x1, x2, x3, x4, x5, x6, x7] (by simp)
  have h1 := h 1 (by simp)
  have h2 := h 2 (by simp)
  have h3 := h 3 (by simp)
  have h4 := h 4 (by simp)
  have h5 := h 5 (by simp)
  have h6 := h 6 (by simp)
  have h7 := h 7 (by simp)
  simp only [Nat.add_assoc, Nat.reduceAdd]
  rw [h0, h1, h2, h3, h4, h5, h6, h7]
  rfl
theorem or4 (a b c d : Nat) (ha : a < 256) (hb : b < 256) (hc : c < 256) (hd : d < 256) :
    bits .or .u32 (bits .or .u32 (bits .or .u32 (a : Int) ((b : Int) * 256 % 4294967296)) ((c : Int) * 65536 % 4294967296)) ((d : Int) * 16777216 % 4294967296) = ((a + 256 * b + 65536 * (c + 256 * d) : Nat) : Int) := by
  have e1 : (b : Int) * 256 % 4294967296 = ((b * 256 : Nat) : Int) := by omega
  have e2 : (c : Int) * 65536 % 4294967296 = ((c * 65536 : Nat) : Int) := by omega
  have e3 : (d : Int) * 16777216 % 4294967296 = ((d * 16777216 : Nat) : Int) := by omega
  rw [e1, e2, e3, u32_or_nat _ _ (by omega) (by omega), Nat.or_comm a, nat_join 8 _ _ (by omega) (by omega), u32_or_nat _ _ (by omega) (by omega), Nat.or_comm _ (c * 65536), nat_join 16 _ _ (by omega) (by omega), u32_or_nat _ _ (by omega) (by omega), Nat.or_comm _ (d * 16777216), nat_join 24 _ _ (by omega) (by omega)]
  congr 1
  omega
abbrev u8V (x : UInt8) : Value := .int .u8 (x.toNat : Int)
section
variable {T : World → Prop} {Has : HasT} (H : MBase T Has)
include H
theorem MBase.below {w w' : World} {v : Value} {B : Bks} {n : Nat} {F : Nat → Prop} (h : Has w v B n F) (hb : Below w.heap.size w w') : Has w' v B n F := H.keep h fun k hk => hb.block _ (H.lt h k hk)
end
end Go.Proofs.YtiahmccchpmdgaaGreatDoor.Me
