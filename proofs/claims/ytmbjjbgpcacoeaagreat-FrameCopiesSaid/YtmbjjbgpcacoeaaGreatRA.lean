import Derived.Test.YtmbjjbgpcacoeaaGreatPD
import Derived.Test.YtmbjjbgpcacoeaaGreatStr
import Derived.Deep.MidRow
namespace Go.Proofs.YtmbjjbgpcacoeaaGreat
open Go.RowKit Go.Shelf Go.Maps Go.Sort

/- THE DOCUMENT's POOL: FRAMES AS A LIST, BY VALUE. -/

def oi (x : Fr) : Int := match x with | none => -1 | some (o, _) => (o : Int)
def sb (x : Fr) : ByteArray := match x with | none => str [] | some (_, bs) => str bs
def encFr (x : Fr) : List Value := [.int .i64 (oi x), .string (sb x)]
def resV (p : Pl) : List Value := (List.range 64).map fun k => iv (resN p k)
def rc (p : Pl) (A : Option Addr) (n c : Nat) : List Value := .slice A n c :: resV p
def rv (p : Pl) (A : Option Addr) (n c : Nat) : Value := .agg (rc p A n c).toArray
/-- the frames lie at A -/
abbrev Lies (w : World) (A : Option Addr) (fr : List Fr) : Prop := Sees w w.heap.size A (fr.flatMap encFr)
theorem Lies.below {w w' : World} {A : Option Addr} {fr : List Fr} (h : Lies w A fr) (hb : Below w.heap.size w w') : Lies w' A fr := (Sees.below h hb).more hb.size
theorem fr_get : ∀ (l : List Fr) (k j : Nat) (hk : k < l.length), j < 2 → (l.flatMap encFr)[k * 2 + j]? = (encFr l[k])[j]?
  | [], k, _, h, _ => by simp at h
  | x :: r, 0, j, _, hj => by
    rw [List.flatMap_cons, Nat.zero_mul, Nat.zero_add, List.getElem?_append_left (by show j < 2; exact hj)]
    rfl
  | x :: r, k + 1, j, h, hj => by
    have := fr_get r k j (by simpa using h) hj
    rw [List.flatMap_cons, List.getElem?_append_right (by show 2 ≤ _; omega), show (k + 1) * 2 + j - (encFr x).length = k * 2 + j by show (k + 1) * 2 + j - 2 = _; omega]
    exact this
theorem fr_len (l : List Fr) : (l.flatMap encFr).length = l.length * 2 := by
  induction l with
  | nil => rfl
  | cons x r ih =>
    rw [List.flatMap_cons, List.length_append, ih, List.length_cons]
    show 2 + _ = _
    omega
/-- a frame's two cells -/
theorem Lies.at_ {w : World} {fr : List Fr} {A : Option Addr} (h : Lies w A fr) (k : Nat) (hk : k < fr.length) :
    ∃ ad, A = some ad ∧ w.cell? (ad.add (k * 2)) = some (.int .i64 (oi fr[k])) ∧ w.cell? ⟨(ad.add (k * 2)).block, (ad.add (k * 2)).off + 1, none⟩ = some (.string (sb fr[k])) := by
  have hne : fr.flatMap encFr ≠ [] := fun e => by
    have := fr_get fr k 0 hk (by omega)
    rw [e] at this
    simp [encFr] at this
  obtain ⟨ad, hA, _, hc⟩ := h hne
  refine ⟨ad, hA, hc _ _ (fr_get fr k 0 hk (by omega)), ?_⟩
  rw [← add_off ad (k * 2) 1 (by decide)]
  exact hc _ _ (fr_get fr k 1 hk (by omega))
theorem resV_len (p : Pl) : (resV p).length = 64 := by simp [resV]
theorem resV_get (p : Pl) (k : Nat) (hk : k < 64) : (resV p)[k]? = some (iv (resN p k)) := by simp [resV, hk]
theorem rc_len (p : Pl) (A : Option Addr) (n c : Nat) : (rc p A n c).length = 65 := by simp [rc, resV_len]
/-- the box of a pool -/
structure Box (W : World) (g : Nat) (p : Pl) (A : Option Addr) (n c : Nat) : Prop where
  row : Row W g 36 (rc p A n c)
theorem Box.c0 {W : World} {g : Nat} {p : Pl} {A : Option Addr} {n c : Nat} (h : Box W g p A n c) : W.cell? ⟨g, 0, none⟩ = some (.slice A n c) := by rw [h.row.cell]; rfl
theorem Box.ck {W : World} {g : Nat} {p : Pl} {A : Option Addr} {n c k : Nat} (h : Box W g p A n c) (hk : k < 64) : W.cell? ⟨g, 1 + k, none⟩ = some (.int .i64 (resN p k : Int)) := by
  rw [h.row.cell, Nat.add_comm 1 k]
  exact resV_get p k hk
theorem Box.range {W : World} {g : Nat} {p : Pl} {A : Option Addr} {n c : Nat} (h : Box W g p A n c) : W.rangeAt g 0 (rc p A n c) := fun j v hj => by
  rw [h.row.cell, Nat.zero_add]
  exact hj
theorem Box.below {W W' : World} {g : Nat} {p : Pl} {A : Option Addr} {n c : Nat} (h : Box W g p A n c) (hb : Below W.heap.size W W') : Box W' g p A n c := ⟨h.row.below hb⟩
theorem Box.new (W : World) (p : Pl) (A : Option Addr) (n c : Nat) : Box (W.alloc (.cells (rc p A n c).toArray 36)) W.heap.size p A n c := ⟨Row.new _ _ _⟩
theorem refpool_size (p : Pl) (A : Option Addr) (n c : Nat) : (Tryz.prog.info? 36).map (·.size) = some (rc p A n c).length := by rw [rc_len]; kernel_rfl

theorem owner_any (o : Int) (w : World) : Calls Tryz.prog 53 #[.int .i64 o] w fun e w' => e = .returned (.bool (ownerB o)) ∧ w = w' := by
  have e1 : decide (o < 64) = decide (o < 64) := rfl
  by_cases h1 : 0 ≤ o
  · by_cases h2 : o < 64
    · have d1 : decide (0 ≤ o) = true := decide_eq_true h1
      have d2 : decide (o < 64) = true := decide_eq_true h2
      have hE : ownerB o = true := by simp [ownerB, h1, h2]
      rw [hE]
      clear hE
      go_enter Tryz.func53, Tryz.ntmps53
      go_wp2_with fail
      go_ret
      exact ⟨rfl, rfl⟩
    · have d1 : decide (0 ≤ o) = true := decide_eq_true h1
      have d2 : decide (o < 64) = false := decide_eq_false h2
      have hE : ownerB o = false := by simp [ownerB, h2]
      rw [hE]
      clear hE
      go_enter Tryz.func53, Tryz.ntmps53
      go_wp2_with fail
      go_ret
      exact ⟨rfl, rfl⟩
  · have d1 : decide (0 ≤ o) = false := decide_eq_false h1
    have hE : ownerB o = false := by simp [ownerB, h1]
    rw [hE]
    clear hE
    go_enter Tryz.func53, Tryz.ntmps53
    go_wp2_with fail
    go_ret
    exact ⟨rfl, rfl⟩

theorem isO_oi (x : Fr) (k : Nat) : (oi x == (k : Int)) = isO k x := by
  cases x with
  | none => exact beq_eq_false_iff_ne.2 (by simp only [oi]; omega)
  | some y =>
    obtain ⟨o, bs⟩ := y
    show ((o : Int) == (k : Int)) = (o == k)
    by_cases h : o = k
    · subst h; simp
    · rw [beq_eq_false_iff_ne.2 h, beq_eq_false_iff_ne.2 (by omega)]
theorem taken_take {fr : List Fr} {i : Nat} (k : Nat) (hi : i < fr.length) : taken (fr.take (i + 1)) k = taken (fr.take i) k + (if isO k fr[i] then 1 else 0) := by
  unfold taken
  rw [List.take_succ_eq_append_getElem hi, List.countP_append, List.countP_singleton]
set_option maxRecDepth 100000 in
set_option maxHeartbeats 1000000 in
theorem rtaken_any (p : Pl) (A : Option Addr) (n c k : Nat) (w : World) (hl : p.fr.length = n) (hn : n ≤ 16384) (hA : Lies w A p.fr) :
    Calls Tryz.prog 54 #[rv p A n c, .int .i64 (k : Int)] w fun e w' => e = .returned (.int .i64 (taken p.fr k : Int)) ∧ Below w.heap.size w w' := by
  obtain ⟨w1, hw1⟩ : ∃ w1, w1 = w.alloc (.cells (rc p A n c).toArray 36) := ⟨_, rfl⟩
  have hb1 : Below w.heap.size w w1 := hw1 ▸ below1 w _
  have hbx : Box w1 w.heap.size p A n c := hw1 ▸ Box.new w p A n c
  have hc0 := hbx.c0
  have HA := Lib.hid (hA.below hb1)
  have HL := Lib.hid hl
  have HT := Lib.hid (fun i hi => taken_take (fr := p.fr) (i := i) k hi)
  have HB := Lib.hid hb1
  have HX := Lib.hid hw1
  have HM := Lib.hid hn
  have hE : rv p A n c = .agg (rc p A n c).toArray := rfl
  rw [hE]
  obtain ⟨cs, hcs⟩ : ∃ cs, cs = rc p A n c := ⟨_, rfl⟩
  rw [← hcs] at HX ⊢
  obtain ⟨F, hF⟩ : ∃ F, F = p.fr := ⟨_, rfl⟩
  rw [← hF] at HA HL HT ⊢
  clear hcs hF hE hbx hb1 hw1 hA hl hn
  go_enter Tryz.func54, Tryz.ntmps54
  go_wp2_with fail
  go_loopw [5, 6] (fun s5 s6 wr => ∃ i : Nat, i ≤ n ∧ s6 = .int .i64 (i : Int) ∧ s5 = .int .i64 (taken (F.take i) k : Int) ∧ wr = w1) (fun _ s6 _ => n - (_root_.Go.RowKit.intOf s6).toNat)
  case atStart => exact ⟨0, Nat.zero_le _, rfl, rfl, HX.out.symm⟩
  case round =>
    obtain ⟨i, hi, rfl, rfl, rfl⟩ := hrel
    by_cases hlt : i < n
    · have hil : i < F.length := by rw [HL.out]; exact hlt
      have ht := HT.out i hil
      have ho := isO_oi F[i] k
      obtain ⟨ad, rfl, c1, _⟩ := HA.out.at_ i hil
      have i0 : (0 : Int) ≤ (i : Int) := by omega
      have i1 : (i : Int) < (n : Int) := by omega
      have i2 : i < 16384 := by have := HM.out; omega
      have e0 : decide ((i : Int) < (n : Int)) = true := decide_eq_true i1
      have hle : taken (F.take i) k ≤ 16384 := Nat.le_trans (List.countP_le_length) (by rw [List.length_take]; have := HM.out; omega)
      obtain ⟨x, hx⟩ : ∃ x, x = oi F[i] := ⟨_, rfl⟩
      obtain ⟨t, htt⟩ : ∃ t, t = taken (F.take i) k := ⟨_, rfl⟩
      rw [← hx] at c1 ho
      rw [← htt] at ht hle ⊢
      cases hq : isO k F[i] with
      | true =>
        rw [hq] at ho ht
        rw [if_pos rfl] at ht
        have HQ := Lib.hid ht
        clear hx htt ht hq
        go_wp2
        go_roundw
        case rel => exact ⟨i + 1, by omega, by go_num, by rw [HQ.out]; go_num, trivial⟩
        case measure => simp [_root_.Go.RowKit.intOf]; omega
      | false =>
        rw [hq] at ho ht
        rw [if_neg (by decide), Nat.add_zero] at ht
        have HQ := Lib.hid ht
        clear hx htt ht hq
        go_wp2
        go_roundw
        case rel => exact ⟨i + 1, by omega, by go_num, by rw [HQ.out]; rfl, trivial⟩
        case measure => simp [_root_.Go.RowKit.intOf]; omega
    · obtain rfl : i = n := by omega
      have he : F.take i = F := List.take_of_length_le (by rw [HL.out]; exact Nat.le_refl _)
      have HE := Lib.hid he
      clear he
      go_wp2
      go_ret
      exact ⟨by rw [HE.out]; rfl, HB.out⟩

/-! Room -/
theorem sum_resN (p : Pl) (h : p.ok) : ((List.range 64).map (resN p)).sum = p.left.sum + used p.fr := by
  have h1 : p.left = (List.range 64).map (leftN p) := by
    apply List.ext_getElem
    · simp [h.l64]
    · intro i h1 h2
      have := h.left_get (o := i) (by rw [← h.l64]; exact h1)
      rw [List.getElem?_eq_getElem h1] at this
      injection this with this
      simp [this]
  have h2 : ∀ fr : List Fr, (∀ o bs, some (o, bs) ∈ fr → o < 64) → ((List.range 64).map (taken fr)).sum = used fr := by
    intro fr
    induction fr with
    | nil => intro _; decide
    | cons x r ih =>
      intro hx
      have ih := ih fun o bs hm => hx o bs (List.mem_cons_of_mem _ hm)
      have e1 : (List.range 64).map (taken (x :: r)) = (List.range 64).map fun k => taken r k + (if isO k x then 1 else 0) := by
        refine List.map_congr_left fun k _ => ?_
        simp [taken, List.countP_cons]
      have e2 : ∀ (l : List Nat) (f g : Nat → Nat), (l.map fun k => f k + g k).sum = (l.map f).sum + (l.map g).sum := by
        intro l f g
        induction l with
        | nil => rfl
        | cons a l ih => simp [ih]; omega
      rw [e1, e2, ih]
      cases x with
      | none =>
        have : ((List.range 64).map fun k => if isO k (none : Fr) then 1 else 0).sum = 0 := by decide
        rw [this]
        simp [used]
      | some y =>
        obtain ⟨o, bs⟩ := y
        have ho := hx o bs (List.mem_cons_self ..)
        have e3 : ∀ (n : Nat), ((List.range n).map fun k => if isO k (some (o, bs)) then 1 else 0).sum = if o < n then 1 else 0 := by
          intro n
          induction n with
          | zero => rfl
          | succ n ih =>
            rw [List.range_succ, List.map_append, List.sum_append, ih]
            simp only [List.map_cons, List.map_nil, List.sum_cons, List.sum_nil, isO, beq_iff_eq, Nat.add_zero]
            by_cases g1 : o < n
            · rw [if_pos g1, if_neg (by omega), if_pos (by omega)]
            · by_cases g2 : o = n
              · rw [if_neg g1, if_pos g2, if_pos (by omega)]
              · rw [if_neg g1, if_neg g2, if_neg (by omega)]
        rw [e3 64, if_pos ho]
        simp [used]
  have e2 : ∀ (l : List Nat) (f g : Nat → Nat), (l.map fun k => f k + g k).sum = (l.map f).sum + (l.map g).sum := by
    intro l f g
    induction l with
    | nil => rfl
    | cons a l ih => simp [ih]; omega
  show ((List.range 64).map fun k => leftN p k + taken p.fr k).sum = _
  rw [e2, ← h1, h2 p.fr fun o bs hm => (h.own o bs hm).1]
def resS (p : Pl) (i : Nat) : Nat := ((List.range i).map (resN p)).sum
theorem resS_succ (p : Pl) (i : Nat) : resS p (i + 1) = resS p i + resN p i := by simp [resS, List.range_succ]
theorem resS_le (p : Pl) (h : p.ok) : ∀ i, i ≤ 64 → resS p i ≤ p.fr.length := by
  have h64 : resS p 64 ≤ p.fr.length := by
    unfold resS
    rw [sum_resN p h]
    have := h.sum
    omega
  have hm : ∀ d i, i + d = 64 → resS p i ≤ resS p 64 := by
    intro d
    induction d with
    | zero => intro i hi; rw [show i = 64 by omega]; exact Nat.le_refl _
    | succ d ih =>
      intro i hi
      have h1 := ih (i + 1) (by omega)
      have h2 := resS_succ p i
      omega
  intro i hi
  exact Nat.le_trans (hm (64 - i) i (by omega)) h64
theorem resS_room (p : Pl) (h : p.ok) : p.fr.length - resS p 64 = p.room := by
  unfold resS Pl.room
  rw [sum_resN p h]
  omega
set_option maxRecDepth 100000 in
set_option maxHeartbeats 1000000 in
theorem rroom_any (p : Pl) (A : Option Addr) (n c : Nat) (w : World) (hl : p.fr.length = n) (hok : p.ok) :
    Calls Tryz.prog 56 #[rv p A n c] w fun e w' => e = .returned (.int .i64 (p.room : Int)) ∧ Below w.heap.size w w' := by
  obtain ⟨w1, hw1⟩ : ∃ w1, w1 = w.alloc (.cells (rc p A n c).toArray 36) := ⟨_, rfl⟩
  have hb1 : Below w.heap.size w w1 := hw1 ▸ below1 w _
  have hbx : Box w1 w.heap.size p A n c := hw1 ▸ Box.new w p A n c
  have hc0 := hbx.c0
  have HB := Lib.hid hb1
  have HX := Lib.hid hw1
  have hn := hok.most
  rw [hl] at hn
  have hs0 : ∀ i, resS p (i + 1) = resS p i + resN p i := fun i => resS_succ p i
  have hz0 : resS p 0 = 0 := rfl
  have hle0 : ∀ i, i ≤ 64 → resS p i ≤ n := by
    intro i hi
    rw [← hl]
    exact resS_le p hok i hi
  have hr0 : n - resS p 64 = p.room := by
    rw [← hl]
    exact resS_room p hok
  obtain ⟨rs, hrs⟩ : ∃ rs, rs = resS p := ⟨_, rfl⟩
  obtain ⟨rn, hrn⟩ : ∃ rn, rn = resN p := ⟨_, rfl⟩
  have hck : ∀ k, k < 64 → w1.cell? ⟨w.heap.size, 1 + k, none⟩ = some (.int .i64 (resN p k : Int)) := fun k hk => hbx.ck hk
  rw [← hrs] at hle0 hr0 hs0 hz0
  rw [← hrn] at hs0 hck
  have HLE := Lib.hid hle0
  have HR := Lib.hid hr0
  have HS := Lib.hid hs0
  have HC := Lib.hid hck
  have hE : rv p A n c = .agg (rc p A n c).toArray := rfl
  rw [hE]
  obtain ⟨cs, hcs⟩ : ∃ cs, cs = rc p A n c := ⟨_, rfl⟩
  rw [← hcs] at HX ⊢
  have hx0 := hc0
  rw [HX.out] at hx0
  clear hcs hE hbx hb1 hw1 hl hok hle0 hr0 hs0 hck hrs hrn
  go_enter Tryz.func56, Tryz.ntmps56
  go_wp2_with fail
  go_loopw [3, 4] (fun s3 s4 wr => ∃ i : Nat, i ≤ 64 ∧ s4 = .int .i64 (i : Int) ∧ s3 = .int .i64 ((n : Int) - (rs i : Int)) ∧ wr = w1) (fun _ s4 _ => 64 - (_root_.Go.RowKit.intOf s4).toNat)
  case atStart => exact ⟨0, Nat.zero_le _, rfl, by rw [hz0]; simp, HX.out.symm⟩
  case round =>
    obtain ⟨i, hi, rfl, rfl, rfl⟩ := hrel
    have h1 := HLE.out i hi
    by_cases hlt : i < 64
    · have hc := HC.out i hlt
      have h2 := HLE.out (i + 1) hlt
      have h3 := HS.out i
      have i0 : (0 : Int) ≤ (i : Int) := by omega
      have i1 : (i : Int) < 64 := by omega
      have e0 : decide ((i : Int) < 64) = true := decide_eq_true i1
      obtain ⟨x, hx⟩ : ∃ x, x = rn i := ⟨_, rfl⟩
      obtain ⟨y, hy⟩ : ∃ y, y = rs i := ⟨_, rfl⟩
      rw [← hx] at hc h3
      rw [← hy] at h1 h3 ⊢
      rw [h3] at h2
      have hw : IntKind.i64.wrap ((n : Int) - (y : Int) - (x : Int)) = (n : Int) - (y : Int) - (x : Int) := wrapI _ (by omega) (by omega)
      have H3 := Lib.hid h3
      clear hx hy h1 h2 h3
      go_wp2
      go_roundw
      case rel => exact ⟨i + 1, by omega, by go_num, by rw [H3.out]; go_num, trivial⟩
      case measure => simp [_root_.Go.RowKit.intOf]; omega
    · obtain rfl : i = 64 := by omega
      have hr := HR.out
      have he : (n : Int) - (rs 64 : Int) = (p.room : Int) := by omega
      rw [he]
      clear he hr h1
      go_wp2
      go_ret
      exact ⟨rfl, HB.out⟩
end Go.Proofs.YtmbjjbgpcacoeaaGreat
