import Derived.Test.YtfmbfojlopibnaaDoorPair
import Derived.Test.YtfmbfojlopibnaaDoorPut
import Derived.Test.YtfmbfojlopibnaaDoorRows2
namespace Go.Proofs.YtfmbfojlopibnaaDoor
open Go.RowKit Go.Shelf
attribute [local go_sem] Oper.semAt_some

/- WORDS' BYTES, ONE BEHIND THE OTHER. -/

def wbytes (l : List Nat) : List UInt8 := flat (l.map (le 8))
theorem wbytes_length (l : List Nat) : (wbytes l).length = 8 * l.length := by
  induction l with
  | nil => rfl
  | cons x l ih => simp only [wbytes, List.map_cons, flat, List.length_append, le_length, List.length_cons]; unfold wbytes at ih; omega
theorem wbytes_take {l : List Nat} {k : Nat} (h : k < l.length) : wbytes (l.take (k + 1)) = wbytes (l.take k) ++ le 8 l[k] := by
  unfold wbytes
  rw [List.take_succ_eq_append_getElem h, List.map_append, List.map_singleton, flat_snoc]

theorem joined2_any (l1 l2 : List UInt8) (A1 A2 : Option Addr) (n1 n2 c1 c2 g : Nat) (t : TypeId) (W : World) (hr : Row W g t [.slice A1 n1 c1, .slice A2 n2 c2]) (h1 : Sees W W.heap.size A1 (byt l1)) (h2 : Sees W W.heap.size A2 (byt l2))
    (hn1 : l1.length = n1) (hn2 : l2.length = n2) (hm : n1 + n2 ≤ 1000) : Calls Tryd.prog 81 #[.slice (some ⟨g, 0, none⟩) 2 2] W fun e w' => ∃ v, e = .returned v ∧ w'.ownsRow W.heap.size 5 1 v (n1 + n2) (byt (l1 ++ l2)) ∧ Below W.heap.size W w' := by
  have hf : flat [l1, l2] = l1 ++ l2 := by simp [flat]
  have hl : (flat [l1, l2]).length = n1 + n2 := by rw [hf, List.length_append]; omega
  have := joined_any [l1, l2] 2 2 W.heap.size (some ⟨g, 0, none⟩) W rfl (by decide) (by rw [hl]; omega) ⟨[.slice A1 n1 c1, .slice A2 n2 c2], rfl, hr.sees, fun i hi => by
    rcases i with _ | _ | i
    · exact ⟨A1, n1, c1, rfl, hn1, by omega, h1⟩
    · exact ⟨A2, n2, c2, rfl, hn2, by omega, h2⟩
    · simp at hi; omega⟩ (Nat.le_refl _)
  rw [hl, hf] at this
  exact this

set_option maxHeartbeats 1000000 in
theorem bytesOf_any (l : List Nat) (A : Option Addr) (n c : Nat) (w : World) (ht : Tab w) (hl : Fit l) (hn : l.length = n) (hm : n ≤ 100) (hr : Sees w w.heap.size A (wds l)) :
    Calls Tryd.prog 68 #[.slice A n c] w fun e w' => ∃ v, e = .returned v ∧ w'.ownsRow w.heap.size 5 1 v (8 * n) (byt (wbytes l)) ∧ Below w.heap.size w w' := by
  have HN := Lib.hid hn
  clear hn
  go_enter Tryd.func68, Tryd.ntmps68
  go_wp2_with fail
  go_loopw [3, 10] (fun v i wr => ∃ k : Nat, k ≤ n ∧ i = .int .i64 k ∧ wr.ownsRow w.heap.size 5 1 v (8 * k) (byt (wbytes (l.take k))) ∧ Below w.heap.size w wr) (fun _ i _ => n - (intOf i).toNat)
  case atStart => exact ⟨0, Nat.zero_le _, rfl, World.ownsRow_nil _ _ _ _, Below.refl _ _⟩
  case round =>
    obtain ⟨k, hk, rfl, hown, hB⟩ := hrel
    by_cases hlt : k < n
    · have hkl : k < l.length := by rw [HN.out]; exact hlt
      obtain ⟨ad, rfl, hadb, hc⟩ := (hr.below hB).at_ (k := k) (by rw [wds_len]; exact hkl)
      rw [wds_at hkl] at hc
      have hxl := hl.at_ hkl
      have HW := Lib.hid (wbytes_take hkl)
      have HL := Lib.hid (show (wbytes (l.take k)).length = 8 * k by rw [wbytes_length, List.length_take]; omega)
      obtain ⟨x, hx⟩ : ∃ x, x = l[k] := ⟨_, rfl⟩
      rw [← hx] at hc hxl HW
      have h1 := Lib.hid (fun W ht => put_ok x 8 W ht rfl (by have : topOf 8 = 18446744073709551615 := rfl; rw [show ((8 : Nat) : Int) = 8 from rfl, this]; omega))
      have ht1 := ht.below hB
      obtain ⟨A1, c1, rfl⟩ := own_slice hown
      clear hx hxl ht
      go_wp2_with fail
      refine (h1.out _ ht1).mono ?_
      rintro e w1 ⟨g, cap, rfl, ho1, hb1⟩
      have hB1 := hB.trans (hb1.mono hB.size)
      have hown1 := own_below hown hb1 (Nat.le_refl _)
      have hj := Lib.hid (joined2_any (wbytes (l.take k)) (le 8 x) A1 (some ⟨g, 0, none⟩) (8 * k) 8 c1 cap w1.heap.size 28 (w1.alloc (.cells #[.slice A1 (8 * k) c1, .slice (some ⟨g, 0, none⟩) 8 cap] 28)) (Row.new w1 _ _)
        (((Sees.of_own hown1).alloc (Nat.le_refl _) _).more (by simp)) (((Sees.of_own ho1).alloc (Nat.le_refl _) _).more (by simp)) HL.out (le_length 8 x) (by omega))
      rw [← HW.out] at hj
      have hb2 := hB1.alloc hB1.size (.cells #[.slice A1 (8 * k) c1, .slice (some ⟨g, 0, none⟩) 8 cap] 28)
      obtain ⟨w2, hw2⟩ : ∃ w2, w2 = w1.alloc (.cells #[.slice A1 (8 * k) c1, .slice (some ⟨g, 0, none⟩) 8 cap] 28) := ⟨_, rfl⟩
      have hs2 : w.heap.size ≤ w2.heap.size := by rw [hw2]; exact hb2.size
      rw [← hw2] at hj hb2
      clear ho1 hb1 hown1 hown HW h1 hB
      go_wp2_with fail
      rw [← hw2]
      clear hw2
      refine (hj.out).mono ?_
      rintro e w3 ⟨v, rfl, ho3, hb3⟩
      go_wp2_with fail
      go_roundw
      case rel => exact ⟨k + 1, by omega, by go_num, own_mono ho3 hs2, hb2.trans (hb3.mono hs2)⟩
      case measure => simp [intOf]; omega
    · obtain rfl : k = n := by omega
      rw [List.take_of_length_le (by rw [HN.out]; exact Nat.le_refl _)] at hown
      go_wp2_with fail
      go_ret
      exact ⟨_, rfl, hown, hB⟩

/-- a word's bytes, and those of the word all of whose bits are the other ones, sealed -/
def sealB (K x : Nat) : List UInt8 := le 8 (mixN K x) ++ le 8 (mixN K (18446744073709551615 - x))
theorem sealB_length (K x : Nat) : (sealB K x).length = 16 := by simp [sealB, le_length]
theorem wbytes_two (a b : Nat) : wbytes [a, b] = le 8 a ++ le 8 b := by simp [wbytes, flat]

theorem pbytes_any (a b : Nat) (w : World) (ht : Tab w) (ha : a < 18446744073709551616) (hb : b < 18446744073709551616) :
    Calls Tryd.prog 52 #[.agg #[.int .u64 (a : Int), .int .u64 (b : Int)]] w fun e w' => ∃ v, e = .returned v ∧ w'.ownsRow w.heap.size 5 1 v 16 (byt (le 8 a ++ le 8 b)) ∧ Below w.heap.size w w' := by
  obtain ⟨w0, hw0⟩ : ∃ w0, w0 = w.alloc (.cells #[.int .u64 (a : Int), .int .u64 (b : Int)] 66) := ⟨_, rfl⟩
  have hz0 : w0.heap.size = w.heap.size + 1 := by rw [hw0]; simp
  have hw : Below w.heap.size w w0 := by rw [hw0]; exact below1 _ _
  have hr0 : Row w0 w.heap.size 66 [.int .u64 (a : Int), .int .u64 (b : Int)] := by rw [hw0]; exact Row.new _ _ _
  have h1 := Lib.hid (bytesOf_any [a, b] (some ⟨w.heap.size, 0, none⟩) 2 2 w0 (ht.below hw) (fun x hx => by simp at hx; omega) rfl (by decide) hr0.sees)
  rw [wbytes_two] at h1
  have HS := Lib.hid (show w.heap.size ≤ w0.heap.size from hw.size)
  have HW := Lib.hid hw
  clear ht ha hb hr0 hz0 hw
  go_enter Tryd.func52, Tryd.ntmps52
  go_wp2_with fail
  rw [← hw0]
  clear hw0
  refine (h1.out).mono ?_
  rintro e w3 ⟨v, rfl, ho3, hb3⟩
  go_wp2_with fail
  go_ret
  exact ⟨_, rfl, own_mono ho3 HS.out, HW.out.trans (hb3.mono HS.out)⟩

set_option maxHeartbeats 1000000 in
theorem sealing1_any (c s n K g : Nat) (w : World) (ht : Tab w) (hc : c < 8) (hs : s ≤ 65535) (hn : n < 4294967296) (hK : K < 18446744073709551616) (hg : w.cell? ⟨g, 0, none⟩ = some (.int .u64 (K : Int))) :
    Calls Tryd.prog 49 #[.agg #[.int .i64 (c : Int), .int .i64 (s : Int), .int .u32 (n : Int)], .pointer (some ⟨g, 0, none⟩)] w fun e w' =>
      ∃ v, e = .returned v ∧ w'.ownsRow w.heap.size 5 1 v 16 (byt (sealB K (tagW c s n))) ∧ Below w.heap.size w w' := by
  have hx : tagW c s n < 18446744073709551616 := by unfold tagW; omega
  have h1 := Lib.hid (fun W => tword_any c s n W hc hs hn)
  rw [sealB]
  obtain ⟨x, hxx⟩ : ∃ x, x = tagW c s n := ⟨_, rfl⟩
  rw [← hxx] at h1 hx ⊢
  clear hxx
  have h2 := Lib.hid (fun W => pairOf_any x W hx)
  obtain ⟨y, hyy⟩ : ∃ y, y = 18446744073709551615 - x := ⟨_, rfl⟩
  have hy : y < 18446744073709551616 := by omega
  rw [← hyy] at h2 ⊢
  clear hyy
  have h3 := Lib.hid (fun W hg => each_any x y g K 50 (mixN K) W hx hy hg (enters_of Tryd.func50 (by kernel_rfl) rfl) (sealing11_does g K hK))
  have h4 := Lib.hid (fun W ht => pbytes_any (mixN K x) (mixN K y) W ht (mixN_lt hx) (mixN_lt hy))
  obtain ⟨a, ha⟩ : ∃ a, a = mixN K x := ⟨_, rfl⟩
  obtain ⟨b, hb⟩ : ∃ b, b = mixN K y := ⟨_, rfl⟩
  rw [← ha, ← hb] at h3 h4 ⊢
  clear ha hb hx hy hc hs hn hK
  have hB0 := below1 w (.cells #[.int .i64 (c : Int), .int .i64 (s : Int), .int .u32 (n : Int)] 60)
  have hgl := lt_of_cell hg
  go_enter Tryd.func49, Tryd.ntmps49
  go_wp2_with fail
  refine (h1.out _).mono ?_
  rintro e w1 ⟨rfl, hb⟩
  have hB1 := below0 hB0 hb
  clear hB0 hb
  go_wp2_with fail
  refine (h2.out _).mono ?_
  rintro e w2 ⟨rfl, hb⟩
  have hB2 := below0 hB1 hb
  clear hB1 hb
  have hg2 := (hB2.cell (p := ⟨g, 0, none⟩) hgl).trans hg
  go_wp2_with fail
  refine (h3.out _ hg2).mono ?_
  rintro e w3 ⟨rfl, hb⟩
  have hB3 := below0 hB2 hb
  clear hB2 hb hg2
  have ht3 := ht.below hB3
  have hs3 := hB3.size
  go_wp2_with fail
  refine (h4.out _ ht3).mono ?_
  rintro e w4 ⟨v, rfl, ho, hb⟩
  have hB4 := below0 hB3 hb
  go_wp2_with fail
  go_ret
  exact ⟨_, rfl, own_mono ho hs3, hB4⟩

/-- what a tag's closure is: its key stands in a block of its own -/
def Sealer (w : World) (K : Nat) (v : Value) (w' : World) : Prop := ∃ g, v = .func (.func 49) #[] #[.pointer (some ⟨g, 0, none⟩)] ∧ w.heap.size ≤ g ∧ w'.cell? ⟨g, 0, none⟩ = some (.int .u64 (K : Int))

theorem sealing_any (a b g : Nat) (c : Nat) (w : World) (ha : a < 18446744073709551616) (hb : b < 18446744073709551616) (t : TypeId) (hr : Row w g t [.int .u64 (a : Int), .int .u64 (b : Int)]) :
    Calls Tryd.prog 35 #[.slice (some ⟨g, 0, none⟩) 2 c] w fun e w' => ∃ v, e = .returned v ∧ Sealer w (foldN [a, b]) v w' ∧ Below w.heap.size w w' := by
  have h1 := Lib.hid (fold_any [a, b] (some ⟨g, 0, none⟩) c w (fun x hx => by simp at hx; omega) (by simp) hr.sees)
  obtain ⟨K, hK⟩ : ∃ K, K = foldN [a, b] := ⟨_, rfl⟩
  rw [← hK] at h1 ⊢
  clear hK ha hb hr
  go_enter Tryd.func35, Tryd.ntmps35
  go_wp2_with fail
  refine (h1.out).mono ?_
  rintro e w1 ⟨rfl, hb1⟩
  have hs := hb1.size
  go_wp2_with fail
  go_ret
  exact ⟨_, rfl, ⟨w1.heap.size, rfl, hs, cell_alloc_new _ _ _ _⟩, hb1.alloc hs _⟩
theorem heads_any (k at_ : Nat) (w : World) (hk : k < 18446744073709551616) (ha : at_ < 4294967296) :
    Calls Tryd.prog 20 #[.int .u64 (k : Int), .int .u32 (at_ : Int)] w fun e w' => ∃ v, e = .returned v ∧ Sealer w (foldN [k, at_]) v w' ∧ Below w.heap.size w w' := by
  obtain ⟨w0, hw0⟩ : ∃ w0, w0 = w.alloc (.cells #[.int .u64 (k : Int), .int .u64 (at_ : Int)] 22) := ⟨_, rfl⟩
  have hw : Below w.heap.size w w0 := by rw [hw0]; exact below1 _ _
  have h1 := Lib.hid (sealing_any k at_ w.heap.size 2 w0 hk (by omega) 22 (by rw [hw0]; exact Row.new _ _ _))
  have hs := hw.size
  go_enter Tryd.func20, Tryd.ntmps20
  go_wp2_with fail
  rw [← hw0]
  clear hw0
  refine (h1.out).mono ?_
  rintro e w1 ⟨v, rfl, ⟨g, rfl, hg, hc⟩, hb1⟩
  go_wp2_with fail
  go_ret
  exact ⟨_, rfl, ⟨g, rfl, by omega, hc⟩, hw.trans (hb1.mono hs)⟩
theorem tails_any (k at_ : Nat) (w : World) (hk : k < 18446744073709551616) (ha : at_ < 4294967296) :
    Calls Tryd.prog 21 #[.int .u64 (k : Int), .int .u32 (at_ : Int)] w fun e w' => ∃ v, e = .returned v ∧ Sealer w (foldN [at_, k]) v w' ∧ Below w.heap.size w w' := by
  obtain ⟨w0, hw0⟩ : ∃ w0, w0 = w.alloc (.cells #[.int .u64 (at_ : Int), .int .u64 (k : Int)] 22) := ⟨_, rfl⟩
  have hw : Below w.heap.size w w0 := by rw [hw0]; exact below1 _ _
  have h1 := Lib.hid (sealing_any at_ k w.heap.size 2 w0 (by omega) hk 22 (by rw [hw0]; exact Row.new _ _ _))
  have hs := hw.size
  go_enter Tryd.func21, Tryd.ntmps21
  go_wp2_with fail
  rw [← hw0]
  clear hw0
  refine (h1.out).mono ?_
  rintro e w1 ⟨v, rfl, ⟨g, rfl, hg, hc⟩, hb1⟩
  go_wp2_with fail
  go_ret
  exact ⟨_, rfl, ⟨g, rfl, by omega, hc⟩, hw.trans (hb1.mono hs)⟩
end Go.Proofs.YtfmbfojlopibnaaDoor
