import Derived.Test.YtbiopegophdgiaaDoorAct
namespace Go.Proofs.YtbiopegophdgiaaDoor
open Go.RowKit Go.Shelf
attribute [local go_sem] Oper.semAt_some

theorem getB_set {l : List Bool} {k : Nat} {is : Bool} (h : k < l.length) : getB (l.set k is) (k : Int) = is := by
  unfold getB
  rw [if_neg (by omega), Int.toNat_natCast, List.getElem?_set_self h]
  rfl

set_option maxHeartbeats 2000000 in
theorem act_in (b g : Nat) (l : List Bool) (v : Value) (k : Nat) (is : Bool) (w : World) (h : Rep w b g l) (hv : Bl w v l) (hk : k < l.length) :
    Calls Tryd.prog 22 #[.pointer (some ⟨b, 0, none⟩), v, actV false (k : Int) is] w (ActP w b g (l.set k is)) := by
  have hb0 := below1 w (.cells #[.bool false, .int .i64 (k : Int), .bool is] 50)
  obtain ⟨w0, hw0⟩ : ∃ w0, w0 = w.alloc (.cells #[.bool false, .int .i64 (k : Int), .bool is] 50) := ⟨_, rfl⟩
  have hz0 : w0.heap.size = w.heap.size + 1 := by rw [hw0]; simp
  have hx1 : w0.cell? ⟨w.heap.size, 1, none⟩ = some (.int .i64 (k : Int)) := by rw [hw0]; exact cell_alloc_new _ _ _ _
  have hx2 : w0.cell? ⟨w.heap.size, 2, none⟩ = some (.bool is) := by rw [hw0]; exact cell_alloc_new _ _ _ _
  rw [← hw0] at hb0
  have h0 := h.below hb0
  have hv0 := hv.below hb0
  have hs := Lib.hid (set_in b g l k is w0 h0 hk)
  have hgl := h.row.lt
  have hmost := h.most
  have HK := Lib.hid hk
  have HR0 := Lib.hid h0.row
  obtain ⟨A, c, rfl, hr⟩ := hv
  have HV0 := Lib.hid hv0
  obtain ⟨n, hn⟩ : ∃ n, n = l.length := ⟨_, rfl⟩
  have hkn : k < n := by rw [hn]; exact hk
  have hn2 : n ≤ 4096 := by omega
  rw [← hn]
  have HN := Lib.hid hn
  have e0 : decide ((k : Int) < 0) = false := decide_eq_false (by omega)
  have e1 : decide ((n : Int) ≤ (k : Int)) = false := decide_eq_false (by omega)
  have e2 : decide (n ≤ k) = false := decide_eq_false (by omega)
  clear hn hv0 h0 hk h hr
  go_enter Tryd.func22, Tryd.ntmps22
  go_wp2_with fail
  rw [← hw0]
  clear hw0
  refine (hs.out).mono ?_
  rintro e w1 ⟨rfl, hr1, hk1⟩
  obtain ⟨x, hx⟩ : ∃ x, x = (l[k]?).getD false := ⟨_, rfl⟩
  rw [← hx]
  have hz1 := hk1.size
  have hc1 := (hk1.cell (p := ⟨w.heap.size, 1, none⟩) (by simp; omega) (by simp; omega)).trans hx1
  have hc2 := (hk1.cell (p := ⟨w.heap.size, 2, none⟩) (by simp; omega) (by simp; omega)).trans hx2
  have hv1 := HV0.out.keep hk1 HR0.out
  obtain ⟨A1, c1, e, hs1⟩ := hv1
  simp only [Value.slice.injEq] at e
  obtain ⟨rfl, _, rfl⟩ := e
  obtain ⟨ad, rfl, hadb, hcw⟩ := hs1.at_ (k := k) (by rw [bls_len]; exact HK.out)
  rw [bls_get HK.out, show l[k] = x by rw [hx, List.getElem?_eq_getElem HK.out]; rfl] at hcw
  have hadl := lt_of_cell hcw
  -- what holds all through the region
  have hsa : ∀ W, Below w1.heap.size w1 W → W.cell? ⟨w.heap.size, 1, none⟩ = some (.int .i64 (k : Int)) ∧ W.cell? ⟨w.heap.size, 2, none⟩ = some (.bool is) ∧ W.cell? (ad.add k) = some (.bool x) ∧ Below w1.heap.size w1 W := fun W hb =>
    ⟨(hb.cell (p := ⟨w.heap.size, 1, none⟩) (by simp; omega)).trans hc1, (hb.cell (p := ⟨w.heap.size, 2, none⟩) (by simp; omega)).trans hc2, (hb.cell hadl).trans hcw, hb⟩
  have hwith := Lib.hid (fun (W : World) (hb : Below w1.heap.size w1 W) => (show Calls Tryd.prog 44 #[.slice (some ad) n c, .int .i64 (k : Int), .bool is] W (fun e w' => ∃ v', e = .returned v' ∧ Bl w' v' (l.set k is) ∧ Below w1.heap.size w1 w' ∧ Below W.heap.size W w') from
    by
      have h := with_ref l k is (some ad) c W (by rw [← HN.out]; exact hn2) HK.out ((hs1.below hb).more hb.size)
      rw [← HN.out] at h
      exact h.mono fun e w' ⟨v', h1, h2, h3⟩ => ⟨v', h1, h2, hb.trans (h3.mono hb.size), h3⟩))
  have hhas := Lib.hid (fun (W : World) (hb : Below w1.heap.size w1 W) => (show Calls Tryd.prog 15 #[.pointer (some ⟨b, 0, none⟩), .int .i64 (k : Int)] W (fun e w' => e = .returned (.bool is) ∧ Below w1.heap.size w1 w' ∧ Below W.heap.size W w') from
    by
      have h := has_any (.pointer (some ⟨b, 0, none⟩)) (l.set k is) (k : Int) W (.inr ⟨b, g, rfl, hr1.below hb⟩)
      rw [getB_set HK.out] at h
      exact h.mono fun e w' ⟨h1, h2⟩ => ⟨h1, hb.trans (h2.mono hb.size), h2⟩))
  have hdr := Lib.hid (show Below w1.heap.size w1 w1.drew from (Below.refl _ _).drew)
  have hfin := Lib.hid (fun (v' : Value) (W : World) (hv' : Bl W v' (l.set k is)) (hb : Below w1.heap.size w1 W) => (show ActP w b g (l.set k is) (.returned (.tuple #[.pointer (some ⟨b, 0, none⟩), v', .bool true])) W from
    ⟨b, g, v', rfl, .inl ⟨rfl, rfl⟩, hr1.below hb, hv', ((Keep.of_below hb0).trans hk1 (fun _ _ h => h)).trans (Keep.of_below (F := (· = g)) hb) (fun _ _ h => h)⟩))
  have HSA := Lib.hid hsa
  have i0 : (0 : Int) ≤ (k : Int) := by omega
  have i1 : (k : Int) < (n : Int) := by omega
  have hxx : (x == x) = true := by simp
  have hii : (is == is) = true := by simp
  clear hsa hr1 hk1 hs1 hx hx1 hx2 hb0
  go_wp2_with fail
  go_region_held3 (fun W => W.cell? ⟨w.heap.size, 1, none⟩ = some (.int .i64 (k : Int)) ∧ W.cell? ⟨w.heap.size, 2, none⟩ = some (.bool is) ∧ W.cell? (ad.add k) = some (.bool x) ∧ Below w1.heap.size w1 W)
    (first | exact HSA.out _ hdr.out | (exact HSA.out _ (by assumption)) | (exact HSA.out _ (Below.drew (by assumption))) | (go_split_ands; exact HSA.out _ (by assumption)))
    (first | (go_at_call 44; refine (hwith.out _ (by go_split_ands; assumption)).mono ?_; rintro e w2 ⟨v2, rfl, hv2, hb2, hd2⟩) | (go_at_call 15; refine (hhas.out _ (by go_split_ands; assumption)).mono ?_; rintro e w3 ⟨rfl, hb3, hd3⟩) | (go_at_call 14; refine (num_any _ _).mono ?_; rintro e w4 ⟨rfl, rfl⟩))
  all_goals
    go_wp2
    refine bodyPost_ret (v := .tuple #[.pointer (some ⟨b, 0, none⟩), v2, .bool true]) (by simp [results, Tryd.results22, go_sem]) rfl ?_
    first
      | exact hfin.out v2 _ hv2 hb2
      | exact hfin.out v2 _ (hv2.below hd3) hb3
end Go.Proofs.YtbiopegophdgiaaDoor
