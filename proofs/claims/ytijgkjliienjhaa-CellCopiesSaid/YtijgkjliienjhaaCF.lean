import Derived.Test.YtijgkjliienjhaaCE
namespace Go.Proofs.Ytijgkjliienjhaa
open Go.RowKit Go.Shelf
attribute [local go_sem] Oper.semAt_some

/- THE DOCUMENT's STORE. -/
theorem lst_second {t : TypeId} {w : World} {g k N : Nat} {l : Cs} (h : Lst t w g l) (hN : N = l.length) (hk : k < N) (v : Value) :
    ∃ u u2, w.cell? ⟨g, k * 2, none⟩ = some u ∧ (w.setCell ⟨g, k * 2, none⟩ v).cell? ⟨g, k * 2 + 1, none⟩ = some u2 ∧ (w.setCell ⟨g, k * 2, none⟩ v).frozen? ⟨g, k * 2 + 1, none⟩ = false := by
  subst hN
  have h0 := h.c0 hk
  have h1 := h.c1 hk
  obtain ⟨r, h⟩ := h
  refine ⟨.int .u64 (l[k].1 : Int), .int .i64 (l[k].2 : Int), h0, ?_, (h.set (k * 2) v).frozen _⟩
  rw [(h.set (k * 2) v).cell, List.getElem?_set_ne (by omega), ← h.cell]
  exact h1
def RStoreP (w : World) (l' : Cs) (e : Ending) (w' : World) : Prop := ∃ v g, e = .returned v ∧ w.heap.size ≤ g ∧ Wt w' v g l' ∧ Below w.heap.size w w'
set_option maxHeartbeats 1000000 in
theorem rstore_any (g c k n m : Nat) (l : Cs) (w : World) (h : Lst 82 w g l) (hk : k < l.length) (hok : Ok m l) (hm : m < 1000000) :
    Calls Try.prog 36 #[.slice (some ⟨g, 0, none⟩) l.length c, .int .i64 (k : Int), .int .u64 (n : Int)] w (RStoreP w (put l k n)) := by
  obtain ⟨i0, hi, hz0, hz1, hz2⟩ := info_parts cell_info
  have hmost := hok.most
  have hsm := (hok.small _ (List.getElem_mem hk)).2
  have hr := Lib.hid (h.below (below1 w (.cells #[] 82))).sees
  have hown := nil_row w 82
  have HF := Lib.hid (fun w4 v' h1 h2 h3 => app_fin (t := 82) (w := w) (w4 := w4) (v' := v') (n := l.length) (l := l) h1 h2 h3)
  have HL := Lib.hid (cls_len l)
  have HO := Lib.hid (cls_one (l := l))
  have HC : Hid (∀ w4, Below w.heap.size w w4 → w4.cell? ⟨g, k * 2 + 1, none⟩ = some (.int .i64 (l[k].2 : Int))) := Lib.hid (fun w4 hb => (h.below hb).c1 hk)
  have HG : Hid (∀ w4 g' c' y, w.heap.size ≤ g' → Lst 82 w4 g' l → Below w.heap.size w w4 → y = l[k].2 + 1 → RStoreP w (put l k n) (.returned (.slice (some ⟨g', 0, none⟩) l.length c')) ((w4.setCell ⟨g', k * 2, none⟩ (.int .u64 (n : Int))).setCell ⟨g', k * 2 + 1, none⟩ (.int .i64 (y : Int)))) := Lib.hid (fun w4 g' c' y a1 a2 a3 e =>
    ⟨_, g', rfl, a1, ⟨c', by rw [put_len], by rw [put_at hk, e]; exact a2.set hk n _⟩, (a3.setCell a1 _).setCell a1 _⟩)
  obtain ⟨N, hN⟩ : ∃ N, N = l.length := ⟨_, rfl⟩
  have HNN := Lib.hid hN
  obtain ⟨x, hx⟩ : ∃ x, x = l[k].2 := ⟨_, rfl⟩
  obtain ⟨xs, hxs⟩ : ∃ xs, xs = cls l := ⟨_, rfl⟩
  rw [← hxs] at hr HF HL HO
  rw [← hN] at HF HL HG hk hmost ⊢
  rw [← hx] at HC HG hsm
  have hw : IntKind.i64.wrap ((x : Int) + 1) = ((x + 1 : Nat) : Int) := by rw [wrapI _ (by omega) (by omega)]; omega
  obtain ⟨y, hy⟩ : ∃ y, y = x + 1 := ⟨_, rfl⟩
  rw [← hy] at hw HG
  have i0' : (0 : Int) ≤ (k : Int) := by omega
  have i1 : (k : Int) < (N : Int) := by omega
  clear h hok hxs hN hx hy
  go_enter Try.func36, Try.ntmps36
  go_wp2_with (at_builtin; refine wpList_append_sees rfl (.tmp 8) (.tmp 9) 28 rfl w.heap.size 82 i0 _ 2 16 Try.underlying28 hi hz0 hz1 hz2 rfl (by decide) _ 0 [] rfl hown (w.heap.size + 1) (some ⟨g, 0, none⟩) N c xs rfl HL.out (by have := hr.out; rw [World.size_alloc] at this; exact this) HO.out (by unfold maxLen; omega) (by omega) (by simp) ?_; intro v' w4 h1 h2 h3; rw [Nat.zero_add, List.nil_append] at h1; have hfin := HF.out w4 v' h1 h2 (by rw [World.size_alloc] at h3; exact h3); obtain ⟨g', c', rfl, hg', hl', hb'⟩ := hfin; have hc := HC.out w4 hb'; have f0 := hl'.frozen (k * 2); obtain ⟨u1, u2, f1, f2, f3⟩ := lst_second hl' HNN.out hk (.int .u64 (n : Int)); have hfin := Lib.hid (HG.out w4 g' c' _ hg' hl' hb' rfl); have hlt' := hl'.lt; clear h1 h2 h3 hg' hl' hb' HG HC HF)
  go_ret
  exact hfin.out
end Go.Proofs.Ytijgkjliienjhaa
