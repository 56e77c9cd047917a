import Derived.Test.YtglfcfepgjldfaaNA
namespace Go.Proofs.Ytglfcfepgjldfaa.Fe
open Go.RowKit Go.Shelf
attribute [local go_sem] Oper.semAt_some

/- WHAT IS WRONG: THE FIRST QUESTION THAT IS ANSWERED NO. -/

structure Ask where
  cf : Nat
  first : Array Value
  cap : Array Value
  e : Int
  ans : Bool
def Ask.val (q : Ask) : Value := .func (.func q.cf) q.first q.cap
def askCells (qs : List Ask) : List Value := qs.flatMap fun q => [q.val, .int .i64 q.e]
def askE : List Ask → Int
  | [] => 0
  | q :: r => if q.ans then askE r else q.e
theorem ask_cells : ∀ (qs : List Ask) (k : Nat) (h : k < qs.length), (askCells qs)[k * 2]? = some qs[k].val ∧ (askCells qs)[k * 2 + 1]? = some (.int .i64 qs[k].e)
  | q :: r, 0, _ => ⟨rfl, rfl⟩
  | q :: r, k + 1, h => by
    have := ask_cells r k (by simpa using h)
    rw [show (k + 1) * 2 = k * 2 + 1 + 1 by omega]
    exact this
theorem askE_at : ∀ (qs : List Ask) (k : Nat) (h : k < qs.length), (∀ j (hj : j < qs.length), j < k → qs[j].ans = true) → qs[k].ans = false → askE qs = qs[k].e
  | q :: r, 0, _, _, h => by simp at h; simp [askE, h]
  | q :: r, k + 1, hk, ha, h => by
    have h0 : q.ans = true := ha 0 (by simp) (by omega)
    rw [askE, if_pos h0]
    exact askE_at r k (by simpa using hk) (fun j hj hjk => ha (j + 1) (by simpa using hj) (by omega)) h
theorem askE_end : ∀ (qs : List Ask), (∀ j (hj : j < qs.length), qs[j].ans = true) → askE qs = 0
  | [], _ => rfl
  | q :: r, ha => by
    have h0 : q.ans = true := ha 0 (by simp)
    rw [askE, if_pos h0]
    exact askE_end r fun j hj => ha (j + 1) (by simpa using hj)

def Asks (w : World) (qs : List Ask) : Prop :=
  ∀ k (hk : k < qs.length), (∀ j (hj : j < qs.length), j < k → qs[j].ans = true) → (∀ args V, (callFunc qs[k].cf args).run Try.prog V = .ok (.enter qs[k].cf args) V) ∧
    ∀ V, Below w.heap.size w V → Calls Try.prog qs[k].cf (qs[k].first ++ qs[k].cap) V fun e V' => e = .returned (.bool qs[k].ans) ∧ Below V.heap.size V V'

set_option maxHeartbeats 1000000 in
theorem asked_any (qs : List Ask) (g n c : Nat) (w : World) (hn : qs.length = n) (hm : n ≤ 100) (hr : Row w g 66 (askCells qs)) (hq : Asks w qs) :
    Calls Try.prog 29 #[.slice (some ⟨g, 0, none⟩) n c] w fun e w' => e = .returned (.int .i64 (askE qs)) ∧ Below w.heap.size w w' := by
  have hgl := hr.lt
  have HC := Lib.hid (fun k hk => ask_cells qs k hk)
  have HA := Lib.hid (fun k h1 h2 h3 => askE_at qs k h1 h2 h3)
  have HE := Lib.hid (askE_end qs)
  have HQ := Lib.hid hq
  have HR := Lib.hid hr
  obtain ⟨E, hE⟩ : ∃ E, E = askE qs := ⟨_, rfl⟩
  rw [← hE] at HA HE ⊢
  clear hE hq hr
  go_enter Try.func29, Try.ntmps29
  go_wp2_with fail
  go_loopw [7] (fun s wr => ∃ k : Nat, k ≤ n ∧ s = .int .i64 (k : Int) ∧ Hid (∀ j (hj : j < qs.length), j < k → qs[j].ans = true) ∧ Below w.heap.size w wr) (fun s _ => n - (_root_.Go.RowKit.intOf s).toNat)
  case atStart => exact ⟨0, by omega, rfl, Lib.hid (fun j hj h => absurd h (by omega)), Below.refl _ _⟩
  case round =>
    obtain ⟨k, hk, rfl, hall, hb⟩ := hrel
    by_cases hlt : k < n
    · have hkl : k < qs.length := by omega
      have e0 : decide ((k : Int) < (n : Int)) = true := decide_eq_true (by omega)
      have i0 : (0 : Int) ≤ (k : Int) := by omega
      have i1 : (k : Int) < (n : Int) := by omega
      obtain ⟨c0, c1⟩ := HC.out k hkl
      have hc0 : wr.cell? ⟨g, k * 2, none⟩ = some qs[k].val := ((hb.cell (p := ⟨g, k * 2, none⟩) hgl).trans (HR.out.cell _)).trans c0
      have hc1 : wr.cell? ⟨g, k * 2 + 1, none⟩ = some (.int .i64 qs[k].e) := ((hb.cell (p := ⟨g, k * 2 + 1, none⟩) hgl).trans (HR.out.cell _)).trans c1
      obtain ⟨hent, hcall⟩ := HQ.out k hkl hall.out
      have HCALL := Lib.hid hcall
      obtain ⟨q, hqe⟩ : ∃ q, q = qs[k] := ⟨_, rfl⟩
      have HQE := Lib.hid hqe
      rw [← hqe] at hc0 hc1 hent HCALL
      obtain ⟨cf, first, cap, ee, ans⟩ := q
      simp only [Ask.val] at hc0 hc1 hent HCALL
      clear hcall c0 c1 hqe
      go_wp2_with fail
      have hb1 := Lib.hid (hb.alloc hb.size (.cells #[.func (.func cf) first cap, .int .i64 ee] 66))
      refine (HCALL.out _ hb1.out).mono ?_
      rintro e w1 ⟨rfl, hb2⟩
      have hd1 : w1.cell? ⟨wr.heap.size, 1, none⟩ = some (.int .i64 ee) := (hb2.cell (p := ⟨wr.heap.size, 1, none⟩) (by simp)).trans (cell_alloc_new _ _ _ _)
      have hb3 := Lib.hid (show Below w.heap.size w w1 from hb1.out.trans (hb2.mono (by have := hb1.out.size; exact this)))
      clear hb2 hb1 hc0 hc1 hent HCALL
      cases ans
      · have hfin := Lib.hid (HA.out k hkl hall.out (by rw [← HQE.out]))
        rw [← HQE.out] at hfin
        go_wp2
        go_ret
        exact ⟨by rw [hfin.out]; rfl, hb3.out⟩
      · have hall2 : Hid (∀ j (hj : j < qs.length), j < k + 1 → qs[j].ans = true) := Lib.hid fun j hj hjk => by
          rcases Nat.lt_or_ge j k with h | h
          · exact hall.out j hj h
          · obtain rfl : j = k := by omega
            rw [← HQE.out]
        go_wp2
        go_roundw
        case rel => exact ⟨k + 1, by omega, by go_num, hall2, hb3.out⟩
        case measure => simp [_root_.Go.RowKit.intOf]; omega
    · obtain rfl : k = n := by omega
      have hfin := Lib.hid (HE.out (fun j hj => hall.out j hj (by omega)))
      go_wp2
      go_ret
      exact ⟨by rw [hfin.out]; rfl, hb⟩
/-! boxes -/
def boxW (w : World) : List (Value × TypeId) → World
  | [] => w
  | x :: r => boxW (w.alloc (.cells #[x.1] x.2)) r
/-- each box holds its thing -/
structure Boxes (w : World) (l : List Value) (V : World) : Prop where
  below : Below w.heap.size w V
  cell : ∀ k v, l[k]? = some v → V.cell? ⟨w.heap.size + k, 0, none⟩ = some v
  size : w.heap.size + l.length ≤ V.heap.size
theorem box_size : ∀ (l : List (Value × TypeId)) (w : World), (boxW w l).heap.size = w.heap.size + l.length
  | [], w => rfl
  | x :: r, w => by rw [boxW, box_size r]; simp; omega
theorem box_below : ∀ (l : List (Value × TypeId)) (w V : World), Below w.heap.size w V → Below w.heap.size w (boxW V l)
  | [], w, V, h => h
  | x :: r, w, V, h => by rw [boxW]; exact box_below r w _ (h.alloc h.size _)
theorem box_keep : ∀ (l : List (Value × TypeId)) (V : World) (p : Addr), p.block < V.heap.size → (boxW V l).cell? p = V.cell? p
  | [], V, p, h => rfl
  | x :: r, V, p, h => by
    rw [boxW, box_keep r _ p (by simp; omega)]
    exact World.cell?_alloc_lt _ _ _ h
theorem box_cell : ∀ (l : List (Value × TypeId)) (w : World) (k : Nat) (x : Value × TypeId), l[k]? = some x → (boxW w l).cell? ⟨w.heap.size + k, 0, none⟩ = some x.1
  | [], w, k, x, h => by simp at h
  | y :: r, w, 0, x, h => by
    simp at h
    subst h
    rw [boxW, box_keep r _ _ (by simp)]
    exact cell_alloc_new _ _ _ _
  | y :: r, w, k + 1, x, h => by
    have := box_cell r (w.alloc (.cells #[y.1] y.2)) k x (by simpa using h)
    rw [World.size_alloc] at this
    rw [boxW, show w.heap.size + (k + 1) = w.heap.size + 1 + k by omega]
    exact this
def askW (w : World) (l : List (Value × TypeId)) (qs : List Ask) : World := (boxW w l).alloc (.cells (askCells qs).toArray 66)
theorem Boxes.more {w V V' : World} {l : List Value} (h : Boxes w l V) (hb : Below V.heap.size V V') : Boxes w l V' :=
  ⟨below0 h.below hb, fun k v hk => (hb.cell (p := ⟨w.heap.size + k, 0, none⟩) (by have := (List.getElem?_eq_some_iff.1 hk).1; have := h.size; show w.heap.size + k < _; omega)).trans (h.cell k v hk), Nat.le_trans h.size hb.size⟩
theorem Boxes.keep {w V V' : World} {l : List Value} {F : Nat → Prop} (h : Boxes w l V) (hb : Keep F V V') (hF : ∀ k, F k → k < w.heap.size) (k : Nat) (v : Value) (hk : l[k]? = some v) : V'.cell? ⟨w.heap.size + k, 0, none⟩ = some v :=
  (hb.cell (p := ⟨w.heap.size + k, 0, none⟩) (by have := (List.getElem?_eq_some_iff.1 hk).1; have := h.size; show w.heap.size + k < _; omega) (fun hf => by have h1 := hF _ hf; simp only at h1; omega)).trans (h.cell k v hk)
theorem askW_boxes (w : World) (l : List (Value × TypeId)) (qs : List Ask) : Boxes w (l.map Prod.fst) (askW w l qs) ∧ Row (askW w l qs) (w.heap.size + l.length) 66 (askCells qs) ∧ (askW w l qs).heap.size = w.heap.size + l.length + 1 := by
  have hs := box_size l w
  refine ⟨⟨(box_below l w w (Below.refl _ _)).alloc (by omega) _, fun k v hk => ?_, by simp [askW, hs]⟩, Row.new_at _ _ _ hs, by simp [askW, hs]⟩
  rw [List.getElem?_map, Option.map_eq_some_iff] at hk
  obtain ⟨x, hx, rfl⟩ := hk
  refine (World.cell?_alloc_lt _ _ _ ?_).trans (box_cell l w k x hx)
  have := (List.getElem?_eq_some_iff.1 hx).1
  show w.heap.size + k < _
  omega
theorem asked_box {w : World} (l : List (Value × TypeId)) (qs : List Ask) (n c s : Nat) (hs : s = w.heap.size + l.length) (hn : qs.length = n) (hm : n ≤ 100)
    (HQ : ∀ k (hk : k < qs.length), (∀ j (hj : j < qs.length), j < k → qs[j].ans = true) → (∀ args V, (callFunc qs[k].cf args).run Try.prog V = .ok (.enter qs[k].cf args) V) ∧
      ∀ V, Boxes w (l.map Prod.fst) V → Calls Try.prog qs[k].cf (qs[k].first ++ qs[k].cap) V fun e V' => e = .returned (.bool qs[k].ans) ∧ Below V.heap.size V V') :
    Calls Try.prog 29 #[.slice (some ⟨s, 0, none⟩) n c] (askW w l qs) fun e w' => e = .returned (.int .i64 (askE qs)) ∧ Boxes w (l.map Prod.fst) w' ∧ s < w'.heap.size := by
  obtain ⟨h1, h2, h3⟩ := askW_boxes w l qs
  subst hs
  refine (asked_any qs (w.heap.size + l.length) n c _ hn hm h2 fun k hk hall => ⟨(HQ k hk hall).1, fun V hV => (HQ k hk hall).2 V (h1.more hV)⟩).mono fun e w' ⟨e1, e2⟩ => ⟨e1, h1.more e2, ?_⟩
  have := e2.size
  omega

end Go.Proofs.Ytglfcfepgjldfaa.Fe
