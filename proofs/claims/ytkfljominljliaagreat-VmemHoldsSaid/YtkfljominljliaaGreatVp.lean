import Derived.Test.YtkfljominljliaaGreatVo
import Derived.Lib.SlBytesConst
namespace Go.Proofs.YtkfljominljliaaGreat.Vm
open Go.RowKit Go.Shelf Go.Maps Go.Sort
attribute [local go_sem] Oper.semAt_some

/- THE CHAPTER's ROWS. -/

theorem pts_one {a n : Nat} (h0 : 0 < n) (h : a % 256 + n ≤ 256) : pts a n = [(a / 256, a % 256, n)] := by
  have e : min n (256 - a % 256) = n := by omega
  rw [pts_pos h0, e, Nat.sub_self, pts_zero]
theorem pts_two : pts 1023 2 = [(3, 255, 1), (4, 0, 1)] := by
  rw [pts_pos (by omega)]
  rw [show min 2 (256 - 1023 % 256) = 1 from rfl, pts_one (by omega) (by omega)]
theorem rE_pts {may : Bool} {f : Nat → Bool} {a : Nat} {n : Int} {L : List Part} (h : pts a n.toNat = L) : rE may f a n = if ¬ (may && properB n) = true then 2 else if ¬ withinB a n = true then 4 else if ¬ (L.all fun x => f x.1) = true then 190 else 0 := by
  unfold rE seenB
  rw [h]
def p1 : Pl := reserveP (newP 4) 1 2
def t1 : Pg.Tb := mapML p1 [] 3 1 1 2
def p2 : Pl := mapMP p1 [] 3 1 1 2
def p3 : Pl := wr p2 t1 [(3, 0, 2)] [97, 98]
theorem k0 : reserveE (newP 4) 1 2 = 0 := by kernel_rfl
theorem k1 : mapME p1 [] 3 1 1 2 = 0 := by kernel_rfl
theorem k2 : ownE t1 1 2 768 2 = 0 := (rE_pts (pts_one (by decide) (by decide))).trans (by kernel_rfl)
theorem k3 : ownE t1 1 1 769 2 = 0 := (rE_pts (pts_one (by decide) (by decide))).trans (by kernel_rfl)
theorem k4 : ownE t1 2 1 768 1 = 190 := (rE_pts (pts_one (by decide) (by decide))).trans (by kernel_rfl)
theorem k5 : ownE t1 1 2 1023 2 = 190 := (rE_pts pts_two).trans (by kernel_rfl)
theorem k6 : ownE t1 1 1 1023 1 = 0 := (rE_pts (pts_one (by decide) (by decide))).trans (by kernel_rfl)
theorem k7 : hndE t1 768 2 = 0 := (rE_pts (pts_one (by decide) (by decide))).trans (by kernel_rfl)
theorem k8 : ownE t1 1 1 768 0 = 2 := (rE_pts (pts_zero _)).trans (by kernel_rfl)
theorem k9 : ownE t1 1 1 16777215 2 = 4 := (rE_pts rfl).trans (by
  rw [if_neg (by decide), if_pos (by decide)])
theorem r3 : rdB p3 t1 769 2 = [98, 0] := by
  unfold rdB
  rw [pts_one (by decide) (by decide)]
  kernel_rfl
theorem r6 : rdB p3 t1 1023 1 = [0] := by
  unfold rdB
  rw [pts_one (by decide) (by decide)]
  kernel_rfl
theorem r7 : rdB p3 t1 768 2 = [97, 98] := by
  unfold rdB
  rw [pts_one (by decide) (by decide)]
  kernel_rfl
theorem s2 : storeP p2 t1 1 768 2 [97, 98] = p3 := by
  unfold storeP
  rw [if_pos (by exact k2), pts_one (by decide) (by decide)]
  rfl
theorem s5 : storeP p3 t1 1 1023 2 [120, 121] = p3 := by
  unfold storeP
  rw [if_neg (by rw [show ((2 : Nat) : Int) = 2 from rfl, k5]; decide)]

/-- a memory, and bytes that were told -/
def St (w : World) (b t q : Nat) (l : Pg.Tb) (p : Pl) (L : List (Value × List UInt8)) (V : World) : Prop :=
  ∃ X, MRX w b t q l p X V ∧ ∀ x ∈ L, (∃ A c, x.1 = .slice A x.2.length c) ∧ V.ownsRow 0 5 1 x.1 x.2.length (byt x.2) ∧ ∀ k, x.1.ownBlock = some k → X k
section
variable {w V V' : World} {b t q : Nat} {l l' : Pg.Tb} {p p' : Pl} {L : List (Value × List UInt8)}
theorem St.below (h : St w b t q l p L V) : Below w.heap.size w V := by
  obtain ⟨_, h, _⟩ := h
  exact h.below
theorem St.keep {X : Nat → Prop} (h : ∀ x ∈ L, (∃ A c, x.1 = .slice A x.2.length c) ∧ V.ownsRow 0 5 1 x.1 x.2.length (byt x.2) ∧ ∀ k, x.1.ownBlock = some k → X k) (hm : MRX w b t q l' p' X V') (hk : ∀ k, X k → V'.heap[k]? = V.heap[k]?) : St w b t q l' p' L V' :=
  ⟨X, hm, fun x hx => ⟨(h x hx).1, own_same (h x hx).2.1 (fun k e => hk k ((h x hx).2.2 k e)), (h x hx).2.2⟩⟩
theorem St.conv (h : St w b t q l p L V) {A : Option Addr} {n c : Nat} {bs : List UInt8} (hx : (Value.slice A n c, bs) ∈ L) : (convert 35 9 (.slice A n c)).run Tryz.prog V = .ok (.string (str bs)) V := by
  obtain ⟨X, _, h2⟩ := h
  obtain ⟨⟨A', c', e⟩, h3, _⟩ := h2 _ hx
  have e2 : Value.slice A n c = Value.slice A' bs.length c' := e
  simp only [Value.slice.injEq] at e2
  obtain ⟨_, e3, _⟩ := e2
  have h4 : V.ownsRow 0 5 1 (.slice A n c) bs.length (byt bs) := h3
  subst e3
  exact run_conv_sees V Tryz.underlying35 Tryz.underlying5 Tryz.underlying9 rfl (Sees.of_own h4)
theorem St.load (h : St w b t q l p L V) (a : Nat) (n o : Int) (ha : a < 4294967296) {E : Nat} {bs : List UInt8} (hE : ownE l o 1 a n = E) (hb : (if E = 0 then rdB p l a n.toNat else []) = bs) :
    Calls Tryz.prog 12 #[bx b, .int .i64 o, .int .u32 (a : Int), .int .i64 n] V fun e w' => ∃ A c, e = .returned (.tuple #[.slice A bs.length c, .int .i64 (E : Int)]) ∧ St w b t q l p ((.slice A bs.length c, bs) :: L) w' := by
  obtain ⟨X, h1, h2⟩ := h
  subst hE
  subst hb
  refine (h1.load a n o ha).mono fun _ w' ⟨A, m, c, e1, e2, e3, e4, e5, e6⟩ => ?_
  subst e2
  refine ⟨A, c, e1, _, e4, fun x hx => ?_⟩
  rcases List.mem_cons.1 hx with rfl | hx
  · exact ⟨⟨A, c, rfl⟩, own_mono e3 (Nat.zero_le _), fun k e => .inr e⟩
  · exact ⟨(h2 x hx).1, own_same (h2 x hx).2.1 (fun k e => e5 k ((h2 x hx).2.2 k e)), fun k e => .inl ((h2 x hx).2.2 k e)⟩
theorem St.peek (h : St w b t q l p L V) (a : Nat) (n : Int) (ha : a < 4294967296) {E : Nat} {bs : List UInt8} (hE : hndE l a n = E) (hb : (if E = 0 then rdB p l a n.toNat else []) = bs) :
    Calls Tryz.prog 13 #[bx b, .int .u32 (a : Int), .int .i64 n] V fun e w' => ∃ A c, e = .returned (.tuple #[.slice A bs.length c, .int .i64 (E : Int)]) ∧ St w b t q l p ((.slice A bs.length c, bs) :: L) w' := by
  obtain ⟨X, h1, h2⟩ := h
  subst hE
  subst hb
  refine (h1.peek a n ha).mono fun _ w' ⟨A, m, c, e1, e2, e3, e4, e5, e6⟩ => ?_
  subst e2
  refine ⟨A, c, e1, _, e4, fun x hx => ?_⟩
  rcases List.mem_cons.1 hx with rfl | hx
  · exact ⟨⟨A, c, rfl⟩, own_mono e3 (Nat.zero_le _), fun k e => .inr e⟩
  · exact ⟨(h2 x hx).1, own_same (h2 x hx).2.1 (fun k e => e5 k ((h2 x hx).2.2 k e)), fun k e => .inl ((h2 x hx).2.2 k e)⟩
theorem sees_marked (V : World) (cs : List Value) (t : TypeId) (fr : Nat × Nat) : Sees (V.alloc (.cells cs.toArray t fr)) (V.alloc (.cells cs.toArray t fr)).heap.size (some ⟨V.heap.size, 0, none⟩) cs := fun _ =>
  ⟨_, rfl, by simp, fun j u hu => by
    rw [add_plain, Nat.zero_add]
    have h : (V.alloc (.cells cs.toArray t fr)).heap[V.heap.size]? = some (.cells cs.toArray t fr) := World.alloc_heap_new V _
    unfold World.cell?
    rw [h]
    show cs.toArray[j]? = some u
    simpa using hu⟩
/-- a store of bytes that were just made -/
theorem St.store (h : St w b t q l p L V) (a : Nat) (o : Int) (u v : UInt8) (g : Nat) (hg : V.heap.size = g) (ha : a < 4294967296) {E : Nat} (hE : ownE l o 2 a 2 = E) (hp : storeP p l o a 2 [u, v] = p') :
    Calls Tryz.prog 11 #[bx b, .int .i64 o, .int .u32 (a : Int), .slice (some ⟨g, 0, none⟩) 2 2] (V.alloc (.cells #[.int .u8 (u.toNat : Int), .int .u8 (v.toNat : Int)] 5 (2, 3))) fun e w' => e = .returned (.int .i64 (E : Int)) ∧ St w b t q l p' L w' := by
  obtain ⟨X, h1, h2⟩ := h
  subst hE
  subst hp
  subst hg
  have hba := below1 V (.cells #[.int .u8 (u.toNat : Int), .int .u8 (v.toNat : Int)] 5 (2, 3))
  obtain ⟨h3, h4⟩ := h1.wide hba
  have hr := sees_marked V (byt [u, v]) 5 (2, 3)
  refine (h3.store a 2 2 o (some ⟨V.heap.size, 0, none⟩) [u, v] ha rfl (Nat.le_refl _) hr (fun ad e _ => ?_)).mono fun _ w' ⟨e1, e2, e3⟩ => ⟨e1, St.keep h2 (e2.less fun k hk => .inl hk) (fun k hk => (e3 k (.inl hk)).trans (h4 k hk))⟩
  injection e with e
  subst e
  exact .inr ⟨Nat.le_refl _, by simp⟩
end
structure Wks (P0 P1 P2 P3 : Pl) (T : Pg.Tb) : Prop where
  new : ∀ w, Calls Tryz.prog 6 #[.int .i64 4] w fun e w' => ∃ b t q, e = .returned (.tuple #[bx b, .int .i64 0]) ∧ St w b t q [] P0 [] w'
  rs : ∀ w b t q V, St w b t q [] P0 [] V → Calls Tryz.prog 8 #[bx b, .int .i64 1, .int .i64 2] V fun e w' => e = .returned (.int .i64 0) ∧ St w b t q [] P1 [] w'
  mp : ∀ w b t q V, St w b t q [] P1 [] V → Calls Tryz.prog 9 #[bx b, .int .i64 3, .int .i64 1, .int .i64 1, .int .i64 2] V fun e w' => e = .returned (.int .i64 0) ∧ St w b t q T P2 [] w'
  st1 : ∀ w b t q V g, St w b t q T P2 [] V → V.heap.size = g → Calls Tryz.prog 11 #[bx b, .int .i64 1, .int .u32 768, .slice (some ⟨g, 0, none⟩) 2 2] (V.alloc (.cells #[.int .u8 97, .int .u8 98] 5 (2, 3))) fun e w' => e = .returned (.int .i64 0) ∧ St w b t q T P3 [] w'
  st2 : ∀ w b t q L V g, St w b t q T P3 L V → V.heap.size = g → Calls Tryz.prog 11 #[bx b, .int .i64 1, .int .u32 1023, .slice (some ⟨g, 0, none⟩) 2 2] (V.alloc (.cells #[.int .u8 120, .int .u8 121] 5 (2, 3))) fun e w' => e = .returned (.int .i64 190) ∧ St w b t q T P3 L w'
  l1 : ∀ w b t q L V, St w b t q T P3 L V → Calls Tryz.prog 12 #[bx b, .int .i64 1, .int .u32 769, .int .i64 2] V fun e w' => ∃ A c, e = .returned (.tuple #[.slice A 2 c, .int .i64 0]) ∧ St w b t q T P3 ((.slice A 2 c, [98, 0]) :: L) w'
  l2 : ∀ w b t q L V, St w b t q T P3 L V → Calls Tryz.prog 12 #[bx b, .int .i64 2, .int .u32 768, .int .i64 1] V fun e w' => ∃ A c, e = .returned (.tuple #[.slice A 0 c, .int .i64 190]) ∧ St w b t q T P3 ((.slice A 0 c, []) :: L) w'
  l3 : ∀ w b t q L V, St w b t q T P3 L V → Calls Tryz.prog 12 #[bx b, .int .i64 1, .int .u32 1023, .int .i64 1] V fun e w' => ∃ A c, e = .returned (.tuple #[.slice A 1 c, .int .i64 0]) ∧ St w b t q T P3 ((.slice A 1 c, [0]) :: L) w'
  pk : ∀ w b t q L V, St w b t q T P3 L V → Calls Tryz.prog 13 #[bx b, .int .u32 768, .int .i64 2] V fun e w' => ∃ A c, e = .returned (.tuple #[.slice A 2 c, .int .i64 0]) ∧ St w b t q T P3 ((.slice A 2 c, [97, 98]) :: L) w'
  l4 : ∀ w b t q L V, St w b t q T P3 L V → Calls Tryz.prog 12 #[bx b, .int .i64 1, .int .u32 768, .int .i64 0] V fun e w' => ∃ A c, e = .returned (.tuple #[.slice A 0 c, .int .i64 2]) ∧ St w b t q T P3 ((.slice A 0 c, []) :: L) w'
  l5 : ∀ w b t q L V, St w b t q T P3 L V → Calls Tryz.prog 12 #[bx b, .int .i64 1, .int .u32 16777215, .int .i64 2] V fun e w' => ∃ A c, e = .returned (.tuple #[.slice A 0 c, .int .i64 4]) ∧ St w b t q T P3 ((.slice A 0 c, []) :: L) w'
theorem wks : Wks (newP 4) p1 p2 p3 t1 where
  new w := (MRX.new 4 w (by omega)).mono fun _ _ ⟨b, t, q, e1, e2⟩ => ⟨b, t, q, e1, _, e2, fun _ h => (by cases h)⟩
  rs w b t q V h := by
    obtain ⟨X, h1, h2⟩ := h
    exact (h1.reserve 1 2 (by omega)).mono fun _ _ ⟨e1, e2, e3⟩ => ⟨by rw [e1, k0]; rfl, St.keep h2 e2 e3⟩
  mp w b t q V h := by
    obtain ⟨X, h1, h2⟩ := h
    exact (h1.map 3 1 1 2 (by unfold Pg.I64; omega) (by unfold Pg.I64; omega)).mono fun _ _ ⟨e1, e2, e3⟩ => ⟨by rw [e1, k1]; rfl, St.keep h2 e2 e3⟩
  st1 w b t q V g h hg := h.store 768 1 97 98 g hg (by omega) k2 s2
  st2 w b t q L V g h hg := h.store 1023 1 120 121 g hg (by omega) k5 s5
  l1 w b t q L V h := h.load (bs := [98, 0]) 769 2 1 (by omega) k3 (by rw [if_pos rfl]; exact r3)
  l2 w b t q L V h := h.load (bs := []) 768 1 2 (by omega) k4 (by rw [if_neg (by decide)])
  l3 w b t q L V h := h.load (bs := [0]) 1023 1 1 (by omega) k6 (by rw [if_pos rfl]; exact r6)
  pk w b t q L V h := h.peek (bs := [97, 98]) 768 2 (by omega) k7 (by rw [if_pos rfl]; exact r7)
  l4 w b t q L V h := h.load (bs := []) 768 0 1 (by omega) k8 (by rw [if_neg (by decide)])
  l5 w b t q L V h := h.load (bs := []) 16777215 2 1 (by omega) k9 (by rw [if_neg (by decide)])
end Go.Proofs.YtkfljominljliaaGreat.Vm
