import Derived.RangeFuncNested
import Derived.RangeFuncCalls
import Derived.RangeFuncLeaves
import Derived.Shelf.Abstract
import Derived.Shelf.RegionOpen
import Derived.WalkKit
import Derived.OwnWalkIn
import Derived.TacticsInMore
import Derived.LoopNIn
import Derived.LoopIn
namespace Go.Proofs.YtelhieinkdmpfaaDoor
open Go.RowKit

/-- Behind a step from W to W' the blocks of Priv lie as they lay, and so do those from B on that are neither in O nor in M. -/
structure Keeps (Priv : Nat → Prop) (B : Nat) (O M : Nat → Prop) (W W' : World) : Prop where
  size : W.heap.size ≤ W'.heap.size
  same : ∀ k, k < W.heap.size → (Priv k ∨ (B ≤ k ∧ ¬ O k ∧ ¬ M k)) → W'.heap[k]? = W.heap[k]?

theorem Keeps.refl {Priv : Nat → Prop} {B : Nat} {O M : Nat → Prop} (W : World) : Keeps Priv B O M W W := ⟨Nat.le_refl _, fun _ _ _ => rfl⟩
theorem Keeps.trans {Priv : Nat → Prop} {B : Nat} {O M : Nat → Prop} {W1 W2 W3 : World} (h : Keeps Priv B O M W1 W2) (k : Keeps Priv B O M W2 W3) : Keeps Priv B O M W1 W3 :=
  ⟨Nat.le_trans h.size k.size, fun i hi hp => (k.same i (Nat.lt_of_lt_of_le hi h.size) hp).trans (h.same i hi hp)⟩

/-- what the caller's side owns behind a round: what it owned, what it was handed, what it laid -/
def nextO (O M : Nat → Prop) (W W' : World) : Nat → Prop := fun k => O k ∨ M k ∨ (W.heap.size ≤ k ∧ k < W'.heap.size)
theorem nextO_size {O M : Nat → Prop} {W W' V V' : World} (h : W.heap.size = V.heap.size) (h' : W'.heap.size = V'.heap.size) : nextO O M W W' = nextO O M V V' := by
  unfold nextO
  rw [h, h']

/-- what is said abides a step of the iterator's: new blocks; one block from B on that the caller's side does not own -/
def Abid {β : Type} (B : Nat) (J : β → (Nat → Prop) → World → Prop) : Prop :=
  ∀ s O W W' row, J s O W → W.grownBy W' row → (∀ r, row = some r → B ≤ r ∧ ¬ O r) → J s O W'

/-- how an iterator ends: all have come, or a part has, a round having said no more -/
def itEnd {α : Type} (S Sp : List α → Prop) (J Jx : List α → (Nat → Prop) → World → Prop) (e : Ending) (W' : World) : Prop :=
  (∃ v, e = .returned v) ∧ ((∃ xs O, S xs ∧ J xs O W') ∨ (∃ pre O, Sp pre ∧ Jx pre O W'))
theorem itEnd.all {α : Type} {S Sp : List α → Prop} {J Jx : List α → (Nat → Prop) → World → Prop} {v : Value} {W' : World} {xs : List α} {O : Nat → Prop} (h : S xs) (hj : J xs O W') : itEnd S Sp J Jx (.returned v) W' := ⟨⟨v, rfl⟩, .inl ⟨xs, O, h, hj⟩⟩
theorem itEnd.part {α : Type} {S Sp : List α → Prop} {J Jx : List α → (Nat → Prop) → World → Prop} {v : Value} {W' : World} {xs : List α} {O : Nat → Prop} (h : Sp xs) (hj : Jx xs O W') : itEnd S Sp J Jx (.returned v) W' := ⟨⟨v, rfl⟩, .inr ⟨xs, O, h, hj⟩⟩

/-- THE CONTRACT OF AN ITERATOR, with what it hands over in memory. -/
def It {α : Type} (P : Program) (g : Nat) (lb : Array Value) (encs : α → Array Value) (M : α → Nat → Prop) (Pre : List α → α → World → Prop) (Priv : Nat → Prop) (S Sp : List α → Prop) (w0 : World) : Prop :=
  ∀ (l : Nat) (J Jx : List α → (Nat → Prop) → World → Prop) (W : World), (∀ k, Priv k → W.heap[k]? = w0.heap[k]?) → w0.heap.size ≤ W.heap.size → Abid W.heap.size J → Abid W.heap.size Jx →
    (∀ pre x O W1, W.heap.size ≤ W1.heap.size → (∀ k, O k → W.heap.size ≤ k ∧ k < W1.heap.size) → J pre O W1 → Pre pre x W1 → (∀ k, M x k → W.heap.size ≤ k ∧ k < W1.heap.size ∧ ¬ O k) →
      YieldAt Fence.wide 0 P l (encs x) W1 fun e W' =>
        Keeps Priv W.heap.size O (M x) W1 W' ∧ ((e = .returned (.bool true) ∧ J (pre ++ [x]) (nextO O (M x) W1 W') W') ∨ (e = .returned (.bool false) ∧ Jx (pre ++ [x]) (nextO O (M x) W1 W') W'))) →
    J [] (fun _ => False) W →
    Calls P g (#[.func (.yield l) #[] #[]] ++ lb) W (itEnd S Sp J Jx)

theorem It.later {α : Type} {P : Program} {g : Nat} {lb : Array Value} {encs : α → Array Value} {M : α → Nat → Prop} {Pre : List α → α → World → Prop} {Priv : Nat → Prop} {S Sp : List α → Prop} {w0 w1 : World}
    (h : It P g lb encs M Pre Priv S Sp w0) (hp : ∀ k, Priv k → w1.heap[k]? = w0.heap[k]?) (hs : w0.heap.size ≤ w1.heap.size) : It P g lb encs M Pre Priv S Sp w1 :=
  fun l J Jx W hpW hsW => h l J Jx W (fun k hk => (hpW k hk).trans (hp k hk)) (Nat.le_trans hs hsW)

/-- HOW A ROUND MAY BE LEFT. -/
def itPost {α : Type} (Priv : Nat → Prop) (B : Nat) (M : α → Nat → Prop) (I : List α → (Nat → Prop) → World → Prop) (Ix : Code → List α → (Nat → Prop) → World → Prop) (pre : List α) (x : α) (O : Nat → Prop) (W : World) : Exit → Act → World → Prop
  | .normal, _, W' => Keeps Priv B O (M x) W W' ∧ I (pre ++ [x]) (nextO O (M x) W W') W'
  | .ret, _, W' => Keeps Priv B O (M x) W W' ∧ Ix .ret (pre ++ [x]) (nextO O (M x) W W') W'
  | .exit id, _, W' => Keeps Priv B O (M x) W W' ∧ Ix (.exit id) (pre ++ [x]) (nextO O (M x) W W') W'
  | .goto t, _, W' => Keeps Priv B O (M x) W W' ∧ Ix (.goto t) (pre ++ [x]) (nextO O (M x) W W') W'
  | .panic _, _, _ => False
  | .outgrown, _, _ => False

theorem putObj_grown (W : World) (l : Nat) (o : Obj) : W.grownBy (W.putObj l o) (some l) :=
  ⟨rfl, rfl, rfl, by simp, fun k _ hk => World.putObj_heap_other (fun e => hk (by rw [e]))⟩

/-- THE STATEMENT 'for .. := range g { .. }' over such an iterator, in a function's own frame. -/
theorem wpIn_range_it {α : Type} {P : Program} {g : Operand} {ps : Array Tmp} {assign body : Code} {Q : Exit → Act → World → Prop} {a : Act} {w : World}
    {gf : Nat} {lb : Array Value} (hg : a.eval g = .func (.func gf) #[] lb) (eg : ∀ args w, (callFunc gf args).run P w = .ok (.enter gf args) w)
    {encs : α → Array Value} {M : α → Nat → Prop} {Pre : List α → α → World → Prop} {Priv : Nat → Prop} {S Sp : List α → Prop} (hit : It P gf lb encs M Pre Priv S Sp w)
    (hpv : ∀ k, Priv k → k < w.heap.size) (hps : ∀ x, (encs x).size = ps.size) (hPre : ∀ pre x V V', (∀ k, M x k → V'.heap[k]? = V.heap[k]?) → Pre pre x V → Pre pre x V')
    (I : List α → (Nat → Prop) → World → Prop) (Ix : Code → List α → (Nat → Prop) → World → Prop) (hI : Abid w.heap.size I) (hIx : ∀ c, Abid w.heap.size (Ix c)) (h0 : I [] (fun _ => False) w) (a₁ : α → Act)
    (hassign : ∀ (l : Nat) (x : α) (W : World) (K : Act → World → Prop), K (a₁ x) W →
      assign.wpIn (Fence.wide.inRound l) 0 P (Exit.then K (fun _ _ _ => False)) { tmps := (ps.zip (encs x)).foldl (fun t (p, v) => t.setIfInBounds p v) a.tmps, defers := [] } W)
    (hbody : ∀ (l : Nat) (pre : List α) (x : α) (O : Nat → Prop) (W : World), w.heap.size + 2 ≤ W.heap.size → (∀ k, O k → w.heap.size + 2 ≤ k ∧ k < W.heap.size) → I pre O W → Pre pre x W → (∀ k, M x k → w.heap.size + 2 ≤ k ∧ k < W.heap.size ∧ ¬ O k) →
      body.wpIn (Fence.wide.inRound l) 0 P (itPost Priv w.heap.size M I Ix pre x O W) (a₁ x) W)
    (hdone : ∀ (xs : List α) (O : Nat → Prop) (W : World), S xs → I xs O W → W.heap[w.heap.size]? = some (.deferred (some [])) → Q .normal { a with defers := { target := .collected w.heap.size, args := #[] } :: a.defers } W)
    (hstop : ∀ (c : Code) (pre : List α) (O : Nat → Prop) (W : World), Sp pre → Ix c pre O W → W.heap[w.heap.size]? = some (.deferred (some [])) → c.wpIn Fence.wide 2 P Q { a with defers := { target := .collected w.heap.size, args := #[] } :: a.defers } W) :
    (Code.rangeFunc g ps assign body).wpIn Fence.wide 2 P Q a w := by
  refine wpIn_rangeFunc ?_
  intro fn hfn
  obtain ⟨rec, hrec⟩ : ∃ rec : LoopState → Option Code → Loop, rec = fun st pe => { state := st, pending := pe, fn, tmps := a.tmps, params := ps, assign, body, defers := w.heap.size } := ⟨_, rfl⟩
  obtain ⟨W1, hW1⟩ : ∃ W1, (w.alloc (.deferred (some []))).alloc (.loop (rec .ready none)) = W1 := ⟨_, rfl⟩
  have hsz : W1.heap.size = w.heap.size + 2 := by rw [← hW1]; simp
  have hL1 : W1.heap[w.heap.size + 1]? = some (.loop (rec .ready none)) := by
    rw [← hW1]; have := World.alloc_heap_new (w.alloc (.deferred (some []))) (.loop (rec .ready none)); rwa [World.size_alloc] at this
  have hD1 : W1.heap[w.heap.size]? = some (.deferred (some [])) := by
    rw [← hW1]; exact (Below.heap_alloc _ _ _ (by simp)).trans (World.alloc_heap_new w _)
  have hI1 : I [] (fun _ => False) W1 := by
    rw [← hW1]
    exact hI _ _ _ _ none (hI _ _ _ _ none h0 (World.grownBy_alloc w _ none) (fun r e => by cases e)) (World.grownBy_alloc _ _ none) (fun r e => by cases e)
  have hlow : ∀ k, k < w.heap.size → W1.heap[k]? = w.heap[k]? := fun k hk => by
    rw [← hW1]; exact (Below.heap_alloc _ _ _ (by simp; omega)).trans (Below.heap_alloc _ _ _ hk)
  refine ⟨w.heap.size + 1, [{ target := .collected w.heap.size, args := #[] }], W1, { target := .fn (.func gf) lb, args := #[.func (.yield (w.heap.size + 1)) #[] #[]] }, W1, gf,
    #[.func (.yield (w.heap.size + 1)) #[] #[]] ++ lb, W1, ?_, ?_, ?_, ?_, (fun h => by cases h), ?_⟩
  · rw [← hW1, hrec]; exact run_enterLoop_outer _ _ _ _ _
  · simp only [resolve, hg]
    simp [go_sem]
  · intro f' hf'; exact trivial
  · simp [invoke, go_sem, eg]
  · refine callsIn_wide.2 ((hit (w.heap.size + 1)
      (fun pre O W => I pre O W ∧ W.heap[w.heap.size + 1]? = some (.loop (rec .ready none)) ∧ W.heap[w.heap.size]? = some (.deferred (some [])) ∧ ∀ k, O k → w.heap.size + 2 ≤ k)
      (fun pre O W => ∃ c, Ix c pre O W ∧ W.heap[w.heap.size + 1]? = some (.loop (rec .done (some c))) ∧ W.heap[w.heap.size]? = some (.deferred (some [])) ∧ ∀ k, O k → w.heap.size + 2 ≤ k)
      W1 (fun k hk => hlow k (hpv k hk)) (by omega) ?_ ?_ ?_ ⟨hI1, hL1, hD1, fun _ h => h.elim⟩).mono ?_)
    · intro s O A B row hs hg' hr
      have hlt := (Array.getElem?_eq_some_iff.1 hs.2.1).1
      refine ⟨hI s O A B row hs.1 hg' (fun r e => ⟨by have := (hr r e).1; omega, (hr r e).2⟩), (hg'.block _ hlt (fun e => by have := (hr _ e.symm).1; omega)).trans hs.2.1, (hg'.block _ (by omega) (fun e => by have := (hr _ e.symm).1; omega)).trans hs.2.2.1, hs.2.2.2⟩
    · intro s O A B row hs hg' hr
      obtain ⟨c, hc, hl, hk, hOb⟩ := hs
      have hlt := (Array.getElem?_eq_some_iff.1 hl).1
      refine ⟨c, hIx c s O A B row hc hg' (fun r e => ⟨by have := (hr r e).1; omega, (hr r e).2⟩), (hg'.block _ hlt (fun e => by have := (hr _ e.symm).1; omega)).trans hl, (hg'.block _ (by omega) (fun e => by have := (hr _ e.symm).1; omega)).trans hk, hOb⟩
    · -- a round
      rintro pre x O W hWs hO ⟨hi, hl, hk, hOb⟩ hpre hM
      have hlt : w.heap.size + 1 < W.heap.size := (Array.getElem?_eq_some_iff.1 hl).1
      have hy := run_yield (P := P) (args := encs x) hl (by rw [hrec]; exact hps x)
      rw [hrec] at hy
      refine ⟨fn, _, assign, body, hy, roundIn_of_wpIn hfn (hassign _ x W _ ⟨_, run_beginRound hl (by rw [hrec]), ?_⟩)⟩
      obtain ⟨V, hV⟩ : ∃ V, V = W.putObj (w.heap.size + 1) (.loop { rec .ready none with state := .busy }) := ⟨_, rfl⟩
      rw [← hV]
      have hVs : V.heap.size = W.heap.size := by rw [hV]; simp
      have hl2 : V.heap[w.heap.size + 1]? = some (.loop { rec .ready none with state := .busy }) := by rw [hV]; exact World.putObj_heap_same hlt
      have hVo : ∀ k, k ≠ w.heap.size + 1 → V.heap[k]? = W.heap[k]? := fun k hk => by rw [hV]; exact World.putObj_heap_other hk
      have hk2 : V.heap[w.heap.size]? = some (.deferred (some [])) := (hVo _ (by omega)).trans hk
      have hiV : I pre O V := by rw [hV]; exact hI _ _ _ _ _ hi (putObj_grown W _ _) (fun r e => by cases e; exact ⟨by omega, fun ho => by have := (hO _ ho).1; omega⟩)
      have hpV : Pre pre x V := hPre pre x W V (fun k hkm => hVo k (by have := (hM k hkm).1; omega)) hpre
      refine wpIn_mono (hbody _ pre x O V (by omega) (fun k ho => by have := hO k ho; omega) hiV hpV (fun k hm => by have := hM k hm; exact ⟨by omega, by omega, this.2.2⟩)) ?_
      have hnO : ¬ O (w.heap.size + 1) := fun ho => by have := (hO _ ho).1; omega
      have hnM : ¬ M x (w.heap.size + 1) := fun ho => by have := (hM _ ho).1; omega
      have hnO' : ¬ O w.heap.size := fun ho => by have := (hO _ ho).1; omega
      have hnM' : ¬ M x w.heap.size := fun ho => by have := (hM _ ho).1; omega
      have hOn : ∀ W3 : World, ∀ k, nextO O (M x) V W3 k → w.heap.size + 2 ≤ k := by
        rintro W3 k (h | h | h)
        · exact hOb k h
        · have := (hM k h).1; omega
        · omega
      have fin : ∀ (jump : Option Code) (W3 : World), Keeps Priv w.heap.size O (M x) V W3 →
          (Instr.endRound (w.heap.size + 1) jump).run P W3 = .ok (.bool jump.isNone) (W3.putObj (w.heap.size + 1) (.loop (rec (if jump.isNone then .ready else .done) jump))) ∧
          (W3.putObj (w.heap.size + 1) (.loop (rec (if jump.isNone then .ready else .done) jump))).heap[w.heap.size + 1]? = some (.loop (rec (if jump.isNone then .ready else .done) jump)) ∧
          (W3.putObj (w.heap.size + 1) (.loop (rec (if jump.isNone then .ready else .done) jump))).heap[w.heap.size]? = some (.deferred (some [])) ∧
          Keeps Priv W1.heap.size O (M x) W (W3.putObj (w.heap.size + 1) (.loop (rec (if jump.isNone then .ready else .done) jump))) ∧
          nextO O (M x) V W3 = nextO O (M x) W (W3.putObj (w.heap.size + 1) (.loop (rec (if jump.isNone then .ready else .done) jump))) ∧
          (∀ s, (∀ k, nextO O (M x) V W3 k → ¬ k = w.heap.size + 1) ∧ (I s (nextO O (M x) V W3) W3 → I s (nextO O (M x) V W3) (W3.putObj (w.heap.size + 1) (.loop (rec (if jump.isNone then .ready else .done) jump))))) ∧
          (∀ c s, Ix c s (nextO O (M x) V W3) W3 → Ix c s (nextO O (M x) V W3) (W3.putObj (w.heap.size + 1) (.loop (rec (if jump.isNone then .ready else .done) jump)))) := fun jump W3 hk3 => by
        have hl3 := (hk3.same _ (by omega) (.inr ⟨by omega, hnO, hnM⟩)).trans hl2
        have hd3 := (hk3.same _ (by omega) (.inr ⟨Nat.le_refl _, hnO', hnM'⟩)).trans hk2
        have hlt3 : w.heap.size + 1 < W3.heap.size := (Array.getElem?_eq_some_iff.1 hl3).1
        have hr := run_endRound (P := P) jump hl3
        rw [hrec] at hr ⊢
        have hnn : ∀ k, nextO O (M x) V W3 k → ¬ k = w.heap.size + 1 := by
          rintro k (h | h | h) rfl
          · exact hnO h
          · exact hnM h
          · omega
        refine ⟨hr, World.putObj_heap_same hlt3, (World.putObj_heap_other (by omega)).trans hd3, ⟨by have := hk3.size; simp; omega, fun k hkl hp => ?_⟩, nextO_size hVs (by simp), fun s => ⟨hnn, fun h => hI _ _ _ _ _ h (putObj_grown W3 _ _) (fun r e => by cases e; exact ⟨by omega, fun ho => hnn _ ho rfl⟩)⟩,
          fun c s h => hIx c _ _ _ _ _ h (putObj_grown W3 _ _) (fun r e => by cases e; exact ⟨by omega, fun ho => hnn _ ho rfl⟩)⟩
        have hne : k ≠ w.heap.size + 1 := by
          rcases hp with hp | ⟨hp, _⟩
          · have := hpv k hp; omega
          · omega
        exact (World.putObj_heap_other hne).trans ((hk3.same k (by omega) (by rcases hp with hp | ⟨h1, h2⟩; exact .inl hp; exact .inr ⟨by omega, h2⟩)).trans (hVo k hne))
      rintro e a3 W3 hp
      cases e with
      | normal =>
        obtain ⟨hk3, hi3⟩ := hp
        obtain ⟨hr, hl4, hk4, hkk, hn, hi4, _⟩ := fin none W3 hk3
        exact ⟨_, _, hr, hkk, .inl ⟨rfl, by rw [← hn]; exact (hi4 _).2 hi3, hl4, hk4, by rw [← hn]; exact hOn _⟩⟩
      | ret =>
        obtain ⟨hk3, hi3⟩ := hp
        obtain ⟨hr, hl4, hk4, hkk, hn, _, hi4⟩ := fin (some .ret) W3 hk3
        exact ⟨_, _, hr, hkk, .inr ⟨rfl, .ret, by rw [← hn]; exact hi4 _ _ hi3, hl4, hk4, by rw [← hn]; exact hOn _⟩⟩
      | exit id =>
        obtain ⟨hk3, hi3⟩ := hp
        obtain ⟨hr, hl4, hk4, hkk, hn, _, hi4⟩ := fin (some (.exit id)) W3 hk3
        exact ⟨_, _, hr, hkk, .inr ⟨rfl, .exit id, by rw [← hn]; exact hi4 _ _ hi3, hl4, hk4, by rw [← hn]; exact hOn _⟩⟩
      | goto t =>
        obtain ⟨hk3, hi3⟩ := hp
        obtain ⟨hr, hl4, hk4, hkk, hn, _, hi4⟩ := fin (some (.goto t)) W3 hk3
        exact ⟨_, _, hr, hkk, .inr ⟨rfl, .goto t, by rw [← hn]; exact hi4 _ _ hi3, hl4, hk4, by rw [← hn]; exact hOn _⟩⟩
      | panic ch => exact hp.elim
      | outgrown => exact hp.elim
    · -- behind the iterator
      rintro e W2 ⟨⟨v, rfl⟩, (⟨xs, O, hS, hi, hl, hk, hOb⟩ | ⟨pre, O, hSp, c, hi, hl, hk, hOb⟩)⟩
      · have he := run_endLoop (P := P) hl (by rw [hrec]; simp)
        rw [hrec] at he
        exact ⟨none, _, he, hdone xs O _ hS (hI _ _ _ _ _ hi (putObj_grown W2 _ _) (fun r e => by cases e; exact ⟨by omega, fun ho => by have := hOb _ ho; omega⟩)) ((World.putObj_heap_other (by omega)).trans hk)⟩
      · have he := run_endLoop (P := P) hl (by rw [hrec]; simp)
        rw [hrec] at he
        exact ⟨some c, _, he, hstop c pre O _ hSp (hIx c _ _ _ _ _ hi (putObj_grown W2 _ _) (fun r e => by cases e; exact ⟨by omega, fun ho => by have := hOb _ ho; omega⟩)) ((World.putObj_heap_other (by omega)).trans hk)⟩
/-- A function's contract from its body, where the body holds a range over a function. -/
theorem calls_marks {P : Program} {f : FuncId} {fn : Func} {c : Code} {args : Array Value} {w : World} {R : Ending → World → Prop}
    (hf : P.funcs[f]? = some fn) (hb : fn.body = some c)
    (h : c.wp P (bodyPostM Fence.wide 2 P fn R) { tmps := args ++ Array.replicate (fn.ntmps - args.size) undef, defers := [] } w) : Calls P f args w R :=
  callsIn_wide.1 (callsIn_of_wp_marks hf hb trivial (wpIn_wide.2 h) rfl)
end Go.Proofs.YtelhieinkdmpfaaDoor
