import Derived.Test.YtglfcfepgjldfaaRange
namespace Go.Proofs.Ytglfcfepgjldfaa
open Go.RowKit

theorem putObj_alloc (W : World) (l : Nat) (b o : Obj) (h : l < W.heap.size) : (W.alloc o).putObj l b = (W.putObj l b).alloc o := by
  unfold World.putObj World.alloc
  simp [Array.setIfInBounds, h, Array.set_push, Nat.lt_succ_of_lt h]

/-- THE STATEMENT 'for x := range g { .. }' over such an iterator, in a function's own frame, where x lies in a block of its own in each round. -/
theorem wpIn_range_box {α : Type} {P : Program} {g : Operand} {ps : Array Tmp} {assign body : Code} {Q : Exit → Act → World → Prop} {a : Act} {w : World}
    {gf : Nat} {lb : Array Value} (hg : a.eval g = .func (.func gf) #[] lb) (eg : ∀ args w, (callFunc gf args).run P w = .ok (.enter gf args) w)
    {encs : α → Array Value} {M : α → Nat → Prop} {Pre : List α → α → World → Prop} {Priv : Nat → Prop} {S Sp : List α → Prop} (hit : It P gf lb encs M Pre Priv S Sp w)
    (hpv : ∀ k, Priv k → k < w.heap.size) (hps : ∀ x, (encs x).size = ps.size) (hPre : ∀ pre x V V', (∀ k, M x k → V'.heap[k]? = V.heap[k]?) → Pre pre x V → Pre pre x V')
    (I : List α → (Nat → Prop) → World → Prop) (Ix : Code → List α → (Nat → Prop) → World → Prop) (hI : Abid w.heap.size I) (hIx : ∀ c, Abid w.heap.size (Ix c)) (h0 : I [] (fun _ => False) w) (a₁ : Nat → α → Act) (ob : α → Obj)
    (hassign : ∀ (l : Nat) (x : α) (W : World) (K : Act → World → Prop), K (a₁ W.heap.size x) (W.alloc (ob x)) →
      assign.wpIn (Fence.wide.inRound l) 0 P (Exit.then K (fun _ _ _ => False)) { tmps := (ps.zip (encs x)).foldl (fun t (p, v) => t.setIfInBounds p v) a.tmps, defers := [] } W)
    (hbody : ∀ (l : Nat) (pre : List α) (x : α) (O : Nat → Prop) (W : World), w.heap.size + 2 ≤ W.heap.size → (∀ k, O k → w.heap.size + 2 ≤ k ∧ k < W.heap.size) → I pre O W → Pre pre x W → (∀ k, M x k → w.heap.size + 2 ≤ k ∧ k < W.heap.size ∧ ¬ O k) →
      body.wpIn (Fence.wide.inRound l) 0 P (itPost Priv w.heap.size M I Ix pre x O W) (a₁ W.heap.size x) (W.alloc (ob x)))
    (hdone : ∀ (xs : List α) (O : Nat → Prop) (W : World), S xs → I xs O W → W.heap[w.heap.size]? = some (.deferred (some [])) → Q .normal { a with defers := { target := .collected w.heap.size, args := #[] } :: a.defers } W)
    (hstop : ∀ (c : Code) (pre : List α) (O : Nat → Prop) (W : World), Sp pre → Ix c pre O W → W.heap[w.heap.size]? = some (.deferred (some [])) → c.wpIn Fence.wide 2 P Q { a with defers := { target := .collected w.heap.size, args := #[] } :: a.defers } W) :
    (Code.rangeFunc g ps assign body).wpIn Fence.wide 2 P Q a w := by
  refine wpIn_rangeFunc ?_
  intro fn hfn
  obtain ⟨rec, hrec⟩ : ∃ rec : LoopState → Option Code → Loop, rec = fun st pe => { state := st, pending := pe, fn, tmps := a.tmps, params := ps, assign, body, defers := w.heap.size } := ⟨_, rfl⟩
  obtain ⟨W1, hW1⟩ : ∃ W1, (w.alloc (.deferred (some []))).alloc (.loop (rec .ready none)) = W1 := ⟨_, rfl⟩
  have hsz : W1.heap.size = w.heap.size + 2 := by rw [← hW1]; simp
  have hL1 : W1.heap[w.heap.size + 1]? = some (.loop (rec .ready none)) := by
    rw [← hW1]; have := World.alloc_heap_new (w.alloc (.deferred (some []))) (.loop (rec .ready none)); rwa [World.size_alloc] at this
  have hD1 : W1.heap[w.heap.size]? = some (.deferred (some [])) := by
    rw [← hW1]; exact (Below.heap_alloc _ _ _ (by simp)).trans (World.alloc_heap_new w _)
  have hI1 : I [] (fun _ => False) W1 := by
    rw [← hW1]
    exact hI _ _ _ _ none (hI _ _ _ _ none h0 (World.grownBy_alloc w _ none) (fun r e => by cases e)) (World.grownBy_alloc _ _ none) (fun r e => by cases e)
  have hlow : ∀ k, k < w.heap.size → W1.heap[k]? = w.heap[k]? := fun k hk => by
    rw [← hW1]; exact (Below.heap_alloc _ _ _ (by simp; omega)).trans (Below.heap_alloc _ _ _ hk)
  refine ⟨w.heap.size + 1, [{ target := .collected w.heap.size, args := #[] }], W1, { target := .fn (.func gf) lb, args := #[.func (.yield (w.heap.size + 1)) #[] #[]] }, W1, gf,
    #[.func (.yield (w.heap.size + 1)) #[] #[]] ++ lb, W1, ?_, ?_, ?_, ?_, (fun h => by cases h), ?_⟩
  · rw [← hW1, hrec]; exact run_enterLoop_outer _ _ _ _ _
  · simp only [resolve, hg]
    simp [go_sem]
  · intro f' hf'; exact trivial
  · simp [invoke, go_sem, eg]
  · refine callsIn_wide.2 ((hit (w.heap.size + 1)
      (fun pre O W => I pre O W ∧ W.heap[w.heap.size + 1]? = some (.loop (rec .ready none)) ∧ W.heap[w.heap.size]? = some (.deferred (some [])) ∧ ∀ k, O k → w.heap.size + 2 ≤ k)
      (fun pre O W => ∃ c, Ix c pre O W ∧ W.heap[w.heap.size + 1]? = some (.loop (rec .done (some c))) ∧ W.heap[w.heap.size]? = some (.deferred (some [])) ∧ ∀ k, O k → w.heap.size + 2 ≤ k)
      W1 (fun k hk => hlow k (hpv k hk)) (by omega) ?_ ?_ ?_ ⟨hI1, hL1, hD1, fun _ h => h.elim⟩).mono ?_)
    · intro s O A B row hs hg' hr
      have hlt := (Array.getElem?_eq_some_iff.1 hs.2.1).1
      refine ⟨hI s O A B row hs.1 hg' (fun r e => ⟨by have := (hr r e).1; omega, (hr r e).2⟩), (hg'.block _ hlt (fun e => by have := (hr _ e.symm).1; omega)).trans hs.2.1, (hg'.block _ (by omega) (fun e => by have := (hr _ e.symm).1; omega)).trans hs.2.2.1, hs.2.2.2⟩
    · intro s O A B row hs hg' hr
      obtain ⟨c, hc, hl, hk, hOb⟩ := hs
      have hlt := (Array.getElem?_eq_some_iff.1 hl).1
      refine ⟨c, hIx c s O A B row hc hg' (fun r e => ⟨by have := (hr r e).1; omega, (hr r e).2⟩), (hg'.block _ hlt (fun e => by have := (hr _ e.symm).1; omega)).trans hl, (hg'.block _ (by omega) (fun e => by have := (hr _ e.symm).1; omega)).trans hk, hOb⟩
    · -- a round
      rintro pre x O W hWs hO ⟨hi, hl, hk, hOb⟩ hpre hM
      have hlt : w.heap.size + 1 < W.heap.size := (Array.getElem?_eq_some_iff.1 hl).1
      have hy := run_yield (P := P) (args := encs x) hl (by rw [hrec]; exact hps x)
      rw [hrec] at hy
      refine ⟨fn, _, assign, body, hy, roundIn_of_wpIn hfn (hassign _ x W _ ⟨_, run_beginRound ((Below.heap_alloc _ _ _ hlt).trans hl) (by rw [hrec]), ?_⟩)⟩
      rw [putObj_alloc _ _ _ _ hlt]
      obtain ⟨V, hV⟩ : ∃ V, V = W.putObj (w.heap.size + 1) (.loop { rec .ready none with state := .busy }) := ⟨_, rfl⟩
      rw [← hV]
      have hVs : V.heap.size = W.heap.size := by rw [hV]; simp
      rw [← hVs]
      have hl2 : V.heap[w.heap.size + 1]? = some (.loop { rec .ready none with state := .busy }) := by rw [hV]; exact World.putObj_heap_same hlt
      have hVo : ∀ k, k ≠ w.heap.size + 1 → V.heap[k]? = W.heap[k]? := fun k hk => by rw [hV]; exact World.putObj_heap_other hk
      have hk2 : V.heap[w.heap.size]? = some (.deferred (some [])) := (hVo _ (by omega)).trans hk
      have hiV : I pre O V := by rw [hV]; exact hI _ _ _ _ _ hi (putObj_grown W _ _) (fun r e => by cases e; exact ⟨by omega, fun ho => by have := (hO _ ho).1; omega⟩)
      have hpV : Pre pre x V := hPre pre x W V (fun k hkm => hVo k (by have := (hM k hkm).1; omega)) hpre
      refine wpIn_mono (hbody _ pre x O V (by omega) (fun k ho => by have := hO k ho; omega) hiV hpV (fun k hm => by have := hM k hm; exact ⟨by omega, by omega, this.2.2⟩)) ?_
      have hnO : ¬ O (w.heap.size + 1) := fun ho => by have := (hO _ ho).1; omega
      have hnM : ¬ M x (w.heap.size + 1) := fun ho => by have := (hM _ ho).1; omega
      have hnO' : ¬ O w.heap.size := fun ho => by have := (hO _ ho).1; omega
      have hnM' : ¬ M x w.heap.size := fun ho => by have := (hM _ ho).1; omega
      have hOn : ∀ W3 : World, ∀ k, nextO O (M x) V W3 k → w.heap.size + 2 ≤ k := by
        rintro W3 k (h | h | h)
        · exact hOb k h
        · have := (hM k h).1; omega
        · omega
      have fin : ∀ (jump : Option Code) (W3 : World), Keeps Priv w.heap.size O (M x) V W3 →
          (Instr.endRound (w.heap.size + 1) jump).run P W3 = .ok (.bool jump.isNone) (W3.putObj (w.heap.size + 1) (.loop (rec (if jump.isNone then .ready else .done) jump))) ∧
          (W3.putObj (w.heap.size + 1) (.loop (rec (if jump.isNone then .ready else .done) jump))).heap[w.heap.size + 1]? = some (.loop (rec (if jump.isNone then .ready else .done) jump)) ∧
          (W3.putObj (w.heap.size + 1) (.loop (rec (if jump.isNone then .ready else .done) jump))).heap[w.heap.size]? = some (.deferred (some [])) ∧
          Keeps Priv W1.heap.size O (M x) W (W3.putObj (w.heap.size + 1) (.loop (rec (if jump.isNone then .ready else .done) jump))) ∧
          nextO O (M x) V W3 = nextO O (M x) W (W3.putObj (w.heap.size + 1) (.loop (rec (if jump.isNone then .ready else .done) jump))) ∧
          (∀ s, (∀ k, nextO O (M x) V W3 k → ¬ k = w.heap.size + 1) ∧ (I s (nextO O (M x) V W3) W3 → I s (nextO O (M x) V W3) (W3.putObj (w.heap.size + 1) (.loop (rec (if jump.isNone then .ready else .done) jump))))) ∧
          (∀ c s, Ix c s (nextO O (M x) V W3) W3 → Ix c s (nextO O (M x) V W3) (W3.putObj (w.heap.size + 1) (.loop (rec (if jump.isNone then .ready else .done) jump)))) := fun jump W3 hk3 => by
        have hl3 := (hk3.same _ (by omega) (.inr ⟨by omega, hnO, hnM⟩)).trans hl2
        have hd3 := (hk3.same _ (by omega) (.inr ⟨Nat.le_refl _, hnO', hnM'⟩)).trans hk2
        have hlt3 : w.heap.size + 1 < W3.heap.size := (Array.getElem?_eq_some_iff.1 hl3).1
        have hr := run_endRound (P := P) jump hl3
        rw [hrec] at hr ⊢
        have hnn : ∀ k, nextO O (M x) V W3 k → ¬ k = w.heap.size + 1 := by
          rintro k (h | h | h) rfl
          · exact hnO h
          · exact hnM h
          · omega
        refine ⟨hr, World.putObj_heap_same hlt3, (World.putObj_heap_other (by omega)).trans hd3, ⟨by have := hk3.size; simp; omega, fun k hkl hp => ?_⟩, nextO_size hVs (by simp), fun s => ⟨hnn, fun h => hI _ _ _ _ _ h (putObj_grown W3 _ _) (fun r e => by cases e; exact ⟨by omega, fun ho => hnn _ ho rfl⟩)⟩,
          fun c s h => hIx c _ _ _ _ _ h (putObj_grown W3 _ _) (fun r e => by cases e; exact ⟨by omega, fun ho => hnn _ ho rfl⟩)⟩
        have hne : k ≠ w.heap.size + 1 := by
          rcases hp with hp | ⟨hp, _⟩
          · have := hpv k hp; omega
          · omega
        exact (World.putObj_heap_other hne).trans ((hk3.same k (by omega) (by rcases hp with hp | ⟨h1, h2⟩; exact .inl hp; exact .inr ⟨by omega, h2⟩)).trans (hVo k hne))
      rintro e a3 W3 hp
      cases e with
      | normal =>
        obtain ⟨hk3, hi3⟩ := hp
        obtain ⟨hr, hl4, hk4, hkk, hn, hi4, _⟩ := fin none W3 hk3
        exact ⟨_, _, hr, hkk, .inl ⟨rfl, by rw [← hn]; exact (hi4 _).2 hi3, hl4, hk4, by rw [← hn]; exact hOn _⟩⟩
      | ret =>
        obtain ⟨hk3, hi3⟩ := hp
        obtain ⟨hr, hl4, hk4, hkk, hn, _, hi4⟩ := fin (some .ret) W3 hk3
        exact ⟨_, _, hr, hkk, .inr ⟨rfl, .ret, by rw [← hn]; exact hi4 _ _ hi3, hl4, hk4, by rw [← hn]; exact hOn _⟩⟩
      | exit id =>
        obtain ⟨hk3, hi3⟩ := hp
        obtain ⟨hr, hl4, hk4, hkk, hn, _, hi4⟩ := fin (some (.exit id)) W3 hk3
        exact ⟨_, _, hr, hkk, .inr ⟨rfl, .exit id, by rw [← hn]; exact hi4 _ _ hi3, hl4, hk4, by rw [← hn]; exact hOn _⟩⟩
      | goto t =>
        obtain ⟨hk3, hi3⟩ := hp
        obtain ⟨hr, hl4, hk4, hkk, hn, _, hi4⟩ := fin (some (.goto t)) W3 hk3
        exact ⟨_, _, hr, hkk, .inr ⟨rfl, .goto t, by rw [← hn]; exact hi4 _ _ hi3, hl4, hk4, by rw [← hn]; exact hOn _⟩⟩
      | panic ch => exact hp.elim
      | outgrown => exact hp.elim
    · -- behind the iterator
      rintro e W2 ⟨⟨v, rfl⟩, (⟨xs, O, hS, hi, hl, hk, hOb⟩ | ⟨pre, O, hSp, c, hi, hl, hk, hOb⟩)⟩
      · have he := run_endLoop (P := P) hl (by rw [hrec]; simp)
        rw [hrec] at he
        exact ⟨none, _, he, hdone xs O _ hS (hI _ _ _ _ _ hi (putObj_grown W2 _ _) (fun r e => by cases e; exact ⟨by omega, fun ho => by have := hOb _ ho; omega⟩)) ((World.putObj_heap_other (by omega)).trans hk)⟩
      · have he := run_endLoop (P := P) hl (by rw [hrec]; simp)
        rw [hrec] at he
        exact ⟨some c, _, he, hstop c pre O _ hSp (hIx c _ _ _ _ _ hi (putObj_grown W2 _ _) (fun r e => by cases e; exact ⟨by omega, fun ho => by have := hOb _ ho; omega⟩)) ((World.putObj_heap_other (by omega)).trans hk)⟩
end Go.Proofs.Ytglfcfepgjldfaa
