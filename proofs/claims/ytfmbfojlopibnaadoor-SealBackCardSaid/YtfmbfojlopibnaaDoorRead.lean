import Derived.Test.YtfmbfojlopibnaaDoorHead2
import Derived.Test.YtfmbfojlopibnaaDoorParts1
import Derived.Test.YtfmbfojlopibnaaDoorGet
namespace Go.Proofs.YtfmbfojlopibnaaDoor
open Go.RowKit Go.Shelf
attribute [local go_sem] Oper.semAt_some

/- THE PAIR OF WORDS WHOSE BYTES THEY ARE. -/

/-- what has been read after k parts -/
def rd (a b k : Nat) : List Value := [.int .u64 ((if 1 ≤ k then a else 0 : Nat) : Int), .int .u64 ((if 2 ≤ k then b else 0 : Nat) : Int)]

section
variable (a b : Nat) (w : World)
def rI (pre : List PX) (_ : Nat → Prop) (V : World) : Prop :=
  pre.length ≤ 2 ∧ Row V w.heap.size 66 [.int .u64 0, .int .u64 0] ∧ Row V (w.heap.size + 1) 66 (rd a b pre.length) ∧ Below w.heap.size w V
def rX (_ : Code) (_ : List PX) (_ : Nat → Prop) (_ : World) : Prop := False
end
section
variable {l : List UInt8} {w : World} {a b : Nat}
theorem rI.abid {B : Nat} (hB : w.heap.size + 2 ≤ B) : Abid B (rI a b w) := by
  rintro s O V V' row ⟨h1, h2, h3, h4⟩ hg hr
  have hne : ∀ k, k < B → some k ≠ row := fun k hk e => by have := (hr k e.symm).1; omega
  exact ⟨h1, h2.same (hg.block _ h2.lt (hne _ (by omega))), h3.same (hg.block _ h3.lt (hne _ (by omega))), h4.grown hg h4.size (fun r e => by have := (hr r e).1; omega)⟩
theorem rX.abid {B : Nat} (c : Code) : Abid B (rX c) := fun _ _ _ _ _ h _ _ => h.elim
theorem part_cases {pre : List PX} {x : PX} (hl : l.length = 16) (h : x.prj = cutOf l (cutk (8 : Int).toNat l.length pre.length)) (h0 : 0 < x.bytes.length) :
    (pre.length = 0 ∧ x.at_ = 0 ∧ x.bytes = l.take 8) ∨ (pre.length = 1 ∧ x.at_ = 8 ∧ x.bytes = l.drop 8) := by
  have h1 : x.at_ = pre.length * 8 := congrArg Prod.fst h
  have h2 : x.bytes = (l.drop (pre.length * 8)).take (min (pre.length * 8 + 8) l.length - pre.length * 8) := congrArg Prod.snd h
  have h3 : x.bytes.length ≤ l.length - pre.length * 8 := by rw [h2, List.length_take, List.length_drop]; omega
  rcases (show pre.length = 0 ∨ pre.length = 1 by omega) with h4 | h4
  · refine .inl ⟨h4, by omega, ?_⟩
    rw [h2, h4, hl]
    rfl
  · refine .inr ⟨h4, by omega, ?_⟩
    rw [h2, h4, hl, List.take_of_length_le (by rw [List.length_drop]; omega)]
end

/-- how the call ends -/
theorem read_close {a b : Nat} {w V : World} {g : Nat} (hg : w.heap.size + 2 ≤ g) (h2 : Row V w.heap.size 66 [.int .u64 (a : Int), .int .u64 (b : Int)]) (hb : Below w.heap.size w V)
    (tmps : Array Value) (t2 : tmps[2]?.getD undef = .pointer (some ⟨w.heap.size, 0, none⟩)) :
    ∃ v, (results Tryd.f40 tmps).run Tryd.prog (V.putObj g (.deferred none)) = .ok v (V.putObj g (.deferred none)) ∧
      (Ending.returned v = .returned (.agg #[.int .u64 (a : Int), .int .u64 (b : Int)]) ∧ Below w.heap.size w (V.putObj g (.deferred none))) := by
  have e1 : Row (V.putObj g (.deferred none)) w.heap.size 66 [.int .u64 (a : Int), .int .u64 (b : Int)] := (World.putObj_heap_other (by omega)).trans h2
  have e3 : Below w.heap.size w (V.putObj g (.deferred none)) := hb.grown (putObj_grown V _ _) hb.size (fun r e => by cases e; omega)
  obtain ⟨V', hV'⟩ : ∃ V', V' = V.putObj g (.deferred none) := ⟨_, rfl⟩
  rw [← hV'] at e1 e3 ⊢
  have c0 : V'.cell? ⟨w.heap.size, 0, none⟩ = some (.int .u64 (a : Int)) := e1.cell 0
  have c1 : V'.cell? ⟨w.heap.size, 1, none⟩ = some (.int .u64 (b : Int)) := e1.cell 1
  exact ⟨.agg #[.int .u64 (a : Int), .int .u64 (b : Int)], by simp [results, Tryd.results40, go_sem, c0, c1, t2], rfl, e3⟩

set_option maxHeartbeats 2000000 in
theorem read_any (l : List UInt8) (A : Option Addr) (c : Nat) (w : World) (ht : Tab w) (hl : l.length = 16) (hr : Sees w w.heap.size A (byt l)) :
    Calls Tryd.prog 40 #[.slice A 16 c] w fun e w' => e = .returned (.agg #[.int .u64 (leVal (l.take 8) : Int), .int .u64 (leVal (l.drop 8) : Int)]) ∧ Below w.heap.size w w' := by
  obtain ⟨a, haa⟩ : ∃ a, a = leVal (l.take 8) := ⟨_, rfl⟩
  obtain ⟨b, hbb⟩ : ∃ b, b = leVal (l.drop 8) := ⟨_, rfl⟩
  rw [← haa, ← hbb]
  have HX := Lib.hid haa
  have HY := Lib.hid hbb
  clear haa hbb
  obtain ⟨w1, hw1⟩ : ∃ w1, w1 = (w.alloc (.cells #[.int .u64 0, .int .u64 0] 66)).alloc (.cells #[.int .u64 0, .int .u64 0] 66) := ⟨_, rfl⟩
  have hB1 : Below w.heap.size w w1 := by rw [hw1]; exact below2 _ _ _
  have hs1 : w1.heap.size = w.heap.size + 2 := by rw [hw1]; simp
  have hr0 : Row w1 w.heap.size 66 [.int .u64 0, .int .u64 0] := by rw [hw1]; exact (Row.new _ _ _).below (below1 _ _)
  have hr1 : Row w1 (w.heap.size + 1) 66 [.int .u64 0, .int .u64 0] := by rw [hw1]; exact Row.new_at _ _ _ (by simp)
  have hp := Lib.hid (partsF_any l 16 c w.heap.size A 8 w1 hl (by decide) (hr.below hB1) hB1.size)
  refine calls_marks Tryd.func40 rfl ?_
  simp only [Tryd.ntmps40, List.size_toArray, List.length_cons, List.length_nil, Nat.reduceAdd, Nat.reduceSub, Array.replicate_succ, Array.replicate_zero, List.push_toArray, List.append_toArray, List.nil_append, List.cons_append]
  go_wp2_with fail
  rw [← hw1]
  clear hw1
  refine (hp.out).mono ?_
  rintro e w2 ⟨v, bo, bs, rfl, hbo, hbs, hco, hcs, hown, hb2⟩
  have hB2 := hB1.trans (hb2.mono hB1.size)
  have hr2 := hr0.below hb2
  have hr3 := hr1.below hb2
  obtain ⟨A1, c1, rfl⟩ := own_slice hown
  have hs2 := hb2.size
  have hbol := lt_of_cell hco
  have hbsl := lt_of_cell hcs
  have hit := parts1_it l 8 bo bs w1.heap.size c1 A1 w2 (by omega) (by rw [hl]; exact hco) hcs (by rw [hl]; exact hown)
  have hpv : ∀ k, (k = bo ∨ k = bs ∨ (Value.slice A1 l.length c1).ownBlock = some k) → w.heap.size + 2 ≤ k ∧ k < w2.heap.size := by
    rintro k (rfl | rfl | h)
    · exact ⟨by omega, hbol⟩
    · exact ⟨by omega, hbsl⟩
    · rw [hl] at h
      have := hown.lt k h; omega
  have HL := Lib.hid hl
  clear hb2 hr0 hr1 hp hB1 hl
  go_wp2_with fail
  refine wpIn_wide.1 (wpIn_range_it (gf := 70) (lb := #[.pointer (some ⟨bo, 0, none⟩), .pointer (some ⟨bs, 0, none⟩)]) rfl (enters_of Tryd.func70 (by kernel_rfl) rfl) hit (fun k hk => (hpv k hk).2) (fun _ => rfl) (fun pre x V V' hm h => ⟨own_same h.1 (fun k hk => hm k (by simp only [Value.ownBlock, Option.some.injEq] at hk; exact hk.symm)), h.2⟩)
    (rI a b w) rX (rI.abid (by omega)) rX.abid ⟨by simp, hr2, hr3, hB2⟩
    (fun x => { tmps := #[.slice A 16 c, undef, .pointer (some ⟨w.heap.size, 0, none⟩), .pointer (some ⟨w.heap.size + 1, 0, none⟩), .int .i64 (x.at_ : Int), .slice (some ⟨x.blk, 0, none⟩) x.bytes.length x.cap, .slice A 16 c, .func (.func 70) #[] #[.pointer (some ⟨bo, 0, none⟩), .pointer (some ⟨bs, 0, none⟩)], .int .i64 (x.at_ : Int), .slice (some ⟨x.blk, 0, none⟩) x.bytes.length x.cap, undef, undef, undef, undef, undef, undef, undef, undef, undef], defers := [] }) ?assign ?body ?done ?stop)
  case assign =>
    intro l' x W' K hK
    simp only [encPart]
    gi_wp2
    exact hK
  case body =>
    rintro l' pre x O V hVs hO ⟨hp, hq2, hq3, hbv⟩ ⟨ho, hpx, hx0⟩ hxm
    have hxb := hxm x.blk rfl
    have hso := Sees.of_own ho
    have hcase := part_cases HL.out hpx hx0
    have htv := ht.below hbv
    have hkeep : ∀ (W' : World), Keep (· = w.heap.size + 1) V W' → Keeps (fun k => k = bo ∨ k = bs ∨ (Value.slice A1 l.length c1).ownBlock = some k) w2.heap.size O (memPart x) V W' := fun W' h =>
      ⟨h.size, fun k hk hp => h.block k hk (fun e => by
        have e : k = w.heap.size + 1 := e
        rcases hp with hp | hp
        · have := hpv k hp; omega
        · omega)⟩
    rcases hcase with ⟨hk, hat, hb⟩ | ⟨hk, hat, hb⟩
    · have h8 : x.bytes.length = 8 := by rw [hb, List.length_take, HL.out]; rfl
      have hg := Lib.hid (get_ok x.bytes 8 x.cap V.heap.size _ V htv h8 rfl hso (Nat.le_refl _))
      rw [hk] at hq3
      rw [hb, ← HX.out] at hg
      have hfin := Lib.hid (fun (W1 : World) (hb1 : Below V.heap.size V W1) => (show Keeps (fun k => k = bo ∨ k = bs ∨ (Value.slice A1 l.length c1).ownBlock = some k) w2.heap.size O (memPart x) V (W1.setCell ⟨w.heap.size + 1, 0, none⟩ (.int .u64 (a : Int))) ∧ rI a b w (pre ++ [x]) (nextO O (memPart x) V (W1.setCell ⟨w.heap.size + 1, 0, none⟩ (.int .u64 (a : Int)))) (W1.setCell ⟨w.heap.size + 1, 0, none⟩ (.int .u64 (a : Int))) from
        ⟨hkeep _ ((Keep.of_below (F := (· = w.heap.size + 1)) hb1).set _ (.inl (show w.heap.size + 1 = w.heap.size + 1 from rfl))), by simp [hk],
          (hq2.below hb1).same (heap_set (by omega)), by
            have := (hq3.below hb1).set 0 (.int .u64 (a : Int))
            rw [List.length_append, hk]
            exact this, (hbv.trans (hb1.mono hbv.size)).setCell (by simp) _⟩))
      have hr1 := Lib.hid (fun (W1 : World) (hb1 : Below V.heap.size V W1) => (show Row W1 (w.heap.size + 1) 66 [.int .u64 0, .int .u64 0] from hq3.below hb1))
      rw [h8, hat]
      clear hit hq2 hq3 hbv ho hpx hx0 hxm hxb hso htv hkeep hk hat hb h8 hp hown hr2 hr3 hB2 hcs hco
      gi_wp2_with fail
      refine ⟨trivial, rfl, CallsIn.inRound l' ((callsIn_wide.2 hg.out).mono ?_)⟩
      rintro e W1 ⟨rfl, hb1⟩
      have hr4 := hr1.out _ hb1
      have d0 : W1.cell? ⟨w.heap.size + 1, 0, none⟩ = some (.int .u64 0) := hr4.cell 0
      have d1 := hr4.frozen 0
      have hf := Lib.hid (hfin.out _ hb1)
      clear hr4 hb1 hfin hr1 hg
      gi_wp2
      exact hf.out
    · have h8 : x.bytes.length = 8 := by rw [hb, List.length_drop, HL.out]
      have hg := Lib.hid (get_ok x.bytes 8 x.cap V.heap.size _ V htv h8 rfl hso (Nat.le_refl _))
      rw [hk] at hq3
      rw [hb, ← HY.out] at hg
      have hfin := Lib.hid (fun (W1 : World) (hb1 : Below V.heap.size V W1) => (show Keeps (fun k => k = bo ∨ k = bs ∨ (Value.slice A1 l.length c1).ownBlock = some k) w2.heap.size O (memPart x) V (W1.setCell ⟨w.heap.size + 1, 1, none⟩ (.int .u64 (b : Int))) ∧ rI a b w (pre ++ [x]) (nextO O (memPart x) V (W1.setCell ⟨w.heap.size + 1, 1, none⟩ (.int .u64 (b : Int)))) (W1.setCell ⟨w.heap.size + 1, 1, none⟩ (.int .u64 (b : Int))) from
        ⟨hkeep _ ((Keep.of_below (F := (· = w.heap.size + 1)) hb1).set _ (.inl (show w.heap.size + 1 = w.heap.size + 1 from rfl))), by simp [hk],
          (hq2.below hb1).same (heap_set (by omega)), by
            have := (hq3.below hb1).set 1 (.int .u64 (b : Int))
            rw [List.length_append, hk]
            exact this, (hbv.trans (hb1.mono hbv.size)).setCell (by simp) _⟩))
      have hr1 := Lib.hid (fun (W1 : World) (hb1 : Below V.heap.size V W1) => (show Row W1 (w.heap.size + 1) 66 [.int .u64 (a : Int), .int .u64 0] from hq3.below hb1))
      rw [h8, hat]
      clear hit hq2 hq3 hbv ho hpx hx0 hxm hxb hso htv hkeep hk hat hb h8 hp hown hr2 hr3 hB2 hcs hco
      gi_wp2_with fail
      refine ⟨trivial, rfl, CallsIn.inRound l' ((callsIn_wide.2 hg.out).mono ?_)⟩
      rintro e W1 ⟨rfl, hb1⟩
      have hr4 := hr1.out _ hb1
      have d0 : W1.cell? ⟨w.heap.size + 1, 1, none⟩ = some (.int .u64 0) := hr4.cell 1
      have d1 := hr4.frozen 1
      have hf := Lib.hid (hfin.out _ hb1)
      clear hr4 hb1 hfin hr1 hg
      gi_wp2
      exact hf.out
  case done =>
    rintro xs O V hall ⟨hp, hq2, hq3, hbv⟩ hD
    have hxl : xs.length = 2 := by
      have := hall.2.2 (by decide)
      rw [HL.out] at this
      simp at this
      omega
    rw [hxl] at hq3
    have d0 : V.cell? ⟨w.heap.size + 1, 0, none⟩ = some (.int .u64 (a : Int)) := hq3.cell 0
    have d1 : V.cell? ⟨w.heap.size + 1, 1, none⟩ = some (.int .u64 (b : Int)) := hq3.cell 1
    have e0 : V.cell? ⟨w.heap.size, 0, none⟩ = some (.int .u64 0) := hq2.cell 0
    have e1 : V.cell? ⟨w.heap.size, 1, none⟩ = some (.int .u64 0) := hq2.cell 1
    have f0 := hq2.frozen 0
    have f1 := hq2.frozen 1
    have hz1 : Row ((V.setCell ⟨w.heap.size, 0, none⟩ (.int .u64 (a : Int))).setCell ⟨w.heap.size, 1, none⟩ (.int .u64 (b : Int))) w.heap.size 66 [.int .u64 (a : Int), .int .u64 (b : Int)] := (hq2.set 0 (.int .u64 (a : Int))).set 1 (.int .u64 (b : Int))
    have hz2 : Below w.heap.size w ((V.setCell ⟨w.heap.size, 0, none⟩ (.int .u64 (a : Int))).setCell ⟨w.heap.size, 1, none⟩ (.int .u64 (b : Int))) := (hbv.setCell (by simp) _).setCell (by simp) _
    have hD' : ((V.setCell ⟨w.heap.size, 0, none⟩ (.int .u64 (a : Int))).setCell ⟨w.heap.size, 1, none⟩ (.int .u64 (b : Int))).heap[w2.heap.size]? = some (.deferred (some [])) := by
      rw [heap_set (by omega), heap_set (by omega)]; exact hD
    have hres := Lib.hid (read_close (g := w2.heap.size) (by omega) hz1 hz2)
    have l0 := hq2.lt
    have l1 := hq3.lt
    clear hit hall hq2 hq3 hbv hz1 hz2 hxl hown hr2 hr3 hB2 hcs hco
    go_wp2
    refine ⟨by simp, .inl ⟨_, _, rfl, run_takeDeferred hD', ?_⟩⟩
    exact hres.out _ rfl
  case stop => intro c' pre O V _ h; exact h.elim
end Go.Proofs.YtfmbfojlopibnaaDoor
