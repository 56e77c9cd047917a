import Derived.Test.YtaggjfdmjpelhaaWorks
import Derived.BigQuiet
namespace Go.Proofs.Ytaggjfdmjpelhaa
open Go.RowKit Go.Shelf
attribute [local go_sem] Oper.semAt_some

/- WORDS MIXED FROM 0 ON; THE LAW'S LIST OF THEM. -/

theorem word_info : (Try.prog.info? 23).map (fun i => (i.zero, i.size, i.bytes)) = some (some (.int .u64 0), 1, 8) := by kernel_rfl
def encM (key : Nat) (x : Nat) : Array Value := #[.int .u64 (mixN key x : Int)]
def preM (many : Int) (pre : List Nat) (x : Nat) (_ : World) : Prop := x = pre.length ∧ (x : Int) < many ∧ pre = List.range x
def allM (many : Int) (xs : List Nat) : Prop := xs = List.range many.toNat
def someM (many : Int) (xs : List Nat) : Prop := xs = List.range xs.length ∧ xs.length ≤ many.toNat
theorem range_snoc {pre : List Nat} {k : Nat} (h : pre = List.range k) : Hid (pre ++ [k] = List.range (k + 1)) := by
  show _ = _
  rw [List.range_succ, h]

theorem streamF_any (k : Nat) (many : Int) (w : World) : Calls Try.prog 35 #[.int .u64 (k : Int), .int .i64 many] w fun e w' =>
    e = .returned (.func (.func 39) #[] #[.pointer (some ⟨w.heap.size + 1, 0, none⟩), .pointer (some ⟨w.heap.size, 0, none⟩)]) ∧ (w.alloc (.cells #[.int .u64 (k : Int)] 23)).alloc (.cells #[.int .i64 many] 3) = w' := by
  go_enter Try.func35, Try.ntmps35
  go_wp2
  go_ret
  exact ⟨rfl, rfl⟩

set_option maxHeartbeats 1000000 in
theorem stream1_it (key bk bm : Nat) (many : Int) (w0 : World) (hkey : key < 18446744073709551616) (hm2 : many ≤ 9223372036854775807) (hk : Row w0 bk 23 [.int .u64 (key : Int)]) (hm : Row w0 bm 3 [.int .i64 many]) :
    It Try.prog 39 #[.pointer (some ⟨bm, 0, none⟩), .pointer (some ⟨bk, 0, none⟩)] (encM key) (fun _ _ => False) (preM many) (fun b => b = bk ∨ b = bm) (allM many) (someM many) w0 := by
  intro l J Jx W hpW hsW hJ hJx hY h0
  have hkW := hk.same (hpW bk (.inl rfl))
  have hmW := hm.same (hpW bm (.inr rfl))
  have x0 : W.cell? ⟨bm, 0, none⟩ = some (.int .i64 many) := hmW.cell 0
  have hkl := hkW.lt
  refine (callsIn_wide (n := 1)).1 ?_
  refine callsIn_of_wp Try.func39 rfl trivial ?_ rfl
  simp only [Try.ntmps39, List.size_toArray, List.length_cons, List.length_nil, Nat.reduceAdd, Nat.reduceSub, Array.replicate_succ, Array.replicate_zero, List.push_toArray, List.append_toArray, List.nil_append, List.cons_append]
  gi_wp2_with fail
  refine wpIn_wide.2 (wp_scope_jump 0 fun R hR hJm => (wpIn_wide (n := 1)).1 ?_)
  gi_wp2_with fail
  refine wpIn_label ?_
  gi_wp2_with fail
  gi_loopw [6] (fun t wr => ∃ (k : Nat) (pre : List Nat) (O : Nat → Prop), t = .int .i64 k ∧ k ≤ many.toNat ∧ Hid (pre = List.range k) ∧ J pre O wr ∧ W.heap.size ≤ wr.heap.size ∧ (∀ b, O b → W.heap.size ≤ b ∧ b < wr.heap.size) ∧ Row wr bk 23 [.int .u64 (key : Int)]) (fun t _ => many.toNat - (intOf t).toNat)
  case atStart => exact ⟨0, [], fun _ => False, rfl, by omega, rfl, h0, Nat.le_refl _, fun b (h : False) => h.elim, hkW⟩
  case round =>
    obtain ⟨k, pre, O, rfl, hk, Hpre, hj, hws, hO, hrow⟩ := hrel
    by_cases hlt : (k : Int) < many
    · have hl8 : decide ((k : Int) < many) = true := decide_eq_true (by omega)
      have hlen : pre.length = k := by rw [Hpre.out]; simp
      have Hlen := Lib.hid hlen
      have y0 : wr.cell? ⟨bk, 0, none⟩ = some (.int .u64 (key : Int)) := hrow.cell 0
      have hmx := Lib.hid (fun W => mix_any key k W hkey (by omega))
      have hwk : IntKind.u64.wrap (k : Int) = (k : Int) := wrapN k (by omega)
      clear hlen
      gi_wp2_with fail
      refine ⟨trivial, (callsIn_wide.2 (hmx.out _)).mono ?_⟩
      rintro e w1 ⟨rfl, hb1⟩
      obtain ⟨fn, tmps, assign, body, hy, hR'⟩ := hY pre k O w1 (Nat.le_trans hws hb1.size) (fun b h => by have := hO b h; have := hb1.size; omega) (hJ.below hj (hb1.mono (by omega))) ⟨Hlen.out.symm, hlt, Hpre.out⟩ (fun b (h : False) => h.elim)
      simp only [encM] at hy
      gi_wp2_with fail
      refine hR'.mono ?_
      rintro e W' ⟨hk', (⟨rfl, hj'⟩ | ⟨rfl, hjx⟩)⟩
      · have hrow' : Row W' bk 23 [.int .u64 (key : Int)] := (hrow.below hb1).same (hk'.same _ (hrow.below hb1).lt (.inl (.inl rfl)))
        have hO' := nextO_bound (M := fun _ => False) (fun b h => by have := hO b h; have := hb1.size; omega) (Nat.le_trans hws hb1.size) hk'.size
        have hws' := Nat.le_trans (Nat.le_trans hws hb1.size) hk'.size
        clear hrow hO hws hb1 hk' hj
        gi_wp2_with fail
        refine ⟨⟨k + 1, _, _, by go_num, by omega, range_snoc Hpre.out, hj', hws', hO', hrow'⟩, by simp [intOf]; omega⟩
      · have HX := range_snoc Hpre.out
        gi_wp2_with fail
        refine hR.out _ _ _ _ (by simp) ?_
        go_end0
        exact itEnd.part ⟨by rw [List.length_append, Hlen.out]; exact HX.out, by rw [List.length_append, Hlen.out]; simp; omega⟩ hjx
    · obtain rfl : k = many.toNat := by omega
      have hl8 : decide (((many.toNat : Nat) : Int) < many) = false := decide_eq_false (by omega)
      gi_wp2_with fail
      refine hR.out _ _ _ _ (by simp) ?_
      go_end0
      exact itEnd.all Hpre.out hj
end Go.Proofs.Ytaggjfdmjpelhaa
