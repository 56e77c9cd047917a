import Derived.Test.YtfcfbcjiijfjgaaGreatDoorPAB
import Derived.Test.YtfcfbcjiijfjgaaGreatDoorPAJ
import Derived.Shelf.SlMaps.Clone
import Derived.Shelf.SlCmpFuncs.BinarySearchFunc
import Derived.Shelf.SlCmpFuncs.None
import Derived.Shelf.Spec.SlicesInsertGrow
import Derived.Shelf.SlIterI.Sorted
import Derived.Shelf.SlIterI.Nil
import Derived.Shelf.SortM.Plain
import Derived.Shelf.SortM.SortNone
set_option maxHeartbeats 2000000
set_option maxRecDepth 100000
namespace Go.Proofs.YtfcfbcjiijfjgaaGreatDoor
open Go.RowKit Go.Shelf Go.Maps Go.Sort
attribute [local go_sem] Oper.semAt_some
theorem give1_any (gp gi b n:Nat) (i:Int) (w:World) (hp:w.cell? ⟨gp,0,none⟩=some (bx b)) (hi:w.cell? ⟨gi,0,none⟩=some (.int .i64 i)) (hc:w.cell? ⟨b,0,none⟩=some (.int .i64 (n:Int))):
  Calls Tryz.prog 201 #[bx gp,bx gi] w fun e w'=>e= .returned (.bool (decide (0≤i) && decide (i < n)))∧Below w.heap.size w w':=by
 have h1:=Lh (fun k=>(show Calls Tryz.prog 202 #[bx b,.int .i64 i] (w.drewN k) (fun e w'=>e= .returned (.bool (decide (0≤i) && decide (i < n)))∧∃q,w'=w.drewN q) from(is_any b n i (w.drewN k) hc).mono fun e w' ⟨e1,e2⟩=>⟨e1,k,e2.symm⟩))
 obtain⟨q,hq⟩:=Nm ((decide (0≤i) && decide (i < n)))
 rw [←hq]at h1 ⊢
 have HD:=Lh (fun n=>below_drewN (Below.refl w.heap.size w) n)
 have mixed:Tryz.prog.follows .mixedOrders=true:=by kernel_rfl
 clear hq
 go_enter Tryz.func201,Tryz.ntmps201
 go_wp2_with fail
 go_quiet ((go_at_call 202;exact h1.out _))
 go_wp2
 go_ret
 exact⟨rfl,HD.out _⟩
theorem ownB_at {p:Pl} (i:Int) (hi:0≤i):(ownAt (owns p.fr) i).isSome=(frameO p i.toNat).isSome:=by
 unfold ownAt frameO
 rw [if_neg (by omega),owns_get]
 cases p.fr[i.toNat]? with
 | none=>rfl
 | some x=>cases x <;> rfl
theorem give2_any {b bm:Nat} {p:Pl} {fv sv:Value} {fb:List (List UInt8)} {gf gs:Option Nat} {w:World} (h:Rep w b p bm fv sv fb gf gs) (gp gi:Nat) (i:Nat) (hil:i≤9223372036854775807) (hp:w.cell? ⟨gp,0,none⟩=some (bx b)) (hi:w.cell? ⟨gi,0,none⟩=some (.int .i64 (i:Int))):
  Calls Tryz.prog 203 #[bx gp,bx gi] w fun e w'=>e= .returned (.bool (frameO p i).isSome)∧Below w.heap.size w w':=by
 have h1:=Lh (fun k=>(show Calls Tryz.prog 204 #[bx b,.int .i64 (i:Int)] (w.drewN k) (fun e w'=>e= .returned (.bool (ownAt (owns p.fr) (i:Int)).isSome)∧∃q,w'=w.drewN q) from(owned_any b bm 16384 (owns p.fr) (i:Int) (w.drewN k) (by omega) h.c1 h.map).mono fun e w' ⟨e1,e2⟩=>⟨e1,k,e2.symm⟩))
 have hob:=ownB_at (p:=p) (i:Int) (by omega)
 rw [Int.toNat_natCast]at hob
 rw [hob]at h1
 obtain⟨q,hq⟩:=Nm ((frameO p i).isSome)
 rw [←hq]at h1 ⊢
 have HD:=Lh (fun n=>below_drewN (Below.refl w.heap.size w) n)
 have mixed:Tryz.prog.follows .mixedOrders=true:=by kernel_rfl
 clear hq hob h
 go_enter Tryz.func203,Tryz.ntmps203
 go_wp2_with fail
 go_quiet ((go_at_call 204;exact h1.out _))
 go_wp2
 go_ret
 exact⟨rfl,HD.out _⟩
theorem reach2_any {b bm:Nat} {p:Pl} {fv sv:Value} {fb:List (List UInt8)} {gf gs:Option Nat} {w:World} (h:Rep w b p bm fv sv fb gf gs) (gp gi:Nat) (i:Nat) (hil:i≤9223372036854775807) (hp:w.cell? ⟨gp,0,none⟩=some (bx b)) (hi:w.cell? ⟨gi,0,none⟩=some (.int .i64 (i:Int))):
  Calls Tryz.prog 264 #[bx gp,bx gi] w fun e w'=>e= .returned (.bool (frameO p i).isSome)∧Below w.heap.size w w':=by
 have h1:=Lh (fun k=>(show Calls Tryz.prog 204 #[bx b,.int .i64 (i:Int)] (w.drewN k) (fun e w'=>e= .returned (.bool (ownAt (owns p.fr) (i:Int)).isSome)∧∃q,w'=w.drewN q) from(owned_any b bm 16384 (owns p.fr) (i:Int) (w.drewN k) (by omega) h.c1 h.map).mono fun e w' ⟨e1,e2⟩=>⟨e1,k,e2.symm⟩))
 have hob:=ownB_at (p:=p) (i:Int) (by omega)
 rw [Int.toNat_natCast]at hob
 rw [hob]at h1
 obtain⟨q,hq⟩:=Nm ((frameO p i).isSome)
 rw [←hq]at h1 ⊢
 have HD:=Lh (fun n=>below_drewN (Below.refl w.heap.size w) n)
 have mixed:Tryz.prog.follows .mixedOrders=true:=by kernel_rfl
 clear hq hob h
 go_enter Tryz.func264,Tryz.ntmps264
 go_wp2_with fail
 go_quiet ((go_at_call 204;exact h1.out _))
 go_wp2
 go_ret
 exact⟨rfl,HD.out _⟩
theorem reach1_any (gp gi ga gm b n:Nat) (i a m:Int) (w:World) (ha: -9223372036854775808≤a∧a≤9223372036854775807) (hp:w.cell? ⟨gp,0,none⟩=some (bx b)) (hi:w.cell? ⟨gi,0,none⟩=some (.int .i64 i)) (hga:w.cell? ⟨ga,0,none⟩=some (.int .i64 a)) (hgm:w.cell? ⟨gm,0,none⟩=some (.int .i64 m)) (hc:w.cell? ⟨b,0,none⟩=some (.int .i64 (n:Int))):
  Calls Tryz.prog 262 #[bx gp,bx gi,bx ga,bx gm] w fun e w'=>e= .returned (.bool ((decide (0≤i) && decide (i < n)) && holdsB a m))∧Below w.heap.size w w':=by
 have h1:=Lh (fun k=>(show Calls Tryz.prog 202 #[bx b,.int .i64 i] (w.drewN k) (fun e w'=>e= .returned (.bool (decide (0≤i) && decide (i < n)))∧∃q,w'=w.drewN q) from(is_any b n i (w.drewN k) hc).mono fun e w' ⟨e1,e2⟩=>⟨e1,k,e2.symm⟩))
 have h2:=Lh (fun k=>(show Calls Tryz.prog 263 #[.int .i64 a,.int .i64 m] (w.drewN k) (fun e w'=>e= .returned (.bool (holdsB a m))∧∃q,w'=w.drewN q) from(holds_any a m (w.drewN k) ha).mono fun e w' ⟨e1,e2⟩=>⟨e1,k,e2.symm⟩))
 obtain⟨q,hq⟩:=Nm ((decide (0≤i) && decide (i < n)))
 obtain⟨r,hr⟩:=Nm (holdsB a m)
 rw [←hq]at h1 ⊢
 rw [←hr]at h2 ⊢
 have HD:=Lh (fun n=>below_drewN (Below.refl w.heap.size w) n)
 have mixed:Tryz.prog.follows .mixedOrders=true:=by kernel_rfl
 clear hq hr ha
 cases q
 all_goals
  go_enter Tryz.func262,Tryz.ntmps262
  go_wp2_with fail
  go_quiet (first | (go_at_call 202;exact h1.out _) | (go_at_call 263;exact h2.out _))
  go_wp2
  go_ret
  exact⟨by simp,HD.out _⟩
def reachL (v:Value) (s:Nat) (a1 a2 a3:Bool):List Ask:=
 [⟨90,#[v],#[],1,a1⟩,⟨262,#[],#[bx s,bx (s+1),bx (s+2),bx (s+3)],4,a2⟩,⟨264,#[],#[bx s,bx (s+1)],5,a3⟩]
def reachB (v:Value) (i a m:Int):List (Value × TypeId):= [(v,94),(.int .i64 i,3),(.int .i64 a,3),(.int .i64 m,3)]
theorem reach_asked {b bm:Nat} {p:Pl} {fv sv:Value} {fb:List (List UInt8)} {gf gs:Option Nat} {w:World} (h:Rep w b p bm fv sv fb gf gs) (i a m:Int) (hi1:i≤9223372036854775807) (ha: -9223372036854775808≤a∧a≤9223372036854775807):
  Calls Tryz.prog 76 #[.slice (some ⟨w.heap.size+4,0,none⟩) 3 3] (askW w (reachB (bx b) i a m) (reachL (bx b) w.heap.size true true true)) fun e w'=>e= .returned (.int .i64 (reachE p i a m:Int))∧Boxes w [bx b,.int .i64 i,.int .i64 a,.int .i64 m] w':=by
 obtain⟨a2,ha2⟩:=Nm (((decide (0≤i) && decide (i < p.fr.length)) && holdsB a m))
 obtain⟨a3,ha3⟩:=Nm ((frameO p i.toNat).isSome)
 have hE:askE (reachL (bx b) w.heap.size true a2 a3)=(reachE p i a m:Int):=by
  unfold reachE frameB
  have e2:(¬((decide (0≤i) && decide (i < p.fr.length))=true∧holdsB a m=true))↔a2=false:=by rw [ha2];cases(decide (0≤i) && decide (i < p.fr.length)) <;> cases holdsB a m <;> simp
  have e3:(frameO p i.toNat=none)↔a3=false:=by rw [ha3];cases frameO p i.toNat <;> simp
  simp only [e2,e3]
  cases a2 <;> cases a3 <;> rfl
 refine(asked_box (reachB (bx b) i a m) (reachL (bx b) w.heap.size true a2 a3) 3 3 _ rfl rfl (by omega) fun k hk hall=> ?_).mono fun e w' ⟨e1,e2,_⟩=>⟨by rw [e1,hE],e2⟩
 rcases k with _ | _ | _ | k
 ·refine⟨enters_of Tryz.func90 (by kernel_rfl) rfl,fun V hV=> ?_⟩
  exact(there_map b bm V (hV.rep h).c1).mono fun e w' ⟨e1,e2⟩=>⟨e1,e2 ▸ Br⟩
 ·refine⟨enters_of Tryz.func262 (by kernel_rfl) rfl,fun V hV=> ?_⟩
  have:=reach1_any w.heap.size (w.heap.size+1) (w.heap.size+2) (w.heap.size+3) b p.fr.length i a m V ha (hV.cell 0 _ rfl) (hV.cell 1 _ rfl) (hV.cell 2 _ rfl) (hV.cell 3 _ rfl) (hV.rep h).c0
  rw [←ha2]at this
  exact this
 ·have t2:a2=true:=hall 1 (by simp [reachL]) (by omega)
  rw [ha2,Bool.and_eq_true,Bool.and_eq_true,decide_eq_true_eq]at t2
  obtain⟨n,rfl⟩:∃n:Nat,i=n:=⟨i.toNat,by omega⟩
  refine⟨enters_of Tryz.func264 (by kernel_rfl) rfl,fun V hV=> ?_⟩
  have:=reach2_any (hV.rep h) w.heap.size (w.heap.size+1) n (by omega) (hV.cell 0 _ rfl) (hV.cell 1 _ rfl)
  rw [Int.toNat_natCast]at ha3
  rw [←ha3]at this
  exact this
 ·simp [reachL]at hk
  omega
theorem reach_no {b bm:Nat} {p:Pl} {fv sv:Value} {fb:List (List UInt8)} {gf gs:Option Nat} {w:World} (h:Rep w b p bm fv sv fb gf gs) (i a m:Int) (hi1:i≤9223372036854775807) (ha: -9223372036854775808≤a∧a≤9223372036854775807) (hE:reachE p i a m≠0):
  Calls Tryz.prog 258 #[bx b,.int .i64 i,.int .i64 a,.int .i64 m] w fun e w'=>e= .returned (.tuple #[.slice none 0 0,.int .i64 (reachE p i a m:Int)])∧Below w.heap.size w w':=by
 have h1:=Lh ((reach_asked h i a m hi1 ha).mono fun e w' ⟨e1,e2⟩=>(show e=Ending.returned (Value.int .i64 (reachE p i a m:Int))∧Below w.heap.size w w' from⟨e1,e2.below⟩))
 obtain⟨E,hE2⟩:=Nm (reachE p i a m)
 rw [←hE2]at h1 hE ⊢
 have e0:(((E:Int)) == 0)=false:=by rw [beq_eq_false_iff_ne];omega
 have e1:¬((E:Int)=0):=by omega
 clear hE2 hE h hi1 ha
 go_enter Tryz.func258,Tryz.ntmps258
 go_wp2_with fail
 refine wp_scope_jump 1 fun R hR hJm=> ?_
 go_wp2_with fail
 refine(h1.out).mono ?_
 rintro e w1 ⟨rfl,hb⟩
 go_wp2_with fail
 refine wp_goto (hJm.out _ _ _ _ _ rfl ?_)
 go_wp2_with fail
 refine hR.out _ _ _ _ (by simp) ?_
 go_ret2
 exact⟨rfl,hb⟩
theorem reach_yes {b bm:Nat} {p:Pl} {sv:Value} {f0 N fc:Nat} {fb:List (List UInt8)} {gf gs:Option Nat} {w:World} (h:Rep w b p bm (Value.slice (some ⟨f0,0,none⟩) N fc) sv fb gf gs) (i a m:Nat) (hiN:i < N) (hN:N≤16384) (ha:a < 256) (hm:a+m≤256) (hE:reachE p i a m=0):
  Calls Tryz.prog 258 #[bx b,.int .i64 (i:Int),.int .i64 (a:Int),.int .i64 (m:Int)] w fun e w'=>e= .returned (.tuple #[.slice (some ⟨f0,i*256+a,none⟩) m (256 - a),.int .i64 0])∧Below w.heap.size w w':=by
 have hb66:=h.obj.lt
 have h1:=Lh ((reach_asked h (i:Int) (a:Int) (m:Int) (by omega) (by omega)).mono fun e w' ⟨e1,e2⟩=>(show e=Ending.returned (Value.int .i64 (reachE p i a m:Int))∧Below w.heap.size w w'∧w'.cell? ⟨w.heap.size,0,none⟩=some (bx b)∧w'.cell? ⟨w.heap.size+1,0,none⟩=some (Value.int .i64 (i:Int))∧w'.cell? ⟨w.heap.size+1+1,0,none⟩=some (Value.int .i64 (a:Int))∧w'.cell? ⟨w.heap.size+1+1+1,0,none⟩=some (Value.int .i64 (m:Int))∧w'.cell? ⟨b,66,none⟩=some (Value.slice (some ⟨f0,0,none⟩) N fc) from
  ⟨e1,e2.below,e2.cell 0 _ rfl,e2.cell 1 _ rfl,e2.cell 2 _ rfl,e2.cell 3 _ rfl,(e2.below.cell (p:=⟨b,66,none⟩) hb66).trans h.c66⟩))
 rw [hE]at h1
 have HD:=Lh (fun w' n (hb:Below w.heap.size w w')=>below_drewN hb n)
 have mixed:Tryz.prog.follows .mixedOrders=true:=by kernel_rfl
 have i0:(0:Int)≤(i:Int):=by omega
 have i1:(i:Int) < (N:Int):=by omega
 have a0:(0:Int)≤(a:Int):=by omega
 have a1:(a:Int)≤(a:Int)+(m:Int):=by omega
 have a2:(a:Int)+(m:Int)≤256:=by omega
 have a3:¬(256=a):=by omega
 have a4:(0:Int)≤(a:Int)+(m:Int):=by omega
 have a5:((a:Int)+(m:Int)).toNat=a+m:=by omega
 have a6:a+m - a=m:=by omega
 have hw:IntKind.i64.wrap ((a:Int)+(m:Int))=(a:Int)+(m:Int):=wrapI _ (by omega) (by omega)
 clear h hb66 hE hiN hN ha hm
 go_enter Tryz.func258,Tryz.ntmps258
 go_wp2_with fail
 refine wp_scope_jump 1 fun R hR hJm=> ?_
 go_wp2_with fail
 refine(h1.out).mono ?_
 rintro e w1 ⟨rfl,hb,d0,d1,d2,d3,d4⟩
 have HB:=Lh hb
 clear hb h1
 go_wp2_with fail
 go_quiet (fail)
 go_wp2_with fail
 refine hR.out _ _ _ _ (by simp) ?_
 go_ret2
 exact⟨rfl,HD.out _ _ HB.out⟩
theorem reach_end {b bm:Nat} {p:Pl} {sv:Value} {f0 N fc:Nat} {fb:List (List UInt8)} {gf gs:Option Nat} {w:World} (h:Rep w b p bm (Value.slice (some ⟨f0,0,none⟩) N fc) sv fb gf gs) (i:Nat) (hiN:i < N) (hN:N≤16384) (hE:reachE p i 256 0=0):
  Calls Tryz.prog 258 #[bx b,.int .i64 (i:Int),.int .i64 256,.int .i64 0] w fun e w'=>e= .returned (.tuple #[.slice (some ⟨f0,i*256,none⟩) 0 0,.int .i64 0])∧Below w.heap.size w w':=by
 have hb66:=h.obj.lt
 have h1:=Lh ((reach_asked h (i:Int) 256 0 (by omega) (by omega)).mono fun e w' ⟨e1,e2⟩=>(show e=Ending.returned (Value.int .i64 (reachE p i 256 0:Int))∧Below w.heap.size w w'∧w'.cell? ⟨w.heap.size,0,none⟩=some (bx b)∧w'.cell? ⟨w.heap.size+1,0,none⟩=some (Value.int .i64 (i:Int))∧w'.cell? ⟨w.heap.size+1+1,0,none⟩=some (Value.int .i64 256)∧w'.cell? ⟨w.heap.size+1+1+1,0,none⟩=some (Value.int .i64 0)∧w'.cell? ⟨b,66,none⟩=some (Value.slice (some ⟨f0,0,none⟩) N fc) from
  ⟨e1,e2.below,e2.cell 0 _ rfl,e2.cell 1 _ rfl,e2.cell 2 _ rfl,e2.cell 3 _ rfl,(e2.below.cell (p:=⟨b,66,none⟩) hb66).trans h.c66⟩))
 rw [hE]at h1
 have HD:=Lh (fun w' n (hb:Below w.heap.size w w')=>below_drewN hb n)
 have mixed:Tryz.prog.follows .mixedOrders=true:=by kernel_rfl
 have i0:(0:Int)≤(i:Int):=by omega
 have i1:(i:Int) < (N:Int):=by omega
 clear h hb66 hE hiN hN
 go_enter Tryz.func258,Tryz.ntmps258
 go_wp2_with fail
 refine wp_scope_jump 1 fun R hR hJm=> ?_
 go_wp2_with fail
 refine(h1.out).mono ?_
 rintro e w1 ⟨rfl,hb,d0,d1,d2,d3,d4⟩
 have HB:=Lh hb
 clear hb h1
 go_wp2_with fail
 go_quiet (fail)
 go_wp2_with fail
 refine hR.out _ _ _ _ (by simp) ?_
 go_ret2
 exact⟨rfl,HD.out _ _ HB.out⟩
theorem u8_info:(Tryz.prog.info? 5).map (fun i=>(i.zero,i.size,i.bytes))=some (some (.int .u8 0),1,1):=by kernel_rfl
theorem run_eql_slice_none {P:Program} (w:World) (t e:TypeId) (a:Option Addr) (n c:Nat) (h:P.underlying t=some (.slice e)):(binOp .eql t (.slice a n c) (.slice none 0 0)).run P w= .ok (.bool a.isNone) w:=by
 have h1:(Op.equal t (.slice a n c) (.slice none 0 0)).run P w= .ok a.isNone w:=by
  have h2:∀d,(Op.equalIn (d+1) t (.slice a n c) (.slice none 0 0)).run P w= .ok a.isNone w:=fun d=>by cases a <;> simp [Op.equalIn,run_underlying h]
  exact h2 9999
 simp only [binOp]
 simp [h1,Result.andThen]
theorem clone_nil (w:World):Calls Tryz.prog 176 #[.slice none 0 0] w fun e w'=>e= .returned (.slice none 0 0)∧w=w':=by
 have q:=fun w=>run_eql_slice_none (P:=Tryz.prog) w 172 5 none 0 0 Tryz.underlying172
 go_enter Tryz.func176,Tryz.ntmps176
 go_wp2
 go_ret
 exact⟨rfl,rfl⟩
theorem empty_row (w:World) (t:TypeId):(w.alloc (.cells #[] t)).ownsRow w.heap.size t 1 (.slice (some ⟨w.heap.size,0,none⟩) 0 0) 0 []:=
 ⟨rfl,.inr ⟨w.heap.size,0,#[],rfl,Nat.le_refl _,World.alloc_heap_new w _,Nat.le_refl _,Nat.zero_le _,rfl,rfl⟩⟩
theorem clone_some (A:Addr) (n c B:Nat) (l:List UInt8) (w:World) (hl:l.length=n) (hn:n≤140737488351232) (hr:Sees w B (some A) (byt l)) (hB:B≤w.heap.size):
  Calls Tryz.prog 176 #[.slice (some A) n c] w fun e w'=>∃v,e= .returned v∧w'.ownsRow w.heap.size 5 1 v n (byt l)∧Below w.heap.size w w':=by
 obtain⟨i0,hi,hz0,hz1,hz2⟩:=info_parts u8_info
 have hr1:=Lh (hr.alloc hB (.cells #[] 5))
 have hown:=Lh (empty_row w 5)
 have hfin:=Lh (fun(w':World) (hg:(w.alloc (.cells #[] 5)).grownBy w' (some w.heap.size))=>(show Below w.heap.size w w' from
  (below1 w (.cells #[] 5)).grown hg (by simp) (fun r e=>by cases e;exact Nat.le_refl _)))
 have q:=fun w=>run_eql_slice_none (P:=Tryz.prog) w 172 5 (some A) n c Tryz.underlying172
 clear hr hB
 go_enter Tryz.func176,Tryz.ntmps176
 go_wp2_with (at_builtin;refine wpList_append_sees rfl _ _ 172 rfl w.heap.size 5 i0 _ 1 1 Tryz.underlying172 hi hz0 hz1 hz2 rfl (by decide) _ 0 [] rfl hown.out B (some A) n c (byt l) rfl (by rw [byt_length,hl,Nat.mul_one]) hr1.out byt_one (by unfold maxLen;omega) (by omega) (by simp) ?_;intro v' w' hrow hg hgg)
 go_ret
 rw [Nat.zero_add,List.nil_append]at hrow
 exact⟨v',rfl,hrow,hfin.out _ hg⟩
theorem byt_bv (l:List UInt8):byt l=l.map bv:=rfl
theorem Rep.shows {w:World} {b bm:Nat} {p:Pl} {sv:Value} {f0 N fc:Nat} {fb:List (List UInt8)} {gs:Option Nat} (h:Rep w b p bm (.slice (some ⟨f0,0,none⟩) N fc) sv fb (some f0) gs) (i o a m:Nat) (bs:List UInt8)
  (hx:p.fr[i]?=some (some (o,bs))) (ha:a+m≤256):Sees w w.heap.size (some ⟨f0,i*256+a,none⟩) (byt ((bs.drop a).take m)):=fun _=>by
 have hs:=h.same i o bs hx
 have hi:=(List.getElem?_eq_some_iff.1 hs).1
 have hfi:fb[i]=bs:=(List.getElem?_eq_some_iff.1 hs).2
 refine⟨_,rfl,h.frm.lt f0 rfl,fun j u hu=> ?_⟩
 have hj:j < m:=by
  have:=(List.getElem?_eq_some_iff.1 hu).1
  simp only [byt_length,List.length_take]at this
  omega
 have hmul:=Nat.mul_le_mul_right 256 (show i+1≤fb.length by omega)
 rw [add_plain,h.frm.cell rfl _ (by omega),Nat.add_assoc,fl_get fb h.fbs i (a+j) hi (by omega),hfi]
 rw [byt_bv,List.getElem?_map,List.getElem?_take,if_pos hj,List.getElem?_drop]at hu
 rw [List.getElem?_map]
 exact hu
theorem freeL_same {fr:List Fr} {i:Nat} (x:Nat × List UInt8) (n:Nat) (hi:∃y,fr[i]?=some (some y)):freeL (fr.set i (some x)) n=freeL fr n:=by
 obtain⟨y,hy⟩:=hi
 have hl:=(List.getElem?_eq_some_iff.1 hy).1
 unfold freeL
 refine List.filter_congr fun j _=> ?_
 rw [isFree_set _ hl]
 split
 next he=>
  subst he
  rw [(not_free hl).2 ⟨y,hy⟩]
  rfl
 ·rfl
theorem Rep.write {w:World} {b bm:Nat} {p:Pl} {fv sv:Value} {f0:Nat} {fb:List (List UInt8)} {gs:Option Nat} (h:Rep w b p bm fv sv fb (some f0) gs) (i o a:Nat) (bs l:List UInt8)
  (hx:p.fr[i]?=some (some (o,bs))) (ha:a+l.length≤256) (hok:({p with fr:=p.fr.set i (some (o,putB bs a l))}:Pl).ok):
  Rep (w.setCells f0 (i*256+a) (byt l)) b {p with fr:=p.fr.set i (some (o,putB bs a l))} bm fv sv (fb.set i (putB bs a l)) (some f0) gs:=by
 have hs:=h.same i o bs hx
 have hi:=(List.getElem?_eq_some_iff.1 hs).1
 have hfi:fb[i]=bs:=(List.getElem?_eq_some_iff.1 hs).2
 have hil:=(List.getElem?_eq_some_iff.1 hx).1
 obtain⟨n1,n2,n3,n4,n5⟩:=h.gf_ne
 have hb:=h.fbs bs (List.mem_of_getElem? hs)
 have hk:∀k,k≠f0→(w.setCells f0 (i*256+a) (byt l)).heap[k]?=w.heap[k]?:=fun k hk=>setCells_block _ hk
 refine⟨hok,?_,?_,?_,?_,?_,?_,?_,?_⟩
 ·have:=h.obj.same (hk b (fun e=>n1 (by rw [e])))
  simpa using this
 ·have he:owns (p.fr.set i (some (o,putB bs a l)))=owns p.fr:=by
   rw [owns_set]
   refine List.ext_getElem? fun j=> ?_
   rw [List.getElem?_set]
   split
   next e=>
    subst e
    rw [owns_len,if_pos hil,owns_get,hx]
    rfl
   ·rfl
  simp only [he]
  exact owns_same h.map (hk bm (fun e=>n2 (by rw [e])))
 ·have:=h.frm.put h.fbs i a hi l ha
  rw [hfi]at this
  exact this
 ·simp only [List.length_set]
  rw [spare_eq,freeL_same _ _ ⟨_,hx⟩,←spare_eq]
  exact h.spr.keep fun g e=>hk g (fun e2=>n5 f0 rfl (by rw [e,e2]))
 ·simp only [List.length_set]
  exact h.fbl
 ·intro j hj
  rw [List.length_set]at hj
  have:=h.behind j hj
  unfold frameO at this ⊢
  rw [List.getElem?_set_ne (by omega)]
  exact this
 ·intro x hx2
  rcases List.mem_or_eq_of_mem_set hx2 with h1 | h1
  ·exact h.fbs _ h1
  ·rw [h1,putB_len _ _ _ (by omega)];exact hb
 ·intro j o' x hj
  simp only [List.getElem?_set]at hj ⊢
  split at hj
  next e=>
   subst e
   simp only [Option.some.injEq,Prod.mk.injEq]at hj
   rw [if_pos rfl,if_pos hi,hj.2]
  next e=>
   rw [if_neg e]
   exact h.same j o' x hj
theorem reach_any {b bm:Nat} {p:Pl} {fv sv:Value} {fb:List (List UInt8)} {gf gs:Option Nat} {w:World} (h:Rep w b p bm fv sv fb gf gs) (i a m:Int) (hE:reachE p i a m=0):
  ∃A c f0,gf=some f0∧(∀V,Rep V b p bm fv sv fb gf gs→Calls Tryz.prog 258 #[bx b,.int .i64 i,.int .i64 a,.int .i64 m] V fun e w'=>e= .returned (.tuple #[.slice (some A) m.toNat c,.int .i64 0])∧Below V.heap.size V w')∧
   (∀V,Rep V b p bm fv sv fb gf gs→Sees V V.heap.size (some A) (byt (readP p i a m)))∧m.toNat≤c∧c≤256∧(0 < m→A=⟨f0,i.toNat*256+a.toNat,none⟩)∧(readP p i a m).length=m.toNat:=by
 obtain⟨h1,h2,h3,h4,h5,o,bs,h6,h7⟩:=reach_some hE
 have hs:=h.same _ o bs h6
 have hi:=(List.getElem?_eq_some_iff.1 hs).1
 have hb:=h.fbs bs (List.mem_of_getElem? hs)
 have hrd:readP p i a m=(bs.drop a.toNat).take m.toNat:=by unfold readP;rw [if_pos hE,h7]
 obtain⟨f0,fc,fcur,rfl,rfl,hfc1,hfc2,hfH,hfs,hft⟩:=h.frm.block (by omega)
 obtain⟨n,rfl⟩:∃n:Nat,i=n:=⟨i.toNat,by omega⟩
 obtain⟨k,rfl⟩:∃k:Nat,a=k:=⟨a.toNat,by omega⟩
 obtain⟨q,rfl⟩:∃q:Nat,m=q:=⟨m.toNat,by omega⟩
 simp only [Int.toNat_natCast]at*
 rw [hrd]
 have hN:fb.length≤16384:=Nat.le_trans h.fbl h.ok.most
 rcases Nat.lt_or_ge k 256 with hk | hk
 ·exact⟨_,_,f0,rfl,fun V hV=>reach_yes hV n k q hi hN hk (by omega) hE,fun V hV=>hV.shows n o k q bs h6 (by omega),by omega,by omega,fun _=>rfl,by simp;omega⟩
 ·obtain rfl:k=256:=by omega
  obtain rfl:q=0:=by omega
  exact⟨_,_,f0,rfl,fun V hV=>reach_end hV n hi hN hE,fun V hV=>Sees.nil_,by omega,by omega,fun h=>by omega,by simp⟩
def ReadP (w:World) (l:List UInt8) (E:Nat) (e:Ending) (w':World):Prop:=
 ∃A n c,e= .returned (.tuple #[.slice A n c,.int .i64 (E:Int)])∧n=l.length∧n≤c∧w'.ownsRow w.heap.size 5 1 (.slice A n c) n (byt l)∧Below w.heap.size w w'
theorem read_any {b:Nat} {p:Pl} {F:Nat→Prop} {w:World} (h:Has w b p F) (i a m:Int) (hi1:i≤9223372036854775807) (ha: -9223372036854775808≤a∧a≤9223372036854775807):
  Calls Tryz.prog 245 #[bx b,.int .i64 i,.int .i64 a,.int .i64 m] w (ReadP w (readP p i a m) (reachE p i a m)):=by
 obtain⟨bm,fv,sv,fb,gf,gs,hr,rfl⟩:=h
 by_cases hE:reachE p i a m=0
 ·obtain⟨A,c,f0,_,h1,h2,h3,h4,h5,h6⟩:=reach_any hr i a m hE
  have hm:m.toNat≤256:=by omega
  have H1:=Lh (h1 w hr)
  have H2:=Lh (fun(w1:World) (hb:Below w.heap.size w w1)=>(show Calls Tryz.prog 176 #[.slice (some A) m.toNat c] w1 (fun e w'=>∃A' c',e= .returned (.slice A' m.toNat c')∧m.toNat≤c'∧w'.ownsRow w.heap.size 5 1 (.slice A' m.toNat c') m.toNat (byt (readP p i a m))∧Below w.heap.size w w') from by
   refine(clone_some A m.toNat c w1.heap.size (readP p i a m) w1 h6 (by omega) (h2 w1 (hr.below hb)) Lr).mono ?_
   rintro e w' ⟨v,rfl,hrow,hb2⟩
   obtain⟨A',c',rfl⟩:=own_slice hrow
   exact⟨A',c',rfl,(own_cap hrow).1,own_mono hrow hb.size,below0 hb hb2⟩))
  have HR:(readP p i a m).length=m.toNat:=h6
  have HRl:=Lh HR
  rw [hE]
  obtain⟨l,hl⟩:=Nm (readP p i a m)
  rw [←hl]at H2 HRl ⊢
  obtain⟨q,hq⟩:=Nm (m.toNat)
  rw [←hq]at H1 H2 HRl
  clear hl hq hm HR h1 h2 h3 h4 h5 h6 hE hr hi1 ha
  go_enter Tryz.func245,Tryz.ntmps245
  go_wp2_with fail
  refine(H1.out).mono ?_
  rintro e w1 ⟨rfl,hb⟩
  have H3:=Lh (H2.out w1 hb)
  clear H2 H1 hb
  go_wp2_with fail
  refine(H3.out).mono ?_
  rintro e w2 ⟨A',c',rfl,g1,g2,g3⟩
  have HF:=Lh (show ReadP w l 0 (.returned (.tuple #[.slice A' q c',.int .i64 0])) w2 from⟨A',q,c',rfl,HRl.out.symm,g1,g2,g3⟩)
  clear g1 g2 g3
  go_wp2
  go_ret2
  exact HF.out
 ·have H1:=Lh (reach_no hr i a m hi1 ha hE)
  have h2:=Lh (fun w=>clone_nil w)
  have hrd:readP p i a m= []:=by unfold readP;rw [if_neg hE]
  rw [hrd]
  obtain⟨E,hE2⟩:=Nm (reachE p i a m)
  rw [←hE2]at H1 ⊢
  have HF:=Lh (fun(w1:World) (hb:Below w.heap.size w w1)=>(show ReadP w [] E (.returned (.tuple #[.slice none 0 0,.int .i64 (E:Int)])) w1 from⟨none,0,0,rfl,rfl,Nat.le_refl _,World.ownsRow_nil w1 _ _ _,hb⟩))
  clear hrd hE2 hE hr hi1 ha
  go_enter Tryz.func245,Tryz.ntmps245
  go_wp2_with fail
  refine(H1.out).mono ?_
  rintro e w1 ⟨rfl,hb⟩
  have HG:=Lh (HF.out w1 hb)
  clear HF hb
  go_wp2_with fail
  refine(h2.out _).mono ?_
  rintro e w2 ⟨rfl,rfl⟩
  go_wp2
  go_ret2
  exact HG.out
theorem u8_size:(Tryz.prog.info? 5).map (·.size)=some 1:=by kernel_rfl
theorem setCells_keep {F:Nat→Prop} {w:World} {b:Nat} (hb:F b):∀(vs:List Value) (o:Nat) (V:World),Keep F w V→Keep F w (V.setCells b o vs)
 | [],_,_,h=>h
 | _ :: r,_,_,h=>setCells_keep hb r _ _ (h.set _ (.inl hb))
theorem writeP_ok {p:Pl} {i a:Int} {l:List UInt8} {o:Nat} {bs:List UInt8} (hE:reachE p i a l.length=0) (h7:frameO p i.toNat=some (o,bs)):writeP p i a l={p with fr:=p.fr.set i.toNat (some (o,putB bs a.toNat l))}:=by
 unfold writeP
 rw [if_pos hE,h7]
theorem putB_nil (bs:List UInt8) (a:Nat):putB bs a []=bs:=by simp [putB]
theorem write_same {p:Pl} {i:Nat} {o:Nat} {bs:List UInt8} (h:p.fr[i]?=some (some (o,bs))):({p with fr:=p.fr.set i (some (o,bs))}:Pl)=p:=by
 have:p.fr.set i (some (o,bs))=p.fr:=by
  refine List.ext_getElem? fun j=> ?_
  rw [List.getElem?_set]
  split
  next e=>
   subst e
   rw [if_pos (List.getElem?_eq_some_iff.1 h).1,h]
  ·rfl
 rw [this]
theorem write_copy {b bm:Nat} {p:Pl} {fv sv:Value} {fb:List (List UInt8)} {gf gs:Option Nat} {w:World} (h:Rep w b p bm fv sv fb gf gs) (i a:Int) (l:List UInt8) (hE:reachE p i a l.length=0) (A:Addr) (c f0:Nat) (hgf:gf=some f0) (hA:0 < (l.length:Int)→A=⟨f0,i.toNat*256+a.toNat,none⟩) (B n cs:Nat) (S:Option Addr) (hl:l.length=n) (hS:Sees w B S (byt l)):
  ∃u W2,(∀ty,(Builtin.copy_ #[172,172] ty #[.slice (some A) n c,.slice S n cs]).run Tryz.prog w= .ok u W2)∧Next w b (writeP p i a l) (blocks b bm gf gs) W2:=by
 subst hgf
 have hok:=write_ok h.ok i a l
 obtain⟨h1,h2,h3,h4,h5,o,bs,h6,h7⟩:=reach_some hE
 rw [writeP_ok hE h7]at hok ⊢
 rcases Nat.eq_zero_or_pos n with h0 | h0
 ·obtain rfl:l= []:=List.eq_nil_of_length_eq_zero (by omega)
  rw [putB_nil,write_same h6]
  exact⟨_,w,fun ty=>run_copy_none w _ _ ty 5 _ _ _ _ _ _ Tryz.underlying172 u8_size (by rw [h0];rfl),Next.same ⟨_,_,_,_,_,_,h,rfl⟩ Br⟩
 ·obtain rfl:=hA (by omega)
  obtain⟨S',rfl,hSB,hSc⟩:=hS (by intro e;have:=congrArg List.length e;rw [byt_length,List.length_nil]at this;omega)
  have hs:=h.same _ o bs h6
  have hi:=(List.getElem?_eq_some_iff.1 hs).1
  have hmul:=Nat.mul_le_mul_right 256 (show i.toNat+1≤fb.length by omega)
  have hfl:=fl_len fb h.fbs
  have hR:=h.write i.toNat o a.toNat bs l h6 (by omega) hok
  refine⟨_,w.setCells f0 (i.toNat*256+a.toNat) (byt l),fun ty=>run_copy_cells w _ _ ty 5 f0 (i.toNat*256+a.toNat) n c S' n cs (byt l) Tryz.underlying172 u8_size (by rw [byt_length,hl];exact(Nat.min_self n).symm) (fun j v hj=>hSc j v hj) (fun j hj=> ?_) (fun j hj=>h.frm.frozen rfl _) byt_one,?_⟩
  ·rw [byt_length]at hj
   rw [h.frm.cell rfl _ (by omega),List.getElem?_eq_getElem (by omega)]
   rfl
  ·exact⟨_,⟨_,_,_,_,_,_,hR,rfl⟩,setCells_keep (.inr (.inr (.inl rfl))) _ _ _ (Keep.refl w),fun k hk=> .inl hk⟩
theorem write_any {b:Nat} {p:Pl} {F:Nat→Prop} {w:World} (h:Has w b p F) (i a:Int) (hi1:i≤9223372036854775807) (ha: -9223372036854775808≤a∧a≤9223372036854775807) (S:Option Addr) (n cs:Nat) (l:List UInt8) (hl:l.length=n) (hS:Sees w w.heap.size S (byt l)):
  Calls Tryz.prog 236 #[bx b,.int .i64 i,.int .i64 a,.slice S n cs] w fun e w'=>e= .returned (.int .i64 (reachE p i a l.length:Int))∧Next w b (writeP p i a l) F w':=by
 obtain⟨bm,fv,sv,fb,gf,gs,hr,rfl⟩:=h
 by_cases hE:reachE p i a l.length=0
 ·obtain⟨A,c,f0,hgf,h1,h2,h3,h4,h5,h6⟩:=reach_any hr i a l.length hE
  rw [Int.toNat_natCast]at h1
  have H1:=Lh (h1 w hr)
  rw [hl]at H1
  have H2:=Lh (fun(w1:World) (hb:Below w.heap.size w w1)=>(show ∃u W2,(∀ty,(Builtin.copy_ #[172,172] ty #[.slice (some A) n c,.slice S n cs]).run Tryz.prog w1= .ok u W2)∧Next w b (writeP p i a l) (blocks b bm gf gs) W2 from by
   obtain⟨u,W2,g1,F',g2,g3,g4⟩:=write_copy (hr.below hb) i a l hE A c f0 hgf h5 w.heap.size n cs S hl (hS.below hb)
   exact⟨u,W2,g1,F',g2,(Keep.of_below hb).trans g3 (fun k _ h=>h),fun k hk=>(g4 k hk).elim .inl fun h=> .inr (Nat.le_trans hb.size h)⟩))
  rw [hE]
  obtain⟨P',hP'⟩:∃P',P'=writeP p i a l:=⟨_,rfl⟩
  rw [←hP']at H2 ⊢
  clear hP' h1 h2 h3 h4 h5 h6 hE hr hi1 ha hS hl
  go_enter Tryz.func236,Tryz.ntmps236
  go_wp2_with fail
  refine(H1.out).mono ?_
  rintro e w1 ⟨rfl,hb⟩
  obtain⟨u,W2,g1,g2⟩:=H2.out w1 hb
  have H4:=Lh g2
  clear H2 H1 hb g2
  go_wp2
  go_ret
  exact⟨rfl,H4.out⟩
 ·have H1:=Lh (reach_no hr i a l.length hi1 ha hE)
  rw [hl]at H1
  have h2:=(fun(W:World) ty=>run_copy_none (P:=Tryz.prog) W 172 172 ty 5 none S 0 0 n cs Tryz.underlying172 u8_size (by simp))
  have hN:=Lh (fun w' (hb:Below w.heap.size w w')=>(show Next w b (writeP p i a l) (blocks b bm gf gs) w' from by
   unfold writeP
   rw [if_neg hE]
   exact Next.same ⟨_,_,_,_,_,_,hr,rfl⟩ hb))
  rw [hl]
  obtain⟨E,hE2⟩:=Nm (reachE p i a n)
  rw [←hE2]at H1 ⊢
  clear hE2 hE hr hi1 ha hS hl
  go_enter Tryz.func236,Tryz.ntmps236
  go_wp2_with fail
  refine(H1.out).mono ?_
  rintro e w1 ⟨rfl,hb⟩
  have HG:=Lh (hN.out w1 hb)
  clear hN hb
  go_wp2
  go_ret
  exact⟨rfl,HG.out⟩
end Go.Proofs.YtfcfbcjiijfjgaaGreatDoor
namespace Go.Proofs.YtfcfbcjiijfjgaaGreatDoor
open Go.Shelf
def searchL_ren:Go.Shelf.Ren:=⟨fun | 14=>206 | n=>n,fun | 22=>143 | 24=>3 | 29=>3 | 32=>282 | 3=>3 | 4=>4 | 35=>313 | 0=>0 | n=>n,fun | n=>n⟩
theorem searchL:Go.Proofs.SlLaysG2.n14 Tryz.prog searchL_ren:={
 mixed:=by kernel_rfl
 f14:=⟨Tryz.f206.name,by decide,Tryz.func206.trans (congrArg some (by kernel_rfl))⟩
 t0:=Tryz.underlying0
 a0:=Tryz.isAgg0
 z0:=Tryz.sizeOf0
 v0:=Tryz.zeroValue0
 t3:=Tryz.underlying3
 a3:=Tryz.isAgg3
 z3:=Tryz.sizeOf3
 v3:=Tryz.zeroValue3
 t4:=Tryz.underlying4
 a4:=Tryz.isAgg4
 z4:=Tryz.sizeOf4
 v4:=Tryz.zeroValue4
 t22:=Tryz.underlying143
 a22:=Tryz.isAgg143
 z22:=Tryz.sizeOf143
 v22:=Tryz.zeroValue143
 a24:=Tryz.isAgg3
 z24:=Tryz.sizeOf3
 a29:=Tryz.isAgg3
 z29:=Tryz.sizeOf3
 t32:=Tryz.underlying282
 a32:=Tryz.isAgg282
 z32:=Tryz.sizeOf282
 v32:=Tryz.zeroValue282
 t35:=Tryz.underlying313
 a35:=Tryz.isAgg313
 z35:=Tryz.sizeOf313
 v35:=Tryz.zeroValue313}
def insertL_ren:Go.Shelf.Ren:=⟨fun | 21=>208 | 27=>249 | 28=>250 | 35=>260 | 39=>265 | n=>n,fun | 22=>143 | 3=>3 | 4=>4 | 0=>0 | n=>n,fun | n=>n⟩
theorem insertL:Go.Proofs.Lays2.n21 Tryz.prog insertL_ren:={
 mixed:=by kernel_rfl
 f21:=Tryz.func208.trans (congrArg some (by kernel_rfl))
 f27:=Tryz.func249.trans (congrArg some (by kernel_rfl))
 f28:=Tryz.func250.trans (congrArg some (by kernel_rfl))
 f35:=Tryz.func260.trans (congrArg some (by kernel_rfl))
 f39:=Tryz.func265.trans (congrArg some (by kernel_rfl))
 t0:=Tryz.underlying0
 a0:=Tryz.isAgg0
 z0:=Tryz.sizeOf0
 v0:=Tryz.zeroValue0
 t3:=Tryz.underlying3
 a3:=Tryz.isAgg3
 z3:=Tryz.sizeOf3
 v3:=Tryz.zeroValue3
 t4:=Tryz.underlying4
 a4:=Tryz.isAgg4
 z4:=Tryz.sizeOf4
 v4:=Tryz.zeroValue4
 t22:=Tryz.underlying143
 a22:=Tryz.isAgg143
 z22:=Tryz.sizeOf143
 v22:=Tryz.zeroValue143
 i3:=by kernel_rfl}
end Go.Proofs.YtfcfbcjiijfjgaaGreatDoor
namespace Go.Proofs.YtfcfbcjiijfjgaaGreatDoor
open Go.RowKit Go.Shelf Go.Maps Go.Sort
attribute [local go_sem] Oper.semAt_some
theorem sw_below {α:Type} [Inhabited α] {enc:α→Value} {w W:World} {blk off:Nat} {d:Array α} (h:SW enc w blk off d W) (hH:Holds enc w blk off d):Below w.heap.size w W:=by
 obtain⟨n,os,rfl⟩:=h
 have h1:sortWorld enc w blk off n d os=grow (Sort.ahead w n) os:=by
  unfold sortWorld
  rw [putRow_ahead,putRow_self enc w blk off d hH]
 rw [h1]
 refine⟨rfl,rfl,rfl,by simp [grow,Sort.ahead],fun k hk=> ?_⟩
 show(w.heap ++ os)[k]?=w.heap[k]?
 rw [Array.getElem?_append_left hk]
theorem give3_wrap (x t:Int) (w:World):Calls Tryz.prog 207 #[.int .i64 x,.int .i64 t] w fun e w'=>e= .returned (.int .i64 (wrap64 (t - x)))∧w'=w:=by
 go_enter Tryz.func207,Tryz.ntmps207
 go_wp2
 go_ret
 exact⟨rfl,rfl⟩
theorem search_any (xs:List Nat) (i n:Nat) (v:Value) (g:Option Nat) (w:World) (h:Own w 3 1 v n (xs.map iv) g) (hx:∀x∈xs,x≤16384) (hi:i≤16384) (hn:n≤16384) (hs:xs.Pairwise (fun a b=>b < a)):
  Calls Tryz.prog 206 #[v,.int .i64 (i:Int),.func (.func 207) #[] #[]] w fun e w'=>(∃q,e= .returned (.tuple #[.int .i64 (xs.countP (fun x=>decide (i < x)):Nat),.bool q]))∧Below w.heap.size w w':=by
 have hlen:xs.length=n:=by have:=h.len;rw [List.length_map,Nat.mul_one]at this;exact this
 rcases h with⟨rfl,rfl,he,A,rfl⟩ | ⟨b,cap,cur,rfl,rfl,h3,h4,h5,h6,h7,h8⟩
 ·obtain rfl:xs= []:=List.eq_nil_of_length_eq_zero hlen
  exact(Any.slices_BinarySearchFunc_none searchL A 0 _ _ w).mono fun e w' ⟨e1,e2⟩=>⟨⟨_,e1⟩,e2 ▸ Br⟩
 ·subst hlen
  have hw:∀x∈xs,wrap64 ((i:Int) - (x:Int))=(i:Int) - (x:Int):=fun x hx'=>IntWalk.wrap64_in _ (by have:=hx x hx';omega)
  have hd:(xs.map (fun n:Nat=>(n:Int))).toArray.size=xs.length:=by simp
  have hget:∀j (hj:j < xs.length),((xs.map (fun n:Nat=>(n:Int))).toArray)[j]! =(xs[j]:Int):=fun j hj=>by
   rw [getElem!_pos _ j (by simpa using hj)]
   simp
  have hH:Holds (Value.int .i64) w b 0 (xs.map (fun n:Nat=>(n:Int))).toArray:=fun j hj=>by
   rw [hd]at hj
   have h9:w.cell? ⟨b,0+j,none⟩=(xs.map iv)[j]?:=by
    rw [←h8,List.getElem?_take,if_pos (by omega),Nat.zero_add]
    simp [World.cell?,h3]
   refine⟨?_,by simp [World.frozen?,h3]⟩
   rw [h9,List.getElem?_map,List.getElem?_eq_getElem hj,hget j hj]
   rfl
  have hc:=Any.slices_BinarySearchFunc searchL (Value.int .i64) (fun _=>rfl) (.int .i64 (i:Int)) (fun x=>wrap64 ((i:Int) - x)) 207 #[] b 0 cap (xs.map (fun n:Nat=>(n:Int))).toArray w
   (enters_of Tryz.func207 (by kernel_rfl) rfl) (fun m os dk _ x=>(give3_wrap x i _).mono fun e w' ⟨e1,e2⟩=>⟨e1,0,#[],by rw [e2,grow_empty];rfl⟩) hH (Array.getElem?_eq_some_iff.1 h3).1 (by rw [hd];omega) (fun a c hac hc hlt=>by
    rw [hd]at hc
    rw [hget c hc,hw _ (List.getElem_mem _)]at hlt
    rw [hget a (by omega),hw _ (List.getElem_mem _)]
    rcases Nat.eq_or_lt_of_le hac with rfl | hac
    ·exact hlt
    ·have:=List.pairwise_iff_getElem.1 hs a c (by omega) hc hac
     omega)
  have hcount:(xs.map (fun n:Nat=>(n:Int))).toArray.toList.countP (fun x=>decide (wrap64 ((i:Int) - x) < 0))=xs.countP (fun x=>decide (i < x)):=by
   show(xs.map (fun n:Nat=>(n:Int))).countP _=_
   rw [List.countP_map]
   refine List.countP_congr fun x hx'=> ?_
   simp only [Function.comp]
   rw [hw x hx']
   simp only [decide_eq_true_eq]
   omega
  rw [hcount]at hc
  simp only [hd]at hc
  exact hc.mono fun e w' ⟨e1,e2⟩=>⟨⟨_,e1⟩,sw_below e2 hH⟩
end Go.Proofs.YtfcfbcjiijfjgaaGreatDoor
namespace Go.Proofs.YtfcfbcjiijfjgaaGreatDoor
open Go.RowKit Go.Shelf Go.Maps Go.Sort
theorem iv_one (xs:List Nat):∀u∈xs.map iv,u.oneCell'=true:=fun u hu=>by
 obtain⟨x,_,rfl⟩:=List.mem_map.1 hu
 rfl
def InsP (w:World) (g:Option Nat) (n:Nat) (ys:List Nat) (e:Ending) (w':World):Prop:=
 ∃v' g',e= .returned v'∧Own w' 3 1 v' (n+1) (ys.map iv) g'∧(g'=g∨g'=some w.heap.size)∧Keep (fun k=>g=some k) w w'
theorem row_setCells {w:World} {b:Nat} {t:TypeId} {l:List Value} (h:Row w b t l) (vs:List Value) (o:Nat):Row (w.setCells b o vs) b t (over l o vs):=setCells_cells vs o w l h
theorem ins_over {l:List Value} {xs:List Nat} {at_ n:Nat} (i:Nat) (hl:l.take n=xs.map iv) (hn:xs.length=n) (hat:at_≤n) (hln:n+1≤l.length):
  (over (over l (0+(at_+1)) ((xs.map iv).drop at_)) (0+at_) [iv i]).take (n+1)=(xs.take at_ ++ i :: xs.drop at_).map iv:=by
 have hxl:((xs.map iv).drop at_).length=n - at_:=by simp;omega
 refine List.ext_getElem? fun j=> ?_
 rw [List.getElem?_take]
 by_cases hj:j < n+1
 ·rw [if_pos hj,over_get _ _ _ _ (by rw [over_len];simp;omega),over_get _ _ _ _ (by omega),hxl]
  simp only [List.length_singleton,Nat.zero_add]
  by_cases h1:at_≤j∧j < at_+1
  ·obtain rfl:j=at_:=by omega
   rw [if_pos h1,Nat.sub_self,List.getElem?_map,List.getElem?_append_right (by simp;omega),List.length_take,Nat.min_eq_left (by omega),Nat.sub_self]
   rfl
  ·rw [if_neg h1]
   by_cases h2:at_+1≤j∧j < at_+1+(n - at_)
   ·rw [if_pos h2,List.getElem?_map,List.getElem?_append_right (by simp;omega),List.length_take,Nat.min_eq_left (by omega),show j - at_=(j - (at_+1))+1 by omega,List.getElem?_cons_succ,List.getElem?_drop,List.getElem?_drop,List.getElem?_map]
   ·have h3:j < at_:=by omega
    rw [if_neg h2,List.getElem?_map,List.getElem?_append_left (by simp;omega),List.getElem?_take,if_pos h3]
    have:=congrArg (fun q=>q[j]?) hl
    simp only [List.getElem?_take,if_pos (show j < n by omega),List.getElem?_map]at this
    exact this
 ·rw [if_neg hj,List.getElem?_map,List.getElem?_eq_none (by simp;omega)]
  rfl
theorem ins_over2 {l:List Value} {xs:List Nat} {at_ n:Nat} (i:Nat) (hl:l.take at_=(xs.map iv).take at_) (hn:xs.length=n) (hat:at_≤n) (hln:n+1≤l.length):
  (over (over l at_ [iv i]) (at_+1) ((xs.map iv).drop at_)).take (n+1)=(xs.take at_ ++ i :: xs.drop at_).map iv:=by
 have hxl:((xs.map iv).drop at_).length=n - at_:=by simp;omega
 refine List.ext_getElem? fun j=> ?_
 rw [List.getElem?_take]
 by_cases hj:j < n+1
 ·rw [if_pos hj,over_get _ _ _ _ (by rw [over_len];omega),over_get _ _ _ _ (by simp;omega),hxl]
  simp only [List.length_singleton]
  by_cases h2:at_+1≤j∧j < at_+1+(n - at_)
  ·rw [if_pos h2,List.getElem?_map,List.getElem?_append_right (by simp;omega),List.length_take,Nat.min_eq_left (by omega),show j - at_=(j - (at_+1))+1 by omega,List.getElem?_cons_succ,List.getElem?_drop,List.getElem?_drop,List.getElem?_map]
  ·rw [if_neg h2]
   by_cases h1:at_≤j∧j < at_+1
   ·obtain rfl:j=at_:=by omega
    rw [if_pos h1,Nat.sub_self,List.getElem?_map,List.getElem?_append_right (by simp;omega),List.length_take,Nat.min_eq_left (by omega),Nat.sub_self]
    rfl
   ·have h3:j < at_:=by omega
    rw [if_neg h1,List.getElem?_map,List.getElem?_append_left (by simp;omega),List.getElem?_take,if_pos h3]
    have:=congrArg (fun q=>q[j]?) hl
    simp only [List.getElem?_take,if_pos h3,List.getElem?_map]at this
    exact this
 ·rw [if_neg hj,List.getElem?_map,List.getElem?_eq_none (by simp;omega)]
  rfl
theorem ins_len {xs:List Nat} {at_ n:Nat} (i:Nat) (hn:xs.length=n) (hat:at_≤n):((xs.take at_ ++ i :: xs.drop at_).map iv).length=(n+1)*1:=by simp;omega
theorem insert_own (xs:List Nat) (i at_ n vb:Nat) (v:Value) (g:Option Nat) (w:World) (h:Own w 3 1 v n (xs.map iv) g) (hat:at_≤n) (hn:n≤16384) (hvb:Row w vb 3 [iv i]) (hg:g≠some vb):
  Calls Tryz.prog 208 #[v,.int .i64 (at_:Int),.slice (some ⟨vb,0,none⟩) 1 1] w (InsP w g n (xs.take at_ ++ i :: xs.drop at_)):=by
 have hlen:xs.length=n:=by have:=h.len;rw [List.length_map,Nat.mul_one]at this;exact this
 have hvs:∀(j:Nat) v,[iv i][j]?=some v→w.cell? ⟨vb,0+j,none⟩=some v:=fun j u hu=>by rw [hvb.cell,Nat.zero_add];exact hu
 have h1v:∀u∈[iv i],u.oneCell'=true:=fun u hu=>by rw [List.mem_singleton.1 hu];rfl
 have hi1:=ins_len i hlen hat
 -- without room at the end
 have hgrow:∀(A:Option Addr) (c:Nat),at_=n→v= .slice A n c→n≤c→c < n+1→(A=none→n=0)→(∀a,A=some a→∀(j:Nat) u,(xs.map iv)[j]?=some u→w.cell? (a.add j)=some u)→
   Calls Tryz.prog 208 #[v,.int .i64 (at_:Int),.slice (some ⟨vb,0,none⟩) 1 1] w (InsP w g n (xs.take at_ ++ i :: xs.drop at_)):=by
  rintro A c rfl rfl hc1 hc2 hA hcs
  refine(Any2.slices_Insert_int_end_grow insertL A at_ c vb 0 1 1 (xs.map iv) [iv i] w (by omega) hc1 hc2 (by omega) (by rw [List.length_map,hlen]) rfl hA hcs hvs h1v).mono ?_
  rintro e w' ⟨rfl,rfl⟩
  have hcap:=grownCap_ge w (at_+1) c 3
  refine⟨_,some w.heap.size,rfl,.inr ⟨w.heap.size,grownCap w (at_+1) c 3,_,rfl,rfl,World.alloc_heap_new w.drew _,hcap,grownCap_le_maxLen _ _ _ _ (by unfold maxLen;omega),?_,hi1,?_⟩,.inr rfl,((Keep.refl w).drewN 1).alloc _⟩
  ·simp [Builtin.zeroCells,Value.cells,hlen]
   exact Nat.add_sub_cancel' hcap
  ·simp only [Nat.mul_one]
   rw [List.take_of_length_le (l:=xs) (by omega),List.drop_of_length_le (l:=xs) (by omega)]
   have ht:∀Z:List Value,(xs.map iv ++ iv i :: Z).take (at_+1)=xs.map iv ++ [iv i]:=fun Z=>by rw [show xs.map iv ++ iv i :: Z=(xs.map iv ++ [iv i]) ++ Z by simp,List.take_left' (by simp [hlen])]
   simpa using ht _
 rcases h with⟨rfl,rfl,he,A,rfl⟩ | ⟨b,cap,cur,rfl,rfl,h3,h4,h5,h6,h7,h8⟩
 ·obtain rfl:xs= []:=List.eq_nil_of_length_eq_zero hlen
  exact hgrow A 0 (by omega) rfl Lr (by omega) (fun _=>rfl) (fun _ _ j u hu=>by simp at hu)
 ·have hbv:vb≠b:=fun e=>hg (by rw [e])
  have hrow:Row w b 3 cur.toList:=by unfold Row;rw [Array.toArray_toList];exact h3
  have hcl:cur.toList.length=cap:=by simpa using h6
  have hcs:∀(j:Nat) u,(xs.map iv)[j]?=some u→w.cell? ⟨b,0+j,none⟩=some u:=fun j u hu=>by
   have hj:j < n:=by have:=(List.getElem?_eq_some_iff.1 hu).1;rw [List.length_map]at this;omega
   rw [hrow.cell,Nat.zero_add]
   rw [←h8,List.getElem?_take,if_pos (by omega)]at hu
   exact hu
  rcases Nat.lt_or_ge n cap with hr | hr
  ·rcases Nat.eq_or_lt_of_le hat with rfl | hlt
   ·refine(Any2.slices_Insert_int_end_room insertL b 0 at_ cap vb 0 1 1 [iv i] w (by omega) (by omega) (by unfold maxLen at h5;omega) rfl (fun j hj=> ?_) (fun j _=>hrow.frozen _) hvs h1v).mono ?_
    ·rw [hrow.cell,List.getElem?_eq_getElem (by omega)]
     rfl
    rintro e w' ⟨rfl,rfl⟩
    have ho:=ins_over (l:=cur.toList) (xs:=xs) (at_:=at_) i (by rw [←h8,Nat.mul_one]) hlen Lr (by omega)
    rw [List.drop_of_length_le (l:=xs.map iv) (by rw [List.length_map];omega)]at ho
    refine⟨_,some b,rfl,.inr ⟨b,cap,_,rfl,rfl,row_setCells hrow [iv i] (0+at_),by omega,h5,?_,hi1,?_⟩,.inl rfl,setCells_keep (F:=fun k=>some b=some k) rfl _ _ _ (Keep.refl w)⟩
    ·rw [List.size_toArray,over_len,hcl,Nat.mul_one]
    ·rw [Nat.mul_one]
     exact ho
   ·refine(Any2.slices_Insert_int_shift insertL b 0 n cap at_ vb 0 1 1 (xs.map iv) [iv i] w hlt (by omega) (by omega) (by unfold maxLen at h5;omega) hbv (by rw [List.length_map,hlen]) rfl hcs (fun j hj=> ?_) (fun j _=>hrow.frozen _) hvs (iv_one xs) h1v
     3 3 1 cap ?_ ?_ (by omega) (hvb.frozen _) (hvb.frozen _)).mono ?_
    ·rw [hrow.cell,List.getElem?_eq_getElem (by omega)]
     rfl
    ·unfold World.shape?
     rw [show w.heap[vb]?=_ from hvb]
     rfl
    ·unfold World.shape?
     rw [h3]
     simp only []
     rw [h6,Nat.mul_one]
    rintro e w' ⟨rfl,rfl⟩
    have ho:=ins_over (l:=cur.toList) (xs:=xs) (at_:=at_) i (by rw [←h8,Nat.mul_one]) hlen hat (by omega)
    refine⟨_,some b,rfl,.inr ⟨b,cap,_,rfl,rfl,row_setCells (row_setCells (w:=w.drew) hrow _ _) [iv i] (0+at_),by omega,h5,?_,hi1,?_⟩,.inl rfl,setCells_keep (F:=fun k=>some b=some k) rfl _ _ _ (setCells_keep (F:=fun k=>some b=some k) rfl _ _ _ ((Keep.refl w).drewN 1))⟩
    ·rw [List.size_toArray,over_len,over_len,hcl,Nat.mul_one]
    ·rw [Nat.mul_one]
     exact ho
  ·rcases Nat.eq_or_lt_of_le hat with hat' | hlt
   ·exact hgrow (some ⟨b,0,none⟩) cap hat' rfl h4 (by omega) (fun h=>by cases h) (fun a ha j u hu=>by
     injection ha with ha
     rw [←ha,add_plain]
     exact hcs j u hu)
   ·refine(Any2.slices_Insert_int_grow insertL b 0 n cap at_ vb 0 1 1 (xs.map iv) [iv i] w hlt (by omega) h4 (by omega) (by omega) (by rw [List.length_map,hlen]) rfl hcs hvs (iv_one xs) h1v).mono ?_
    rintro e w' ⟨rfl,rfl⟩
    have hcap:n+1≤grownCap w (n+1) cap 3:=grownCap_ge w (n+1) cap 3
    have hGm:=grownCap_le_maxLen w (n+1) cap 3 (by unfold maxLen;omega)
    obtain⟨ROW,hROW⟩:∃ROW:List Value,ROW=(((xs.map iv).take at_).toArray ++ Builtin.zeroCells (Value.int .i64 0).cells (n+1 - at_) ++ Builtin.zeroCells (Value.int .i64 0).cells (grownCap w (n+1) cap 3 - (n+1))).toList:=⟨_,rfl⟩
    have hRl:ROW.length=grownCap w (n+1) cap 3:=by
     rw [hROW]
     simp [Builtin.zeroCells,Value.cells,hlen]
     omega
    have hRt:ROW.take at_=(xs.map iv).take at_:=by
     rw [hROW,Array.toList_append,Array.toList_append,List.append_assoc,List.take_append_of_le_length (by simp;omega)]
     simp only [List.take_take,Nat.min_self]
    have hnew:Row (w.alloc (.cells ROW.toArray 3)) w.heap.size 3 ROW:=Row.new _ _ _
    have hw1:Row (((w.alloc (.cells ROW.toArray 3)).drew.setCells w.heap.size at_ [iv i]).drew) w.heap.size 3 (over ROW at_ [iv i]):=row_setCells (w:=(w.alloc (.cells ROW.toArray 3)).drew) hnew [iv i] at_
    have hw2:=row_setCells hw1 ((xs.map iv).drop at_) (at_+1)
    have ho:=ins_over2 (l:=ROW) (xs:=xs) (at_:=at_) i hRt hlen hat (by omega)
    have hK:Keep (fun k=>some b=some k) w ((((w.alloc (.cells ROW.toArray 3)).drew.setCells w.heap.size at_ [iv i]).drew).setCells w.heap.size (at_+1) ((xs.map iv).drop at_)):=by
     have k1:∀(vs:List Value) (o:Nat) (V:World),Keep (fun k=>some b=some k) w V→Keep (fun k=>some b=some k) w (V.setCells w.heap.size o vs):=by
      intro vs
      induction vs with
      | nil=>intro o V hV;exact hV
      | cons v r ih=>intro o V hV;exact ih _ _ (hV.set _ (.inr Lr))
     exact k1 _ _ _ ((k1 _ _ _ (((Keep.refl w).alloc _).drewN 1)).drewN 1)
    have hfin:InsP w (some b) n (xs.take at_ ++ i :: xs.drop at_) (.returned (.slice (some ⟨w.heap.size,0,none⟩) (n+1) (grownCap w (n+1) cap 3))) ((((w.alloc (.cells ROW.toArray 3)).drew.setCells w.heap.size at_ [iv i]).drew).setCells w.heap.size (at_+1) ((xs.map iv).drop at_)):=by
     refine⟨_,some w.heap.size,rfl,.inr ⟨w.heap.size,grownCap w (n+1) cap 3,_,rfl,rfl,hw2,hcap,hGm,?_,hi1,?_⟩,.inr rfl,hK⟩
     ·rw [List.size_toArray,over_len,over_len,hRl,Nat.mul_one]
     ·rw [Nat.mul_one]
      exact ho
    rw [hROW,Array.toArray_toList]at hfin
    exact hfin
end Go.Proofs.YtfcfbcjiijfjgaaGreatDoor
namespace Go.Proofs.YtfcfbcjiijfjgaaGreatDoor
open Go.RowKit Go.Shelf Go.Maps Go.Sort
attribute [local go_sem] Oper.semAt_some
theorem mapD_int {l:List (Option Nat)} {z c:Int} {o:Nat} (h:(mapD l).atKey (.int .i64 z) (.lit (.int .i64 0))= .lit (.int .i64 c)) (ho:ownAt l z=some o):c=o:=by
 have:=mapD_ownN h
 rw [this]
 unfold ownN
 rw [ho]
 rfl
theorem ownAt_some {p:Pl} {i o:Nat} {bs:List UInt8} (hx:p.fr[i]?=some (some (o,bs))):ownAt (owns p.fr) (i:Int)=some o:=by
 unfold ownAt
 rw [if_neg (by omega),owns_get,Int.toNat_natCast,hx]
 rfl
theorem lookup_at {w:World} {bm n:Nat} {l:List (Option Nat)} {i o:Nat} (hown:w.ownsMap Tryz.prog 3 (plainElem Tryz.prog 3) bm n (mapD l)) (hi:i≤9223372036854775807) (ho:ownAt l (i:Int)=some o):
  (Instr.lookup 155 (.map (some bm)) (.int .i64 (i:Int)) false).run Tryz.prog w= .ok (.int .i64 (o:Int)) w:=by
 obtain⟨c,h1,h2,h3⟩:=hown.lookup_int law Tryz.underlying155 Tryz.underlying3 (zeroE _) (keyZ (a:=(i:Int)) (by omega) (by omega))
 rw [h1,mapD_int h2 ho]
theorem leave_any {w:World} {b bm:Nat} {p:Pl} {fv sv:Value} {fb:List (List UInt8)} {sp:List Nat} {gf gs:Option Nat} (h:Mid w b p bm fv sv fb sp gf gs) (hok:p.ok) (i o:Nat) (bs:List UInt8) (hx:p.fr[i]?=some (some (o,bs))):
  Calls Tryz.prog 205 #[bx b,.int .i64 (i:Int)] w fun e w'=>(∃v,e= .returned v)∧Mid w' b {fr:=p.fr.set i none,left:=p.left.set o (leftN p o+1)} bm fv sv fb sp gf gs∧Keep (blocks b bm gf gs) w w':=by
 have hmost:=hok.most
 obtain⟨ho,_⟩:=hok.own o bs (List.mem_of_getElem? hx)
 have hi:=(List.getElem?_eq_some_iff.1 hx).1
 obtain⟨n1,n2,n3,n4,n5,n6⟩:=h.ne
 have c1:w.cell? ⟨b,1,none⟩=some (.map (some bm)):=h.obj.cell 1
 have hlk:=lookup_at (w:=w.drew) (show(w.drew).ownsMap Tryz.prog 3 (plainElem Tryz.prog 3) bm 16384 (mapD (owns p.fr)) from h.map) (by omega) (ownAt_some hx)
 have hkey:=keyZ (a:=(i:Int)) (by omega) (by omega)
 have hz:(mapD (owns p.fr)).del (.int .i64 (i:Int))=mapD (owns (p.fr.set i none)):=by rw [mapD_del,owns_set];rfl
 have cl:=h.cl hok ho
 have fl0:w.frozen? ⟨b,2+o,none⟩=false:=h.obj.frozen _
 have hM1:=Mid.set_left (w:=w.drew) (show Mid w.drew b p bm fv sv fb sp gf gs from⟨h.obj,h.map,h.frm,h.spr⟩) ⟨n1,n2,n4⟩ hok.l64 o (leftN p o+1) ho
 have hown:=hM1.map
 have d1:((w.drew).setCell ⟨b,2+o,none⟩ (.int .i64 ((leftN p o+1:Nat):Int))).cell? ⟨b,1,none⟩=some (.map (some bm)):=hM1.obj.cell 1
 have HM:=Lh (fun(w1:World) (hown1:w1.ownsMap Tryz.prog 3 (plainElem Tryz.prog 3) bm 16384 ((mapD (owns p.fr)).del (.int .i64 (i:Int)))) (hg1:((w.drew).setCell ⟨b,2+o,none⟩ (.int .i64 ((leftN p o+1:Nat):Int))).mapTurned w1 bm)=>
  (show Mid w1 b {fr:=p.fr.set i none,left:=p.left.set o (leftN p o+1)} bm fv sv fb sp gf gs∧Keep (blocks b bm gf gs) w w1 from by
   have h1:=hM1.turn hg1.grown (p.fr.set i none) (by simp) (by rw [hz]at hown1;exact hown1)
   exact⟨h1,((((Keep.refl w).drewN 1).set (b:=b) (o:=2+o) (.int .i64 ((leftN p o+1:Nat):Int)) (.inl (.inl rfl))):Keep (blocks b bm gf gs) w ((w.drew).setCell ⟨b,2+o,none⟩ (.int .i64 ((leftN p o+1:Nat):Int)))).grown hg1.grown (fun r e=>by cases e;exact .inr (.inr (.inl rfl)))⟩))
 have hle:=left_le p hok o
 obtain⟨x,hx0⟩:=Nm (leftN p o)
 rw [←hx0]at HM hle cl d1 hown ⊢
 have hw:IntKind.i64.wrap ((x:Int)+1)=((x+1:Nat):Int):=by rw [wrapI _ (by omega) (by omega)];rfl
 obtain⟨y,hy⟩:=Nm (x+1)
 rw [←hy]at HM hw d1 hown ⊢
 have i0:(0:Int)≤(o:Int):=by omega
 have i1:(o:Int) < 64:=by omega
 have mixed:Tryz.prog.follows .mixedOrders=true:=by kernel_rfl
 obtain⟨D,hD⟩:=Nm (mapD (owns p.fr))
 have hownD:((w.drew).setCell ⟨b,2+o,none⟩ (.int .i64 (y:Int))).ownsMap Tryz.prog 3 (plainElem Tryz.prog 3) bm 16384 D:=by rw [hD];exact hown
 rw [←hD]at HM
 clear hown hM1 hD hx0 hy hz h hok hle hmost hx hi ho n1 n2 n3 n4 n5 n6
 go_enter Tryz.func205,Tryz.ntmps205
 go_wp2_with fail
 go_region
 go_wp2_with (at_delete;refine wpList_delete_own _ rfl _ _ 155 3 rfl 3 law Tryz.underlying155 _ bm 16384 D rfl hownD _ _ rfl hkey ?_;intro w1 hown1 hturn1)
 go_end0
 exact⟨⟨_,rfl⟩,HM.out w1 hown1 hturn1⟩
theorem split_sorted (i:Nat):∀(l:List Nat),l.Pairwise (· < ·)→i∉l→l=l.filter (fun j=>decide (j < i)) ++ l.filter (fun j=>decide (i < j))
 | [],_,_=>rfl
 | a :: r,hs,hi=>by
  obtain⟨h1,h2⟩:=List.pairwise_cons.1 hs
  have hia:i≠a:=fun e=>hi (by rw [e];simp)
  have hir:i∉r:=fun h=>hi (by simp [h])
  rcases Nat.lt_or_gt_of_ne hia with h3 | h3
  ·have e1:(a :: r).filter (fun j=>decide (j < i))= []:=List.filter_eq_nil_iff.2 fun j hj=>by
    rcases List.mem_cons.1 hj with rfl | hj
    ·simp;omega
    ·have:=h1 j hj;simp;omega
   have e2:(a :: r).filter (fun j=>decide (i < j))=a :: r:=List.filter_eq_self.2 fun j hj=>by
    rcases List.mem_cons.1 hj with rfl | hj
    ·simp [h3]
    ·have:=h1 j hj;simp;omega
   rw [e1,e2]
   rfl
  ·have ih:=split_sorted i r h2 hir
   rw [List.filter_cons_of_pos (by simpa using h3),List.filter_cons_of_neg (by simp;omega),List.cons_append,←ih]
theorem spare_give {fr:List Fr} {n i:Nat} (hi:i < n) (hn:n≤fr.length) (hf:isFree fr i=false):
  spareOf (fr.set i none) n=(spareOf fr n).take ((spareOf fr n).countP (fun x=>decide (i < x))) ++ i :: (spareOf fr n).drop ((spareOf fr n).countP (fun x=>decide (i < x))):=by
 have hs:=split_sorted i (freeL fr n) (freeL_sorted fr n) (fun h=>by have:=(freeL_mem.1 h).2;rw [hf]at this;cases this)
 rw [spare_eq,spare_eq,freeL_give hi hn hf]
 obtain⟨F1,h1⟩:=Nm ((freeL fr n).filter (fun j=>decide (j < i)))
 obtain⟨F2,h2⟩:=Nm ((freeL fr n).filter (fun j=>decide (i < j)))
 rw [←h1,←h2]at hs ⊢
 have g1:∀x∈F1,¬i < x:=fun x hx=>by rw [h1,List.mem_filter]at hx;have:=hx.2;simp at this;omega
 have g2:∀x∈F2,i < x:=fun x hx=>by rw [h2,List.mem_filter]at hx;simpa using hx.2
 rw [hs]
 have hc:((F1 ++ F2).reverse).countP (fun x=>decide (i < x))=F2.reverse.length:=by
  rw [List.reverse_append,List.countP_append,List.countP_eq_length.2 (fun x hx=>by simpa using g2 x (List.mem_reverse.1 hx)),List.countP_eq_zero.2 (fun x hx=>by simpa using g1 x (List.mem_reverse.1 hx))]
  rfl
 rw [hc]
 simp only [List.reverse_append]
 rw [List.take_left' rfl,List.drop_left' rfl]
 simp
def giveL (v:Value) (s:Nat) (a1 a2 a3:Bool):List Ask:=
 [⟨90,#[v],#[],1,a1⟩,⟨201,#[],#[bx s,bx (s+1)],4,a2⟩,⟨203,#[],#[bx s,bx (s+1)],5,a3⟩]
theorem give_asked {b bm:Nat} {p:Pl} {fv sv:Value} {fb:List (List UInt8)} {gf gs:Option Nat} {w:World} (h:Rep w b p bm fv sv fb gf gs) (i:Int) (hi1:i≤9223372036854775807):
  Calls Tryz.prog 76 #[.slice (some ⟨w.heap.size+2,0,none⟩) 3 3] (askW w (takeB (bx b) i) (giveL (bx b) w.heap.size true true true)) fun e w'=>e= .returned (.int .i64 (giveE p i:Int))∧Boxes w [bx b,.int .i64 i] w':=by
 obtain⟨a2,ha2⟩:=Nm ((decide (0≤i) && decide (i < p.fr.length)))
 obtain⟨a3,ha3⟩:=Nm ((frameO p i.toNat).isSome)
 have hE:askE (giveL (bx b) w.heap.size true a2 a3)=(giveE p i:Int):=by
  unfold giveE frameB
  have e2:(¬(decide (0≤i) && decide (i < p.fr.length))=true)↔a2=false:=by rw [ha2];cases(decide (0≤i) && decide (i < p.fr.length)) <;> simp
  have e3:(frameO p i.toNat=none)↔a3=false:=by rw [ha3];cases frameO p i.toNat <;> simp
  simp only [e2,e3]
  cases a2 <;> cases a3 <;> rfl
 refine(asked_box (takeB (bx b) i) (giveL (bx b) w.heap.size true a2 a3) 3 3 _ rfl rfl (by omega) fun k hk hall=> ?_).mono fun e w' ⟨e1,e2,_⟩=>⟨by rw [e1,hE],e2⟩
 rcases k with _ | _ | _ | k
 ·refine⟨enters_of Tryz.func90 (by kernel_rfl) rfl,fun V hV=> ?_⟩
  exact(there_map b bm V (hV.rep h).c1).mono fun e w' ⟨e1,e2⟩=>⟨e1,e2 ▸ Br⟩
 ·refine⟨enters_of Tryz.func201 (by kernel_rfl) rfl,fun V hV=> ?_⟩
  have:=give1_any w.heap.size (w.heap.size+1) b p.fr.length i V (hV.cell 0 _ rfl) (hV.cell 1 _ rfl) (hV.rep h).c0
  rw [←ha2]at this
  exact this
 ·have t2:a2=true:=hall 1 (by simp [giveL]) (by omega)
  rw [ha2,Bool.and_eq_true,decide_eq_true_eq]at t2
  obtain⟨n,rfl⟩:∃n:Nat,i=n:=⟨i.toNat,by omega⟩
  refine⟨enters_of Tryz.func203 (by kernel_rfl) rfl,fun V hV=> ?_⟩
  have:=give2_any (hV.rep h) w.heap.size (w.heap.size+1) n (by omega) (hV.cell 0 _ rfl) (hV.cell 1 _ rfl)
  rw [Int.toNat_natCast]at ha3
  rw [←ha3]at this
  exact this
 ·simp [giveL]at hk
  omega
theorem giveE_P {p:Pl} {i:Int} (hE:giveE p i≠0):giveP p i=p:=by
 unfold giveP
 split
 next o bs hx=>
  refine absurd ?_ hE
  obtain⟨h1,h2,h3,h4⟩:=give_some hx
  unfold giveE frameB
  rw [if_neg (by rw [decide_eq_true h1,(Dt (by omega))];simp),h4]
  rfl
 ·rfl
theorem giveE_some {p:Pl} {i:Int} (hE:giveE p i=0):0≤i∧∃o bs,p.fr[i.toNat]?=some (some (o,bs))∧giveP p i={fr:=p.fr.set i.toNat none,left:=p.left.set o (leftN p o+1)}:=by
 unfold giveE at hE
 split at hE
 ·cases hE
 split at hE
 ·cases hE
 next h1 h2=>
  have h1':=Classical.not_not.1 h1
  have hf:=h1'
  simp only [frameB,Bool.and_eq_true,decide_eq_true_eq]at h1'
  cases hx:frameO p i.toNat with
  | none=>exact absurd hx h2
  | some y=>
   have hg:(if frameB p i then frameO p i.toNat else none)=some (y.1,y.2):=by rw [if_pos hf,hx]
   obtain⟨g1,g2,g3,g4⟩:=give_some hg
   refine⟨h1'.1,y.1,y.2,g3,?_⟩
   unfold giveP
   rw [hg]
theorem give_no {b:Nat} {p:Pl} {F:Nat→Prop} {w:World} (h:Has w b p F) (i:Int) (hi1:i≤9223372036854775807) (hE:giveE p i≠0):
  Calls Tryz.prog 134 #[bx b,.int .i64 i] w fun e w'=>e= .returned (.int .i64 (giveE p i:Int))∧Next w b (giveP p i) F w':=by
 rw [giveE_P hE]
 have hN:=Lh (fun w' (hb:Below w.heap.size w w')=>(show Next w b p F w' from Next.same h hb))
 obtain⟨bm,fv,sv,fb,gf,gs,hr,rfl⟩:=h
 have h1:=Lh ((give_asked hr i hi1).mono fun e w' ⟨e1,e2⟩=>(show e=Ending.returned (Value.int .i64 (giveE p i:Int))∧Below w.heap.size w w' from⟨e1,e2.below⟩))
 obtain⟨E,hE2⟩:=Nm (giveE p i)
 rw [←hE2]at h1 hE ⊢
 have e0:(((E:Int)) == 0)=false:=by rw [beq_eq_false_iff_ne];omega
 have e1:¬((E:Int)=0):=by omega
 clear hE2 hr hE hi1
 go_enter Tryz.func134,Tryz.ntmps134
 go_wp2_with fail
 refine wp_scope_jump 1 fun R hR hJm=> ?_
 go_wp2_with fail
 refine(h1.out).mono ?_
 rintro e w1 ⟨rfl,hb⟩
 go_wp2_with fail
 refine wp_goto (hJm.out _ _ _ _ _ rfl ?_)
 go_wp2_with fail
 refine hR.out _ _ _ _ (by simp) ?_
 go_ret
 exact⟨rfl,hN.out _ hb⟩
theorem give_steps {b bm:Nat} {p:Pl} {fv sv:Value} {fb:List (List UInt8)} {gf gs:Option Nat} {w w1:World} (hr:Rep w b p bm fv sv fb gf gs) (i o:Nat) (bs:List UInt8) (hx:p.fr[i]?=some (some (o,bs)))
  (hP:giveP p (i:Int)={fr:=p.fr.set i none,left:=p.left.set o (leftN p o+1)}) (hB:Boxes w [bx b,.int .i64 (i:Int)] w1):
  Calls Tryz.prog 205 #[bx b,.int .i64 (i:Int)] w1.drew fun e w2=>(∃v,e= .returned v)∧(w2.cell? ⟨w.heap.size,0,none⟩=some (bx b)∧w2.cell? ⟨w.heap.size+1,0,none⟩=some (.int .i64 (i:Int))∧w2.cell? ⟨b,67,none⟩=some sv)∧
   Calls Tryz.prog 206 #[sv,.int .i64 (i:Int),.func (.func 207) #[] #[]] w2.drew fun e w3=>∃at_:Nat,(∃q,e= .returned (.tuple #[.int .i64 (at_:Int),.bool q]))∧
    (w3.cell? ⟨w.heap.size,0,none⟩=some (bx b)∧w3.cell? ⟨w.heap.size+1,0,none⟩=some (.int .i64 (i:Int))∧w3.cell? ⟨b,67,none⟩=some sv∧w.heap.size+1 < w3.heap.size∧b < w.heap.size)∧
    Calls Tryz.prog 208 #[sv,.int .i64 (at_:Int),.slice (some ⟨w3.heap.size,0,none⟩) 1 1] ((w3.alloc (.cells #[.int .i64 (i:Int)] 3)).drew) fun e w4=>∃A' n' c',e= .returned (.slice A' n' c')∧
     (w4.cell? ⟨w.heap.size,0,none⟩=some (bx b)∧w4.cell? ⟨w.heap.size+1,0,none⟩=some (.int .i64 (i:Int))∧w4.cell? ⟨b,67,none⟩=some sv∧w4.frozen? ⟨b,67,none⟩=false)∧Next w b (giveP p (i:Int)) (blocks b bm gf gs) (w4.setCell ⟨b,67,none⟩ (.slice A' n' c')):=by
 have hs:=hr.same i o bs hx
 have hifb:=(List.getElem?_eq_some_iff.1 hs).1
 have hil:=(List.getElem?_eq_some_iff.1 hx).1
 have hok:=give_ok hr.ok (i:Int)
 have hfree:isFree p.fr i=false:=(not_free hil).2 ⟨_,hx⟩
 have hmost:=hr.ok.most
 have hfbl:=hr.fbl
 have hsplen:(spareOf p.fr fb.length).length≤fb.length:=by unfold spareOf;rw [List.length_reverse];exact Nat.le_trans (List.length_filter_le _ _) (by simp)
 have hblt:=hr.lt
 have hbw:=hr.obj.lt
 have hr1:=(hB.rep hr)
 have hs1:w.heap.size+1 < w1.heap.size:=by have:=hB.size;simp only [List.length_cons,List.length_nil]at this;omega
 have hM1:Mid w1.drew b p bm fv sv fb (spareOf p.fr fb.length) gf gs:=⟨hr1.obj,hr1.map,hr1.frm,hr1.spr⟩
 have box:∀(W:World) (F:Nat→Prop),Keep F w1 W→(∀k,F k→k < w.heap.size∨w1.heap.size≤k)→W.cell? ⟨w.heap.size,0,none⟩=some (bx b)∧W.cell? ⟨w.heap.size+1,0,none⟩=some (.int .i64 (i:Int)):=fun W F hK hF=>
  ⟨(hK.cell (p:=⟨w.heap.size,0,none⟩) (by show w.heap.size < _;omega) (fun hf=>by have:=hF _ hf;simp only at this;omega)).trans (hB.cell 0 _ rfl),(hK.cell (p:=⟨w.heap.size+1,0,none⟩) (by show w.heap.size+1 < _;omega) (fun hf=>by have:=hF _ hf;simp only at this;omega)).trans (hB.cell 1 _ rfl)⟩
 have hFl:∀k,blocks b bm gf gs k→k < w.heap.size∨w1.heap.size≤k:=fun k hk=> .inl (hblt k hk)
 refine(leave_any hM1 hr.ok i o bs hx).mono ?_
 rintro e w2 ⟨hv,hM2,hK2⟩
 have hK12:Keep (blocks b bm gf gs) w1 w2:=((Keep.refl w1).drewN 1).trans hK2 (fun k _ h=>h)
 have b2:=box w2 _ hK12 hFl
 have c672:w2.cell? ⟨b,67,none⟩=some sv:=by
  rw [hM2.obj.cell,poolL,List.getElem?_cons_succ,List.getElem?_cons_succ,List.getElem?_append_right (by rw [List.length_map,List.length_set,hr.ok.l64];decide),List.length_map,List.length_set,hr.ok.l64]
  rfl
 refine⟨hv,⟨b2.1,b2.2,c672⟩,?_⟩
 have hspr2:Own w2.drew 3 1 sv (spareOf p.fr fb.length).length ((spareOf p.fr fb.length).map iv) gs:=hM2.spr
 refine(search_any (spareOf p.fr fb.length) i _ sv gs w2.drew hspr2 (fun x hx=> ?_) (by omega) (by omega) ?_).mono ?_
 ·rw [spare_eq,List.mem_reverse]at hx
  have:=(freeL_mem.1 hx).1
  omega
 ·rw [spare_eq,List.pairwise_reverse]
  exact freeL_sorted _ _
 rintro e w3 ⟨hq,hb3⟩
 have hb23:Below w2.heap.size w2 w3:=⟨hb3.os,hb3.tape,hb3.output,hb3.size,hb3.block⟩
 have hM3:Mid w3 b {fr:=p.fr.set i none,left:=p.left.set o (leftN p o+1)} bm fv sv fb (spareOf p.fr fb.length) gf gs:=⟨hM2.obj.below hb23,owns_same hM2.map (hb23.block _ hM2.map.lt),hM2.frm.keep fun g e=>hb23.block _ (hM2.frm.lt g e),hM2.spr.keep fun g e=>hb23.block _ (hM2.spr.lt g e)⟩
 have hK13:Keep (blocks b bm gf gs) w1 w3:=hK12.trans (Keep.of_below (F:=fun _=>False) hb23) (fun k _ h=>h.elim)
 have b3:=box w3 _ hK13 hFl
 have c673:w3.cell? ⟨b,67,none⟩=some sv:=(hb23.cell (p:=⟨b,67,none⟩) hM2.obj.lt).trans c672
 refine⟨_,hq,⟨b3.1,b3.2,c673,by have:=hK13.size;omega,hbw⟩,?_⟩
 have hspr3:Own ((w3.alloc (.cells #[.int .i64 (i:Int)] 3)).drew) 3 1 sv (spareOf p.fr fb.length).length ((spareOf p.fr fb.length).map iv) gs:=
  (hM3.spr.keep (w':=w3.alloc (.cells #[.int .i64 (i:Int)] 3)) fun g e=>Below.heap_alloc _ _ _ (hM3.spr.lt g e))
 refine(insert_own (spareOf p.fr fb.length) i _ _ w3.heap.size sv gs _ hspr3 (by exact List.countP_le_length) (by omega) (show Row ((w3.alloc (.cells #[.int .i64 (i:Int)] 3)).drew) w3.heap.size 3 [iv i] from Row.new w3 3 [iv i]) (fun e=>by have:=hM3.spr.lt _ e;omega)).mono ?_
 rintro e w4 ⟨v',g',rfl,ho4,hgg,hK4⟩
 rw [←spare_give hifb hfbl hfree]at ho4
 have hsz4:((w3.alloc (.cells #[.int .i64 (i:Int)] 3)).drew).heap.size=w3.heap.size+1:=by simp
 rw [hsz4]at hgg
 have hK34:Keep (fun k=>gs=some k) w3 w4:=(((Keep.refl w3).alloc _).drewN 1).trans hK4 (fun k _ h=>h)
 obtain⟨n1,n2,n3,n4,n5,n6⟩:=hM3.ne
 have hK14:Keep (blocks b bm gf gs) w1 w4:=hK13.trans hK34 (fun k _ h=> .inr (.inr (.inr h)))
 have b4:=box w4 _ hK14 hFl
 have hb4:w4.heap[b]?=w3.heap[b]?:=hK34.block b hM3.obj.lt (fun e=>n4 e)
 have hobj4:=hM3.obj.same hb4
 have hlen:(spareOf (p.fr.set i none) fb.length).length=(spareOf p.fr fb.length).length+1:=by
  rw [spare_give hifb hfbl hfree]
  simp
  have:=List.countP_le_length (p:=fun x=>decide (i < x)) (l:=spareOf p.fr fb.length)
  omega
 obtain⟨A',c',rfl,_⟩:=ho4.form
 refine⟨A',_,c',rfl,⟨b4.1,b4.2,(World.cell?_of_block hb4).trans c673,hobj4.frozen _⟩,?_⟩
 have hks:∀k,k≠b→(w4.setCell ⟨b,67,none⟩ (.slice A' ((spareOf p.fr fb.length).length+1) c')).heap[k]?=w4.heap[k]?:=fun k hk=>heap_set hk
 have hg'b:g'≠some b:=by
  rcases hgg with e | e <;> rw [e]
  ·exact n4
  ·have:=hM3.obj.lt;simp;omega
 have hobj5:=hobj4.set 67 (.slice A' ((spareOf p.fr fb.length).length+1) c')
 rw [poolL_sv _ _ _ _ _ _ (by rw [List.length_set];exact hr.ok.l64)]at hobj5
 refine⟨blocks b bm gf g',⟨bm,fv,.slice A' ((spareOf p.fr fb.length).length+1) c',fb,gf,g',?_,rfl⟩,?_,?_⟩
 ·rw [hP]at hok ⊢
  refine⟨hok,hobj5,owns_same hM3.map ((hks _ n1).trans (hK34.block _ hM3.map.lt (fun e=>n5 e))),?_,?_,by simpa using hfbl,?_,hr.fbs,?_⟩
  ·exact hM3.frm.keep fun g e=>(hks g (fun e2=>n2 (e2 ▸ e))).trans (hK34.block _ (hM3.frm.lt g e) (fun e2=>n6 g e e2))
  ·rw [hlen]
   exact ho4.keep fun g e=>hks g (fun e2=>hg'b (e2 ▸ e))
  ·intro j hj
   have:=hr.behind j hj
   unfold frameO at this ⊢
   rw [List.getElem?_set_ne (by omega)]
   exact this
  ·intro j o' x hj
   simp only [List.getElem?_set]at hj
   split at hj
   next e=>
    subst e
    simp at hj
   next e=>exact hr.same j o' x hj
 ·exact((Keep.of_below hB.below).trans hK14 (fun k _ h=>h)).set _ (.inl (.inl rfl))
 ·rintro k (e | e | e | e)
  ·exact .inl (.inl e)
  ·exact .inl (.inr (.inl e))
  ·exact .inl (.inr (.inr (.inl e)))
  ·rcases hgg with e2 | e2
   ·exact .inl (.inr (.inr (.inr (e2 ▸ e))))
   ·rw [e2]at e
    injection e with e
    have h1:=hK13.size
    exact .inr (by omega)
theorem give_yes {b:Nat} {p:Pl} {F:Nat→Prop} {w:World} (h:Has w b p F) (i:Nat) (hi1:i≤9223372036854775807) (hE:giveE p i=0):
  Calls Tryz.prog 134 #[bx b,.int .i64 (i:Int)] w fun e w'=>e= .returned (.int .i64 0)∧Next w b (giveP p i) F w':=by
 obtain⟨bm,fv,sv,fb,gf,gs,hr,rfl⟩:=h
 obtain⟨_,o,bs,hx,hP⟩:=giveE_some hE
 rw [Int.toNat_natCast]at hx hP
 have h1:=Lh ((give_asked hr (i:Int) (by omega)).mono fun e w' ⟨e1,e2⟩=>(show e=Ending.returned (Value.int .i64 (giveE p i:Int))∧w'.cell? ⟨w.heap.size,0,none⟩=some (bx b)∧w'.cell? ⟨w.heap.size+1,0,none⟩=some (Value.int .i64 (i:Int))∧Boxes w [bx b,.int .i64 (i:Int)] w' from⟨e1,e2.cell 0 _ rfl,e2.cell 1 _ rfl,e2⟩))
 rw [hE]at h1
 have HL:=Lh (fun(w1:World) (hB:Boxes w [bx b,.int .i64 (i:Int)] w1)=>give_steps hr i o bs hx hP hB)
 have mixed:Tryz.prog.follows .mixedOrders=true:=by kernel_rfl
 obtain⟨PN,hPN⟩:=Nm (giveP p (i:Int))
 rw [←hPN]at HL ⊢
 clear hPN hP hx hr hE hi1
 go_enter Tryz.func134,Tryz.ntmps134
 go_wp2_with fail
 refine wp_scope_jump 1 fun R hR hJm=> ?_
 go_wp2_with fail
 refine(h1.out).mono ?_
 rintro e w1 ⟨rfl,d0,d1,hB⟩
 have h2:=Lh (HL.out w1 hB)
 have hS0:=Lh (show w1.drew.cell? ⟨w.heap.size,0,none⟩=some (bx b)∧w1.drew.cell? ⟨w.heap.size+1,0,none⟩=some (.int .i64 (i:Int)) from⟨d0,d1⟩)
 clear HL hB h1 d0 d1
 go_wp2_with fail
 go_region_held3 (fun W=>W.cell? ⟨w.heap.size,0,none⟩=some (bx b)∧W.cell? ⟨w.heap.size+1,0,none⟩=some (.int .i64 (i:Int)))
  (first | exact hS0.out | assumption | exact⟨hd2.1,hd2.2.1⟩)
  (first | (go_at_call 205;refine(h2.out).mono ?_;rintro e w2 ⟨⟨v,rfl⟩,hd2,hse⟩;have hS2:=And.intro hd2.1 hd2.2.1))
 have h3:=Lh hse
 have hS3:=Lh (show w2.drew.cell? ⟨w.heap.size,0,none⟩=some (bx b)∧w2.drew.cell? ⟨w.heap.size+1,0,none⟩=some (.int .i64 (i:Int))∧w2.drew.cell? ⟨b,67,none⟩=some sv from hd2)
 clear hse h2 hd2 hS2
 go_wp2_with fail
 go_region_held3 (fun W=>W.cell? ⟨w.heap.size,0,none⟩=some (bx b)∧W.cell? ⟨w.heap.size+1,0,none⟩=some (.int .i64 (i:Int))∧W.cell? ⟨b,67,none⟩=some sv)
  (first | exact hS3.out | assumption)
  (first | (go_at_call 206;refine(h3.out).mono ?_;rintro e w3 ⟨at_,⟨q,rfl⟩,⟨f0,f1,f2,f3,f4⟩,hin⟩;have hS4:=And.intro f0 (And.intro f1 f2)))
 have HI:=Lh hin
 have a0:∀ob,(w3.alloc ob).cell? ⟨w.heap.size,0,none⟩=some (bx b):=fun ob=>(World.cell?_alloc_lt _ _ _ (by show w.heap.size < _;omega)).trans f0
 have a1:∀ob,(w3.alloc ob).cell? ⟨w.heap.size+1,0,none⟩=some (.int .i64 (i:Int)):=fun ob=>(World.cell?_alloc_lt _ _ _ (by show w.heap.size+1 < _;omega)).trans f1
 have a2:∀ob,(w3.alloc ob).cell? ⟨b,67,none⟩=some sv:=fun ob=>(World.cell?_alloc_lt _ _ _ (by show b < _;omega)).trans f2
 have ne0:¬b=w.heap.size:=by omega
 have ne1:¬b=w.heap.size+1:=by omega
 have HS5:=Lh (fun(W:World) (u:Value) (x0:W.cell? ⟨w.heap.size,0,none⟩=some (bx b)) (x1:W.cell? ⟨w.heap.size+1,0,none⟩=some (.int .i64 (i:Int)))=>(show(W.setCell ⟨b,67,none⟩ u).cell? ⟨w.heap.size,0,none⟩=some (bx b)∧(W.setCell ⟨b,67,none⟩ u).cell? ⟨w.heap.size+1,0,none⟩=some (.int .i64 (i:Int)) from
  ⟨(World.cell?_setCell_other _ _ _ _ (fun e=>by have:=congrArg Addr.block e;simp only at this;omega)).trans x0,(World.cell?_setCell_other _ _ _ _ (fun e=>by have:=congrArg Addr.block e;simp only at this;omega)).trans x1⟩))
 clear hin hS4 hS3 h3 hS0
 go_wp2_with fail
 refine wp_region_noPanic ?_
 refine wp_region_held_drew (S:=fun W=>W.cell? ⟨w.heap.size,0,none⟩=some (bx b)∧W.cell? ⟨w.heap.size+1,0,none⟩=some (.int .i64 (i:Int))) (by kernel_rfl) ⟨f0,f1⟩ (fun hZ=> ?_)
 refine tkH 0 hZ ?_
 simp only [Act.put]
 refine tkH 1 hZ ?_
 simp only [Act.put]
 refine tkH 2 hZ ?_
 simp only [Act.put]
 refine tkH 3 hZ ?_
 simp only [Act.put]
 refine tkH 5 hZ ?_
 simp only [Act.put]
 refine tkH 6 hZ ?_
 simp only [Act.put]
 refine wpAnyH_ready (rs:= [4,7]) (by kernel_rfl) (by simp) ?_
 refine AllReadyH.cons rfl (fun K hK=> ?_) (AllReadyH.cons rfl (fun K hK=> ?_) (AllReadyH.nil))
 ·go_simp
  refine hK.out _ _ ⟨f0,f1⟩ (fun hZ=> ?_)
  clear hK K
  try simp only [Act.put]
  refine rdH 7 fun K hK=> ?_
  go_simp
  refine hK.out _ _ ⟨a0 _,a1 _⟩ (fun hZ=> ?_)
  clear hK K
  try simp only [Act.put]
  refine rdH 8 fun K hK=> ?_
  go_simp
  refine(HI.out).mono ?_
  rintro e w4 ⟨A',n',c',rfl,⟨x0,x1,x2,x3⟩,hN⟩
  have HN:=Lh hN
  clear hN
  refine hK.out _ _ ⟨x0,x1⟩ (fun hZ=> ?_)
  clear hK K
  try simp only [Act.put]
  refine tkH 9 hZ ?_
  simp only [Act.put]
  refine tkH 10 hZ ?_
  simp only [Act.put]
  refine rdH 11 fun K hK=> ?_
  go_simp
  refine hK.out _ _ (HS5.out _ _ x0 x1) (fun _=> ?_)
  clear hK K
  try simp only [Act.put]
  refine wpAnyH_done (by kernel_rfl) ?_ _
  refine NoPanic.normal ?_
  clear x0 x1 x2 x3
  go_wp2_with fail
  refine hR.out _ _ _ _ (by simp) ?_
  go_ret
  exact⟨rfl,HN.out⟩
 ·go_simp
  refine hK.out _ _ ⟨a0 _,a1 _⟩ (fun hZ=> ?_)
  clear hK K
  try simp only [Act.put]
  refine rdH 4 fun K hK=> ?_
  go_simp
  refine hK.out _ _ ⟨a0 _,a1 _⟩ (fun hZ=> ?_)
  clear hK K
  try simp only [Act.put]
  refine rdH 8 fun K hK=> ?_
  go_simp
  refine(HI.out).mono ?_
  rintro e w4 ⟨A',n',c',rfl,⟨x0,x1,x2,x3⟩,hN⟩
  have HN:=Lh hN
  clear hN
  refine hK.out _ _ ⟨x0,x1⟩ (fun hZ=> ?_)
  clear hK K
  try simp only [Act.put]
  refine tkH 9 hZ ?_
  simp only [Act.put]
  refine tkH 10 hZ ?_
  simp only [Act.put]
  refine rdH 11 fun K hK=> ?_
  go_simp
  refine hK.out _ _ (HS5.out _ _ x0 x1) (fun _=> ?_)
  clear hK K
  try simp only [Act.put]
  refine wpAnyH_done (by kernel_rfl) ?_ _
  refine NoPanic.normal ?_
  clear x0 x1 x2 x3
  go_wp2_with fail
  refine hR.out _ _ _ _ (by simp) ?_
  go_ret
  exact⟨rfl,HN.out⟩
end Go.Proofs.YtfcfbcjiijfjgaaGreatDoor
