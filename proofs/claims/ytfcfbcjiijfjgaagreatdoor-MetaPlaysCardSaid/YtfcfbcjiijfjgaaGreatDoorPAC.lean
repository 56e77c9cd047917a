import Derived.Test.YtfcfbcjiijfjgaaGreatDoorPAB
import Derived.LoopTactic
set_option maxHeartbeats 4000000
namespace Go.Proofs.YtfcfbcjiijfjgaaGreatDoor.Wn
open Go.RowKit
attribute [local go_sem] Oper.semAt_some
def fnd (f s p r n:Nat):Option (Nat × Nat):=if f≤n∧n - f < r*s∧(n - f) % s < p then some ((n - f) / s,(n - f) % s) else none
def spotV:Option (Nat × Nat)→Value
 | some (a,b)=> .agg #[.int .i64 (a:Int),.int .i64 (b:Int),.bool true]
 | none=> .agg #[.int .i64 0,.int .i64 0,.bool false]
theorem find_far (f s p r n:Nat) (w:World) (hf:f < 1000000) (hn:n < 1000000) (hs:0 < s∧s < 1000000) (hr:r < 1000) (h:¬(f≤n∧n - f < r*s)):
  Calls Tryz.prog 219 #[rw4 f s p r,.int .i64 (n:Int)] w fun e w'=>e= .returned (spotV none)∧Below w.heap.size w w':=by
 have hm:r*s≤1000*1000000:=Nat.mul_le_mul (by omega) (by omega)
 obtain⟨m,hmm⟩:=Nm (r*s)
 rw [←hmm]at h hm
 obtain⟨d,hd⟩:∃d:Int,d=(n:Int) - (f:Int):=⟨_,rfl⟩
 have e0:IntKind.i64.wrap ((n:Int) - (f:Int))=d:=(wrapI _ (by omega) (by omega)).trans hd.symm
 have e1:IntKind.i64.wrap ((r:Int)*(s:Int))=(m:Int):=by rw [hmm,Int.natCast_mul];exact wrapI _ (by rw [←Int.natCast_mul,←hmm];omega) (by rw [←Int.natCast_mul,←hmm];omega)
 have hb:=Lh (fun w=>below_any d (m:Int) w)
 have hno:isB d (m:Int)=false:=by
  unfold isB
  by_cases h0:0≤d
  ·rw [decide_eq_false (show ¬d < (m:Int) by omega),Bool.and_false]
  ·rw [decide_eq_false h0,Bool.false_and]
 rw [hno]at hb
 clear hno hmm hm hd h hf hn hs hr
 go_enter Tryz.func219,Tryz.ntmps219
 go_wp2_with fail
 refine wp_scope_jump 1 fun R hR hG=> ?_
 go_wp2_with fail
 go_quiet ((go_at_call 74;exact quiet_l (hb.out _)))
 go_wp2_with fail
 refine wp_goto (hG.out _ _ _ _ _ rfl ?_)
 go_wp2
 refine hR.out _ _ _ _ (by simp) ?_
 exact bodyPost_ret (v:=spotV none) (by simp [results,Tryz.results219,go_sem,spotV]) rfl ⟨rfl,(((below_drewN (below2 _ _ _) _).setCell (by simp) _).setCell (by simp) _).setCell (by simp) _⟩
theorem find_near (f s p r n:Nat) (w:World) (hf:f < 1000000) (hn:n < 1000000) (hs:0 < s∧s < 1000000) (hr:r < 1000) (h:f≤n∧n - f < r*s) (hp:¬(n - f) % s < p):
  Calls Tryz.prog 219 #[rw4 f s p r,.int .i64 (n:Int)] w fun e w'=>e= .returned (spotV none)∧Below w.heap.size w w':=by
 have hm:r*s≤1000*1000000:=Nat.mul_le_mul (by omega) (by omega)
 obtain⟨m,hmm⟩:=Nm (r*s)
 rw [←hmm]at h hm
 obtain⟨d,hd⟩:∃d:Nat,d=n - f:=⟨_,rfl⟩
 have e0:IntKind.i64.wrap ((n:Int) - (f:Int))=(d:Int):=(wrapI _ (by omega) (by omega)).trans (by omega)
 have e1:IntKind.i64.wrap ((r:Int)*(s:Int))=(m:Int):=by rw [hmm,Int.natCast_mul];exact wrapI _ (by rw [←Int.natCast_mul,←hmm];omega) (by rw [←Int.natCast_mul,←hmm];omega)
 have hb:=Lh (fun w=>below_any (d:Int) (m:Int) w)
 rw [isB_yes (by omega)]at hb
 rw [←hd]at hp
 have hq:=Nat.mod_lt d hs.1
 obtain⟨q,hqq⟩:=Nm (d % s)
 rw [←hqq]at hp hq
 have e2:(d:Int) % (s:Int)=(q:Int):=by rw [show(d:Int) % (s:Int)=((d % s:Nat):Int) from rfl,←hqq]
 have e3:decide ((p:Int)≤(q:Int))=true:=Dt (by omega)
 have e5:decide (p≤q)=true:=Dt (by omega)
 have hne:¬(s:Int)=0:=by omega
 have hne2:((s:Int) == 0)=false:=beq_eq_false_iff_ne.2 hne
 clear hmm hm hd h hf hn hs hr hqq hp hq
 go_enter Tryz.func219,Tryz.ntmps219
 go_wp2_with fail
 refine wp_scope_jump 1 fun R hR hG=> ?_
 go_wp2_with fail
 go_quiet ((go_at_call 74;exact quiet_l (hb.out _)))
 go_wp2_with fail
 refine wp_goto (hG.out _ _ _ _ _ rfl ?_)
 go_wp2
 refine hR.out _ _ _ _ (by simp) ?_
 exact bodyPost_ret (v:=spotV none) (by simp [results,Tryz.results219,go_sem,spotV]) rfl ⟨rfl,(((below_drewN (below2 _ _ _) _).setCell (by simp) _).setCell (by simp) _).setCell (by simp) _⟩
theorem find_yes (f s p r n:Nat) (w:World) (hf:f < 1000000) (hn:n < 1000000) (hs:0 < s∧s < 1000000) (hr:r < 1000) (h:f≤n∧n - f < r*s) (hp:(n - f) % s < p):
  Calls Tryz.prog 219 #[rw4 f s p r,.int .i64 (n:Int)] w fun e w'=>e= .returned (spotV (some ((n - f) / s,(n - f) % s)))∧Below w.heap.size w w':=by
 have hm:r*s≤1000*1000000:=Nat.mul_le_mul (by omega) (by omega)
 obtain⟨m,hmm⟩:=Nm (r*s)
 rw [←hmm]at h hm
 obtain⟨d,hd⟩:∃d:Nat,d=n - f:=⟨_,rfl⟩
 have e0:IntKind.i64.wrap ((n:Int) - (f:Int))=(d:Int):=(wrapI _ (by omega) (by omega)).trans (by omega)
 have e1:IntKind.i64.wrap ((r:Int)*(s:Int))=(m:Int):=by rw [hmm,Int.natCast_mul];exact wrapI _ (by rw [←Int.natCast_mul,←hmm];omega) (by rw [←Int.natCast_mul,←hmm];omega)
 have hb:=Lh (fun w=>below_any (d:Int) (m:Int) w)
 rw [isB_yes (by omega)]at hb
 rw [←hd]at hp ⊢
 have hq:=Nat.mod_lt d hs.1
 have hu:=Nat.div_le_self d s
 obtain⟨q,hqq⟩:=Nm (d % s)
 obtain⟨u,huu⟩:=Nm (d / s)
 rw [←hqq]at hp hq ⊢
 rw [←huu]at hu ⊢
 have e2:(d:Int) % (s:Int)=(q:Int):=by rw [show(d:Int) % (s:Int)=((d % s:Nat):Int) from rfl,←hqq]
 have e4:IntKind.i64.wrap ((d:Int) / (s:Int))=(u:Int):=by
  rw [show(d:Int) / (s:Int)=((d / s:Nat):Int) from rfl,←huu]
  exact wrapI _ (by omega) (by omega)
 have e3:decide ((p:Int)≤(q:Int))=false:=Df (by omega)
 have e5:decide (p≤q)=false:=Df (by omega)
 have hne:¬(s:Int)=0:=by omega
 have e6:(d:Int).tmod (s:Int)=(q:Int):=by rw [Int.tmod_eq_emod_of_nonneg (by omega),e2]
 have e7:(d:Int).tdiv (s:Int)=(u:Int):=by rw [Int.tdiv_eq_ediv_of_nonneg (by omega),show(d:Int) / (s:Int)=((d / s:Nat):Int) from rfl,←huu]
 have i0:(0:Int)≤(d:Int):=by omega
 have i1:(0:Int)≤(s:Int):=by omega
 have i2:(0:Int) < (s:Int):=by omega
 have i3:IntKind.i64.wrap (u:Int)=(u:Int):=wrapI _ (by omega) (by omega)
 have hne2:((s:Int) == 0)=false:=beq_eq_false_iff_ne.2 hne
 obtain⟨w0,hw0⟩:=Nm ((w.alloc (.cells #[.int .i64 (f:Int),.int .i64 (s:Int),.int .i64 (p:Int),.int .i64 (r:Int)] 214)).alloc (.cells #[.int .i64 0,.int .i64 0,.bool false] 224))
 have hR0:Row w0 w.heap.size 214 [.int .i64 (f:Int),.int .i64 (s:Int),.int .i64 (p:Int),.int .i64 (r:Int)]:=by rw [hw0];exact(Row.new w 214 [.int .i64 (f:Int),.int .i64 (s:Int),.int .i64 (p:Int),.int .i64 (r:Int)]).below (below1 _ _)
 have hR1:Row w0 (w.heap.size+1) 224 [.int .i64 0,.int .i64 0,.bool false]:=by rw [hw0];exact Row.new_at _ 224 [.int .i64 0,.int .i64 0,.bool false] (by simp)
 have hB:Below w.heap.size w w0:=by rw [hw0];exact below2 _ _ _
 have k0:w0.cell? ⟨w.heap.size,0,none⟩=some (.int .i64 (f:Int)):=hR0.cell 0
 have k1:w0.cell? ⟨w.heap.size,1,none⟩=some (.int .i64 (s:Int)):=hR0.cell 1
 have k2:w0.cell? ⟨w.heap.size,2,none⟩=some (.int .i64 (p:Int)):=hR0.cell 2
 have k3:w0.cell? ⟨w.heap.size,3,none⟩=some (.int .i64 (r:Int)):=hR0.cell 3
 have l0:w0.cell? ⟨w.heap.size+1,0,none⟩=some (.int .i64 0):=hR1.cell 0
 have l1:w0.cell? ⟨w.heap.size+1,1,none⟩=some (.int .i64 0):=hR1.cell 1
 have l2:w0.cell? ⟨w.heap.size+1,2,none⟩=some (.bool false):=hR1.cell 2
 have f0:=hR1.frozen 0
 have f1:=hR1.frozen 1
 have f2:=hR1.frozen 2
 have HS:=Lh (show ∀(k:Nat) (v v' v'':Value),((((w0.drewN k).setCell ⟨w.heap.size+1,0,none⟩ v).setCell ⟨w.heap.size+1,1,none⟩ v').setCell ⟨w.heap.size+1,2,none⟩ v'').cell? ⟨w.heap.size,1,none⟩=some (.int .i64 (s:Int)) from fun k v v' v''=>
  ((World.cell?_setCell_other _ _ _ _ (fun e=>by injection e;omega)).trans ((World.cell?_setCell_other _ _ _ _ (fun e=>by injection e;omega)).trans (World.cell?_setCell_other _ _ _ _ (fun e=>by injection e;omega)))).trans k1)
 have HB:=Lh hB
 have HR:=Lh hR1
 have HKd:=Lh (show ∀k:Nat,(w0.drewN k).drew.cell? ⟨w.heap.size,1,none⟩=some (.int .i64 (s:Int)) from fun _=>k1)
 have HSd:=Lh (show ∀(k:Nat) (v v' v'':Value),((((w0.drewN k).drew.setCell ⟨w.heap.size+1,0,none⟩ v).setCell ⟨w.heap.size+1,1,none⟩ v').setCell ⟨w.heap.size+1,2,none⟩ v'').cell? ⟨w.heap.size,1,none⟩=some (.int .i64 (s:Int)) from fun k v v' v''=>HS.out k v v' v'')
 have HK:=Lh (show ∀k:Nat,(w0.drewN k).cell? ⟨w.heap.size,1,none⟩=some (.int .i64 (s:Int)) from fun _=>k1)
 clear hmm hm hd h hf hn hs hr hqq hp hq huu hu hR0 hR1 hB
 go_enter Tryz.func219,Tryz.ntmps219
 go_wp2_with fail
 refine wp_scope_jump 1 fun R hR hG=> ?_
 rw [←hw0]
 clear hw0
 go_wp2_with fail
 go_quiet ((go_at_call 74;exact quiet_l (hb.out _)))
 go_wp2_with fail
 refine wp_region_noPanic ?_
 go_region_with (fail)
 all_goals
  obtain⟨W',hW'⟩:∃W',W'=(((w0.drewN (nq+1)).setCell ⟨w.heap.size+1,0,none⟩ (.int .i64 (u:Int))).setCell ⟨w.heap.size+1,1,none⟩ (.int .i64 (q:Int))).setCell ⟨w.heap.size+1,2,none⟩ (.bool true):=⟨_,rfl⟩
  have hR2:Row W' (w.heap.size+1) 224 [.int .i64 (u:Int),.int .i64 (q:Int),.bool true]:=by rw [hW'];exact(((show Row (w0.drewN (nq+1)) _ _ _ from HR.out).set 0 (.int .i64 (u:Int))).set 1 (.int .i64 (q:Int))).set 2 (.bool true)
  have hB2:Below w.heap.size w W':=by rw [hW'];exact(((below_drewN HB.out _).setCell (by simp) _).setCell (by simp) _).setCell (by simp) _
  rw [←hW']
  clear hW'
  have d0:W'.cell? ⟨w.heap.size+1,0,none⟩=_:=hR2.cell 0
  have d1:W'.cell? ⟨w.heap.size+1,1,none⟩=_:=hR2.cell 1
  have d2:W'.cell? ⟨w.heap.size+1,2,none⟩=_:=hR2.cell 2
  clear hR2 k0 k1 k2 k3 l0 l1 l2 f0 f1 f2
  refine NoPanic.normal ?_
  go_wp2
  refine hR.out _ _ _ _ (by simp) ?_
  exact bodyPost_ret (v:=spotV (some (u,q))) (by simp [results,Tryz.results219,go_sem,spotV,d0,d1,d2]) rfl ⟨rfl,hB2⟩
theorem find_any (f s p r n:Nat) (w:World) (hf:f < 1000000) (hn:n < 1000000) (hs:0 < s∧s < 1000000) (hr:r < 1000):
  Calls Tryz.prog 219 #[rw4 f s p r,.int .i64 (n:Int)] w fun e w'=>e= .returned (spotV (fnd f s p r n))∧Below w.heap.size w w':=by
 by_cases h:f≤n∧n - f < r*s
 ·by_cases hp:(n - f) % s < p
  ·rw [fnd,if_pos ⟨h.1,h.2,hp⟩]
   exact find_yes f s p r n w hf hn hs hr h hp
  ·rw [fnd,if_neg fun h9=>hp h9.2.2]
   exact find_near f s p r n w hf hn hs hr h hp
 ·rw [fnd,if_neg fun h9=>h ⟨h9.1,h9.2.1⟩]
  exact find_far f s p r n w hf hn hs hr h
abbrev spV (a b:Int) (c:Bool):Value:= .agg #[.int .i64 a,.int .i64 b,.bool c]
def sA (o:Option (Nat × Nat)):Nat:=(o.getD (0,0)).1
def sB (o:Option (Nat × Nat)):Nat:=(o.getD (0,0)).2
theorem spotV_eq (o:Option (Nat × Nat)):spotV o=spV (sA o:Int) (sB o:Int) o.isSome:=by cases o <;> rfl
def bookO (n:Nat):Option (Nat × Nat):=fnd 1 64 48 4 n
def windO (n:Nat):Option (Nat × Nat):=fnd 4096 4096 4096 4 n
def regiO (n:Nat):Option (Nat × Nat):=match windO n with | some (k,_)=>fnd (4096*k+4097) 17 16 8 n | none=>none
theorem wind_lt {n k q:Nat} (h:windO n=some (k,q)):k < 4∧n=4096*k+4096+q∧q < 4096:=by
 unfold windO fnd at h
 split at h
 ·rename_i hc
  injection h with h
  injection h with h1 h2
  omega
 ·cases h
abbrev lkC (a b:Int) (c:Bool) (d e:Int) (f:Bool) (g h:Int) (i:Bool):List Value:= [.int .i64 a,.int .i64 b,.bool c,.int .i64 d,.int .i64 e,.bool f,.int .i64 g,.int .i64 h,.bool i]
abbrev lkV (a b:Int) (c:Bool) (d e:Int) (f:Bool) (g h:Int) (i:Bool):Value:= .agg #[.int .i64 a,.int .i64 b,.bool c,.int .i64 d,.int .i64 e,.bool f,.int .i64 g,.int .i64 h,.bool i]
def lookV (n:Nat):Value:=lkV (sA (bookO n):Int) (sB (bookO n):Int) (bookO n).isSome (sA (windO n):Int) (sB (windO n):Int) (windO n).isSome (sA (regiO n):Int) (sB (regiO n):Int) (regiO n).isSome
theorem row_set9 {V:World} {b:Nat} {t:TypeId} {x0 x1 x2 x3 x4 x5 x6 x7 x8:Value} (y0 y1 y2 y3 y4 y5 y6 y7 y8:Value) (h:Row V b t [x0,x1,x2,x3,x4,x5,x6,x7,x8]):Row (((((((((V.setCell ⟨b,0,none⟩ y0).setCell ⟨b,1,none⟩ y1).setCell ⟨b,2,none⟩ y2).setCell ⟨b,3,none⟩ y3).setCell ⟨b,4,none⟩ y4).setCell ⟨b,5,none⟩ y5).setCell ⟨b,6,none⟩ y6).setCell ⟨b,7,none⟩ y7).setCell ⟨b,8,none⟩ y8) b t [y0,y1,y2,y3,y4,y5,y6,y7,y8]:=(((((((((h.set 0 y0).set 1 y1).set 2 y2).set 3 y3).set 4 y4).set 5 y5).set 6 y6).set 7 y7).set 8 y8)
theorem below_set9 {B:Nat} {w V:World} {b:Nat} (y0 y1 y2 y3 y4 y5 y6 y7 y8:Value) (h:Below B w V) (hb:B≤b):Below B w (((((((((V.setCell ⟨b,0,none⟩ y0).setCell ⟨b,1,none⟩ y1).setCell ⟨b,2,none⟩ y2).setCell ⟨b,3,none⟩ y3).setCell ⟨b,4,none⟩ y4).setCell ⟨b,5,none⟩ y5).setCell ⟨b,6,none⟩ y6).setCell ⟨b,7,none⟩ y7).setCell ⟨b,8,none⟩ y8):=(((((((((h.setCell (p:=⟨b,0,none⟩) hb _).setCell (p:=⟨b,1,none⟩) hb _).setCell (p:=⟨b,2,none⟩) hb _).setCell (p:=⟨b,3,none⟩) hb _).setCell (p:=⟨b,4,none⟩) hb _).setCell (p:=⟨b,5,none⟩) hb _).setCell (p:=⟨b,6,none⟩) hb _).setCell (p:=⟨b,7,none⟩) hb _).setCell (p:=⟨b,8,none⟩) hb _)
theorem row_set4 {V:World} {b:Nat} {t:TypeId} {x0 x1 x2 x3:Value} (y0 y1 y2 y3:Value) (h:Row V b t [x0,x1,x2,x3]):Row ((((V.setCell ⟨b,0,none⟩ y0).setCell ⟨b,1,none⟩ y1).setCell ⟨b,2,none⟩ y2).setCell ⟨b,3,none⟩ y3) b t [y0,y1,y2,y3]:=((((h.set 0 y0).set 1 y1).set 2 y2).set 3 y3)
theorem below_set4 {B:Nat} {w V:World} {b:Nat} (y0 y1 y2 y3:Value) (h:Below B w V) (hb:B≤b):Below B w ((((V.setCell ⟨b,0,none⟩ y0).setCell ⟨b,1,none⟩ y1).setCell ⟨b,2,none⟩ y2).setCell ⟨b,3,none⟩ y3):=((((h.setCell (p:=⟨b,0,none⟩) hb _).setCell (p:=⟨b,1,none⟩) hb _).setCell (p:=⟨b,2,none⟩) hb _).setCell (p:=⟨b,3,none⟩) hb _)
theorem lookAt_none (n:Nat) (w:World) (hn:n < 1000000) (h:windO n=none):Calls Tryz.prog 151 #[.int .i64 (n:Int)] w fun e w'=>e= .returned (lookV n)∧Below w.heap.size w w':=by
 have hb:=Lh (fun w=>find_any 1 64 48 4 n w (by omega) hn (by omega) (by omega))
 have hw:=Lh (fun w=>find_any 4096 4096 4096 4 n w (by omega) hn (by omega) (by omega))
 have hbk:=Lh books_any
 have hwk:=Lh windows_any
 rw [show fnd 4096 4096 4096 4 n=none from h,show spotV none=spV 0 0 false from rfl]at hw
 rw [show fnd 1 64 48 4 n=bookO n from rfl,spotV_eq]at hb
 rw [lookV,h,show regiO n=none by unfold regiO;rw [h]]
 rw [show sA none=0 from rfl,show sB none=0 from rfl,show(none:Option (Nat × Nat)).isSome=false from rfl]
 obtain⟨a,ha⟩:=Nm (sA (bookO n))
 obtain⟨b,hb'⟩:∃b,b=sB (bookO n):=⟨_,rfl⟩
 obtain⟨c,hc⟩:=Nm ((bookO n).isSome)
 rw [←ha,←hb',←hc]at hb ⊢
 clear ha hb' hc h hn
 go_enter Tryz.func151,Tryz.ntmps151
 go_wp2_with fail
 refine(hbk.out _).mono ?_
 rintro e w1 ⟨rfl,hb1⟩
 have B1:Below w.heap.size w w1:=(below1 _ _).trans (hb1.mono (by simp))
 have R1:Row w1 w.heap.size 226 (lkC 0 0 false 0 0 false 0 0 false):=(Row.new w 226 (lkC 0 0 false 0 0 false 0 0 false)).below hb1
 clear hb1
 go_wp2_with fail
 refine(hb.out _).mono ?_
 rintro e w2 ⟨rfl,hb2⟩
 have B2:=B1.trans (hb2.mono B1.size)
 have R2:=R1.below hb2
 clear B1 R1 hb2
 go_wp2_with fail
 refine(hwk.out _).mono ?_
 rintro e w3 ⟨rfl,hb3⟩
 have B3:=B2.trans (hb3.mono B2.size)
 have R3:=R2.below hb3
 clear B2 R2 hb3
 go_wp2_with fail
 refine(hw.out _).mono ?_
 rintro e w4 ⟨rfl,hb4⟩
 have B4:=B3.trans (hb4.mono B3.size)
 have R4:=R3.below hb4
 clear B3 R3 hb4
 have hlt:=R4.lt
 obtain⟨w5,hw5⟩:=Nm (w4.alloc (.cells #[.int .i64 (a:Int),.int .i64 (b:Int),.bool c,.int .i64 0,.int .i64 0,.bool false,.int .i64 0,.int .i64 0,.bool false] 226))
 have B5:Below w.heap.size w w5:=by rw [hw5];exact B4.alloc B4.size _
 have R5:Row w5 w.heap.size 226 (lkC 0 0 false 0 0 false 0 0 false):=by rw [hw5];exact R4.below (below1 _ _)
 have c0:w5.cell? ⟨w.heap.size,0,none⟩=_:=R5.cell 0
 have c1:w5.cell? ⟨w.heap.size,1,none⟩=_:=R5.cell 1
 have c2:w5.cell? ⟨w.heap.size,2,none⟩=_:=R5.cell 2
 have c3:w5.cell? ⟨w.heap.size,3,none⟩=_:=R5.cell 3
 have c4:w5.cell? ⟨w.heap.size,4,none⟩=_:=R5.cell 4
 have c5:w5.cell? ⟨w.heap.size,5,none⟩=_:=R5.cell 5
 have c6:w5.cell? ⟨w.heap.size,6,none⟩=_:=R5.cell 6
 have c7:w5.cell? ⟨w.heap.size,7,none⟩=_:=R5.cell 7
 have c8:w5.cell? ⟨w.heap.size,8,none⟩=_:=R5.cell 8
 have f0:w5.frozen? ⟨w.heap.size,0,none⟩=false:=R5.frozen 0
 have f1:w5.frozen? ⟨w.heap.size,1,none⟩=false:=R5.frozen 1
 have f2:w5.frozen? ⟨w.heap.size,2,none⟩=false:=R5.frozen 2
 have f3:w5.frozen? ⟨w.heap.size,3,none⟩=false:=R5.frozen 3
 have f4:w5.frozen? ⟨w.heap.size,4,none⟩=false:=R5.frozen 4
 have f5:w5.frozen? ⟨w.heap.size,5,none⟩=false:=R5.frozen 5
 have f6:w5.frozen? ⟨w.heap.size,6,none⟩=false:=R5.frozen 6
 have f7:w5.frozen? ⟨w.heap.size,7,none⟩=false:=R5.frozen 7
 have f8:w5.frozen? ⟨w.heap.size,8,none⟩=false:=R5.frozen 8
 rw [hw5]at c0 c1 c2 c3 c4 c5 c6 c7 c8 f0 f1 f2 f3 f4 f5 f6 f7 f8
 have HR:=Lh R5
 have HB:=Lh B5
 have HW:=Lh hw5
 clear B4 R4 R5 B5 hw5 hlt
 go_wp2
 rw [←HW.out]
 have R6:=row_set9 (.int .i64 (a:Int)) (.int .i64 (b:Int)) (.bool c) (.int .i64 0) (.int .i64 0) (.bool false) (.int .i64 0) (.int .i64 0) (.bool false) HR.out
 have B6:=below_set9 (b:=w.heap.size) (.int .i64 (a:Int)) (.int .i64 (b:Int)) (.bool c) (.int .i64 0) (.int .i64 0) (.bool false) (.int .i64 0) (.int .i64 0) (.bool false) HB.out Lr
 obtain⟨W,hW⟩:=Nm ((((((((((w5.setCell ⟨w.heap.size,0,none⟩ (.int .i64 (a:Int))).setCell ⟨w.heap.size,1,none⟩ (.int .i64 (b:Int))).setCell ⟨w.heap.size,2,none⟩ (.bool c)).setCell ⟨w.heap.size,3,none⟩ (.int .i64 0)).setCell ⟨w.heap.size,4,none⟩ (.int .i64 0)).setCell ⟨w.heap.size,5,none⟩ (.bool false)).setCell ⟨w.heap.size,6,none⟩ (.int .i64 0)).setCell ⟨w.heap.size,7,none⟩ (.int .i64 0)).setCell ⟨w.heap.size,8,none⟩ (.bool false)))
 rw [←hW]at R6 B6 ⊢
 clear c0 c1 c2 c3 c4 c5 c6 c7 c8 f0 f1 f2 f3 f4 f5 f6 f7 f8 HR HB HW hW
 have d0:W.cell? ⟨w.heap.size,0,none⟩=_:=R6.cell 0
 have d1:W.cell? ⟨w.heap.size,1,none⟩=_:=R6.cell 1
 have d2:W.cell? ⟨w.heap.size,2,none⟩=_:=R6.cell 2
 have d3:W.cell? ⟨w.heap.size,3,none⟩=_:=R6.cell 3
 have d4:W.cell? ⟨w.heap.size,4,none⟩=_:=R6.cell 4
 have d5:W.cell? ⟨w.heap.size,5,none⟩=_:=R6.cell 5
 have d6:W.cell? ⟨w.heap.size,6,none⟩=_:=R6.cell 6
 have d7:W.cell? ⟨w.heap.size,7,none⟩=_:=R6.cell 7
 have d8:W.cell? ⟨w.heap.size,8,none⟩=_:=R6.cell 8
 exact bodyPost_ret (v:=lkV a b c 0 0 false 0 0 false) (by simp [results,Tryz.results151,go_sem,d0,d1,d2,d3,d4,d5,d6,d7,d8]) rfl ⟨rfl,B6⟩
theorem lookAt_some (n k q:Nat) (w:World) (hn:n < 1000000) (hx:windO n=some (k,q)):Calls Tryz.prog 151 #[.int .i64 (n:Int)] w fun e w'=>e= .returned (lookV n)∧Below w.heap.size w w':=by
 have hk:=(wind_lt hx).1
 have hb:=Lh (fun w=>find_any 1 64 48 4 n w (by omega) hn (by omega) (by omega))
 have hw:=Lh (fun w=>find_any 4096 4096 4096 4 n w (by omega) hn (by omega) (by omega))
 have hr:=Lh (fun w=>find_any (4096*k+4097) 17 16 8 n w (by omega) hn (by omega) (by omega))
 have hbk:=Lh books_any
 have hwk:=Lh windows_any
 have hrk:=Lh (fun w=>tregions_any k w hk)
 rw [show fnd 4096 4096 4096 4 n=some (k,q) from hx,show spotV (some (k,q))=spV (k:Int) (q:Int) true from rfl]at hw
 rw [show fnd 1 64 48 4 n=bookO n from rfl,spotV_eq]at hb
 rw [show fnd (4096*k+4097) 17 16 8 n=regiO n by unfold regiO;rw [hx],spotV_eq]at hr
 rw [lookV,hx]
 rw [show sA (some (k,q))=k from rfl,show sB (some (k,q))=q from rfl,show(some (k,q):Option (Nat × Nat)).isSome=true from rfl]
 obtain⟨a,ha⟩:=Nm (sA (bookO n))
 obtain⟨b,hb'⟩:∃b,b=sB (bookO n):=⟨_,rfl⟩
 obtain⟨c,hc⟩:=Nm ((bookO n).isSome)
 obtain⟨g,hg⟩:∃a,a=sA (regiO n):=⟨_,rfl⟩
 obtain⟨h,hh⟩:∃b,b=sB (regiO n):=⟨_,rfl⟩
 obtain⟨i,hi⟩:∃c,c=(regiO n).isSome:=⟨_,rfl⟩
 obtain⟨f,hf⟩:=Nm (4096*k+4097)
 rw [←ha,←hb',←hc]at hb ⊢
 rw [←hg,←hh,←hi]at hr ⊢
 rw [←hf]at hr hrk
 clear ha hb' hc hx hn hg hh hi hf hk
 go_enter Tryz.func151,Tryz.ntmps151
 go_wp2_with fail
 refine(hbk.out _).mono ?_
 rintro e w1 ⟨rfl,hb1⟩
 have B1:Below w.heap.size w w1:=(below1 _ _).trans (hb1.mono (by simp))
 have R1:Row w1 w.heap.size 226 (lkC 0 0 false 0 0 false 0 0 false):=(Row.new w 226 (lkC 0 0 false 0 0 false 0 0 false)).below hb1
 clear hb1
 go_wp2_with fail
 refine(hb.out _).mono ?_
 rintro e w2 ⟨rfl,hb2⟩
 have B2:=B1.trans (hb2.mono B1.size)
 have R2:=R1.below hb2
 clear B1 R1 hb2
 go_wp2_with fail
 refine(hwk.out _).mono ?_
 rintro e w3 ⟨rfl,hb3⟩
 have B3:=B2.trans (hb3.mono B2.size)
 have R3:=R2.below hb3
 clear B2 R2 hb3
 go_wp2_with fail
 refine(hw.out _).mono ?_
 rintro e w4 ⟨rfl,hb4⟩
 have B4:=B3.trans (hb4.mono B3.size)
 have R4:=R3.below hb4
 clear B3 R3 hb4
 have hlt:=R4.lt
 obtain⟨w5,hw5⟩:=Nm (w4.alloc (.cells #[.int .i64 (a:Int),.int .i64 (b:Int),.bool c,.int .i64 (k:Int),.int .i64 (q:Int),.bool true,.int .i64 0,.int .i64 0,.bool false] 226))
 have B5:Below w.heap.size w w5:=by rw [hw5];exact B4.alloc B4.size _
 have R5:Row w5 w.heap.size 226 (lkC 0 0 false 0 0 false 0 0 false):=by rw [hw5];exact R4.below (below1 _ _)
 have L5:Row w5 w4.heap.size 226 [.int .i64 (a:Int),.int .i64 (b:Int),.bool c,.int .i64 (k:Int),.int .i64 (q:Int),.bool true,.int .i64 0,.int .i64 0,.bool false]:=by rw [hw5];exact Row.new _ _ _
 have z5:w5.heap.size=w4.heap.size+1:=by rw [hw5];simp
 have HLT:=Lh hlt
 clear hlt
 go_wp2_with fail
 refine(hrk.out _).mono ?_
 rintro e w6 ⟨rfl,hb6⟩
 rw [←hw5]at hb6
 have B6:=B5.trans (hb6.mono B5.size)
 have R6:=R5.below hb6
 have L6:=L5.below hb6
 clear B5 R5 L5 hb6 hw5 B4 R4
 go_wp2_with fail
 refine(hr.out _).mono ?_
 rintro e w7 ⟨rfl,hb7⟩
 have B7:=B6.trans (hb7.mono B6.size)
 have R7:=R6.below hb7
 have L7:=L6.below hb7
 clear B6 R6 L6 hb7
 have p0:w7.cell? ⟨w4.heap.size,0,none⟩=_:=L7.cell 0
 have p1:w7.cell? ⟨w4.heap.size,1,none⟩=_:=L7.cell 1
 have p2:w7.cell? ⟨w4.heap.size,2,none⟩=_:=L7.cell 2
 have p3:w7.cell? ⟨w4.heap.size,3,none⟩=_:=L7.cell 3
 have p4:w7.cell? ⟨w4.heap.size,4,none⟩=_:=L7.cell 4
 have p5:w7.cell? ⟨w4.heap.size,5,none⟩=_:=L7.cell 5
 have p6:w7.cell? ⟨w4.heap.size,6,none⟩=_:=L7.cell 6
 have p7:w7.cell? ⟨w4.heap.size,7,none⟩=_:=L7.cell 7
 have p8:w7.cell? ⟨w4.heap.size,8,none⟩=_:=L7.cell 8
 have o0:w7.frozen? ⟨w4.heap.size,0,none⟩=false:=L7.frozen 0
 have o1:w7.frozen? ⟨w4.heap.size,1,none⟩=false:=L7.frozen 1
 have o2:w7.frozen? ⟨w4.heap.size,2,none⟩=false:=L7.frozen 2
 have o3:w7.frozen? ⟨w4.heap.size,3,none⟩=false:=L7.frozen 3
 have o4:w7.frozen? ⟨w4.heap.size,4,none⟩=false:=L7.frozen 4
 have o5:w7.frozen? ⟨w4.heap.size,5,none⟩=false:=L7.frozen 5
 have o6:w7.frozen? ⟨w4.heap.size,6,none⟩=false:=L7.frozen 6
 have o7:w7.frozen? ⟨w4.heap.size,7,none⟩=false:=L7.frozen 7
 have o8:w7.frozen? ⟨w4.heap.size,8,none⟩=false:=L7.frozen 8
 have c0:w7.cell? ⟨w.heap.size,0,none⟩=_:=R7.cell 0
 have c1:w7.cell? ⟨w.heap.size,1,none⟩=_:=R7.cell 1
 have c2:w7.cell? ⟨w.heap.size,2,none⟩=_:=R7.cell 2
 have c3:w7.cell? ⟨w.heap.size,3,none⟩=_:=R7.cell 3
 have c4:w7.cell? ⟨w.heap.size,4,none⟩=_:=R7.cell 4
 have c5:w7.cell? ⟨w.heap.size,5,none⟩=_:=R7.cell 5
 have c6:w7.cell? ⟨w.heap.size,6,none⟩=_:=R7.cell 6
 have c7:w7.cell? ⟨w.heap.size,7,none⟩=_:=R7.cell 7
 have c8:w7.cell? ⟨w.heap.size,8,none⟩=_:=R7.cell 8
 have f0:w7.frozen? ⟨w.heap.size,0,none⟩=false:=R7.frozen 0
 have f1:w7.frozen? ⟨w.heap.size,1,none⟩=false:=R7.frozen 1
 have f2:w7.frozen? ⟨w.heap.size,2,none⟩=false:=R7.frozen 2
 have f3:w7.frozen? ⟨w.heap.size,3,none⟩=false:=R7.frozen 3
 have f4:w7.frozen? ⟨w.heap.size,4,none⟩=false:=R7.frozen 4
 have f5:w7.frozen? ⟨w.heap.size,5,none⟩=false:=R7.frozen 5
 have f6:w7.frozen? ⟨w.heap.size,6,none⟩=false:=R7.frozen 6
 have f7:w7.frozen? ⟨w.heap.size,7,none⟩=false:=R7.frozen 7
 have f8:w7.frozen? ⟨w.heap.size,8,none⟩=false:=R7.frozen 8
 have hw4lt:=HLT.out
 have hne:¬w4.heap.size=w.heap.size:=by omega
 have hne2:¬w.heap.size=w4.heap.size:=by omega
 have HR:=Lh R7
 have HL:=Lh L7
 have HB:=Lh B7
 have HN:=Lh hw4lt
 clear B7 R7 L7 hw4lt HLT z5
 go_wp2
 obtain⟨V,hV⟩:=Nm (((w7.setCell ⟨w4.heap.size,6,none⟩ (.int .i64 (g:Int))).setCell ⟨w4.heap.size,7,none⟩ (.int .i64 (h:Int))).setCell ⟨w4.heap.size,8,none⟩ (.bool i))
 have hRV:Row V w.heap.size 226 (lkC 0 0 false 0 0 false 0 0 false):=by rw [hV];exact HR.out.same ((heap_set hne2).trans ((heap_set hne2).trans (heap_set hne2)))
 have hBV:Below w.heap.size w V:=by rw [hV];exact((HB.out.setCell (p:=⟨w4.heap.size,6,none⟩) (Nat.le_of_lt HN.out) _).setCell (p:=⟨w4.heap.size,7,none⟩) (Nat.le_of_lt HN.out) _).setCell (p:=⟨w4.heap.size,8,none⟩) (Nat.le_of_lt HN.out) _
 rw [←hV]
 have R6:=row_set9 (.int .i64 (a:Int)) (.int .i64 (b:Int)) (.bool c) (.int .i64 (k:Int)) (.int .i64 (q:Int)) (.bool true) (.int .i64 (g:Int)) (.int .i64 (h:Int)) (.bool i) hRV
 have B6:=below_set9 (b:=w.heap.size) (.int .i64 (a:Int)) (.int .i64 (b:Int)) (.bool c) (.int .i64 (k:Int)) (.int .i64 (q:Int)) (.bool true) (.int .i64 (g:Int)) (.int .i64 (h:Int)) (.bool i) hBV Lr
 obtain⟨W,hW⟩:=Nm ((((((((((V.setCell ⟨w.heap.size,0,none⟩ (.int .i64 (a:Int))).setCell ⟨w.heap.size,1,none⟩ (.int .i64 (b:Int))).setCell ⟨w.heap.size,2,none⟩ (.bool c)).setCell ⟨w.heap.size,3,none⟩ (.int .i64 (k:Int))).setCell ⟨w.heap.size,4,none⟩ (.int .i64 (q:Int))).setCell ⟨w.heap.size,5,none⟩ (.bool true)).setCell ⟨w.heap.size,6,none⟩ (.int .i64 (g:Int))).setCell ⟨w.heap.size,7,none⟩ (.int .i64 (h:Int))).setCell ⟨w.heap.size,8,none⟩ (.bool i)))
 rw [←hW]at R6 B6 ⊢
 clear HR HL HB HN hW hV hRV hBV
 have d0:W.cell? ⟨w.heap.size,0,none⟩=_:=R6.cell 0
 have d1:W.cell? ⟨w.heap.size,1,none⟩=_:=R6.cell 1
 have d2:W.cell? ⟨w.heap.size,2,none⟩=_:=R6.cell 2
 have d3:W.cell? ⟨w.heap.size,3,none⟩=_:=R6.cell 3
 have d4:W.cell? ⟨w.heap.size,4,none⟩=_:=R6.cell 4
 have d5:W.cell? ⟨w.heap.size,5,none⟩=_:=R6.cell 5
 have d6:W.cell? ⟨w.heap.size,6,none⟩=_:=R6.cell 6
 have d7:W.cell? ⟨w.heap.size,7,none⟩=_:=R6.cell 7
 have d8:W.cell? ⟨w.heap.size,8,none⟩=_:=R6.cell 8
 exact bodyPost_ret (v:=lkV a b c k q true g h i) (by simp [results,Tryz.results151,go_sem,d0,d1,d2,d3,d4,d5,d6,d7,d8]) rfl ⟨rfl,B6⟩
theorem lookAt_any (n:Nat) (w:World) (hn:n < 1000000):Calls Tryz.prog 151 #[.int .i64 (n:Int)] w fun e w'=>e= .returned (lookV n)∧Below w.heap.size w w':=by
 rcases h:windO n with _ | ⟨k,q⟩
 ·exact lookAt_none n w hn h
 ·exact lookAt_some n k q w hn h
abbrev siV (a b c d:Int):Value:= .agg #[.int .i64 a,.int .i64 b,.int .i64 c,.int .i64 d]
section
variable (a b:Int) (c:Bool) (d e:Int) (f:Bool) (g h:Int) (i:Bool) (w:World)
theorem fits1_any:Calls Tryz.prog 222 #[lkV a b c d e f g h i] w fun en w'=>en= .returned (.bool c)∧Below w.heap.size w w':=by
 go_enter Tryz.func222,Tryz.ntmps222
 go_wp2
 go_ret
 exact⟨rfl,below1 _ _⟩
theorem fits3_any:Calls Tryz.prog 224 #[lkV a b c d e f g h i] w fun en w'=>en= .returned (.bool i)∧Below w.heap.size w w':=by
 go_enter Tryz.func224,Tryz.ntmps224
 go_wp2
 go_ret
 exact⟨rfl,below1 _ _⟩
theorem fits7_any:Calls Tryz.prog 229 #[lkV a b c d e f g h i] w fun en w'=>en= .returned (.bool f)∧Below w.heap.size w w':=by
 go_enter Tryz.func229,Tryz.ntmps229
 go_wp2
 go_ret
 exact⟨rfl,below1 _ _⟩
theorem fits5_any:Calls Tryz.prog 226 #[lkV a b c d e f g h i] w fun en w'=>en= .returned (.bool (f && decide (256≤e)))∧Below w.heap.size w w':=by
 cases f
 ·go_enter Tryz.func226,Tryz.ntmps226
  go_wp2
  go_ret
  exact⟨rfl,below1 _ _⟩
 ·obtain⟨q,hq⟩:∃q,decide (256≤e)=q:=⟨_,rfl⟩
  rw [hq]
  go_enter Tryz.func226,Tryz.ntmps226
  go_wp2
  go_ret
  exact⟨rfl,below1 _ _⟩
theorem site2_any:Calls Tryz.prog 223 #[lkV a b c d e f g h i] w fun en w'=>en= .returned (siV 1 a 0 b)∧Below w.heap.size w w':=by
 go_enter Tryz.func223,Tryz.ntmps223
 go_wp2
 exact bodyPost_ret (v:=siV 1 a 0 b) (by simp [results,Tryz.results223,go_sem]) rfl ⟨rfl,below2 _ _ _⟩
theorem site4_any:Calls Tryz.prog 225 #[lkV a b c d e f g h i] w fun en w'=>en= .returned (siV 2 d g h)∧Below w.heap.size w w':=by
 go_enter Tryz.func225,Tryz.ntmps225
 go_wp2
 exact bodyPost_ret (v:=siV 2 d g h) (by simp [results,Tryz.results225,go_sem]) rfl ⟨rfl,below2 _ _ _⟩
theorem inW_any (k:Int):Calls Tryz.prog 228 #[lkV a b c d e f g h i,.int .i64 k] w fun en w'=>en= .returned (siV k d 0 e)∧Below w.heap.size w w':=by
 go_enter Tryz.func228,Tryz.ntmps228
 go_wp2
 exact bodyPost_ret (v:=siV k d 0 e) (by simp [results,Tryz.results228,go_sem]) rfl ⟨rfl,below2 _ _ _⟩
theorem site6_any:Calls Tryz.prog 227 #[lkV a b c d e f g h i] w fun en w'=>en= .returned (siV 3 d 0 e)∧Below w.heap.size w w':=by
 have hi:=Lh (fun w=>inW_any a b c d e f g h i w 3)
 go_enter Tryz.func227,Tryz.ntmps227
 go_wp2_with fail
 refine(hi.out _).mono ?_
 rintro en w1 ⟨rfl,hb1⟩
 have hz:=hb1.size
 simp at hz
 have hR:Row w1 (w.heap.size+1) 89 [.int .i64 0,.int .i64 0,.int .i64 0,.int .i64 0]:=(Row.new_at _ _ _ (by simp)).below hb1
 have c0:w1.cell? ⟨w.heap.size+1,0,none⟩=_:=hR.cell 0
 have c1:w1.cell? ⟨w.heap.size+1,1,none⟩=_:=hR.cell 1
 have c2:w1.cell? ⟨w.heap.size+1,2,none⟩=_:=hR.cell 2
 have c3:w1.cell? ⟨w.heap.size+1,3,none⟩=_:=hR.cell 3
 have f0:=hR.frozen 0
 have f1:=hR.frozen 1
 have f2:=hR.frozen 2
 have f3:=hR.frozen 3
 have HR:=Lh hR
 have HB:=Lh (show Below w.heap.size w w1 from(below2 _ _ _).trans (hb1.mono (by simp;omega)))
 clear hR hb1 hz
 go_wp2
 have R6:=row_set4 (.int .i64 3) (.int .i64 d) (.int .i64 0) (.int .i64 e) HR.out
 have B6:=below_set4 (b:=w.heap.size+1) (.int .i64 3) (.int .i64 d) (.int .i64 0) (.int .i64 e) HB.out (by omega)
 clear c0 c1 c2 c3 f0 f1 f2 f3
 have d0:=R6.cell 0
 have d1:=R6.cell 1
 have d2:=R6.cell 2
 have d3:=R6.cell 3
 exact bodyPost_ret (v:=siV 3 d 0 e) (by simp [results,Tryz.results227,go_sem,d0,d1,d2,d3]) rfl ⟨rfl,B6⟩
theorem site8_any:Calls Tryz.prog 230 #[lkV a b c d e f g h i] w fun en w'=>en= .returned (siV 4 d 0 e)∧Below w.heap.size w w':=by
 have hi:=Lh (fun w=>inW_any a b c d e f g h i w 4)
 go_enter Tryz.func230,Tryz.ntmps230
 go_wp2_with fail
 refine(hi.out _).mono ?_
 rintro en w1 ⟨rfl,hb1⟩
 have hz:=hb1.size
 simp at hz
 have hR:Row w1 (w.heap.size+1) 89 [.int .i64 0,.int .i64 0,.int .i64 0,.int .i64 0]:=(Row.new_at _ _ _ (by simp)).below hb1
 have c0:w1.cell? ⟨w.heap.size+1,0,none⟩=_:=hR.cell 0
 have c1:w1.cell? ⟨w.heap.size+1,1,none⟩=_:=hR.cell 1
 have c2:w1.cell? ⟨w.heap.size+1,2,none⟩=_:=hR.cell 2
 have c3:w1.cell? ⟨w.heap.size+1,3,none⟩=_:=hR.cell 3
 have f0:=hR.frozen 0
 have f1:=hR.frozen 1
 have f2:=hR.frozen 2
 have f3:=hR.frozen 3
 have HR:=Lh hR
 have HB:=Lh (show Below w.heap.size w w1 from(below2 _ _ _).trans (hb1.mono (by simp;omega)))
 clear hR hb1 hz
 go_wp2
 have R6:=row_set4 (.int .i64 4) (.int .i64 d) (.int .i64 0) (.int .i64 e) HR.out
 have B6:=below_set4 (b:=w.heap.size+1) (.int .i64 4) (.int .i64 d) (.int .i64 0) (.int .i64 e) HB.out (by omega)
 clear c0 c1 c2 c3 f0 f1 f2 f3
 have d0:=R6.cell 0
 have d1:=R6.cell 1
 have d2:=R6.cell 2
 have d3:=R6.cell 3
 exact bodyPost_ret (v:=siV 4 d 0 e) (by simp [results,Tryz.results230,go_sem,d0,d1,d2,d3]) rfl ⟨rfl,B6⟩
end
theorem address_yes (p q:Nat) (w:World) (h:p < 65536) (h2:q < 256):Calls Tryz.prog 71 #[.int .i64 (p:Int),.int .i64 (q:Int)] w fun e w'=>e= .returned (.tuple #[.int .u32 ((256*p+q:Nat):Int),.int .i64 0])∧Below w.heap.size w w':=by
 have hb:=Lh (fun w=>below_any (p:Int) 65536 w)
 rw [show isB (p:Int) 65536=true from isB_yes (n:=65536) h]at hb
 have hb2:=Lh (fun w=>below_any (q:Int) 256 w)
 rw [show isB (q:Int) 256=true from isB_yes (n:=256) h2]at hb2
 have hs:=Lh (fun g w hr=>sum_any ((256*p:Nat):Int) (q:Int) ((256*p+q:Nat):Int) g w hr (by omega) ((wrapI _ (by omega) (by omega)).trans (by omega)))
 have e0:IntKind.i64.wrap ((p:Int)*256)=((256*p:Nat):Int):=(wrapI _ (by omega) (by omega)).trans (by omega)
 have e1:IntKind.u32.wrap ((256*p+q:Nat):Int)=((256*p+q:Nat):Int):=by rw [IntKind.wrap_u32];omega
 obtain⟨x,hx⟩:=Nm (256*p+q)
 obtain⟨y,hy⟩:=Nm (256*p)
 rw [←hy]at e0
 rw [←hx]at e1 ⊢
 rw [←hx,←hy]at hs
 clear h h2 hx hy
 go_enter Tryz.func71,Tryz.ntmps71
 go_wp2_with fail
 refine wp_scope_jump 1 fun R hR hG=> ?_
 go_wp2_with fail
 refine(hb.out _).mono ?_
 rintro e w1 ⟨rfl,rfl⟩
 go_wp2_with fail
 refine(hb2.out _).mono ?_
 rintro e w1 ⟨rfl,rfl⟩
 go_wp2_with fail
 refine(hs.out _ _ (Row.new_at _ 3 [.int .i64 (y:Int),.int .i64 (q:Int)] (by simp))).mono ?_
 rintro e w2 ⟨rfl,rfl⟩
 go_wp2
 refine hR.out _ _ _ _ (by simp) ?_
 go_ret2
 exact⟨rfl,below1 _ _⟩
theorem split_no (n:Nat) (w:World) (h:16777216≤n):Calls Tryz.prog 33 #[.int .u32 (n:Int)] w fun e w'=>e= .returned (.tuple #[.int .i64 0,.int .i64 0,.int .i64 4])∧Below w.heap.size w w':=by
 have e0:decide ((16777216:Int)≤(n:Int))=true:=Dt (by omega)
 clear h
 go_enter Tryz.func33,Tryz.ntmps33
 go_wp2_with fail
 refine wp_scope_jump 1 fun R hR hG=> ?_
 go_wp2_with fail
 refine wp_goto (hG.out _ _ _ _ _ rfl ?_)
 go_wp2
 refine hR.out _ _ _ _ (by simp) ?_
 go_ret3
 exact⟨rfl,Br⟩
theorem split_yes (n:Nat) (w:World) (h:n < 16777216):Calls Tryz.prog 33 #[.int .u32 (n:Int)] w fun e w'=>e= .returned (.tuple #[.int .i64 ((n / 256:Nat):Int),.int .i64 ((n % 256:Nat):Int),.int .i64 0])∧Below w.heap.size w w':=by
 have e0:decide ((16777216:Int)≤(n:Int))=false:=Df (by omega)
 have e1:(n:Int) / 256=((n / 256:Nat):Int):=by omega
 have e2:(n:Int) % 256=((n % 256:Nat):Int):=by omega
 obtain⟨x,hx⟩:=Nm (n / 256)
 obtain⟨y,hy⟩:=Nm (n % 256)
 rw [←hx]at e1 ⊢
 rw [←hy]at e2 ⊢
 have e3:IntKind.i64.wrap (x:Int)=(x:Int):=wrapI _ (by omega) (by omega)
 have e4:IntKind.i64.wrap (y:Int)=(y:Int):=wrapI _ (by omega) (by omega)
 have e5:IntKind.u32.wrap (x:Int)=(x:Int):=by rw [IntKind.wrap_u32];omega
 have e6:IntKind.u32.wrap (y:Int)=(y:Int):=by rw [IntKind.wrap_u32];omega
 clear h hx hy
 go_enter Tryz.func33,Tryz.ntmps33
 go_wp2_with fail
 refine wp_scope_jump 1 fun R hR hG=> ?_
 go_wp2_with fail
 refine hR.out _ _ _ _ (by simp) ?_
 go_ret3
 exact⟨rfl,Br⟩
end Go.Proofs.YtfcfbcjiijfjgaaGreatDoor.Wn
namespace Go.Proofs.YtfcfbcjiijfjgaaGreatDoor.Me
open Go.RowKit Go.Shelf
attribute [local go_sem] Oper.semAt_some
def isB (n b:Int):Bool:=decide (0≤n) && decide (n < b)
theorem isB_yes {k n:Nat} (h:k < n):isB (k:Int) (n:Int)=true:=by simp [isB];omega
def pays:List Nat:= [16,32,48,64,96,128,192,256]
def pay (k:Nat):Nat:=pays.getD k 0
theorem pay_cases {k:Nat} (h:k < 8):(k=0∧pay k=16)∨(k=1∧pay k=32)∨(k=2∧pay k=48)∨(k=3∧pay k=64)∨(k=4∧pay k=96)∨(k=5∧pay k=128)∨(k=6∧pay k=192)∨(k=7∧pay k=256):=by
 rcases(show k=0∨k=1∨k=2∨k=3∨k=4∨k=5∨k=6∨k=7 by omega) with rfl | rfl | rfl | rfl | rfl | rfl | rfl | rfl <;> simp [pay,pays]
theorem pay_bound {k:Nat} (h:k < 8):16≤pay k∧pay k≤256∧pay k % 16=0:=by
 rcases pay_cases h with h | h | h | h | h | h | h | h <;> omega
theorem rslot_any (n:Int) (w:World):Calls Tryz.prog 20 #[.int .i64 n] w fun e w'=>e= .returned (.bool (isB n 4))∧w=w':=by
 by_cases h0:0≤n
 ·have e0:decide (0≤n)=true:=decide_eq_true h0
  obtain⟨c,hc⟩:∃c,decide (n < 4)=c:=⟨_,rfl⟩
  rw [isB,e0,hc]
  go_enter Tryz.func20,Tryz.ntmps20
  go_wp2
  go_ret
  exact⟨rfl,rfl⟩
 ·have e0:decide (0≤n)=false:=decide_eq_false h0
  rw [isB,e0]
  go_enter Tryz.func20,Tryz.ntmps20
  go_wp2
  go_ret
  exact⟨rfl,rfl⟩
theorem rclass_any (n:Int) (w:World):Calls Tryz.prog 66 #[.int .i64 n] w fun e w'=>e= .returned (.bool (isB n 8))∧w=w':=by
 by_cases h0:0≤n
 ·have e0:decide (0≤n)=true:=decide_eq_true h0
  obtain⟨c,hc⟩:∃c,decide (n < 8)=c:=⟨_,rfl⟩
  rw [isB,e0,hc]
  go_enter Tryz.func66,Tryz.ntmps66
  go_wp2
  go_ret
  exact⟨rfl,rfl⟩
 ·have e0:decide (0≤n)=false:=decide_eq_false h0
  rw [isB,e0]
  go_enter Tryz.func66,Tryz.ntmps66
  go_wp2
  go_ret
  exact⟨rfl,rfl⟩
theorem refpay_yes (k:Nat) (w:World) (hk:k < 8):Calls Tryz.prog 212 #[.int .i64 (k:Int)] w fun e w'=>e= .returned (.int .i64 (pay k:Int))∧w=w':=by
 rcases(show k=0∨k=1∨k=2∨k=3∨k=4∨k=5∨k=6∨k=7 by omega) with rfl | rfl | rfl | rfl | rfl | rfl | rfl | rfl
 all_goals
  go_enter Tryz.func212,Tryz.ntmps212
  go_wp2
  go_ret
  exact⟨rfl,rfl⟩
theorem refslot_yes (k:Nat) (w:World) (hk:k < 8):Calls Tryz.prog 137 #[.int .i64 (k:Int)] w fun e w'=>e= .returned (.int .i64 ((pay k+32:Nat):Int))∧w=w':=by
 have hr:=Lh (fun w=>refpay_yes k w hk)
 have hp:=(pay_bound hk).2.1
 obtain⟨p,hpp⟩:=Nm (pay k)
 rw [←hpp]at hr hp ⊢
 have h1:IntKind.i64.wrap (16+(p:Int))=((16+p:Nat):Int):=wrapI ((16+p:Nat):Int) (by omega) (by omega)
 have h2:IntKind.i64.wrap (((16+p:Nat):Int)+16)=((p+32:Nat):Int):=by rw [wrapI _ (by omega) (by omega)];omega
 obtain⟨a,ha⟩:=Nm (16+p)
 obtain⟨b,hb⟩:=Nm (p+32)
 rw [←ha]at h1 h2
 rw [←hb]at h2 ⊢
 clear ha hb hp hpp hk
 go_enter Tryz.func137,Tryz.ntmps137
 go_wp2_with fail
 refine(hr.out _).mono ?_
 rintro e w1 ⟨rfl,rfl⟩
 go_wp2
 go_ret
 exact⟨rfl,rfl⟩
theorem refcount_yes (k:Nat) (w:World) (hk:k < 8):Calls Tryz.prog 62 #[.int .i64 (k:Int)] w fun e w'=>e= .returned (.int .i64 ((4096 / (pay k+32):Nat):Int))∧w=w':=by
 have hr:=Lh (fun w=>refslot_yes k w hk)
 have hp:=pay_bound hk
 obtain⟨p,hpp⟩:=Nm (pay k+32)
 have hp1:48≤p∧p≤288:=by omega
 rw [←hpp]at hr ⊢
 have HP:=Lh hp1
 clear hpp hp hp1 hk
 go_enter Tryz.func62,Tryz.ntmps62
 go_wp2_with fail
 go_loop [3] (fun i=>∃j:Nat,i= .int .i64 (j:Int)∧Hid (j*p≤4096)) (fun i=>4096 - (intOf i).toNat)
 case atStart=>exact⟨0,rfl,Lh (by omega)⟩
 case round=>
  obtain⟨j,rfl,H⟩:=hrel
  have hj:j≤85:=by
   have h1:=H.out
   have h2:=HP.out
   have h3:j*48≤j*p:=Nat.mul_le_mul_left _ h2.1
   omega
  have w1:IntKind.i64.wrap ((j:Int)+1)=((j+1:Nat):Int):=wrapI ((j+1:Nat):Int) (by omega) (by omega)
  have hm:(j+1)*p≤86*288:=Nat.mul_le_mul (by omega) HP.out.2
  have w2:IntKind.i64.wrap (((j+1:Nat):Int)*(p:Int))=(((j+1)*p:Nat):Int):=by
   rw [←Int.natCast_mul];exact wrapI _ (by omega) (by omega)
  obtain⟨m,hmm⟩:=Nm ((j+1)*p)
  rw [←hmm]at w2 hm
  have HM:=Lh hmm
  have hj1:j < 4096:=by omega
  obtain⟨j1,hj2⟩:=Nm (j+1)
  rw [←hj2]at w1 w2
  have HJ:=Lh hj2
  clear hmm hj2 hj
  by_cases hle:m≤4096
  ·have hl:decide (m≤4096)=true:=decide_eq_true hle
   have hl2:decide ((m:Int)≤4096)=true:=Dt (by omega)
   have HL:=Lh hle
   clear hle hm
   go_wp2_with fail
   refine(hr.out _).mono ?_
   rintro e w' ⟨rfl,rfl⟩
   go_wp2
   go_round
   case rel=>exact⟨j1,by go_num,Lh (by rw [HJ.out,←HM.out];exact HL.out)⟩
   case measure=>have:=HJ.out;simp [intOf];omega
  ·have hl:decide (m≤4096)=false:=decide_eq_false hle
   have hl2:decide ((m:Int)≤4096)=false:=Df (by omega)
   have HL:=Lh hle
   clear hle hm
   go_wp2_with fail
   refine(hr.out _).mono ?_
   rintro e w' ⟨rfl,rfl⟩
   go_wp2
   go_ret
   refine⟨?_,rfl⟩
   have h1:=H.out
   have h2:=HM.out
   have h3:=HL.out
   have h4:=HP.out
   have:4096 / p=j:=by
    rw [Nat.div_eq_iff (by omega)]
    rw [h2,Nat.add_mul]at h3
    omega
   rw [this]
   rfl
def cnt (c:Nat):Nat:=4096 / (pay c+32)
theorem cnt_cases {c:Nat} (h:c < 8):(pay c=16∧cnt c=85)∨(pay c=32∧cnt c=64)∨(pay c=48∧cnt c=51)∨(pay c=64∧cnt c=42)∨(pay c=96∧cnt c=32)∨(pay c=128∧cnt c=25)∨(pay c=192∧cnt c=18)∨(pay c=256∧cnt c=14):=by
 unfold cnt
 rcases pay_cases h with⟨_,h⟩ | ⟨_,h⟩ | ⟨_,h⟩ | ⟨_,h⟩ | ⟨_,h⟩ | ⟨_,h⟩ | ⟨_,h⟩ | ⟨_,h⟩ <;> rw [h] <;> omega
theorem cnt_le {c:Nat} (h:c < 8):1≤cnt c∧cnt c≤85∧cnt c*(pay c+32)≤4096:=by
 rcases cnt_cases h with h | h | h | h | h | h | h | h <;> rw [h.1,h.2] <;> omega
def okS (s c i:Nat):Prop:=s < 4∧c < 8∧i < cnt c
def atS (s c i:Nat):Nat:=256*(4096*s+4097+17*c)+i*(pay c+32)+16
theorem off_lt {c i:Nat} (hc:c < 8) (hi:i < cnt c):i*(pay c+32)+48≤4096:=by
 have h1:=(cnt_le hc).2.2
 have h2:=(pay_bound hc).1
 have h3:(i+1)*(pay c+32)≤cnt c*(pay c+32):=Nat.mul_le_mul_right _ hi
 rw [Nat.succ_mul]at h3
 omega
theorem atS_inj {s c i s' c' i':Nat} (h:okS s c i) (h':okS s' c' i') (e:atS s c i=atS s' c' i'):s=s'∧c=c'∧i=i':=by
 have h1:=off_lt h.2.1 h.2.2
 have h2:=off_lt h'.2.1 h'.2.2
 obtain⟨a1,a2,_⟩:=h
 obtain⟨b1,b2,_⟩:=h'
 unfold atS at e
 obtain⟨d,hd⟩:=Nm (i*(pay c+32))
 obtain⟨d',hd'⟩:∃d',d'=i'*(pay c'+32):=⟨_,rfl⟩
 rw [←hd]at h1 e
 rw [←hd']at h2 e
 have hs:s=s':=by omega
 subst hs
 have hc:c=c':=by omega
 subst hc
 have he:d=d':=by omega
 rw [hd,hd']at he
 exact⟨rfl,rfl,Nat.eq_of_mul_eq_mul_right (by omega) he⟩
open Classical in
noncomputable def findS (a:Nat):Option (Nat × Nat × Nat):=if h:∃p:Nat × Nat × Nat,okS p.1 p.2.1 p.2.2∧atS p.1 p.2.1 p.2.2=a then some h.choose else none
theorem findS_some {s c i a:Nat} (h:okS s c i) (e:atS s c i=a):findS a=some (s,c,i):=by
 have hx:∃p:Nat × Nat × Nat,okS p.1 p.2.1 p.2.2∧atS p.1 p.2.1 p.2.2=a:=⟨(s,c,i),h,e⟩
 unfold findS
 rw [dif_pos hx]
 obtain⟨h1,h2⟩:=hx.choose_spec
 obtain⟨e1,e2,e3⟩:=atS_inj h1 h (h2.trans e.symm)
 congr 1
 exact Prod.ext e1 (Prod.ext e2 e3)
theorem findS_none {a:Nat} (h:∀s c i,okS s c i→atS s c i≠a):findS a=none:=by
 unfold findS
 rw [dif_neg]
 rintro⟨p,h1,h2⟩
 exact h _ _ _ h1 h2
theorem find_odd:findS 1048849=none:=by
 refine findS_none fun s c i h e=> ?_
 obtain⟨h1,h2,h3⟩:=h
 unfold atS at e
 rcases cnt_cases h2 with h | h | h | h | h | h | h | h <;> rw [h.1]at e <;> omega
theorem find_first:findS 1048848=some (0,0,0):=findS_some ⟨by omega,by omega,by have:=(cnt_le (c:=0) (by omega)).1;omega⟩ rfl
abbrev spV (s c i:Int):Value:= .agg #[.int .i64 s,.int .i64 c,.int .i64 i]
def asksS (s c i:Int):Int:=if isB s 4=true∧isB c 8=true then(if i < 0∨(cnt c.toNat:Int)≤i then 4 else 0) else 2
theorem num_any (z:Int) (w:World):Calls Tryz.prog 12 #[.int .i64 z] w fun e w'=>e= .returned (.int .i64 z)∧w=w':=by
 go_enter Tryz.func12,Tryz.ntmps12
 go_wp2_with fail
 go_ret
 exact⟨rfl,rfl⟩
theorem isB_nat {n:Int} {b:Nat} (h:isB n (b:Int)=true):∃k:Nat,n=(k:Int)∧k < b:=by
 unfold isB at h
 simp only [Bool.and_eq_true,decide_eq_true_eq]at h
 exact⟨n.toNat,by omega,by omega⟩
theorem asks_cases (s c i:Int):(isB s 4=false∧asksS s c i=2)∨(isB s 4=true∧isB c 8=false∧asksS s c i=2)∨(isB s 4=true∧isB c 8=true∧i < 0∧asksS s c i=4)∨
  (∃a k:Nat,s=(a:Int)∧c=(k:Int)∧a < 4∧k < 8∧((∃j:Nat,i=(j:Int)∧j < cnt k∧asksS s c i=0)∨((cnt k:Int)≤i∧asksS s c i=4))):=by
 unfold asksS
 cases hs:isB s 4
 ·exact .inl ⟨rfl,by rw [if_neg (by simp)]⟩
 ·cases hc:isB c 8
  ·exact .inr (.inl ⟨rfl,rfl,by rw [if_neg (by simp)]⟩)
  ·rw [if_pos ⟨rfl,rfl⟩]
   by_cases h0:i < 0
   ·exact .inr (.inr (.inl ⟨rfl,rfl,h0,by rw [if_pos (.inl h0)]⟩))
   ·obtain⟨a,rfl,ha⟩:=isB_nat (b:=4) hs
    obtain⟨k,rfl,hk⟩:=isB_nat (b:=8) hc
    refine .inr (.inr (.inr ⟨a,k,rfl,rfl,ha,hk,?_⟩))
    rw [Int.toNat_natCast]
    by_cases h1:(cnt k:Int)≤i
    ·exact .inr ⟨h1,by rw [if_pos (.inr h1)]⟩
    ·exact .inl ⟨i.toNat,by omega,by omega,by rw [if_neg (by omega)]⟩
theorem box3 (w:World) (x y z:Value) (t:TypeId):(w.alloc (.cells #[x,y,z] t)).cell? ⟨w.heap.size,0,none⟩=some x∧(w.alloc (.cells #[x,y,z] t)).cell? ⟨w.heap.size,1,none⟩=some y∧(w.alloc (.cells #[x,y,z] t)).cell? ⟨w.heap.size,2,none⟩=some z:=
 ⟨cell_alloc_new _ _ _ _,cell_alloc_new _ _ _ _,cell_alloc_new _ _ _ _⟩
theorem rasks_any (s c i:Int) (w:World):Calls Tryz.prog 63 #[spV s c i] w fun e w'=>e= .returned (.int .i64 (asksS s c i))∧Below w.heap.size w w':=by
 have h1:=Lh (fun V=>rslot_any s V)
 have h2:=Lh (fun V=>rclass_any c V)
 have HB:=Lh (below1 w (.cells #[.int .i64 s,.int .i64 c,.int .i64 i] 37))
 have HBD:=Lh (show Below w.heap.size w (w.alloc (.cells #[.int .i64 s,.int .i64 c,.int .i64 i] 37)).drew from(below1 w _).drew)
 obtain⟨b0,b1,b2⟩:=box3 w (.int .i64 s) (.int .i64 c) (.int .i64 i) 37
 have HSA:Hid (∀W,Below (w.heap.size+1) (w.alloc (.cells #[.int .i64 s,.int .i64 c,.int .i64 i] 37)).drew W→W.cell? ⟨w.heap.size,0,none⟩=some (.int .i64 s)∧W.cell? ⟨w.heap.size,1,none⟩=some (.int .i64 c)∧W.cell? ⟨w.heap.size,2,none⟩=some (.int .i64 i)):=Lh (fun W hW=>by
  obtain⟨b0,b1,b2⟩:=box3 w (.int .i64 s) (.int .i64 c) (.int .i64 i) 37
  exact⟨(hW.cell (p:=⟨w.heap.size,0,none⟩) (by show w.heap.size < _;omega)).trans b0,(hW.cell (p:=⟨w.heap.size,1,none⟩) (by show w.heap.size < _;omega)).trans b1,(hW.cell (p:=⟨w.heap.size,2,none⟩) (by show w.heap.size < _;omega)).trans b2⟩)
 obtain⟨E,hE⟩:=Nm (asksS s c i)
 have hcs:=asks_cases s c i
 rw [←hE]at hcs ⊢
 clear hE
 rcases hcs with⟨e1,e2⟩ | ⟨e1,e2,e3⟩ | ⟨e1,e2,e3,e4⟩ | ⟨a,k,rfl,rfl,ha,hk,hj⟩
 ·rw [e1]at h1
  subst e2
  clear e1
  go_enter Tryz.func63,Tryz.ntmps63
  go_wp2_with fail
  refine(h1.out _).mono ?_
  rintro e w1 ⟨rfl,rfl⟩
  go_wp2_with fail
  go_ret
  exact⟨rfl,HB.out⟩
 ·rw [e1]at h1
  rw [e2]at h2
  subst e3
  clear e1 e2
  go_enter Tryz.func63,Tryz.ntmps63
  go_wp2_with fail
  refine(h1.out _).mono ?_
  rintro e w1 ⟨rfl,rfl⟩
  go_wp2_with fail
  refine(h2.out _).mono ?_
  rintro e w1 ⟨rfl,rfl⟩
  go_wp2_with fail
  go_ret
  exact⟨rfl,HB.out⟩
 ·rw [e1]at h1
  rw [e2]at h2
  subst e4
  have d0:decide (i < 0)=true:=decide_eq_true e3
  clear e1 e2
  go_enter Tryz.func63,Tryz.ntmps63
  go_wp2_with fail
  refine(h1.out _).mono ?_
  rintro e w1 ⟨rfl,rfl⟩
  go_wp2_with fail
  refine(h2.out _).mono ?_
  rintro e w1 ⟨rfl,rfl⟩
  go_wp2_with fail
  refine wp_region_noPanic ?_
  refine wp_region_held_drew (S:=fun W=>W.cell? ⟨w.heap.size,0,none⟩=some (.int .i64 s)∧W.cell? ⟨w.heap.size,1,none⟩=some (.int .i64 c)∧W.cell? ⟨w.heap.size,2,none⟩=some (.int .i64 i)) (by kernel_rfl) (HSA.out _ Br) (fun hZ=> ?_)
  refine tkH 0 hZ ?_
  simp only [Act.put]
  refine tkH 1 hZ ?_
  simp only [Act.put]
  refine tkH 2 hZ ?_
  simp only [Act.put]
  refine tkH 3 hZ ?_
  simp only [Act.put]
  refine wpAnyH_take (i:=4) (v:=undef) rfl (by kernel_rfl) (by kernel_rfl) (by kernel_rfl) (fun _ _ _ h=>h) (Or.inr ⟨by kernel_rfl,rfl⟩) hZ ?_
  simp only [Act.put]
  refine wpAnyH_take (i:=5) (v:=undef) rfl (by kernel_rfl) (by kernel_rfl) (by kernel_rfl) (fun _ _ _ h=>h) (Or.inr ⟨by kernel_rfl,rfl⟩) hZ ?_
  simp only [Act.put]
  refine wpAnyH_take (i:=6) (v:=undef) rfl (by kernel_rfl) (by kernel_rfl) (by kernel_rfl) (fun _ _ _ h=>h) (Or.inr ⟨by kernel_rfl,rfl⟩) hZ ?_
  simp only [Act.put]
  refine wpAnyH_take (i:=7) (v:=undef) rfl (by kernel_rfl) (by kernel_rfl) (by kernel_rfl) (fun _ _ _ h=>h) (Or.inr ⟨by kernel_rfl,rfl⟩) hZ ?_
  simp only [Act.put]
  refine wpAnyH_take (i:=8) (v:=undef) rfl (by kernel_rfl) (by kernel_rfl) (by kernel_rfl) (fun _ _ _ h=>h) (Or.inr ⟨by kernel_rfl,rfl⟩) hZ ?_
  simp only [Act.put]
  refine wpAnyH_take (i:=9) (v:=undef) rfl (by kernel_rfl) (by kernel_rfl) (by kernel_rfl) (fun _ _ _ h=>h) (Or.inr ⟨by kernel_rfl,rfl⟩) hZ ?_
  simp only [Act.put]
  refine rdH 10 fun K hK=> ?_
  go_simp
  refine hK.out _ _ (HSA.out _ Br) (fun hZ=> ?_)
  clear hK K
  try simp only [Act.put]
  refine wpAnyH_done (by kernel_rfl) (NoPanic.normal ?_) _
  go_wp2
  go_ret
  exact⟨rfl,HBD.out⟩
 ·have i1:isB (a:Int) 4=true:=isB_yes (n:=4) ha
  have i2:isB (k:Int) 8=true:=isB_yes (n:=8) hk
  rw [i1]at h1
  rw [i2]at h2
  have h3:=Lh (fun V=>refcount_yes k V hk)
  have h3':(4096 / (pay k+32))=cnt k:=rfl
  rw [h3']at h3
  obtain⟨C,hC⟩:=Nm (cnt k)
  rw [←hC]at h3 hj
  clear hC h3' i1 i2 ha hk
  rcases hj with⟨j,rfl,h4,rfl⟩ | ⟨h4,rfl⟩
  ·have d0:decide ((j:Int) < 0)=false:=Df (by omega)
   have d1:decide ((C:Int)≤(j:Int))=false:=Df (by omega)
   have d2:¬C≤j:=by omega
   clear h4
   go_enter Tryz.func63,Tryz.ntmps63
   go_wp2_with fail
   refine(h1.out _).mono ?_
   rintro e w1 ⟨rfl,rfl⟩
   go_wp2_with fail
   refine(h2.out _).mono ?_
   rintro e w1 ⟨rfl,rfl⟩
   go_wp2_with fail
   go_region_held3 (fun W=>W.cell? ⟨w.heap.size,0,none⟩=some (.int .i64 (a:Int))∧W.cell? ⟨w.heap.size,1,none⟩=some (.int .i64 (k:Int))∧W.cell? ⟨w.heap.size,2,none⟩=some (.int .i64 (j:Int)))
    (first | exact HSA.out _ Br | exact HSA.out _ (by assumption) | (go_split_ands;exact HSA.out _ (by assumption)))
    (first | (go_at_call 62;refine(h3.out _).mono ?_;rintro e w2 ⟨rfl,rfl⟩))
   go_wp2
   go_ret
   exact⟨rfl,HBD.out⟩
  ·have d0:decide (i < 0)=false:=Df (by omega)
   have d1:decide ((C:Int)≤i)=true:=decide_eq_true h4
   clear h4
   go_enter Tryz.func63,Tryz.ntmps63
   go_wp2_with fail
   refine(h1.out _).mono ?_
   rintro e w1 ⟨rfl,rfl⟩
   go_wp2_with fail
   refine(h2.out _).mono ?_
   rintro e w1 ⟨rfl,rfl⟩
   go_wp2_with fail
   go_region_held3 (fun W=>W.cell? ⟨w.heap.size,0,none⟩=some (.int .i64 (a:Int))∧W.cell? ⟨w.heap.size,1,none⟩=some (.int .i64 (k:Int))∧W.cell? ⟨w.heap.size,2,none⟩=some (.int .i64 i))
    (first | exact HSA.out _ Br | exact HSA.out _ (by assumption) | (go_split_ands;exact HSA.out _ (by assumption)))
    (first | (go_at_call 62;refine(h3.out _).mono ?_;rintro e w2 ⟨rfl,rfl⟩))
   go_wp2
   go_ret
   exact⟨rfl,HBD.out⟩
end Go.Proofs.YtfcfbcjiijfjgaaGreatDoor.Me
