import Derived.Test.YtfcfbcjiijfjgaaGreatDoorPBA
import Derived.Test.YtfcfbcjiijfjgaaGreatDoorPAV
set_option maxHeartbeats 4000000
set_option maxRecDepth 100000
namespace Go.Proofs.YtfcfbcjiijfjgaaGreatDoor.Me
open Go.RowKit Go.Shelf
variable {X:Vm.Ctx}
open Vm (Ask askCells askE Asks)
attribute [local go_sem] Oper.semAt_some
abbrev boV (v:Value) (t:Int):Value:= .agg #[v,.int .i64 t]
section
variable {w:World} {v:Value} {V:Vm.Vw} {n:Nat} {F:Nat→Prop}
theorem HasV.below {w':World} (h:HasV X w v V n F) (hb:Below w.heap.size w w'):HasV X w' v V n F:=by
 obtain⟨b,t,q,l,p,F1,F2,rfl,hr,hp,rfl⟩:=h
 exact⟨b,t,q,l,p,F1,F2,rfl,hr.below hb,hp,rfl⟩
theorem v_peek_zero (h:HasV X w v V n F):Calls Tryz.prog 98 #[v,.int .u32 0,.int .i64 0] w fun e w'=>∃A c,e= .returned (.tuple #[.slice A 0 c,.int .i64 2])∧Below w.heap.size w w':=by
 obtain⟨b,t,q,l,p,F1,F2,rfl,hr,hp,rfl⟩:=h
 have hE:Vm.hndE l 0 0=2:=rfl
 have:=Vm.peek_any hr 0 0 (by omega)
 rw [hE,if_neg (by decide)]at this
 exact this.mono fun e w' ⟨A,m,c,e1,e2,e3,e4⟩=>⟨A,c,by subst e2;exact e1,e4⟩
theorem v_map_out (h:HasV X w v V n F):Calls Tryz.prog 58 #[v,.int .i64 (-1),.int .i64 (-1),.int .i64 63,.int .i64 0] w fun e w'=>e= .returned (.int .i64 4)∧Below w.heap.size w w':=by
 obtain⟨b,t,q,l,p,F1,F2,rfl,hr,hp,rfl⟩:=h
 have hE:Vm.mqE l (-1) (-1) 63 0=4:=rfl
 have:=Vm.map_low hr (-1) (-1) 63 0 (by rw [hE];decide)
 rw [hE]at this
 exact this
theorem there_has (h:HasV X w v V n F) (t:Int):Calls Tryz.prog 50 #[boV v t] w fun e w'=>e= .returned (.bool true)∧Below w.heap.size w w':=by
 have h1:=Lh (v_peek_zero (h.below (below1 w (.cells #[v,.int .i64 t] 111))))
 clear h
 go_enter Tryz.func50,Tryz.ntmps50
 go_wp2_with fail
 refine h1.out.mono ?_
 rintro e w1 ⟨A,c,rfl,hb1⟩
 go_wp2
 go_ret
 exact⟨rfl,(below1 w _).trans (hb1.mono (by simp))⟩
theorem there_not (t:Int):Calls Tryz.prog 50 #[boV (.pointer none) t] w fun e w'=>e= .returned (.bool false)∧Below w.heap.size w w':=by
 have h1:=Lh (Vm.peek_nil (w:=w.alloc (.cells #[.pointer none,.int .i64 t] 111)) 0 0)
 rw [show((0:Nat):Int)=0 from rfl]at h1
 go_enter Tryz.func50,Tryz.ntmps50
 go_wp2_with fail
 refine h1.out.mono ?_
 rintro e w1 ⟨rfl,hb1⟩
 go_wp2
 go_ret
 exact⟨rfl,(below1 w _).trans (hb1.mono (by simp))⟩
theorem owned_any (v:Value) (t:Int) (w:World):Calls Tryz.prog 52 #[boV v t] w fun e w'=>e= .returned (.bool (isB t 4))∧Below w.heap.size w w':=by
 have h1:=Lh (book_any t (w.alloc (.cells #[v,.int .i64 t] 111)))
 obtain⟨a,ha⟩:=Nm ((if isB t 4=true then 64*t+1 else 0))
 obtain⟨x,hx⟩:∃x:Int,x=(if isB t 4=true then 0 else 2):=⟨_,rfl⟩
 rw [←ha,←hx]at h1
 have hx2:(x == 0)=isB t 4:=by
  rw [hx]
  cases isB t 4 <;> rfl
 rw [←hx2]
 clear ha hx hx2
 go_enter Tryz.func52,Tryz.ntmps52
 go_wp2_with fail
 refine h1.out.mono ?_
 rintro e w1 ⟨rfl,hb1⟩
 go_wp2
 go_ret
 exact⟨rfl,(below1 w _).trans (hb1.mono (by simp))⟩
theorem pays_has (h:HasV X w v V n F) (t:Int):Calls Tryz.prog 53 #[boV v t,.int .i64 63] w fun e w'=>e= .returned (.bool true)∧Below w.heap.size w w':=by
 have h1:=Lh (v_map_out (h.below (below1 w (.cells #[v,.int .i64 t] 111))))
 clear h
 go_enter Tryz.func53,Tryz.ntmps53
 go_wp2_with fail
 refine h1.out.mono ?_
 rintro e w1 ⟨rfl,hb1⟩
 go_wp2
 go_ret
 exact⟨rfl,(below1 w _).trans (hb1.mono (by simp))⟩
end
end Go.Proofs.YtfcfbcjiijfjgaaGreatDoor.Me
namespace Go.Proofs.YtfcfbcjiijfjgaaGreatDoor.Me
open Go.RowKit Go.Shelf
attribute [local go_sem] Oper.semAt_some
def pgP (k m:Nat):List Value:=(List.range 48).map fun j=> .int .i64 (if j < m then(((64*k+1+j):Nat):Int) else 0)
theorem pgP_len (k m:Nat):(pgP k m).length=48:=by simp [pgP]
theorem pgP_zero (k:Nat):pgP k 0= [Value.int IntKind.i64 0,.int IntKind.i64 0,.int IntKind.i64 0,.int IntKind.i64 0,.int IntKind.i64 0,.int IntKind.i64 0,.int IntKind.i64 0,.int IntKind.i64 0,.int IntKind.i64 0,.int IntKind.i64 0,.int IntKind.i64 0,.int IntKind.i64 0,.int IntKind.i64 0,.int IntKind.i64 0,.int IntKind.i64 0,.int IntKind.i64 0,.int IntKind.i64 0,.int IntKind.i64 0,.int IntKind.i64 0,.int IntKind.i64 0,.int IntKind.i64 0,.int IntKind.i64 0,.int IntKind.i64 0,.int IntKind.i64 0,.int IntKind.i64 0,.int IntKind.i64 0,.int IntKind.i64 0,.int IntKind.i64 0,.int IntKind.i64 0,.int IntKind.i64 0,.int IntKind.i64 0,.int IntKind.i64 0,.int IntKind.i64 0,.int IntKind.i64 0,.int IntKind.i64 0,.int IntKind.i64 0,.int IntKind.i64 0,.int IntKind.i64 0,.int IntKind.i64 0,.int IntKind.i64 0,.int IntKind.i64 0,.int IntKind.i64 0,.int IntKind.i64 0,.int IntKind.i64 0,.int IntKind.i64 0,.int IntKind.i64 0,.int IntKind.i64 0,.int IntKind.i64 0]:=rfl
theorem pgP_get (k m:Nat) {j:Nat} (h:j < 48):(pgP k m)[j]?=some (.int .i64 (if j < m then(((64*k+1+j):Nat):Int) else 0)):=by
 unfold pgP
 rw [List.getElem?_map,List.getElem?_range h]
 rfl
theorem pgP_set (k m:Nat) (_h:m < 48):(pgP k m).set m (.int .i64 (((64*k+1+m):Nat):Int))=pgP k (m+1):=by
 refine List.ext_getElem? fun j=> ?_
 by_cases h:j < 48
 ·rw [pgP_get k (m+1) h]
  by_cases hj:m=j
  ·subst hj
   rw [List.getElem?_set_self (by rw [pgP_len];exact h),if_pos (by omega)]
  ·rw [List.getElem?_set_ne hj,pgP_get k m h]
   by_cases hl:j < m
   ·rw [if_pos hl,if_pos (by omega)]
   ·rw [if_neg hl,if_neg (by omega)]
 ·rw [List.getElem?_eq_none (by rw [List.length_set,pgP_len];omega),List.getElem?_eq_none (by rw [pgP_len];omega)]
abbrev pgC (k:Nat):List Value:=pgP k 48
theorem pg_one (k m:Nat):∀u∈pgP k m,u.oneCell'=true:=by
 intro u hu
 unfold pgP at hu
 rw [List.mem_map]at hu
 obtain⟨j,_,rfl⟩:=hu
 rfl
theorem pg_info:(Tryz.prog.info? 132).map (·.size)=some 48:=by kernel_rfl
theorem pgint_info:(Tryz.prog.info? 3).map (fun i=>(i.zero,i.size,i.bytes))=some (some (.int .i64 0),1,8):=by kernel_rfl
theorem pg_index (k:Nat) {j:Nat} (h:j < 48) (w:World):
  (Instr.index 132 (.agg (pgC k).toArray) (.int .i64 (j:Int))).run Tryz.prog w= .ok (.int .i64 (((64*k+1+j):Nat):Int)) w:=by
 obtain⟨i0,hi,hz0,hz1,hz2⟩:=info_parts pgint_info
 have h64:=pgP_len k 48
 have hg:=pgP_get k 48 h
 rw [if_pos h]at hg
 obtain⟨hl,he⟩:=List.getElem?_eq_some_iff.1 hg
 simp [Instr.index,run_underlying Tryz.underlying132,run_underlying Tryz.underlying3,asIntOf,sizeOf,typeInfo,hi,hz1,part,isAgg,go_sem,h64,h,he]
def PI (w:World) (k g m:Nat) (V:World):Prop:=Row V (w.heap.size+1) 132 (pgP k 0)∧Row V g 132 (pgP k m)∧w.heap.size+1 < g∧Below w.heap.size w V
theorem PI.step {w V:World} {k g m:Nat} (h:PI w k g m V) (hm:m < 48):PI w k g (m+1) (V.setCell ⟨g,m,none⟩ (.int .i64 (((64*k+1+m):Nat):Int))):=by
 obtain⟨h1,h2,h3,h4⟩:=h
 refine⟨h1.same (heap_set (by omega)),?_,h3,h4.setCell (by simp only;omega) _⟩
 rw [←pgP_set k m hm]
 exact h2.set m _
theorem PI.last {w V:World} {k g:Nat} (h:PI w k g 48 V):Hid (V.rangeAt g 0 (pgC k)∧(Tryz.prog.info? 132).map (·.size)=some (pgC k).length∧V.there (w.heap.size+1) 0 (pgC k).toArray.size∧(Tryz.prog.info? 132).map (·.size)=some (pgC k).toArray.size
  ∧(pgC k).toArray.all (·.oneCell')=true∧(loadVar 132 ⟨w.heap.size+1,0,none⟩).run Tryz.prog (V.setCells (w.heap.size+1) 0 (pgC k).toArray.toList)= .ok (.agg (pgC k).toArray) (V.setCells (w.heap.size+1) 0 (pgC k).toArray.toList)
  ∧Below w.heap.size w (V.setCells (w.heap.size+1) 0 (pgC k).toArray.toList)):=by
 obtain⟨h1,h2,h3,h4⟩:=h
 have r3:Row (V.setCells (w.heap.size+1) 0 (pgC k).toArray.toList) (w.heap.size+1) 132 (pgC k):=set_from (pgC k) [] _ h1 ((pgP_len k 0).trans (pgP_len k 48).symm)
 exact Lh ⟨row_range h2,by rw [pgP_len];exact pg_info,row_there h1 (by rw [List.size_toArray];exact(pgP_len k 48).trans (pgP_len k 0).symm),by rw [List.size_toArray,pgP_len];exact pg_info,all_oneCell_toArray (pg_one k 48),
  run_loadVar_mid _ (w.heap.size+1) 0 _ (pgC k) _ (row_range r3) Tryz.underlying132 rfl (by rw [pgP_len];exact pg_info),set_below (w.heap.size+1) _ (by omega) _ _ _ h4⟩
theorem pages_any (v:Value) (k:Nat) (w:World) (hk:k < 4):Calls Tryz.prog 57 #[boV v (k:Int)] w fun e w'=>e= .returned (.agg (pgC k).toArray)∧Below w.heap.size w w':=by
 have h1:=Lh (fun W=>Wn.book_yes k W hk)
 have HSTEP:=Lh (fun V g m h hm=>PI.step (w:=w) (k:=k) (V:=V) (g:=g) (m:=m) h hm)
 have HLAST:=Lh (fun V g h=>PI.last (w:=w) (k:=k) (V:=V) (g:=g) h)
 have HZ:=Lh (pgP_zero k)
 obtain⟨q,hq⟩:=Nm (64*k+1)
 rw [←hq]at h1
 have HQ:=Lh (show q=64*k+1∧q < 1000 from⟨hq,by omega⟩)
 clear hk hq
 go_enter Tryz.func57,Tryz.ntmps57
 go_wp2_with fail
 refine(h1.out _).mono ?_
 rintro e w1 ⟨rfl,hb1⟩
 have HI0:Hid (PI w k w1.heap.size 0 (w1.alloc (.cells #[Value.int IntKind.i64 0,.int IntKind.i64 0,.int IntKind.i64 0,.int IntKind.i64 0,.int IntKind.i64 0,.int IntKind.i64 0,.int IntKind.i64 0,.int IntKind.i64 0,.int IntKind.i64 0,.int IntKind.i64 0,.int IntKind.i64 0,.int IntKind.i64 0,.int IntKind.i64 0,.int IntKind.i64 0,.int IntKind.i64 0,.int IntKind.i64 0,.int IntKind.i64 0,.int IntKind.i64 0,.int IntKind.i64 0,.int IntKind.i64 0,.int IntKind.i64 0,.int IntKind.i64 0,.int IntKind.i64 0,.int IntKind.i64 0,.int IntKind.i64 0,.int IntKind.i64 0,.int IntKind.i64 0,.int IntKind.i64 0,.int IntKind.i64 0,.int IntKind.i64 0,.int IntKind.i64 0,.int IntKind.i64 0,.int IntKind.i64 0,.int IntKind.i64 0,.int IntKind.i64 0,.int IntKind.i64 0,.int IntKind.i64 0,.int IntKind.i64 0,.int IntKind.i64 0,.int IntKind.i64 0,.int IntKind.i64 0,.int IntKind.i64 0,.int IntKind.i64 0,.int IntKind.i64 0,.int IntKind.i64 0,.int IntKind.i64 0,.int IntKind.i64 0,.int IntKind.i64 0] 132))):=by
  have hs:=hb1.size
  simp only [World.size_alloc]at hs
  refine Lh ⟨?_,?_,by omega,(((Br.alloc Lr _).alloc (by simp) _).trans (hb1.mono (by simp;omega))).alloc (by omega) _⟩
  ·rw [HZ.out]
   exact((Row.new_at _ _ _ (by simp)).below hb1).below (below1 _ _)
  ·rw [HZ.out]
   exact Row.new _ _ _
 obtain⟨g,hg⟩:=Nm (w1.heap.size)
 have HGE:=Lh hg
 rw [←hg]at HI0
 clear hg hb1 h1
 go_wp2_with fail
 rw [←HGE.out]
 go_loopw [13] (fun s V=>∃m:Nat,s= .int .i64 (m:Int)∧m≤48∧Hid (PI w k g m V)) (fun s _=>48 - (intOf s).toNat)
 case atStart=>exact⟨0,rfl,Nat.zero_le _,HI0⟩
 case round=>
  obtain⟨m,rfl,hm,HI⟩:=hrel
  by_cases h8:m < 48
  ·have d0:decide ((m:Int) < 48)=true:=Dt (by omega)
   have a1:IntKind.i64.wrap ((m:Int)+1)=((m+1:Nat):Int):=(wrapI _ (by omega) (by omega)).trans (by omega)
   obtain⟨hk4,hk5⟩:=HQ.out
   have a2:IntKind.i64.wrap ((q:Int)+(m:Int))=(((64*k+1+m):Nat):Int):=(wrapI _ (by omega) (by omega)).trans (by omega)
   obtain⟨p,hp⟩:=Nm (64*k+1+m)
   have HS:=Lh (HSTEP.out _ _ _ HI.out h8)
   rw [←hp]at a2 HS
   have hx:∃x,wr.cell? ⟨g,m,none⟩=some x:=⟨_,(HI.out.2.1.cell m).trans (pgP_get k m h8)⟩
   obtain⟨x,hx⟩:=hx
   have hf:wr.frozen? ⟨g,m,none⟩=false:=HI.out.2.1.frozen m
   have hm48:m < 48:=h8
   clear hp HI HI0 hk4 hk5
   go_wp2
   refine⟨⟨m+1,rfl,by omega,HS⟩,?_⟩
   show 48 - ((m:Int)+1).toNat < 48 - ((m:Int)).toNat
   omega
  ·have d0:decide ((m:Int) < 48)=false:=Df (by omega)
   obtain rfl:m=48:=by omega
   have HL:=HLAST.out _ _ HI.out
   obtain⟨bs,hbs⟩:=Nm (pgC k)
   rw [←hbs]at HL
   have HBS:=Lh hbs
   clear hbs HI HI0
   go_wp2_with (first | refine wpList_load_mid rfl 132 (.tmp 5) rfl g 0 rfl bs _ HL.out.1 Tryz.underlying132 rfl HL.out.2.1 ?_ | refine wpList_store_mid rfl 132 (.tmp 2) (.tmp 22) rfl (w.heap.size+1) 0 bs.toArray rfl rfl HL.out.2.2.1 HL.out.2.2.2.1 HL.out.2.2.2.2.1 ?_)
   exact bodyPost_ret (res_cell1 Tryz.results57 rfl HL.out.2.2.2.2.2.1) rfl ⟨by rw [HBS.out],HL.out.2.2.2.2.2.2⟩
end Go.Proofs.YtfcfbcjiijfjgaaGreatDoor.Me
namespace Go.Proofs.YtfcfbcjiijfjgaaGreatDoor.Me
open Go.RowKit Go.Shelf
variable {X:Vm.Ctx}
attribute [local go_sem] Oper.semAt_some
theorem bare1_any (x y i:Int) (b:Bool) (w:World):Calls Tryz.prog 118 #[.agg #[.int .i64 x,.int .i64 y,.int .i64 i],.bool b] w fun e w'=>e= .returned (.bool (!b))∧Below w.heap.size w w':=by
 go_enter Tryz.func118,Tryz.ntmps118
 go_wp2
 go_ret
 exact⟨rfl,below1 _ _⟩
theorem open1_any (x y i:Int) (b:Bool) (w:World) (h:b=true→x= -1):Calls Tryz.prog 131 #[.agg #[.int .i64 x,.int .i64 y,.int .i64 i],.bool b] w fun e w'=>e= .returned (.bool b)∧Below w.heap.size w w':=by
 cases b
 ·clear h
  go_enter Tryz.func131,Tryz.ntmps131
  go_wp2
  go_ret
  exact⟨rfl,below1 _ _⟩
 ·obtain rfl:=h rfl
  clear h
  go_enter Tryz.func131,Tryz.ntmps131
  go_wp2
  go_ret
  exact⟨rfl,below1 _ _⟩
section
variable {w:World} {v:Value} {V:Vm.Vw} {n:Nat} {F:Nat→Prop}
theorem all_true (h:HasV X w v V n F) (k cf:Nat) (o r:Bool) (hk:k < 4) (hV:∀j,j < 48→(V (((64*k+1+j):Nat):Int)).isSome=o∧∀c,V (((64*k+1+j):Nat):Int)=some c→c.o= -1) (eg:∀args w,(callFunc cf args).run Tryz.prog w= .ok (.enter cf args) w)
  (HC:∀(x y i:Int) (W:World),(o=true→x= -1)→Calls Tryz.prog cf #[.agg #[.int .i64 x,.int .i64 y,.int .i64 i],.bool o] W fun e w'=>e= .returned (.bool true)∧Below W.heap.size W w') (hr:r=true):
  Calls Tryz.prog 117 #[boV v (k:Int),.func (.func cf) #[] #[]] w fun e w'=>e= .returned (.bool r)∧Below w.heap.size w w':=by
 subst hr
 have HP:=Lh (fun W=>pages_any v k W hk)
 have HG:=Lh (fun W (hb:Below w.heap.size w W) (j:Nat) (hj:j < 48)=>v_get (h.below hb) (((64*k+1+j):Nat):Int) (by unfold Pg.I64;omega))
 have HV:=Lh hV
 have HCC:=Lh HC
 have HIX:=Lh (fun j (hj:j < 48) W=>pg_index k hj W)
 obtain⟨A,hA⟩:=Nm (pgC k)
 rw [←hA]at HP HIX
 clear hV HC h hA hk
 go_enter Tryz.func117,Tryz.ntmps117
 go_wp2_with fail
 refine(HP.out _).mono ?_
 rintro e w1 ⟨rfl,hb1⟩
 have HB1:=Lh ((below1 w (.cells #[v,.int .i64 (k:Int)] 111)).trans (hb1.mono (by simp)))
 have HR1:=Lh ((Row.new w 111 [v,.int .i64 (k:Int)]).below hb1)
 clear hb1 HP
 go_wp2_with fail
 go_loopw [9] (fun s W=>∃m:Nat,s= .int .i64 (m:Int)∧m≤48∧Below w.heap.size w W∧Hid (Row W w.heap.size 111 [v,.int .i64 (k:Int)])) (fun s _=>48 - (intOf s).toNat)
 case atStart=>exact⟨0,rfl,Nat.zero_le _,HB1.out,HR1⟩
 case round=>
  obtain⟨m,rfl,hm,hbw,HR⟩:=hrel
  by_cases h8:m < 48
  ·have d0:decide ((m:Int) < 48)=true:=Dt (by omega)
   have a1:IntKind.i64.wrap ((m:Int)+1)=((m+1:Nat):Int):=(wrapI _ (by omega) (by omega)).trans (by omega)
   have hix:=HIX.out m h8
   have HGG:=Lh (fun W (hb:Below w.heap.size w W)=>HG.out W hb m h8)
   have hvm:=HV.out m h8
   rw [hvm.1]at HGG
   have HOW:=Lh (show ∀x y:Int,(∀c,V (((64*k+1+m):Nat):Int)=some c→x=c.o∧y=c.m)→o=true→x= -1 from fun x y hx ho=>by
    rw [ho]at hvm
    obtain⟨c,hc⟩:=Option.isSome_iff_exists.1 hvm.1
    exact(hx c hc).1.trans (hvm.2 c hc))
   obtain⟨p,hp⟩:=Nm (64*k+1+m)
   rw [←hp]at hix HGG HOW
   have c0:wr.cell? ⟨w.heap.size,0,none⟩=_:=HR.out.cell 0
   have HBW:=Lh hbw
   clear hp hbw HB1 HR1 HG HIX HV hvm
   go_wp2_with fail
   refine(HGG.out _ HBW.out).mono ?_
   rintro e w2 ⟨x,y,i,rfl,hx,hb2⟩
   have HB2:=Lh (below0 HBW.out hb2)
   have HR2:=Lh (HR.out.below hb2)
   have HX:=Lh (HOW.out x y hx)
   clear hx hb2 HBW HR c0 HOW
   go_wp2_with fail
   refine(HCC.out x y i _ HX.out).mono ?_
   rintro e w3 ⟨rfl,hb3⟩
   have HB3:=Lh (below0 HB2.out hb3)
   have HR3:=Lh (HR2.out.below hb3)
   clear hb3 HB2 HR2 HX
   go_wp2
   refine⟨⟨m+1,rfl,by omega,HB3.out,HR3⟩,?_⟩
   show 48 - ((m:Int)+1).toNat < 48 - ((m:Int)).toNat
   omega
  ·have d0:decide ((m:Int) < 48)=false:=Df (by omega)
   have HBW:=Lh hbw
   clear hbw
   go_wp2
   go_ret
   exact⟨rfl,HBW.out⟩
theorem all_false (h:HasV X w v V n F) (k cf:Nat) (o r:Bool) (hk:k < 4) (hV:∀j,j < 48→(V (((64*k+1+j):Nat):Int)).isSome=o∧∀c,V (((64*k+1+j):Nat):Int)=some c→c.o= -1) (eg:∀args w,(callFunc cf args).run Tryz.prog w= .ok (.enter cf args) w)
  (HC:∀(x y i:Int) (W:World),(o=true→x= -1)→Calls Tryz.prog cf #[.agg #[.int .i64 x,.int .i64 y,.int .i64 i],.bool o] W fun e w'=>e= .returned (.bool false)∧Below W.heap.size W w') (hr:r=false):
  Calls Tryz.prog 117 #[boV v (k:Int),.func (.func cf) #[] #[]] w fun e w'=>e= .returned (.bool r)∧Below w.heap.size w w':=by
 subst hr
 have HP:=Lh (fun W=>pages_any v k W hk)
 have HG:=Lh (fun W (hb:Below w.heap.size w W) (j:Nat) (hj:j < 48)=>v_get (h.below hb) (((64*k+1+j):Nat):Int) (by unfold Pg.I64;omega))
 have HV:=Lh hV
 have HCC:=Lh HC
 have HIX:=Lh (fun j (hj:j < 48) W=>pg_index k hj W)
 obtain⟨A,hA⟩:=Nm (pgC k)
 rw [←hA]at HP HIX
 clear hV HC h hA hk
 go_enter Tryz.func117,Tryz.ntmps117
 go_wp2_with fail
 refine(HP.out _).mono ?_
 rintro e w1 ⟨rfl,hb1⟩
 have HB1:=Lh ((below1 w (.cells #[v,.int .i64 (k:Int)] 111)).trans (hb1.mono (by simp)))
 have HR1:=Lh ((Row.new w 111 [v,.int .i64 (k:Int)]).below hb1)
 clear hb1 HP
 go_wp2_with fail
 go_loopw [9] (fun s W=>∃m:Nat,s= .int .i64 (m:Int)∧m < 48∧Below w.heap.size w W∧Hid (Row W w.heap.size 111 [v,.int .i64 (k:Int)])) (fun s _=>48 - (intOf s).toNat)
 case atStart=>exact⟨0,rfl,by omega,HB1.out,HR1⟩
 case round=>
  obtain⟨m,rfl,hm,hbw,HR⟩:=hrel
  by_cases h8:m < 48
  ·have d0:decide ((m:Int) < 48)=true:=Dt (by omega)
   have a1:IntKind.i64.wrap ((m:Int)+1)=((m+1:Nat):Int):=(wrapI _ (by omega) (by omega)).trans (by omega)
   have hix:=HIX.out m h8
   have HGG:=Lh (fun W (hb:Below w.heap.size w W)=>HG.out W hb m h8)
   have hvm:=HV.out m h8
   rw [hvm.1]at HGG
   have HOW:=Lh (show ∀x y:Int,(∀c,V (((64*k+1+m):Nat):Int)=some c→x=c.o∧y=c.m)→o=true→x= -1 from fun x y hx ho=>by
    rw [ho]at hvm
    obtain⟨c,hc⟩:=Option.isSome_iff_exists.1 hvm.1
    exact(hx c hc).1.trans (hvm.2 c hc))
   obtain⟨p,hp⟩:=Nm (64*k+1+m)
   rw [←hp]at hix HGG HOW
   have c0:wr.cell? ⟨w.heap.size,0,none⟩=_:=HR.out.cell 0
   have HBW:=Lh hbw
   clear hp hbw HB1 HR1 HG HIX HV hvm
   go_wp2_with fail
   refine(HGG.out _ HBW.out).mono ?_
   rintro e w2 ⟨x,y,i,rfl,hx,hb2⟩
   have HB2:=Lh (below0 HBW.out hb2)
   have HR2:=Lh (HR.out.below hb2)
   have HX:=Lh (HOW.out x y hx)
   clear hx hb2 HBW HR c0 HOW
   go_wp2_with fail
   refine(HCC.out x y i _ HX.out).mono ?_
   rintro e w3 ⟨rfl,hb3⟩
   have HB3:=Lh (below0 HB2.out hb3)
   have HR3:=Lh (HR2.out.below hb3)
   clear hb3 HB2 HR2 HX
   go_wp2
   go_ret
   exact⟨rfl,HB3.out⟩
  ·exact absurd hm h8
theorem open_has (h:HasV X w v V n F) (k:Nat) (o:Bool) (hk:k < 4) (hV:∀j,j < 48→(V (((64*k+1+j):Nat):Int)).isSome=o∧∀c,V (((64*k+1+j):Nat):Int)=some c→c.o= -1):Calls Tryz.prog 59 #[boV v (k:Int)] w fun e w'=>e= .returned (.bool (o))∧Below w.heap.size w w':=by
 have hb:=below1 w (.cells #[v,.int .i64 (k:Int)] 111)
 have H1:Calls Tryz.prog 117 #[boV v (k:Int),.func (.func 131) #[] #[]] (w.alloc (.cells #[v,.int .i64 (k:Int)] 111)) fun e w'=>e= .returned (.bool (o))∧Below (w.heap.size+1) (w.alloc (.cells #[v,.int .i64 (k:Int)] 111)) w':=by
  have hv:=h.below hb
  have hw:(w.alloc (.cells #[v,.int .i64 (k:Int)] 111)).heap.size=w.heap.size+1:=by simp
  rw [←hw]
  have eg:=enters_of Tryz.func131 (by kernel_rfl) rfl
  cases o
  ·exact all_false hv k _ false false hk hV eg (fun x y i W hx=>open1_any x y i false W hx) rfl
  ·exact all_true hv k _ true true hk hV eg (fun x y i W hx=>open1_any x y i true W hx) rfl
 have H1:=Lh H1
 obtain⟨r,hr⟩:=Nm ((o))
 rw [←hr]at H1 ⊢
 clear h hV hr hk hb
 go_enter Tryz.func59,Tryz.ntmps59
 go_wp2_with fail
 refine H1.out.mono ?_
 rintro e w1 ⟨rfl,hb1⟩
 go_wp2
 go_ret
 exact⟨rfl,(below1 w _).trans (hb1.mono (by omega))⟩
theorem bare_has (h:HasV X w v V n F) (k:Nat) (o:Bool) (hk:k < 4) (hV:∀j,j < 48→(V (((64*k+1+j):Nat):Int)).isSome=o∧∀c,V (((64*k+1+j):Nat):Int)=some c→c.o= -1):Calls Tryz.prog 54 #[boV v (k:Int)] w fun e w'=>e= .returned (.bool (!o))∧Below w.heap.size w w':=by
 have hb:=below1 w (.cells #[v,.int .i64 (k:Int)] 111)
 have H1:Calls Tryz.prog 117 #[boV v (k:Int),.func (.func 118) #[] #[]] (w.alloc (.cells #[v,.int .i64 (k:Int)] 111)) fun e w'=>e= .returned (.bool (!o))∧Below (w.heap.size+1) (w.alloc (.cells #[v,.int .i64 (k:Int)] 111)) w':=by
  have hv:=h.below hb
  have hw:(w.alloc (.cells #[v,.int .i64 (k:Int)] 111)).heap.size=w.heap.size+1:=by simp
  rw [←hw]
  have eg:=enters_of Tryz.func118 (by kernel_rfl) rfl
  cases o
  ·exact all_true hv k _ false true hk hV eg (fun x y i W hx=>bare1_any x y i false W) rfl
  ·exact all_false hv k _ true false hk hV eg (fun x y i W hx=>bare1_any x y i true W) rfl
 have H1:=Lh H1
 obtain⟨r,hr⟩:=Nm ((!o))
 rw [←hr]at H1 ⊢
 clear h hV hr hk hb
 go_enter Tryz.func54,Tryz.ntmps54
 go_wp2_with fail
 refine H1.out.mono ?_
 rintro e w1 ⟨rfl,hb1⟩
 go_wp2
 go_ret
 exact⟨rfl,(below1 w _).trans (hb1.mono (by omega))⟩
end
end Go.Proofs.YtfcfbcjiijfjgaaGreatDoor.Me
namespace Go.Proofs.YtfcfbcjiijfjgaaGreatDoor.Me
open Go.RowKit Go.Shelf
variable {X:Vm.Ctx}
open Vm (Ask askCells askE Asks)
attribute [local go_sem] Oper.semAt_some
section
variable {w w2 w':World} {v:Value} {V V':Vm.Vw} {n n':Nat} {F:Nat→Prop} {B:Bks}
theorem HasV.bx (h:HasV X w v V n F):∃b,v=bx b:=by
 obtain⟨b,t,q,l,p,F1,F2,rfl,hr,hp,rfl⟩:=h
 exact⟨b,rfl⟩
theorem HasV.lt (h:HasV X w v V n F):∀k,F k→k < w.heap.size:=by
 obtain⟨b,t,q,l,p,F1,F2,rfl,hr,hp,rfl⟩:=h
 intro k hk
 rcases hk with rfl | hk | hk
 ·exact lt_of_cell hr.c0
 ·exact hr.tab.lt k hk
 ·exact hr.pool.lt k hk
theorem NxV.base (hb:Below w.heap.size w w2) (h:NxV X w2 v V n F w'):NxV X w v V n F w':=by
 obtain⟨F',h1,h2,h3⟩:=h
 refine⟨F',h1,(Keep.of_below hb).trans h2 (fun k _ h=>h),fun k hk=> ?_⟩
 rcases h3 k hk with h | h
 ·exact .inl h
 ·exact .inr (Nat.le_trans hb.size h)
theorem NxV.step {F':Nat→Prop} (a2:Keep F w w2) (a3:∀k,F' k→F k∨w.heap.size≤k) (h:NxV X w2 v V n F' w'):NxV X w v V n F w':=by
 obtain⟨F2,b1,b2,b3⟩:=h
 have hs:=a2.size
 refine⟨F2,b1,⟨b2.os.trans a2.os,b2.tape.trans a2.tape,b2.output.trans a2.output,Nat.le_trans hs b2.size,fun k hk hf=> ?_⟩,fun k hk=> ?_⟩
 ·refine(b2.block k (by omega) (fun h'=> ?_)).trans (a2.block k hk hf)
  rcases a3 k h' with h9 | h9
  ·exact hf h9
  ·omega
 ·rcases b3 k hk with h9 | h9
  ·exact a3 k h9
  ·exact .inr (by omega)
theorem NxV.row (h:NxV X w v V n F w') {b:Nat} {t:TypeId} {l:List Value} (hr:Row w b t l) (hf:¬F b):Row w' b t l:=by
 obtain⟨F',_,h2,_⟩:=h
 exact h2.row hr hf
theorem book_some (B:Bks) {k:Nat} (hk:k < 4):∀j,j < 48→(bookV X B (((64*k+1+j):Nat):Int)).isSome=(B k).isSome∧∀c,bookV X B (((64*k+1+j):Nat):Int)=some c→c.o= -1:=fun j hj=>by
 rw [bookV_at B hk hj]
 cases B k with
 | none=>exact⟨rfl,fun c e=>by cases e⟩
 | some f=>
  refine⟨rfl,fun c e=> ?_⟩
  injection e with e
  rw [←e]
  rfl
theorem open1c_any (h:HasV X w v V n F) (s:Int) (b p:Nat) (hb:Row w b 111 [v,.int .i64 s]) (hp:w.cell? ⟨p,0,none⟩=some (.int .i64 63)):Calls Tryz.prog 51 #[.pointer (some ⟨b,0,none⟩),.pointer (some ⟨p,0,none⟩)] w fun e w'=>e= .returned (.bool (isB s 4))∧Below w.heap.size w w':=by
 have h1:=Lh (owned_any v s w)
 have h2:=Lh (fun W (hb:Below w.heap.size w W)=>pays_has (h.below hb) s)
 have HC:=Lh (fun W (hw:Below w.heap.size w W)=>(show W.cell? ⟨b,0,none⟩=some v∧W.cell? ⟨b,1,none⟩=some (.int .i64 s)∧W.cell? ⟨p,0,none⟩=some (.int .i64 63) from⟨(hb.below hw).cell 0,(hb.below hw).cell 1,(hw.cell (p:=⟨p,0,none⟩) (lt_of_cell hp)).trans hp⟩))
 have c0:w.cell? ⟨b,0,none⟩=_:=hb.cell 0
 have c1:w.cell? ⟨b,1,none⟩=_:=hb.cell 1
 obtain⟨q,hq⟩:=Nm (isB s 4)
 rw [←hq]at h1 ⊢
 clear hq h hb
 cases q
 ·go_enter Tryz.func51,Tryz.ntmps51
  go_wp2_with fail
  refine h1.out.mono ?_
  rintro e w1 ⟨rfl,hb1⟩
  obtain⟨d0,d1,d2⟩:=HC.out _ hb1
  clear c0 c1 hp
  go_wp2
  go_ret
  exact⟨rfl,hb1⟩
 ·go_enter Tryz.func51,Tryz.ntmps51
  go_wp2_with fail
  refine h1.out.mono ?_
  rintro e w1 ⟨rfl,hb1⟩
  obtain⟨d0,d1,d2⟩:=HC.out _ hb1
  have HB1:=Lh hb1
  clear c0 c1 hp hb1
  go_wp2_with fail
  refine(h2.out _ HB1.out).mono ?_
  rintro e w3 ⟨rfl,hb3⟩
  have HB3:=Lh (below0 HB1.out hb3)
  clear hb3
  go_wp2
  go_ret
  exact⟨rfl,HB3.out⟩
theorem open2c_any (h:HasV X w v V n F) (s:Int) (b p:Nat) (hb:Row w b 111 [v,.int .i64 s]) (hp:w.cell? ⟨p,0,none⟩=some (.int .i64 63)):Calls Tryz.prog 55 #[.pointer (some ⟨b,0,none⟩),.pointer (some ⟨p,0,none⟩)] w fun e w'=>e= .returned (.bool (decide (48≤n)))∧Below w.heap.size w w':=by
 have h1:=Lh (v_left h)
 have c0:w.cell? ⟨b,0,none⟩=_:=hb.cell 0
 have hx:∃q,decide (48≤n)=q∧decide ((n:Int)≥48)=q:=by
  by_cases hn:48≤n
  ·exact⟨true,decide_eq_true hn,(Dt (by omega))⟩
  ·exact⟨false,decide_eq_false hn,(Df (by omega))⟩
 obtain⟨q,hq1,hq2⟩:=hx
 rw [hq1]
 clear h hb
 go_enter Tryz.func55,Tryz.ntmps55
 go_wp2_with fail
 refine h1.out.mono ?_
 rintro e w1 ⟨rfl,hb1⟩
 go_wp2
 go_ret
 exact⟨rfl,hb1⟩
def opL (v:Value) (s:Int) (b p:Nat) (a2 a3 a4:Bool):List Ask:=
 [⟨50,#[boV v s],#[],1,true⟩,⟨51,#[],#[.pointer (some ⟨b,0,none⟩),.pointer (some ⟨p,0,none⟩)],2,a2⟩,
  ⟨54,#[boV v s],#[],180,a3⟩,⟨55,#[],#[.pointer (some ⟨b,0,none⟩),.pointer (some ⟨p,0,none⟩)],171,a4⟩]
theorem opL_E (v:Value) (B:Bks) (n:Nat) (s:Int) (b p:Nat):askE (opL v s b p (isB s 4) (!(B s.toNat).isSome) (decide (48≤n)))=openA B n s:=by
 unfold openA
 rcases h1:isB s 4 with _ | _
 ·rw [if_pos rfl];rfl
 ·rw [if_neg (by decide)]
  rcases h2:(B s.toNat).isSome with _ | _
  ·rw [if_neg (by decide)]
   by_cases h3:n < 48
   ·rw [if_pos h3,(Df (by omega))];rfl
   ·rw [if_neg h3,(Dt (by omega))];rfl
  ·rw [if_pos rfl];rfl
theorem opL_asks (h:HasV X w v (bookV X B) n F) {s:Int} {b p:Nat} (hb:Row w b 111 [v,.int .i64 s]) (hp:w.cell? ⟨p,0,none⟩=some (.int .i64 63)):Asks w (opL v s b p (isB s 4) (!(B s.toNat).isSome) (decide (48≤n))):=by
 intro q hq hall
 rcases q with _ | _ | _ | _ | q
 ·exact⟨enters_of Tryz.func50 (by kernel_rfl) rfl,fun V hV=>there_has (h.below hV) s⟩
 ·exact⟨enters_of Tryz.func51 (by kernel_rfl) rfl,fun V hV=>open1c_any (h.below hV) s b p (hb.below hV) ((hV.cell (p:=⟨p,0,none⟩) (lt_of_cell hp)).trans hp)⟩
 ·have t2:isB s 4=true:=hall 1 (by simp [opL]) (by omega)
  obtain⟨k,rfl,hk⟩:=isB_nat t2
  refine⟨enters_of Tryz.func54 (by kernel_rfl) rfl,fun V hV=> ?_⟩
  exact bare_has (h.below hV) k _ hk (book_some B hk)
 ·exact⟨enters_of Tryz.func55 (by kernel_rfl) rfl,fun V hV=>open2c_any (h.below hV) s b p (hb.below hV) ((hV.cell (p:=⟨p,0,none⟩) (lt_of_cell hp)).trans hp)⟩
 ·simp [opL]at hq
  omega
def OI (X:Vm.Ctx) (B:Bks) (n:Nat) (v:Value) (s bb pb:Nat) (F:Nat→Prop) (w2:World) (m:Nat) (W:World):Prop:=NxV X w2 v (partV X B s m (some ⟨-1,63,0,fun _=>0⟩)) (n - m) F W∧Row W bb 111 [v,.int .i64 (s:Int)]∧W.cell? ⟨pb,0,none⟩=some (.int .i64 63)
theorem OI.map {s bb pb m:Nat} {W:World} (h:OI X B n v s bb pb F w2 m W) (hm:m < 48) (hs:s < 4) (hn:48≤n) (hB:B s=none) (hF:∀k,F k→k < w.heap.size) (hb1:w.heap.size≤bb) (hb2:bb < w2.heap.size) (hp1:w.heap.size≤pb) (hp2:pb < w2.heap.size):
  Calls Tryz.prog 58 #[v,.int .i64 (((64*s+1+m):Nat):Int),.int .i64 (-1),.int .i64 63,.int .i64 0] W fun e w'=>e= .returned (.int .i64 0)∧Hid (OI X B n v s bb pb F w2 (m+1) w'):=by
 obtain⟨h1,h2,h3⟩:=h
 obtain⟨F',a1,a2,a3⟩:=h1
 have hv:partV X B s m (some ⟨-1,63,0,fun _=>0⟩) (((64*s+1+m):Nat):Int)=none:=by
  rw [partV_next,bookV_at B hs hm,hB]
  rfl
 refine(v_map a1 (by unfold Pg.pageB;rw [Bool.and_eq_true,decide_eq_true_eq,decide_eq_true_eq];omega) hv (by omega)).mono fun e w' ⟨e1,e2⟩=>⟨e1,Lh ⟨?_,?_,?_⟩⟩
 ·rw [partV_step,show n - m - 1=n - (m+1) by omega]at e2
  exact NxV.step a2 a3 e2
 ·exact e2.row h2 (fun hf=>by rcases a3 _ hf with h | h;have:=hF _ h;omega;omega)
 ·obtain⟨F3,_,e3,_⟩:=e2
  exact(e3.cell (p:=⟨pb,0,none⟩) (lt_of_cell h3) (fun hf=>by rcases a3 _ hf with h | h;have:=hF _ h;simp only at this;omega;simp only at h;omega)).trans h3
theorem nx_low (h:HasM X w v B n F) (hb:Below w.heap.size w w'):Nx (HasM X) w v B n F w':=NxV.refl h hb
theorem open_yes (h:HasM X w v B n F) (s0:Nat) (hE:openA B n (s0:Int)=0):Calls Tryz.prog 17 #[v,.int .i64 (s0:Int),.int .i64 63] w fun e w'=>e= .returned (.int .i64 0)∧Nx (HasM X) w v (upd B s0 (some zeroB)) (n - 48) F w':=by
 obtain⟨b0,rfl⟩:=HasV.bx h
 have hcs:isB (s0:Int) 4=true∧B s0=none∧48≤n:=by
  unfold openA at hE
  rcases h1:isB (s0:Int) 4 with _ | _
  ·rw [h1,if_pos rfl]at hE;simp at hE
  ·rw [h1,if_neg (by decide),Int.toNat_natCast]at hE
   rcases h2:B s0 with _ | f
   ·by_cases h3:n < 48
    ·simp [h2,h3]at hE
    ·exact⟨rfl,rfl,by omega⟩
   ·simp [h2]at hE
 obtain⟨hs4,hBn,hn⟩:=hcs
 have hs:s0 < 4:=by
  obtain⟨k,e,hk⟩:=isB_nat (b:=4) hs4
  omega
 have HPG:=Lh (fun W=>pages_any (bx b0) s0 W hs)
 have HIX:=Lh (fun j (hj:j < 48) W=>pg_index s0 hj W)
 obtain⟨A,hA⟩:=Nm (pgC s0)
 rw [←hA]at HPG HIX
 clear hA
 have hFl:=HasV.lt h
 have HMAP:=Lh (fun(w2 W:World) (bb pb m:Nat) (hI:OI X B n (bx b0) s0 bb pb F w2 m W) (hm:m < 48) hb1 hb2 hp1 hp2=>OI.map (w:=w) hI hm hs hn hBn hFl hb1 hb2 hp1 hp2)
 have HEND:=Lh (fun(w2 W:World) (bb pb:Nat) (hb:Below w.heap.size w w2) (hI:OI X B n (bx b0) s0 bb pb F w2 48 W)=>(show Nx (HasM X) w (bx b0) (upd B s0 (some zeroB)) (n - 48) F W from by
  have h2:=NxV.base hb hI.1
  rw [partV_open B hs]at h2
  exact h2))
 obtain⟨z,hz⟩:=Nm ((s0:Int))
 have HZ:=Lh hz
 have HE0:=Lh (show openA B n z=0 by rw [hz];exact hE)
 rw [←hz]at HPG ⊢
 have HST:=Lh (fun(w2:World) (bb pb:Nat) (hb:Below w.heap.size w w2) (r:Row w2 bb 111 [bx b0,.int .i64 z]) (c:w2.cell? ⟨pb,0,none⟩=some (.int .i64 63))=>(show OI X B n (bx b0) s0 bb pb F w2 0 w2 from
  ⟨by rw [partV_zero];exact NxV.refl (HasV.below h hb) Br,by rw [←hz];exact r,c⟩))
 clear hz hE hs4 hBn hn hs hFl
 obtain⟨W1,hW1⟩:=Nm ((w.alloc (.cells #[.int .i64 63] 3)).alloc (.cells #[bx b0,.int .i64 z] 111))
 have hr1:Row W1 (w.heap.size+1) 111 [bx b0,.int .i64 z]:=by rw [hW1];exact Row.new_at _ _ _ (by simp)
 have hrp:Row W1 w.heap.size 3 [.int .i64 63]:=by rw [hW1];exact(Row.new w _ _).below (below1 _ _)
 have hp1:W1.cell? ⟨w.heap.size,0,none⟩=some (.int .i64 63):=hrp.cell 0
 have hb1:Below w.heap.size w W1:=by rw [hW1];exact(Br.alloc Lr _).alloc (by simp) _
 have hs1:W1.heap.size=w.heap.size+1+1:=by rw [hW1];simp
 have HA:=Lh (asked_at (opL (bx b0) z (w.heap.size+1) w.heap.size (isB z 4) (!(B z.toNat).isSome) (decide (48≤n))) 4 (w.heap.size+1+1) W1 rfl (by omega) hs1 (opL_asks (HasV.below h hb1) hr1 hp1))
 rw [opL_E (bx b0) B n z (w.heap.size+1) w.heap.size]at HA
 simp only [opL,askCells,Ask.val,List.flatMap_cons,List.flatMap_nil,List.append_nil,List.cons_append,List.nil_append]at HA
 have HR1:=Lh hrp
 have HRB:=Lh hr1
 have HB1:=Lh hb1
 have HW1:=Lh hW1
 have HS1:=Lh hs1
 rw [HE0.out]at HA
 clear h hW1 hr1 hrp hp1 hb1 hs1 HE0
 go_enter Tryz.func17,Tryz.ntmps17
 go_wp2_with fail
 refine wp_scope_jump 1 fun R hR hJm=> ?_
 go_wp2_with fail
 rw [←HW1.out]
 refine HA.out.mono ?_
 rintro e w1 ⟨rfl,hb2⟩
 have HB2:=Lh (below0 HB1.out hb2)
 have HRP2:=Lh (HR1.out.below hb2)
 have HRB2:=Lh (HRB.out.below hb2)
 have c0:w1.cell? ⟨w.heap.size+1,0,none⟩=_:=HRB2.out.cell 0
 have c1:w1.cell? ⟨w.heap.size+1,1,none⟩=_:=HRB2.out.cell 1
 clear hb2 HA HB1 HR1 HRB HW1
 go_wp2_with fail
 refine(HPG.out _).mono ?_
 rintro e w2 ⟨rfl,hb3⟩
 have HB3:=Lh (below0 HB2.out hb3)
 have HI0:=Lh (HST.out w2 (w.heap.size+1) w.heap.size HB3.out (HRB2.out.below hb3) ((HRP2.out.below hb3).cell 0))
 have HL:=Lh (show w.heap.size+1 < w2.heap.size from(HRB2.out.below hb3).lt)
 clear hb3 c0 c1 HPG HST HB2 HRP2 HRB2
 go_wp2_with fail
 go_loopw [30] (fun s W=>∃m:Nat,s= .int .i64 (m:Int)∧m≤48∧Hid (OI X B n (bx b0) s0 (w.heap.size+1) w.heap.size F w2 m W)) (fun s _=>48 - (intOf s).toNat)
 case atStart=>exact⟨0,rfl,Nat.zero_le _,HI0⟩
 case round=>
  obtain⟨m,rfl,hm,HI⟩:=hrel
  by_cases h8:m < 48
  ·have d0:decide ((m:Int) < 48)=true:=Dt (by omega)
   have a1:IntKind.i64.wrap ((m:Int)+1)=((m+1:Nat):Int):=(wrapI _ (by omega) (by omega)).trans (by omega)
   have hix:=HIX.out m h8
   have hlt:=HL.out
   have HM:=Lh (HMAP.out w2 wr (w.heap.size+1) w.heap.size m HI.out h8 (by omega) hlt Lr (by omega))
   obtain⟨p,hp⟩:=Nm (64*s0+1+m)
   rw [←hp]at hix HM
   have c0:wr.cell? ⟨w.heap.size+1,0,none⟩=_:=HI.out.2.1.cell 0
   have c1:wr.cell? ⟨w.heap.size,0,none⟩=_:=HI.out.2.2
   clear hp hlt HI HI0 HIX HMAP
   go_wp2_with fail
   refine HM.out.mono ?_
   rintro e w3 ⟨rfl,hI2⟩
   clear c0 c1 HM
   go_wp2
   refine⟨⟨m+1,rfl,by omega,hI2⟩,?_⟩
   show 48 - ((m:Int)+1).toNat < 48 - ((m:Int)).toNat
   omega
  ·have d0:decide ((m:Int) < 48)=false:=Df (by omega)
   obtain rfl:m=48:=by omega
   have HF:=Lh (HEND.out w2 wr _ _ HB3.out HI.out)
   clear HI HI0 HIX HMAP HEND
   go_wp2
   refine hR.out _ _ _ _ (by simp) ?_
   go_ret
   exact⟨rfl,HF.out⟩
theorem open_no (h:HasM X w v B n F) (z:Int) (hE:openA B n z≠0):Calls Tryz.prog 17 #[v,.int .i64 z,.int .i64 63] w fun e w'=>e= .returned (.int .i64 (openA B n z))∧Nx (HasM X) w v B n F w':=by
 obtain⟨b0,rfl⟩:=HasV.bx h
 have HLOW:=Lh (fun W (hb:Below w.heap.size w W)=>nx_low h hb)
 obtain⟨W1,hW1⟩:=Nm ((w.alloc (.cells #[.int .i64 63] 3)).alloc (.cells #[bx b0,.int .i64 z] 111))
 have hr1:Row W1 (w.heap.size+1) 111 [bx b0,.int .i64 z]:=by rw [hW1];exact Row.new_at _ _ _ (by simp)
 have hrp:Row W1 w.heap.size 3 [.int .i64 63]:=by rw [hW1];exact(Row.new w _ _).below (below1 _ _)
 have hp1:W1.cell? ⟨w.heap.size,0,none⟩=some (.int .i64 63):=hrp.cell 0
 have hb1:Below w.heap.size w W1:=by rw [hW1];exact(Br.alloc Lr _).alloc (by simp) _
 have hs1:W1.heap.size=w.heap.size+1+1:=by rw [hW1];simp
 have HA:=Lh (asked_at (opL (bx b0) z (w.heap.size+1) w.heap.size (isB z 4) (!(B z.toNat).isSome) (decide (48≤n))) 4 (w.heap.size+1+1) W1 rfl (by omega) hs1 (opL_asks (HasV.below h hb1) hr1 hp1))
 rw [opL_E (bx b0) B n z (w.heap.size+1) w.heap.size]at HA
 simp only [opL,askCells,Ask.val,List.flatMap_cons,List.flatMap_nil,List.append_nil,List.cons_append,List.nil_append]at HA
 have HR1:=Lh hrp
 have HRB:=Lh hr1
 have HB1:=Lh hb1
 have HW1:=Lh hW1
 have HS1:=Lh hs1
 obtain⟨E,hEE⟩:=Nm (openA B n z)
 rw [←hEE]at HA hE ⊢
 have e0:(E == 0)=false:=by rw [beq_eq_false_iff_ne];exact hE
 clear h hW1 hr1 hrp hp1 hb1 hs1 hEE
 go_enter Tryz.func17,Tryz.ntmps17
 go_wp2_with fail
 refine wp_scope_jump 1 fun R hR hJm=> ?_
 go_wp2_with fail
 rw [←HW1.out]
 refine HA.out.mono ?_
 rintro e w1 ⟨rfl,hb2⟩
 have HF:=Lh (HLOW.out _ (below0 HB1.out hb2))
 clear hb2 HA HB1 HR1 HRB HW1
 go_wp2_with fail
 refine wp_goto (hJm.out _ _ _ _ _ rfl ?_)
 go_wp2
 refine hR.out _ _ _ _ (by simp) ?_
 go_ret
 exact⟨rfl,HF.out⟩
end
section
variable {w w2 w':World} {v:Value} {V V':Vm.Vw} {n n':Nat} {F:Nat→Prop} {B:Bks}
def clL (v:Value) (s:Int) (a1 a2 a3:Bool):List Ask:= [⟨50,#[boV v s],#[],1,a1⟩,⟨52,#[boV v s],#[],2,a2⟩,⟨59,#[boV v s],#[],5,a3⟩]
theorem clL_E (v:Value) (B:Bks) (s:Int):askE (clL v s true (isB s 4) (B s.toNat).isSome)=closeA B s:=by
 unfold closeA openE
 rcases h1:isB s 4 with _ | _
 ·rw [if_pos rfl];rfl
 ·rw [if_neg (by decide)]
  rcases h2:B s.toNat with _ | f <;> rfl
theorem clL_asks (h:HasV X w v (bookV X B) n F) {s:Int}:Asks w (clL v s true (isB s 4) (B s.toNat).isSome):=by
 intro q hq hall
 rcases q with _ | _ | _ | q
 ·exact⟨enters_of Tryz.func50 (by kernel_rfl) rfl,fun V hV=>there_has (h.below hV) s⟩
 ·exact⟨enters_of Tryz.func52 (by kernel_rfl) rfl,fun V _=>owned_any v s V⟩
 ·have t2:isB s 4=true:=hall 1 (by simp [clL]) (by omega)
  obtain⟨k,rfl,hk⟩:=isB_nat t2
  exact⟨enters_of Tryz.func59 (by kernel_rfl) rfl,fun V hV=>open_has (h.below hV) k _ hk (book_some B hk)⟩
 ·simp [clL]at hq
  omega
theorem nil_asks (qs:List Ask) (s:Int) (e:Int):Asks w (⟨50,#[boV (.pointer none) s],#[],e,false⟩ :: qs):=by
 intro q hq hall
 rcases q with _ | q
 ·exact⟨enters_of Tryz.func50 (by kernel_rfl) rfl,fun V _=>there_not s⟩
 ·exact absurd (hall 0 (by simp) (by omega)) (by simp)
def CI (X:Vm.Ctx) (B:Bks) (n:Nat) (v:Value) (s bb:Nat) (F:Nat→Prop) (w2:World) (m:Nat) (W:World):Prop:=NxV X w2 v (partV X B s m none) (n+m) F W∧Row W bb 111 [v,.int .i64 (s:Int)]
theorem CI.unmap {s bb m:Nat} {W:World} {f:Byts} (h:CI X B n v s bb F w2 m W) (hm:m < 48) (hs:s < 4) (hB:B s=some f) (hF:∀k,F k→k < w.heap.size) (hb1:w.heap.size≤bb) (hb2:bb < w2.heap.size):
  Calls Tryz.prog 60 #[v,.int .i64 (((64*s+1+m):Nat):Int)] W fun e w'=>e= .returned (.int .i64 0)∧Hid (CI X B n v s bb F w2 (m+1) w'):=by
 obtain⟨h1,h2⟩:=h
 obtain⟨F',a1,a2,a3⟩:=h1
 have hv:partV X B s m none (((64*s+1+m):Nat):Int)=some (bkp f m):=by
  rw [partV_next,bookV_at B hs hm,hB]
  rfl
 refine(v_unmap a1 (by unfold Pg.pageB;rw [Bool.and_eq_true,decide_eq_true_eq,decide_eq_true_eq];omega) hv rfl).mono fun e w' ⟨e1,e2⟩=>⟨e1,Lh ⟨?_,?_⟩⟩
 ·rw [partV_step,show n+m+1=n+(m+1) by omega]at e2
  exact NxV.step a2 a3 e2
 ·exact e2.row h2 (fun hf=>by rcases a3 _ hf with h | h;have:=hF _ h;omega;omega)
theorem close_yes (h:HasM X w v B n F) (s0:Nat) (hE:closeA B (s0:Int)=0):Calls Tryz.prog 18 #[v,.int .i64 (s0:Int)] w fun e w'=>e= .returned (.int .i64 0)∧Nx (HasM X) w v (upd B s0 none) (n+48) F w':=by
 obtain⟨b0,rfl⟩:=HasV.bx h
 have hcs:isB (s0:Int) 4=true∧∃f,B s0=some f:=by
  unfold closeA openE at hE
  rcases h1:isB (s0:Int) 4 with _ | _
  ·simp [h1]at hE
  ·rw [h1,if_neg (by decide),Int.toNat_natCast]at hE
   rcases h2:B s0 with _ | f
   ·simp [h2]at hE
   ·exact⟨rfl,f,rfl⟩
 obtain⟨hs4,f,hBf⟩:=hcs
 have hs:s0 < 4:=by
  obtain⟨k,e,hk⟩:=isB_nat (b:=4) hs4
  omega
 have HPG:=Lh (fun W=>pages_any (bx b0) s0 W hs)
 have HIX:=Lh (fun j (hj:j < 48) W=>pg_index s0 hj W)
 obtain⟨A,hA⟩:=Nm (pgC s0)
 rw [←hA]at HPG HIX
 clear hA
 have hFl:=HasV.lt h
 have HMAP:=Lh (fun(w2 W:World) (bb m:Nat) (hI:CI X B n (bx b0) s0 bb F w2 m W) (hm:m < 48) hb1 hb2=>CI.unmap (w:=w) hI hm hs hBf hFl hb1 hb2)
 have HEND:=Lh (fun(w2 W:World) (bb:Nat) (hb:Below w.heap.size w w2) (hI:CI X B n (bx b0) s0 bb F w2 48 W)=>(show Nx (HasM X) w (bx b0) (upd B s0 none) (n+48) F W from by
  have h2:=NxV.base hb hI.1
  rw [partV_close B hs]at h2
  exact h2))
 obtain⟨z,hz⟩:=Nm ((s0:Int))
 have HE0:=Lh (show closeA B z=0 by rw [hz];exact hE)
 rw [←hz]at HPG ⊢
 have HST:=Lh (fun(w2:World) (bb:Nat) (hb:Below w.heap.size w w2) (r:Row w2 bb 111 [bx b0,.int .i64 z])=>(show CI X B n (bx b0) s0 bb F w2 0 w2 from
  ⟨by rw [partV_zero];exact NxV.refl (HasV.below h hb) Br,by rw [←hz];exact r⟩))
 clear hz hE hs4 hBf hs hFl
 obtain⟨W1,hW1⟩:=Nm (w.alloc (.cells #[bx b0,.int .i64 z] 111))
 have hr1:Row W1 w.heap.size 111 [bx b0,.int .i64 z]:=by rw [hW1];exact Row.new _ _ _
 have hb1:Below w.heap.size w W1:=by rw [hW1];exact below1 _ _
 have hs1:W1.heap.size=w.heap.size+1:=by rw [hW1];simp
 have HA:=Lh (asked_at (clL (bx b0) z true (isB z 4) (B z.toNat).isSome) 3 (w.heap.size+1) W1 rfl (by omega) hs1 (clL_asks (HasV.below h hb1)))
 rw [clL_E (bx b0) B z]at HA
 simp only [clL,askCells,Ask.val,List.flatMap_cons,List.flatMap_nil,List.append_nil,List.cons_append,List.nil_append]at HA
 have HRB:=Lh hr1
 have HB1:=Lh hb1
 have HW1:=Lh hW1
 rw [HE0.out]at HA
 clear h hW1 hr1 hb1 hs1 HE0
 go_enter Tryz.func18,Tryz.ntmps18
 go_wp2_with fail
 refine wp_scope_jump 1 fun R hR hJm=> ?_
 go_wp2_with fail
 rw [←HW1.out]
 refine HA.out.mono ?_
 rintro e w1 ⟨rfl,hb2⟩
 have HB2:=Lh (below0 HB1.out hb2)
 have HRB2:=Lh (HRB.out.below hb2)
 have c0:w1.cell? ⟨w.heap.size,0,none⟩=_:=HRB2.out.cell 0
 have c1:w1.cell? ⟨w.heap.size,1,none⟩=_:=HRB2.out.cell 1
 clear hb2 HA HB1 HRB HW1
 go_wp2_with fail
 refine(HPG.out _).mono ?_
 rintro e w2 ⟨rfl,hb3⟩
 have HB3:=Lh (below0 HB2.out hb3)
 have HI0:=Lh (HST.out w2 w.heap.size HB3.out (HRB2.out.below hb3))
 have HL:=Lh (show w.heap.size < w2.heap.size from(HRB2.out.below hb3).lt)
 clear hb3 c0 c1 HPG HST HB2 HRB2
 go_wp2_with fail
 go_loopw [27] (fun s W=>∃m:Nat,s= .int .i64 (m:Int)∧m≤48∧Hid (CI X B n (bx b0) s0 w.heap.size F w2 m W)) (fun s _=>48 - (intOf s).toNat)
 case atStart=>exact⟨0,rfl,Nat.zero_le _,HI0⟩
 case round=>
  obtain⟨m,rfl,hm,HI⟩:=hrel
  by_cases h8:m < 48
  ·have d0:decide ((m:Int) < 48)=true:=Dt (by omega)
   have a1:IntKind.i64.wrap ((m:Int)+1)=((m+1:Nat):Int):=(wrapI _ (by omega) (by omega)).trans (by omega)
   have hix:=HIX.out m h8
   have hlt:=HL.out
   have HM:=Lh (HMAP.out w2 wr w.heap.size m HI.out h8 Lr hlt)
   obtain⟨p,hp⟩:=Nm (64*s0+1+m)
   rw [←hp]at hix HM
   have c0:wr.cell? ⟨w.heap.size,0,none⟩=_:=HI.out.2.cell 0
   clear hp hlt HI HI0 HIX HMAP
   go_wp2_with fail
   refine HM.out.mono ?_
   rintro e w3 ⟨rfl,hI2⟩
   clear c0 HM
   go_wp2
   refine⟨⟨m+1,rfl,by omega,hI2⟩,?_⟩
   show 48 - ((m:Int)+1).toNat < 48 - ((m:Int)).toNat
   omega
  ·have d0:decide ((m:Int) < 48)=false:=Df (by omega)
   obtain rfl:m=48:=by omega
   have HF:=Lh (HEND.out w2 wr _ HB3.out HI.out)
   clear HI HI0 HIX HMAP HEND
   go_wp2
   refine hR.out _ _ _ _ (by simp) ?_
   go_ret
   exact⟨rfl,HF.out⟩
theorem close_no (h:HasM X w v B n F) (z:Int) (hE:closeA B z≠0):Calls Tryz.prog 18 #[v,.int .i64 z] w fun e w'=>e= .returned (.int .i64 (closeA B z))∧Nx (HasM X) w v B n F w':=by
 obtain⟨b0,rfl⟩:=HasV.bx h
 have HLOW:=Lh (fun W (hb:Below w.heap.size w W)=>nx_low h hb)
 obtain⟨W1,hW1⟩:=Nm (w.alloc (.cells #[bx b0,.int .i64 z] 111))
 have hr1:Row W1 w.heap.size 111 [bx b0,.int .i64 z]:=by rw [hW1];exact Row.new _ _ _
 have hb1:Below w.heap.size w W1:=by rw [hW1];exact below1 _ _
 have hs1:W1.heap.size=w.heap.size+1:=by rw [hW1];simp
 have HA:=Lh (asked_at (clL (bx b0) z true (isB z 4) (B z.toNat).isSome) 3 (w.heap.size+1) W1 rfl (by omega) hs1 (clL_asks (HasV.below h hb1)))
 rw [clL_E (bx b0) B z]at HA
 simp only [clL,askCells,Ask.val,List.flatMap_cons,List.flatMap_nil,List.append_nil,List.cons_append,List.nil_append]at HA
 have HRB:=Lh hr1
 have HB1:=Lh hb1
 have HW1:=Lh hW1
 obtain⟨E,hEE⟩:=Nm (closeA B z)
 rw [←hEE]at HA hE ⊢
 have e0:(E == 0)=false:=by rw [beq_eq_false_iff_ne];exact hE
 clear h hW1 hr1 hb1 hs1 hEE
 go_enter Tryz.func18,Tryz.ntmps18
 go_wp2_with fail
 refine wp_scope_jump 1 fun R hR hJm=> ?_
 go_wp2_with fail
 rw [←HW1.out]
 refine HA.out.mono ?_
 rintro e w1 ⟨rfl,hb2⟩
 have HF:=Lh (HLOW.out _ (below0 HB1.out hb2))
 clear hb2 HA HB1 HRB HW1
 go_wp2_with fail
 refine wp_goto (hJm.out _ _ _ _ _ rfl ?_)
 go_wp2
 refine hR.out _ _ _ _ (by simp) ?_
 go_ret
 exact⟨rfl,HF.out⟩
theorem close_nil (z:Int) (w:World):Calls Tryz.prog 18 #[.pointer none,.int .i64 z] w fun e w'=>e= .returned (.int .i64 1)∧Below w.heap.size w w':=by
 obtain⟨W1,hW1⟩:=Nm (w.alloc (.cells #[.pointer none,.int .i64 z] 111))
 have hr1:Row W1 w.heap.size 111 [.pointer none,.int .i64 z]:=by rw [hW1];exact Row.new _ _ _
 have hb1:Below w.heap.size w W1:=by rw [hW1];exact below1 _ _
 have hs1:W1.heap.size=w.heap.size+1:=by rw [hW1];simp
 have HA:=Lh (asked_at (clL (.pointer none) z false true true) 3 (w.heap.size+1) W1 rfl (by omega) hs1 (nil_asks _ _ _))
 rw [show askE (clL (.pointer none) z false true true)=1 from rfl]at HA
 simp only [clL,askCells,Ask.val,List.flatMap_cons,List.flatMap_nil,List.append_nil,List.cons_append,List.nil_append]at HA
 have HRB:=Lh hr1
 have HB1:=Lh hb1
 have HW1:=Lh hW1
 clear hW1 hr1 hb1 hs1
 go_enter Tryz.func18,Tryz.ntmps18
 go_wp2_with fail
 refine wp_scope_jump 1 fun R hR hJm=> ?_
 go_wp2_with fail
 rw [←HW1.out]
 refine HA.out.mono ?_
 rintro e w1 ⟨rfl,hb2⟩
 have HF:=Lh (below0 HB1.out hb2)
 clear hb2 HA HB1 HRB HW1
 go_wp2_with fail
 refine wp_goto (hJm.out _ _ _ _ _ rfl ?_)
 go_wp2
 refine hR.out _ _ _ _ (by simp) ?_
 go_ret
 exact⟨rfl,HF.out⟩
theorem open_nil (z y:Int) (w:World):Calls Tryz.prog 17 #[.pointer none,.int .i64 z,.int .i64 y] w fun e w'=>e= .returned (.int .i64 1)∧Below w.heap.size w w':=by
 obtain⟨W1,hW1⟩:=Nm ((w.alloc (.cells #[.int .i64 y] 3)).alloc (.cells #[.pointer none,.int .i64 z] 111))
 have hb1:Below w.heap.size w W1:=by rw [hW1];exact(Br.alloc Lr _).alloc (by simp) _
 have hs1:W1.heap.size=w.heap.size+1+1:=by rw [hW1];simp
 have HA:=Lh (asked_at (⟨50,#[boV (.pointer none) z],#[],1,false⟩ :: (opL (.pointer none) z (w.heap.size+1) w.heap.size true true true).tail) 4 (w.heap.size+1+1) W1 rfl (by omega) hs1 (nil_asks _ _ _))
 rw [show askE (⟨50,#[boV (.pointer none) z],#[],1,false⟩ :: (opL (.pointer none) z (w.heap.size+1) w.heap.size true true true).tail)=1 from rfl]at HA
 simp only [opL,List.tail_cons,askCells,Ask.val,List.flatMap_cons,List.flatMap_nil,List.append_nil,List.cons_append,List.nil_append]at HA
 have HB1:=Lh hb1
 have HW1:=Lh hW1
 clear hW1 hb1 hs1
 go_enter Tryz.func17,Tryz.ntmps17
 go_wp2_with fail
 refine wp_scope_jump 1 fun R hR hJm=> ?_
 go_wp2_with fail
 rw [←HW1.out]
 refine HA.out.mono ?_
 rintro e w1 ⟨rfl,hb2⟩
 have HF:=Lh (below0 HB1.out hb2)
 clear hb2 HA HB1 HW1
 go_wp2_with fail
 refine wp_goto (hJm.out _ _ _ _ _ rfl ?_)
 go_wp2
 refine hR.out _ _ _ _ (by simp) ?_
 go_ret
 exact⟨rfl,HF.out⟩
end
end Go.Proofs.YtfcfbcjiijfjgaaGreatDoor.Me
