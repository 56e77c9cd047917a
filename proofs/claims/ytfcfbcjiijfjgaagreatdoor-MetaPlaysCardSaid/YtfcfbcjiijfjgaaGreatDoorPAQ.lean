import Derived.Test.YtfcfbcjiijfjgaaGreatDoorPAP
set_option maxHeartbeats 4000000
set_option maxRecDepth 100000
namespace Go.Proofs.YtfcfbcjiijfjgaaGreatDoor.Me
open Go.RowKit Go.Shelf
attribute [local go_sem] Oper.semAt_some
def okN (l:List Prt) (nv:Nat→Nat) (k:Nat):Prop:=nv k≤(prt l k).mo
def readL (l:List Prt) (nv:Nat→Nat):Prop:=∀k,k < l.length→okN l nv k
def RdI (w:World) (l:List Prt) (nv:Nat→Nat) (st:Nat→List Value) (tr:TypeId) (fv:Value) (pre:List Nat) (_O:Nat→Prop) (V:World):Prop:=
 Boxed V w.heap.size 263 fv∧Row V (w.heap.size+1) tr (st 0)∧Boxed V (w.heap.size+1+1) 4 (.bool false)∧Row V (w.heap.size+1+1+1) tr (st pre.length)∧Row V (w.heap.size+1+1+1+1) tr (st 0)∧(∀k,k < pre.length→okN l nv k)∧Below w.heap.size w V
def RdX (w:World) (l:List Prt) (nv:Nat→Nat) (st:Nat→List Value) (tr:TypeId) (cc:Code) (_pre:List Nat) (_O:Nat→Prop) (V:World):Prop:=
 cc= .ret∧Row V (w.heap.size+1) tr (st 0)∧Boxed V (w.heap.size+1+1) 4 (.bool false)∧(¬readL l nv)∧Below w.heap.size w V
theorem RdI.abid {w:World} {l:List Prt} {nv:Nat→Nat} {st:Nat→List Value} {tr:TypeId} {fv:Value} {B:Nat} (h:w.heap.size+5≤B):Abid B (RdI w l nv st tr fv):=by
 rintro pre O V V' row ⟨h1,h2,h3,h4,h5,h6,h7⟩ hg hr
 have ne:∀k,k < w.heap.size+5→some k≠row:=fun k hk e=>by have:=hr k e.symm;omega
 exact⟨h1.kept hg (ne _ (by omega)),row_kept h2 hg (ne _ (by omega)),h3.kept hg (ne _ (by omega)),row_kept h4 hg (ne _ (by omega)),row_kept h5 hg (ne _ (by omega)),h6,h7.grown hg h7.size (fun k e=>by have:=hr k e;omega)⟩
theorem RdX.abid {w:World} {l:List Prt} {nv:Nat→Nat} {st:Nat→List Value} {tr:TypeId} {B:Nat} (h:w.heap.size+5≤B) (cc:Code):Abid B (RdX w l nv st tr cc):=by
 rintro pre O V V' row ⟨h0,h2,h3,h6,h7⟩ hg hr
 have ne:∀k,k < w.heap.size+5→some k≠row:=fun k hk e=>by have:=hr k e.symm;omega
 exact⟨h0,row_kept h2 hg (ne _ (by omega)),h3.kept hg (ne _ (by omega)),h6,h7.grown hg h7.size (fun k e=>by have:=hr k e;omega)⟩
theorem read_Rec (a0 a1 a2:Int) (cf:Nat) (cap:Array Value) (nv:Nat→Nat) (st:Nat→List Value) (l:List Prt) (g n c:Nat) (t:TypeId) (w:World) (hrow:Row w g t (prtCells l)) (hn:l.length=n) (hm:n≤6) (hc:n≤c) (hf:∀k,k≤n→frm l k≤1000)
  (hst:st 0= [.int .i64 0,.int .i64 0,.int .u32 0]) (hfin:st n= [.int .i64 a0,.int .i64 a1,.int .u32 a2])
  (eg:∀args w,(callFunc cf args).run Tryz.prog w= .ok (.enter cf args) w)
  (HN:∀k,k < l.length→∀W,Below w.heap.size w W→Calls Tryz.prog cf (#[.int .i64 (frm l k:Int),.int .i64 ((prt l k).wd:Int)] ++ cap) W fun e W'=>e= .returned (.int .i64 (nv k:Int))∧Below W.heap.size W W')
  (EG:∀k,k < l.length→∀args w,(callFunc (prt l k).sf args).run Tryz.prog w= .ok (.enter (prt l k).sf args) w)
  (HS:∀k,k < l.length→okN l nv k→∀(b:Nat) W,Row W b 41 (st k)→Calls Tryz.prog (prt l k).sf #[.pointer (some ⟨b,0,none⟩),.int .i64 (nv k:Int)] W fun e W'=>(∃u,e= .returned u)∧Row W' b 41 (st (k+1))∧Keep (· =b) W W'):
  Calls Tryz.prog 169 #[.func (.func cf) #[] cap,.slice (some ⟨g,0,none⟩) n c] w fun e w'=>∃r,e= .returned (.tuple #[.agg (if r=true then(st n).toArray else(st 0).toArray),.bool r])∧(r=true↔readL l nv)∧Below w.heap.size w w':=by
 have HEG:=Lh EG
 have HNN:=Lh HN
 have HSS:=Lh HS
 have HFN:=Lh hfin
 have HST0:=Lh hst
 clear EG HN HS hfin
 refine calls_marks Tryz.func169 rfl ?_
 simp only [Tryz.ntmps169,List.size_toArray,List.length_cons,List.length_nil,Nat.reduceAdd,Nat.reduceSub,Array.replicate_succ,Array.replicate_zero,List.push_toArray,List.append_toArray,List.nil_append,List.cons_append]
 go_wp2_with fail
 obtain⟨W4,hW4⟩:=Nm ((((((w.alloc (.cells #[.func (.func cf) #[] cap] 263)).alloc (.cells #[.int .i64 0,.int .i64 0,.int .u32 0] 41)).alloc (.cells #[.bool false] 4)).alloc (.cells #[.int .i64 0,.int .i64 0,.int .u32 0] 41)).alloc (.cells #[.int .i64 0,.int .i64 0,.int .u32 0] 41)))
 have hs4:W4.heap.size=w.heap.size+1+1+1+1+1:=by rw [hW4];simp
 have hB4:Below w.heap.size w W4:=by rw [hW4];exact((((Br.alloc Lr _).alloc (by simp) _).alloc (by simp;omega) _).alloc (by simp;omega) _).alloc (by simp;omega) _
 have hX0:Row W4 (w.heap.size) 263 [.func (.func cf) #[] cap]:=by rw [hW4];exact((((Row.new w _ _).below (below1 _ _)).below (below1 _ _)).below (below1 _ _)).below (below1 _ _)
 have hX1:Row W4 (w.heap.size+1) 41 (st 0):=by rw [hW4,hst];exact(((Row.new_at _ _ _ (by simp)).below (below1 _ _)).below (below1 _ _)).below (below1 _ _)
 have hX2:Row W4 (w.heap.size+1+1) 4 [.bool false]:=by rw [hW4];exact((Row.new_at _ _ _ (by simp)).below (below1 _ _)).below (below1 _ _)
 have hX3:Row W4 (w.heap.size+1+1+1) 41 (st 0):=by rw [hW4,hst];exact(Row.new_at _ _ _ (by simp)).below (below1 _ _)
 have hX4:Row W4 (w.heap.size+1+1+1+1) 41 (st 0):=by rw [hW4,hst];exact Row.new_at _ _ _ (by simp)
 rw [←hW4]
 clear hW4 hst
 refine(placed_Rec _ _ _ _).mono ?_
 rintro e W5 ⟨rfl,hW5⟩
 have hb5:Below W4.heap.size W4 W5:=by rw [hW5];exact below1 _ _
 have hs5:W5.heap.size=W4.heap.size+1:=by rw [hW5];simp
 have hr5:Row W5 W4.heap.size 115 [.slice (some ⟨g,0,none⟩) n c]:=by rw [hW5];exact Row.new W4 _ _
 have hB5:=below0 hB4 hb5
 have hpl:Pls W5 W4.heap.size g n l t c:=⟨hr5.cell 0,hrow.below hB5⟩
 have hit:=placed1_Rec W4.heap.size g n c l t W5 hpl hn hm hc hf
 have hpv:=hpl.lt
 rw [hs4]at hit hpv
 have hI0:RdI w l nv st 41 (.func (.func cf) #[] cap) [] (fun _=>False) W5:=⟨hX0.below hb5,hX1.below hb5,hX2.below hb5,hX3.below hb5,hX4.below hb5,fun _ h=>absurd h (Nat.not_lt_zero _),hB5⟩
 have hgl:=hrow.lt
 clear hW5 hb5 hX0 hX1 hX2 hX3 hX4 hB4 hr5 hpl hrow hf
 go_wp2_with fail
 refine wpIn_wide.1 (wpIn_range_box (gf:=231) (lb:= #[.pointer (some ⟨w.heap.size+1+1+1+1+1,0,none⟩)]) rfl (enters_of Tryz.func231 (by kernel_rfl) rfl) hit hpv (fun _=>rfl) (fun _ _ _ _ _ h=>h)
  (RdI w l nv st 41 (.func (.func cf) #[] cap)) (RdX w l nv st 41) (RdI.abid (by omega)) (RdX.abid (by omega)) hI0
  (fun gg x=>{tmps:= #[.func (.func cf) #[] cap,.slice (some ⟨g,0,none⟩) n c,.pointer (some ⟨w.heap.size,0,none⟩),undef,.pointer (some ⟨w.heap.size+1,0,none⟩),.pointer (some ⟨w.heap.size+1+1,0,none⟩),.pointer (some ⟨w.heap.size+1+1+1,0,none⟩),.pointer (some ⟨w.heap.size+1+1+1+1,0,none⟩),.int .i64 (frm l x:Int),.pointer (some ⟨gg,0,none⟩),undef,.slice (some ⟨g,0,none⟩) n c,.func (.func 231) #[] #[.pointer (some ⟨w.heap.size+1+1+1+1+1,0,none⟩)],.int .i64 (frm l x:Int),.agg #[.int .i64 ((prt l x).wd:Int),.int .i64 ((prt l x).mo:Int),.func (.func (prt l x).tf) #[] #[],.func (.func (prt l x).sf) #[] #[]],undef,undef,undef,undef,undef,undef,undef,undef,undef,undef,undef,undef,undef,undef,undef],defers:= []})
  (fun x=> .cells #[.int .i64 ((prt l x).wd:Int),.int .i64 ((prt l x).mo:Int),.func (.func (prt l x).tf) #[] #[],.func (.func (prt l x).sf) #[] #[]] 106) ?assign ?body ?done ?stop)
 case assign=>
  intro l' x W' K hK
  simp only [encP_eq]
  gi_wp2
  exact hK
 case body=>
  rintro l' pre x O V hVs hO ⟨h1,h2,h3,h4,h5,h6,h7⟩ ⟨hxp,hxl⟩ _
  rw [←hxp]at h4
  obtain⟨V1,hV1⟩:=Nm (V.alloc (.cells #[.int .i64 ((prt l x).wd:Int),.int .i64 ((prt l x).mo:Int),.func (.func (prt l x).tf) #[] #[],.func (.func (prt l x).sf) #[] #[]] 106))
  have hb1:Below V.heap.size V V1:=by rw [hV1];exact below1 _ _
  have hz1:V1.heap.size=V.heap.size+1:=by rw [hV1];simp
  have hrp:Row V1 V.heap.size 106 [.int .i64 ((prt l x).wd:Int),.int .i64 ((prt l x).mo:Int),.func (.func (prt l x).tf) #[] #[],.func (.func (prt l x).sf) #[] #[]]:=by rw [hV1];exact Row.new _ _ _
  have h71:=below0 h7 hb1
  have HCALL:=Lh (HNN.out x hxl V1 h71)
  have eg2:=HEG.out x hxl
  have HSAY:=Lh (fun ho b W=>HSS.out x hxl ho b W)
  have hok:okN l nv x=(nv x≤(prt l x).mo):=rfl
  have HNOT:Hid (¬okN l nv x→¬readL l nv):=Lh (fun h hr=>h (hr x hxl))
  obtain⟨p,hp⟩:=Nm (prt l x)
  rw [←hp]at HCALL eg2 HSAY hok hrp ⊢
  obtain⟨a,b,tf,sf⟩:=p
  simp only at HCALL eg2 HSAY hok hrp ⊢
  obtain⟨y,hy⟩:=Nm (nv x)
  rw [←hy]at HCALL HSAY hok
  rw [←hp]at hV1
  simp only at hV1
  rw [←hV1]
  have c0:V1.cell? ⟨V.heap.size,0,none⟩=_:=hrp.cell 0
  have cf0:V1.cell? ⟨w.heap.size,0,none⟩=some (.func (.func cf) #[] cap):=(Boxed.cell ((hb1.block _ (by omega)).trans h1))
  have HOK:=Lh hok
  have HB1:=Lh hb1
  have HRP:=Lh hrp
  have HR:=Lh (And.intro h1 (And.intro h2 (And.intro h3 (And.intro h4 (And.intro h5 (And.intro h6 h71))))))
  have HXP:=Lh hxp
  clear hp hy hV1 hb1 hrp hok h1 h2 h3 h4 h5 h6 h7 h71 hit hI0 hxp
  gi_wp2_with fail
  refine⟨trivial,rfl,CallsIn.inRound l' ((callsIn_wide.2 HCALL.out).mono ?_)⟩
  rintro e V2 ⟨rfl,hb2⟩
  obtain⟨h1,h2,h3,h4,h5,h6,h71⟩:=HR.out
  have hb1:=HB1.out
  have hs2:=hb2.size
  have hbb:Below V.heap.size V V2:=below0 hb1 hb2
  have g1:Boxed V2 (w.heap.size) 263 (.func (.func cf) #[] cap):=(hbb.block _ (by omega)).trans h1
  have g2:Row V2 (w.heap.size+1) 41 (st 0):=h2.below hbb
  have g3:Boxed V2 (w.heap.size+1+1) 4 (.bool false):=(hbb.block _ (by omega)).trans h3
  have g4:Row V2 (w.heap.size+1+1+1) 41 (st x):=h4.below hbb
  have g5:Row V2 (w.heap.size+1+1+1+1) 41 (st 0):=h5.below hbb
  have g7:=below0 h71 hb2
  have c1:V2.cell? ⟨V.heap.size,1,none⟩=_:=(HRP.out.below hb2).cell 1
  have c3:V2.cell? ⟨V.heap.size,3,none⟩=_:=(HRP.out.below hb2).cell 3
  clear h1 h2 h3 h4 h5 h71 hb1 c0 cf0
  by_cases hyb:y≤b
  ·have e0:decide ((y:Int) > (b:Int))=false:=Df (by omega)
   have e1:decide ((b:Int) < (y:Int))=false:=Df (by omega)
   have e2:decide (b < y)=false:=Df (by omega)
   have hok:okN l nv x:=by rw [HOK.out];exact hyb
   have HC2:=Lh (HSAY.out hok _ V2 g4)
   have HFIN:Hid (∀W',Row W' (w.heap.size+1+1+1) 41 (st (x+1))→Keep (· =w.heap.size+1+1+1) V2 W'→Keeps (pvL (w.heap.size+1+1+1+1+1) g) W5.heap.size O (fun _=>False) V W'∧RdI w l nv st 41 (.func (.func cf) #[] cap) (pre ++ [x]) (nextO O (fun _=>False) V W') W'):=Lh fun W' q1 q2=>by
    have qs:=q2.size
    refine⟨⟨by omega,fun k hk hp=>(q2.block k (by omega) (by rcases hp with(h | h) | ⟨h,_⟩ <;> omega)).trans (hbb.block k hk)⟩,(q2.block _ (by omega) (by omega)).trans g1,q2.row g2 (by omega),(q2.block _ (by omega) (by omega)).trans g3,?_,q2.row g5 (by omega),fun k hk=> ?_,g7.trans (q2.below (fun k hk=>by omega) (by omega))⟩
    ·have hl:(pre ++ [x]).length=x+1:=by rw [List.length_append,HXP.out];rfl
     rw [hl]
     exact q1
    ·rw [List.length_append]at hk
     by_cases hkp:k < pre.length
     ·exact h6 k hkp
     ·have hkx:k=x:=by
       have h1:=HXP.out
       simp only [List.length_cons,List.length_nil]at hk
       omega
      subst hkx
      exact hok
   clear g1 g2 g3 g4 g5 g7 hbb h6 hok hyb hb2
   gi_wp2_with fail
   refine⟨trivial,rfl,CallsIn.inRound l' ((callsIn_wide.2 HC2.out).mono ?_)⟩
   rintro e V3 ⟨⟨u,rfl⟩,q1,q2⟩
   have HQ:=Lh (HFIN.out V3 q1 q2)
   clear q1 q2
   gi_wp2_with fail
   exact HQ.out
  ·have e0:decide ((y:Int) > (b:Int))=true:=Dt (by omega)
   have e1:decide ((b:Int) < (y:Int))=true:=Dt (by omega)
   have e2:decide (b < y)=true:=Dt (by omega)
   have hno:¬okN l nv x:=by rw [HOK.out];exact hyb
   have HNO:=Lh (HNOT.out hno)
   rw [HST0.out]at g2 g5
   have HG2:=Lh g2
   have HG3:=Lh g3
   have HG7:=Lh g7
   have HBB:=Lh hbb
   have z0:V2.cell? ⟨w.heap.size+1+1+1+1,0,none⟩=_:=g5.cell 0
   have w0:V2.cell? ⟨w.heap.size+1,0,none⟩=_:=g2.cell 0
   have f0w:=g2.frozen 0
   have z1:V2.cell? ⟨w.heap.size+1+1+1+1,1,none⟩=_:=g5.cell 1
   have w1:V2.cell? ⟨w.heap.size+1,1,none⟩=_:=g2.cell 1
   have f1w:=g2.frozen 1
   have z2:V2.cell? ⟨w.heap.size+1+1+1+1,2,none⟩=_:=g5.cell 2
   have w2:V2.cell? ⟨w.heap.size+1,2,none⟩=_:=g2.cell 2
   have f2w:=g2.frozen 2
   have f3:=g3.frozen
   have f4:=g3.cell
   clear g1 g2 g3 g4 g5 g7 hbb h6 hno hyb hb2 HSAY
   gi_wp2_with fail
   have R8:=row_set3 (.int .i64 0) (.int .i64 0) (.int .u32 0) HG2.out
   have B8:=below_set3 (b:=w.heap.size+1) (.int .i64 0) (.int .i64 0) (.int .u32 0) HG7.out (by omega)
   have G8:Boxed (((V2.setCell ⟨w.heap.size+1,0,none⟩ (.int .i64 0)).setCell ⟨w.heap.size+1,1,none⟩ (.int .i64 0)).setCell ⟨w.heap.size+1,2,none⟩ (.int .u32 0)) (w.heap.size+1+1) 4 (.bool false):=((heap_set (by omega)).trans ((heap_set (by omega)).trans ((heap_set (by omega)).trans HG3.out)))
   clear z0 w0 f0w z1 w1 f1w z2 w2 f2w f3 f4
   have R9:=R8.same (heap_set (b:=w.heap.size+1+1) (o:=0) (v:= .bool false) (by omega))
   refine⟨⟨by simp;omega,fun k hk hp=> ?_⟩,rfl,by rw [HST0.out];exact R9,G8.set (.bool false),HNO.out,B8.setCell (p:=⟨w.heap.size+1+1,0,none⟩) (by show w.heap.size≤w.heap.size+1+1;omega) _⟩
   have hkn:k≠w.heap.size+1∧k≠w.heap.size+1+1:=by rcases hp with(h | h) | ⟨h,_⟩ <;> omega
   exact(heap_set hkn.2).trans ((heap_set hkn.1).trans ((heap_set hkn.1).trans ((heap_set hkn.1).trans (HBB.out.block k hk))))
 case done=>
  intro xs O Z hall hI hD
  obtain⟨h1,h2,h3,h4,h5,h6,h7⟩:=hI
  have hxs:xs.length=n:=by rw [show xs.length=l.length from hall,hn]
  rw [hxs]at h4 h6
  have hrd:readL l nv:=fun k hk=>h6 k (by omega)
  have hne:∀k,k < W5.heap.size→k < w.heap.size+5→(Z.putObj W5.heap.size (.deferred none)).heap[k]?=Z.heap[k]?:=fun k hk _=>World.putObj_heap_other (by omega)
  have HBE:=Lh (show Below w.heap.size w (Z.putObj W5.heap.size (.deferred none)) from h7.grown (putObj_grown Z _ _) h7.size (fun r e=>by cases e;omega))
  have HRD:=Lh hrd
  rw [HFN.out]at h4
  rw [HST0.out]at h2
  have z0:Z.cell? ⟨w.heap.size+1+1+1,0,none⟩=_:=h4.cell 0
  have w0:Z.cell? ⟨w.heap.size+1,0,none⟩=_:=h2.cell 0
  have f0w:=h2.frozen 0
  have z1:Z.cell? ⟨w.heap.size+1+1+1,1,none⟩=_:=h4.cell 1
  have w1:Z.cell? ⟨w.heap.size+1,1,none⟩=_:=h2.cell 1
  have f1w:=h2.frozen 1
  have z2:Z.cell? ⟨w.heap.size+1+1+1,2,none⟩=_:=h4.cell 2
  have w2:Z.cell? ⟨w.heap.size+1,2,none⟩=_:=h2.cell 2
  have f2w:=h2.frozen 2
  have f3:=h3.frozen
  have f4:=h3.cell
  have HG2:=Lh h2
  have HG3:=Lh h3
  have H7:=Lh h7
  have HD:=Lh hD
  clear h1 h2 h3 h4 h5 h6 h7 hit hI0 hD hall hxs hrd hne
  have R8:=row_set3 (.int .i64 a0) (.int .i64 a1) (.int .u32 a2) HG2.out
  have B8:=below_set3 (b:=w.heap.size+1) (.int .i64 a0) (.int .i64 a1) (.int .u32 a2) H7.out (by omega)
  have G8:Boxed (((Z.setCell ⟨w.heap.size+1,0,none⟩ (.int .i64 a0)).setCell ⟨w.heap.size+1,1,none⟩ (.int .i64 a1)).setCell ⟨w.heap.size+1,2,none⟩ (.int .u32 a2)) (w.heap.size+1+1) 4 (.bool false):=((heap_set (by omega)).trans ((heap_set (by omega)).trans ((heap_set (by omega)).trans HG3.out)))
  clear HG2
  have R9:Row ((((Z.setCell ⟨w.heap.size+1,0,none⟩ (.int .i64 a0)).setCell ⟨w.heap.size+1,1,none⟩ (.int .i64 a1)).setCell ⟨w.heap.size+1,2,none⟩ (.int .u32 a2)).setCell ⟨w.heap.size+1+1,0,none⟩ (.bool true)) (w.heap.size+1) 41 [.int .i64 a0,.int .i64 a1,.int .u32 a2]:=R8.same (heap_set (by omega))
  have G9:=G8.set (.bool true)
  have B9:Below w.heap.size w ((((Z.setCell ⟨w.heap.size+1,0,none⟩ (.int .i64 a0)).setCell ⟨w.heap.size+1,1,none⟩ (.int .i64 a1)).setCell ⟨w.heap.size+1,2,none⟩ (.int .u32 a2)).setCell ⟨w.heap.size+1+1,0,none⟩ (.bool true)):=B8.setCell (p:=⟨w.heap.size+1+1,0,none⟩) (by show w.heap.size≤w.heap.size+1+1;omega) _
  have D9:((((Z.setCell ⟨w.heap.size+1,0,none⟩ (.int .i64 a0)).setCell ⟨w.heap.size+1,1,none⟩ (.int .i64 a1)).setCell ⟨w.heap.size+1,2,none⟩ (.int .u32 a2)).setCell ⟨w.heap.size+1+1,0,none⟩ (.bool true)).heap[W5.heap.size]?=some (.deferred (some [])):=(heap_set (by omega)).trans ((heap_set (by omega)).trans ((heap_set (by omega)).trans ((heap_set (by omega)).trans HD.out)))
  obtain⟨WZ,hWZ⟩:=Nm (((((Z.setCell ⟨w.heap.size+1,0,none⟩ (.int .i64 a0)).setCell ⟨w.heap.size+1,1,none⟩ (.int .i64 a1)).setCell ⟨w.heap.size+1,2,none⟩ (.int .u32 a2)).setCell ⟨w.heap.size+1+1,0,none⟩ (.bool true)))
  rw [←hWZ]at R9 G9 B9 D9
  have HWZ:=Lh hWZ
  have HALL:=Lh (And.intro (And.intro R9 G9) (And.intro B9 D9))
  clear R8 B8 G8 R9 G9 B9 D9 hWZ
  go_wp2_with fail
  rw [←HWZ.out]
  obtain⟨⟨R9,G9⟩,B9,D9⟩:=HALL.out
  refine⟨by simp,.inl ⟨_,_,rfl,run_takeDeferred D9,?_⟩⟩
  have R10:Row (WZ.putObj W5.heap.size (.deferred none)) (w.heap.size+1) 41 [.int .i64 a0,.int .i64 a1,.int .u32 a2]:=R9.same (World.putObj_heap_other (by omega))
  have G10:Boxed (WZ.putObj W5.heap.size (.deferred none)) (w.heap.size+1+1) 4 (.bool true):=(World.putObj_heap_other (by omega)).trans G9
  have d0:=R10.cell 0
  have d1:=R10.cell 1
  have d2:=R10.cell 2
  have d9:=G10.cell
  exact⟨.tuple #[.agg #[.int .i64 a0,.int .i64 a1,.int .u32 a2],.bool true],by simp [results,Tryz.results169,go_sem,d0,d1,d2,d9],⟨true,by rw [HFN.out];rfl,⟨fun _=>HRD.out,fun _=>rfl⟩,B9.grown (putObj_grown WZ _ _) B9.size (fun r e=>by cases e;omega)⟩⟩
 case stop=>
  rintro c' xs O Z _ ⟨rfl,h2,h3,h6,h7⟩ hD
  rw [HST0.out]at h2
  have HBE:=Lh (show Below w.heap.size w (Z.putObj W5.heap.size (.deferred none)) from h7.grown (putObj_grown Z _ _) h7.size (fun r e=>by cases e;omega))
  have HG2:=Lh (show Row (Z.putObj W5.heap.size (.deferred none)) (w.heap.size+1) 41 [.int .i64 0,.int .i64 0,.int .u32 0] from h2.same (World.putObj_heap_other (by omega)))
  have HG3:=Lh (show Boxed (Z.putObj W5.heap.size (.deferred none)) (w.heap.size+1+1) 4 (.bool false) from(World.putObj_heap_other (by omega)).trans h3)
  have HNR:=Lh h6
  have HD:=Lh hD
  clear h2 h3 h6 h7 hit hI0 hD
  refine wpIn_wide.2 ?_
  go_wp2_with fail
  refine⟨by simp,.inl ⟨_,_,rfl,run_takeDeferred HD.out,?_⟩⟩
  have d0:=HG2.out.cell 0
  have d1:=HG2.out.cell 1
  have d2:=HG2.out.cell 2
  have d9:=HG3.out.cell
  exact⟨.tuple #[.agg #[.int .i64 0,.int .i64 0,.int .u32 0],.bool false],by simp [results,Tryz.results169,go_sem,d0,d1,d2,d9],⟨false,by rw [HST0.out];rfl,⟨fun h=>(by cases h),fun h=>absurd h HNR.out⟩,HBE.out⟩⟩
theorem read_Gre (a0 a1 a2 a3:Int) (cf:Nat) (cap:Array Value) (nv:Nat→Nat) (st:Nat→List Value) (l:List Prt) (g n c:Nat) (t:TypeId) (w:World) (hrow:Row w g t (prtCells l)) (hn:l.length=n) (hm:n≤6) (hc:n≤c) (hf:∀k,k≤n→frm l k≤1000)
  (hst:st 0= [.int .i64 0,.int .i64 0,.int .i64 0,.int .i64 0]) (hfin:st n= [.int .i64 a0,.int .i64 a1,.int .i64 a2,.int .i64 a3])
  (eg:∀args w,(callFunc cf args).run Tryz.prog w= .ok (.enter cf args) w)
  (HN:∀k,k < l.length→∀W,Below w.heap.size w W→Calls Tryz.prog cf (#[.int .i64 (frm l k:Int),.int .i64 ((prt l k).wd:Int)] ++ cap) W fun e W'=>e= .returned (.int .i64 (nv k:Int))∧Below W.heap.size W W')
  (EG:∀k,k < l.length→∀args w,(callFunc (prt l k).sf args).run Tryz.prog w= .ok (.enter (prt l k).sf args) w)
  (HS:∀k,k < l.length→okN l nv k→∀(b:Nat) W,Row W b 43 (st k)→Calls Tryz.prog (prt l k).sf #[.pointer (some ⟨b,0,none⟩),.int .i64 (nv k:Int)] W fun e W'=>(∃u,e= .returned u)∧Row W' b 43 (st (k+1))∧Keep (· =b) W W'):
  Calls Tryz.prog 174 #[.func (.func cf) #[] cap,.slice (some ⟨g,0,none⟩) n c] w fun e w'=>∃r,e= .returned (.tuple #[.agg (if r=true then(st n).toArray else(st 0).toArray),.bool r])∧(r=true↔readL l nv)∧Below w.heap.size w w':=by
 have HEG:=Lh EG
 have HNN:=Lh HN
 have HSS:=Lh HS
 have HFN:=Lh hfin
 have HST0:=Lh hst
 clear EG HN HS hfin
 refine calls_marks Tryz.func174 rfl ?_
 simp only [Tryz.ntmps174,List.size_toArray,List.length_cons,List.length_nil,Nat.reduceAdd,Nat.reduceSub,Array.replicate_succ,Array.replicate_zero,List.push_toArray,List.append_toArray,List.nil_append,List.cons_append]
 go_wp2_with fail
 obtain⟨W4,hW4⟩:=Nm ((((((w.alloc (.cells #[.func (.func cf) #[] cap] 263)).alloc (.cells #[.int .i64 0,.int .i64 0,.int .i64 0,.int .i64 0] 43)).alloc (.cells #[.bool false] 4)).alloc (.cells #[.int .i64 0,.int .i64 0,.int .i64 0,.int .i64 0] 43)).alloc (.cells #[.int .i64 0,.int .i64 0,.int .i64 0,.int .i64 0] 43)))
 have hs4:W4.heap.size=w.heap.size+1+1+1+1+1:=by rw [hW4];simp
 have hB4:Below w.heap.size w W4:=by rw [hW4];exact((((Br.alloc Lr _).alloc (by simp) _).alloc (by simp;omega) _).alloc (by simp;omega) _).alloc (by simp;omega) _
 have hX0:Row W4 (w.heap.size) 263 [.func (.func cf) #[] cap]:=by rw [hW4];exact((((Row.new w _ _).below (below1 _ _)).below (below1 _ _)).below (below1 _ _)).below (below1 _ _)
 have hX1:Row W4 (w.heap.size+1) 43 (st 0):=by rw [hW4,hst];exact(((Row.new_at _ _ _ (by simp)).below (below1 _ _)).below (below1 _ _)).below (below1 _ _)
 have hX2:Row W4 (w.heap.size+1+1) 4 [.bool false]:=by rw [hW4];exact((Row.new_at _ _ _ (by simp)).below (below1 _ _)).below (below1 _ _)
 have hX3:Row W4 (w.heap.size+1+1+1) 43 (st 0):=by rw [hW4,hst];exact(Row.new_at _ _ _ (by simp)).below (below1 _ _)
 have hX4:Row W4 (w.heap.size+1+1+1+1) 43 (st 0):=by rw [hW4,hst];exact Row.new_at _ _ _ (by simp)
 rw [←hW4]
 clear hW4 hst
 refine(placed_Gre _ _ _ _).mono ?_
 rintro e W5 ⟨rfl,hW5⟩
 have hb5:Below W4.heap.size W4 W5:=by rw [hW5];exact below1 _ _
 have hs5:W5.heap.size=W4.heap.size+1:=by rw [hW5];simp
 have hr5:Row W5 W4.heap.size 126 [.slice (some ⟨g,0,none⟩) n c]:=by rw [hW5];exact Row.new W4 _ _
 have hB5:=below0 hB4 hb5
 have hpl:Pls W5 W4.heap.size g n l t c:=⟨hr5.cell 0,hrow.below hB5⟩
 have hit:=placed1_Gre W4.heap.size g n c l t W5 hpl hn hm hc hf
 have hpv:=hpl.lt
 rw [hs4]at hit hpv
 have hI0:RdI w l nv st 43 (.func (.func cf) #[] cap) [] (fun _=>False) W5:=⟨hX0.below hb5,hX1.below hb5,hX2.below hb5,hX3.below hb5,hX4.below hb5,fun _ h=>absurd h (Nat.not_lt_zero _),hB5⟩
 have hgl:=hrow.lt
 clear hW5 hb5 hX0 hX1 hX2 hX3 hX4 hB4 hr5 hpl hrow hf
 go_wp2_with fail
 refine wpIn_wide.1 (wpIn_range_box (gf:=251) (lb:= #[.pointer (some ⟨w.heap.size+1+1+1+1+1,0,none⟩)]) rfl (enters_of Tryz.func251 (by kernel_rfl) rfl) hit hpv (fun _=>rfl) (fun _ _ _ _ _ h=>h)
  (RdI w l nv st 43 (.func (.func cf) #[] cap)) (RdX w l nv st 43) (RdI.abid (by omega)) (RdX.abid (by omega)) hI0
  (fun gg x=>{tmps:= #[.func (.func cf) #[] cap,.slice (some ⟨g,0,none⟩) n c,.pointer (some ⟨w.heap.size,0,none⟩),undef,.pointer (some ⟨w.heap.size+1,0,none⟩),.pointer (some ⟨w.heap.size+1+1,0,none⟩),.pointer (some ⟨w.heap.size+1+1+1,0,none⟩),.pointer (some ⟨w.heap.size+1+1+1+1,0,none⟩),.int .i64 (frm l x:Int),.pointer (some ⟨gg,0,none⟩),undef,.slice (some ⟨g,0,none⟩) n c,.func (.func 251) #[] #[.pointer (some ⟨w.heap.size+1+1+1+1+1,0,none⟩)],.int .i64 (frm l x:Int),.agg #[.int .i64 ((prt l x).wd:Int),.int .i64 ((prt l x).mo:Int),.func (.func (prt l x).tf) #[] #[],.func (.func (prt l x).sf) #[] #[]],undef,undef,undef,undef,undef,undef,undef,undef,undef,undef,undef,undef,undef,undef,undef],defers:= []})
  (fun x=> .cells #[.int .i64 ((prt l x).wd:Int),.int .i64 ((prt l x).mo:Int),.func (.func (prt l x).tf) #[] #[],.func (.func (prt l x).sf) #[] #[]] 121) ?assign ?body ?done ?stop)
 case assign=>
  intro l' x W' K hK
  simp only [encP_eq]
  gi_wp2
  exact hK
 case body=>
  rintro l' pre x O V hVs hO ⟨h1,h2,h3,h4,h5,h6,h7⟩ ⟨hxp,hxl⟩ _
  rw [←hxp]at h4
  obtain⟨V1,hV1⟩:=Nm (V.alloc (.cells #[.int .i64 ((prt l x).wd:Int),.int .i64 ((prt l x).mo:Int),.func (.func (prt l x).tf) #[] #[],.func (.func (prt l x).sf) #[] #[]] 121))
  have hb1:Below V.heap.size V V1:=by rw [hV1];exact below1 _ _
  have hz1:V1.heap.size=V.heap.size+1:=by rw [hV1];simp
  have hrp:Row V1 V.heap.size 121 [.int .i64 ((prt l x).wd:Int),.int .i64 ((prt l x).mo:Int),.func (.func (prt l x).tf) #[] #[],.func (.func (prt l x).sf) #[] #[]]:=by rw [hV1];exact Row.new _ _ _
  have h71:=below0 h7 hb1
  have HCALL:=Lh (HNN.out x hxl V1 h71)
  have eg2:=HEG.out x hxl
  have HSAY:=Lh (fun ho b W=>HSS.out x hxl ho b W)
  have hok:okN l nv x=(nv x≤(prt l x).mo):=rfl
  have HNOT:Hid (¬okN l nv x→¬readL l nv):=Lh (fun h hr=>h (hr x hxl))
  obtain⟨p,hp⟩:=Nm (prt l x)
  rw [←hp]at HCALL eg2 HSAY hok hrp ⊢
  obtain⟨a,b,tf,sf⟩:=p
  simp only at HCALL eg2 HSAY hok hrp ⊢
  obtain⟨y,hy⟩:=Nm (nv x)
  rw [←hy]at HCALL HSAY hok
  rw [←hp]at hV1
  simp only at hV1
  rw [←hV1]
  have c0:V1.cell? ⟨V.heap.size,0,none⟩=_:=hrp.cell 0
  have cf0:V1.cell? ⟨w.heap.size,0,none⟩=some (.func (.func cf) #[] cap):=(Boxed.cell ((hb1.block _ (by omega)).trans h1))
  have HOK:=Lh hok
  have HB1:=Lh hb1
  have HRP:=Lh hrp
  have HR:=Lh (And.intro h1 (And.intro h2 (And.intro h3 (And.intro h4 (And.intro h5 (And.intro h6 h71))))))
  have HXP:=Lh hxp
  clear hp hy hV1 hb1 hrp hok h1 h2 h3 h4 h5 h6 h7 h71 hit hI0 hxp
  gi_wp2_with fail
  refine⟨trivial,rfl,CallsIn.inRound l' ((callsIn_wide.2 HCALL.out).mono ?_)⟩
  rintro e V2 ⟨rfl,hb2⟩
  obtain⟨h1,h2,h3,h4,h5,h6,h71⟩:=HR.out
  have hb1:=HB1.out
  have hs2:=hb2.size
  have hbb:Below V.heap.size V V2:=below0 hb1 hb2
  have g1:Boxed V2 (w.heap.size) 263 (.func (.func cf) #[] cap):=(hbb.block _ (by omega)).trans h1
  have g2:Row V2 (w.heap.size+1) 43 (st 0):=h2.below hbb
  have g3:Boxed V2 (w.heap.size+1+1) 4 (.bool false):=(hbb.block _ (by omega)).trans h3
  have g4:Row V2 (w.heap.size+1+1+1) 43 (st x):=h4.below hbb
  have g5:Row V2 (w.heap.size+1+1+1+1) 43 (st 0):=h5.below hbb
  have g7:=below0 h71 hb2
  have c1:V2.cell? ⟨V.heap.size,1,none⟩=_:=(HRP.out.below hb2).cell 1
  have c3:V2.cell? ⟨V.heap.size,3,none⟩=_:=(HRP.out.below hb2).cell 3
  clear h1 h2 h3 h4 h5 h71 hb1 c0 cf0
  by_cases hyb:y≤b
  ·have e0:decide ((y:Int) > (b:Int))=false:=Df (by omega)
   have e1:decide ((b:Int) < (y:Int))=false:=Df (by omega)
   have e2:decide (b < y)=false:=Df (by omega)
   have hok:okN l nv x:=by rw [HOK.out];exact hyb
   have HC2:=Lh (HSAY.out hok _ V2 g4)
   have HFIN:Hid (∀W',Row W' (w.heap.size+1+1+1) 43 (st (x+1))→Keep (· =w.heap.size+1+1+1) V2 W'→Keeps (pvL (w.heap.size+1+1+1+1+1) g) W5.heap.size O (fun _=>False) V W'∧RdI w l nv st 43 (.func (.func cf) #[] cap) (pre ++ [x]) (nextO O (fun _=>False) V W') W'):=Lh fun W' q1 q2=>by
    have qs:=q2.size
    refine⟨⟨by omega,fun k hk hp=>(q2.block k (by omega) (by rcases hp with(h | h) | ⟨h,_⟩ <;> omega)).trans (hbb.block k hk)⟩,(q2.block _ (by omega) (by omega)).trans g1,q2.row g2 (by omega),(q2.block _ (by omega) (by omega)).trans g3,?_,q2.row g5 (by omega),fun k hk=> ?_,g7.trans (q2.below (fun k hk=>by omega) (by omega))⟩
    ·have hl:(pre ++ [x]).length=x+1:=by rw [List.length_append,HXP.out];rfl
     rw [hl]
     exact q1
    ·rw [List.length_append]at hk
     by_cases hkp:k < pre.length
     ·exact h6 k hkp
     ·have hkx:k=x:=by
       have h1:=HXP.out
       simp only [List.length_cons,List.length_nil]at hk
       omega
      subst hkx
      exact hok
   clear g1 g2 g3 g4 g5 g7 hbb h6 hok hyb hb2
   gi_wp2_with fail
   refine⟨trivial,rfl,CallsIn.inRound l' ((callsIn_wide.2 HC2.out).mono ?_)⟩
   rintro e V3 ⟨⟨u,rfl⟩,q1,q2⟩
   have HQ:=Lh (HFIN.out V3 q1 q2)
   clear q1 q2
   gi_wp2_with fail
   exact HQ.out
  ·have e0:decide ((y:Int) > (b:Int))=true:=Dt (by omega)
   have e1:decide ((b:Int) < (y:Int))=true:=Dt (by omega)
   have e2:decide (b < y)=true:=Dt (by omega)
   have hno:¬okN l nv x:=by rw [HOK.out];exact hyb
   have HNO:=Lh (HNOT.out hno)
   rw [HST0.out]at g2 g5
   have HG2:=Lh g2
   have HG3:=Lh g3
   have HG7:=Lh g7
   have HBB:=Lh hbb
   have z0:V2.cell? ⟨w.heap.size+1+1+1+1,0,none⟩=_:=g5.cell 0
   have w0:V2.cell? ⟨w.heap.size+1,0,none⟩=_:=g2.cell 0
   have f0w:=g2.frozen 0
   have z1:V2.cell? ⟨w.heap.size+1+1+1+1,1,none⟩=_:=g5.cell 1
   have w1:V2.cell? ⟨w.heap.size+1,1,none⟩=_:=g2.cell 1
   have f1w:=g2.frozen 1
   have z2:V2.cell? ⟨w.heap.size+1+1+1+1,2,none⟩=_:=g5.cell 2
   have w2:V2.cell? ⟨w.heap.size+1,2,none⟩=_:=g2.cell 2
   have f2w:=g2.frozen 2
   have z3:V2.cell? ⟨w.heap.size+1+1+1+1,3,none⟩=_:=g5.cell 3
   have w3:V2.cell? ⟨w.heap.size+1,3,none⟩=_:=g2.cell 3
   have f3w:=g2.frozen 3
   have f3:=g3.frozen
   have f4:=g3.cell
   clear g1 g2 g3 g4 g5 g7 hbb h6 hno hyb hb2 HSAY
   gi_wp2_with fail
   have R8:=row_set4 (.int .i64 0) (.int .i64 0) (.int .i64 0) (.int .i64 0) HG2.out
   have B8:=below_set4 (b:=w.heap.size+1) (.int .i64 0) (.int .i64 0) (.int .i64 0) (.int .i64 0) HG7.out (by omega)
   have G8:Boxed ((((V2.setCell ⟨w.heap.size+1,0,none⟩ (.int .i64 0)).setCell ⟨w.heap.size+1,1,none⟩ (.int .i64 0)).setCell ⟨w.heap.size+1,2,none⟩ (.int .i64 0)).setCell ⟨w.heap.size+1,3,none⟩ (.int .i64 0)) (w.heap.size+1+1) 4 (.bool false):=((heap_set (by omega)).trans ((heap_set (by omega)).trans ((heap_set (by omega)).trans ((heap_set (by omega)).trans HG3.out))))
   clear z0 w0 f0w z1 w1 f1w z2 w2 f2w z3 w3 f3w f3 f4
   have R9:=R8.same (heap_set (b:=w.heap.size+1+1) (o:=0) (v:= .bool false) (by omega))
   refine⟨⟨by simp;omega,fun k hk hp=> ?_⟩,rfl,by rw [HST0.out];exact R9,G8.set (.bool false),HNO.out,B8.setCell (p:=⟨w.heap.size+1+1,0,none⟩) (by show w.heap.size≤w.heap.size+1+1;omega) _⟩
   have hkn:k≠w.heap.size+1∧k≠w.heap.size+1+1:=by rcases hp with(h | h) | ⟨h,_⟩ <;> omega
   exact(heap_set hkn.2).trans ((heap_set hkn.1).trans ((heap_set hkn.1).trans ((heap_set hkn.1).trans ((heap_set hkn.1).trans (HBB.out.block k hk)))))
 case done=>
  intro xs O Z hall hI hD
  obtain⟨h1,h2,h3,h4,h5,h6,h7⟩:=hI
  have hxs:xs.length=n:=by rw [show xs.length=l.length from hall,hn]
  rw [hxs]at h4 h6
  have hrd:readL l nv:=fun k hk=>h6 k (by omega)
  have hne:∀k,k < W5.heap.size→k < w.heap.size+5→(Z.putObj W5.heap.size (.deferred none)).heap[k]?=Z.heap[k]?:=fun k hk _=>World.putObj_heap_other (by omega)
  have HBE:=Lh (show Below w.heap.size w (Z.putObj W5.heap.size (.deferred none)) from h7.grown (putObj_grown Z _ _) h7.size (fun r e=>by cases e;omega))
  have HRD:=Lh hrd
  rw [HFN.out]at h4
  rw [HST0.out]at h2
  have z0:Z.cell? ⟨w.heap.size+1+1+1,0,none⟩=_:=h4.cell 0
  have w0:Z.cell? ⟨w.heap.size+1,0,none⟩=_:=h2.cell 0
  have f0w:=h2.frozen 0
  have z1:Z.cell? ⟨w.heap.size+1+1+1,1,none⟩=_:=h4.cell 1
  have w1:Z.cell? ⟨w.heap.size+1,1,none⟩=_:=h2.cell 1
  have f1w:=h2.frozen 1
  have z2:Z.cell? ⟨w.heap.size+1+1+1,2,none⟩=_:=h4.cell 2
  have w2:Z.cell? ⟨w.heap.size+1,2,none⟩=_:=h2.cell 2
  have f2w:=h2.frozen 2
  have z3:Z.cell? ⟨w.heap.size+1+1+1,3,none⟩=_:=h4.cell 3
  have w3:Z.cell? ⟨w.heap.size+1,3,none⟩=_:=h2.cell 3
  have f3w:=h2.frozen 3
  have f3:=h3.frozen
  have f4:=h3.cell
  have HG2:=Lh h2
  have HG3:=Lh h3
  have H7:=Lh h7
  have HD:=Lh hD
  clear h1 h2 h3 h4 h5 h6 h7 hit hI0 hD hall hxs hrd hne
  have R8:=row_set4 (.int .i64 a0) (.int .i64 a1) (.int .i64 a2) (.int .i64 a3) HG2.out
  have B8:=below_set4 (b:=w.heap.size+1) (.int .i64 a0) (.int .i64 a1) (.int .i64 a2) (.int .i64 a3) H7.out (by omega)
  have G8:Boxed ((((Z.setCell ⟨w.heap.size+1,0,none⟩ (.int .i64 a0)).setCell ⟨w.heap.size+1,1,none⟩ (.int .i64 a1)).setCell ⟨w.heap.size+1,2,none⟩ (.int .i64 a2)).setCell ⟨w.heap.size+1,3,none⟩ (.int .i64 a3)) (w.heap.size+1+1) 4 (.bool false):=((heap_set (by omega)).trans ((heap_set (by omega)).trans ((heap_set (by omega)).trans ((heap_set (by omega)).trans HG3.out))))
  clear HG2
  have R9:Row (((((Z.setCell ⟨w.heap.size+1,0,none⟩ (.int .i64 a0)).setCell ⟨w.heap.size+1,1,none⟩ (.int .i64 a1)).setCell ⟨w.heap.size+1,2,none⟩ (.int .i64 a2)).setCell ⟨w.heap.size+1,3,none⟩ (.int .i64 a3)).setCell ⟨w.heap.size+1+1,0,none⟩ (.bool true)) (w.heap.size+1) 43 [.int .i64 a0,.int .i64 a1,.int .i64 a2,.int .i64 a3]:=R8.same (heap_set (by omega))
  have G9:=G8.set (.bool true)
  have B9:Below w.heap.size w (((((Z.setCell ⟨w.heap.size+1,0,none⟩ (.int .i64 a0)).setCell ⟨w.heap.size+1,1,none⟩ (.int .i64 a1)).setCell ⟨w.heap.size+1,2,none⟩ (.int .i64 a2)).setCell ⟨w.heap.size+1,3,none⟩ (.int .i64 a3)).setCell ⟨w.heap.size+1+1,0,none⟩ (.bool true)):=B8.setCell (p:=⟨w.heap.size+1+1,0,none⟩) (by show w.heap.size≤w.heap.size+1+1;omega) _
  have D9:(((((Z.setCell ⟨w.heap.size+1,0,none⟩ (.int .i64 a0)).setCell ⟨w.heap.size+1,1,none⟩ (.int .i64 a1)).setCell ⟨w.heap.size+1,2,none⟩ (.int .i64 a2)).setCell ⟨w.heap.size+1,3,none⟩ (.int .i64 a3)).setCell ⟨w.heap.size+1+1,0,none⟩ (.bool true)).heap[W5.heap.size]?=some (.deferred (some [])):=(heap_set (by omega)).trans ((heap_set (by omega)).trans ((heap_set (by omega)).trans ((heap_set (by omega)).trans ((heap_set (by omega)).trans HD.out))))
  obtain⟨WZ,hWZ⟩:=Nm ((((((Z.setCell ⟨w.heap.size+1,0,none⟩ (.int .i64 a0)).setCell ⟨w.heap.size+1,1,none⟩ (.int .i64 a1)).setCell ⟨w.heap.size+1,2,none⟩ (.int .i64 a2)).setCell ⟨w.heap.size+1,3,none⟩ (.int .i64 a3)).setCell ⟨w.heap.size+1+1,0,none⟩ (.bool true)))
  rw [←hWZ]at R9 G9 B9 D9
  have HWZ:=Lh hWZ
  have HALL:=Lh (And.intro (And.intro R9 G9) (And.intro B9 D9))
  clear R8 B8 G8 R9 G9 B9 D9 hWZ
  go_wp2_with fail
  rw [←HWZ.out]
  obtain⟨⟨R9,G9⟩,B9,D9⟩:=HALL.out
  refine⟨by simp,.inl ⟨_,_,rfl,run_takeDeferred D9,?_⟩⟩
  have R10:Row (WZ.putObj W5.heap.size (.deferred none)) (w.heap.size+1) 43 [.int .i64 a0,.int .i64 a1,.int .i64 a2,.int .i64 a3]:=R9.same (World.putObj_heap_other (by omega))
  have G10:Boxed (WZ.putObj W5.heap.size (.deferred none)) (w.heap.size+1+1) 4 (.bool true):=(World.putObj_heap_other (by omega)).trans G9
  have d0:=R10.cell 0
  have d1:=R10.cell 1
  have d2:=R10.cell 2
  have d3:=R10.cell 3
  have d9:=G10.cell
  exact⟨.tuple #[.agg #[.int .i64 a0,.int .i64 a1,.int .i64 a2,.int .i64 a3],.bool true],by simp [results,Tryz.results174,go_sem,d0,d1,d2,d3,d9],⟨true,by rw [HFN.out];rfl,⟨fun _=>HRD.out,fun _=>rfl⟩,B9.grown (putObj_grown WZ _ _) B9.size (fun r e=>by cases e;omega)⟩⟩
 case stop=>
  rintro c' xs O Z _ ⟨rfl,h2,h3,h6,h7⟩ hD
  rw [HST0.out]at h2
  have HBE:=Lh (show Below w.heap.size w (Z.putObj W5.heap.size (.deferred none)) from h7.grown (putObj_grown Z _ _) h7.size (fun r e=>by cases e;omega))
  have HG2:=Lh (show Row (Z.putObj W5.heap.size (.deferred none)) (w.heap.size+1) 43 [.int .i64 0,.int .i64 0,.int .i64 0,.int .i64 0] from h2.same (World.putObj_heap_other (by omega)))
  have HG3:=Lh (show Boxed (Z.putObj W5.heap.size (.deferred none)) (w.heap.size+1+1) 4 (.bool false) from(World.putObj_heap_other (by omega)).trans h3)
  have HNR:=Lh h6
  have HD:=Lh hD
  clear h2 h3 h6 h7 hit hI0 hD
  refine wpIn_wide.2 ?_
  go_wp2_with fail
  refine⟨by simp,.inl ⟨_,_,rfl,run_takeDeferred HD.out,?_⟩⟩
  have d0:=HG2.out.cell 0
  have d1:=HG2.out.cell 1
  have d2:=HG2.out.cell 2
  have d3:=HG2.out.cell 3
  have d9:=HG3.out.cell
  exact⟨.tuple #[.agg #[.int .i64 0,.int .i64 0,.int .i64 0,.int .i64 0],.bool false],by simp [results,Tryz.results174,go_sem,d0,d1,d2,d3,d9],⟨false,by rw [HST0.out];rfl,⟨fun h=>(by cases h),fun h=>absurd h HNR.out⟩,HBE.out⟩⟩
end Go.Proofs.YtfcfbcjiijfjgaaGreatDoor.Me
namespace Go.Proofs.YtfcfbcjiijfjgaaGreatDoor.Vm
open Go.RowKit Go.Shelf Go.Maps Go.Sort
attribute [local go_sem] Oper.semAt_some
theorem own_ne {w:World} {B1 B2 s1 s2 n1 n2 k:Nat} {e1 e2:TypeId} {v1 v2:Value} {xs1 xs2:List Value} (h1:w.ownsRow B1 e1 s1 v1 n1 xs1) (h2:w.ownsRow B2 e2 s2 v2 n2 xs2) (he:e1≠e2) (hk:v1.ownBlock=some k):v2.ownBlock≠some k:=by
 intro hk2
 obtain⟨_,⟨rfl,rfl⟩ | ⟨g,c,cur,rfl,hg,hh,_⟩⟩:=h1
 ·cases hk
 ·obtain⟨_,⟨rfl,rfl⟩ | ⟨g',c',cur',rfl,hg',hh',_⟩⟩:=h2
  ·cases hk2
  ·have e1:g=k:=Option.some.inj hk
   have e2:g'=k:=Option.some.inj hk2
   subst e1
   subst e2
   have:=hh.symm.trans hh'
   injection this with this
   injection this with _ h _
   exact he h
section
variable {w w':World} {b t q:Nat} {l:Pg.Tb} {p:Pl} {F1 F2:Nat→Prop}
theorem MRep.keep (h:MRep w b t q l p F1 F2) (hk:∀k,(k=b∨F1 k∨F2 k)→w'.heap[k]?=w.heap[k]?):MRep w' b t q l p F1 F2:=
 ⟨h.obj.same (hk b (.inl rfl)),h.tab.keep fun k hf=>hk k (.inr (.inl hf)),h.pool.keep fun k hf=>hk k (.inr (.inr hf)),h.apart,h.b1,h.b2⟩
theorem MRep.lt (h:MRep w b t q l p F1 F2):∀k,(k=b∨F1 k∨F2 k)→k < w.heap.size:=by
 rintro k (rfl | hf | hf)
 ·exact h.obj.lt
 ·exact h.tab.lt k hf
 ·exact h.pool.lt k hf
end
theorem getX_i64 {l:Pg.Tb} (h:Pg.Tok l) (z:Int):Pg.I64 (Pg.getX l z).2.2:=by
 unfold Pg.getX
 cases hl:Pg.look l z with
 | none=>simp [Pg.zeroEn,Pg.I64]
 | some e=>exact(h.big _ ((Pg.look_mem h.sorted).1 hl)).2.2
def pce (p:Pl) (l:Pg.Tb) (x:Part):List UInt8:=readP p (Pg.getX l (x.1:Int)).2.2 (x.2.1:Int) (x.2.2:Int)
def Mine (w:World) (O:Nat→Prop) (V:World) (u:Value) (bs:List UInt8):Prop:=∃A n c,u= .slice A n c∧n=bs.length∧V.ownsRow w.heap.size 5 1 (.slice A n c) n (byt bs)∧∀k,(Value.slice A n c).ownBlock=some k→O k
structure RdRel (w:World) (gm b t q:Nat) (l:Pg.Tb) (p:Pl) (F1 F2:Nat→Prop) (pre:List Part) (s:Sl3) (O:Nat→Prop) (V:World):Prop where
 many:s.2.1=pre.length
 size:w.heap.size≤V.heap.size
 list:∃vs:List Value,vs.length=pre.length∧V.ownsRow w.heap.size 172 1 (slV s) pre.length vs∧(∀k,(slV s).ownBlock=some k→O k)∧∀i (h:i < pre.length),∃u,vs[i]?=some u∧Mine w O V u (pce p l pre[i])
 mem:MRep V b t q l p F1 F2
 box:V.cell? ⟨gm,0,none⟩=some (bx b)
theorem Mine.keep {w V V':World} {O O2:Nat→Prop} {u:Value} {bs:List UInt8} (h:Mine w O V u bs) (hO:∀k,O k→O2 k) (hk:∀k,O k→u.ownBlock=some k→V'.heap[k]?=V.heap[k]?):Mine w O2 V' u bs:=by
 obtain⟨A,n,c,rfl,h1,h2,h3⟩:=h
 exact⟨A,n,c,rfl,h1,own_same h2 (fun k e=>hk k (h3 k e) e),fun k e=>hO k (h3 k e)⟩
theorem Mine.lt {w V:World} {O:Nat→Prop} {u:Value} {bs:List UInt8} (h:Mine w O V u bs) {k:Nat} (hk:u.ownBlock=some k):k < V.heap.size:=by
 obtain⟨A,n,c,rfl,h1,h2,h3⟩:=h
 exact own_lt h2 hk
theorem slice_info:(Tryz.prog.info? 172).map (fun i=>(i.zero,i.size,i.bytes))=some (some (.slice none 0 0),1,24):=by kernel_rfl
theorem read1_any {w V:World} {gm b t q:Nat} {l:Pg.Tb} {p:Pl} {F1 F2 O:Nat→Prop} {pre:List Part} {s:Sl3} (h0:MRep w b t q l p F1 F2) (hg:gm < w.heap.size) (hgF:gm≠b∧¬F1 gm∧¬F2 gm) (hO:∀k,O k→w.heap.size≤k∧k < V.heap.size) (h:RdRel w gm b t q l p F1 F2 pre s O V) (hlen:pre.length≤1000000) (x:Part) (hx:x.1 < 65536) (hx2:x.2.1 < 256) (hx3:x.2.2≤256):
  Calls Tryz.prog 244 (#[slV s,enc3 x] ++ #[bx gm]) V fun e V'=>∃v',e= .returned (slV v')∧V.heap.size≤V'.heap.size∧RdRel w gm b t q l p F1 F2 (pre ++ [x]) v' (fun k=>O k∨(V.heap.size≤k∧k < V'.heap.size)) V'∧Keep (fun k=>False∨O k) V V':=by
 obtain⟨i0,hi,hz0,hz1,hz2⟩:=info_parts slice_info
 obtain⟨sA,sm,sc⟩:=s
 obtain⟨h1,hsz,⟨vs,hvl,hown,hvO,hmine⟩,hmem,hbox⟩:=h
 simp only at h1
 subst h1
 obtain⟨pg,pl,k⟩:=x
 simp only at hx hx2 hx3
 obtain⟨L,hL⟩:=Nm (pre.length)
 obtain⟨V1,hV1⟩:=Nm (V.alloc (.cells #[.int .i64 (pg:Int),.int .i64 (pl:Int),.int .i64 (k:Int)] 295))
 have hb1:Below V.heap.size V V1:=by rw [hV1];exact below1 _ _
 have hz1':V1.heap.size=V.heap.size+1:=by rw [hV1];simp
 have hrow:Row V1 V.heap.size 295 [.int .i64 (pg:Int),.int .i64 (pl:Int),.int .i64 (k:Int)]:=by rw [hV1];exact Row.new V 295 [.int .i64 (pg:Int),.int .i64 (pl:Int),.int .i64 (k:Int)]
 have HSS:=Lh (fun(W:World) (hb:Below V1.heap.size V1 W)=>(show W.cell? ⟨gm,0,none⟩=some (bx b)∧W.cell? ⟨b,0,none⟩=some (bx t)∧W.cell? ⟨b,1,none⟩=some (bx q)∧W.cell? ⟨V.heap.size,0,none⟩=some (.int .i64 (pg:Int))∧W.cell? ⟨V.heap.size,1,none⟩=some (.int .i64 (pl:Int))∧W.cell? ⟨V.heap.size,2,none⟩=some (.int .i64 (k:Int)) from
  ⟨((below0 hb1 hb).cell (p:=⟨gm,0,none⟩) (by show gm < _;omega)).trans hbox,(hmem.below (below0 hb1 hb)).c0,(hmem.below (below0 hb1 hb)).c1,(hrow.below hb).cell 0,(hrow.below hb).cell 1,(hrow.below hb).cell 2⟩))
 have HFR:=Lh (fun(W:World) (hb:Below V1.heap.size V1 W)=>framed_any (hmem.below (below0 hb1 hb)).tab (pg:Int) (by unfold Pg.I64;omega))
 have hfi:=getX_i64 hmem.tab.ok (pg:Int)
 unfold Pg.I64 at hfi
 have HRD:=Lh (fun(W:World) (hb:Below V1.heap.size V1 W)=>read_any (hmem.below (below0 hb1 hb)).pool (Pg.getX l (pg:Int)).2.2 (pl:Int) (k:Int) hfi.2 (by omega))
 have hpce:pce p l (pg,pl,k)=readP p (Pg.getX l (pg:Int)).2.2 (pl:Int) (k:Int):=rfl
 obtain⟨f,hf⟩:=Nm ((Pg.getX l (pg:Int)).2.2)
 rw [←hf]at HFR HRD hpce
 obtain⟨E,hE⟩:=Nm (reachE p f (pl:Int) (k:Int))
 rw [←hE]at HRD
 rw [←hpce]at HRD
 have HF:=Lh (And.intro hmem (And.intro hbox (And.intro hvO hmine)))
 have HVL:=Lh (And.intro hvl hsz)
 have HHL:=Lh hL
 have HO:=Lh hO
 have HN:=Lh hlen
 have HB1:=Lh (And.intro hb1 hz1')
 have HM0:=Lh (And.intro h0 (And.intro hg hgF))
 have hownV:Hid (V.ownsRow w.heap.size 172 1 (.slice sA L sc) pre.length vs):=by rw [hL];exact Lh hown
 have HOWN:=Lh (fun W (hb:Below V1.heap.size V1 W)=>(own_same hown (fun kk e=>(below0 hb1 hb).block kk (own_lt hown e)):W.ownsRow w.heap.size 172 1 (slV (sA,pre.length,sc)) pre.length vs))
 rw [←hL]at HOWN ⊢
 simp only [slV]at HOWN
 show Calls _ _ #[.slice sA L sc,.agg #[.int .i64 (pg:Int),.int .i64 (pl:Int),.int .i64 (k:Int)],bx gm] _ _
 clear hfi hpce hf hE hmem hbox hvO hmine hvl hsz hL hO hlen hb1 hz1' h0 hg hgF hown hrow hx hx2 hx3
 go_enter Tryz.func244,Tryz.ntmps244
 go_wp2_with fail
 rw [←hV1]
 clear hV1
 have hdr:Below V1.heap.size V1 V1.drew:=Br.drew
 refine wp_region_held_drew (S:=fun W=>W.cell? ⟨gm,0,none⟩=some (bx b)∧W.cell? ⟨b,0,none⟩=some (bx t)∧W.cell? ⟨b,1,none⟩=some (bx q)∧W.cell? ⟨V.heap.size,0,none⟩=some (.int .i64 (pg:Int))∧W.cell? ⟨V.heap.size,1,none⟩=some (.int .i64 (pl:Int))∧W.cell? ⟨V.heap.size,2,none⟩=some (.int .i64 (k:Int))) (by kernel_rfl) (HSS.out _ hdr) (fun hZ=> ?_)
 refine tkH 0 hZ ?_
 simp only [Act.put]
 refine tkH 1 hZ ?_
 simp only [Act.put]
 refine tkH 2 hZ ?_
 simp only [Act.put]
 refine tkH 3 hZ ?_
 simp only [Act.put]
 refine tkH 4 hZ ?_
 simp only [Act.put]
 refine tkH 5 hZ ?_
 simp only [Act.put]
 refine tkH 6 hZ ?_
 simp only [Act.put]
 refine tkH 7 hZ ?_
 simp only [Act.put]
 refine tkH 8 hZ ?_
 simp only [Act.put]
 refine tkH 9 hZ ?_
 simp only [Act.put]
 refine tkH 11 hZ ?_
 simp only [Act.put]
 refine tkH 12 hZ ?_
 simp only [Act.put]
 refine tkH 13 hZ ?_
 simp only [Act.put]
 refine tkH 14 hZ ?_
 simp only [Act.put]
 refine rdH 10 fun K hK=> ?_
 go_simp
 refine(HFR.out _ hdr).mono ?_
 rintro e W1 ⟨rfl,hb2⟩
 replace hb2:=below0 hdr hb2
 refine hK.out _ _ (HSS.out _ hb2) (fun hZ=> ?_)
 clear hK K
 try simp only [Act.put]
 refine rdH 15 fun K hK=> ?_
 go_simp
 refine(HRD.out _ hb2).mono ?_
 rintro e W2 ⟨A,n,c,rfl,hn,hnc,hown2,hb3⟩
 have HP:=Lh (And.intro hn (And.intro hown2 (And.intro hb2 hb3)))
 replace hb3:=below0 hb2 hb3
 refine hK.out _ _ (HSS.out _ hb3) (fun hZ=> ?_)
 clear hK K hown2 hn hnc hb2 hdr
 try simp only [Act.put]
 refine tkH 16 hZ ?_
 simp only [Act.put]
 refine tkH 17 hZ ?_
 simp only [Act.put]
 refine tkH 18 hZ ?_
 simp only [Act.put]
 refine rdH 19 fun K hK=> ?_
 go_simp
 refine hK.out _ _ (HSS.out _ hb3) (fun hZ=> ?_)
 clear hK K
 try simp only [Act.put]
 refine rdH 20 fun K hK=> ?_
 go_simp
 refine hK.out _ _ (HSS.out _ hb3) (fun hZ=> ?_)
 clear hK K
 try simp only [Act.put]
 refine wpAnyH_done (by kernel_rfl) ?_ _
 clear HSS HFR HRD
 have hownA:=(HOWN.out _ hb3).alloc (.cells #[.slice A n c] 172)
 have HB3:=Lh hb3
 have hsz3:w.heap.size≤W2.heap.size+1:=by have:=hb3.size;have:=HB1.out.2;have:=HVL.out.2;omega
 have hLn:=HN.out
 rw [←HHL.out]at hLn
 clear hb3 HOWN
 go_wp2_with (at_builtin;go_loud (refine wpList_append_sees rfl (.tmp 27) (.tmp 29) 248 rfl w.heap.size 172 i0 _ 1 24 Tryz.underlying248 hi hz0 hz1 hz2 rfl (by decide) (.slice sA L sc) L vs rfl hownA _ (some ⟨W2.heap.size,0,none⟩) 1 1 [.slice A n c] rfl rfl (Row.new W2 172 [.slice A n c]).sees (by simp [Value.oneCell']) (by unfold maxLen;omega) (by omega) (by simp;omega) ?_;intro v' w1 hown' hg1 hgg;obtain⟨A',c',rfl⟩:=own_slice hown'))
 have HFIN:=Lh (show V.heap.size≤w1.heap.size∧RdRel w gm b t q l p F1 F2 (pre ++ [(pg,pl,k)]) (A',L+1,c') (fun kk=>O kk∨(V.heap.size≤kk∧kk < w1.heap.size)) w1∧Keep (fun kk=>False∨O kk) V w1 from by
  obtain⟨hmem,hbox,hvO,hmine⟩:=HF.out
  obtain⟨hvl,hsz⟩:=HVL.out
  obtain⟨hn,hown2,hb12,hb22⟩:=HP.out
  obtain⟨h0,hg,hgF⟩:=HM0.out
  obtain⟨hb1,hz1'⟩:=HB1.out
  have hbV:=below0 hb1 HB3.out
  have hbA:=hbV.alloc hbV.size (.cells #[.slice A n c] 172)
  have hgs:=hg1.size
  have hs3:=hbV.size
  have hs1:=hb1.size
  have hs12:=hb12.size
  rw [World.size_alloc]at hgs
  have hLL:=HHL.out
  have hO:=HO.out
  have hown0:∀kk,(Value.slice sA L sc).ownBlock=some kk→O kk:=by rw [hLL];exact hvO
  have hk:∀kk,kk < V.heap.size→some kk≠(Value.slice sA L sc).ownBlock→w1.heap[kk]?=V.heap[kk]?:=fun kk h1 h2=>(hg1.block kk (by rw [World.size_alloc];omega) h2).trans (hbA.block kk h1)
  have hkw:∀kk,kk < w.heap.size→w1.heap[kk]?=V.heap[kk]?:=fun kk h1=>hk kk (by omega) (fun e=>by have:=hO kk (hown0 kk e.symm);omega)
  refine⟨by omega,⟨by simp [hLL],by omega,⟨vs ++ [.slice A n c],by simp [hvl],?_,?_,?_⟩,hmem.keep fun kk hkk=>hkw kk (h0.lt kk hkk),(World.cell?_of_block (hkw gm hg)).trans hbox⟩,(Keep.of_below hbA).grown hg1 (fun r e=> .inr (.inr (hown0 r e)))⟩
  ·rw [List.length_append,←hLL]
   exact hown'
  ·intro kk e
   rcases hgg with h | h
   ·exact .inl (hown0 kk (by rw [←h];exact e))
   ·have:=own_lt hown' e
    have e2:some kk=some (W2.heap.size+1):=by rw [←World.size_alloc W2,←h];exact e.symm
    injection e2 with e2
    exact .inr ⟨by omega,this⟩
  ·intro i hi9
   rw [List.length_append,List.length_singleton]at hi9
   by_cases hil:i < pre.length
   ·obtain⟨u,hu,hm⟩:=hmine i hil
    refine⟨u,by rw [List.getElem?_append_left (by omega)];exact hu,?_⟩
    rw [List.getElem_append_left hil]
    refine hm.keep (fun kk h=> .inl h) (fun kk ho e=>hk kk (hm.lt e) (fun e2=> ?_))
    obtain⟨A9,n9,c9,rfl,_,hh,_⟩:=hm
    exact own_ne hh hownV.out (by decide) e e2.symm
   ·obtain rfl:i=pre.length:=by omega
    refine⟨.slice A n c,by rw [List.getElem?_append_right (by omega)];simp [hvl],?_⟩
    rw [List.getElem_append_right (by omega)]
    simp only [Nat.sub_self,List.getElem_cons_zero]
    refine⟨A,n,c,rfl,hn,?_,?_⟩
    ·refine own_mono (own_same hown2 fun kk e=> ?_) (by omega)
     have h9:=hown2.lt kk e
     have hkl:=own_lt hown2 e
     exact(hg1.block kk (by rw [World.size_alloc];omega) (fun e2=>by have:=hO kk (hown0 kk e2.symm);omega)).trans (Below.heap_alloc _ _ _ hkl)
    ·intro kk e
     have h9:=hown2.lt kk e
     have hkl:=own_lt hown2 e
     exact .inr ⟨by omega,by omega⟩)
 clear hg1 hgg hown' hownA
 go_ret
 exact⟨(A',L+1,c'),rfl,HFIN.out⟩
end Go.Proofs.YtfcfbcjiijfjgaaGreatDoor.Vm
