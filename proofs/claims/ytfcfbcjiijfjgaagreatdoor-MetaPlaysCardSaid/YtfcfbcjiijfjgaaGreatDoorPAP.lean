import Derived.Test.YtfcfbcjiijfjgaaGreatDoorPAO
set_option maxHeartbeats 4000000
set_option maxRecDepth 100000
namespace Go.Proofs.YtfcfbcjiijfjgaaGreatDoor.Me
open Go.RowKit Go.Shelf
attribute [local go_sem] Oper.semAt_some
def prt (l:List Prt) (k:Nat):Prt:=l.getD k ⟨0,0,0,0⟩
theorem encP_eq (l:List Prt) (k:Nat):encP l k= #[.int .i64 (frm l k:Int),.agg #[.int .i64 ((prt l k).wd:Int),.int .i64 ((prt l k).mo:Int),.func (.func (prt l k).tf) #[] #[],.func (.func (prt l k).sf) #[] #[]]]:=rfl
def okK (l:List Prt) (tv:Nat→Int) (k:Nat):Bool:=decide (0≤tv k) && decide (tv k≤((prt l k).mo:Int))
def fitsL (l:List Prt) (tv:Nat→Int):Bool:=(List.range l.length).all (okK l tv)
theorem fitsL_all {l:List Prt} {tv:Nat→Int} (h:∀k,k < l.length→okK l tv k=true):fitsL l tv=true:=by
 unfold fitsL
 rw [List.all_eq_true]
 intro k hk
 exact h k (List.mem_range.1 hk)
theorem fitsL_not {l:List Prt} {tv:Nat→Int} {k:Nat} (hk:k < l.length) (h:okK l tv k=false):fitsL l tv=false:=by
 unfold fitsL
 rw [List.all_eq_false]
 exact⟨k,List.mem_range.2 hk,by rw [h];decide⟩
def FtI (w:World) (l:List Prt) (tv:Nat→Int) (gb gr:Nat) (tr:TypeId) (cs:List Value) (pre:List Nat) (_O:Nat→Prop) (V:World):Prop:=
 Boxed V gb 4 (.bool true)∧Row V gr tr cs∧(∀k,k < pre.length→okK l tv k=true)∧Below w.heap.size w V
def FtX (w:World) (l:List Prt) (tv:Nat→Int) (gb ex:Nat) (cc:Code) (_pre:List Nat) (_O:Nat→Prop) (V:World):Prop:=
 cc= .exit ex∧Boxed V gb 4 (.bool false)∧(∃k,k < l.length∧okK l tv k=false)∧Below w.heap.size w V
theorem row_kept {V V':World} {b:Nat} {t:TypeId} {cs:List Value} {row:Option Nat} (h:Row V b t cs) (hg:V.grownBy V' row) (hr:some b≠row):Row V' b t cs:=(hg.block b h.lt hr).trans h
theorem FtI.abid {w:World} {l:List Prt} {tv:Nat→Int} {gb gr B:Nat} {tr:TypeId} {cs:List Value} (h:gb < B∧gr < B∧w.heap.size≤B):Abid B (FtI w l tv gb gr tr cs):=by
 rintro pre O V V' row ⟨h1,h2,h3,h4⟩ hg hr
 exact⟨h1.kept hg (fun e=>by have:=hr gb e.symm;omega),row_kept h2 hg (fun e=>by have:=hr gr e.symm;omega),h3,h4.grown hg h4.size (fun k e=>by have:=hr k e;omega)⟩
theorem FtX.abid {w:World} {l:List Prt} {tv:Nat→Int} {gb ex B:Nat} (h:gb < B∧w.heap.size≤B) (cc:Code):Abid B (FtX w l tv gb ex cc):=by
 rintro pre O V V' row ⟨h0,h1,h2,h3⟩ hg hr
 exact⟨h0,h1.kept hg (fun e=>by have:=hr gb e.symm;omega),h2,h3.grown hg h3.size (fun k e=>by have:=hr k e;omega)⟩
theorem fits_Rec (st sz no:Int) (tv:Nat→Int) (l:List Prt) (g n c:Nat) (t:TypeId) (w:World) (hrow:Row w g t (prtCells l)) (hn:l.length=n) (hm:n≤6) (hc:n≤c) (hf:∀k,k≤n→frm l k≤1000)
  (EG:∀k,k < l.length→∀args w,(callFunc (prt l k).tf args).run Tryz.prog w= .ok (.enter (prt l k).tf args) w)
  (HT:∀k,k < l.length→∀W,Calls Tryz.prog (prt l k).tf #[.agg #[.int .i64 st,.int .i64 sz,.int .u32 no]] W fun e W'=>e= .returned (.int .i64 (tv k))∧Below W.heap.size W W'):
  Calls Tryz.prog 85 #[.agg #[.int .i64 st,.int .i64 sz,.int .u32 no],.slice (some ⟨g,0,none⟩) n c] w fun e w'=>e= .returned (.bool (fitsL l tv))∧Below w.heap.size w w':=by
 have HEG:=Lh EG
 have HTT:=Lh HT
 clear EG HT
 refine calls_marks Tryz.func85 rfl ?_
 simp only [Tryz.ntmps85,List.size_toArray,List.length_cons,List.length_nil,Nat.reduceAdd,Nat.reduceSub,Array.replicate_succ,Array.replicate_zero,List.push_toArray,List.append_toArray,List.nil_append,List.cons_append]
 go_wp2_with fail
 refine wp_scope_jump 0 fun R hR hJm=> ?_
 go_wp2_with fail
 refine wp_label ?_
 go_wp2_with fail
 obtain⟨W4,hW4⟩:=Nm (((w.alloc (.cells #[.int .i64 st,.int .i64 sz,.int .u32 no] 41)).alloc (.cells #[.bool true] 4)))
 have hs4:W4.heap.size=w.heap.size+2:=by rw [hW4];simp
 have hB4:Below w.heap.size w W4:=by rw [hW4];exact(Br.alloc Lr _).alloc (by simp) _
 have hX1:Row W4 w.heap.size 41 [.int .i64 st,.int .i64 sz,.int .u32 no]:=by rw [hW4];exact(Row.new w _ _).below (below1 _ _)
 have hX2:Boxed W4 (w.heap.size+1) 4 (.bool true):=by
  have h:=Boxed.new (w.alloc (.cells #[.int .i64 st,.int .i64 sz,.int .u32 no] 41)) 4 (.bool true)
  rw [World.size_alloc]at h
  rw [hW4]
  exact h
 rw [←hW4]
 clear hW4
 refine(placed_Rec _ _ _ _).mono ?_
 rintro e W5 ⟨rfl,hW5⟩
 have hb5:Below W4.heap.size W4 W5:=by rw [hW5];exact below1 _ _
 have hs5:W5.heap.size=W4.heap.size+1:=by rw [hW5];simp
 have hr5:Row W5 W4.heap.size 115 [.slice (some ⟨g,0,none⟩) n c]:=by rw [hW5];exact Row.new W4 _ _
 have hB5:=below0 hB4 hb5
 have hpl:Pls W5 W4.heap.size g n l t c:=⟨hr5.cell 0,hrow.below hB5⟩
 have hit:=placed1_Rec W4.heap.size g n c l t W5 hpl hn hm hc hf
 have hpv:=hpl.lt
 rw [hs4]at hit hpv
 have hY1:=hX1.below hb5
 have hY2:Boxed W5 (w.heap.size+1) 4 (.bool true):=(hb5.block _ (by omega)).trans hX2
 have hgl:=hrow.lt
 clear hW5 hb5 hX1 hX2 hB4 hr5 hpl hrow hf
 go_wp2_with fail
 refine wpIn_wide.1 (wpIn_range_box (gf:=231) (lb:= #[.pointer (some ⟨w.heap.size+2,0,none⟩)]) rfl (enters_of Tryz.func231 (by kernel_rfl) rfl) hit hpv (fun _=>rfl) (fun _ _ _ _ _ h=>h)
  (FtI w l tv (w.heap.size+1) w.heap.size 41 [.int .i64 st,.int .i64 sz,.int .u32 no]) (FtX w l tv (w.heap.size+1) 0) (FtI.abid (by omega)) (FtX.abid (by omega)) ⟨hY2,hY1,fun _ h=>absurd h (Nat.not_lt_zero _),hB5⟩
  (fun gg x=>{tmps:= #[.agg #[.int .i64 st,.int .i64 sz,.int .u32 no],.slice (some ⟨g,0,none⟩) n c,.pointer (some ⟨w.heap.size,0,none⟩),undef,.bool false,.pointer (some ⟨w.heap.size+1,0,none⟩),undef,.pointer (some ⟨gg,0,none⟩),undef,.slice (some ⟨g,0,none⟩) n c,.func (.func 231) #[] #[.pointer (some ⟨w.heap.size+2,0,none⟩)],.int .i64 (frm l x:Int),.agg #[.int .i64 ((prt l x).wd:Int),.int .i64 ((prt l x).mo:Int),.func (.func (prt l x).tf) #[] #[],.func (.func (prt l x).sf) #[] #[]],undef,undef,undef,undef,undef,undef,undef,undef,undef,undef,undef,undef,undef,undef,undef],defers:= []})
  (fun x=> .cells #[.int .i64 ((prt l x).wd:Int),.int .i64 ((prt l x).mo:Int),.func (.func (prt l x).tf) #[] #[],.func (.func (prt l x).sf) #[] #[]] 106) ?assign ?body ?done ?stop)
 case assign=>
  intro l' x W' K hK
  simp only [encP_eq]
  gi_wp2
  exact hK
 case body=>
  rintro l' pre x O V hVs hO ⟨hbV,hrV,hpre,hblV⟩ ⟨hxp,hxl⟩ _
  have HCALL:=Lh (HTT.out x hxl)
  have eg:=HEG.out x hxl
  have hok:okK l tv x=(decide (0≤tv x) && decide (tv x≤((prt l x).mo:Int))):=rfl
  obtain⟨p,hp⟩:=Nm (prt l x)
  rw [←hp]at HCALL eg hok ⊢
  obtain⟨a,b,tf,sf⟩:=p
  simp only at HCALL eg hok ⊢
  obtain⟨V1,hV1⟩:=Nm (V.alloc (.cells #[.int .i64 (a:Int),.int .i64 (b:Int),.func (.func tf) #[] #[],.func (.func sf) #[] #[]] 106))
  have hb1:Below V.heap.size V V1:=by rw [hV1];exact below1 _ _
  have hz1:V1.heap.size=V.heap.size+1:=by rw [hV1];simp
  have hrp:Row V1 V.heap.size 106 [.int .i64 (a:Int),.int .i64 (b:Int),.func (.func tf) #[] #[],.func (.func sf) #[] #[]]:=by rw [hV1];exact Row.new _ _ _
  have c2:V1.cell? ⟨V.heap.size,2,none⟩=_:=hrp.cell 2
  have hbV1:Boxed V1 (w.heap.size+1) 4 (.bool true):=(hb1.block _ (by omega)).trans hbV
  have hrV1:=hrV.below hb1
  have r0:V1.cell? ⟨w.heap.size,0,none⟩=_:=hrV1.cell 0
  have r1:V1.cell? ⟨w.heap.size,1,none⟩=_:=hrV1.cell 1
  have r2:V1.cell? ⟨w.heap.size,2,none⟩=_:=hrV1.cell 2
  have hbl1:=below0 hblV hb1
  obtain⟨y,hy⟩:=Nm (tv x)
  rw [←hy]at HCALL hok
  have HOK:=Lh hok
  have HPRE:=Lh hpre
  rw [←hV1]
  clear hp hV1 hpre hblV hit hY1 hY2 hB5 hbV hrV hy hok
  gi_wp2_with fail
  refine⟨trivial,rfl,CallsIn.inRound l' ((callsIn_wide.2 (HCALL.out _)).mono ?_)⟩
  rintro e V2 ⟨rfl,hb2⟩
  have hs2:=hb2.size
  have hbV2:Boxed V2 (w.heap.size+1) 4 (.bool true):=(hb2.block _ (by omega)).trans hbV1
  have hrV2:=hrV1.below hb2
  have c1:V2.cell? ⟨V.heap.size,1,none⟩=_:=(hrp.below hb2).cell 1
  have HST:Hid (∀r,okK l tv x=r→Boxed (V2.setCell ⟨w.heap.size+1,0,none⟩ (.bool r)) (w.heap.size+1) 4 (.bool r)∧Row (V2.setCell ⟨w.heap.size+1,0,none⟩ (.bool r)) w.heap.size 41 [.int .i64 st,.int .i64 sz,.int .u32 no]∧Below w.heap.size w (V2.setCell ⟨w.heap.size+1,0,none⟩ (.bool r))∧Keeps (pvL (w.heap.size+2) g) W5.heap.size O (fun _=>False) V (V2.setCell ⟨w.heap.size+1,0,none⟩ (.bool r))):=Lh fun r _=>
   ⟨hbV2.set (.bool r),hrV2.same (heap_set (by omega)),(below0 hbl1 hb2).setCell (by show w.heap.size≤w.heap.size+1;omega) (.bool r),
    ⟨by rw [World.size_setCell];omega,fun k hk hp=>(heap_set (by rcases hp with(h | h) | ⟨h,_⟩ <;> omega)).trans ((hb2.block k (by omega)).trans (hb1.block k hk))⟩⟩
  have f1:=hbV2.frozen
  have f2:=hbV2.cell
  have f3:∀r,(V2.setCell ⟨w.heap.size+1,0,none⟩ (.bool r)).cell? ⟨w.heap.size+1,0,none⟩=some (.bool r):=fun r=>(hbV2.set (.bool r)).cell
  have HXP:=Lh hxp
  have HXL:=Lh hxl
  clear hbV1 hrV1 hbl1 hb1 hb2 hbV2 hrV2 c2 hrp hxp hxl r0 r1 r2
  by_cases y0:0≤y
  ·have e0:decide (0≤y)=true:=decide_eq_true y0
   obtain⟨r,hr⟩:=Nm (decide (y≤(b:Int)))
   have HOK2:=HOK.out
   rw [e0,←hr,Bool.true_and]at HOK2
   obtain⟨k1,k2,k3,k4⟩:=HST.out r HOK2
   have HK:=Lh (And.intro k1 (And.intro k2 (And.intro k3 k4)))
   have HOK3:=Lh HOK2
   have hr':=hr.symm
   have f4:=f3 r
   clear k1 k2 k3 k4 HST HOK HOK2 hr f3 y0
   cases r
   ·gi_wp2_with fail
    exact⟨HK.out.2.2.2,rfl,HK.out.1,⟨x,HXL.out,HOK3.out⟩,HK.out.2.2.1⟩
   ·gi_wp2_with fail
    refine⟨HK.out.2.2.2,HK.out.1,HK.out.2.1,fun k hk=> ?_,HK.out.2.2.1⟩
    rw [List.length_append]at hk
    by_cases hkp:k < pre.length
    ·exact HPRE.out k hkp
    ·have hkx:k=x:=by
      have h1:=HXP.out
      simp only [List.length_cons,List.length_nil]at hk
      omega
     subst hkx
     exact HOK3.out
  ·have e0:decide (0≤y)=false:=decide_eq_false y0
   have HOK2:=HOK.out
   rw [e0,Bool.false_and]at HOK2
   obtain⟨k1,k2,k3,k4⟩:=HST.out false HOK2
   have HK:=Lh (And.intro k1 (And.intro k2 (And.intro k3 k4)))
   have HOK3:=Lh HOK2
   have f4:=f3 false
   clear k1 k2 k3 k4 HST HOK HOK2 f3 y0
   gi_wp2_with fail
   exact⟨HK.out.2.2.2,rfl,HK.out.1,⟨x,HXL.out,HOK3.out⟩,HK.out.2.2.1⟩
 case done=>
  intro xs O Z hall hI hD
  obtain⟨hbx2,_,hpre,hbl⟩:=hI
  have hz:=hbx2.cell
  have hfin:=Lh (show fitsL l tv=true from fitsL_all (by rw [←show xs.length=l.length from hall];exact hpre))
  have HBE:=Lh (show Below w.heap.size w (Z.putObj W5.heap.size (.deferred none)) from hbl.grown (putObj_grown Z _ _) hbl.size (fun r e=>by cases e;omega))
  have HD:=Lh hD
  clear hall hbx2 hpre hbl hit hY1 hY2 hD
  go_wp2_with fail
  refine hR.out _ _ _ _ (by simp) ?_
  refine⟨by simp,.inl ⟨_,_,rfl,run_takeDeferred HD.out,?_⟩⟩
  exact⟨_,results_tmp (t:=4) rfl _ _ _,by rw [hfin.out];rfl,HBE.out⟩
 case stop=>
  rintro c' xs O Z _ ⟨rfl,hbx2,hno,hbl⟩ hD
  have hz:=hbx2.cell
  have hfin:=Lh (show fitsL l tv=false from by
   obtain⟨k,hk,hf⟩:=hno
   exact fitsL_not hk hf)
  have HBE:=Lh (show Below w.heap.size w (Z.putObj W5.heap.size (.deferred none)) from hbl.grown (putObj_grown Z _ _) hbl.size (fun r e=>by cases e;omega))
  have HD:=Lh hD
  clear hbx2 hno hbl hit hY1 hY2 hD
  refine wpIn_wide.2 ?_
  go_wp2_with fail
  refine hR.out _ _ _ _ (by simp) ?_
  refine⟨by simp,.inl ⟨_,_,rfl,run_takeDeferred HD.out,?_⟩⟩
  exact⟨_,results_tmp (t:=4) rfl _ _ _,by rw [hfin.out];rfl,HBE.out⟩
theorem fits_Gre (st pg sz fi:Int) (tv:Nat→Int) (l:List Prt) (g n c:Nat) (t:TypeId) (w:World) (hrow:Row w g t (prtCells l)) (hn:l.length=n) (hm:n≤6) (hc:n≤c) (hf:∀k,k≤n→frm l k≤1000)
  (EG:∀k,k < l.length→∀args w,(callFunc (prt l k).tf args).run Tryz.prog w= .ok (.enter (prt l k).tf args) w)
  (HT:∀k,k < l.length→∀W,Calls Tryz.prog (prt l k).tf #[.agg #[.int .i64 st,.int .i64 pg,.int .i64 sz,.int .i64 fi]] W fun e W'=>e= .returned (.int .i64 (tv k))∧Below W.heap.size W W'):
  Calls Tryz.prog 135 #[.agg #[.int .i64 st,.int .i64 pg,.int .i64 sz,.int .i64 fi],.slice (some ⟨g,0,none⟩) n c] w fun e w'=>e= .returned (.bool (fitsL l tv))∧Below w.heap.size w w':=by
 have HEG:=Lh EG
 have HTT:=Lh HT
 clear EG HT
 refine calls_marks Tryz.func135 rfl ?_
 simp only [Tryz.ntmps135,List.size_toArray,List.length_cons,List.length_nil,Nat.reduceAdd,Nat.reduceSub,Array.replicate_succ,Array.replicate_zero,List.push_toArray,List.append_toArray,List.nil_append,List.cons_append]
 go_wp2_with fail
 refine wp_scope_jump 0 fun R hR hJm=> ?_
 go_wp2_with fail
 refine wp_label ?_
 go_wp2_with fail
 obtain⟨W4,hW4⟩:=Nm (((w.alloc (.cells #[.int .i64 st,.int .i64 pg,.int .i64 sz,.int .i64 fi] 43)).alloc (.cells #[.bool true] 4)))
 have hs4:W4.heap.size=w.heap.size+2:=by rw [hW4];simp
 have hB4:Below w.heap.size w W4:=by rw [hW4];exact(Br.alloc Lr _).alloc (by simp) _
 have hX1:Row W4 w.heap.size 43 [.int .i64 st,.int .i64 pg,.int .i64 sz,.int .i64 fi]:=by rw [hW4];exact(Row.new w _ _).below (below1 _ _)
 have hX2:Boxed W4 (w.heap.size+1) 4 (.bool true):=by
  have h:=Boxed.new (w.alloc (.cells #[.int .i64 st,.int .i64 pg,.int .i64 sz,.int .i64 fi] 43)) 4 (.bool true)
  rw [World.size_alloc]at h
  rw [hW4]
  exact h
 rw [←hW4]
 clear hW4
 refine(placed_Gre _ _ _ _).mono ?_
 rintro e W5 ⟨rfl,hW5⟩
 have hb5:Below W4.heap.size W4 W5:=by rw [hW5];exact below1 _ _
 have hs5:W5.heap.size=W4.heap.size+1:=by rw [hW5];simp
 have hr5:Row W5 W4.heap.size 126 [.slice (some ⟨g,0,none⟩) n c]:=by rw [hW5];exact Row.new W4 _ _
 have hB5:=below0 hB4 hb5
 have hpl:Pls W5 W4.heap.size g n l t c:=⟨hr5.cell 0,hrow.below hB5⟩
 have hit:=placed1_Gre W4.heap.size g n c l t W5 hpl hn hm hc hf
 have hpv:=hpl.lt
 rw [hs4]at hit hpv
 have hY1:=hX1.below hb5
 have hY2:Boxed W5 (w.heap.size+1) 4 (.bool true):=(hb5.block _ (by omega)).trans hX2
 have hgl:=hrow.lt
 clear hW5 hb5 hX1 hX2 hB4 hr5 hpl hrow hf
 go_wp2_with fail
 refine wpIn_wide.1 (wpIn_range_box (gf:=251) (lb:= #[.pointer (some ⟨w.heap.size+2,0,none⟩)]) rfl (enters_of Tryz.func251 (by kernel_rfl) rfl) hit hpv (fun _=>rfl) (fun _ _ _ _ _ h=>h)
  (FtI w l tv (w.heap.size+1) w.heap.size 43 [.int .i64 st,.int .i64 pg,.int .i64 sz,.int .i64 fi]) (FtX w l tv (w.heap.size+1) 0) (FtI.abid (by omega)) (FtX.abid (by omega)) ⟨hY2,hY1,fun _ h=>absurd h (Nat.not_lt_zero _),hB5⟩
  (fun gg x=>{tmps:= #[.agg #[.int .i64 st,.int .i64 pg,.int .i64 sz,.int .i64 fi],.slice (some ⟨g,0,none⟩) n c,.pointer (some ⟨w.heap.size,0,none⟩),undef,.bool false,.pointer (some ⟨w.heap.size+1,0,none⟩),undef,.pointer (some ⟨gg,0,none⟩),undef,.slice (some ⟨g,0,none⟩) n c,.func (.func 251) #[] #[.pointer (some ⟨w.heap.size+2,0,none⟩)],.int .i64 (frm l x:Int),.agg #[.int .i64 ((prt l x).wd:Int),.int .i64 ((prt l x).mo:Int),.func (.func (prt l x).tf) #[] #[],.func (.func (prt l x).sf) #[] #[]],undef,undef,undef,undef,undef,undef,undef,undef,undef,undef,undef,undef,undef,undef,undef],defers:= []})
  (fun x=> .cells #[.int .i64 ((prt l x).wd:Int),.int .i64 ((prt l x).mo:Int),.func (.func (prt l x).tf) #[] #[],.func (.func (prt l x).sf) #[] #[]] 121) ?assign ?body ?done ?stop)
 case assign=>
  intro l' x W' K hK
  simp only [encP_eq]
  gi_wp2
  exact hK
 case body=>
  rintro l' pre x O V hVs hO ⟨hbV,hrV,hpre,hblV⟩ ⟨hxp,hxl⟩ _
  have HCALL:=Lh (HTT.out x hxl)
  have eg:=HEG.out x hxl
  have hok:okK l tv x=(decide (0≤tv x) && decide (tv x≤((prt l x).mo:Int))):=rfl
  obtain⟨p,hp⟩:=Nm (prt l x)
  rw [←hp]at HCALL eg hok ⊢
  obtain⟨a,b,tf,sf⟩:=p
  simp only at HCALL eg hok ⊢
  obtain⟨V1,hV1⟩:=Nm (V.alloc (.cells #[.int .i64 (a:Int),.int .i64 (b:Int),.func (.func tf) #[] #[],.func (.func sf) #[] #[]] 121))
  have hb1:Below V.heap.size V V1:=by rw [hV1];exact below1 _ _
  have hz1:V1.heap.size=V.heap.size+1:=by rw [hV1];simp
  have hrp:Row V1 V.heap.size 121 [.int .i64 (a:Int),.int .i64 (b:Int),.func (.func tf) #[] #[],.func (.func sf) #[] #[]]:=by rw [hV1];exact Row.new _ _ _
  have c2:V1.cell? ⟨V.heap.size,2,none⟩=_:=hrp.cell 2
  have hbV1:Boxed V1 (w.heap.size+1) 4 (.bool true):=(hb1.block _ (by omega)).trans hbV
  have hrV1:=hrV.below hb1
  have r0:V1.cell? ⟨w.heap.size,0,none⟩=_:=hrV1.cell 0
  have r1:V1.cell? ⟨w.heap.size,1,none⟩=_:=hrV1.cell 1
  have r2:V1.cell? ⟨w.heap.size,2,none⟩=_:=hrV1.cell 2
  have r3:V1.cell? ⟨w.heap.size,3,none⟩=_:=hrV1.cell 3
  have hbl1:=below0 hblV hb1
  obtain⟨y,hy⟩:=Nm (tv x)
  rw [←hy]at HCALL hok
  have HOK:=Lh hok
  have HPRE:=Lh hpre
  rw [←hV1]
  clear hp hV1 hpre hblV hit hY1 hY2 hB5 hbV hrV hy hok
  gi_wp2_with fail
  refine⟨trivial,rfl,CallsIn.inRound l' ((callsIn_wide.2 (HCALL.out _)).mono ?_)⟩
  rintro e V2 ⟨rfl,hb2⟩
  have hs2:=hb2.size
  have hbV2:Boxed V2 (w.heap.size+1) 4 (.bool true):=(hb2.block _ (by omega)).trans hbV1
  have hrV2:=hrV1.below hb2
  have c1:V2.cell? ⟨V.heap.size,1,none⟩=_:=(hrp.below hb2).cell 1
  have HST:Hid (∀r,okK l tv x=r→Boxed (V2.setCell ⟨w.heap.size+1,0,none⟩ (.bool r)) (w.heap.size+1) 4 (.bool r)∧Row (V2.setCell ⟨w.heap.size+1,0,none⟩ (.bool r)) w.heap.size 43 [.int .i64 st,.int .i64 pg,.int .i64 sz,.int .i64 fi]∧Below w.heap.size w (V2.setCell ⟨w.heap.size+1,0,none⟩ (.bool r))∧Keeps (pvL (w.heap.size+2) g) W5.heap.size O (fun _=>False) V (V2.setCell ⟨w.heap.size+1,0,none⟩ (.bool r))):=Lh fun r _=>
   ⟨hbV2.set (.bool r),hrV2.same (heap_set (by omega)),(below0 hbl1 hb2).setCell (by show w.heap.size≤w.heap.size+1;omega) (.bool r),
    ⟨by rw [World.size_setCell];omega,fun k hk hp=>(heap_set (by rcases hp with(h | h) | ⟨h,_⟩ <;> omega)).trans ((hb2.block k (by omega)).trans (hb1.block k hk))⟩⟩
  have f1:=hbV2.frozen
  have f2:=hbV2.cell
  have f3:∀r,(V2.setCell ⟨w.heap.size+1,0,none⟩ (.bool r)).cell? ⟨w.heap.size+1,0,none⟩=some (.bool r):=fun r=>(hbV2.set (.bool r)).cell
  have HXP:=Lh hxp
  have HXL:=Lh hxl
  clear hbV1 hrV1 hbl1 hb1 hb2 hbV2 hrV2 c2 hrp hxp hxl r0 r1 r2 r3
  by_cases y0:0≤y
  ·have e0:decide (0≤y)=true:=decide_eq_true y0
   obtain⟨r,hr⟩:=Nm (decide (y≤(b:Int)))
   have HOK2:=HOK.out
   rw [e0,←hr,Bool.true_and]at HOK2
   obtain⟨k1,k2,k3,k4⟩:=HST.out r HOK2
   have HK:=Lh (And.intro k1 (And.intro k2 (And.intro k3 k4)))
   have HOK3:=Lh HOK2
   have hr':=hr.symm
   have f4:=f3 r
   clear k1 k2 k3 k4 HST HOK HOK2 hr f3 y0
   cases r
   ·gi_wp2_with fail
    exact⟨HK.out.2.2.2,rfl,HK.out.1,⟨x,HXL.out,HOK3.out⟩,HK.out.2.2.1⟩
   ·gi_wp2_with fail
    refine⟨HK.out.2.2.2,HK.out.1,HK.out.2.1,fun k hk=> ?_,HK.out.2.2.1⟩
    rw [List.length_append]at hk
    by_cases hkp:k < pre.length
    ·exact HPRE.out k hkp
    ·have hkx:k=x:=by
      have h1:=HXP.out
      simp only [List.length_cons,List.length_nil]at hk
      omega
     subst hkx
     exact HOK3.out
  ·have e0:decide (0≤y)=false:=decide_eq_false y0
   have HOK2:=HOK.out
   rw [e0,Bool.false_and]at HOK2
   obtain⟨k1,k2,k3,k4⟩:=HST.out false HOK2
   have HK:=Lh (And.intro k1 (And.intro k2 (And.intro k3 k4)))
   have HOK3:=Lh HOK2
   have f4:=f3 false
   clear k1 k2 k3 k4 HST HOK HOK2 f3 y0
   gi_wp2_with fail
   exact⟨HK.out.2.2.2,rfl,HK.out.1,⟨x,HXL.out,HOK3.out⟩,HK.out.2.2.1⟩
 case done=>
  intro xs O Z hall hI hD
  obtain⟨hbx2,_,hpre,hbl⟩:=hI
  have hz:=hbx2.cell
  have hfin:=Lh (show fitsL l tv=true from fitsL_all (by rw [←show xs.length=l.length from hall];exact hpre))
  have HBE:=Lh (show Below w.heap.size w (Z.putObj W5.heap.size (.deferred none)) from hbl.grown (putObj_grown Z _ _) hbl.size (fun r e=>by cases e;omega))
  have HD:=Lh hD
  clear hall hbx2 hpre hbl hit hY1 hY2 hD
  go_wp2_with fail
  refine hR.out _ _ _ _ (by simp) ?_
  refine⟨by simp,.inl ⟨_,_,rfl,run_takeDeferred HD.out,?_⟩⟩
  exact⟨_,results_tmp (t:=4) rfl _ _ _,by rw [hfin.out];rfl,HBE.out⟩
 case stop=>
  rintro c' xs O Z _ ⟨rfl,hbx2,hno,hbl⟩ hD
  have hz:=hbx2.cell
  have hfin:=Lh (show fitsL l tv=false from by
   obtain⟨k,hk,hf⟩:=hno
   exact fitsL_not hk hf)
  have HBE:=Lh (show Below w.heap.size w (Z.putObj W5.heap.size (.deferred none)) from hbl.grown (putObj_grown Z _ _) hbl.size (fun r e=>by cases e;omega))
  have HD:=Lh hD
  clear hbx2 hno hbl hit hY1 hY2 hD
  refine wpIn_wide.2 ?_
  go_wp2_with fail
  refine hR.out _ _ _ _ (by simp) ?_
  refine⟨by simp,.inl ⟨_,_,rfl,run_takeDeferred HD.out,?_⟩⟩
  exact⟨_,results_tmp (t:=4) rfl _ _ _,by rw [hfin.out];rfl,HBE.out⟩
end Go.Proofs.YtfcfbcjiijfjgaaGreatDoor.Me
namespace Go.Proofs.YtfcfbcjiijfjgaaGreatDoor.Vm
open Go.RowKit Go.Shelf Go.Maps Go.Sort
attribute [local go_sem] Oper.semAt_some
theorem pts_mem:∀(n a:Nat),a+n≤16777216→∀x∈pts a n,x.1 < 65536∧x.2.1 < 256∧0 < x.2.2∧x.2.1+x.2.2≤256:=by
 intro n
 induction n using Nat.strongRecOn with
 | _ n ih=>
  intro a h x hx
  rcases Nat.eq_zero_or_pos n with rfl | hn
  ·rw [pts_zero]at hx
   cases hx
  ·rw [pts_pos hn]at hx
   rcases List.mem_cons.1 hx with rfl | hx
   ·simp only
    omega
   ·exact ih _ (by omega) _ (by omega) x hx
def properB (n:Int):Bool:=decide (1≤n) && decide (n≤16777216)
theorem proper_any (a:Nat) (n:Int) (w:World):Calls Tryz.prog 253 #[.agg #[.int .u32 (a:Int),.int .i64 n]] w fun e w'=>e= .returned (.bool (properB n))∧Below w.heap.size w w':=by
 unfold properB
 have hb:=Lh (below1 w (.cells #[.int .u32 (a:Int),.int .i64 n] 245))
 go_enter Tryz.func253,Tryz.ntmps253
 by_cases h0:1≤n
 ·have e0:decide (1≤n)=true:=decide_eq_true h0
  obtain⟨q,hq⟩:=Nm (decide (n≤16777216))
  rw [←hq]
  go_wp2
  go_ret
  exact⟨by simp [hq,h0],hb.out⟩
 ·have e0:decide (1≤n)=false:=decide_eq_false h0
  go_wp2
  go_ret
  exact⟨by simp,hb.out⟩
def withinB (a:Nat) (n:Int):Bool:=decide (a < 16777216) && decide (n≤16777216 - (a:Int))
theorem within_any (a:Nat) (n:Int) (w:World) (ha:a < 4294967296):Calls Tryz.prog 254 #[.agg #[.int .u32 (a:Int),.int .i64 n]] w fun e w'=>e= .returned (.bool (withinB a n))∧Below w.heap.size w w':=by
 unfold withinB
 have hb:=Lh (below1 w (.cells #[.int .u32 (a:Int),.int .i64 n] 245))
 have ew:IntKind.i64.wrap ((a:Nat):Int)=(a:Int):=wrapI _ (by omega) (by omega)
 have e2:IntKind.i64.wrap (16777216 - (a:Int))=16777216 - (a:Int):=wrapI _ (by omega) (by omega)
 go_enter Tryz.func254,Tryz.ntmps254
 by_cases h0:a < 16777216
 ·have e0:decide ((a:Int) < 16777216)=true:=Dt (by omega)
  have e1:decide (a < 16777216)=true:=decide_eq_true h0
  obtain⟨q,hq⟩:=Nm (decide (n≤16777216 - (a:Int)))
  rw [←hq,e1]
  have hq':=hq.symm
  clear hq h0
  go_wp2
  go_ret
  exact⟨by simp,hb.out⟩
 ·have e0:decide ((a:Int) < 16777216)=false:=Df (by omega)
  have e1:decide (a < 16777216)=false:=decide_eq_false h0
  rw [e1]
  clear h0
  go_wp2
  go_ret
  exact⟨by simp,hb.out⟩
theorem parts_any (a n:Nat) (w:World):Calls Tryz.prog 257 #[.agg #[.int .u32 (a:Int),.int .i64 (n:Int)]] w fun e w'=>e= .returned (.func (.func 261) #[] #[bx w.heap.size])∧w'=w.alloc (.cells #[.int .u32 (a:Int),.int .i64 (n:Int)] 245):=by
 go_enter Tryz.func257,Tryz.ntmps257
 go_wp2
 go_ret
 exact⟨rfl,rfl⟩
def SnI (w:World) (f:Nat→Bool) (g gf:Nat) (fv:Value) (pre:List (Nat × Nat × Nat)) (_O:Nat→Prop) (V:World):Prop:=
 Boxed V g 4 (.bool true)∧Boxed V gf 67 fv∧(∀x∈pre,f x.1=true)∧Below w.heap.size w V
def SnX (w:World) (f:Nat→Bool) (g ex:Nat) (cc:Code) (pre:List (Nat × Nat × Nat)) (_O:Nat→Prop) (V:World):Prop:=
 cc= .exit ex∧Boxed V g 4 (.bool false)∧(∃x∈pre,f x.1=false)∧Below w.heap.size w V
theorem SnI.abid {w:World} {f:Nat→Bool} {g gf B:Nat} {fv:Value} (h:g < B∧gf < B∧w.heap.size≤B):Abid B (SnI w f g gf fv):=by
 rintro pre O V V' row ⟨h1,h2,h3,h4⟩ hg hr
 exact⟨h1.kept hg (fun e=>by have:=hr g e.symm;omega),h2.kept hg (fun e=>by have:=hr gf e.symm;omega),h3,h4.grown hg h4.size (fun k e=>by have:=hr k e;omega)⟩
theorem SnX.abid {w:World} {f:Nat→Bool} {g ex B:Nat} (h:g < B∧w.heap.size≤B) (cc:Code):Abid B (SnX w f g ex cc):=by
 rintro pre O V V' row ⟨h0,h1,h2,h3⟩ hg hr
 exact⟨h0,h1.kept hg (fun e=>by have:=hr g e.symm;omega),h2,h3.grown hg h3.size (fun k e=>by have:=hr k e;omega)⟩
def seenB (f:Nat→Bool) (a n:Nat):Bool:=(pts a n).all fun x=>f x.1
theorem seen_any (f:Nat→Bool) (a n cf:Nat) (cap:Array Value) (w:World) (han:a+n≤16777216) (eg:∀args w,(callFunc cf args).run Tryz.prog w= .ok (.enter cf args) w)
  (HF:∀(z:Nat) V,z < 65536→Below w.heap.size w V→Calls Tryz.prog cf (#[.int .i64 (z:Int)] ++ cap) V fun e V'=>e= .returned (.bool (f z))∧Below V.heap.size V V'):
  Calls Tryz.prog 256 #[.agg #[.int .u32 (a:Int),.int .i64 (n:Int)],.func (.func cf) #[] cap] w fun e w'=>e= .returned (.bool (seenB f a n))∧Below w.heap.size w w':=by
 have HFF:=Lh HF
 clear HF
 refine calls_marks Tryz.func256 rfl ?_
 simp only [Tryz.ntmps256,List.size_toArray,List.length_cons,List.length_nil,Nat.reduceAdd,Nat.reduceSub,Array.replicate_succ,Array.replicate_zero,List.push_toArray,List.append_toArray,List.nil_append,List.cons_append]
 go_wp2_with fail
 refine wp_scope_jump 0 fun R hR hJm=> ?_
 go_wp2_with fail
 refine wp_label ?_
 go_wp2_with fail
 obtain⟨W4,hW4⟩:=Nm ((((w.alloc (.cells #[.int .u32 (a:Int),.int .i64 (n:Int)] 245)).alloc (.cells #[.func (.func cf) #[] cap] 67)).alloc (.cells #[.bool true] 4)))
 have hs4:W4.heap.size=w.heap.size+3:=by rw [hW4];simp
 have hB4:Below w.heap.size w W4:=by rw [hW4];exact(below2 _ _ _).alloc (by simp;omega) _
 have hX1:Boxed W4 (w.heap.size+1) 67 (.func (.func cf) #[] cap):=by
  have h:=Boxed.new (w.alloc (.cells #[.int .u32 (a:Int),.int .i64 (n:Int)] 245)) 67 (.func (.func cf) #[] cap)
  rw [World.size_alloc]at h
  rw [hW4]
  exact h.alloc _
 have hX2:Boxed W4 (w.heap.size+1+1) 4 (.bool true):=by
  have h:=Boxed.new ((w.alloc (.cells #[.int .u32 (a:Int),.int .i64 (n:Int)] 245)).alloc (.cells #[.func (.func cf) #[] cap] 67)) 4 (.bool true)
  rw [World.size_alloc,World.size_alloc]at h
  rw [hW4]
  exact h
 rw [←hW4]
 clear hW4
 refine(parts_any a n W4).mono ?_
 rintro e W5 ⟨rfl,hW5⟩
 have hb5:Below W4.heap.size W4 W5:=by rw [hW5];exact below1 _ _
 have hs5:W5.heap.size=W4.heap.size+1:=by rw [hW5];simp
 have hr5:Row W5 W4.heap.size 245 (rc2 a n):=by rw [hW5];exact Row.new W4 245 (rc2 a n)
 have hit:=parts1_it a n W4.heap.size W5 han hr5
 rw [hs4]at hit
 have hY1:=(hb5.block _ (by omega)).trans hX1
 have hY2:=(hb5.block _ (by omega)).trans hX2
 have hB5:=below0 hB4 hb5
 have hmem:=Lh (pts_mem n a han)
 clear hW5 hb5 hX1 hX2 hB4
 go_wp2_with fail
 refine wpIn_wide.1 (wpIn_range_box (gf:=261) (lb:= #[bx (w.heap.size+3)]) rfl (enters_of Tryz.func261 (by kernel_rfl) rfl) hit (by rintro k rfl;omega) (fun _=>rfl) (fun _ _ _ _ _ h=>h)
  (SnI w f (w.heap.size+1+1) (w.heap.size+1) (.func (.func cf) #[] cap)) (SnX w f (w.heap.size+1+1) 0) (SnI.abid (by omega)) (SnX.abid (by omega)) ⟨hY2,hY1,fun _ h=>(by cases h),hB5⟩
  (fun g x=>{tmps:= #[.agg #[.int .u32 (a:Int),.int .i64 (n:Int)],.func (.func cf) #[] cap,.pointer (some ⟨w.heap.size,0,none⟩),.pointer (some ⟨w.heap.size+1,0,none⟩),.bool false,.pointer (some ⟨w.heap.size+1+1,0,none⟩),.pointer (some ⟨g,0,none⟩),.agg #[.int .u32 (a:Int),.int .i64 (n:Int)],.func (.func 261) #[] #[bx (w.heap.size+3)],enc3 x,undef,undef,undef,undef,undef,undef,undef],defers:= []})
  (fun x=> .cells #[.int .i64 (x.1:Int),.int .i64 (x.2.1:Int),.int .i64 (x.2.2:Int)] 295) ?assign ?body ?done ?stop)
 case assign=>
  intro l' x W' K hK
  simp only [encX,enc3]
  gi_wp2
  exact hK
 case body=>
  rintro l' pre x O V hVs hO ⟨hbV,hfV,hpre,hblV⟩ ⟨post,hpost⟩ _
  obtain⟨V1,hV1⟩:=Nm (V.alloc (.cells #[.int .i64 (x.1:Int),.int .i64 (x.2.1:Int),.int .i64 (x.2.2:Int)] 295))
  have hb1:Below V.heap.size V V1:=by rw [hV1];exact below1 _ _
  have hz1:V1.heap.size=V.heap.size+1:=by rw [hV1];simp
  have c0:V1.cell? ⟨V.heap.size,0,none⟩=some (.int .i64 (x.1:Int)):=by rw [hV1];exact cell_alloc_new _ _ _ _
  have hx1:x.1 < 65536:=(hmem.out x (by rw [hpost];simp)).1
  have hbV1:Boxed V1 (w.heap.size+1+1) 4 (.bool true):=(hb1.block _ (by omega)).trans hbV
  have hfV1:Boxed V1 (w.heap.size+1) 67 (.func (.func cf) #[] cap):=(hb1.block _ (by omega)).trans hfV
  have hbl1:=below0 hblV hb1
  have HCALL:=Lh (HFF.out x.1 V1 hx1 hbl1)
  obtain⟨r,hr⟩:=Nm (f x.1)
  rw [←hr]at HCALL
  have HR:=Lh hr
  have HPRE:=Lh hpre
  have e0:=hfV1.cell
  rw [←hV1]
  clear hr hV1 hpost hpre hblV hx1 hit hY1 hY2 hB5 hbV hfV
  gi_wp2_with fail
  refine⟨trivial,rfl,CallsIn.inRound l' ((callsIn_wide.2 HCALL.out).mono ?_)⟩
  rintro e V2 ⟨rfl,hb2⟩
  have hs2:=hb2.size
  have hbV2:Boxed V2 (w.heap.size+1+1) 4 (.bool true):=(hb2.block _ (by omega)).trans hbV1
  have hfV2:Boxed V2 (w.heap.size+1) 67 (.func (.func cf) #[] cap):=(hb2.block _ (by omega)).trans hfV1
  have HBX:=Lh (hbV2.set (.bool r))
  have HFX:=Lh (show Boxed (V2.setCell ⟨w.heap.size+1+1,0,none⟩ (.bool r)) (w.heap.size+1) 67 (.func (.func cf) #[] cap) from(heap_set (by omega)).trans hfV2)
  have HBL:=Lh (show Below w.heap.size w (V2.setCell ⟨w.heap.size+1+1,0,none⟩ (.bool r)) from(below0 hbl1 hb2).setCell (by show w.heap.size≤w.heap.size+1+1;omega) (.bool r))
  have HKS:=Lh (show Keeps (· =w.heap.size+3) W5.heap.size O (fun _=>False) V (V2.setCell ⟨w.heap.size+1+1,0,none⟩ (.bool r)) from
   ⟨by rw [World.size_setCell];omega,fun k hk hp=>(heap_set (by rcases hp with h | ⟨h,_⟩ <;> omega)).trans ((hb2.block k (by omega)).trans (hb1.block k hk))⟩)
  have f1:=hbV2.frozen
  have f2:=hbV2.cell
  have f3:=HBX.out.cell
  clear hbV1 hfV1 hbl1 hb1 hb2 hbV2 hfV2 c0 e0
  cases r
  ·gi_wp2_with fail
   exact⟨HKS.out,rfl,HBX.out,⟨x,by simp,HR.out.symm⟩,HBL.out⟩
  ·gi_wp2_with fail
   refine⟨HKS.out,HBX.out,HFX.out,fun y hy=> ?_,HBL.out⟩
   rcases List.mem_append.1 hy with hy | hy
   ·exact HPRE.out y hy
   ·obtain rfl:=List.mem_singleton.1 hy
    exact HR.out.symm
 case done=>
  intro xs O Z hall hI hD
  obtain⟨hbx2,_,hpre,hbl⟩:=hI
  have hz:=hbx2.cell
  have hfin:=Lh (show seenB f a n=true from by
   unfold seenB
   rw [List.all_eq_true,←show xs=pts a n from hall]
   exact hpre)
  have HBE:=Lh (show Below w.heap.size w (Z.putObj W5.heap.size (.deferred none)) from hbl.grown (putObj_grown Z _ _) hbl.size (fun r e=>by cases e;omega))
  have HD:=Lh hD
  clear hall hbx2 hpre hbl hit hY1 hY2 hD
  go_wp2_with fail
  refine hR.out _ _ _ _ (by simp) ?_
  refine⟨by simp,.inl ⟨_,_,rfl,run_takeDeferred HD.out,?_⟩⟩
  exact⟨_,results_tmp (t:=4) rfl _ _ _,by rw [hfin.out];rfl,HBE.out⟩
 case stop=>
  rintro c' xs O Z ⟨post,hpost⟩ ⟨rfl,hbx2,hno,hbl⟩ hD
  have hz:=hbx2.cell
  have hfin:=Lh (show seenB f a n=false from by
   unfold seenB
   obtain⟨y,hy,hfy⟩:=hno
   rw [List.all_eq_false,hpost]
   exact⟨y,by simp [hy],by simp [hfy]⟩)
  have HBE:=Lh (show Below w.heap.size w (Z.putObj W5.heap.size (.deferred none)) from hbl.grown (putObj_grown Z _ _) hbl.size (fun r e=>by cases e;omega))
  have HD:=Lh hD
  clear hpost hbx2 hno hbl hit hY1 hY2 hD
  refine wpIn_wide.2 ?_
  go_wp2_with fail
  refine hR.out _ _ _ _ (by simp) ?_
  refine⟨by simp,.inl ⟨_,_,rfl,run_takeDeferred HD.out,?_⟩⟩
  exact⟨_,results_tmp (t:=4) rfl _ _ _,by rw [hfin.out];rfl,HBE.out⟩
abbrev Part:=Nat × Nat × Nat
abbrev Sl3:=Option Addr × Nat × Nat
abbrev slV (s:Sl3):Value:= .slice s.1 s.2.1 s.2.2
structure Does (w:World) (a n cf:Nat) (cap:Array Value) (F:Nat→Prop) (Rel:List Part→Sl3→(Nat→Prop)→World→Prop):Prop where
 enters:∀args w,(callFunc cf args).run Tryz.prog w= .ok (.enter cf args) w
 low:∀k,F k→k < w.heap.size
 keep:∀pre v O V V',Rel pre v O V→V.heap.size≤V'.heap.size→(∀k,k < V.heap.size→(k < w.heap.size∨O k)→V'.heap[k]?=V.heap[k]?)→Rel pre v O V'
 more:∀pre v (O O2:Nat→Prop) V,(∀k,O k→O2 k)→Rel pre v O V→Rel pre v O2 V
 call:∀pre (x:Part) v O V,(∃post,pts a n=pre ++ x :: post)→w.heap.size≤V.heap.size→(∀k,O k→w.heap.size≤k∧k < V.heap.size)→Rel pre v O V→
  Calls Tryz.prog cf (#[slV v,enc3 x] ++ cap) V fun e V'=>∃v',e= .returned (slV v')∧V.heap.size≤V'.heap.size∧Rel (pre ++ [x]) v' (fun k=>O k∨(V.heap.size≤k∧k < V'.heap.size)) V'∧Keep (fun k=>F k∨O k) V V'
def PwI (w:World) (F:Nat→Prop) (g gf:Nat) (ty tf:TypeId) (fv:Value) (Rel:List Part→Sl3→(Nat→Prop)→World→Prop) (pre:List Part) (O:Nat→Prop) (V:World):Prop:=
 ∃v,Boxed V g ty (slV v)∧Boxed V gf tf fv∧Rel pre v O V∧Keep F w V
theorem PwI.abid {w:World} {a n cf:Nat} {cap:Array Value} {g gf B:Nat} {ty tf:TypeId} {fv:Value} {F:Nat→Prop} {Rel:List Part→Sl3→(Nat→Prop)→World→Prop} (hd:Does w a n cf cap F Rel) (h:g < B∧gf < B∧w.heap.size≤B):Abid B (PwI w F g gf ty tf fv Rel):=by
 rintro pre O V V' row ⟨v,h1,h2,h3,h4⟩ hg hr
 exact⟨v,h1.kept hg (fun e=>by have:=hr g e.symm;omega),h2.kept hg (fun e=>by have:=hr gf e.symm;omega),hd.keep pre v O V V' h3 hg.size (fun k hk hp=>hg.block k hk (fun e=>by
  have:=hr k e.symm
  rcases hp with hp | hp
  ·omega
  ·exact this.2 hp)),h4.grown hg (fun r e=> .inl (by have:=hr r e;omega))⟩
theorem partwiseB_any (a n cf:Nat) (cap:Array Value) (A0:Option Addr) (m0 c0:Nat) (w:World) (F:Nat→Prop) (Rel:List Part→Sl3→(Nat→Prop)→World→Prop) (han:a+n≤16777216) (hd:Does w a n cf cap F Rel) (h0:Rel [] (A0,m0,c0) (fun _=>False) w):
  Calls Tryz.prog 234 #[.agg #[.int .u32 (a:Int),.int .i64 (n:Int)],.slice A0 m0 c0,.func (.func cf) #[] cap] w fun e w'=>∃v O,e= .returned (slV v)∧Rel (pts a n) v O w'∧(∀k,O k→w.heap.size≤k)∧Keep F w w':=by
 have HD:=Lh hd
 have eg:=hd.enters
 refine calls_marks Tryz.func234 rfl ?_
 simp only [Tryz.ntmps234,List.size_toArray,List.length_cons,List.length_nil,Nat.reduceAdd,Nat.reduceSub,Array.replicate_succ,Array.replicate_zero,List.push_toArray,List.append_toArray,List.nil_append,List.cons_append]
 clear hd
 go_wp2_with fail
 obtain⟨W4,hW4⟩:=Nm ((((w.alloc (.cells #[.int .u32 (a:Int),.int .i64 (n:Int)] 245)).alloc (.cells #[.slice A0 m0 c0] 172)).alloc (.cells #[.func (.func cf) #[] cap] 297)))
 have hs4:W4.heap.size=w.heap.size+3:=by rw [hW4];simp
 have hB4:Below w.heap.size w W4:=by rw [hW4];exact(below2 _ _ _).alloc (by simp;omega) _
 have hX1:Boxed W4 (w.heap.size+1) 172 (.slice A0 m0 c0):=by
  have h:=Boxed.new (w.alloc (.cells #[.int .u32 (a:Int),.int .i64 (n:Int)] 245)) 172 (.slice A0 m0 c0)
  rw [World.size_alloc]at h
  rw [hW4]
  exact h.alloc _
 have hX2:Boxed W4 (w.heap.size+1+1) 297 (.func (.func cf) #[] cap):=by
  have h:=Boxed.new ((w.alloc (.cells #[.int .u32 (a:Int),.int .i64 (n:Int)] 245)).alloc (.cells #[.slice A0 m0 c0] 172)) 297 (.func (.func cf) #[] cap)
  rw [World.size_alloc,World.size_alloc]at h
  rw [hW4]
  exact h
 rw [←hW4]
 clear hW4
 refine(parts_any a n W4).mono ?_
 rintro e W5 ⟨rfl,hW5⟩
 have hb5:Below W4.heap.size W4 W5:=by rw [hW5];exact below1 _ _
 have hs5:W5.heap.size=W4.heap.size+1:=by rw [hW5];simp
 have hr5:Row W5 W4.heap.size 245 (rc2 a n):=by rw [hW5];exact Row.new W4 245 (rc2 a n)
 have hit:=parts1_it a n W4.heap.size W5 han hr5
 rw [hs4]at hit
 have hY1:=(hb5.block _ (by omega)).trans hX1
 have hY2:=(hb5.block _ (by omega)).trans hX2
 have hB5:=below0 hB4 hb5
 have hR5:Rel [] (A0,m0,c0) (fun _=>False) W5:=HD.out.keep [] (A0,m0,c0) _ w W5 h0 hB5.size (fun k hk _=>hB5.block k hk)
 clear hW5 hb5 hX1 hX2 hB4 h0
 go_wp2_with fail
 refine wpIn_wide.1 (wpIn_range_box (gf:=261) (lb:= #[bx (w.heap.size+3)]) rfl (enters_of Tryz.func261 (by kernel_rfl) rfl) hit (by rintro k rfl;omega) (fun _=>rfl) (fun _ _ _ _ _ h=>h)
  (fun pre O V=>PwI w F (w.heap.size+1) (w.heap.size+1+1) 172 297 (.func (.func cf) #[] cap) Rel pre O V∧∀k,O k→W5.heap.size+2≤k) (fun _ _ _ _=>False) ?hI (fun _ _ _ _ _ _ h=>h.elim) ⟨⟨(A0,m0,c0),hY1,hY2,hR5,Keep.of_below hB5⟩,fun _ h=>h.elim⟩
  (fun g x=>{tmps:= #[.agg #[.int .u32 (a:Int),.int .i64 (n:Int)],.slice A0 m0 c0,.func (.func cf) #[] cap,.pointer (some ⟨w.heap.size,0,none⟩),.pointer (some ⟨w.heap.size+1,0,none⟩),.pointer (some ⟨w.heap.size+1+1,0,none⟩),.slice none 0 0,.pointer (some ⟨g,0,none⟩),.agg #[.int .u32 (a:Int),.int .i64 (n:Int)],.func (.func 261) #[] #[bx (w.heap.size+3)],enc3 x,undef,undef,undef,undef,undef],defers:= []})
  (fun x=> .cells #[.int .i64 (x.1:Int),.int .i64 (x.2.1:Int),.int .i64 (x.2.2:Int)] 295) ?assign ?body ?done ?stop)
 case hI=>exact fun s O V V' row hp hg hr=>⟨PwI.abid HD.out (by omega) s O V V' row hp.1 hg hr,hp.2⟩
 case assign=>
  intro l' x W' K hK
  simp only [encX,enc3]
  gi_wp2
  exact hK
 case body=>
  rintro l' pre x O V hVs hO ⟨⟨⟨vA,vm,vc⟩,hbV,hfV,hrel,hkV⟩,hOw⟩ ⟨post,hpost⟩ _
  obtain⟨V1,hV1⟩:=Nm (V.alloc (.cells #[.int .i64 (x.1:Int),.int .i64 (x.2.1:Int),.int .i64 (x.2.2:Int)] 295))
  have hb1:Below V.heap.size V V1:=by rw [hV1];exact below1 _ _
  have hz1:V1.heap.size=V.heap.size+1:=by rw [hV1];simp
  have hrow:Row V1 V.heap.size 295 [.int .i64 (x.1:Int),.int .i64 (x.2.1:Int),.int .i64 (x.2.2:Int)]:=by rw [hV1];exact Row.new V 295 [.int .i64 (x.1:Int),.int .i64 (x.2.1:Int),.int .i64 (x.2.2:Int)]
  have c0:V1.cell? ⟨V.heap.size,0,none⟩=some (.int .i64 (x.1:Int)):=hrow.cell 0
  have c1:V1.cell? ⟨V.heap.size,1,none⟩=some (.int .i64 (x.2.1:Int)):=hrow.cell 1
  have c2:V1.cell? ⟨V.heap.size,2,none⟩=some (.int .i64 (x.2.2:Int)):=hrow.cell 2
  have hbV1:Boxed V1 (w.heap.size+1) 172 (.slice vA vm vc):=(hb1.block _ (by omega)).trans hbV
  have hfV1:Boxed V1 (w.heap.size+1+1) 297 (.func (.func cf) #[] cap):=(hb1.block _ (by omega)).trans hfV
  have hrel1:=HD.out.keep pre (vA,vm,vc) O V V1 hrel hb1.size (fun k hk _=>hb1.block k hk)
  have HCALL:=Lh (HD.out.call pre x (vA,vm,vc) O V1 ⟨post,hpost⟩ (by omega) (fun k hk=>by have:=hO k hk;omega) hrel1)
  have e0:=hfV1.cell
  have e1:=hbV1.cell
  rw [←hV1]
  simp only [enc3,slV]at HCALL
  clear hV1 hpost hrel hrel1 hit hY1 hY2 hB5 hbV hfV hrow hR5
  gi_wp2_with fail
  refine⟨trivial,rfl,CallsIn.inRound l' ((callsIn_wide.2 HCALL.out).mono ?_)⟩
  rintro e V2 ⟨⟨uA,um,uc⟩,rfl,hs2,hrel2,hK2⟩
  have hk2:∀k,k < V1.heap.size→w.heap.size≤k→¬O k→V2.heap[k]?=V1.heap[k]?:=fun k hk hw ho=>hK2.block k hk (fun h=>h.elim (fun hf=>by have:=HD.out.low k hf;omega) ho)
  have hkW:Keep F w V2:=(hkV.trans (Keep.of_below (F:=F) hb1) (fun k _ h=>h)).trans hK2 (fun k hk h=>h.elim id (fun ho=>by have:=hO k ho;omega))
  have HKW:=Lh (show Keep F w (V2.setCell ⟨w.heap.size+1,0,none⟩ (.slice uA um uc)) from hkW.set (o:=0) _ (.inr (by omega)))
  have hno:∀k,(k=w.heap.size+1∨k=w.heap.size+1+1∨k=w.heap.size+3)→V2.heap[k]?=V1.heap[k]?:=fun k hk=>hk2 k (by omega) (by omega) (fun h=>by have:=hO k h;omega)
  have hbV2:Boxed V2 (w.heap.size+1) 172 (.slice vA vm vc):=(hno _ (.inl rfl)).trans hbV1
  have hfV2:Boxed V2 (w.heap.size+1+1) 297 (.func (.func cf) #[] cap):=(hno _ (.inr (.inl rfl))).trans hfV1
  have HBX:=Lh (hbV2.set (.slice uA um uc))
  have HFX:=Lh (show Boxed (V2.setCell ⟨w.heap.size+1,0,none⟩ (.slice uA um uc)) (w.heap.size+1+1) 297 (.func (.func cf) #[] cap) from(heap_set (by omega)).trans hfV2)
  have HRL:=Lh (show Rel (pre ++ [x]) (uA,um,uc) (nextO O (fun _=>False) V (V2.setCell ⟨w.heap.size+1,0,none⟩ (.slice uA um uc))) (V2.setCell ⟨w.heap.size+1,0,none⟩ (.slice uA um uc)) from by
   refine HD.out.more _ _ _ _ _ (fun k hk=> ?_) (HD.out.keep _ _ _ V2 _ hrel2 (by rw [World.size_setCell];omega) (fun k hk hp=>heap_set ?_))
   ·rcases hk with hk | hk
    ·exact .inl hk
    ·exact .inr (.inr ⟨by omega,by rw [World.size_setCell];omega⟩)
   ·rintro rfl
    rcases hp with hp | hp | hp
    ·omega
    ·have:=hO _ hp;omega
    ·omega)
  have HKS:=Lh (show Keeps (· =w.heap.size+3) W5.heap.size O (fun _=>False) V (V2.setCell ⟨w.heap.size+1,0,none⟩ (.slice uA um uc)) from
   ⟨by rw [World.size_setCell];omega,fun k hk hp=>(heap_set (by rcases hp with h | ⟨h,_⟩ <;> omega)).trans ((hk2 k (by omega) (by rcases hp with h | ⟨h,_⟩ <;> omega) (by
    rcases hp with h | ⟨_,h,_⟩
    ·exact fun ho=>by have:=hO k ho;omega
    ·exact h)).trans (hb1.block k hk))⟩)
  have HOW:=Lh (show ∀k,nextO O (fun _=>False) V (V2.setCell ⟨w.heap.size+1,0,none⟩ (.slice uA um uc)) k→W5.heap.size+2≤k from by
   rintro k (h | h | h)
   ·exact hOw k h
   ·exact h.elim
   ·omega)
  have f1:=hbV2.frozen
  have f2:=hbV2.cell
  clear hbV1 hfV1 hb1 hbV2 hfV2 c0 c1 c2 e0 e1 hrel2 hk2 hno hK2 hkW hkV
  gi_wp2_with fail
  exact⟨HKS.out,⟨(uA,um,uc),HBX.out,HFX.out,HRL.out,HKW.out⟩,HOW.out⟩
 case done=>
  intro xs O Z hall hI hD
  obtain⟨⟨⟨vA,vm,vc⟩,hbx,_,hrel,hkZ⟩,hOw⟩:=hI
  have hz:(Z.putObj W5.heap.size (.deferred none)).cell? ⟨w.heap.size+1,0,none⟩=some (.slice vA vm vc):=(World.cell?_of_block (World.putObj_heap_other (by show w.heap.size+1≠W5.heap.size;omega))).trans hbx.cell
  have hzz:=hbx.cell
  have hZs:W5.heap.size < Z.heap.size:=(Array.getElem?_eq_some_iff.1 hD).1
  have HR:=Lh (show Rel (pts a n) (vA,vm,vc) O (Z.putObj W5.heap.size (.deferred none)) from by
   rw [←show xs=pts a n from hall]
   refine HD.out.keep _ _ _ Z _ hrel (by simp) (fun k hk hp=>World.putObj_heap_other (fun e=> ?_))
   rcases hp with hp | hp
   ·omega
   ·have:=hOw k hp;omega)
  have HS:=Lh (show Keep F w (Z.putObj W5.heap.size (.deferred none)) from hkZ.grown (putObj_grown Z _ _) (fun r e=>by cases e;exact .inl (by omega)))
  have HOO:=Lh (show ∀k,O k→w.heap.size≤k from fun k hk=>by have:=hOw k hk;omega)
  have HDD:=Lh hD
  clear hall hbx hrel hit hY1 hY2 hR5 hD hz hOw hZs hkZ
  go_wp2_with fail
  refine⟨by simp,.inl ⟨_,_,rfl,run_takeDeferred HDD.out,?_⟩⟩
  exact⟨_,results_tmp (t:=6) rfl _ _ _,(vA,vm,vc),O,rfl,HR.out,HOO.out,HS.out⟩
 case stop=>exact fun _ _ _ _ _ h=>h.elim
theorem partwiseL_any (a n cf:Nat) (cap:Array Value) (A0:Option Addr) (m0 c0:Nat) (w:World) (F:Nat→Prop) (Rel:List Part→Sl3→(Nat→Prop)→World→Prop) (han:a+n≤16777216) (hd:Does w a n cf cap F Rel) (h0:Rel [] (A0,m0,c0) (fun _=>False) w):
  Calls Tryz.prog 243 #[.agg #[.int .u32 (a:Int),.int .i64 (n:Int)],.slice A0 m0 c0,.func (.func cf) #[] cap] w fun e w'=>∃v O,e= .returned (slV v)∧Rel (pts a n) v O w'∧(∀k,O k→w.heap.size≤k)∧Keep F w w':=by
 have HD:=Lh hd
 have eg:=hd.enters
 refine calls_marks Tryz.func243 rfl ?_
 simp only [Tryz.ntmps243,List.size_toArray,List.length_cons,List.length_nil,Nat.reduceAdd,Nat.reduceSub,Array.replicate_succ,Array.replicate_zero,List.push_toArray,List.append_toArray,List.nil_append,List.cons_append]
 clear hd
 go_wp2_with fail
 obtain⟨W4,hW4⟩:=Nm ((((w.alloc (.cells #[.int .u32 (a:Int),.int .i64 (n:Int)] 245)).alloc (.cells #[.slice A0 m0 c0] 248)).alloc (.cells #[.func (.func cf) #[] cap] 305)))
 have hs4:W4.heap.size=w.heap.size+3:=by rw [hW4];simp
 have hB4:Below w.heap.size w W4:=by rw [hW4];exact(below2 _ _ _).alloc (by simp;omega) _
 have hX1:Boxed W4 (w.heap.size+1) 248 (.slice A0 m0 c0):=by
  have h:=Boxed.new (w.alloc (.cells #[.int .u32 (a:Int),.int .i64 (n:Int)] 245)) 248 (.slice A0 m0 c0)
  rw [World.size_alloc]at h
  rw [hW4]
  exact h.alloc _
 have hX2:Boxed W4 (w.heap.size+1+1) 305 (.func (.func cf) #[] cap):=by
  have h:=Boxed.new ((w.alloc (.cells #[.int .u32 (a:Int),.int .i64 (n:Int)] 245)).alloc (.cells #[.slice A0 m0 c0] 248)) 305 (.func (.func cf) #[] cap)
  rw [World.size_alloc,World.size_alloc]at h
  rw [hW4]
  exact h
 rw [←hW4]
 clear hW4
 refine(parts_any a n W4).mono ?_
 rintro e W5 ⟨rfl,hW5⟩
 have hb5:Below W4.heap.size W4 W5:=by rw [hW5];exact below1 _ _
 have hs5:W5.heap.size=W4.heap.size+1:=by rw [hW5];simp
 have hr5:Row W5 W4.heap.size 245 (rc2 a n):=by rw [hW5];exact Row.new W4 245 (rc2 a n)
 have hit:=parts1_it a n W4.heap.size W5 han hr5
 rw [hs4]at hit
 have hY1:=(hb5.block _ (by omega)).trans hX1
 have hY2:=(hb5.block _ (by omega)).trans hX2
 have hB5:=below0 hB4 hb5
 have hR5:Rel [] (A0,m0,c0) (fun _=>False) W5:=HD.out.keep [] (A0,m0,c0) _ w W5 h0 hB5.size (fun k hk _=>hB5.block k hk)
 clear hW5 hb5 hX1 hX2 hB4 h0
 go_wp2_with fail
 refine wpIn_wide.1 (wpIn_range_box (gf:=261) (lb:= #[bx (w.heap.size+3)]) rfl (enters_of Tryz.func261 (by kernel_rfl) rfl) hit (by rintro k rfl;omega) (fun _=>rfl) (fun _ _ _ _ _ h=>h)
  (fun pre O V=>PwI w F (w.heap.size+1) (w.heap.size+1+1) 248 305 (.func (.func cf) #[] cap) Rel pre O V∧∀k,O k→W5.heap.size+2≤k) (fun _ _ _ _=>False) ?hI (fun _ _ _ _ _ _ h=>h.elim) ⟨⟨(A0,m0,c0),hY1,hY2,hR5,Keep.of_below hB5⟩,fun _ h=>h.elim⟩
  (fun g x=>{tmps:= #[.agg #[.int .u32 (a:Int),.int .i64 (n:Int)],.slice A0 m0 c0,.func (.func cf) #[] cap,.pointer (some ⟨w.heap.size,0,none⟩),.pointer (some ⟨w.heap.size+1,0,none⟩),.pointer (some ⟨w.heap.size+1+1,0,none⟩),.slice none 0 0,.pointer (some ⟨g,0,none⟩),.agg #[.int .u32 (a:Int),.int .i64 (n:Int)],.func (.func 261) #[] #[bx (w.heap.size+3)],enc3 x,undef,undef,undef,undef,undef],defers:= []})
  (fun x=> .cells #[.int .i64 (x.1:Int),.int .i64 (x.2.1:Int),.int .i64 (x.2.2:Int)] 295) ?assign ?body ?done ?stop)
 case hI=>exact fun s O V V' row hp hg hr=>⟨PwI.abid HD.out (by omega) s O V V' row hp.1 hg hr,hp.2⟩
 case assign=>
  intro l' x W' K hK
  simp only [encX,enc3]
  gi_wp2
  exact hK
 case body=>
  rintro l' pre x O V hVs hO ⟨⟨⟨vA,vm,vc⟩,hbV,hfV,hrel,hkV⟩,hOw⟩ ⟨post,hpost⟩ _
  obtain⟨V1,hV1⟩:=Nm (V.alloc (.cells #[.int .i64 (x.1:Int),.int .i64 (x.2.1:Int),.int .i64 (x.2.2:Int)] 295))
  have hb1:Below V.heap.size V V1:=by rw [hV1];exact below1 _ _
  have hz1:V1.heap.size=V.heap.size+1:=by rw [hV1];simp
  have hrow:Row V1 V.heap.size 295 [.int .i64 (x.1:Int),.int .i64 (x.2.1:Int),.int .i64 (x.2.2:Int)]:=by rw [hV1];exact Row.new V 295 [.int .i64 (x.1:Int),.int .i64 (x.2.1:Int),.int .i64 (x.2.2:Int)]
  have c0:V1.cell? ⟨V.heap.size,0,none⟩=some (.int .i64 (x.1:Int)):=hrow.cell 0
  have c1:V1.cell? ⟨V.heap.size,1,none⟩=some (.int .i64 (x.2.1:Int)):=hrow.cell 1
  have c2:V1.cell? ⟨V.heap.size,2,none⟩=some (.int .i64 (x.2.2:Int)):=hrow.cell 2
  have hbV1:Boxed V1 (w.heap.size+1) 248 (.slice vA vm vc):=(hb1.block _ (by omega)).trans hbV
  have hfV1:Boxed V1 (w.heap.size+1+1) 305 (.func (.func cf) #[] cap):=(hb1.block _ (by omega)).trans hfV
  have hrel1:=HD.out.keep pre (vA,vm,vc) O V V1 hrel hb1.size (fun k hk _=>hb1.block k hk)
  have HCALL:=Lh (HD.out.call pre x (vA,vm,vc) O V1 ⟨post,hpost⟩ (by omega) (fun k hk=>by have:=hO k hk;omega) hrel1)
  have e0:=hfV1.cell
  have e1:=hbV1.cell
  rw [←hV1]
  simp only [enc3,slV]at HCALL
  clear hV1 hpost hrel hrel1 hit hY1 hY2 hB5 hbV hfV hrow hR5
  gi_wp2_with fail
  refine⟨trivial,rfl,CallsIn.inRound l' ((callsIn_wide.2 HCALL.out).mono ?_)⟩
  rintro e V2 ⟨⟨uA,um,uc⟩,rfl,hs2,hrel2,hK2⟩
  have hk2:∀k,k < V1.heap.size→w.heap.size≤k→¬O k→V2.heap[k]?=V1.heap[k]?:=fun k hk hw ho=>hK2.block k hk (fun h=>h.elim (fun hf=>by have:=HD.out.low k hf;omega) ho)
  have hkW:Keep F w V2:=(hkV.trans (Keep.of_below (F:=F) hb1) (fun k _ h=>h)).trans hK2 (fun k hk h=>h.elim id (fun ho=>by have:=hO k ho;omega))
  have HKW:=Lh (show Keep F w (V2.setCell ⟨w.heap.size+1,0,none⟩ (.slice uA um uc)) from hkW.set (o:=0) _ (.inr (by omega)))
  have hno:∀k,(k=w.heap.size+1∨k=w.heap.size+1+1∨k=w.heap.size+3)→V2.heap[k]?=V1.heap[k]?:=fun k hk=>hk2 k (by omega) (by omega) (fun h=>by have:=hO k h;omega)
  have hbV2:Boxed V2 (w.heap.size+1) 248 (.slice vA vm vc):=(hno _ (.inl rfl)).trans hbV1
  have hfV2:Boxed V2 (w.heap.size+1+1) 305 (.func (.func cf) #[] cap):=(hno _ (.inr (.inl rfl))).trans hfV1
  have HBX:=Lh (hbV2.set (.slice uA um uc))
  have HFX:=Lh (show Boxed (V2.setCell ⟨w.heap.size+1,0,none⟩ (.slice uA um uc)) (w.heap.size+1+1) 305 (.func (.func cf) #[] cap) from(heap_set (by omega)).trans hfV2)
  have HRL:=Lh (show Rel (pre ++ [x]) (uA,um,uc) (nextO O (fun _=>False) V (V2.setCell ⟨w.heap.size+1,0,none⟩ (.slice uA um uc))) (V2.setCell ⟨w.heap.size+1,0,none⟩ (.slice uA um uc)) from by
   refine HD.out.more _ _ _ _ _ (fun k hk=> ?_) (HD.out.keep _ _ _ V2 _ hrel2 (by rw [World.size_setCell];omega) (fun k hk hp=>heap_set ?_))
   ·rcases hk with hk | hk
    ·exact .inl hk
    ·exact .inr (.inr ⟨by omega,by rw [World.size_setCell];omega⟩)
   ·rintro rfl
    rcases hp with hp | hp | hp
    ·omega
    ·have:=hO _ hp;omega
    ·omega)
  have HKS:=Lh (show Keeps (· =w.heap.size+3) W5.heap.size O (fun _=>False) V (V2.setCell ⟨w.heap.size+1,0,none⟩ (.slice uA um uc)) from
   ⟨by rw [World.size_setCell];omega,fun k hk hp=>(heap_set (by rcases hp with h | ⟨h,_⟩ <;> omega)).trans ((hk2 k (by omega) (by rcases hp with h | ⟨h,_⟩ <;> omega) (by
    rcases hp with h | ⟨_,h,_⟩
    ·exact fun ho=>by have:=hO k ho;omega
    ·exact h)).trans (hb1.block k hk))⟩)
  have HOW:=Lh (show ∀k,nextO O (fun _=>False) V (V2.setCell ⟨w.heap.size+1,0,none⟩ (.slice uA um uc)) k→W5.heap.size+2≤k from by
   rintro k (h | h | h)
   ·exact hOw k h
   ·exact h.elim
   ·omega)
  have f1:=hbV2.frozen
  have f2:=hbV2.cell
  clear hbV1 hfV1 hb1 hbV2 hfV2 c0 c1 c2 e0 e1 hrel2 hk2 hno hK2 hkW hkV
  gi_wp2_with fail
  exact⟨HKS.out,⟨(uA,um,uc),HBX.out,HFX.out,HRL.out,HKW.out⟩,HOW.out⟩
 case done=>
  intro xs O Z hall hI hD
  obtain⟨⟨⟨vA,vm,vc⟩,hbx,_,hrel,hkZ⟩,hOw⟩:=hI
  have hz:(Z.putObj W5.heap.size (.deferred none)).cell? ⟨w.heap.size+1,0,none⟩=some (.slice vA vm vc):=(World.cell?_of_block (World.putObj_heap_other (by show w.heap.size+1≠W5.heap.size;omega))).trans hbx.cell
  have hzz:=hbx.cell
  have hZs:W5.heap.size < Z.heap.size:=(Array.getElem?_eq_some_iff.1 hD).1
  have HR:=Lh (show Rel (pts a n) (vA,vm,vc) O (Z.putObj W5.heap.size (.deferred none)) from by
   rw [←show xs=pts a n from hall]
   refine HD.out.keep _ _ _ Z _ hrel (by simp) (fun k hk hp=>World.putObj_heap_other (fun e=> ?_))
   rcases hp with hp | hp
   ·omega
   ·have:=hOw k hp;omega)
  have HS:=Lh (show Keep F w (Z.putObj W5.heap.size (.deferred none)) from hkZ.grown (putObj_grown Z _ _) (fun r e=>by cases e;exact .inl (by omega)))
  have HOO:=Lh (show ∀k,O k→w.heap.size≤k from fun k hk=>by have:=hOw k hk;omega)
  have HDD:=Lh hD
  clear hall hbx hrel hit hY1 hY2 hR5 hD hz hOw hZs hkZ
  go_wp2_with fail
  refine⟨by simp,.inl ⟨_,_,rfl,run_takeDeferred HDD.out,?_⟩⟩
  exact⟨_,results_tmp (t:=6) rfl _ _ _,(vA,vm,vc),O,rfl,HR.out,HOO.out,HS.out⟩
 case stop=>exact fun _ _ _ _ _ h=>h.elim
end Go.Proofs.YtfcfbcjiijfjgaaGreatDoor.Vm
