import Derived.Test.YtfcfbcjiijfjgaaGreatDoorPAR
import Derived.Test.YtfcfbcjiijfjgaaGreatDoorPAQ
set_option maxHeartbeats 8000000
set_option maxRecDepth 100000
namespace Go.Proofs.YtfcfbcjiijfjgaaGreatDoor.Me
open Go.RowKit Go.Shelf
attribute [local go_sem] Oper.semAt_some
structure Says (A:Nat→World→(Nat→Prop)→Prop):Prop where
 keep:∀{k V V' G},A k V G→(∀b,G b→V'.heap[b]?=V.heap[b]?)→A k V' G
 lt:∀{k V G},A k V G→∀b,G b→b < V.heap.size
def WrI (A:Nat→World→(Nat→Prop)→Prop) (w:World) (G0:Nat→Prop) (gr gl:Nat) (tr:TypeId) (cs:List Value) (fv:Value) (pre:List Nat) (O:Nat→Prop) (V:World):Prop:=
 ∃G,A pre.length V G∧(∀b,G b→G0 b∨O b)∧(∀b,O b→w.heap.size+5≤b)∧Row V gr tr cs∧Boxed V gl 252 fv∧Keep G0 w V
theorem keep_grown {F:Nat→Prop} {w V V':World} {row:Option Nat} (h:Keep F w V) (hg:V.grownBy V' row) (hr:∀r,row=some r→w.heap.size≤r):Keep F w V':=
 ⟨hg.os.trans h.os,hg.tape.trans h.tape,hg.output.trans h.output,Nat.le_trans h.size hg.size,fun k hk hf=>(hg.block k (Nat.lt_of_lt_of_le hk h.size) (fun e=>by have:=hr k e.symm;omega)).trans (h.block k hk hf)⟩
theorem WrI.abid {A:Nat→World→(Nat→Prop)→Prop} (HA:Says A) {w:World} {G0:Nat→Prop} {gr gl B:Nat} {tr:TypeId} {cs:List Value} {fv:Value} (h:gr < B∧gl < B∧w.heap.size≤B) (hG:∀b,G0 b→b < w.heap.size):Abid B (WrI A w G0 gr gl tr cs fv):=by
 rintro pre O V V' row ⟨G,h1,h2,h3,h4,h5,h6⟩ hg hr
 refine⟨G,HA.keep h1 (fun b hb=>hg.block b (HA.lt h1 b hb) (fun e=> ?_)),h2,h3,row_kept h4 hg (fun e=>by have:=hr gr e.symm;omega),h5.kept hg (fun e=>by have:=hr gl e.symm;omega),keep_grown h6 hg (fun r e=>by have:=hr r e;omega)⟩
 obtain⟨e1,e2⟩:=hr b e.symm
 rcases h2 b hb with h | h
 ·have:=hG b h
  omega
 ·exact e2 h
theorem write_Rec (st sz no:Int) (A:Nat→World→(Nat→Prop)→Prop) (HA:Says A) (G0:Nat→Prop) (tv:Nat→Int) (cf:Nat) (cap:Array Value) (l:List Prt) (g n c:Nat) (t:TypeId) (w:World) (hrow:Row w g t (prtCells l)) (hn:l.length=n) (hm:n≤6) (hc:n≤c) (hf:∀k,k≤n→frm l k≤1000)
  (h0:A 0 w G0) (hg0:¬G0 g)
  (eg:∀args w,(callFunc cf args).run Tryz.prog w= .ok (.enter cf args) w)
  (HL:∀k,k < l.length→∀W G,Keep G0 w W→A k W G→Calls Tryz.prog cf (#[.int .i64 (tv k),.int .i64 ((prt l k).wd:Int)] ++ cap) W fun e W'=>(∃u,e= .returned u)∧∃G',A (k+1) W' G'∧Keep G W W'∧∀b,G' b→G b∨W.heap.size≤b)
  (EG:∀k,k < l.length→∀args w,(callFunc (prt l k).tf args).run Tryz.prog w= .ok (.enter (prt l k).tf args) w)
  (HT:∀k,k < l.length→∀W,Calls Tryz.prog (prt l k).tf #[.agg #[.int .i64 st,.int .i64 sz,.int .u32 no]] W fun e W'=>e= .returned (.int .i64 (tv k))∧Below W.heap.size W W'):
  Calls Tryz.prog 161 #[.agg #[.int .i64 st,.int .i64 sz,.int .u32 no],.func (.func cf) #[] cap,.slice (some ⟨g,0,none⟩) n c] w fun e w'=>(∃u,e= .returned u)∧∃G,A n w' G∧Keep G0 w w'∧∀b,G b→G0 b∨w.heap.size≤b:=by
 have HEG:=Lh EG
 have HTT:=Lh HT
 have HLL:=Lh HL
 have hGl:=HA.lt h0
 have HGL:=Lh hGl
 have HAA:=Lh HA
 clear EG HT HL
 refine calls_marks Tryz.func161 rfl ?_
 simp only [Tryz.ntmps161,List.size_toArray,List.length_cons,List.length_nil,Nat.reduceAdd,Nat.reduceSub,Array.replicate_succ,Array.replicate_zero,List.push_toArray,List.append_toArray,List.nil_append,List.cons_append]
 go_wp2_with fail
 obtain⟨W4,hW4⟩:=Nm (((w.alloc (.cells #[.int .i64 st,.int .i64 sz,.int .u32 no] 41)).alloc (.cells #[.func (.func cf) #[] cap] 252)))
 have hs4:W4.heap.size=w.heap.size+1+1:=by rw [hW4];simp
 have hB4:Below w.heap.size w W4:=by rw [hW4];exact(Br.alloc Lr _).alloc (by simp) _
 have hX1:Row W4 (w.heap.size) 41 [.int .i64 st,.int .i64 sz,.int .u32 no]:=by rw [hW4];exact(Row.new w _ _).below (below1 _ _)
 have hX2:Row W4 (w.heap.size+1) 252 [.func (.func cf) #[] cap]:=by rw [hW4];exact Row.new_at _ _ _ (by simp)
 rw [←hW4]
 clear hW4
 refine(placed_Rec _ _ _ _).mono ?_
 rintro e W5 ⟨rfl,hW5⟩
 have hb5:Below W4.heap.size W4 W5:=by rw [hW5];exact below1 _ _
 have hs5:W5.heap.size=W4.heap.size+1:=by rw [hW5];simp
 have hr5:Row W5 W4.heap.size 115 [.slice (some ⟨g,0,none⟩) n c]:=by rw [hW5];exact Row.new W4 _ _
 have hB5:=below0 hB4 hb5
 have hpl:Pls W5 W4.heap.size g n l t c:=⟨hr5.cell 0,hrow.below hB5⟩
 have hit:=placed1_Rec W4.heap.size g n c l t W5 hpl hn hm hc hf
 have hpv:=hpl.lt
 rw [hs4]at hit hpv
 have hI0:WrI A w G0 (w.heap.size) (w.heap.size+1) 41 [.int .i64 st,.int .i64 sz,.int .u32 no] (.func (.func cf) #[] cap) [] (fun _=>False) W5:=⟨G0,HA.keep h0 (fun b hb=>hB5.block b (hGl b hb)),fun b hb=> .inl hb,fun _ h=>h.elim,hX1.below hb5,hX2.below hb5,Keep.of_below hB5⟩
 have hgl:=hrow.lt
 have hmix:Tryz.prog.follows .mixedOrders=true:=by kernel_rfl
 clear hW5 hb5 hX1 hX2 hB4 hr5 hpl hrow hf
 go_wp2_with fail
 refine wpIn_wide.1 (wpIn_range_box (gf:=231) (lb:= #[.pointer (some ⟨w.heap.size+1+1,0,none⟩)]) rfl (enters_of Tryz.func231 (by kernel_rfl) rfl) hit hpv (fun _=>rfl) (fun _ _ _ _ _ h=>h)
  (WrI A w G0 (w.heap.size) (w.heap.size+1) 41 [.int .i64 st,.int .i64 sz,.int .u32 no] (.func (.func cf) #[] cap)) (fun _ _ _ _=>False) (WrI.abid HA (by omega) hGl) (fun _ _ _ _ _ _ h _ _=>h) hI0
  (fun gg x=>{tmps:= #[.agg #[.int .i64 st,.int .i64 sz,.int .u32 no],.func (.func cf) #[] cap,.slice (some ⟨g,0,none⟩) n c,.pointer (some ⟨w.heap.size,0,none⟩),.pointer (some ⟨w.heap.size+1,0,none⟩),undef,undef,.pointer (some ⟨gg,0,none⟩),.slice (some ⟨g,0,none⟩) n c,.func (.func 231) #[] #[.pointer (some ⟨w.heap.size+1+1,0,none⟩)],.int .i64 (frm l x:Int),.agg #[.int .i64 ((prt l x).wd:Int),.int .i64 ((prt l x).mo:Int),.func (.func (prt l x).tf) #[] #[],.func (.func (prt l x).sf) #[] #[]],undef,undef,undef,undef,undef,undef,undef,undef],defers:= []})
  (fun x=> .cells #[.int .i64 ((prt l x).wd:Int),.int .i64 ((prt l x).mo:Int),.func (.func (prt l x).tf) #[] #[],.func (.func (prt l x).sf) #[] #[]] 106) ?assign ?body ?done ?stop)
 case assign=>
  intro l' x W' K hK
  simp only [encP_eq]
  gi_wp2
  exact hK
 case body=>
  rintro l' pre x O V hVs hO ⟨G,h1,h2,h3,h4,h5,h6⟩ ⟨hxp,hxl⟩ _
  rw [←hxp]at h1
  obtain⟨V1,hV1⟩:=Nm (V.alloc (.cells #[.int .i64 ((prt l x).wd:Int),.int .i64 ((prt l x).mo:Int),.func (.func (prt l x).tf) #[] #[],.func (.func (prt l x).sf) #[] #[]] 106))
  have hb1:Below V.heap.size V V1:=by rw [hV1];exact below1 _ _
  have hz1:V1.heap.size=V.heap.size+1:=by rw [hV1];simp
  have hrp:Row V1 V.heap.size 106 [.int .i64 ((prt l x).wd:Int),.int .i64 ((prt l x).mo:Int),.func (.func (prt l x).tf) #[] #[],.func (.func (prt l x).sf) #[] #[]]:=by rw [hV1];exact Row.new _ _ _
  have HCALL:=Lh (HTT.out x hxl)
  have eg2:=HEG.out x hxl
  have HLAY:=Lh (fun W G hk ha=>HLL.out x hxl W G hk ha)
  obtain⟨p,hp⟩:=Nm (prt l x)
  rw [←hp]at HCALL eg2 HLAY hrp ⊢
  obtain⟨a,b,tf,sf⟩:=p
  simp only at HCALL eg2 HLAY hrp ⊢
  obtain⟨y,hy⟩:=Nm (tv x)
  rw [←hy]at HCALL HLAY
  rw [←hp]at hV1
  simp only at hV1
  rw [←hV1]
  have HGV:=Lh (HAA.out.lt h1)
  have HG2:=Lh h2
  have HG3:=Lh h3
  have HK6:=Lh h6
  have HH1:=Lh h1
  have HB1:=Lh hb1
  have HOO:=Lh hO
  have HSS:Hid (∀W,Below V1.heap.size V1 W→W.cell? ⟨w.heap.size,0,none⟩=some (.int .i64 st)∧W.cell? ⟨w.heap.size,1,none⟩=some (.int .i64 sz)∧W.cell? ⟨w.heap.size,2,none⟩=some (.int .u32 no)∧W.cell? ⟨w.heap.size+1,0,none⟩=some (.func (.func cf) #[] cap)∧W.cell? ⟨V.heap.size,0,none⟩=some (.int .i64 (a:Int))∧W.cell? ⟨V.heap.size,2,none⟩=some (.func (.func tf) #[] #[])):=Lh (fun W hb=>by
   have q1:=(h4.below hb1).below hb
   have q2:Boxed W (w.heap.size+1) 252 (.func (.func cf) #[] cap):=(hb.block _ (by have:=h5.lt;omega)).trans ((hb1.block _ h5.lt).trans h5)
   have q3:=hrp.below hb
   exact⟨q1.cell 0,q1.cell 1,q1.cell 2,q2.cell,q3.cell 0,q3.cell 2⟩)
  have HSK:Hid (∀W W',Below V1.heap.size V1 W→Keep G W W'→W'.cell? ⟨w.heap.size,0,none⟩=some (.int .i64 st)∧W'.cell? ⟨w.heap.size,1,none⟩=some (.int .i64 sz)∧W'.cell? ⟨w.heap.size,2,none⟩=some (.int .u32 no)∧W'.cell? ⟨w.heap.size+1,0,none⟩=some (.func (.func cf) #[] cap)∧W'.cell? ⟨V.heap.size,0,none⟩=some (.int .i64 (a:Int))∧W'.cell? ⟨V.heap.size,2,none⟩=some (.func (.func tf) #[] #[])):=Lh (fun W W' hb hk=>by
   have hs:=hb.size
   have ng:∀j,j=w.heap.size∨j=w.heap.size+1∨j=V.heap.size→¬G j:=fun j hj hg=>by
    have hl:=HGV.out j hg
    rcases h2 j hg with h | h
    ·have:=HGL.out j h
     omega
    ·have:=h3 j h
     omega
   have q1:=hk.row ((h4.below hb1).below hb) (ng _ (.inl rfl))
   have q2:Boxed W' (w.heap.size+1) 252 (.func (.func cf) #[] cap):=(hk.block _ (by have:=h5.lt;omega) (ng _ (.inr (.inl rfl)))).trans ((hb.block _ (by have:=h5.lt;omega)).trans ((hb1.block _ h5.lt).trans h5))
   have q3:=hk.row (hrp.below hb) (ng _ (.inr (.inr rfl)))
   exact⟨q1.cell 0,q1.cell 1,q1.cell 2,q2.cell,q3.cell 0,q3.cell 2⟩)
  have HXP:=Lh hxp
  have HFIN:Hid (∀V2 V3 G',Below V.heap.size V V2→Keep G V2 V3→A (x+1) V3 G'→(∀b,G' b→G b∨V2.heap.size≤b)→Keeps (pvL (w.heap.size+1+1) g) W5.heap.size O (fun _=>False) V V3∧WrI A w G0 (w.heap.size) (w.heap.size+1) 41 [.int .i64 st,.int .i64 sz,.int .u32 no] (.func (.func cf) #[] cap) (pre ++ [x]) (nextO O (fun _=>False) V V3) V3):=Lh (fun V2 V3 G' hb hk q1 q3=>by
   have hs:=hb.size
   have hs3:=hk.size
   have hgl0:=hGl
   have nk:∀j,j=w.heap.size∨j=w.heap.size+1∨j=w.heap.size+1+1∨j=g∨(W5.heap.size≤j∧¬O j)→¬G j:=fun j hj hg=>by
    rcases h2 j hg with h | h
    ·have:=hGl j h
     rcases hj with rfl | rfl | rfl | rfl | ⟨h8,_⟩
     ·omega
     ·omega
     ·omega
     ·exact hg0 h
     ·omega
    ·have:=h3 j h
     rcases hj with rfl | rfl | rfl | rfl | ⟨_,h9⟩
     ·omega
     ·omega
     ·omega
     ·omega
     ·exact h9 h
   refine⟨⟨by omega,fun k hkl hp=>(hk.block k (by omega) (nk k ?_)).trans (hb.block k hkl)⟩,G',?_,fun b hb'=> ?_,fun b hb'=> ?_,hk.row (h4.below hb) (nk _ (.inl rfl)),(hk.block _ (by have:=h5.lt;omega) (nk _ (.inr (.inl rfl)))).trans ((hb.block _ h5.lt).trans h5),(h6.trans (Keep.of_below hb) (fun k hk h=>h)).trans hk (fun k hkl hg=> ?_)⟩
   ·rcases hp with(h | h) | ⟨h,h',_⟩
    ·exact .inr (.inr (.inl h))
    ·exact .inr (.inr (.inr (.inl h)))
    ·exact .inr (.inr (.inr (.inr ⟨h,h'⟩)))
   ·have hl:(pre ++ [x]).length=x+1:=by rw [List.length_append,←hxp];rfl
    rw [hl]
    exact q1
   ·rcases q3 b hb' with h | h
    ·rcases h2 b h with h | h
     ·exact .inl h
     ·exact .inr (.inl h)
    ·exact .inr (.inr (.inr ⟨by omega,HAA.out.lt q1 b hb'⟩))
   ·rcases hb' with h | h | h
    ·exact h3 b h
    ·exact h.elim
    ·omega
   ·rcases h2 k hg with h | h
    ·exact h
    ·have:=h3 k h
     omega)
  have hdr:Below V1.heap.size V1 V1.drew:=Br.drew
  clear hp hy hV1 hb1 hrp h1 h2 h3 h4 h5 h6 hit hI0 hxp hO
  gi_wp2_with fail
  refine wpIn_region_heldH l' 8 (S:=fun W=>W.cell? ⟨w.heap.size,0,none⟩=some (.int .i64 st)∧W.cell? ⟨w.heap.size,1,none⟩=some (.int .i64 sz)∧W.cell? ⟨w.heap.size,2,none⟩=some (.int .u32 no)∧W.cell? ⟨w.heap.size+1,0,none⟩=some (.func (.func cf) #[] cap)∧W.cell? ⟨V.heap.size,0,none⟩=some (.int .i64 (a:Int))∧W.cell? ⟨V.heap.size,2,none⟩=some (.func (.func tf) #[] #[])) hmix (by kernel_rfl) (by kernel_rfl) (HSS.out _ hdr) (fun hZ=> ?_)
  simp only [List.take_succ_cons,List.take_zero]
  refine tkH 0 hZ ?_
  simp only [Act.put]
  refine tkH 1 hZ ?_
  simp only [Act.put]
  refine tkH 2 hZ ?_
  simp only [Act.put]
  refine tkH 3 hZ ?_
  simp only [Act.put]
  refine tkH 5 hZ ?_
  simp only [Act.put]
  refine tkH 6 hZ ?_
  simp only [Act.put]
  refine rdH 4 fun K hK=> ?_
  go_simp
  refine(HCALL.out _).mono ?_
  rintro e V2 ⟨rfl,hb2⟩
  replace hb2:=below0 hdr hb2
  refine hK.out _ _ (HSS.out _ hb2) (fun hZ=> ?_)
  clear hK K hdr
  try simp only [Act.put]
  refine rdH 7 fun K hK=> ?_
  go_simp
  refine(HLAY.out V2 G (HK6.out.trans (Keep.of_below (below0 HB1.out hb2)) (fun k hk h=>h)) (HAA.out.keep HH1.out (fun b hb=>(below0 HB1.out hb2).block b (HGV.out b hb)))).mono ?_
  rintro e V3 ⟨⟨u,rfl⟩,G',q1,q2,q3⟩
  refine hK.out _ _ (HSK.out _ _ hb2 q2) (fun hZ=> ?_)
  clear hK K
  try simp only [Act.put]
  refine wpAnyH_done (by kernel_rfl) ?_ _
  refine⟨by kernel_rfl,?_⟩
  exact HFIN.out V2 V3 G' (below0 HB1.out hb2) q2 q1 q3
 case done=>
  intro xs O Z hall hI hD
  obtain⟨G,h1,h2,h3,h4,h5,h6⟩:=hI
  have hxs:xs.length=n:=by rw [show xs.length=l.length from hall,hn]
  rw [hxs]at h1
  have hgk:∀b,G b→b≠W5.heap.size:=fun b hb e=>by
   subst e
   rcases h2 _ hb with h | h
   ·have:=hGl _ h
    omega
   ·have:=h3 _ h
    omega
  have HFI:=Lh (show ∃G,A n (Z.putObj W5.heap.size (.deferred none)) G∧Keep G0 w (Z.putObj W5.heap.size (.deferred none))∧∀b,G b→G0 b∨w.heap.size≤b from
   ⟨G,HAA.out.keep h1 (fun b hb=>World.putObj_heap_other (hgk b hb)),keep_grown h6 (putObj_grown Z _ _) (fun r e=>by cases e;omega),fun b hb=>by
    rcases h2 b hb with h | h
    ·exact .inl h
    ·have:=h3 b h
     exact .inr (by omega)⟩)
  have HD:=Lh hD
  clear h1 h2 h3 h4 h5 h6 hit hI0 hD hall hxs hgk
  go_wp2_with fail
  refine⟨by simp,.inl ⟨_,_,rfl,run_takeDeferred HD.out,?_⟩⟩
  exact⟨_,results_none rfl _ _ _,⟨_,rfl⟩,HFI.out⟩
 case stop=>
  intro c' xs O Z _ h
  exact h.elim
theorem write_Gre (st pg sz fi:Int) (A:Nat→World→(Nat→Prop)→Prop) (HA:Says A) (G0:Nat→Prop) (tv:Nat→Int) (cf:Nat) (cap:Array Value) (l:List Prt) (g n c:Nat) (t:TypeId) (w:World) (hrow:Row w g t (prtCells l)) (hn:l.length=n) (hm:n≤6) (hc:n≤c) (hf:∀k,k≤n→frm l k≤1000)
  (h0:A 0 w G0) (hg0:¬G0 g)
  (eg:∀args w,(callFunc cf args).run Tryz.prog w= .ok (.enter cf args) w)
  (HL:∀k,k < l.length→∀W G,Keep G0 w W→A k W G→Calls Tryz.prog cf (#[.int .i64 (tv k),.int .i64 ((prt l k).wd:Int)] ++ cap) W fun e W'=>(∃u,e= .returned u)∧∃G',A (k+1) W' G'∧Keep G W W'∧∀b,G' b→G b∨W.heap.size≤b)
  (EG:∀k,k < l.length→∀args w,(callFunc (prt l k).tf args).run Tryz.prog w= .ok (.enter (prt l k).tf args) w)
  (HT:∀k,k < l.length→∀W,Calls Tryz.prog (prt l k).tf #[.agg #[.int .i64 st,.int .i64 pg,.int .i64 sz,.int .i64 fi]] W fun e W'=>e= .returned (.int .i64 (tv k))∧Below W.heap.size W W'):
  Calls Tryz.prog 210 #[.agg #[.int .i64 st,.int .i64 pg,.int .i64 sz,.int .i64 fi],.func (.func cf) #[] cap,.slice (some ⟨g,0,none⟩) n c] w fun e w'=>(∃u,e= .returned u)∧∃G,A n w' G∧Keep G0 w w'∧∀b,G b→G0 b∨w.heap.size≤b:=by
 have HEG:=Lh EG
 have HTT:=Lh HT
 have HLL:=Lh HL
 have hGl:=HA.lt h0
 have HGL:=Lh hGl
 have HAA:=Lh HA
 clear EG HT HL
 refine calls_marks Tryz.func210 rfl ?_
 simp only [Tryz.ntmps210,List.size_toArray,List.length_cons,List.length_nil,Nat.reduceAdd,Nat.reduceSub,Array.replicate_succ,Array.replicate_zero,List.push_toArray,List.append_toArray,List.nil_append,List.cons_append]
 go_wp2_with fail
 obtain⟨W4,hW4⟩:=Nm (((w.alloc (.cells #[.int .i64 st,.int .i64 pg,.int .i64 sz,.int .i64 fi] 43)).alloc (.cells #[.func (.func cf) #[] cap] 252)))
 have hs4:W4.heap.size=w.heap.size+1+1:=by rw [hW4];simp
 have hB4:Below w.heap.size w W4:=by rw [hW4];exact(Br.alloc Lr _).alloc (by simp) _
 have hX1:Row W4 (w.heap.size) 43 [.int .i64 st,.int .i64 pg,.int .i64 sz,.int .i64 fi]:=by rw [hW4];exact(Row.new w _ _).below (below1 _ _)
 have hX2:Row W4 (w.heap.size+1) 252 [.func (.func cf) #[] cap]:=by rw [hW4];exact Row.new_at _ _ _ (by simp)
 rw [←hW4]
 clear hW4
 refine(placed_Gre _ _ _ _).mono ?_
 rintro e W5 ⟨rfl,hW5⟩
 have hb5:Below W4.heap.size W4 W5:=by rw [hW5];exact below1 _ _
 have hs5:W5.heap.size=W4.heap.size+1:=by rw [hW5];simp
 have hr5:Row W5 W4.heap.size 126 [.slice (some ⟨g,0,none⟩) n c]:=by rw [hW5];exact Row.new W4 _ _
 have hB5:=below0 hB4 hb5
 have hpl:Pls W5 W4.heap.size g n l t c:=⟨hr5.cell 0,hrow.below hB5⟩
 have hit:=placed1_Gre W4.heap.size g n c l t W5 hpl hn hm hc hf
 have hpv:=hpl.lt
 rw [hs4]at hit hpv
 have hI0:WrI A w G0 (w.heap.size) (w.heap.size+1) 43 [.int .i64 st,.int .i64 pg,.int .i64 sz,.int .i64 fi] (.func (.func cf) #[] cap) [] (fun _=>False) W5:=⟨G0,HA.keep h0 (fun b hb=>hB5.block b (hGl b hb)),fun b hb=> .inl hb,fun _ h=>h.elim,hX1.below hb5,hX2.below hb5,Keep.of_below hB5⟩
 have hgl:=hrow.lt
 have hmix:Tryz.prog.follows .mixedOrders=true:=by kernel_rfl
 clear hW5 hb5 hX1 hX2 hB4 hr5 hpl hrow hf
 go_wp2_with fail
 refine wpIn_wide.1 (wpIn_range_box (gf:=251) (lb:= #[.pointer (some ⟨w.heap.size+1+1,0,none⟩)]) rfl (enters_of Tryz.func251 (by kernel_rfl) rfl) hit hpv (fun _=>rfl) (fun _ _ _ _ _ h=>h)
  (WrI A w G0 (w.heap.size) (w.heap.size+1) 43 [.int .i64 st,.int .i64 pg,.int .i64 sz,.int .i64 fi] (.func (.func cf) #[] cap)) (fun _ _ _ _=>False) (WrI.abid HA (by omega) hGl) (fun _ _ _ _ _ _ h _ _=>h) hI0
  (fun gg x=>{tmps:= #[.agg #[.int .i64 st,.int .i64 pg,.int .i64 sz,.int .i64 fi],.func (.func cf) #[] cap,.slice (some ⟨g,0,none⟩) n c,.pointer (some ⟨w.heap.size,0,none⟩),.pointer (some ⟨w.heap.size+1,0,none⟩),undef,undef,.pointer (some ⟨gg,0,none⟩),.slice (some ⟨g,0,none⟩) n c,.func (.func 251) #[] #[.pointer (some ⟨w.heap.size+1+1,0,none⟩)],.int .i64 (frm l x:Int),.agg #[.int .i64 ((prt l x).wd:Int),.int .i64 ((prt l x).mo:Int),.func (.func (prt l x).tf) #[] #[],.func (.func (prt l x).sf) #[] #[]],undef,undef,undef,undef,undef,undef,undef,undef],defers:= []})
  (fun x=> .cells #[.int .i64 ((prt l x).wd:Int),.int .i64 ((prt l x).mo:Int),.func (.func (prt l x).tf) #[] #[],.func (.func (prt l x).sf) #[] #[]] 121) ?assign ?body ?done ?stop)
 case assign=>
  intro l' x W' K hK
  simp only [encP_eq]
  gi_wp2
  exact hK
 case body=>
  rintro l' pre x O V hVs hO ⟨G,h1,h2,h3,h4,h5,h6⟩ ⟨hxp,hxl⟩ _
  rw [←hxp]at h1
  obtain⟨V1,hV1⟩:=Nm (V.alloc (.cells #[.int .i64 ((prt l x).wd:Int),.int .i64 ((prt l x).mo:Int),.func (.func (prt l x).tf) #[] #[],.func (.func (prt l x).sf) #[] #[]] 121))
  have hb1:Below V.heap.size V V1:=by rw [hV1];exact below1 _ _
  have hz1:V1.heap.size=V.heap.size+1:=by rw [hV1];simp
  have hrp:Row V1 V.heap.size 121 [.int .i64 ((prt l x).wd:Int),.int .i64 ((prt l x).mo:Int),.func (.func (prt l x).tf) #[] #[],.func (.func (prt l x).sf) #[] #[]]:=by rw [hV1];exact Row.new _ _ _
  have HCALL:=Lh (HTT.out x hxl)
  have eg2:=HEG.out x hxl
  have HLAY:=Lh (fun W G hk ha=>HLL.out x hxl W G hk ha)
  obtain⟨p,hp⟩:=Nm (prt l x)
  rw [←hp]at HCALL eg2 HLAY hrp ⊢
  obtain⟨a,b,tf,sf⟩:=p
  simp only at HCALL eg2 HLAY hrp ⊢
  obtain⟨y,hy⟩:=Nm (tv x)
  rw [←hy]at HCALL HLAY
  rw [←hp]at hV1
  simp only at hV1
  rw [←hV1]
  have HGV:=Lh (HAA.out.lt h1)
  have HG2:=Lh h2
  have HG3:=Lh h3
  have HK6:=Lh h6
  have HH1:=Lh h1
  have HB1:=Lh hb1
  have HOO:=Lh hO
  have HSS:Hid (∀W,Below V1.heap.size V1 W→W.cell? ⟨w.heap.size,0,none⟩=some (.int .i64 st)∧W.cell? ⟨w.heap.size,1,none⟩=some (.int .i64 pg)∧W.cell? ⟨w.heap.size,2,none⟩=some (.int .i64 sz)∧W.cell? ⟨w.heap.size,3,none⟩=some (.int .i64 fi)∧W.cell? ⟨w.heap.size+1,0,none⟩=some (.func (.func cf) #[] cap)∧W.cell? ⟨V.heap.size,0,none⟩=some (.int .i64 (a:Int))∧W.cell? ⟨V.heap.size,2,none⟩=some (.func (.func tf) #[] #[])):=Lh (fun W hb=>by
   have q1:=(h4.below hb1).below hb
   have q2:Boxed W (w.heap.size+1) 252 (.func (.func cf) #[] cap):=(hb.block _ (by have:=h5.lt;omega)).trans ((hb1.block _ h5.lt).trans h5)
   have q3:=hrp.below hb
   exact⟨q1.cell 0,q1.cell 1,q1.cell 2,q1.cell 3,q2.cell,q3.cell 0,q3.cell 2⟩)
  have HSK:Hid (∀W W',Below V1.heap.size V1 W→Keep G W W'→W'.cell? ⟨w.heap.size,0,none⟩=some (.int .i64 st)∧W'.cell? ⟨w.heap.size,1,none⟩=some (.int .i64 pg)∧W'.cell? ⟨w.heap.size,2,none⟩=some (.int .i64 sz)∧W'.cell? ⟨w.heap.size,3,none⟩=some (.int .i64 fi)∧W'.cell? ⟨w.heap.size+1,0,none⟩=some (.func (.func cf) #[] cap)∧W'.cell? ⟨V.heap.size,0,none⟩=some (.int .i64 (a:Int))∧W'.cell? ⟨V.heap.size,2,none⟩=some (.func (.func tf) #[] #[])):=Lh (fun W W' hb hk=>by
   have hs:=hb.size
   have ng:∀j,j=w.heap.size∨j=w.heap.size+1∨j=V.heap.size→¬G j:=fun j hj hg=>by
    have hl:=HGV.out j hg
    rcases h2 j hg with h | h
    ·have:=HGL.out j h
     omega
    ·have:=h3 j h
     omega
   have q1:=hk.row ((h4.below hb1).below hb) (ng _ (.inl rfl))
   have q2:Boxed W' (w.heap.size+1) 252 (.func (.func cf) #[] cap):=(hk.block _ (by have:=h5.lt;omega) (ng _ (.inr (.inl rfl)))).trans ((hb.block _ (by have:=h5.lt;omega)).trans ((hb1.block _ h5.lt).trans h5))
   have q3:=hk.row (hrp.below hb) (ng _ (.inr (.inr rfl)))
   exact⟨q1.cell 0,q1.cell 1,q1.cell 2,q1.cell 3,q2.cell,q3.cell 0,q3.cell 2⟩)
  have HXP:=Lh hxp
  have HFIN:Hid (∀V2 V3 G',Below V.heap.size V V2→Keep G V2 V3→A (x+1) V3 G'→(∀b,G' b→G b∨V2.heap.size≤b)→Keeps (pvL (w.heap.size+1+1) g) W5.heap.size O (fun _=>False) V V3∧WrI A w G0 (w.heap.size) (w.heap.size+1) 43 [.int .i64 st,.int .i64 pg,.int .i64 sz,.int .i64 fi] (.func (.func cf) #[] cap) (pre ++ [x]) (nextO O (fun _=>False) V V3) V3):=Lh (fun V2 V3 G' hb hk q1 q3=>by
   have hs:=hb.size
   have hs3:=hk.size
   have hgl0:=hGl
   have nk:∀j,j=w.heap.size∨j=w.heap.size+1∨j=w.heap.size+1+1∨j=g∨(W5.heap.size≤j∧¬O j)→¬G j:=fun j hj hg=>by
    rcases h2 j hg with h | h
    ·have:=hGl j h
     rcases hj with rfl | rfl | rfl | rfl | ⟨h8,_⟩
     ·omega
     ·omega
     ·omega
     ·exact hg0 h
     ·omega
    ·have:=h3 j h
     rcases hj with rfl | rfl | rfl | rfl | ⟨_,h9⟩
     ·omega
     ·omega
     ·omega
     ·omega
     ·exact h9 h
   refine⟨⟨by omega,fun k hkl hp=>(hk.block k (by omega) (nk k ?_)).trans (hb.block k hkl)⟩,G',?_,fun b hb'=> ?_,fun b hb'=> ?_,hk.row (h4.below hb) (nk _ (.inl rfl)),(hk.block _ (by have:=h5.lt;omega) (nk _ (.inr (.inl rfl)))).trans ((hb.block _ h5.lt).trans h5),(h6.trans (Keep.of_below hb) (fun k hk h=>h)).trans hk (fun k hkl hg=> ?_)⟩
   ·rcases hp with(h | h) | ⟨h,h',_⟩
    ·exact .inr (.inr (.inl h))
    ·exact .inr (.inr (.inr (.inl h)))
    ·exact .inr (.inr (.inr (.inr ⟨h,h'⟩)))
   ·have hl:(pre ++ [x]).length=x+1:=by rw [List.length_append,←hxp];rfl
    rw [hl]
    exact q1
   ·rcases q3 b hb' with h | h
    ·rcases h2 b h with h | h
     ·exact .inl h
     ·exact .inr (.inl h)
    ·exact .inr (.inr (.inr ⟨by omega,HAA.out.lt q1 b hb'⟩))
   ·rcases hb' with h | h | h
    ·exact h3 b h
    ·exact h.elim
    ·omega
   ·rcases h2 k hg with h | h
    ·exact h
    ·have:=h3 k h
     omega)
  have hdr:Below V1.heap.size V1 V1.drew:=Br.drew
  clear hp hy hV1 hb1 hrp h1 h2 h3 h4 h5 h6 hit hI0 hxp hO
  gi_wp2_with fail
  refine wpIn_region_heldH l' 8 (S:=fun W=>W.cell? ⟨w.heap.size,0,none⟩=some (.int .i64 st)∧W.cell? ⟨w.heap.size,1,none⟩=some (.int .i64 pg)∧W.cell? ⟨w.heap.size,2,none⟩=some (.int .i64 sz)∧W.cell? ⟨w.heap.size,3,none⟩=some (.int .i64 fi)∧W.cell? ⟨w.heap.size+1,0,none⟩=some (.func (.func cf) #[] cap)∧W.cell? ⟨V.heap.size,0,none⟩=some (.int .i64 (a:Int))∧W.cell? ⟨V.heap.size,2,none⟩=some (.func (.func tf) #[] #[])) hmix (by kernel_rfl) (by kernel_rfl) (HSS.out _ hdr) (fun hZ=> ?_)
  simp only [List.take_succ_cons,List.take_zero]
  refine tkH 0 hZ ?_
  simp only [Act.put]
  refine tkH 1 hZ ?_
  simp only [Act.put]
  refine tkH 2 hZ ?_
  simp only [Act.put]
  refine tkH 3 hZ ?_
  simp only [Act.put]
  refine tkH 5 hZ ?_
  simp only [Act.put]
  refine tkH 6 hZ ?_
  simp only [Act.put]
  refine rdH 4 fun K hK=> ?_
  go_simp
  refine(HCALL.out _).mono ?_
  rintro e V2 ⟨rfl,hb2⟩
  replace hb2:=below0 hdr hb2
  refine hK.out _ _ (HSS.out _ hb2) (fun hZ=> ?_)
  clear hK K hdr
  try simp only [Act.put]
  refine rdH 7 fun K hK=> ?_
  go_simp
  refine(HLAY.out V2 G (HK6.out.trans (Keep.of_below (below0 HB1.out hb2)) (fun k hk h=>h)) (HAA.out.keep HH1.out (fun b hb=>(below0 HB1.out hb2).block b (HGV.out b hb)))).mono ?_
  rintro e V3 ⟨⟨u,rfl⟩,G',q1,q2,q3⟩
  refine hK.out _ _ (HSK.out _ _ hb2 q2) (fun hZ=> ?_)
  clear hK K
  try simp only [Act.put]
  refine wpAnyH_done (by kernel_rfl) ?_ _
  refine⟨by kernel_rfl,?_⟩
  exact HFIN.out V2 V3 G' (below0 HB1.out hb2) q2 q1 q3
 case done=>
  intro xs O Z hall hI hD
  obtain⟨G,h1,h2,h3,h4,h5,h6⟩:=hI
  have hxs:xs.length=n:=by rw [show xs.length=l.length from hall,hn]
  rw [hxs]at h1
  have hgk:∀b,G b→b≠W5.heap.size:=fun b hb e=>by
   subst e
   rcases h2 _ hb with h | h
   ·have:=hGl _ h
    omega
   ·have:=h3 _ h
    omega
  have HFI:=Lh (show ∃G,A n (Z.putObj W5.heap.size (.deferred none)) G∧Keep G0 w (Z.putObj W5.heap.size (.deferred none))∧∀b,G b→G0 b∨w.heap.size≤b from
   ⟨G,HAA.out.keep h1 (fun b hb=>World.putObj_heap_other (hgk b hb)),keep_grown h6 (putObj_grown Z _ _) (fun r e=>by cases e;omega),fun b hb=>by
    rcases h2 b hb with h | h
    ·exact .inl h
    ·have:=h3 b h
     exact .inr (by omega)⟩)
  have HD:=Lh hD
  clear h1 h2 h3 h4 h5 h6 hit hI0 hD hall hxs hgk
  go_wp2_with fail
  refine⟨by simp,.inl ⟨_,_,rfl,run_takeDeferred HD.out,?_⟩⟩
  exact⟨_,results_none rfl _ _ _,⟨_,rfl⟩,HFI.out⟩
 case stop=>
  intro c' xs O Z _ h
  exact h.elim
end Go.Proofs.YtfcfbcjiijfjgaaGreatDoor.Me
namespace Go.Proofs.YtfcfbcjiijfjgaaGreatDoor.Vm
open Go.RowKit Go.Shelf Go.Maps Go.Sort
attribute [local go_sem] Oper.semAt_some
theorem pts_len:∀(n a:Nat),(pts a n).length*256≤a % 256+n+255:=by
 intro n
 induction n using Nat.strongRecOn with
 | _ n ih=>
  intro a
  rcases Nat.eq_zero_or_pos n with rfl | hn
  ·rw [pts_zero]
   simp
  ·rw [pts_pos hn,List.length_cons]
   by_cases h:n≤256 - a % 256
   ·have e:n - min n (256 - a % 256)=0:=by omega
    rw [e,pts_zero]
    simp only [List.length_nil]
    omega
   ·obtain⟨k,hk⟩:=Nm (256 - a % 256)
    have e1:min n (256 - a % 256)=k:=by omega
    have h2:=ih (n - k) (by omega) (a+k)
    have e2:(a+k) % 256=0:=by omega
    rw [e1]
    rw [e2]at h2
    obtain⟨m,hm⟩:=Nm (n - k)
    rw [←hm]at h2 ⊢
    generalize(pts (a+k) m).length=L at h2 ⊢
    clear e2 e1 ih
    omega
theorem sees_own {w:World} {base size n c:Nat} {A:Option Addr} {e:TypeId} {xs:List Value} (h:w.ownsRow base e size (.slice A n c) n xs):Sees w w.heap.size A xs:=fun hn=>by
 have h0:0 < n:=by
  rcases Nat.eq_zero_or_pos n with h0 | h0
  ·have:=h.1
   rw [h0,Nat.zero_mul]at this
   exact absurd (List.eq_nil_of_length_eq_zero this) hn
  ·exact h0
 obtain⟨g,cap,hv,_,hlt⟩:=h.form h0
 have hA:A=some ⟨g,0,none⟩:=by injection hv
 subst hA
 exact⟨_,rfl,hlt,h.cells (g:=g) rfl⟩
theorem readP_le (p:Pl) (i a m:Int):(readP p i a m).length≤m.toNat:=by
 unfold readP
 split
 ·split
  ·rw [List.length_take];omega
  ·simp
 ·simp
def rdB (p:Pl) (l:Pg.Tb) (a n:Nat):List UInt8:=flat ((pts a n).map (pce p l))
theorem flat_le:∀(ls:List (List UInt8)),(∀x∈ls,x.length≤256)→(flat ls).length≤256*ls.length
 | [],_=>by simp [flat]
 | x :: r,h=>by
  have h1:=h x (by simp)
  have h2:=flat_le r (fun y hy=>h y (by simp [hy]))
  rw [flat,List.length_append,List.length_cons]
  omega
theorem rd_does {w:World} {gm b t q:Nat} {l:Pg.Tb} {p:Pl} {F1 F2:Nat→Prop} (h0:MRep w b t q l p F1 F2) (hg:gm < w.heap.size) (hgF:gm≠b∧¬F1 gm∧¬F2 gm) (a n:Nat) (han:a+n≤16777216):
  Does w a n 244 #[bx gm] (fun _=>False) (RdRel w gm b t q l p F1 F2):=by
 refine⟨enters_of Tryz.func244 (by kernel_rfl) rfl,fun _ h=>h.elim,?_,?_,?_⟩
 ·rintro pre v O V V' ⟨h1,h2,⟨vs,h3,h4,h5,h6⟩,h7,h8⟩ hs hk
  refine⟨h1,by omega,⟨vs,h3,own_same h4 (fun k e=>hk k (own_lt h4 e) (.inr (h5 k e))),h5,fun i hi=> ?_⟩,h7.keep fun k hkk=>hk k (h7.lt k hkk) (.inl (h0.lt k hkk)),(World.cell?_of_block (hk gm (by omega) (.inl hg))).trans h8⟩
  obtain⟨u,hu,hm⟩:=h6 i hi
  exact⟨u,hu,hm.keep (fun k h=>h) (fun k ho e=>hk k (hm.lt e) (.inr ho))⟩
 ·rintro pre v O O2 V hO ⟨h1,h2,⟨vs,h3,h4,h5,h6⟩,h7,h8⟩
  refine⟨h1,h2,⟨vs,h3,h4,fun k e=>hO k (h5 k e),fun i hi=> ?_⟩,h7,h8⟩
  obtain⟨u,hu,hm⟩:=h6 i hi
  exact⟨u,hu,hm.keep hO (fun k ho e=>rfl)⟩
 ·rintro pre x v O V ⟨post,hpost⟩ hsz hO h
  have hx:=pts_mem n a han x (by rw [hpost];simp)
  have hl:=pts_len n a
  rw [hpost,List.length_append]at hl
  exact read1_any h0 hg hgF hO h (by omega) x hx.1 hx.2.1 (by omega)
theorem readM_any {w:World} {b t q:Nat} {l:Pg.Tb} {p:Pl} {F1 F2:Nat→Prop} (h:MRep w b t q l p F1 F2) (a n:Nat) (han:a+n≤16777216):
  Calls Tryz.prog 168 #[bx b,.agg #[.int .u32 (a:Int),.int .i64 (n:Int)]] w fun e w'=>∃v,e= .returned v∧w'.ownsRow w.heap.size 5 1 v (rdB p l a n).length (byt (rdB p l a n))∧Below w.heap.size w w':=by
 obtain⟨W,hW⟩:=Nm ((w.alloc (.cells #[bx b] 24)).alloc (.cells #[.int .u32 (a:Int),.int .i64 (n:Int)] 245))
 have hbW:Below w.heap.size w W:=by rw [hW];exact below2 _ _ _
 have hc:W.cell? ⟨w.heap.size,0,none⟩=some (bx b):=by
  rw [hW]
  exact(World.cell?_alloc_lt _ _ _ (by simp)).trans (cell_alloc_new _ _ _ _)
 have hsW:W.heap.size=w.heap.size+1+1:=by rw [hW];simp
 have h0:=h.below hbW
 have hgF:w.heap.size≠b∧¬F1 w.heap.size∧¬F2 w.heap.size:=⟨fun e=>by have:=h.lt b (.inl rfl);omega,fun hf=>by have:=h.lt _ (.inr (.inl hf));omega,fun hf=>by have:=h.lt _ (.inr (.inr hf));omega⟩
 have HP:=Lh (partwiseL_any a n 244 #[bx w.heap.size] none 0 0 W (fun _=>False) (RdRel W w.heap.size b t q l p F1 F2) han (rd_does h0 (by omega) hgF a n han)
  ⟨rfl,Nat.le_refl _,⟨[],rfl,World.ownsRow_nil _ _ _ _,fun k h=>(by cases h),fun i h=>absurd h (by simp)⟩,h0,hc⟩)
 have HB:=Lh (And.intro hbW hsW)
 clear h h0 hgF hc hbW hsW
 go_enter Tryz.func168,Tryz.ntmps168
 go_wp2_with fail
 rw [←hW]
 clear hW
 refine(HP.out).mono ?_
 rintro e w1 ⟨⟨sA,sm,sc⟩,O,rfl,h1,hO,hK⟩
 obtain⟨h1,h2,⟨vs,h3,h4,h5,h6⟩,_,_⟩:=h1
 simp only at h1
 subst h1
 have hb1:=hK.below (n:=w.heap.size) (fun _ h=>h.elim) (by have:=HB.out.2;omega)
 have hl:=pts_len n a
 obtain⟨L,hL⟩:=Nm ((pts a n).length)
 have hls:∀x∈(pts a n).map (pce p l),x.length≤256:=by
  intro x hx
  obtain⟨y,hy,rfl⟩:=List.mem_map.1 hx
  have:=pts_mem n a han y hy
  have h9:=readP_le p (Pg.getX l (y.1:Int)).2.2 (y.2.1:Int) (y.2.2:Int)
  unfold pce
  omega
 have hfl:=flat_le _ hls
 rw [List.length_map]at hfl
 have HJ:=Lh (joined_any ((pts a n).map (pce p l)) L sc w1.heap.size sA w1 (by rw [List.length_map,hL]) (by omega) (by omega) ⟨vs,by rw [h3,List.length_map],sees_own h4,fun i hi=>by
  rw [List.length_map]at hi
  obtain⟨u,hu,A,m,c,rfl,g1,g2,g3⟩:=h6 i hi
  refine⟨A,m,c,hu,by rw [List.getElem_map,g1],?_,by rw [List.getElem_map];exact sees_own g2⟩
  have:=hls _ (List.mem_map_of_mem (List.getElem_mem hi))
  omega⟩ Lr)
 have HB1:=Lh (below0 HB.out.1 (by exact hK.below (n:=W.heap.size) (fun _ h=>h.elim) Lr))
 rw [←hL]
 clear h2 h3 h4 h5 h6 hb1 hl hL hls hfl hO hK
 simp only [slV]
 go_wp2_with fail
 refine(HJ.out).mono ?_
 rintro e w2 ⟨v,rfl,hown,hb2⟩
 obtain⟨A,c,rfl⟩:=own_slice hown
 have HF:=Lh (show w2.ownsRow w.heap.size 5 1 (.slice A (flat ((pts a n).map (pce p l))).length c) (rdB p l a n).length (byt (rdB p l a n))∧Below w.heap.size w w2 from⟨own_mono hown HB1.out.size,below0 HB1.out hb2⟩)
 clear hown hb2
 go_wp2_with fail
 go_ret
 exact⟨_,rfl,HF.out⟩
def sumL (pre:List Part):Nat:=(pre.map fun x=>x.2.2).sum
theorem sumL_snoc (pre:List Part) (x:Part):sumL (pre ++ [x])=sumL pre+x.2.2:=by simp [sumL]
theorem pts_sum:∀(n a:Nat),sumL (pts a n)=n:=by
 intro n
 induction n using Nat.strongRecOn with
 | _ n ih=>
  intro a
  rcases Nat.eq_zero_or_pos n with rfl | hn
  ·rw [pts_zero];rfl
  ·have hm:a % 256 < 256:=Nat.mod_lt _ (by decide)
   obtain⟨k,hk⟩:=Nm (min n (256 - a % 256))
   have h2:=ih (n - k) (by omega) (a+k)
   rw [pts_pos hn,←hk]
   show k+sumL (pts (a+k) (n - k))=n
   rw [h2]
   omega
def wr (p:Pl) (l:Pg.Tb):List Part→List UInt8→Pl
 | [],_=>p
 | x :: r,bs=>wr (writeP p (Pg.getX l (x.1:Int)).2.2 (x.2.1:Int) (bs.take x.2.2)) l r (bs.drop x.2.2)
theorem wr_snoc (l:Pg.Tb) (x:Part):∀(pre:List Part) (p:Pl) (bs:List UInt8),wr p l (pre ++ [x]) bs=writeP (wr p l pre bs) (Pg.getX l (x.1:Int)).2.2 (x.2.1:Int) ((bs.drop (sumL pre)).take x.2.2)
 | [],p,bs=>by simp [wr,sumL]
 | y :: r,p,bs=>by
  rw [List.cons_append,wr,wr_snoc l x r,List.drop_drop]
  rfl
theorem add_add (a:Addr) (f j:Nat):(a.add f).add j=a.add (f+j):=by
 unfold Addr.add
 by_cases hf:f=0
 ·subst hf
  simp
 ·by_cases hj:j=0
  ·subst hj
   simp [hf]
  ·rw [if_neg hf,if_neg hj,if_neg (by omega)]
   simp only [Addr.mk.injEq,and_true,true_and]
   omega
theorem sees_drop {w:World} {B:Nat} {ad:Addr} {xs:List Value} (h:Sees w B (some ad) xs) (f:Nat):Sees w B (some (ad.add f)) (xs.drop f):=fun hn=>by
 have hne:xs≠[]:=by rintro rfl;simp at hn
 obtain⟨a,e,hb,hc⟩:=h hne
 injection e with e
 subst e
 refine⟨_,rfl,by rw [add_block];exact hb,fun j u hu=> ?_⟩
 rw [List.getElem?_drop]at hu
 rw [add_add]
 exact hc (f+j) u hu
theorem Sees.keep_ {w w':World} {B:Nat} {ad:Addr} {xs:List Value} (h:Sees w B (some ad) xs) (hk:xs≠[]→w'.heap[ad.block]?=w.heap[ad.block]?):Sees w' B (some ad) xs:=fun hn=>by
 obtain⟨a,e,hb,hc⟩:=h hn
 injection e with e
 subst e
 refine⟨_,rfl,hb,fun j u hu=>(World.cell?_of_block ?_).trans (hc j u hu)⟩
 rw [add_block]
 exact hk hn
structure WrRel (w:World) (gm b t q:Nat) (l:Pg.Tb) (p:Pl) (bs:List UInt8) (F1 F2:Nat→Prop) (pre:List Part) (s:Sl3) (O:Nat→Prop) (V:World):Prop where
 size:w.heap.size≤V.heap.size
 box:V.cell? ⟨gm,0,none⟩=some (bx b)
 mem:∃F2',MRep V b t q l (wr p l pre bs) F1 F2'∧∀k,F2' k→F2 k∨O k
 many:s.2.1=(bs.drop (sumL pre)).length
 cap:s.2.1≤s.2.2
 sees:Sees V w.heap.size s.1 (byt (bs.drop (sumL pre)))
 src:∀a,s.1=some a→bs.drop (sumL pre)≠[]→a.block < w.heap.size∧¬F1 a.block∧¬F2 a.block∧a.block≠b
theorem byt_drop (l:List UInt8) (k:Nat):byt (l.drop k)=(byt l).drop k:=by simp [byt]
theorem byt_take (l:List UInt8) (k:Nat):byt (l.take k)=(byt l).take k:=by simp [byt]
theorem write1_any {w V:World} {gm b t q:Nat} {l:Pg.Tb} {p:Pl} {bs:List UInt8} {F1 F2 O:Nat→Prop} {pre:List Part} {s:Sl3} (h0:MRep w b t q l p F1 F2) (hg:gm < w.heap.size) (hgF:gm≠b∧¬F1 gm∧¬F2 gm) (hO:∀k,O k→w.heap.size≤k∧k < V.heap.size) (h:WrRel w gm b t q l p bs F1 F2 pre s O V) (x:Part) (hx:x.1 < 65536) (hx2:x.2.1 < 256) (hx3:0 < x.2.2) (hx4:x.2.2≤256) (hx5:sumL pre+x.2.2≤bs.length):
  Calls Tryz.prog 235 (#[slV s,enc3 x] ++ #[bx gm]) V fun e V'=>∃v',e= .returned (slV v')∧V.heap.size≤V'.heap.size∧WrRel w gm b t q l p bs F1 F2 (pre ++ [x]) v' (fun k=>O k∨(V.heap.size≤k∧k < V'.heap.size)) V'∧Keep (fun k=>F2 k∨O k) V V':=by
 obtain⟨sA,sm,sc⟩:=s
 obtain⟨hsz,hbox,⟨F2',hmem,hF2⟩,hmany,hcap,hsees,hsrc⟩:=h
 simp only at hmany hcap hsees hsrc
 have hne:bs.drop (sumL pre)≠[]:=by
  intro e
  have:=congrArg List.length e
  rw [List.length_drop,List.length_nil]at this
  omega
 obtain⟨ad,rfl,_,_⟩:=hsees (by simpa [byt] using hne)
 obtain⟨pg,pl,k⟩:=x
 simp only at hx hx2 hx3 hx4 hx5
 have hwr:=wr_snoc l (pg,pl,k) pre p bs
 have hsn:=sumL_snoc pre (pg,pl,k)
 simp only at hwr hsn
 obtain⟨off,hoff⟩:=Nm (sumL pre)
 obtain⟨rs,hrs⟩:=Nm (bs.drop (sumL pre))
 have hlr:rs.length=bs.length - off:=by rw [hrs,List.length_drop,hoff]
 rw [←hrs]at hmany hsees hsrc hne hwr
 obtain⟨p1,hp1⟩:=Nm (wr p l pre bs)
 rw [←hp1]at hmem hwr
 obtain⟨V1,hV1⟩:=Nm (V.alloc (.cells #[.int .i64 (pg:Int),.int .i64 (pl:Int),.int .i64 (k:Int)] 295))
 have hb1:Below V.heap.size V V1:=by rw [hV1];exact below1 _ _
 have hz1':V1.heap.size=V.heap.size+1:=by rw [hV1];simp
 have hrow:Row V1 V.heap.size 295 [.int .i64 (pg:Int),.int .i64 (pl:Int),.int .i64 (k:Int)]:=by rw [hV1];exact Row.new V 295 [.int .i64 (pg:Int),.int .i64 (pl:Int),.int .i64 (k:Int)]
 have HSS:=Lh (fun(W:World) (hb:Below V1.heap.size V1 W)=>(show W.cell? ⟨gm,0,none⟩=some (bx b)∧W.cell? ⟨b,0,none⟩=some (bx t)∧W.cell? ⟨b,1,none⟩=some (bx q)∧W.cell? ⟨V.heap.size,0,none⟩=some (.int .i64 (pg:Int))∧W.cell? ⟨V.heap.size,1,none⟩=some (.int .i64 (pl:Int))∧W.cell? ⟨V.heap.size,2,none⟩=some (.int .i64 (k:Int)) from
  ⟨((below0 hb1 hb).cell (p:=⟨gm,0,none⟩) (by show gm < _;omega)).trans hbox,(hmem.below (below0 hb1 hb)).c0,(hmem.below (below0 hb1 hb)).c1,(hrow.below hb).cell 0,(hrow.below hb).cell 1,(hrow.below hb).cell 2⟩))
 have HFR:=Lh (fun(W:World) (hb:Below V1.heap.size V1 W)=>framed_any (hmem.below (below0 hb1 hb)).tab (pg:Int) (by unfold Pg.I64;omega))
 have hfi:=getX_i64 hmem.tab.ok (pg:Int)
 unfold Pg.I64 at hfi
 have htk:(rs.take k).length=k:=by rw [List.length_take];omega
 have HWR:=Lh (fun(W:World) (hb:Below V1.heap.size V1 W)=>write_any (hmem.below (below0 hb1 hb)).pool (Pg.getX l (pg:Int)).2.2 (pl:Int) hfi.2 (by omega) (some ad) k sc (rs.take k) htk (by
  rw [byt_take]
  exact((hsees.keep fun p hp=>(below0 hb1 hb).cell (by omega)).take k).more (by have:=(below0 hb1 hb).size;omega)))
 obtain⟨f,hf⟩:=Nm ((Pg.getX l (pg:Int)).2.2)
 rw [←hf]at HFR HWR hwr
 rw [htk]at HWR
 obtain⟨E,hE⟩:=Nm (reachE p1 f (pl:Int) ((k:Nat):Int))
 rw [←hE]at HWR
 have HF:=Lh (And.intro hmem (And.intro hF2 (And.intro hbox (And.intro hsees hsrc))))
 have HO:=Lh hO
 have HW:=Lh hwr
 have HSN:=Lh hsn
 have HRS:=Lh hrs
 have HB1:=Lh (And.intro hb1 (And.intro hz1' hsz))
 have HM0:=Lh (And.intro h0 (And.intro hg hgF))
 have HL:=Lh (And.intro hlr (And.intro hoff (And.intro hx5 hmany)))
 have j0:(0:Int)≤(k:Int):=by omega
 have j1:(k:Int)≤(sc:Int):=by omega
 have j2:k≤sc:=by omega
 have j3:(k:Int)≤(sm:Int):=by omega
 have j4:k≤sm:=by omega
 have j5:sm≤sc:=hcap
 have j6:(sm:Int)≤(sc:Int):=by omega
 show Calls _ _ #[.slice (some ad) sm sc,.agg #[.int .i64 (pg:Int),.int .i64 (pl:Int),.int .i64 (k:Int)],bx gm] _ _
 clear hfi htk hf hE hmem hF2 hbox hsees hsrc hO hwr hsn hrs hb1 hz1' hsz h0 hg hgF hrow hx hx2 hx3 hx4 hx5 hne hlr hoff hmany hcap hp1
 go_enter Tryz.func235,Tryz.ntmps235
 go_wp2_with fail
 rw [←hV1]
 clear hV1
 have hdr:Below V1.heap.size V1 V1.drew:=Br.drew
 refine wp_region_held_drew (S:=fun W=>W.cell? ⟨gm,0,none⟩=some (bx b)∧W.cell? ⟨b,0,none⟩=some (bx t)∧W.cell? ⟨b,1,none⟩=some (bx q)∧W.cell? ⟨V.heap.size,0,none⟩=some (.int .i64 (pg:Int))∧W.cell? ⟨V.heap.size,1,none⟩=some (.int .i64 (pl:Int))∧W.cell? ⟨V.heap.size,2,none⟩=some (.int .i64 (k:Int))) (by kernel_rfl) (HSS.out _ hdr) (fun hZ=> ?_)
 refine tkH 0 hZ ?_
 simp only [Act.put]
 refine tkH 1 hZ ?_
 simp only [Act.put]
 refine tkH 2 hZ ?_
 simp only [Act.put]
 refine tkH 3 hZ ?_
 simp only [Act.put]
 refine tkH 4 hZ ?_
 simp only [Act.put]
 refine tkH 5 hZ ?_
 simp only [Act.put]
 refine tkH 6 hZ ?_
 simp only [Act.put]
 refine tkH 7 hZ ?_
 simp only [Act.put]
 refine tkH 8 hZ ?_
 simp only [Act.put]
 refine tkH 9 hZ ?_
 simp only [Act.put]
 refine tkH 11 hZ ?_
 simp only [Act.put]
 refine tkH 12 hZ ?_
 simp only [Act.put]
 refine tkH 13 hZ ?_
 simp only [Act.put]
 refine tkH 14 hZ ?_
 simp only [Act.put]
 refine tkH 15 hZ ?_
 simp only [Act.put]
 refine tkH 16 hZ ?_
 simp only [Act.put]
 refine rdH 10 fun K hK=> ?_
 go_simp
 refine(HFR.out _ hdr).mono ?_
 rintro e W1 ⟨rfl,hb2⟩
 replace hb2:=below0 hdr hb2
 refine hK.out _ _ (HSS.out _ hb2) (fun hZ=> ?_)
 clear hK K hdr
 try simp only [Act.put]
 refine rdH 17 fun K hK=> ?_
 go_simp
 refine(HWR.out _ hb2).mono ?_
 rintro e W2 ⟨rfl,F3,hhas,hkeep,hF3⟩
 have HS2:W2.cell? ⟨gm,0,none⟩=some (bx b)∧W2.cell? ⟨b,0,none⟩=some (bx t)∧W2.cell? ⟨b,1,none⟩=some (bx q)∧W2.cell? ⟨V.heap.size,0,none⟩=some (.int .i64 (pg:Int))∧W2.cell? ⟨V.heap.size,1,none⟩=some (.int .i64 (pl:Int))∧W2.cell? ⟨V.heap.size,2,none⟩=some (.int .i64 (k:Int)):=by
  obtain⟨s1,s2,s3,s4,s5,s6⟩:=HSS.out _ hb2
  obtain⟨hmem,hF2,_⟩:=HF.out
  obtain⟨h0,hg,hgF⟩:=HM0.out
  have hvs:¬F2' V.heap.size:=fun hf=>by have:=hmem.pool.lt _ hf;omega
  have n1:¬F2' gm:=fun hf=>(hF2 _ hf).elim hgF.2.2 (fun ho=>by have:=HO.out _ ho;omega)
  have n2:¬F2' b:=hmem.b2
  have l0:=hb2.size
  have l1:=HB1.out.2.1
  have l2:=HB1.out.2.2
  have l3:=h0.lt b (.inl rfl)
  exact⟨(hkeep.cell (p:=⟨gm,0,none⟩) (by show gm < _;omega) n1).trans s1,(hkeep.cell (p:=⟨b,0,none⟩) (by show b < _;omega) n2).trans s2,(hkeep.cell (p:=⟨b,1,none⟩) (by show b < _;omega) n2).trans s3,(hkeep.cell (p:=⟨V.heap.size,0,none⟩) (by show V.heap.size < _;omega) hvs).trans s4,(hkeep.cell (p:=⟨V.heap.size,1,none⟩) (by show V.heap.size < _;omega) hvs).trans s5,(hkeep.cell (p:=⟨V.heap.size,2,none⟩) (by show V.heap.size < _;omega) hvs).trans s6⟩
 refine hK.out _ _ HS2 (fun hZ=> ?_)
 clear hK K
 try simp only [Act.put]
 refine wpAnyH_done (by kernel_rfl) ?_ _
 have c5:=HS2.2.2.2.2.2
 have HFIN:=Lh (fun(A9:Option Addr) (c9:Nat) (hA9:A9=some (ad.add k)∨sm - k=0) (hc9:sm - k≤c9)=>show V.heap.size≤W2.heap.size∧WrRel w gm b t q l p bs F1 F2 (pre ++ [(pg,pl,k)]) (A9,sm - k,c9) (fun kk=>O kk∨(V.heap.size≤kk∧kk < W2.heap.size)) W2∧Keep (fun kk=>F2 kk∨O kk) V W2 from by
  obtain⟨hmem,hF2,hbox,hsees,hsrc⟩:=HF.out
  obtain⟨h0,hg,hgF⟩:=HM0.out
  obtain⟨hb1,hz1',hsz⟩:=HB1.out
  obtain⟨hlr,hoff,hx5,hmany⟩:=HL.out
  have hbV:=below0 hb1 hb2
  have hs1:=hbV.size
  have hs2:=hkeep.size
  have hk:∀kk,kk < V.heap.size→¬F2' kk→W2.heap[kk]?=V.heap[kk]?:=fun kk h1 h2=>(hkeep.block kk (by omega) h2).trans (hbV.block kk h1)
  have n1:¬F2' gm:=fun hf=>(hF2 _ hf).elim hgF.2.2 (fun ho=>by have:=HO.out _ ho;omega)
  have hF1:∀kk,F1 kk→¬F2' kk:=hmem.apart
  have hdr:bs.drop (sumL (pre ++ [(pg,pl,k)]))=rs.drop k:=by rw [HSN.out,HRS.out,List.drop_drop]
  refine⟨by omega,⟨by omega,(World.cell?_of_block (hk gm (by omega) n1)).trans hbox,⟨F3,⟨?_,?_,by rw [HW.out];exact hhas,?_,hmem.b1,?_⟩,?_⟩,?_,?_,?_,?_⟩,?_⟩
  ·exact hmem.obj.same (hk b (hmem.lt b (.inl rfl)) hmem.b2)
  ·exact hmem.tab.keep fun kk hf=>hk kk (hmem.tab.lt kk hf) (hF1 kk hf)
  ·intro kk h1 h3
   rcases hF3 kk h3 with h | h
   ·exact hF1 kk h1 h
   ·have:=hmem.tab.lt kk h1;omega
  ·intro h3
   rcases hF3 b h3 with h | h
   ·exact hmem.b2 h
   ·have:=hmem.lt b (.inl rfl);omega
  ·intro kk h3
   have:=hhas.lt kk h3
   rcases hF3 kk h3 with h | h
   ·exact(hF2 kk h).imp id .inl
   ·exact .inr (.inr ⟨by omega,by omega⟩)
  ·show sm - k=_
   rw [hdr,List.length_drop,hmany]
  ·exact hc9
  ·rcases hA9 with hA9 | hA9
   ·subst hA9
    rw [hdr,byt_drop]
    refine sees_drop (_root_.Go.Proofs.YtfcfbcjiijfjgaaGreatDoor.Vm.Sees.keep_ hsees ?_) k
    intro hn
    have hsb:=hsrc ad rfl (by rintro rfl;simp [byt]at hn)
    exact hk ad.block (by omega) (fun hf=>(hF2 _ hf).elim hsb.2.2.1 (fun ho=>by have:=HO.out _ ho;omega))
   ·rw [hdr,List.eq_nil_of_length_eq_zero (show(rs.drop k).length=0 by rw [List.length_drop,←hmany];exact hA9)]
    exact Sees.nil_
  ·intro a ha hn
   rw [hdr]at hn
   rcases hA9 with hA9 | hA9
   ·subst hA9
    injection ha with ha
    subst ha
    rw [add_block]
    exact hsrc ad rfl (by rintro rfl;simp at hn)
   ·exact absurd (List.eq_nil_of_length_eq_zero (show(rs.drop k).length=0 by rw [List.length_drop,←hmany];exact hA9)) hn
  ·refine((Keep.of_below (F:=fun kk=>F2 kk∨O kk) hbV).trans hkeep fun kk _ h=>hF2 kk h))
 clear HSS HFR HWR HF HO HW HSN HRS HB1 HM0 hb2 hhas hkeep hF3 HS2
 have HJ:=Lh (And.intro j2 (And.intro j4 j5))
 by_cases hke:k=sc
 ·subst hke
  clear j0 j1 j2 j3 j4 j5 j6
  have j4:=HJ.out.2.1
  have j5:=HJ.out.2.2
  have j6:(k:Int)≤(sm:Int):=by omega
  go_wp2_with fail
  go_ret
  have e0:sm - k=0:=by have:=HJ.out;omega
  have H9:=HFIN.out (some ad) 0 (.inr e0) (by omega)
  rw [e0]at H9
  exact⟨(some ad,0,0),rfl,H9⟩
 ·go_wp2_with fail
  go_ret
  exact⟨(some (ad.add k),sm - k,sc - k),rfl,HFIN.out _ _ (.inl rfl) (by omega)⟩
def Src (w:World) (b:Nat) (F1 F2:Nat→Prop) (S:Option Addr) (bs:List UInt8):Prop:=
 Sees w w.heap.size S (byt bs)∧∀a,S=some a→bs≠[]→a.block < w.heap.size∧¬F1 a.block∧¬F2 a.block∧a.block≠b
theorem wr_does {w:World} {gm b t q:Nat} {l:Pg.Tb} {p:Pl} {bs:List UInt8} {F1 F2:Nat→Prop} (h0:MRep w b t q l p F1 F2) (hg:gm < w.heap.size) (hgF:gm≠b∧¬F1 gm∧¬F2 gm) (a n:Nat) (han:a+n≤16777216) (hn:n=bs.length):
  Does w a n 235 #[bx gm] F2 (WrRel w gm b t q l p bs F1 F2):=by
 refine⟨enters_of Tryz.func235 (by kernel_rfl) rfl,fun k h=>h0.pool.lt k h,?_,?_,?_⟩
 ·rintro pre v O V V' ⟨h1,h2,⟨F3,h3,h4⟩,h5,h6,h7,h8⟩ hs hk
  refine⟨by omega,(World.cell?_of_block (hk gm (by omega) (.inl hg))).trans h2,⟨F3,h3.keep fun k hkk=>hk k (h3.lt k hkk) ?_,h4⟩,h5,h6,h7.keep fun p hp=>World.cell?_of_block (hk p.block (by omega) (.inl hp)),h8⟩
  rcases hkk with rfl | hf | hf
  ·exact .inl (h0.lt _ (.inl rfl))
  ·exact .inl (h0.lt _ (.inr (.inl hf)))
  ·exact(h4 k hf).imp (fun h=>h0.lt _ (.inr (.inr h))) id
 ·rintro pre v O O2 V hO ⟨h1,h2,⟨F3,h3,h4⟩,h5,h6,h7,h8⟩
  exact⟨h1,h2,⟨F3,h3,fun k hf=>(h4 k hf).imp id (hO k)⟩,h5,h6,h7,h8⟩
 ·rintro pre x v O V ⟨post,hpost⟩ hsz hO h
  have hx:=pts_mem n a han x (by rw [hpost];simp)
  have hl:=pts_sum n a
  rw [hpost,show pre ++ x :: post=(pre ++ [x]) ++ post by simp]at hl
  have h9:sumL ((pre ++ [x]) ++ post)=sumL (pre ++ [x])+sumL post:=by simp [sumL];omega
  rw [h9,sumL_snoc]at hl
  exact write1_any h0 hg hgF hO h x hx.1 hx.2.1 hx.2.2.1 (by omega) (by omega)
theorem writeM_any {w:World} {b t q:Nat} {l:Pg.Tb} {p:Pl} {F1 F2:Nat→Prop} (h:MRep w b t q l p F1 F2) (a n c:Nat) (S:Option Addr) (bs:List UInt8) (han:a+n≤16777216) (hn:bs.length=n) (hc:n≤c) (hS:Src w b F1 F2 S bs):
  Calls Tryz.prog 160 #[bx b,.agg #[.int .u32 (a:Int),.int .i64 (n:Int)],.slice S n c] w fun e w'=>(∃v,e= .returned v)∧(∃F3,MRep w' b t q l (wr p l (pts a n) bs) F1 F3∧∀k,F3 k→F2 k∨w.heap.size≤k)∧Keep F2 w w':=by
 obtain⟨W,hW⟩:=Nm ((w.alloc (.cells #[bx b] 24)).alloc (.cells #[.int .u32 (a:Int),.int .i64 (n:Int)] 245))
 have hbW:Below w.heap.size w W:=by rw [hW];exact below2 _ _ _
 have hc0:W.cell? ⟨w.heap.size,0,none⟩=some (bx b):=by
  rw [hW]
  exact(World.cell?_alloc_lt _ _ _ (by simp)).trans (cell_alloc_new _ _ _ _)
 have hsW:W.heap.size=w.heap.size+1+1:=by rw [hW];simp
 have h0:=h.below hbW
 have hgF:w.heap.size≠b∧¬F1 w.heap.size∧¬F2 w.heap.size:=⟨fun e=>by have:=h.lt b (.inl rfl);omega,fun hf=>by have:=h.lt _ (.inr (.inl hf));omega,fun hf=>by have:=h.lt _ (.inr (.inr hf));omega⟩
 have HP:=Lh (partwiseB_any a n 235 #[bx w.heap.size] S n c W F2 (WrRel W w.heap.size b t q l p bs F1 F2) han (wr_does h0 (by omega) hgF a n han hn.symm)
  ⟨Nat.le_refl _,hc0,⟨F2,h0,fun k h=> .inl h⟩,by simp [sumL,hn],hc,by simpa [sumL] using(hS.1.below hbW).more hbW.size,fun ad e hne=>by
   have h1:=hS.2 ad e (by simpa [sumL] using hne)
   exact⟨by have:=h1.1;omega,h1.2⟩⟩)
 have HB:=Lh (And.intro hbW hsW)
 have HF2:=Lh (fun k (hf:F2 k)=>h.pool.lt k hf)
 clear h h0 hgF hc0 hbW hsW hS hn hc
 go_enter Tryz.func160,Tryz.ntmps160
 go_wp2_with fail
 rw [←hW]
 clear hW
 refine(HP.out).mono ?_
 rintro e w1 ⟨v,O,rfl,⟨_,_,⟨F3,h3,h4⟩,_,_,_,_⟩,hO,hK⟩
 have HF:=Lh (show(∃F3,MRep w1 b t q l (wr p l (pts a n) bs) F1 F3∧∀k,F3 k→F2 k∨w.heap.size≤k)∧Keep F2 w w1 from
  ⟨⟨F3,h3,fun k hf=>(h4 k hf).imp id (fun ho=>by have:=hO k ho;have:=HB.out.2;omega)⟩,(Keep.of_below (F:=F2) HB.out.1).trans hK (fun _ _ h=>h)⟩)
 clear h3 h4 hO hK
 go_wp2_with fail
 go_end0
 exact⟨⟨_,rfl⟩,HF.out⟩
end Go.Proofs.YtfcfbcjiijfjgaaGreatDoor.Vm
