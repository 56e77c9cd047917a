import Derived.Test.YtfcfbcjiijfjgaaGreatDoorPAY
import Derived.Test.YtfcfbcjiijfjgaaGreatDoorPBE
import Derived.Test.YtfcfbcjiijfjgaaGreatDoorPBJ
set_option maxHeartbeats 8000000
set_option maxRecDepth 100000
namespace Go.Proofs.YtfcfbcjiijfjgaaGreatDoor.Me
open Go.RowKit Go.Shelf
attribute [local go_sem] Oper.semAt_some
def ltr (f:Byts) (o j:Nat):UInt8:=([102,107,108,104,103]:List UInt8).getD (f (o+8*j)).toNat 0
def TtE (f:Byts) (o m:Nat) (s:ByteArray) (b:Bool):Prop:=(b=true∧(∀j,j < m→(recAt f (o+8*j)).isSome=true)∧s=str ((List.range m).map (ltr f o)))∨(b=false∧∃j,j < m∧¬(recAt f (o+8*j)).isSome=true)
def TtG (w w2:World) (b3 b5 b6 B2:Nat) (f:Byts) (o m:Nat) (n:Nat) (O:Nat→Prop) (V:World):Prop:=
 ∃A c,Boxed V b5 172 (.slice A n c)∧Row V b6 107 (prtCells smallP)∧V.ownsRow w2.heap.size 5 1 (.slice A n c) n (byt ((List.range n).map (ltr f o)))∧(∀k,(Value.slice A n c).ownBlock=some k→k=b3∨O k)∧(∀k,O k→B2+2≤k)∧n≤m∧Below w.heap.size w V
def TtI (w w2:World) (b3 b5 b6 b7 B2:Nat) (f:Byts) (o m:Nat) (pre:List Wo.PX) (O:Nat→Prop) (V:World):Prop:=
 TtG w w2 b3 b5 b6 B2 f o m pre.length O V∧Boxed V b7 4 (.bool true)∧∀j,j < pre.length→(recAt f (o+8*j)).isSome=true
def TtX (w w2:World) (b3 b5 b6 b7 B2:Nat) (f:Byts) (o m:Nat) (cc:Code) (_pre:List Wo.PX) (O:Nat→Prop) (V:World):Prop:=
 cc= .exit 0∧(∃n,TtG w w2 b3 b5 b6 B2 f o m n O V)∧Boxed V b7 4 (.bool false)∧∃j,j < m∧¬(recAt f (o+8*j)).isSome=true
theorem tt_own {V:World} {b3 m G:Nat} (h:Row V b3 5 (List.replicate m (.int .u8 0))) (hm:1≤m) (h85:m≤85) (hG:G≤b3):V.ownsRow G 5 1 (.slice (some ⟨b3,0,none⟩) 0 m) 0 (byt ((List.range 0).map fun _=>(0:UInt8))):=
 ⟨rfl,.inr ⟨b3,m,(List.replicate m (Value.int .u8 0)).toArray,rfl,hG,h,Nat.zero_le _,by unfold maxLen;omega,by simp,by simp [byt]⟩⟩
theorem recAt_byte {f:Byts} {o:Nat} (h:(recAt f o).isSome=true):(f o).toNat≤4∧f (o+1)=0:=by
 unfold recAt at h
 split at h
 ·rename_i h1
  exact⟨by simp_all,by simp_all⟩
 ·cases h
section
variable {w w2:World} {b3 b5 b6 b7 B2:Nat} {f:Byts} {o m:Nat}
theorem TtG.keep {n:Nat} {O:Nat→Prop} {V V':World} {row:Option Nat} (hx:b3 < B2∧b5 < B2∧b6 < B2∧w.heap.size≤B2) (h:TtG w w2 b3 b5 b6 B2 f o m n O V) (hg:V.grownBy V' row) (hr:∀r,row=some r→B2≤r∧¬O r):TtG w w2 b3 b5 b6 B2 f o m n O V':=by
 obtain⟨A,c,h1,h2,h4,h5,h6,h7,h8⟩:=h
 have hne:∀k,(k < B2∨O k)→some k≠row:=fun k hk e=>by
  have:=hr k e.symm
  rcases hk with hk | hk
  ·omega
  ·exact this.2 hk
 exact⟨A,c,h1.kept hg (hne _ (.inl (by omega))),row_kept h2 hg (hne _ (.inl (by omega))),own_same h4 (fun k hk=>hg.block k (own_lt h4 hk) (hne k ((h5 k hk).elim (fun e=> .inl (by omega)) .inr))),h5,h6,h7,h8.grown hg h8.size (fun k e=>by have:=hr k e;omega)⟩
theorem TtI.abid (hx:b3 < B2∧b5 < B2∧b6 < B2∧w.heap.size≤B2) (h7:b7 < B2):Abid B2 (TtI w w2 b3 b5 b6 b7 B2 f o m):=by
 rintro pre O V V' row ⟨h1,h2,h3⟩ hg hr
 exact⟨h1.keep hx hg hr,h2.kept hg (fun e=>by have:=hr b7 e.symm;omega),h3⟩
theorem TtX.abid (hx:b3 < B2∧b5 < B2∧b6 < B2∧w.heap.size≤B2) (h7:b7 < B2) (cc:Code):Abid B2 (TtX w w2 b3 b5 b6 b7 B2 f o m cc):=by
 rintro pre O V V' row ⟨h0,⟨n,h1⟩,h2,h3⟩ hg hr
 exact⟨h0,⟨n,h1.keep hx hg hr⟩,h2.kept hg (fun e=>by have:=hr b7 e.symm;omega),h3⟩
theorem TtG.kept {n:Nat} {O G:Nat→Prop} {V V':World} (h:TtG w w2 b3 b5 b6 B2 f o m n O V) (hk:Keep G V V') (hG:∀k,G k→k≠b3∧k≠b5∧k≠b6∧¬O k∧w.heap.size≤k):TtG w w2 b3 b5 b6 B2 f o m n O V':=by
 obtain⟨A,c,h1,h2,h4,h5,h6,h7,h8⟩:=h
 refine⟨A,c,(hk.block _ h1.lt (fun e=>(hG _ e).2.1 rfl)).trans h1,hk.row h2 (fun e=>(hG _ e).2.2.1 rfl),own_same h4 (fun k e=>hk.block k (own_lt h4 e) (fun g=> ?_)),h5,h6,h7,h8.trans (hk.below (fun k g=>(hG k g).2.2.2.2) h8.size)⟩
 rcases h5 k e with e | e
 ·exact(hG k g).1 e
 ·exact(hG k g).2.2.2.1 e
theorem TtG.more {n:Nat} {O O':Nat→Prop} {V:World} (h:TtG w w2 b3 b5 b6 B2 f o m n O V) (hO:∀k,O k→O' k) (hO':∀k,O' k→B2+2≤k):TtG w w2 b3 b5 b6 B2 f o m n O' V:=by
 obtain⟨A,c,h1,h2,h4,h5,h6,h7,h8⟩:=h
 exact⟨A,c,h1,h2,h4,fun k e=>(h5 k e).imp id (hO k),hO',h7,h8⟩
theorem tt_mid {n:Nat} {O:Nat→Prop} {V V2:World} (h7:b7 < B2) (hd:b7≠b3∧b7≠b5∧b7≠b6∧w.heap.size≤b7) (h:TtG w w2 b3 b5 b6 B2 f o m n O V) (hbx:Boxed V b7 4 (.bool true)) (hb:Below V.heap.size V V2) (rv:Obj) (r:Bool):
  TtG w w2 b3 b5 b6 B2 f o m n O ((V2.alloc rv).setCell ⟨b7,0,none⟩ (.bool r))∧Boxed ((V2.alloc rv).setCell ⟨b7,0,none⟩ (.bool r)) b7 4 (.bool r)∧Keep (· =b7) V ((V2.alloc rv).setCell ⟨b7,0,none⟩ (.bool r)):=by
 have hbx2:Boxed (V2.alloc rv) b7 4 (.bool true):=(Below.heap_alloc _ _ _ (Nat.lt_of_lt_of_le hbx.lt hb.size)).trans ((hb.block _ hbx.lt).trans hbx)
 have hk:Keep (· =b7) V ((V2.alloc rv).setCell ⟨b7,0,none⟩ (.bool r)):=((Keep.of_below hb).alloc rv).set _ (.inl rfl)
 obtain⟨A,c,g1,g2,g4,g5,g6,g7,g8⟩:=h
 have hO:¬O b7:=fun e=>by have:=g6 _ e;omega
 exact⟨TtG.kept ⟨A,c,g1,g2,g4,g5,g6,g7,g8⟩ hk (fun k e=>by subst e;exact⟨hd.1,hd.2.1,hd.2.2.1,hO,hd.2.2.2⟩),hbx2.set _,hk⟩
theorem tt_step {n:Nat} {O O':Nat→Prop} {V4 w6:World} {A:Option Addr} {c:Nat} {v':Value} {lt:Obj} (hx:b3 < B2∧b5 < B2∧b6 < B2∧w.heap.size≤B2) (hd:b3≠b5∧b3≠b6∧b5≠b6∧w.heap.size≤b3∧w.heap.size≤b5)
  (h1:Boxed V4 b5 172 (.slice A n c)) (h2:Row V4 b6 107 (prtCells smallP)) (h5:∀k,(Value.slice A n c).ownBlock=some k→k=b3∨O k) (h6:∀k,O k→B2+2≤k) (h7:n < m) (h8:Below w.heap.size w V4)
  (hown6:w6.ownsRow w2.heap.size 5 1 v' (n+1) (byt ((List.range n).map (ltr f o)) ++ byt [ltr f o n])) (hg:(V4.drew.alloc lt).grownBy w6 (Value.slice A n c).ownBlock) (hv:v'.ownBlock=(Value.slice A n c).ownBlock∨v'.ownBlock=some (V4.heap.size+1)) (hO':∀k,O k∨(V4.heap.size≤k∧k < w6.heap.size)→O' k) (hO2:∀k,O' k→B2+2≤k):
  TtG w w2 b3 b5 b6 B2 f o m (n+1) O' (w6.setCell ⟨b5,0,none⟩ v')∧Keep (fun k=>k=b5∨(Value.slice A n c).ownBlock=some k) V4 (w6.setCell ⟨b5,0,none⟩ v'):=by
 obtain⟨A',c',rfl⟩:=own_slice hown6
 have hs6:=hg.size
 have hs5:(V4.drew.alloc lt).heap.size=V4.heap.size+1:=by simp
 rw [hs5]at hs6
 have hne:∀k,(Value.slice A n c).ownBlock=some k→k≠b5∧k≠b6∧w.heap.size≤k:=fun k e=>by
  rcases h5 k e with rfl | h
  ·exact⟨hd.1,hd.2.1,hd.2.2.2.1⟩
  ·have:=h6 k h
   exact⟨by omega,by omega,by omega⟩
 have hk:Keep (fun k=>k=b5∨(Value.slice A n c).ownBlock=some k) V4 w6:=
  ⟨hg.os,hg.tape,hg.output,by omega,fun k hk hf=>(hg.block k (by rw [hs5];omega) (fun e=>hf (.inr e.symm))).trans (Below.heap_alloc V4.drew _ _ hk)⟩
 have b6x:Boxed w6 b5 172 (.slice A n c):=(hg.block b5 (by rw [hs5];have:=h1.lt;omega) (fun e=>(hne b5 e.symm).1 rfl)).trans ((Below.heap_alloc V4.drew _ _ h1.lt).trans h1)
 have r6x:Row w6 b6 107 (prtCells smallP):=hk.row h2 (fun e=>e.elim (fun e=>hd.2.2.1 e.symm) (fun e=>(hne b6 e).2.1 rfl))
 have hvb:∀k,(Value.slice A' (n+1) c').ownBlock=some k→k=b3∨O k∨k=V4.heap.size+1:=fun k e=>by
  rcases hv with h | h
  ·rw [h]at e
   exact(h5 k e).imp id .inl
  ·rw [h]at e
   injection e with e
   exact .inr (.inr e.symm)
 refine⟨⟨A',c',b6x.set _,r6x.same (heap_set (Ne.symm hd.2.2.1)),?_,fun k e=> ?_,hO2,h7,?_⟩,hk.set _ (.inl (.inl rfl))⟩
 ·have e1:byt ((List.range (n+1)).map (ltr f o))=byt ((List.range n).map (ltr f o)) ++ byt [ltr f o n]:=by
   rw [List.range_succ,List.map_append,byt_append]
   rfl
  rw [e1]
  refine own_same hown6 (fun k e=>heap_set ?_)
  rcases hvb k e with rfl | h | h
  ·exact hd.1
  ·have:=h6 k h
   omega
  ·have:=h1.lt
   omega
 ·rcases hvb k e with h | h | h
  ·exact .inl h
  ·exact .inr (hO' k (.inl h))
  ·exact .inr (hO' k (.inr ⟨by omega,(hown6.lt k e).2⟩))
 ·refine(h8.trans (hk.below (fun k g=> ?_) h8.size)).setCell (p:=⟨b5,0,none⟩) hd.2.2.2.2 _
  rcases g with rfl | g
  ·exact hd.2.2.2.2
  ·exact(hne k g).2.2
end
theorem text_any (p:Option Addr) (t fr i:Int) (kn:Bool) (m:Nat) (f:Byts) (o:Nat) (hm:m≤85) (hm1:1≤m) (w:World) (hT:Tabs w)
  (HPK:∀W,Below w.heap.size w W→Calls Tryz.prog 98 #[.pointer p,.int .u32 fr,.int .i64 ((m*8:Nat):Int)] W (Vm.RdA W 0 (cutL f o (m*8)))):
  Calls Tryz.prog 48 #[liV p t fr 8 (m:Int) kn i] w fun e w'=>∃s b,e= .returned (.tuple #[.string s,.bool b])∧Below w.heap.size w w'∧TtE f o m s b:=by
 obtain⟨W1,hW1⟩:=Nm (w.alloc (.cells #[.pointer p,.int .i64 t,.int .u32 fr,.int .i64 8,.int .i64 (m:Int),.bool kn,.int .i64 i] 113))
 have hb1:Below w.heap.size w W1:=by rw [hW1];exact below1 _ _
 have hrl:Row W1 w.heap.size 113 (liC p t fr 8 (m:Int) kn i):=by rw [hW1];exact Row.new w _ _
 have l0:=hrl.cell 0
 have l1:=hrl.cell 1
 have l2:=hrl.cell 2
 have l3:=hrl.cell 3
 have l4:=hrl.cell 4
 have l5:=hrl.cell 5
 have l6:=hrl.cell 6
 have HPEEK:=Lh (HPK W1 hb1)
 have HRL:=Lh hrl
 have HB1:=Lh hb1
 have HW1:=Lh hW1
 have e1:IntKind.i64.wrap ((m:Int)*8)=((m*8:Nat):Int):=(wrapI _ (by omega) (by omega)).trans (by omega)
 have hbl:(cutL f o (m*8)).length=m*8:=cutL_len _ _ _
 obtain⟨bs,hbs⟩:=Nm (cutL f o (m*8))
 rw [←hbs]at HPEEK hbl
 have HBS:=Lh hbs
 obtain⟨n8,hn8⟩:=Nm (m*8)
 rw [←hn8]at e1 HPEEK hbl
 have HN8:=Lh hn8
 have HBL:=Lh hbl
 have HT:=Lh hT
 clear hb1 hrl hW1 HPK hn8 hbs hbl hT
 refine calls_marks Tryz.func48 rfl ?_
 simp only [Tryz.ntmps48,List.size_toArray,List.length_cons,List.length_nil,Nat.reduceAdd,Nat.reduceSub,Array.replicate_succ,Array.replicate_zero,List.push_toArray,List.append_toArray,List.nil_append,List.cons_append]
 go_wp2_with fail
 refine wp_scope_jump 0 fun R hR hJm=> ?_
 go_wp2_with fail
 rw [←HW1.out]
 refine HPEEK.out.mono ?_
 rintro e w2 ⟨A,mm,cb,rfl,hmm,hown,hb2⟩
 rw [HBL.out]at hmm
 subst hmm
 have HOWN:=Lh hown
 have hr2:=HRL.out.below hb2
 have HB2:=Lh (below0 HB1.out hb2)
 have k0:=hr2.cell 0
 have k1:=hr2.cell 1
 have k2:=hr2.cell 2
 have k3:=hr2.cell 3
 have k4:=hr2.cell 4
 have k5:=hr2.cell 5
 have k6:=hr2.cell 6
 have HR2:=Lh hr2
 have hlt:Hid (w.heap.size < w2.heap.size):=Lh hr2.lt
 clear hown hb2 HB1 HRL HPEEK l0 l1 l2 l3 l4 l5 l6 HW1
 go_wp2_with fail
 refine wp_region_noPanic ?_
 refine wp_region_held_drew (S:=TxI w.heap.size m w2) (by kernel_rfl) ⟨Br.drew,k4⟩ fun hZ=> ?_
 refine tkH 0 hZ ?_
 simp only [Act.put]
 refine tkH 1 hZ ?_
 simp only [Act.put]
 refine wpAnyH_take (i:=2) (v:= ?_) rfl (by kernel_rfl) (by kernel_rfl) (by kernel_rfl) (fun _ _ _ h=>h) (Or.inl ⟨by kernel_rfl,?_⟩) hZ ?_
 rotate_left
 focus(intro w hSw;have hSc:=hSw.cell;go_simp;try with_reducible rfl)
 simp only [Act.put]
 refine wpAnyH_pool_puts (Lf:= #[true,true,true,true,true,true,true,true,false,false,false]) (fuel:=3) (TxF m w2.heap.size) (TxI w.heap.size m w2) 5 [3,4,5,6,7] (fun i=> [0,0,0,33,34,6,7,8].getD i 0) (by decide) (by decide) (by kernel_rfl) (by kernel_rfl) (fun _ h=>h) hZ ?_ ?_
 ·intro i hi vs W hI
  have hGW:=hI.below.size
  simp only [List.mem_cons,List.not_mem_nil,or_false]at hi
  rcases hi with rfl | rfl | rfl | rfl | rfl
  ·refine⟨_,rfl,rfl,fun K hK=> ?_⟩
   rw [if_pos (by kernel_rfl)]
   have hb:=below1 W (.cells (List.replicate m (.int .u8 0)).toArray 5)
   have hF:TxF m w2.heap.size 3 (.slice (some ⟨W.heap.size,0,none⟩) 0 m) _:=⟨_,hGW,rfl,Row.new W 5 (List.replicate m (.int .u8 0))⟩
   have HK0:=hK.out _ _ (hI.step hlt.out hb) hF (TxF.keep hb)
   have hmk:=make_u8 m hm W
   clear hK hF hb hI
   generalize hA:puts _ _ vs _=A at HK0 ⊢
   have e32:A.eval (.tmp 32)= .int .i64 (m:Int):=by rw [←hA];kernel_rfl
   clear hA
   unfold Act.eval at e32
   have HK:=Lh HK0
   clear HK0 hGW
   go_simp
   exact HK.out
  ·refine⟨_,rfl,rfl,fun K hK=> ?_⟩
   rw [if_pos (by kernel_rfl)]
   have HK:=Lh (fun W' hb=>hK.out (.agg (prtCells smallP).toArray) W' (hI.step hlt.out hb) rfl (TxF.keep hb))
   clear hK hI hGW
   generalize puts _ _ vs _=A at HK ⊢
   go_simp
   refine(small_any W).mono ?_
   rintro e W3 ⟨rfl,hb⟩
   exact HK.out W3 hb
  ·refine⟨_,rfl,rfl,fun K hK=> ?_⟩
   rw [if_pos (by kernel_rfl)]
   have hb:=below1 W (.cells #[.slice none 0 0] 172)
   have hF:TxF m w2.heap.size 5 (.pointer (some ⟨W.heap.size,0,none⟩)) _:=⟨_,hGW,rfl,Row.new W 172 [.slice none 0 0]⟩
   have HK0:=hK.out _ _ (hI.step hlt.out hb) hF (TxF.keep hb)
   clear hK hF hb hI hGW
   generalize puts _ _ vs _=A at HK0 ⊢
   have HK:=Lh HK0
   clear HK0
   go_simp
   exact HK.out
  ·refine⟨_,rfl,rfl,fun K hK=> ?_⟩
   rw [if_pos (by kernel_rfl)]
   have hb:=below1 W (.cells #[.int .i64 0,.int .i64 0,.nilFunc,.nilFunc,.int .i64 0,.int .i64 0,.nilFunc,.nilFunc,.int .i64 0,.int .i64 0,.nilFunc,.nilFunc,.int .i64 0,.int .i64 0,.nilFunc,.nilFunc] 107)
   have hF:TxF m w2.heap.size 6 (.pointer (some ⟨W.heap.size,0,none⟩)) _:=⟨_,hGW,rfl,Row.new W 107 [.int .i64 0,.int .i64 0,.nilFunc,.nilFunc,.int .i64 0,.int .i64 0,.nilFunc,.nilFunc,.int .i64 0,.int .i64 0,.nilFunc,.nilFunc,.int .i64 0,.int .i64 0,.nilFunc,.nilFunc]⟩
   have HK0:=hK.out _ _ (hI.step hlt.out hb) hF (TxF.keep hb)
   clear hK hF hb hI hGW
   generalize puts _ _ vs _=A at HK0 ⊢
   have HK:=Lh HK0
   clear HK0
   go_simp
   exact HK.out
  ·refine⟨_,rfl,rfl,fun K hK=> ?_⟩
   rw [if_pos (by kernel_rfl)]
   have hb:=below1 W (.cells #[.bool false] 4)
   have hF:TxF m w2.heap.size 7 (.pointer (some ⟨W.heap.size,0,none⟩)) _:=⟨_,hGW,rfl,Row.new W 4 [.bool false]⟩
   have HK0:=hK.out _ _ (hI.step hlt.out hb) hF (TxF.keep hb)
   clear hK hF hb hI hGW
   generalize puts _ _ vs _=A at HK0 ⊢
   have HK:=Lh HK0
   clear HK0
   go_simp
   exact HK.out
 ·intro vs W hI hall
  obtain⟨b3,g3,v3,r3⟩:=hall 3 (by decide)
  have v4:=hall 4 (by decide)
  obtain⟨b5,g5,v5,r5⟩:=hall 5 (by decide)
  obtain⟨b6,g6,v6,r6⟩:=hall 6 (by decide)
  obtain⟨b7,g7,v7,r7⟩:=hall 7 (by decide)
  have v4':vs 4= .agg smallC.toArray:=v4
  obtain⟨s1,s2,s3,s4,s5,s6,s7,s8⟩:=TxA.mk' r3 r5 r6 r7 g5 g6 g7 hI.below
  have S1:=Lh (hI.set hlt.out s3)
  have S2:=Lh (hI.set hlt.out s7)
  have S4:=Lh s1
  have S5:=Lh s2
  have S6:=Lh (And.intro s4 (And.intro s5 s6))
  have S8:=Lh s8
  have HI:=Lh hI
  have HG:=Lh (And.intro g3 (And.intro g5 (And.intro g6 g7)))
  clear hall r3 r5 r6 r7 v4 s1 s2 s3 s4 s5 s6 s7 s8 hI g3 g5 g6 g7
  simp only [puts,List.foldr_cons,List.foldr_nil,v3,v4',v5,v6,v7]
  clear v3 v4' v5 v6 v7
  simp only [Act.put,List.getD_cons_succ,List.getD_cons_zero]
  refine rdH 8 fun K hK=> ?_
  have z4:=S4.out
  have z5:=S5.out
  go_simp
  refine hK.out _ _ S1.out (fun hZ=> ?_)
  clear hK K z4 z5
  try simp only [Act.put]
  refine rdH 9 fun K hK=> ?_
  refine step_store_mid rfl 107 _ _ rfl b6 0 smallC.toArray (by simp [Act.eval]) (by simp [Act.eval]) S6.out.1 S6.out.2.1 S6.out.2.2 ?_
  refine hK.out _ _ S2.out (fun hZ=> ?_)
  clear hK K
  try simp only [Act.put]
  obtain⟨V3,hV3⟩:=Nm ((W.setCell ⟨b5,0,none⟩ (.slice (some ⟨b3,0,none⟩) 0 m)).setCells b6 0 smallC.toArray.toList)
  obtain⟨c7,f7,hb7,hTA⟩:=S8.out V3 hV3
  have S9:=Lh (HI.out.set hlt.out hb7)
  have HTA:=Lh hTA
  rw [←hV3]
  clear hV3 S8 hTA hb7
  refine rdH 10 fun K hK=> ?_
  go_simp
  refine hK.out _ _ S9.out (fun hZ=> ?_)
  clear hK K c7 f7
  try simp only [Act.put]
  refine wpAnyH_done (by kernel_rfl) (NoPanic.normal ?_) _
  obtain⟨W9,hW9⟩:=Nm (V3.setCell ⟨b7,0,none⟩ (.bool true))
  rw [←hW9]at HTA S9 ⊢
  clear hW9 S1 S2 S4 S5 S6 HI
  have hr9:=HR2.out.below S9.out.below
  have q0:=hr9.cell 0
  have q1:=hr9.cell 1
  have q2:=hr9.cell 2
  have q3:=hr9.cell 3
  have q4:=hr9.cell 4
  have q5:=hr9.cell 5
  have q6:=hr9.cell 6
  clear hr9
  go_wp2_with fail
  have hss:=((Vm.sees_own HOWN.out).keep fun p hp=>S9.out.below.cell hp).more S9.out.below.size
  refine wp_label ?_
  go_wp2_with fail
  refine(Wo.partsF_any bs mm cb _ A 8 W9 HBL.out (by have:=HN8.out;omega) hss Lr).mono ?_
  rintro e w3 ⟨v3,bo,bz,rfl,hbo,hbz,hco,hcs,hown3,hb3⟩
  obtain⟨A3,c3,rfl⟩:=own_slice hown3
  have HX3:=Lh (And.intro hbo (And.intro hbz (And.intro hco (And.intro hcs (And.intro hown3 hb3)))))
  clear hss hbo hbz hco hcs hown3 hb3 q0 q1 q2 q3 q4 q5 q6 HOWN
  go_wp2_with fail
  have hit:=Wo.parts1_it bs 8 bo bz W9.heap.size c3 A3 w3 (by rw [HBL.out];have:=HN8.out;omega) (by rw [HBL.out];exact HX3.out.2.2.1) HX3.out.2.2.2.1 (by rw [HBL.out];exact HX3.out.2.2.2.2.1)
  have HZ:=Lh (show b3 < w3.heap.size∧b5 < w3.heap.size∧b6 < w3.heap.size∧w.heap.size≤w3.heap.size from by
   have h1:=HTA.out.r3.lt
   have h2:=HTA.out.r5.lt
   have h4:=HTA.out.r6.lt
   have h3:=HX3.out.2.2.2.2.2.size
   have h5:=S9.out.below.size
   have h6:=hlt.out
   exact⟨by omega,by omega,by omega,by omega⟩)
  have HZ7:=Lh (show b7 < w3.heap.size from Nat.lt_of_lt_of_le HTA.out.r7.lt HX3.out.2.2.2.2.2.size)
  have HI0:=Lh (show TtI w w2 b3 b5 b6 b7 w3.heap.size f o m [] (fun _=>False) w3 from by
   have hb:=HX3.out.2.2.2.2.2
   have hA:=HTA.out
   refine⟨⟨some ⟨b3,0,none⟩,m,hA.r5.below hb,hA.r6.below hb,tt_own (hA.r3.below hb) hm1 hm HG.out.1,fun k hk=> ?_,fun k h=>h.elim,Nat.zero_le _,?_⟩,hA.r7.below hb,fun j h=>absurd h (Nat.not_lt_zero _)⟩
   ·injection hk with hk
    exact .inl hk.symm
   ·exact(HB2.out.trans (S9.out.below.mono (Nat.le_of_lt hlt.out))).trans (hb.mono (Nat.le_trans (Nat.le_of_lt hlt.out) S9.out.below.size)))
  have HL9:=Lh (show b3 < W9.heap.size∧b5 < W9.heap.size∧b6 < W9.heap.size∧b7 < W9.heap.size from⟨HTA.out.r3.lt,HTA.out.r5.lt,HTA.out.r6.lt,HTA.out.r7.lt⟩)
  have HPV:=Lh (show ∀k (Q:Prop),((k=bo∨k=bz∨(Value.slice A3 bs.length c3).ownBlock=some k)∨(w3.heap.size≤k∧Q))→W9.heap.size≤k from fun k Q hk=>by
   have h:=HX3.out
   rcases hk with(rfl | rfl | e) | e
   ·exact h.1
   ·exact h.2.1
   ·rw [HBL.out]at e
    exact(h.2.2.2.2.1.lt k e).1
   ·exact Nat.le_trans h.2.2.2.2.2.size e.1)
  have HPL:=Lh (show ∀k,(k=bo∨k=bz∨(Value.slice A3 bs.length c3).ownBlock=some k)→k < w3.heap.size from fun k hk=>by
   have h:=HX3.out
   rcases hk with rfl | rfl | e
   ·exact lt_of_cell h.2.2.1
   ·exact lt_of_cell h.2.2.2.1
   ·exact own_lt h.2.2.2.2.1 (by rw [HBL.out]at e;exact e))
  have HDD:=Lh (show(b3≠b5∧b3≠b6∧b5≠b6∧w.heap.size≤b3∧w.heap.size≤b5) from⟨row_two HTA.out.r3 HTA.out.r5 (by decide),row_two HTA.out.r3 HTA.out.r6 (by decide),row_two HTA.out.r5 HTA.out.r6 (by decide),by have:=HG.out.1;have:=hlt.out;omega,by have:=HG.out.2.1;have:=hlt.out;omega⟩)
  have HD7:=Lh (show(b7≠b3∧b7≠b5∧b7≠b6∧w.heap.size≤b7) from⟨Ne.symm (row_two HTA.out.r3 HTA.out.r7 (by decide)),Ne.symm (row_two HTA.out.r5 HTA.out.r7 (by decide)),Ne.symm (row_two HTA.out.r6 HTA.out.r7 (by decide)),by have:=HG.out.2.2.2;have:=hlt.out;omega⟩)
  refine wpIn_wide.1 (wpIn_range_it (gf:=177) (lb:= #[.pointer (some ⟨bo,0,none⟩),.pointer (some ⟨bz,0,none⟩)]) rfl (enters_of Tryz.func177 (by kernel_rfl) rfl) hit ?pv (fun _=>rfl) ?pre
   (TtI w w2 b3 b5 b6 b7 w3.heap.size f o m) (TtX w w2 b3 b5 b6 b7 w3.heap.size f o m) (TtI.abid HZ.out HZ7.out) (TtX.abid HZ.out HZ7.out) HI0.out
   (fun x=>{tmps:= #[liV p t fr 8 (m:Int) kn i,.pointer (some ⟨w.heap.size,0,none⟩),.string ⟨#[]⟩,.bool false,.slice A mm cb,.int .i64 0,.pointer (some ⟨b5,0,none⟩),.pointer (some ⟨b6,0,none⟩),.pointer (some ⟨b7,0,none⟩),undef,.slice (some ⟨x.blk,0,none⟩) x.bytes.length x.cap,undef,undef,.tuple #[.slice A mm cb,.int .i64 0],.pointer (some ⟨w.heap.size,0,none⟩),.pointer (some ⟨w.heap.size,0,none⟩),.pointer p,.pointer (some ⟨w.heap.size,2,none⟩),.pointer (some ⟨w.heap.size,2,none⟩),.int .u32 fr,.pointer (some ⟨w.heap.size,2,none⟩),.pointer (some ⟨w.heap.size,4,none⟩),.int .i64 (m:Int),.pointer (some ⟨w.heap.size,2,none⟩),.pointer (some ⟨w.heap.size,3,none⟩),.int .i64 8,.int .i64 (mm:Int),.tuple #[.slice A mm cb,.int .i64 0],.slice A mm cb,.int .i64 0,.pointer (some ⟨w.heap.size,2,none⟩),.pointer (some ⟨w.heap.size,4,none⟩),.int .i64 (m:Int),.slice (some ⟨b3,0,none⟩) 0 m,.agg smallC.toArray,.slice A mm cb,.pointer (some ⟨w.heap.size,2,none⟩),.pointer (some ⟨w.heap.size,3,none⟩),.int .i64 8,.func (.func 177) #[] #[.pointer (some ⟨bo,0,none⟩),.pointer (some ⟨bz,0,none⟩)],.int .i64 x.at_,.slice (some ⟨x.blk,0,none⟩) x.bytes.length x.cap,undef,undef,undef,undef,undef,undef,undef,undef,undef,undef,undef,undef,undef,undef,undef,undef,undef,undef],defers:= []}) ?assign ?body ?done ?stop)
  case pv=>
   have h:=HX3.out
   rintro k (rfl | rfl | e)
   ·exact lt_of_cell h.2.2.1
   ·exact lt_of_cell h.2.2.2.1
   ·exact own_lt h.2.2.2.2.1 (by rw [HBL.out]at e;exact e)
  case pre=>
   rintro pre x V V' hk ⟨h1,h2,h3⟩
   exact⟨own_same h1 (fun k e=>by injection e with e;exact hk k e.symm),h2,h3⟩
  case assign=>
   intro l' x W' K hK
   simp only [Wo.encPart]
   gi_wp2
   exact hK
  case body=>
   rintro l' pre x O V hVs hO ⟨hG,hb7,hpre⟩ ⟨hx1,hx2,hx3⟩ hM
   obtain⟨xa,xb,xk,xc⟩:=x
   have hnx:pre.length < m∧xb=cutL f (o+8*pre.length) 8:=by
    have h2:xb=(bs.drop (pre.length*8)).take (min (pre.length*8+8) bs.length - pre.length*8):=congrArg Prod.snd hx2
    have h3:0 < xb.length:=hx3
    have h4:=HBL.out
    have h5:=HN8.out
    rw [h2,List.length_take,List.length_drop,h4]at h3
    have h6:pre.length < m:=by omega
    refine⟨h6,?_⟩
    rw [h2,h4,show min (pre.length*8+8) mm - pre.length*8=8 by omega,HBS.out,cutL_cut f o (m*8) (pre.length*8) 8 (by omega),Nat.mul_comm]
   obtain⟨hnm,hxe⟩:=hnx
   have hxl:xb.length=8:=by rw [hxe,cutL_len]
   have hrow:=hG
   obtain⟨A,c,k1,k2,k3,k4,k5,k6,k7⟩:=hG
   have hcap:=(own_cap hx1).1
   simp only at hx1 hcap
   rw [hxl]at hx1 hcap
   have hUN:=unpacked_small xb xk xc b6 4 _ V (HT.out.below k7) (Vm.sees_own hx1) hxl hcap k2 (Nat.le_refl 4)
   rw [hxe,st_small_eq]at hUN
   have HUN:=Lh hUN
   have hrd:=read_small_iff f (o+8*pre.length)
   simp only [hxl]
   have HM:=Lh (show ∀k,Wo.memPart ⟨xa,xb,xk,xc⟩ k→w3.heap.size+2≤k from fun k hk=>(hM k hk).1)
   have HGG:=Lh hrow
   have HP:=Lh hpre
   have HRD:=Lh hrd
   have HNM:=Lh hnm
   have HK:=Lh (And.intro k4 (And.intro k5 k6))
   have HVS:=Lh hVs
   clear hUN hx1 hx2 hx3 hcap hit hrow hpre hrd hnm hM k3 k4 k5 k6 k7 hVs
   gi_wp2_with fail
   refine⟨trivial,rfl,CallsIn.inRound l' ((callsIn_wide.2 HUN.out).mono ?_)⟩
   rintro e V2 ⟨⟨rfl,hno⟩ | ⟨rfl,hyes⟩,hb2⟩
   ·obtain⟨m1,m2,m3⟩:=tt_mid HZ7.out HD7.out HGG.out hb7 hb2 (.cells #[.int .i64 0,.int .i64 0,.int .u32 0] 41) false
    have hbx2:Boxed (V2.alloc (.cells #[.int .i64 0,.int .i64 0,.int .u32 0] 41)) b7 4 (.bool true):=(Below.heap_alloc _ _ _ (Nat.lt_of_lt_of_le hb7.lt hb2.size)).trans ((hb2.block _ hb7.lt).trans hb7)
    have d8:=hbx2.cell
    have d9:=hbx2.frozen
    clear hbx2
    have d7:=m2.cell
    have HFI:=Lh (And.intro m1 (And.intro m2 m3))
    have HNO:=Lh hno
    clear hno m1 m2 m3 hb2
    gi_wp2_with fail
    obtain⟨m1,m2,m3⟩:=HFI.out
    exact⟨⟨m3.size,fun k hk hp=>m3.block k hk (fun e=>by subst e;exact absurd (HPV.out _ _ hp) (by have:=HL9.out;omega))⟩,rfl,⟨_,m1.more (fun k h=> .inl h) (nextO_ge HK.out.2.1 HM.out HVS.out)⟩,m2,_,HNM.out,fun h=>HNO.out (HRD.out.2 h)⟩
   ·obtain⟨m1,m2,m3⟩:=tt_mid HZ7.out HD7.out HGG.out hb7 hb2 (.cells #[.int .i64 (((f (o+8*pre.length)).toNat:Nat):Int),.int .i64 ((le2 f (o+8*pre.length+2):Nat):Int),.int .u32 ((le4 f (o+8*pre.length+4):Nat):Int)] 41) true
    have hbx2:Boxed (V2.alloc (.cells #[.int .i64 (((f (o+8*pre.length)).toNat:Nat):Int),.int .i64 ((le2 f (o+8*pre.length+2):Nat):Int),.int .u32 ((le4 f (o+8*pre.length+4):Nat):Int)] 41)) b7 4 (.bool true):=(Below.heap_alloc _ _ _ (Nat.lt_of_lt_of_le hb7.lt hb2.size)).trans ((hb2.block _ hb7.lt).trans hb7)
    have d8:=hbx2.cell
    have d9:=hbx2.frozen
    clear hbx2
    have hst:(f (o+8*pre.length)).toNat≤4:=(recAt_byte (HRD.out.1 hyes)).1
    obtain⟨V4,hV4⟩:=Nm ((V2.alloc (.cells #[.int .i64 (((f (o+8*pre.length)).toNat:Nat):Int),.int .i64 ((le2 f (o+8*pre.length+2):Nat):Int),.int .u32 ((le4 f (o+8*pre.length+4):Nat):Int)] 41)).setCell ⟨b7,0,none⟩ (.bool true))
    rw [←hV4]at m1 m2 m3
    have d7:=m2.cell
    have hrr:Row V4 V2.heap.size 41 [.int .i64 (((f (o+8*pre.length)).toNat:Nat):Int),.int .i64 ((le2 f (o+8*pre.length+2):Nat):Int),.int .u32 ((le4 f (o+8*pre.length+4):Nat):Int)]:=by
     rw [hV4]
     exact(Row.new V2 _ _).same (heap_set (by have:=hb7.lt;have:=hb2.size;omega))
    have hsz4:V2.heap.size < V4.heap.size:=hrr.lt
    have e0:V4.cell? ⟨V2.heap.size,0,none⟩=some (.int .i64 (((f (o+8*pre.length)).toNat:Nat):Int)):=hrr.cell 0
    have HBAS:=Lh (show ∀W:World,W.heap.size=V4.heap.size+1→w2.heap.size≤W.heap.size from fun W hW=>by
     have h1:=S9.out.below.size
     have h2:=HX3.out.2.2.2.2.2.size
     have h3:=HVS.out
     have h4:=hb2.size
     omega)
    obtain⟨A4,c4,a1,a2,a3,a4,a5,a6,a7⟩:=m1
    have e5:V4.cell? ⟨b5,0,none⟩=some (.slice A4 pre.length c4):=a1.cell
    have HSA:=Lh (fun W (hb:Below V4.heap.size V4 W)=>(show W.cell? ⟨b5,0,none⟩=some (.slice A4 pre.length c4)∧W.cell? ⟨V2.heap.size,0,none⟩=some (.int .i64 (((f (o+8*pre.length)).toNat:Nat):Int)) from⟨(hb.cell (p:=⟨b5,0,none⟩) a1.lt).trans e5,(hb.cell (p:=⟨V2.heap.size,0,none⟩) hsz4).trans e0⟩))
    have HYES:=Lh hyes
    have hlet:ltr f o pre.length=([102,107,108,104,103]:List UInt8).getD (f (o+8*pre.length)).toNat 0:=rfl
    have HFI:=Lh (And.intro a1 (And.intro a2 (And.intro a3 (And.intro a4 (And.intro a5 (And.intro a6 (And.intro a7 (And.intro m2 m3))))))))
    have HB2:=Lh hb2
    obtain⟨st,hse⟩:=Nm ((f (o+8*pre.length)).toNat)
    rw [←hse]at hst e0 HSA hlet
    obtain⟨L,hL⟩:=Nm (ltr f o pre.length)
    rw [←hL]at hlet
    have j4:st < (⟨#[102,107,108,104,103]⟩:ByteArray).size:=by show st < 5;omega
    have hix:(⟨#[102,107,108,104,103]⟩:ByteArray)[st]'j4=L:=(Sh.letters_at (by omega) j4).trans ((letter_get hst).trans hlet.symm)
    have j5:(st:Int) < 5:=by omega
    have HLE:=Lh hL
    have hmix:Tryz.prog.follows .mixedOrders=true:=by kernel_rfl
    clear hyes a1 a2 a3 a4 a5 a6 a7 m2 m3 hb2 hrr hst hlet hL hse
    gi_wp2_with fail
    rw [←hV4]
    gi_wp2_with fail
    refine wpIn_region_heldH l' 6 (S:=fun W=>W.cell? ⟨b5,0,none⟩=some (.slice A4 pre.length c4)∧W.cell? ⟨V2.heap.size,0,none⟩=some (.int .i64 (st:Int))) hmix (by kernel_rfl) (by kernel_rfl) ⟨e5,e0⟩ (fun hZ=> ?_)
    simp only [List.take_succ_cons,List.take_zero]
    refine tkH 0 hZ ?_
    simp only [Act.put]
    refine tkH 1 hZ ?_
    simp only [Act.put]
    refine tkH 2 hZ ?_
    simp only [Act.put]
    refine tkH 3 hZ ?_
    simp only [Act.put]
    obtain⟨V5,hV5⟩:=Nm (V4.drew.alloc (.cells #[.int .u8 (L.toNat:Int)] 5))
    have e5w:(((V2.alloc (.cells #[.int .i64 (((f (o+8*pre.length)).toNat:Nat):Int),.int .i64 ((le2 f (o+8*pre.length+2):Nat):Int),.int .u32 ((le4 f (o+8*pre.length+4):Nat):Int)] 41)).setCell ⟨b7,0,none⟩ (.bool true)).alloc (.cells #[.int .u8 (L.toNat:Int)] 5)).drew=V5:=by rw [hV5,hV4];rfl
    have E5W:=Lh e5w
    clear e5w
    refine rdH 4 fun K hK=> ?_
    go_simp
    rw [E5W.out]
    refine hK.out _ _ (HSA.out _ (by rw [hV5];exact show Below V4.heap.size V4 (V4.drew.alloc (.cells #[.int .u8 (L.toNat:Int)] 5)) from(Br.drew).alloc (by simp) _)) (fun hZ=> ?_)
    clear hK K
    try simp only [Act.put]
    have hz4:V4.heap.size=V2.heap.size+1:=by rw [hV4];simp
    have hnm':=HNM.out
    have hs5:V5.heap.size=V4.heap.size+1:=by rw [hV5];simp
    have hr5:Row V5 V4.heap.size 5 (byt [L]):=by rw [hV5];exact Row.new V4.drew _ _
    have hl5:∀k,k < V4.heap.size→V5.heap[k]?=V4.heap[k]?:=fun k hk=>by rw [hV5];exact Below.heap_alloc V4.drew _ _ hk
    obtain⟨a1,a2,a3,a4,a5,a6,a7,m2,m3⟩:=HFI.out
    have hown5:=own_same a3 (fun k e=>hl5 k (own_lt a3 e))
    have hsee:Sees V5 V5.heap.size (some ⟨V2.heap.size+1,0,none⟩) (byt [L]):=by rw [←hz4];exact fun _=>⟨_,rfl,hr5.lt,fun j u hu=>by rw [add_plain,Nat.zero_add,hr5.cell];exact hu⟩
    have hgr:∀w6,V5.grownBy w6 (Value.slice A4 pre.length c4).ownBlock→w6.cell? ⟨b5,0,none⟩=some (.slice A4 pre.length c4)∧w6.cell? ⟨V2.heap.size,0,none⟩=some (.int .i64 (st:Int))∧w6.frozen? ⟨b5,0,none⟩=false:=fun w6 hg=>by
     have n5:some b5≠(Value.slice A4 pre.length c4).ownBlock:=fun e=>by
      rcases a4 b5 e.symm with h | h
      ·exact HDD.out.1 h.symm
      ·have:=a5 _ h
       have:=HZ.out.2.1
       omega
     have n2:some V2.heap.size≠(Value.slice A4 pre.length c4).ownBlock:=fun e=>by
      have hv:=HB2.out.size
      have:=HVS.out
      rcases a4 _ e.symm with h | h
      ·have:=HZ.out.1
       omega
      ·have:=(hO _ h).2
       omega
     have hb5:Boxed w6 b5 172 (.slice A4 pre.length c4):=(hg.block b5 (by have:=a1.lt;omega) n5).trans ((hl5 b5 a1.lt).trans a1)
     exact⟨hb5.cell,(World.cell?_of_block ((hg.block _ (by omega) n2).trans (hl5 _ hsz4))).trans e0,hb5.frozen⟩
    have HGR:=Lh hgr
    have HV5:=Lh hV5
    obtain⟨i0,hi,hz0,hz1,hz2⟩:=info_parts u8_info
    have HV2:=Lh hs5
    clear hV5 a1 a2 a4 a5 a6 a7 m2 m3 hgr hr5 hl5
    refine rdH 5 fun K hK=> ?_
    refine step_append_sees rfl (.tmp 51) (.tmp 55) 172 rfl w2.heap.size 5 i0 _ 1 1 Tryz.underlying172 hi hz0 hz1 hz2 rfl (by decide) _ pre.length _ (by simp [Act.eval]) hown5 V5.heap.size (some ⟨V2.heap.size+1,0,none⟩) 1 1 (byt [L]) (by simp [Act.eval]) rfl hsee byt_one (by unfold maxLen;omega) (by omega) ?_ ?_
    ·exact HBAS.out V5 hs5
    rintro v' w6 hown6 hg6 hv6
    obtain⟨A6,c6,rfl⟩:=own_slice hown6
    obtain⟨e5',e0',f5'⟩:=HGR.out w6 hg6
    refine hK.out _ _ ⟨e5',e0'⟩ (fun hZ=> ?_)
    clear hK K
    try simp only [Act.put]
    refine wpAnyH_done (by kernel_rfl) ?_ _
    have HF6:=Lh (And.intro hown6 (And.intro hg6 hv6))
    clear hown6 hg6 hv6 hsee hown5 hZ e0 e5 hi hz0 hz1 hz2
    show wpAnyIn Fence.wide 0 Tryz.prog .any _ _ 1 (full 6 7) _ _
    refine wpAnyIn_ready (rs:= [6]) (by kernel_rfl) (by simp) ?_
    refine AllReadyIn.cons rfl (fun K hK=> ?_) AllReadyIn.nil
    go_simp
    refine hK _ _ ?_
    clear hK K
    refine wpAnyIn_done (by kernel_rfl) ?_ _
    obtain⟨hown6,hg6,hv6⟩:=HF6.out
    obtain⟨a1,a2,a3,a4,a5,a6,a7,m2,m3⟩:=HFI.out
    rw [HV2.out]at hv6
    rw [HV5.out]at hg6
    rw [HLE.out]at hown6
    have hs6:=hg6.size
    have hsd:(V4.drew.alloc (.cells #[.int .u8 (L.toNat:Int)] 5)).heap.size=V4.heap.size+1:=by simp
    rw [hsd]at hs6
    have hs4:=m3.size
    have hst:=tt_step (f:=f) (o:=o) (m:=m) (w2:=w2) (B2:=w3.heap.size) (O':=nextO O (Wo.memPart ⟨xa,xb,xk,xc⟩) V (w6.setCell ⟨b5,0,none⟩ (.slice A6 (pre.length+1) c6))) HZ.out HDD.out a1 a2 a4 a5 HNM.out a7 hown6 hg6 hv6
     (fun k h=>h.elim .inl (fun h=> .inr (.inr ⟨by omega,by rw [World.size_setCell];omega⟩))) (nextO_ge a5 HM.out HVS.out)
    obtain⟨s1,s2⟩:=hst
    have hpl:(pre ++ [(⟨xa,xb,xk,xc⟩:Wo.PX)]).length=pre.length+1:=by simp
    have hl9:=HL9.out
    refine⟨⟨Nat.le_trans m3.size s2.size,fun k hk hp=> ?_⟩,by rw [hpl];exact s1,?_,fun j hj=> ?_⟩
    ·have hk9:=HPV.out _ _ hp
     have hno:¬O k:=by
      rcases hp with h | h
      ·intro ho
       have h1:=HPL.out k h
       have h2:=HK.out.2.1 k ho
       omega
      ·exact h.2.1
     refine(s2.block k (by omega) (fun g=> ?_)).trans (m3.block k hk (fun e=>by omega))
     rcases g with g | g
     ·omega
     ·rcases a4 k g with h | h
      ·omega
      ·exact hno h
    ·refine(s2.block b7 m2.lt (fun g=> ?_)).trans m2
     rcases g with g | g
     ·exact HD7.out.2.1 g
     ·rcases a4 b7 g with h | h
      ·exact HD7.out.1 h
      ·have:=a5 _ h
       have:=HZ7.out
       omega
    ·rw [hpl]at hj
     by_cases hjn:j < pre.length
     ·exact HP.out j hjn
     ·obtain rfl:j=pre.length:=by omega
      exact HRD.out.1 HYES.out
  case done=>
   rintro xs O Z ⟨_,_,hall⟩ ⟨⟨A,c,g1,g2,g3,g4,g5,g6,g7⟩,gb7,gp⟩ hD
   have hxm:xs.length=m:=by
    have h1:=hall (by decide)
    have h2:=HBL.out
    have h3:=HN8.out
    rw [show(8:Int).toNat=8 from rfl]at h1
    omega
   rw [hxm]at g1 g3 gp
   have HFN:=Lh (show TtE f o m (str ((List.range m).map (ltr f o))) true from .inl ⟨rfl,gp,rfl⟩)
   obtain⟨S,hS⟩:=Nm (str ((List.range m).map (ltr f o)))
   have hcv:∀q,(convert 172 9 (.slice A m c)).run Tryz.prog (Z.drewN q)= .ok (.string S) (Z.drewN q):=fun q=>by
    rw [hS]
    exact run_conv_sees (Z.drewN q) Tryz.underlying172 Tryz.underlying5 Tryz.underlying9 (by simp) (Vm.sees_own (w:=Z.drewN q) g3)
   rw [←hS]at HFN
   have c5:=g1.cell
   have c7:=gb7.cell
   have HBE:=Lh (show ∀q,Below w.heap.size w ((Z.drewN q).putObj w3.heap.size (.deferred none)) from fun q=>(show Below w.heap.size w (Z.drewN q) from⟨g7.os,g7.tape,g7.output,g7.size,g7.block⟩).grown (putObj_grown (Z.drewN q) _ _) g7.size (fun r e=>by cases e;have:=HZ.out.2.2.2;omega))
   have HD:=Lh hD
   clear hall g1 g2 g3 g4 g5 g6 g7 gb7 gp hD hS hit
   go_wp2_with fail
   go_quiet (fail)
   go_wp2_with fail
   refine hR.out _ _ _ _ (by simp) ?_
   refine⟨by simp,.inl ⟨_,_,rfl,run_takeDeferred HD.out,?_⟩⟩
   exact⟨_,results_tmp2 (t:=2) (u:=3) rfl _ _ _,S,true,rfl,HBE.out _,HFN.out⟩
  case stop=>
   rintro c' xs O Z _ ⟨rfl,⟨n,A,c,g1,g2,g3,g4,g5,g6,g7⟩,gb7,hno⟩ hD
   have HFN:=Lh (show TtE f o m (str ((List.range n).map (ltr f o))) false from .inr ⟨rfl,hno⟩)
   obtain⟨S,hS⟩:=Nm (str ((List.range n).map (ltr f o)))
   have hcv:∀q,(convert 172 9 (.slice A n c)).run Tryz.prog (Z.drewN q)= .ok (.string S) (Z.drewN q):=fun q=>by
    rw [hS]
    exact run_conv_sees (Z.drewN q) Tryz.underlying172 Tryz.underlying5 Tryz.underlying9 (by simp) (Vm.sees_own (w:=Z.drewN q) g3)
   rw [←hS]at HFN
   have c5:=g1.cell
   have c7:=gb7.cell
   have HBE:=Lh (show ∀q,Below w.heap.size w ((Z.drewN q).putObj w3.heap.size (.deferred none)) from fun q=>(show Below w.heap.size w (Z.drewN q) from⟨g7.os,g7.tape,g7.output,g7.size,g7.block⟩).grown (putObj_grown (Z.drewN q) _ _) g7.size (fun r e=>by cases e;have:=HZ.out.2.2.2;omega))
   have HD:=Lh hD
   clear g1 g2 g3 g4 g5 g6 g7 gb7 hno hD hS hit
   refine wpIn_wide.2 ?_
   go_wp2_with fail
   go_quiet (fail)
   go_wp2_with fail
   refine hR.out _ _ _ _ (by simp) ?_
   refine⟨by simp,.inl ⟨_,_,rfl,run_takeDeferred HD.out,?_⟩⟩
   exact⟨_,results_tmp2 (t:=2) (u:=3) rfl _ _ _,S,false,rfl,HBE.out _,HFN.out⟩
end Go.Proofs.YtfcfbcjiijfjgaaGreatDoor.Me
