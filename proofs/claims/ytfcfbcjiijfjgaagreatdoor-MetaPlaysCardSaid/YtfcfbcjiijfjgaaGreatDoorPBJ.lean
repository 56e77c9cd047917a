import Derived.Test.YtfcfbcjiijfjgaaGreatDoorPBI
import Derived.Laws.IdiomCopy
import Derived.Laws.Cover3
import Derived.Laws.EntriesVeiled
import Derived.Lib.Bytealg
import Derived.OwnWalk
set_option maxHeartbeats 4000000
set_option maxRecDepth 100000
namespace Go.Proofs.YtfcfbcjiijfjgaaGreatDoor.Sh
open Go.RowKit Go.Shelf
attribute [local go_sem] Oper.semAt_some
abbrev NonT:=World→Value→(Nat→Prop)→Prop
abbrev pb (b:Nat):Value:= .pointer (some ⟨b,0,none⟩)
structure SRep (w:World) (b g c:Nat) (l:Ls) (rest:List Value):Prop where
 obj:Row w b 192 [.slice (some ⟨g,0,none⟩) l.length c]
 row:Row w g 38 (izs l ++ rest)
 le:l.length≤c
 most:l.length≤256
 sts:Sts l
section
variable {w w':World} {b g c:Nat} {l:Ls} {rest:List Value}
theorem SRep.c0 (h:SRep w b g c l rest):w.cell? ⟨b,0,none⟩=some (.slice (some ⟨g,0,none⟩) l.length c):=h.obj.cell 0
theorem SRep.ne (h:SRep w b g c l rest):b≠g:=by
 rintro rfl
 have:=h.obj.symm.trans h.row
 injection this with this
 injection this with _ e
 exact absurd e (by decide)
theorem SRep.same (h:SRep w b g c l rest) (h1:w'.heap[b]?=w.heap[b]?) (h2:w'.heap[g]?=w.heap[g]?):SRep w' b g c l rest:=⟨h.obj.same h1,h.row.same h2,h.le,h.most,h.sts⟩
theorem SRep.below (h:SRep w b g c l rest) (hb:Below w.heap.size w w'):SRep w' b g c l rest:=h.same (hb.block _ h.obj.lt) (hb.block _ h.row.lt)
theorem SRep.sees (h:SRep w b g c l rest):Sees w w.heap.size (some ⟨g,0,none⟩) (izs l):=fun _=>⟨_,rfl,h.row.lt,fun j u hu=>by
 rw [add_plain,Nat.zero_add,h.row.cell,List.getElem?_append_left (List.getElem?_eq_some_iff.1 hu).1]
 exact hu⟩
end
def HasS:HasT:=fun w v l F=>∃b g c rest,v=pb b∧SRep w b g c l rest∧F=fun k=>k=b∨k=g
def NonS:NonT:=fun w v G=>(v= .pointer none∧∀k,¬G k)∨∃b,v=pb b∧w.cell? ⟨b,0,none⟩=some (.slice none 0 0)∧G=fun k=>k=b
theorem NonS.ptr {w:World} {v:Value} {G:Nat→Prop} (h:NonS w v G):∃pv,v= .pointer pv:=by
 rcases h with⟨rfl,_⟩ | ⟨b,rfl,_⟩
 ·exact⟨_,rfl⟩
 ·exact⟨_,rfl⟩
theorem there_at (b:Nat) (ad:Addr) (n c:Nat) (w:World) (hc:w.cell? ⟨b,0,none⟩=some (.slice (some ad) n c)):Calls Tryz.prog 213 #[pb b] w fun e w'=>e= .returned (.bool true)∧w=w':=by
 go_enter Tryz.func213,Tryz.ntmps213
 go_wp2_with fail
 go_ret
 exact⟨rfl,rfl⟩
theorem slots_at (b:Nat) (ad:Addr) (n c:Nat) (w:World) (hc:w.cell? ⟨b,0,none⟩=some (.slice (some ad) n c)):Calls Tryz.prog 140 #[pb b] w fun e w'=>e= .returned (.slice (some ad) n c)∧w=w':=by
 have h1:=Lh (there_at b ad n c w hc)
 go_enter Tryz.func140,Tryz.ntmps140
 go_wp2_with fail
 refine h1.out.mono ?_
 rintro e w1 ⟨rfl,rfl⟩
 go_wp2_with fail
 go_ret
 exact⟨rfl,rfl⟩
theorem st_info:(Tryz.prog.info? 38).map (fun i=>(i.zero,i.size,i.bytes))=some (some (.int .i64 0),1,8):=by kernel_rfl
def NewP (w:World) (l:Ls) (e:Ending) (w':World):Prop:=∃b g c rest,e= .returned (.tuple #[pb b,.int .i64 0])∧SRep w' b g c l rest∧w.heap.size≤b∧w.heap.size≤g∧Below w.heap.size w w'
theorem new_ok (w:World) (n:Nat) (h:n≤256):Calls Tryz.prog 114 #[.int .i64 (n:Int)] w (NewP w (zs n)):=by
 obtain⟨i0,hi,hz0,hz1,hz2⟩:=info_parts st_info
 have h1:decide ((n:Int) < 0)=false:=Df (by omega)
 have h2:decide ((256:Int) < (n:Int))=false:=Df (by omega)
 have hm:=make_one (P:=Tryz.prog) Tryz.underlying190 hi hz0 hz1 rfl n n Lr (by rw [hz2];omega) (by omega) w
 obtain⟨W1,hW1⟩:=Nm (w.alloc (.cells (List.replicate n (.int .i64 0)).toArray 38))
 have hr:Row W1 w.heap.size 38 (izs (zs n) ++ []):=by
  rw [hW1,List.append_nil,show izs (zs n)=List.replicate n (.int .i64 0) by unfold izs zs;rw [List.map_replicate]]
  exact Row.new w 38 _
 have hb:Below w.heap.size w W1:=by rw [hW1];exact below1 _ _
 have HF:=Lh (show NewP w (zs n) (.returned (.tuple #[pb W1.heap.size,.int .i64 0])) (W1.alloc (.cells #[.slice (some ⟨w.heap.size,0,none⟩) n n] 192)) from
  ⟨_,w.heap.size,n,[],rfl,⟨by rw [zs_len];exact Row.new W1 192 [.slice (some ⟨w.heap.size,0,none⟩) n n],hr.below (below1 _ _),by rw [zs_len];exact Nat.le_refl _,by rw [zs_len];exact h,zs_sts n⟩,hb.size,Nat.le_refl _,hb.alloc hb.size _⟩)
 rw [←hW1]at hm
 clear hi hz0 hz1 hz2 hW1 hr hb
 go_enter Tryz.func114,Tryz.ntmps114
 go_wp2_with fail
 refine wp_scope_jump 1 fun R hR hJm=> ?_
 go_wp2_with fail
 refine hR.out _ _ _ _ (by simp) ?_
 go_ret2
 exact HF.out
section
variable {w:World} {v:Value} {l:Ls} {F G:Nat→Prop}
theorem slen (h:HasS w v l F):Calls Tryz.prog 139 #[v] w fun e w'=>e= .returned (.int .i64 (l.length:Int))∧Below w.heap.size w w':=by
 obtain⟨b,g,c,rest,rfl,h,rfl⟩:=h
 have h1:=Lh (slots_at b _ _ _ w h.c0)
 obtain⟨n,hn⟩:=Nm (l.length)
 rw [←hn]at h1 ⊢
 clear hn h
 go_enter Tryz.func139,Tryz.ntmps139
 go_wp2_with fail
 refine h1.out.mono ?_
 rintro e w1 ⟨rfl,rfl⟩
 go_wp2_with fail
 go_ret
 exact⟨rfl,Br⟩
end
section
variable {w:World} {v:Value} {l:Ls} {F G:Nat→Prop}
end
theorem byte_info:(Tryz.prog.info? 5).map (fun i=>(i.zero,i.size,i.bytes))=some (some (.int .u8 0),1,1):=by kernel_rfl
def GB (w:World) (v:Value) (n:Nat) (l:List UInt8) (wr:World):Prop:=∃A c,v= .slice A n c∧wr.ownsRow w.heap.size 5 1 (.slice A n c) n (byt l)∧Below w.heap.size w wr
theorem gb_step {w wr w4:World} {v':Value} {n:Nat} {l:List UInt8} {z:UInt8} {A:Option Addr} {c:Nat} {ob:Obj} (ho0:wr.ownsRow w.heap.size 5 1 (.slice A n c) n (byt l)) (hb:Below w.heap.size w wr)
  (ho:w4.ownsRow w.heap.size 5 1 v' (n+1) (byt l ++ [.int .u8 (z.toNat:Int)])) (hg:(wr.alloc ob).grownBy w4 (Value.slice A n c).ownBlock):∃A' c',v'= .slice A' (n+1) c'∧GB w (.slice A' (n+1) c') (n+1) (l ++ [z]) w4:=by
 obtain⟨A',c',rfl⟩:=own_slice ho
 refine⟨A',c',rfl,A',c',rfl,?_,?_⟩
 ·rw [byt_append]
  exact ho
 ·exact(hb.alloc hb.size ob).grown hg (by rw [World.size_alloc];have:=hb.size;omega) (fun k hk=>(ho0.lt k hk).1)
theorem gb_sees {w wr:World} {A:Option Addr} {n c:Nat} {l:List UInt8} (h:wr.ownsRow w.heap.size 5 1 (.slice A n c) n (byt l)):∃B,Sees wr B A (byt l):=by
 obtain⟨h1,⟨e,h0⟩ | ⟨g,cap,cur,e,hb,hg,hn,_,hc,ht⟩⟩:=h
 ·refine⟨0,fun hn=>absurd ?_ hn⟩
  exact List.eq_nil_of_length_eq_zero (by omega)
 ·injection e with e1 e2 e3
  subst e1
  refine⟨wr.heap.size,fun _=>⟨_,rfl,(Array.getElem?_eq_some_iff.1 hg).1,fun j u hu=> ?_⟩⟩
  rw [add_plain,Nat.zero_add]
  have hu2:=hu
  rw [←ht,List.getElem?_take]at hu2
  split at hu2
  ·rw [cell_of_row _ _ j _ _ _ hg]
   simpa using hu2
  ·cases hu2
theorem letters_at {k:Nat} (hk:k < 5) (h4:k < (⟨#[102,107,108,104,103]⟩:ByteArray).size):(⟨#[102,107,108,104,103]⟩:ByteArray)[k]'h4=letter k:=by
 obtain rfl | rfl | rfl | rfl | rfl:k=0∨k=1∨k=2∨k=3∨k=4:=by omega
 all_goals rfl
theorem text_any (l:Ls) (A:Option Addr) (n c:Nat) (v:Value) (w:World) (hl:l.length=n) (hn:n≤256) (hst:Sts l) (hs:Sees w w.heap.size A (izs l))
  (hlen:∀w1,Below w.heap.size w w1→Calls Tryz.prog 139 #[v] w1 fun e w'=>e= .returned (.int .i64 (n:Int))∧Below w1.heap.size w1 w')
  (hsl:∀w1,Below w.heap.size w w1→Calls Tryz.prog 140 #[v] w1 fun e w'=>e= .returned (.slice A n c)∧w1=w'):
  Calls Tryz.prog 67 #[v] w fun e w'=>e= .returned (.string (str (text l)))∧Below w.heap.size w w':=by
 obtain⟨i0,hi,hz0,hz1,hz2⟩:=info_parts byte_info
 have HS:=Lh (fun V (hb:Below w.heap.size w V) i (hi:i < l.length)=>(show ∃ad,A=some ad∧V.cell? (ad.add i)=some (.int .i64 l[i]) from by
  obtain⟨ad,e,_,hc⟩:=sees_int ((hs.below hb).more hb.size) hi
  exact⟨ad,e,hc⟩))
 have HX:=Lh (fun i (hi:i < l.length)=>hst l[i] (List.getElem_mem hi))
 have HL:=Lh hl
 have HLEN:=Lh (hlen w Br)
 have HSL:=Lh hsl
 clear hs hl hst hlen hsl
 go_enter Tryz.func67,Tryz.ntmps67
 go_wp2_with fail
 refine HLEN.out.mono ?_
 rintro e w1 ⟨rfl,hb1⟩
 have HB1:=Lh hb1
 have hs1:=hb1.size
 clear hb1
 go_wp2_with (refine wpList_make_own _ rfl _ _ 172 rfl w.heap.size 5 i0 _ 1 Tryz.underlying172 hi hz0 hz1 .i64 .i64 (n:Int) n rfl rfl rfl (by rw [hz2];omega) (by unfold maxLen;omega) hs1 ?_;intro w2 hown hgr;have HST:=Lh (show GB w (.slice (some ⟨w1.heap.size,0,none⟩) 0 n) 0 (text (l.take 0)) w2 from⟨_,_,rfl,hown,HB1.out.grown hgr (by omega) (fun r e=>by cases e)⟩);clear hown hgr)
 have HB2:=Lh (by obtain⟨_,_,_,_,hb⟩:=HST.out;exact hb:Below w.heap.size w w2)
 refine(HSL.out w2 HB2.out).mono ?_
 rintro e w3 ⟨rfl,rfl⟩
 go_wp2_with fail
 go_loopw [3,12] (fun s3 s12 wr=>∃i:Nat,i≤n∧s12= .int .i64 (i:Int)∧GB w s3 i (text (l.take i)) wr) (fun _ s12 _=>n - (_root_.Go.RowKit.intOf s12).toNat)
 case atStart=>exact⟨0,Nat.zero_le _,rfl,HST.out⟩
 case round=>
  obtain⟨i,hin,rfl,Av,cv,rfl,ho,hb⟩:=hrel
  by_cases hlt:i < n
  ·have hil:i < l.length:=by rw [HL.out];exact hlt
   have j0:(0:Int)≤(i:Int):=by omega
   have j1:(i:Int) < (n:Int):=by omega
   have j2:decide ((i:Int) < (n:Int))=true:=decide_eq_true j1
   have j3:decide (i < n)=true:=decide_eq_true hlt
   obtain⟨ad,rfl,hc⟩:=HS.out wr hb i hil
   have hx:=HX.out i hil
   have HT:Hid (text (l.take i) ++ [letter l[i]]=text (l.take (i+1))):=Lh (by
    rw [List.take_add_one,text_app,List.getElem?_eq_getElem hil]
    rfl)
   obtain⟨xs,hxs⟩:=Nm (text (l.take i))
   obtain⟨x,hxx⟩:=Nm (l[i])
   rw [←hxx]at hc hx HT
   rw [←hxs]at ho HT
   obtain⟨k,rfl⟩:∃k:Nat,x=k:=⟨x.toNat,by omega⟩
   have k5:k < 5:=by omega
   have k0:(0:Int)≤(k:Int):=by omega
   have k1:(k:Int) < 5:=by omega
   have j4:k < (⟨#[102,107,108,104,103]⟩:ByteArray).size:=k5
   have hidx:=letters_at k5 j4
   obtain⟨ch,hch⟩:=Nm (letter (k:Int))
   rw [←hch]at hidx HT
   have ho1:=ho.alloc (.cells #[.int .u8 (ch.toNat:Int)] 5)
   have hws:=hb.size
   have HN:=Lh (fun v' w4 (a1:World.ownsRow w4 w.heap.size 5 1 v' (i+1) (byt xs ++ [.int .u8 (ch.toNat:Int)])) a2=>gb_step (ob:= .cells #[.int .u8 (ch.toNat:Int)] 5) ho hb a1 a2)
   clear ho hb hxs hxx hch hx
   go_wp2_with (at_builtin;refine wpList_append_sees rfl (.tmp 16) (.tmp 19) 172 rfl w.heap.size 5 i0 _ 1 1 Tryz.underlying172 hi hz0 hz1 hz2 rfl (by decide) _ i (byt xs) rfl ho1 (wr.heap.size+1) (some ⟨wr.heap.size,0,none⟩) 1 1 [.int .u8 (ch.toNat:Int)] rfl rfl (fun _=>⟨_,rfl,by simp,cell_one_at _ _ _⟩) (by simp [Value.oneCell']) (by unfold maxLen;omega) (by omega) (by simp;omega) ?_;intro v' w4 a1 a2 _;obtain⟨A',c',rfl,hri⟩:=HN.out v' w4 a1 a2;have HR:=Lh hri;clear a1 a2 hri HN)
   go_roundw
   case rel=>exact⟨i+1,by omega,by go_num,by rw [←HT.out];exact HR.out⟩
   case measure=>simp [_root_.Go.RowKit.intOf];omega
  ·obtain rfl:i=n:=by omega
   have j2:decide ((i:Int) < (i:Int))=false:=Df (by omega)
   rw [List.take_of_length_le (by rw [HL.out];exact Nat.le_refl _)]at ho
   obtain⟨B,hsee⟩:=gb_sees ho
   have hcv:=run_conv_sees (P:=Tryz.prog) wr (src:=172) (dst:=9) (c:=cv) Tryz.underlying172 Tryz.underlying5 Tryz.underlying9 (n:=i) (by rw [text_len,HL.out]) hsee
   obtain⟨S,hS⟩:=Nm (str (text l))
   rw [←hS]at hcv
   have HSS:=Lh hS
   have HB:=Lh hb
   clear ho hb hsee hS
   go_wp2_with fail
   go_ret
   exact⟨by rw [←HSS.out];rfl,HB.out⟩
section
variable {w:World} {v:Value} {l:Ls} {F G:Nat→Prop}
theorem HasS.low {w':World} (h:HasS w v l F) (hb:Below w.heap.size w w'):HasS w' v l F:=by
 obtain⟨b,g,c,rest,rfl,h,rfl⟩:=h
 exact⟨b,g,c,rest,rfl,h.below hb,rfl⟩
theorem stext (h:HasS w v l F):Calls Tryz.prog 67 #[v] w fun e w'=>e= .returned (.string (str (text l)))∧Below w.heap.size w w':=by
 have h0:=h
 obtain⟨b,g,c,rest,rfl,h,rfl⟩:=h
 exact text_any l (some ⟨g,0,none⟩) l.length c (pb b) w rfl h.most h.sts h.sees (fun w1 hb=>slen (h0.low hb)) (fun w1 hb=>slots_at b _ _ _ w1 (h.below hb).c0)
end
abbrev letters:ByteArray:=⟨#[102,107,108,104,103]⟩
def unl (b:UInt8):Int:=(unletter b).getD (-1)
theorem unl_index (b:UInt8):firstIdx letters b=unl b:=by
 rw [Lib.firstIdx_eq]
 have e:letters.data.toList= [102,107,108,104,103]:=rfl
 rw [e]
 unfold unl unletter
 by_cases h0:b=102
 ·subst h0;decide
 ·rw [if_neg h0]
  by_cases h1:b=107
  ·subst h1;decide
  ·rw [if_neg h1]
   by_cases h2:b=108
   ·subst h2;decide
   ·rw [if_neg h2]
    by_cases h3:b=104
    ·subst h3;decide
    ·rw [if_neg h3]
     by_cases h4:b=103
     ·subst h4;decide
     ·rw [if_neg h4]
      have n0:(102 == b)=false:=beq_eq_false_iff_ne.2 fun e=>h0 e.symm
      have n1:(107 == b)=false:=beq_eq_false_iff_ne.2 fun e=>h1 e.symm
      have n2:(108 == b)=false:=beq_eq_false_iff_ne.2 fun e=>h2 e.symm
      have n3:(104 == b)=false:=beq_eq_false_iff_ne.2 fun e=>h3 e.symm
      have n4:(103 == b)=false:=beq_eq_false_iff_ne.2 fun e=>h4 e.symm
      simp only [Lib.indexByte,n0,n1,n2,n3,n4,Bool.false_eq_true,if_false]
      rfl
theorem run_ibs (b:UInt8) (w:World):(callFunc 247 #[.string letters,.int .u8 (b.toNat:Int)]).run Tryz.prog w= .ok (.value (.int .i64 (unl b))) w:=by
 rw [run_callFunc_extern Tryz.func247 (by kernel_rfl) (by kernel_rfl) (by kernel_rfl) (e:=Extern.BytealgIndexByte.indexByte) (by kernel_rfl),run_indexByte_string]
 simp only [Result.andThen,Int.toNat_natCast]
 rw [show b.toNat.toUInt8=b from UInt8.ofNat_toNat,unl_index]
theorem lite_any (b:UInt8) (w:World):Calls Tryz.prog 179 #[.string letters,.int .u8 (b.toNat:Int)] w fun e w'=>e= .returned (.int .i64 (unl b))∧w=w':=by
 have h:=run_ibs b
 obtain⟨z,hz⟩:=Nm (unl b)
 rw [←hz]at h ⊢
 clear hz
 go_enter Tryz.func179,Tryz.ntmps179
 go_wp2_with fail
 go_ret
 exact⟨rfl,rfl⟩
theorem index_any (b:UInt8) (w:World):Calls Tryz.prog 115 #[.string letters,.int .u8 (b.toNat:Int)] w fun e w'=>e= .returned (.int .i64 (unl b))∧w=w':=by
 have h:=Lh (lite_any b w)
 obtain⟨z,hz⟩:=Nm (unl b)
 rw [←hz]at h ⊢
 clear hz
 go_enter Tryz.func115,Tryz.ntmps115
 go_wp2_with fail
 refine h.out.mono ?_
 rintro e w1 ⟨rfl,rfl⟩
 go_wp2_with fail
 go_ret
 exact⟨rfl,rfl⟩
theorem zs_set (l:Ls) (z:Int) {k:Nat} (hk:0 < k):(l ++ zs k).set l.length z=(l ++ [z]) ++ zs (k - 1):=by
 obtain⟨j,rfl⟩:∃j,k=j+1:=⟨k - 1,by omega⟩
 rw [List.set_append_right _ _ Lr,Nat.sub_self,show zs (j+1)=0 :: zs j from rfl,List.set_cons_zero]
 simp
structure Pz (w:World) (b g c n:Nat) (rest:List Value) (i:Nat) (l:Ls) (V:World):Prop where
 rep:SRep V b g c (l ++ zs (n - i)) rest
 len:l.length=i
 lb:w.heap.size≤b
 lg:w.heap.size≤g
 below:Below w.heap.size w V
theorem Pz.step {w V V':World} {b g c n i:Nat} {rest:List Value} {l:Ls} {z:Int} (h:Pz w b g c n rest i l V) (hb:Below V.heap.size V V') (hi:i < n) (hz:0≤z∧z≤4):Pz w b g c n rest (i+1) (l ++ [z]) (V'.setCell ⟨g,i,none⟩ (.int .i64 z)):=by
 have h':=h.rep.below hb
 have e:(l ++ zs (n - i)).set i z=(l ++ [z]) ++ zs (n - (i+1)):=by
  have:=zs_set l z (show 0 < n - i by omega)
  rw [h.len]at this
  rw [this,show n - i - 1=n - (i+1) by omega]
 have hl:i < (l ++ zs (n - i)).length:=by rw [List.length_append,h.len,zs_len];omega
 have el:((l ++ [z]) ++ zs (n - (i+1))).length=(l ++ zs (n - i)).length:=by rw [←e,List.length_set]
 refine⟨⟨?_,?_,by rw [el];exact h'.le,by rw [el];exact h'.most,fun y hy=> ?_⟩,by rw [List.length_append,h.len];rfl,h.lb,h.lg,(below0 h.below hb).setCell h.lg _⟩
 ·rw [el]
  exact h'.obj.same (heap_set h'.ne)
 ·have:=h'.row.set i (.int .i64 z)
  rw [List.set_append_left _ _ (by rw [izs_len];exact hl),izs_set,e]at this
  exact this
 ·rw [←e]at hy
  rcases List.mem_or_eq_of_mem_set hy with hy | rfl
  ·exact h'.sts y hy
  ·exact hz
def ParseP (w:World) (o:Option Ls) (e:Ending) (w':World):Prop:=match o with
 | some l=>NewP w l e w'
 | none=>e= .returned (.tuple #[.pointer none,.int .i64 241])∧Below w.heap.size w w'
theorem parse_any (s:ByteArray) (w:World) (hs:s.size≤256):Calls Tryz.prog 49 #[.string s] w (ParseP w (untext s.data.toList)):=by
 obtain⟨L,hL⟩:=Nm (s.data.toList)
 have hLs:L.length=s.size:=by rw [hL];rfl
 have hget:∀k (h:k < s.size) (h':k < L.length),s[k]=L[k]:=fun k h h'=>by subst hL;rfl
 rw [←hL]
 have HLS:=Lh hLs
 have HG:=Lh hget
 have HNEW:=Lh (new_ok w s.size hs)
 have HIX:=Lh (fun b w=>index_any b w)
 have HX:Hid (∀l e w',untext L=some l→NewP w l e w'→ParseP w (untext L) e w'):=Lh (fun l e w' h1 h2=>by rw [h1];exact h2)
 have HN:Hid (∀w',untext L=none→Below w.heap.size w w'→ParseP w (untext L) (.returned (.tuple #[.pointer none,.int .i64 241])) w'):=Lh (fun w' h1 h2=>by rw [h1];exact⟨rfl,h2⟩)
 clear hL hLs hget
 go_enter Tryz.func49,Tryz.ntmps49
 go_wp2_with fail
 refine wp_scope_jump 1 fun R hR hJm=> ?_
 go_wp2_with fail
 refine HNEW.out.mono ?_
 rintro e w1 ⟨b,g,c,rest,rfl,h1,h2,h3,h4⟩
 have HST:=Lh (show Pz w b g c s.size rest 0 [] w1 from⟨by rw [List.nil_append];exact h1,rfl,h2,h3,h4⟩)
 clear h1 h2 h3 h4 HNEW
 go_wp2_with fail
 go_loopw [18] (fun s18 wr=>∃(i:Nat) (l:Ls),i≤s.size∧s18= .int .i64 (i:Int)∧Hid (untext (L.take i)=some l)∧Pz w b g c s.size rest i l wr) (fun s18 _=>s.size - (_root_.Go.RowKit.intOf s18).toNat)
 case atStart=>exact⟨0,[],Nat.zero_le _,rfl,Lh (by rw [List.take_zero];rfl),HST.out⟩
 case round=>
  obtain⟨i,l,hil,rfl,HU,hp⟩:=hrel
  obtain⟨w5,hw5⟩:∃x:World,x=wr:=⟨_,rfl⟩
  subst hw5
  have hc0:=hp.rep.c0
  by_cases hlt:i < s.size
  ·have hiL:i < L.length:=by rw [HLS.out];exact hlt
   have hx:=HG.out i hlt hiL
   have j0:(0:Int)≤(i:Int):=by omega
   have j1:(i:Int) < (s.size:Int):=by omega
   have j2:decide ((i:Int) < (s.size:Int))=true:=decide_eq_true j1
   have j3:decide (i < s.size)=true:=decide_eq_true hlt
   obtain⟨x,hbb⟩:=Nm (L[i])
   rw [←hbb]at hx
   have HB:=Lh hbb
   have HXX:=HIX.out x w5
   have hll:(l ++ zs (s.size - i)).length=s.size:=by rw [List.length_append,hp.len,zs_len];omega
   rw [hll]at hc0
   cases hu:unletter x with
   | none=>
    have HF:=Lh (show untext L=none from untext_none hu (by rw [HB.out];exact List.getElem_mem hiL))
    have HW:=Lh hp.below
    rw [show unl x= -1 by unfold unl;rw [hu];rfl]at HXX
    have HXX:=Lh HXX
    clear hp hu hbb hll
    go_wp2_with fail
    refine HXX.out.mono ?_
    rintro e w6 ⟨rfl,rfl⟩
    go_wp2_with fail
    refine wp_goto (hJm.out _ _ _ _ _ rfl ?_)
    go_wp2_with fail
    refine hR.out _ _ _ _ (by simp) ?_
    go_ret2
    exact HN.out _ HF.out HW.out
   | some z=>
    have hz:=unletter_st hu
    rw [show unl x=z by unfold unl;rw [hu];rfl]at HXX
    have HXX:=Lh HXX
    have e1:decide (z < 0)=false:=Df (by omega)
    have HU2:=Lh (show untext (L.take (i+1))=some (l ++ [z]) from by rw [List.take_add_one,List.getElem?_eq_getElem hiL];exact untext_snoc (by rw [←HB.out];exact hu) HU.out)
    have HP2:=Lh (hp.step Br hlt ⟨hz.1,hz.2.1⟩)
    have hl:i < (l ++ zs (s.size - i)).length:=by rw [hll];exact hlt
    obtain⟨u,d1⟩:∃u,w5.cell? ⟨g,i,none⟩=some u:=⟨_,by
     rw [hp.rep.row.cell,List.getElem?_append_left (by rw [izs_len];exact hl)]
     exact izs_get _ hl⟩
    have d2:w5.frozen? ⟨g,i,none⟩=false:=hp.rep.row.frozen i
    clear hp hu hbb hll hz hl
    go_wp2_with fail
    refine HXX.out.mono ?_
    rintro e w6 ⟨rfl,rfl⟩
    go_wp2_with fail
    go_roundw
    case rel=>exact⟨i+1,l ++ [z],by omega,by go_num,HU2,HP2.out⟩
    case measure=>simp [_root_.Go.RowKit.intOf];omega
  ·obtain rfl:i=s.size:=by omega
   have i2:decide ((s.size:Int) < (s.size:Int))=false:=Df (by omega)
   have HF:=Lh (show untext L=some l by rw [←HU.out,List.take_of_length_le (by rw [HLS.out];exact Nat.le_refl _)])
   have HFIN:=Lh (show NewP w l (.returned (.tuple #[pb b,.int .i64 0])) w5 from by
    have:=hp.rep
    rw [Nat.sub_self,show zs 0= [] from rfl,List.append_nil]at this
    exact⟨b,g,c,rest,rfl,this,hp.lb,hp.lg,hp.below⟩)
   clear hp hc0
   go_wp2_with fail
   refine hR.out _ _ _ _ (by simp) ?_
   go_ret2
   exact HX.out _ _ _ HF.out HFIN.out
theorem sparse (s:ByteArray) (l:Ls) (w:World) (hs:s.size≤256) (hu:untext s.data.toList=some l):Calls Tryz.prog 49 #[.string s] w fun e w'=>∃v F,e= .returned (.tuple #[v,.int .i64 0])∧HasS w' v l F∧(∀k,F k→w.heap.size≤k)∧Below w.heap.size w w':=by
 have h:=parse_any s w hs
 rw [hu]at h
 refine h.mono ?_
 rintro e w' ⟨b,g,c,rest,rfl,h1,h2,h3,h4⟩
 exact⟨_,_,rfl,⟨b,g,c,rest,rfl,h1,rfl⟩,fun k hk=>by rcases hk with rfl | rfl <;> assumption,h4⟩
end Go.Proofs.YtfcfbcjiijfjgaaGreatDoor.Sh
