import Derived.BigQuiet
import Derived.Deep.QuietTactic
import Derived.Test.YtfcfbcjiijfjgaaGreatDoorPAE
import Derived.WalkSpells
set_option maxHeartbeats 1000000
namespace Go.Proofs.YtfcfbcjiijfjgaaGreatDoor.Wo
open Go.RowKit
theorem numberOf_any (n k:Int) (w:World):Calls Tryz.prog 238 #[.int .u64 n,.int .i64 k] w fun e w'=>e= .returned (.agg #[.int .i64 k,.int .u64 n])∧Below w.heap.size w w':=by
 go_enter Tryz.func238,Tryz.ntmps238
 go_wp2
 exact bodyPost_ret (v:= .agg #[.int .i64 k,.int .u64 n]) (by simp [results,Tryz.results238,go_sem]) rfl ⟨rfl,(Br.alloc Lr _)⟩
theorem top1 (w:World):Calls Tryz.prog 259 #[.int .i64 1] w fun e w'=>e= .returned (.int .u64 255)∧w=w':=by
 go_enter Tryz.func259,Tryz.ntmps259
 go_wp2
 go_ret
 exact⟨rfl,rfl⟩
theorem top2 (w:World):Calls Tryz.prog 259 #[.int .i64 2] w fun e w'=>e= .returned (.int .u64 65535)∧w=w':=by
 go_enter Tryz.func259,Tryz.ntmps259
 go_wp2
 go_ret
 exact⟨rfl,rfl⟩
theorem top4 (w:World):Calls Tryz.prog 259 #[.int .i64 4] w fun e w'=>e= .returned (.int .u64 4294967295)∧w=w':=by
 go_enter Tryz.func259,Tryz.ntmps259
 go_wp2
 go_ret
 exact⟨rfl,rfl⟩
theorem top8 (w:World):Calls Tryz.prog 259 #[.int .i64 8] w fun e w'=>e= .returned (.int .u64 18446744073709551615)∧w=w':=by
 go_enter Tryz.func259,Tryz.ntmps259
 go_wp2
 go_ret
 exact⟨rfl,rfl⟩
def topOf (k:Int):Int:=if k=1 then 255 else if k=2 then 65535 else if k=4 then 4294967295 else 18446744073709551615
theorem wid_cases {k:Int} (h:wid k=true):k=1∨k=2∨k=4∨k=8:=by
 simp [wid]at h
 omega
theorem top_any (k:Int) (w:World) (h:wid k=true):Calls Tryz.prog 259 #[.int .i64 k] w fun e w'=>e= .returned (.int .u64 (topOf k))∧w=w':=by
 rcases wid_cases h with rfl | rfl | rfl | rfl
 ·exact top1 w
 ·exact top2 w
 ·exact top4 w
 ·exact top8 w
theorem fits_any (n k:Int) (w:World) (h:wid k=true):Calls Tryz.prog 240 #[.agg #[.int .i64 k,.int .u64 n]] w fun e w'=>e= .returned (.bool (decide (n≤topOf k)))∧Below w.heap.size w w':=by
 have ht:∀w:World,Hid (Calls Tryz.prog 259 #[.int .i64 k] w fun e w'=>e= .returned (.int .u64 (topOf k))∧w=w'):=fun w=>Lh (top_any k w h)
 clear h
 go_enter Tryz.func240,Tryz.ntmps240
 go_wp2
 go_quiet ((go_at_call 259;exact quiet_l (ht _).out))
 go_wp2
 go_ret
 exact⟨rfl,below_drewN (Br.alloc Lr _) _⟩
def le:Nat→Nat→List UInt8
 | 0,_=> []
 | k+1,n=>UInt8.ofNat (n % 256) :: le k (n / 256)
theorem le_length:∀(k n:Nat),(le k n).length=k
 | 0,_=>rfl
 | k+1,n=>by simp [le,le_length k]
theorem le_get:∀(k n i:Nat) (h:i < k),(le k n)[i]'(by rw [le_length];exact h)=UInt8.ofNat (n / 2 ^ (8*i) % 256)
 | 0,_,i,h=>absurd h (by omega)
 | k+1,n,0,_=>by simp [le]
 | k+1,n,i+1,h=>by
  simp only [le,List.getElem_cons_succ]
  rw [le_get k (n / 256) i (by omega),Nat.div_div_eq_div_mul]
  congr 3
  rw [show 8*(i+1)=8+8*i by omega,Nat.pow_add]
theorem byte_info:(Tryz.prog.info? 5).map (fun i=>(i.zero,i.size,i.bytes))=some (some (.int .u8 0),1,1):=by kernel_rfl
theorem le_step {n k j:Nat} {xs:List Value} (_hk:k≤8) (h:j < k) (hl:xs.length=k*1) (H:xs.take j=byt ((le k n).take j)):
  Hid ((xs.set j (.int .u8 ((n:Int) / 2 ^ (8*j) % 256))).take (j+1)=byt ((le k n).take (j+1))):=by
 show _=_
 rw [List.take_succ_eq_append_getElem (by simp;omega),List.getElem_set_self,List.take_set_of_le Lr,H,List.take_succ_eq_append_getElem (by rw [le_length];exact h),byt_append,le_get k n j h]
 simp [byt]
theorem le_end {n k j g cap:Nat} {xs:List Value} {w w':World} (h:k≤j) (hl:xs.length=k*1) (H:xs.take j=byt ((le k n).take j))
  (ho:w'.ownsRow (w.heap.size+1) 5 1 (.slice (some ⟨g,0,none⟩) k cap) k xs):w'.ownsRow w.heap.size 5 1 (.slice (some ⟨g,0,none⟩) k cap) k (byt (le k n)):=by
 rw [List.take_of_length_le (by omega),List.take_of_length_le (by rw [le_length];exact h)]at H
 subst H
 obtain⟨h1,h2 | ⟨g',c',cur,hv,hb,hr⟩⟩:=ho
 ·exact⟨h1,.inl h2⟩
 ·exact⟨h1,.inr ⟨g',c',cur,hv,by omega,hr⟩⟩
theorem bytes_any (n k:Nat) (w:World) (hk:k≤8):Calls Tryz.prog 241 #[.agg #[.int .i64 k,.int .u64 n]] w fun e w'=>∃g cap,e= .returned (.slice (some ⟨g,0,none⟩) k cap)∧w'.ownsRow w.heap.size 5 1 (.slice (some ⟨g,0,none⟩) k cap) k (byt (le k n))∧Below w.heap.size w w':=by
 obtain⟨i0,hi,hz0,hz1,hz2⟩:=info_parts byte_info
 go_enter Tryz.func241,Tryz.ntmps241
 go_wp2_with (refine wpList_make_full _ rfl _ _ 172 rfl (w.heap.size+1) 5 i0 _ 1 Tryz.underlying172 hi hz0 hz1 .i64 .i64 k k k rfl rfl rfl rfl (by rw [hz2];omega) (by unfold maxLen;omega) (by simp) ?_;intro w1 hown1 hg1)
 have hbox:w1.cell? ⟨w.heap.size,1,none⟩=some (.int .u64 n):=by
  have:=hg1.cell (a:=⟨w.heap.size,1,none⟩) (v:= .int .u64 n) (cell_alloc_new _ _ _ _) (by simp)
  exact this
 have hb1:Below w.heap.size w w1:=(Br.alloc Lr _).grown hg1 (by simp) (by simp)
 rw [World.size_alloc]at hown1
 clear hg1
 go_loopw [10] (fun i wr=>∃(j:Nat) (xs:List Value),j≤k∧i= .int .i64 j∧wr.ownsRow (w.heap.size+1) 5 1 (.slice (some ⟨w.heap.size+1,0,none⟩) k k) k xs∧Hid (xs.take j=byt ((le k n).take j))∧wr.cell? ⟨w.heap.size,1,none⟩=some (.int .u64 n)∧Below w.heap.size w wr) (fun i _=>k - (intOf i).toNat)
 case atStart=>exact⟨0,_,Nat.zero_le _,rfl,hown1,rfl,hbox,hb1⟩
 case round=>
  obtain⟨j,xs,hj,rfl,hown,H,hbx,hb⟩:=hrel
  have hlen:=hown.1
  by_cases hlt:j < k
  ·have hcx:wr.cell? ⟨w.heap.size+1,j,none⟩=some (xs.getD j undef):=by
    rw [hown.cellAt j (by omega)]
    simp [show j < xs.length by omega]
   have hfx:=hown.frozenAt j
   go_wp2
   go_roundw
   case rel=>exact⟨j+1,_,by omega,by go_num,(hown.stored j _).1,le_step hk hlt hlen H.out,(World.cell?_setCell_other _ _ _ _ (by simp)).trans hbx,hb.setCell (by simp) _⟩
   case measure=>simp [intOf];omega
  ·go_wp2
   go_ret
   exact⟨_,_,rfl,le_end (by omega) hlen H.out hown,hb⟩
def leVal:List UInt8→Nat
 | []=>0
 | b :: l=>b.toNat+256*leVal l
theorem wrap_u64 (n:Nat) (h:n < 18446744073709551616):IntKind.u64.wrap (n:Int)=(n:Int):=by
 simp [IntKind.wrap,IntKind.bits,IntKind.signed]
 omega
theorem leVal_snoc:∀(l:List UInt8) (b:UInt8),leVal (l ++ [b])=leVal l+b.toNat*2 ^ (8*l.length)
 | [],b=>by simp [leVal]
 | c :: l,b=>by
  simp only [List.cons_append,leVal,leVal_snoc l b,List.length_cons]
  rw [show 8*(l.length+1)=8+8*l.length by omega,Nat.pow_add,Nat.mul_add]
  have:b.toNat*(2 ^ 8*2 ^ (8*l.length))=256*(b.toNat*2 ^ (8*l.length)):=by
   rw [Nat.mul_left_comm]
  omega
theorem leVal_lt:∀(l:List UInt8),leVal l < 2 ^ (8*l.length)
 | []=>by simp [leVal]
 | b :: l=>by
  have h:=leVal_lt l
  have hb:=b.toNat_lt
  simp only [leVal,List.length_cons]
  rw [show 8*(l.length+1)=8+8*l.length by omega,Nat.pow_add]
  omega
theorem pow_le8 {k:Nat} (h:k≤8):2 ^ (8*k)≤18446744073709551616:=by
 have:2 ^ (8*k)≤2 ^ 64:=Nat.pow_le_pow_right (by omega) (by omega)
 simpa using this
theorem or_step {l:List UInt8} {k:Nat} (h8:l.length≤8) (hk:k < l.length):
  bits .or .u64 (leVal (l.take k)) (IntKind.u64.wrap (IntKind.u64.wrap (l[k].toNat:Int)*2 ^ (8*k)))=(leVal (l.take (k+1)):Int):=by
 have hb:l[k].toNat < 256:=l[k].toNat_lt
 have hl:(l.take k).length=k:=by simp;omega
 have h1:=leVal_lt (l.take k)
 have h3:=leVal_lt (l.take (k+1))
 rw [hl]at h1
 rw [show(l.take (k+1)).length=k+1 by simp;omega]at h3
 have h4:=pow_le8 (k:=k+1) (by omega)
 have h5:=pow_le8 (k:=k) (by omega)
 rw [List.take_succ_eq_append_getElem hk,leVal_snoc,hl]at h3 ⊢
 rw [wrap_u64 _ (by omega)]
 have e:(l[k].toNat:Int)*2 ^ (8*k)=((l[k].toNat*2 ^ (8*k):Nat):Int):=by simp
 rw [e,wrap_u64 _ (by omega),u64_or_nat _ _ (by omega) (by omega),Nat.or_comm,nat_join (8*k) _ _ (by simp) h1]
 congr 1
 omega
theorem get_ok (l:List UInt8) (n c B:Nat) (A:Option Addr) (w:World) (ht:Tab w) (hn:l.length=n) (hk:wid n=true) (hr:Sees w B A (byt l)) (hB:B≤w.heap.size):Calls Tryz.prog 171 #[.slice A n c] w fun e w'=>e= .returned (.tuple #[.int .u64 (leVal l),.int .i64 0])∧Below w.heap.size w w':=by
 have hk8:n≤8:=by have:=wid_cases hk;omega
 have Hk:=Lh hk
 clear hk
 subst hn
 go_enter Tryz.func171,Tryz.ntmps171
 go_wp2_with fail
 refine wp_scope_jump 1 fun R hR hJ=> ?_
 go_wp2_with fail
 refine(numberOf_any _ _ _).mono ?_
 rintro e w1 ⟨rfl,hb1⟩
 have ht1:=ht.below hb1
 go_wp2_with fail
 refine(wknown_any _ _ (ht1.alloc _)).mono ?_
 rintro e w2 ⟨rfl,rfl⟩
 rw [Hk.out]
 go_wp2_with fail
 have hs:=hb1.size
 have hr1:Sees (w1.alloc (.cells #[.int .i64 l.length,.int .u64 0] 300)) B A (byt l):=(hr.below (hb1.mono hB)).alloc (by omega) _
 have hb2:Below w.heap.size w (w1.alloc (.cells #[.int .i64 l.length,.int .u64 0] 300)):=hb1.alloc hb1.size _
 obtain⟨w2,hw2⟩:=Nm (w1.alloc (.cells #[.int .i64 l.length,.int .u64 0] 300))
 have hx:w2.cell? ⟨w1.heap.size,1,none⟩=some (.int .u64 0):=by rw [hw2];exact cell_alloc_new _ _ _ _
 have hf:w2.frozen? ⟨w1.heap.size,1,none⟩=false:=by rw [hw2];exact frozen_alloc_new _ _ _ _
 have hw2s:w1.heap.size < w2.heap.size:=by rw [hw2];simp
 rw [←hw2]at hr1 hb2 ⊢
 clear hw2
 go_loopw [16] (fun i wr=>∃k:Nat,k≤l.length∧i= .int .i64 k∧wr.cell? ⟨w1.heap.size,1,none⟩=some (.int .u64 (leVal (l.take k)))∧wr.frozen? ⟨w1.heap.size,1,none⟩=false∧Sees wr B A (byt l)∧Below w.heap.size w wr) (fun i _=>l.length - (intOf i).toNat)
 case atStart=>exact⟨0,Nat.zero_le _,rfl,hx,hf,hr1,hb2⟩
 case round=>
  obtain⟨k,hk,rfl,hx,hf,hr,hb⟩:=hrel
  by_cases hlt:k < l.length
  ·obtain⟨ad,rfl,_,hc⟩:=hr.byte hlt
   go_wp2
   go_region
   rw [or_step hk8 hlt]
   go_wp2
   go_roundw
   case rel=>exact⟨k+1,by omega,by go_num,World.cell?_setCell_same' _ _ _ (by rw [hx];rfl),by rw [←hf];exact World.frozen?_setCell _ _ _ _,(hr.setCell (by simp;omega) _).drew,(hb.setCell (by simp;omega) _).drew⟩
   case measure=>simp [intOf];omega
  ·have hk':l.length≤k:=by omega
   have Hl:Hid (leVal (l.take k)=leVal l):=Lh (by rw [List.take_of_length_le hk'])
   go_wp2
   refine hR.out _ _ _ _ (by simp) ?_
   go_ret2
   exact⟨by rw [←Hl.out];rfl,hb⟩
theorem put_ok (n k:Nat) (w:World) (ht:Tab w) (hk:wid k=true) (hn:(n:Int)≤topOf k):Calls Tryz.prog 163 #[.int .u64 n,.int .i64 k] w fun e w'=>∃g cap,e= .returned (.tuple #[.slice (some ⟨g,0,none⟩) k cap,.int .i64 0])∧w'.ownsRow w.heap.size 5 1 (.slice (some ⟨g,0,none⟩) k cap) k (byt (le k n))∧Below w.heap.size w w':=by
 have hk8:k≤8:=by have:=wid_cases hk;omega
 have Hk:=Lh hk
 clear hk
 have Hn:=Lh (show decide ((n:Int)≤topOf k)=true by simpa using hn)
 clear hn
 go_enter Tryz.func163,Tryz.ntmps163
 go_wp2_with fail
 refine wp_scope_jump 1 fun R hR hJ=> ?_
 go_wp2_with fail
 refine(numberOf_any _ _ _).mono ?_
 rintro e w1 ⟨rfl,hb1⟩
 have ht1:=ht.below hb1
 go_wp2_with fail
 refine(wknown_any _ _ (ht1.alloc _)).mono ?_
 rintro e w2 ⟨rfl,rfl⟩
 rw [Hk.out]
 go_wp2_with fail
 refine(fits_any _ _ _ Hk.out).mono ?_
 rintro e w2 ⟨rfl,hb2⟩
 rw [Hn.out]
 have hc0:w2.cell? ⟨w1.heap.size,0,none⟩=some (.int .i64 k):=(hb2.cell (by simp)).trans (cell_alloc_new _ _ _ _)
 have hc1:w2.cell? ⟨w1.heap.size,1,none⟩=some (.int .u64 n):=(hb2.cell (by simp)).trans (cell_alloc_new _ _ _ _)
 go_wp2_with fail
 refine(bytes_any _ _ _ hk8).mono ?_
 rintro e w3 ⟨g,cap,rfl,ho,hb3⟩
 go_wp2
 refine hR.out _ _ _ _ (by simp) ?_
 go_ret2
 have hs:=hb1.size
 have hs2:=hb2.size
 simp at hs2
 refine⟨g,cap,rfl,own_mono ho (by omega),(hb1.alloc hb1.size _).trans ((hb2.mono (by simp;omega)).trans (hb3.mono (by omega)))⟩
end Go.Proofs.YtfcfbcjiijfjgaaGreatDoor.Wo
namespace Go.Proofs.YtfcfbcjiijfjgaaGreatDoor.Wo
open Go.RowKit Go.Shelf
theorem clone_any (l:List UInt8) (n c B:Nat) (A:Option Addr) (w:World) (hn:l.length=n) (hm:n≤140737488351232) (hr:Sees w B A (byt l)) (hB:B≤w.heap.size):
  Calls Tryz.prog 176 #[.slice A n c] w fun e w'=>∃v,e= .returned v∧w'.ownsRow w.heap.size 5 1 v n (byt l)∧Below w.heap.size w w':=by
 obtain⟨i0,hi,hz0,hz1,hz2⟩:=info_parts byte_info
 have hl:(byt l).length=n*1:=by rw [byt_length];omega
 have hown0:∀o,o=Obj.cells #[] 5→(w.alloc o).ownsRow w.heap.size 5 1 (.slice (some ⟨w.heap.size,0,none⟩) 0 0) 0 []:=fun o ho=>by
  subst ho
  exact World.ownsRow_lit w #[] 0 Lr (Nat.zero_le _) rfl
 have hr0:=hr.alloc hB (.cells #[] 5)
 have hb0:Below w.heap.size w (w.alloc (.cells #[] 5)):=Br.alloc Lr _
 rcases A with _ | ad
 ·have hnil:l= []:=by
   rcases l with _ | ⟨u,l⟩
   ·rfl
   ·obtain⟨ad,h,_⟩:=hr (by simp [byt])
    cases h
  subst hnil
  obtain rfl:n=0:=by simpa using hn.symm
  have hnil:∀w,(binOp .eql 172 (.slice none 0 c) (.slice none 0 0)).run Tryz.prog w= .ok (.bool true) w:=fun w=>by kernel_rfl
  go_enter Tryz.func176,Tryz.ntmps176
  go_wp2
  go_ret
  exact⟨_,rfl,World.ownsRow_nil _ _ _ _,Br⟩
 ·have hnil:∀w,(binOp .eql 172 (.slice (some ad) n c) (.slice none 0 0)).run Tryz.prog w= .ok (.bool false) w:=fun w=>by kernel_rfl
  go_enter Tryz.func176,Tryz.ntmps176
  go_wp2_with (at_builtin;go_must (refine wpList_append_sees rfl (.tmp 5) (.tmp 6) 172 rfl w.heap.size 5 i0 _ 1 1 Tryz.underlying172 hi hz0 hz1 hz2 rfl (by decide) _ _ _ rfl (hown0 _ rfl) B (some ad) n c (byt l) rfl hl hr0 byt_one (by unfold maxLen;omega) (by omega) (by simp) ?_;intro v1 w1 hown1 hg1 hv1))
  go_ret
  exact⟨_,rfl,by simpa using hown1,hb0.grown hg1 (by simp) (fun k hk=>((hown0 _ rfl).lt k hk).1)⟩
theorem partsF_any (l:List UInt8) (n c B:Nat) (A:Option Addr) (s:Int) (w:World) (hn:l.length=n) (hm:n≤140737488351232) (hr:Sees w B A (byt l)) (hB:B≤w.heap.size):
  Calls Tryz.prog 113 #[.slice A n c,.int .i64 s] w fun e w'=>∃v bo bs,e= .returned (.func (.func 177) #[] #[.pointer (some ⟨bo,0,none⟩),.pointer (some ⟨bs,0,none⟩)])∧
   w.heap.size≤bo∧w.heap.size≤bs∧w'.cell? ⟨bo,0,none⟩=some v∧w'.cell? ⟨bs,0,none⟩=some (.int .i64 s)∧w'.ownsRow w.heap.size 5 1 v n (byt l)∧Below w.heap.size w w':=by
 go_enter Tryz.func113,Tryz.ntmps113
 go_wp2_with fail
 refine(clone_any l n c B A _ hn hm (hr.alloc hB _) (by simp;omega)).mono ?_
 rintro e w1 ⟨v,rfl,hown,hb1⟩
 obtain⟨A1,c1,rfl⟩:=own_slice hown
 have hcs:w1.cell? ⟨w.heap.size,0,none⟩=some (.int .i64 s):=(hb1.cell (by simp)).trans (cell_alloc_new _ _ _ _)
 have hB1:Below w.heap.size w w1:=(Br.alloc Lr _).trans (hb1.mono (by simp))
 have hs1:=hb1.size
 simp at hs1
 go_wp2
 go_ret
 refine⟨_,w1.heap.size,w.heap.size,rfl,by omega,Nat.le_refl _,cell_alloc_new _ _ _ _,(World.cell?_alloc_lt _ _ _ (by simp;omega)).trans hcs,own_mono (hown.alloc _) (by simp),hB1.alloc hB1.size _⟩
end Go.Proofs.YtfcfbcjiijfjgaaGreatDoor.Wo
namespace Go.Proofs.YtfcfbcjiijfjgaaGreatDoor.Wo
open Go.RowKit Go.Shelf
attribute [local go_sem] Oper.semAt_some
def cutOf (l:List UInt8) (c:Nat × Nat):Nat × List UInt8:=(c.1,(l.drop c.1).take (c.2 - c.1))
structure PX where
 at_:Nat
 bytes:List UInt8
 blk:Nat
 cap:Nat
def PX.prj (x:PX):Nat × List UInt8:=(x.at_,x.bytes)
def encPart (x:PX):Array Value:= #[.int .i64 x.at_,.slice (some ⟨x.blk,0,none⟩) x.bytes.length x.cap]
def memPart (x:PX) (k:Nat):Prop:=k=x.blk
def prePart (s:Int) (l:List UInt8) (pre:List PX) (x:PX) (W:World):Prop:=
 W.ownsRow 0 5 1 (.slice (some ⟨x.blk,0,none⟩) x.bytes.length x.cap) x.bytes.length (byt x.bytes)∧x.prj=cutOf l (cutk s.toNat l.length pre.length)∧0 < x.bytes.length
def allParts (s:Int) (l:List UInt8) (xs:List PX):Prop:=xs.map PX.prj=(List.range xs.length).map (fun k=>cutOf l (cutk s.toNat l.length k))∧(s < 1→xs= [])∧(1≤s→l.length≤xs.length*s.toNat)
def someParts (s:Int) (l:List UInt8) (xs:List PX):Prop:=xs.map PX.prj=(List.range xs.length).map (fun k=>cutOf l (cutk s.toNat l.length k))
section
variable (l:List UInt8) (l0:Nat) (J Jx:List PX→(Nat→Prop)→World→Prop) (W:World) (bo bs:Nat) (A:Option Addr) (c:Nat)
def inI (pre':List (Nat × Nat)) (O':Nat→Prop) (V:World):Prop:=
 ∃pre O,pre.map PX.prj=pre'.map (cutOf l)∧J pre O V∧(∀k,O k→O' k)∧(∀k,O k→W.heap.size+5≤k)∧
  V.cell? ⟨W.heap.size,0,none⟩=some (.func (.yield l0) #[] #[])∧V.cell? ⟨bo,0,none⟩=some (.slice A l.length c)∧V.ownsRow 0 5 1 (.slice A l.length c) l.length (byt l)
def inX (c':Code) (pre':List (Nat × Nat)) (O':Nat→Prop) (V:World):Prop:=
 c'= .exit 0∧∃pre O,pre.map PX.prj=pre'.map (cutOf l)∧Jx pre O V∧(∀k,O k→O' k)∧(∀k,O k→W.heap.size+5≤k)
end
theorem parts1_it (l:List UInt8) (s:Int) (bo bs base c:Nat) (A:Option Addr) (w0:World) (hm:l.length≤140737488351232) (hco:w0.cell? ⟨bo,0,none⟩=some (.slice A l.length c)) (hcs:w0.cell? ⟨bs,0,none⟩=some (.int .i64 s))
  (hown:w0.ownsRow base 5 1 (.slice A l.length c) l.length (byt l)):
  It Tryz.prog 177 #[.pointer (some ⟨bo,0,none⟩),.pointer (some ⟨bs,0,none⟩)] encPart memPart (prePart s l) (fun k=>k=bo∨k=bs∨(Value.slice A l.length c).ownBlock=some k) (allParts s l) (someParts s l) w0:=by
 intro l0 J Jx W hpW hsW hJ hJx hY h0
 have hbo:bo < w0.heap.size:=lt_of_cell hco
 have hbs:bs < w0.heap.size:=lt_of_cell hcs
 have hWo:W.cell? ⟨bo,0,none⟩=some (.slice A l.length c):=(World.cell?_of_block (hpW bo (.inl rfl))).trans hco
 have hWs:W.cell? ⟨bs,0,none⟩=some (.int .i64 s):=(World.cell?_of_block (hpW bs (.inr (.inl rfl)))).trans hcs
 have hWown:W.ownsRow 0 5 1 (.slice A l.length c) l.length (byt l):=own_mono (own_same hown (fun k hk=>hpW k (.inr (.inr hk)))) (Nat.zero_le _)
 have hao:(W.alloc (.cells #[.func (.yield l0) #[] #[]] 266)).cell? ⟨bo,0,none⟩=some (.slice A l.length c):=(World.cell?_alloc_lt _ _ _ (by simp;omega)).trans hWo
 have has:(W.alloc (.cells #[.func (.yield l0) #[] #[]] 266)).cell? ⟨bs,0,none⟩=some (.int .i64 s):=(World.cell?_alloc_lt _ _ _ (by simp;omega)).trans hWs
 refine calls_marks Tryz.func177 rfl ?_
 simp only [Tryz.ntmps177,List.size_toArray,List.length_cons,List.length_nil,Nat.reduceAdd,Nat.reduceSub,Array.replicate_succ,Array.replicate_zero,List.push_toArray,List.append_toArray,List.nil_append,List.cons_append]
 go_wp2_with fail
 refine wp_scope_jump 0 fun R hR hJm=> ?_
 go_wp2_with fail
 go_step3
 go_wp2_with fail
 refine(cuts_any _ _ _).mono ?_
 rintro e w2' ⟨rfl,rfl⟩
 obtain⟨w2,hw2⟩:=Nm (((W.alloc (.cells #[.func (.yield l0) #[] #[]] 266)).alloc (.cells #[.int .i64 (l.length:Int)] 3)).alloc (.cells #[.int .i64 s] 3))
 have hsz2:w2.heap.size=W.heap.size+3:=by rw [hw2];simp
 have hb2:Below W.heap.size W w2:=by rw [hw2];exact((Br.alloc Lr _).alloc (by simp) _).alloc (by simp only [World.size_alloc];omega) _
 have hcy:w2.cell? ⟨W.heap.size,0,none⟩=some (.func (.yield l0) #[] #[]):=by
  rw [hw2,World.cell?_alloc_lt _ _ _ (by simp only [World.size_alloc];omega),World.cell?_alloc_lt _ _ _ (by simp)]
  exact cell_alloc_new _ _ _ _
 have hcm2:w2.cell? ⟨W.heap.size+1,0,none⟩=some (.int .i64 (l.length:Int)):=by
  rw [hw2,World.cell?_alloc_lt _ _ _ (by simp)]
  exact cell_new_at _ _ _ _ (by simp)
 have hcs2:w2.cell? ⟨W.heap.size+2,0,none⟩=some (.int .i64 s):=by
  rw [hw2]
  exact cell_new_at _ _ _ _ (by simp)
 have hj2:J [] (fun _=>False) w2:=hJ _ _ _ _ none h0 ⟨hb2.os,hb2.tape,hb2.output,hb2.size,fun k hk _=>hb2.block k hk⟩ (fun r e=>by cases e)
 have hit:=cuts1_it l.length s (W.heap.size+2) (W.heap.size+1) w2 hm hcs2 hcm2
 have hos:w2.ownsRow 0 5 1 (.slice A l.length c) l.length (byt l):=own_same hWown (fun k hk=>hb2.block k (own_lt hWown hk))
 have hco2:w2.cell? ⟨bo,0,none⟩=some (.slice A l.length c):=(hb2.cell (by simp;omega)).trans hWo
 have hmix:Tryz.prog.follows .mixedOrders=true:=by kernel_rfl
 rw [←hw2]
 clear hw2 hao has
 go_wp2_with fail
 refine wpIn_wide.1 (wpIn_range_it (gf:=246) (lb:= #[.pointer (some ⟨W.heap.size+2,0,none⟩),.pointer (some ⟨W.heap.size+1,0,none⟩)]) rfl (enters_of Tryz.func246 (by kernel_rfl) rfl) hit (by rintro k (rfl | rfl) <;> omega) (fun _=>rfl) (fun _ _ _ _ _ h=>h)
  (inI l l0 J W bo A c) (inX l Jx W) ?hI ?hIx ?h0
  (fun x=>{tmps:= #[.func (.yield l0) #[] #[],.pointer (some ⟨bo,0,none⟩),.pointer (some ⟨bs,0,none⟩),.pointer (some ⟨W.heap.size,0,none⟩),.int .i64 x.1,.int .i64 x.2,.slice A l.length c,.int .i64 l.length,.int .i64 s,.func (.func 246) #[] #[.pointer (some ⟨W.heap.size+2,0,none⟩),.pointer (some ⟨W.heap.size+1,0,none⟩)],.int .i64 x.1,.int .i64 x.2,undef,undef,undef,undef,undef,undef,undef,undef,undef],defers:= []}) ?assign ?body ?done ?stop)
 case assign=>
  intro l' x W' K hK
  simp only [encCut]
  gi_wp2
  exact hK
 case h0=>exact⟨[],_,rfl,hj2,fun _ h=>h.elim,fun _ h=>h.elim,hcy,hco2,hos⟩
 case hI=>
  rintro s' O' V V' row ⟨pre,O,h1,h2,h3,h4,h5,h6,h7⟩ hg hr
  have hne:∀k,k < w2.heap.size→some k≠row:=fun k hk e=>by have:=(hr k e.symm).1;omega
  refine⟨pre,O,h1,hJ _ _ _ _ row h2 hg (fun r e=>⟨by have:=(hr r e).1;omega,fun h=>(hr r e).2 (h3 r h)⟩),h3,h4,(World.cell?_of_block (hg.block _ (lt_of_cell h5) (hne W.heap.size (by omega)))).trans h5,(World.cell?_of_block (hg.block _ (lt_of_cell h6) (hne bo (by omega)))).trans h6,own_same h7 (fun k hk=>hg.block k (own_lt h7 hk) (hne k (by have:=own_lt hWown hk;omega)))⟩
 case hIx=>
  rintro c' s' O' V V' row ⟨h0,pre,O,h1,h2,h3,h4⟩ hg hr
  exact⟨h0,pre,O,h1,hJx _ _ _ _ row h2 hg (fun r e=>⟨by have:=(hr r e).1;omega,fun h=>(hr r e).2 (h3 r h)⟩),h3,h4⟩
 case body=>
  rintro l' pre' x O' V hVs hO' ⟨pre,O,h1,hj,hOO,hO5,hcy,hco,hos⟩ ⟨hx,hxl,hs1⟩ _
  have hlen:pre.length=pre'.length:=by simpa using congrArg List.length h1
  obtain⟨f,u⟩:=x
  have hfu:f < u∧u≤l.length:=by
   simp only [cutk,Prod.mk.injEq]at hx
   omega
  obtain⟨hfu1,hfu2⟩:=hfu
  have Hx:=Lh hx
  have H1:=Lh h1
  have Hlen:=Lh hlen
  have Hs2:=Lh hsz2
  clear hx h1 hlen hsz2
  obtain⟨g0,c0,e0,_,hg0⟩:=hos.form (by omega)
  injection e0 with e0 _ e0'
  subst e0 e0'
  have hcap:=(own_cap hos).1
  have hsl:Sees V V.heap.size (some ⟨g0,f,none⟩) (byt ((l.drop f).take (u - f))):=by
   have:=(Sees.of_own hos).sub f (u - f)
   rw [Nat.zero_add,byt_drop,byt_take]at this
   exact this
  have hbl:((l.drop f).take (u - f)).length=u - f:=by simp;omega
  have hcl:∀V':World,V'.heap=V.heap→Hid (Calls Tryz.prog 176 #[.slice (some ⟨g0,f,none⟩) (u - f) (c - f)] V' fun e w'=>∃v,e= .returned v∧w'.ownsRow V'.heap.size 5 1 v (u - f) (byt ((l.drop f).take (u - f)))∧Below V'.heap.size V' w'):=
   fun V' hV'=>Lh (clone_any _ (u - f) (c - f) V.heap.size _ V' hbl (by omega) (hsl.keep fun p _=>World.cell?_of_block (by rw [hV'])) (by rw [hV'];exact Nat.le_refl _))
  clear hpW hsW hsl
  have rest:∀(w3:World) (v:Value),w3.ownsRow V.heap.size 5 1 v (u - f) (byt ((l.drop f).take (u - f)))→Below V.heap.size V.drew w3→∃g cap,v= .slice (some ⟨g,0,none⟩) (u - f) cap∧w3.cell? ⟨W.heap.size,0,none⟩=some (.func (.yield l0) #[] #[])∧
    ∃fn tmps assign body,(Instr.yield l0 #[.int .i64 f,.slice (some ⟨g,0,none⟩) (u - f) cap]).run Tryz.prog w3= .ok (.round l0 fn tmps assign body) w3∧
     RoundIn Fence.wide 0 Tryz.prog l0 fn tmps assign body w3 fun e W'=>∃b,e= .returned (.bool b)∧Hid (Keeps (fun k=>k=W.heap.size+2∨k=W.heap.size+1) w2.heap.size O' (fun _=>False) V W'∧
      (if b then inI l l0 J W bo (some ⟨g0,0,none⟩) c (pre' ++ [(f,u)]) (nextO O' (fun _=>False) V W') W' else inX l Jx W (.exit 0) (pre' ++ [(f,u)]) (nextO O' (fun _=>False) V W') W')):=by
   intro w3 v hown3 hb3
   obtain⟨g,cap,rfl,hgl,hgs⟩:=hown3.form (by omega)
   have hs3:V.heap.size≤w3.heap.size:=hb3.size
   have hs2':=Hs2.out
   have hblk:∀k,k < V.heap.size→w3.heap[k]?=V.heap[k]?:=hb3.block
   have hcy3:w3.cell? ⟨W.heap.size,0,none⟩=some (.func (.yield l0) #[] #[]):=(World.cell?_of_block (hblk W.heap.size (by omega))).trans hcy
   have hco3:w3.cell? ⟨bo,0,none⟩=some (.slice (some ⟨g0,0,none⟩) l.length c):=(World.cell?_of_block (hblk bo (lt_of_cell hco))).trans hco
   have hos3:w3.ownsRow 0 5 1 (.slice (some ⟨g0,0,none⟩) l.length c) l.length (byt l):=own_same hos (fun k hk=>hblk k (own_lt hos hk))
   have hbo3:bo < w3.heap.size:=lt_of_cell hco3
   obtain⟨x,hx⟩:∃x:PX,x=⟨f,(l.drop f).take (u - f),g,cap⟩:=⟨_,rfl⟩
   have hxl:x.bytes.length=u - f:=by rw [hx];exact hbl
   have hxg:x.blk=g:=by rw [hx]
   have hxp:x.prj=cutOf l (f,u):=by rw [hx];rfl
   have hpre:prePart s l pre x w3:=by
    refine⟨?_,by rw [hxp,Hx.out,Hlen.out],by omega⟩
    rw [hxl,hx]
    exact own_mono hown3 (Nat.zero_le _)
   have hOlt:∀k,O k→k < V.heap.size:=fun k h=>(hO' k (hOO k h)).2
   obtain⟨fn,tmps,assign,body,hy,hR⟩:=hY pre x O w3 (by omega) (fun k h=>by have:=hO5 k h;have:=hOlt k h;omega) (hJ _ _ _ _ none hj ⟨hb3.os,hb3.tape,hb3.output,hb3.size,fun k hk _=>hb3.block k hk⟩ (fun r e=>by cases e)) hpre
    (fun k h=>by
     have hk:k=g:=by rw [←hxg];exact h
     subst hk
     exact⟨by omega,hgs,fun ho=>by have:=hOlt _ ho;omega⟩)
   have he:encPart x= #[.int .i64 f,.slice (some ⟨g,0,none⟩) (u - f) cap]:=by
    unfold encPart
    rw [hxl,hx]
   rw [he]at hy
   refine⟨g,cap,rfl,hcy3,fn,tmps,assign,body,hy,hR.mono ?_⟩
   have hmem:∀k,memPart x k→k=g:=fun k h=>by rw [←hxg];exact h
   have keeps:∀W',Keeps (fun k=>k=bo∨k=bs∨(Value.slice (some ⟨g0,0,none⟩) l.length c).ownBlock=some k) W.heap.size O (memPart x) w3 W'→Keeps (fun k=>k=W.heap.size+2∨k=W.heap.size+1) w2.heap.size O' (fun _=>False) V W':=fun W' hk=>by
    refine⟨Nat.le_trans hs3 hk.size,fun k hkl hp=> ?_⟩
    refine(hk.same k (by omega) (.inr ⟨?_,?_,fun h=>by have:=hmem k h;omega⟩)).trans (hblk k hkl)
    ·rcases hp with(rfl | rfl) | ⟨h,_⟩ <;> omega
    ·intro ho
     rcases hp with(rfl | rfl) | ⟨_,h,_⟩
     ·have:=hO5 _ ho;omega
     ·have:=hO5 _ ho;omega
     ·exact h (hOO k ho)
   have sub:∀W',w3.heap.size≤W'.heap.size→(∀k,nextO O (memPart x) w3 W' k→nextO O' (fun _=>False) V W' k)∧∀k,nextO O (memPart x) w3 W' k→W.heap.size+5≤k:=fun W' hsW'=>by
    refine⟨fun k h=> ?_,fun k h=> ?_⟩
    ·rcases h with h | h | h
     ·exact .inl (hOO k h)
     ·have:=hmem k h;exact .inr (.inr (by omega))
     ·exact .inr (.inr (by omega))
    ·rcases h with h | h | h
     ·exact hO5 k h
     ·have:=hmem k h;omega
     ·omega
   have hmap:(pre ++ [x]).map PX.prj=(pre' ++ [(f,u)]).map (cutOf l):=by
    rw [List.map_append,List.map_append,H1.out]
    simp [hxp]
   rintro e W' ⟨hk,(⟨rfl,hj'⟩ | ⟨rfl,hjx⟩)⟩
   ·refine⟨true,rfl,keeps W' hk,?_⟩
    rw [if_pos rfl]
    obtain⟨s1,s2⟩:=sub W' hk.size
    refine⟨pre ++ [x],_,hmap,hj',s1,s2,?_,?_,?_⟩
    ·exact(World.cell?_of_block (hk.same W.heap.size (by omega) (.inr ⟨Nat.le_refl _,fun h=>by have:=hO5 _ h;omega,fun h=>by have:=hmem _ h;omega⟩))).trans hcy3
    ·exact(World.cell?_of_block (hk.same bo hbo3 (.inl (.inl rfl)))).trans hco3
    ·exact own_same hos3 (fun k h=>hk.same k (own_lt hos3 h) (.inl (.inr (.inr h))))
   ·refine⟨false,rfl,keeps W' hk,?_⟩
    rw [if_neg (by simp)]
    obtain⟨s1,s2⟩:=sub W' hk.size
    exact⟨rfl,pre ++ [x],_,hmap,hjx,s1,s2⟩
  have huc:u≤c:=by omega
  have hfu':f≤u:=by omega
  have hcf:¬c=f:=by omega
  have hrd:=Lh rest
  clear rest
  have rest:=hrd
  clear hrd
  gi_wp2
  rename_i hKc _
  refine region_round l' hmix (by kernel_rfl) ?_
  refine wpAnyIn_take (i:=1) (v:= ?_) rfl rfl (by kernel_rfl) (by kernel_rfl) (by kernel_rfl) (fun _ _ _ h=>h) ⟨Or.inl ⟨by rfl,?_⟩,fun _=>rfl⟩ ?_
  rotate_left
  ·intro w
   go_simp
   try with_reducible rfl
  refine wpAnyIn_take (i:=3) (v:= ?_) rfl rfl (by kernel_rfl) (by kernel_rfl) (by kernel_rfl) (fun _ _ _ h=>h) ⟨Or.inl ⟨by rfl,?_⟩,fun _=>rfl⟩ ?_
  rotate_left
  ·intro w
   go_simp
   try with_reducible rfl
  refine wpAnyIn_take (i:=4) (v:= ?_) rfl rfl (by kernel_rfl) (by kernel_rfl) (by kernel_rfl) (fun _ _ _ h=>h) ⟨Or.inl ⟨by rfl,?_⟩,fun _=>rfl⟩ ?_
  rotate_left
  ·intro w
   go_simp
   try with_reducible rfl
  refine wpAnyIn_ready (rs:= [0,2]) (by kernel_rfl) (by simp) ?_
  refine AllReadyIn.cons rfl (fun K hK=> ?_) (AllReadyIn.cons rfl (fun K hK=> ?_) AllReadyIn.nil)
  ·go_simp
   refine hK _ _ ?_
   clear hK K
   refine wpAnyIn_ready (rs:= [2]) (by kernel_rfl) (by simp) ?_
   refine AllReadyIn.cons rfl (fun K hK=> ?_) AllReadyIn.nil
   go_simp
   refine hK _ _ ?_
   clear hK K
   refine wpAnyIn_take (i:=5) (v:= ?_) rfl rfl (by kernel_rfl) (by kernel_rfl) (by kernel_rfl) (fun _ _ _ h=>h) ⟨Or.inl ⟨by rfl,?_⟩,fun _=>rfl⟩ ?_
   rotate_left
   ·intro w
    go_simp
    try with_reducible rfl
   refine wpAnyIn_ready (rs:= [6]) (by kernel_rfl) (by simp) ?_
   refine AllReadyIn.cons rfl (fun K hK=> ?_) AllReadyIn.nil
   go_simp
   refine⟨trivial,rfl,?_⟩
   refine(callsIn_wide.2 (hcl V.drew rfl).out).mono ?_
   rintro e w3 ⟨v,rfl,hown3,hb3⟩
   obtain⟨g,cap,rfl,hcy3,fn,tmps,assign,body,hy,hR⟩:=rest.out w3 v hown3 hb3
   refine hK _ _ ?_
   clear hK K
   refine wpAnyIn_ready (rs:= [7]) (by kernel_rfl) (by simp) ?_
   refine AllReadyIn.cons rfl (fun K hK=> ?_) AllReadyIn.nil
   go_simp
   refine⟨rfl,?_⟩
   refine hR.mono ?_
   rintro e W' ⟨b,rfl,hfin⟩
   refine hK _ _ ?_
   clear hK K
   refine wpAnyIn_take (i:=8) (v:= ?_) rfl rfl (by kernel_rfl) (by kernel_rfl) (by kernel_rfl) (fun _ _ _ h=>h) ⟨Or.inl ⟨by rfl,?_⟩,fun _=>rfl⟩ ?_
   rotate_left
   ·intro w
    go_simp
    try with_reducible rfl
   refine wpAnyIn_done (by kernel_rfl) ?_ _
   refine hKc _ _ ?_
   cases b
   ·gi_wp2
    exact hfin.out
   ·gi_wp2
    exact hfin.out
  ·go_simp
   refine hK _ _ ?_
   clear hK K
   refine wpAnyIn_take (i:=5) (v:= ?_) rfl rfl (by kernel_rfl) (by kernel_rfl) (by kernel_rfl) (fun _ _ _ h=>h) ⟨Or.inl ⟨by rfl,?_⟩,fun _=>rfl⟩ ?_
   rotate_left
   ·intro w
    go_simp
    try with_reducible rfl
   refine wpAnyIn_ready (rs:= [0,6]) (by kernel_rfl) (by simp) ?_
   refine AllReadyIn.cons rfl (fun K hK=> ?_) (AllReadyIn.cons rfl (fun K hK=> ?_) AllReadyIn.nil)
   ·go_simp
    refine hK _ _ ?_
    clear hK K
    refine wpAnyIn_ready (rs:= [6]) (by kernel_rfl) (by simp) ?_
    refine AllReadyIn.cons rfl (fun K hK=> ?_) AllReadyIn.nil
    go_simp
    refine⟨trivial,rfl,?_⟩
    refine(callsIn_wide.2 (hcl V.drew rfl).out).mono ?_
    rintro e w3 ⟨v,rfl,hown3,hb3⟩
    obtain⟨g,cap,rfl,hcy3,fn,tmps,assign,body,hy,hR⟩:=rest.out w3 v hown3 hb3
    refine hK _ _ ?_
    clear hK K
    refine wpAnyIn_ready (rs:= [7]) (by kernel_rfl) (by simp) ?_
    refine AllReadyIn.cons rfl (fun K hK=> ?_) AllReadyIn.nil
    go_simp
    refine⟨rfl,?_⟩
    refine hR.mono ?_
    rintro e W' ⟨b,rfl,hfin⟩
    refine hK _ _ ?_
    clear hK K
    refine wpAnyIn_take (i:=8) (v:= ?_) rfl rfl (by kernel_rfl) (by kernel_rfl) (by kernel_rfl) (fun _ _ _ h=>h) ⟨Or.inl ⟨by rfl,?_⟩,fun _=>rfl⟩ ?_
    rotate_left
    ·intro w
     go_simp
     try with_reducible rfl
    refine wpAnyIn_done (by kernel_rfl) ?_ _
    refine hKc _ _ ?_
    cases b
    ·gi_wp2
     exact hfin.out
    ·gi_wp2
     exact hfin.out
   ·go_simp
    refine⟨trivial,rfl,?_⟩
    refine(callsIn_wide.2 (hcl V.drew rfl).out).mono ?_
    rintro e w3 ⟨v,rfl,hown3,hb3⟩
    obtain⟨g,cap,rfl,hcy3,fn,tmps,assign,body,hy,hR⟩:=rest.out w3 v hown3 hb3
    refine hK _ _ ?_
    clear hK K
    refine wpAnyIn_ready (rs:= [0]) (by kernel_rfl) (by simp) ?_
    refine AllReadyIn.cons rfl (fun K hK=> ?_) AllReadyIn.nil
    go_simp
    refine hK _ _ ?_
    clear hK K
    refine wpAnyIn_ready (rs:= [7]) (by kernel_rfl) (by simp) ?_
    refine AllReadyIn.cons rfl (fun K hK=> ?_) AllReadyIn.nil
    go_simp
    refine⟨rfl,?_⟩
    refine hR.mono ?_
    rintro e W' ⟨b,rfl,hfin⟩
    refine hK _ _ ?_
    clear hK K
    refine wpAnyIn_take (i:=8) (v:= ?_) rfl rfl (by kernel_rfl) (by kernel_rfl) (by kernel_rfl) (fun _ _ _ h=>h) ⟨Or.inl ⟨by rfl,?_⟩,fun _=>rfl⟩ ?_
    rotate_left
    ·intro w
     go_simp
     try with_reducible rfl
    refine wpAnyIn_done (by kernel_rfl) ?_ _
    refine hKc _ _ ?_
    cases b
    ·gi_wp2
     exact hfin.out
    ·gi_wp2
     exact hfin.out
 case done=>
  rintro xs O' V ⟨hall,hsl,hge⟩ ⟨pre,O,h1,hj,hOO,hO5,_⟩ hD
  have hpl:pre.length=xs.length:=by simpa using congrArg List.length h1
  have hap:Hid (allParts s l pre):=by
   refine⟨?_,fun h=> ?_,fun h=>by rw [hpl];exact hge h⟩
   ·rw [h1,hpl]
    conv=>lhs;rw [hall]
    simp
   ·have:=hsl h
    rw [this]at hpl
    exact List.eq_nil_of_length_eq_zero hpl
  have hjD:J pre O (V.putObj w2.heap.size (.deferred none)):=hJ _ _ _ _ _ hj (putObj_grown V _ _) (fun r e=>by cases e;exact⟨by omega,fun h=>by have:=hO5 _ h;omega⟩)
  clear hall hsl hge h1 hpl
  go_wp2
  refine hR.out _ _ _ _ (by simp) ?_
  refine⟨by simp,.inl ⟨_,_,rfl,run_takeDeferred hD,?_⟩⟩
  exact⟨_,results_none rfl _ _ _,itEnd.all hap.out hjD⟩
 case stop=>
  rintro c' pre' O' V hsc ⟨rfl,pre,O,h1,hj,hOO,hO5⟩ hD
  have hpl:pre.length=pre'.length:=by simpa using congrArg List.length h1
  have hap:Hid (someParts s l pre):=by
   show pre.map PX.prj=_
   rw [h1,hpl]
   conv=>lhs;rw [show pre'=_ from hsc]
   simp
  have hjD:Jx pre O (V.putObj w2.heap.size (.deferred none)):=hJx _ _ _ _ _ hj (putObj_grown V _ _) (fun r e=>by cases e;exact⟨by omega,fun h=>by have:=hO5 _ h;omega⟩)
  clear h1 hpl hsc
  refine wpIn_wide.2 ?_
  go_wp2
  refine hR.out _ _ _ _ (by simp) ?_
  refine⟨by simp,.inl ⟨_,_,rfl,run_takeDeferred hD,?_⟩⟩
  exact⟨_,results_none rfl _ _ _,itEnd.part hap.out hjD⟩
end Go.Proofs.YtfcfbcjiijfjgaaGreatDoor.Wo
