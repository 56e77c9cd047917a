import Derived.Test.YtfcfbcjiijfjgaaGreatDoorPBO
set_option maxHeartbeats 8000000
set_option maxRecDepth 100000
namespace Go.Proofs.YtfcfbcjiijfjgaaGreatDoor.Me
open Go.RowKit Go.Shelf
attribute [local go_sem] Oper.semAt_some
def cntTo (B:Bks):Nat→Nat
 | 0=>0
 | k+1=>cntTo B k+(if(B k).isSome then 1 else 0)
theorem cntTo_le (B:Bks):∀k,cntTo B k≤k
 | 0=>Nat.le_refl _
 | k+1=>by
  have:=cntTo_le B k
  unfold cntTo
  split <;> omega
theorem cnt_cell {W:World} {g:Nat} {cs:List Value} {B:Bks} (hr:Row W g 33 cs) (hl:BL W cs B) (i:Nat) (hi:i < 4):W.cell? ⟨g,i*10,none⟩=some (.bool (B i).isSome):=by
 rw [hr.cell]
 cases hb:B i with
 | none=>exact hl.shut i hi hb
 | some f=>exact(hl.opn i hi f hb).1
section
variable {T:World→Prop} {Has:HasT} (H:MApi T Has)
variable {W0 V W W':World} {v:Value} {B B' B2 B3:Bks} {n n':Nat} {cs cs' ws xs zs:List Value} {M L:List Rw}
include H
theorem open_arg (h:PsL Has W0 v B n cs B L V) (x s c i st sz:Int) (no:Nat) (a b d f:Int) (hx:x=0) (hs:isB s 4=false)
  (HC:∀{W},In Has W0 V v (B) (n) cs cs (acl x s c i st sz no a b d f) (B) zeroBk [] L W→Calls Tryz.prog 17 #[v,.int .i64 s,.int .i64 63] W fun e W'=>e= .returned (.int .i64 2)∧In Has W0 V v (B) (n) cs cs (acl x s c i st sz no a b d f) (B) zeroBk [] L W'):
  Calls Tryz.prog 7 #[v,bkV cs,.agg (aca x s c i st sz no a b d f)] V (ActQ Has W0 v B n cs B L):=by
 obtain⟨W1,hW1⟩:=Nm (((V.alloc (.cells cs.toArray 33)).alloc (.cells (aca x s c i st sz no a b d f) 45)).alloc (.cells zba 33))
 have hS0:In Has W0 V v B n cs cs (acl x s c i st sz no a b d f) B zeroBk [] L W1:=by rw [hW1];exact In.start H h (acl x s c i st sz no a b d f)
 have q0:(x == 0)=true:=by rw [hx];rfl
 obtain⟨cs',hcs⟩:∃cs',cs'=cs:=⟨_,rfl⟩
 subst hcs
 have HCC:=Lh (HC hS0)
 have hsl:=Lh (fun w=>rslot_any s w)
 have eE:((2:Int) == (2:Int))=true:=by simp
 have HQ:Hid (∀(W:World),PsL Has W0 v (B) (n) cs' (B) L W→ActQ Has W0 v (B) (n) cs' (B) L (.returned (.tuple #[bkV cs',.bool true])) W):=Lh (fun _ hp=>⟨rfl,hp⟩)
 rw [hs]at hsl
 clear h hx HC hs
 go_enter Tryz.func7,Tryz.ntmps7
 go_wp2_with fail
 rw [←hW1]
 clear hW1
 refine HCC.out.mono ?_
 rintro e w2 ⟨rfl,hD⟩
 clear hS0 HCC
 go_wp2_with fail
 have HCT:=Lh (fun i (hi:i < 4)=>cnt_cell hD.row4 hD.ps.bl i hi)
 go_loopw [10,11] (fun s10 s11 wr=>∃k:Nat,k≤4∧s11= .int .i64 (k:Int)∧s10= .int .i64 (cntTo B k:Int)∧w2=wr) (fun _ s11 _=>4 - (_root_.Go.RowKit.intOf s11).toNat)
 case atStart=>exact⟨0,by omega,rfl,rfl,rfl⟩
 case round=>
  obtain⟨k,hk4,rfl,rfl,rfl⟩:=hrel
  by_cases hk:k < 4
  ·have j0:(0:Int)≤(k:Int):=by omega
   have j1:(k:Int) < 4:=by omega
   have j2:decide ((k:Int) < 4)=true:=decide_eq_true j1
   have j3:decide (k < 4)=true:=decide_eq_true hk
   have hcb:=HCT.out k hk
   have hst:cntTo B (k+1)=cntTo B k+(if(B k).isSome then 1 else 0):=rfl
   have hle:=cntTo_le B k
   obtain⟨m,hm⟩:=Nm (cntTo B k)
   rw [←hm]at hst hle ⊢
   cases hb:(B k).isSome
   ·rw [hb]at hcb hst
    have HS1:=Lh (show cntTo B (k+1)=m by rw [hst];rfl)
    clear hst hm hb
    go_wp2_with fail
    go_roundw
    case rel=>exact⟨k+1,by omega,by go_num,by rw [HS1.out],by simp⟩
    case measure=>simp [_root_.Go.RowKit.intOf];omega
   ·rw [hb]at hcb hst
    have HS1:=Lh (show cntTo B (k+1)=m+1 by rw [hst];rfl)
    have ew:IntKind.i64.wrap ((m:Int)+1)=(m:Int)+1:=wrapI _ (by omega) (by omega)
    clear hst hm hb
    go_wp2_with fail
    go_roundw
    case rel=>exact⟨k+1,by omega,by go_num,by rw [HS1.out];simp,by simp⟩
    case measure=>simp [_root_.Go.RowKit.intOf];omega
  ·obtain rfl:k=4:=by omega
   have j2:decide ((4:Int) < 4)=false:=by decide
   clear HCT
   go_wp2_with fail
   refine(hsl.out _).mono ?_
   rintro e wn ⟨rfl,rfl⟩
   go_wp2_with fail
   have hIq:=hD
   clear hD
   have HLEN:=Lh hIq.ps.bl.len
   have HSZ:=Lh (show(Tryz.prog.info? 33).map (·.size)=some cs'.length by rw [HLEN.out];exact bk_size)
   have HSZ2:=Lh (show(Tryz.prog.info? 33).map (·.size)=some cs'.toArray.size by rw [List.size_toArray,HLEN.out];exact bk_size)
   have HONE:=Lh (all_oneCell_toArray hIq.ps.bl.one)
   have HSP:Hid (∀(zs:List Value) (W:World),In Has W0 V v (B) (n) cs' cs' (acl x s c i st sz no a b d f) (B) zs [] L W→W.rangeAt V.heap.size 0 cs'):=Lh (fun _ _ hI=>row_range hI.row4)
   have hI0:=hIq.below H (show Below w2.heap.size w2 w2.drew from Br.drew)
   clear hIq
   refine wp_region_noPanic ?_
   refine wp_region_held_drew (S:=fun W=>W.rangeAt V.heap.size 0 cs') (by kernel_rfl) (HSP.out _ _ hI0) (fun hZ=> ?_)
   refine wpAnyH_take (i:=0) rfl (by kernel_rfl) (by kernel_rfl) (by kernel_rfl) (fun _ _ _ h=>h) (yieldsIf_load_mid (by kernel_rfl) 33 (.tmp 4) rfl (V.heap.size) 0 rfl cs' _ (fun W hW=>hW) Tryz.underlying33 rfl HSZ.out) hZ ?_
   try simp only [Act.put]
   refine tkH 1 hZ ?_
   try simp only [Act.put]
   refine rdH 2 fun K hK=> ?_
   go_simp
   refine(num_any _ _).mono ?_
   rintro e v1 ⟨rfl,rfl⟩
   have hI1:=hI0
   refine hK.out _ _ (HSP.out _ _ hI1) (fun hZ=> ?_)
   clear hK K
   try simp only [Act.put]
   refine tkH 3 hZ ?_
   try simp only [Act.put]
   refine rdH 4 fun K hK=> ?_
   refine step_store_mid rfl 33 _ _ rfl (V.heap.size+1+1) 0 cs'.toArray (by simp [Act.eval]) (by simp [Act.eval]) (row_there hI1.row6 (by rw [List.size_toArray,hI1.zlen,HLEN.out])) HSZ2.out HONE.out ?_
   have hI2:=hI1.six H cs' HLEN.out
   refine hK.out _ _ (HSP.out _ _ hI2) (fun hZ=> ?_)
   clear hK K
   try simp only [Act.put]
   refine rdH 5 fun K hK=> ?_
   go_simp
   refine hK.out _ _ (HSP.out _ _ hI2) (fun hZ=> ?_)
   clear hK K
   try simp only [Act.put]
   refine wpAnyH_done (by kernel_rfl) (NoPanic.normal ?_) _
   go_wp2_with fail
   exact bodyPost_ret (res_cell2 Tryz.results7 rfl (bk_load hI2.row6 HLEN.out)) rfl (HQ.out _ hI2.fin)
theorem open_mapped (h:PsL Has W0 v B n cs B L V) (x:Int) (s:Nat) (c i st sz:Int) (no:Nat) (a b d f:Int) (hx:x=0) (g:Byts) (hs4:s < 4) (hb:B s=some g)
  (HC:∀{W},In Has W0 V v (B) (n) cs cs (acl x s c i st sz no a b d f) (B) zeroBk [] L W→Calls Tryz.prog 17 #[v,.int .i64 s,.int .i64 63] W fun e W'=>e= .returned (.int .i64 180)∧In Has W0 V v (B) (n) cs cs (acl x s c i st sz no a b d f) (B) zeroBk [] L W'):
  Calls Tryz.prog 7 #[v,bkV cs,.agg (aca x s c i st sz no a b d f)] V (ActQ Has W0 v B n cs B L):=by
 obtain⟨W1,hW1⟩:=Nm (((V.alloc (.cells cs.toArray 33)).alloc (.cells (aca x s c i st sz no a b d f) 45)).alloc (.cells zba 33))
 have hS0:In Has W0 V v B n cs cs (acl x s c i st sz no a b d f) B zeroBk [] L W1:=by rw [hW1];exact In.start H h (acl x s c i st sz no a b d f)
 have q0:(x == 0)=true:=by rw [hx];rfl
 obtain⟨cs',hcs⟩:∃cs',cs'=cs:=⟨_,rfl⟩
 subst hcs
 have HCC:=Lh (HC hS0)
 have hsl:=Lh (fun w=>rslot_any s w)
 have eE:((180:Int) == (180:Int))=true:=by simp
 have HQ:Hid (∀(W:World),PsL Has W0 v (B) (n) cs' (B) L W→ActQ Has W0 v (B) (n) cs' (B) L (.returned (.tuple #[bkV cs',.bool true])) W):=Lh (fun _ hp=>⟨rfl,hp⟩)
 have HSH:=Lh (h.bl.opn s hs4 g hb).1
 have hsb:isB (s:Int) 4=true:=isB_yes (n:=4) hs4
 rw [hsb]at hsl
 have y0:(0:Int)≤(s:Int)∧(s:Int) < 4:=by omega
 obtain⟨y01,y02⟩:=y0
 have HS4:=Lh hs4
 clear h hx HC hsb hb hs4
 go_enter Tryz.func7,Tryz.ntmps7
 go_wp2_with fail
 rw [←hW1]
 clear hW1
 refine HCC.out.mono ?_
 rintro e w2 ⟨rfl,hD⟩
 clear hS0 HCC
 go_wp2_with fail
 have HCT:=Lh (fun i (hi:i < 4)=>cnt_cell hD.row4 hD.ps.bl i hi)
 go_loopw [10,11] (fun s10 s11 wr=>∃k:Nat,k≤4∧s11= .int .i64 (k:Int)∧s10= .int .i64 (cntTo B k:Int)∧w2=wr) (fun _ s11 _=>4 - (_root_.Go.RowKit.intOf s11).toNat)
 case atStart=>exact⟨0,by omega,rfl,rfl,rfl⟩
 case round=>
  obtain⟨k,hk4,rfl,rfl,rfl⟩:=hrel
  by_cases hk:k < 4
  ·have j0:(0:Int)≤(k:Int):=by omega
   have j1:(k:Int) < 4:=by omega
   have j2:decide ((k:Int) < 4)=true:=decide_eq_true j1
   have j3:decide (k < 4)=true:=decide_eq_true hk
   have hcb:=HCT.out k hk
   have hst:cntTo B (k+1)=cntTo B k+(if(B k).isSome then 1 else 0):=rfl
   have hle:=cntTo_le B k
   obtain⟨m,hm⟩:=Nm (cntTo B k)
   rw [←hm]at hst hle ⊢
   cases hb:(B k).isSome
   ·rw [hb]at hcb hst
    have HS1:=Lh (show cntTo B (k+1)=m by rw [hst];rfl)
    clear hst hm hb
    go_wp2_with fail
    go_roundw
    case rel=>exact⟨k+1,by omega,by go_num,by rw [HS1.out],by simp⟩
    case measure=>simp [_root_.Go.RowKit.intOf];omega
   ·rw [hb]at hcb hst
    have HS1:=Lh (show cntTo B (k+1)=m+1 by rw [hst];rfl)
    have ew:IntKind.i64.wrap ((m:Int)+1)=(m:Int)+1:=wrapI _ (by omega) (by omega)
    clear hst hm hb
    go_wp2_with fail
    go_roundw
    case rel=>exact⟨k+1,by omega,by go_num,by rw [HS1.out];simp,by simp⟩
    case measure=>simp [_root_.Go.RowKit.intOf];omega
  ·obtain rfl:k=4:=by omega
   have j2:decide ((4:Int) < 4)=false:=by decide
   clear HCT
   have c31:w2.cell? ⟨V.heap.size,s*10,none⟩=some (.bool true):=(hD.row4.cell _).trans HSH.out
   go_wp2_with fail
   refine(hsl.out _).mono ?_
   rintro e wn ⟨rfl,rfl⟩
   go_wp2_with fail
   clear c31
   have hIq:=hD
   clear hD
   have HLEN:=Lh hIq.ps.bl.len
   have HSZ:=Lh (show(Tryz.prog.info? 33).map (·.size)=some cs'.length by rw [HLEN.out];exact bk_size)
   have HSZ2:=Lh (show(Tryz.prog.info? 33).map (·.size)=some cs'.toArray.size by rw [List.size_toArray,HLEN.out];exact bk_size)
   have HONE:=Lh (all_oneCell_toArray hIq.ps.bl.one)
   have HSP:Hid (∀(zs:List Value) (W:World),In Has W0 V v (B) (n) cs' cs' (acl x s c i st sz no a b d f) (B) zs [] L W→W.rangeAt V.heap.size 0 cs'):=Lh (fun _ _ hI=>row_range hI.row4)
   have hI0:=hIq.below H (show Below w2.heap.size w2 w2.drew from Br.drew)
   clear hIq
   refine wp_region_noPanic ?_
   refine wp_region_held_drew (S:=fun W=>W.rangeAt V.heap.size 0 cs') (by kernel_rfl) (HSP.out _ _ hI0) (fun hZ=> ?_)
   refine wpAnyH_take (i:=0) rfl (by kernel_rfl) (by kernel_rfl) (by kernel_rfl) (fun _ _ _ h=>h) (yieldsIf_load_mid (by kernel_rfl) 33 (.tmp 4) rfl (V.heap.size) 0 rfl cs' _ (fun W hW=>hW) Tryz.underlying33 rfl HSZ.out) hZ ?_
   try simp only [Act.put]
   refine tkH 1 hZ ?_
   try simp only [Act.put]
   refine rdH 2 fun K hK=> ?_
   go_simp
   refine(num_any _ _).mono ?_
   rintro e v1 ⟨rfl,rfl⟩
   have hI1:=hI0
   refine hK.out _ _ (HSP.out _ _ hI1) (fun hZ=> ?_)
   clear hK K
   try simp only [Act.put]
   refine tkH 3 hZ ?_
   try simp only [Act.put]
   refine rdH 4 fun K hK=> ?_
   refine step_store_mid rfl 33 _ _ rfl (V.heap.size+1+1) 0 cs'.toArray (by simp [Act.eval]) (by simp [Act.eval]) (row_there hI1.row6 (by rw [List.size_toArray,hI1.zlen,HLEN.out])) HSZ2.out HONE.out ?_
   have hI2:=hI1.six H cs' HLEN.out
   refine hK.out _ _ (HSP.out _ _ hI2) (fun hZ=> ?_)
   clear hK K
   try simp only [Act.put]
   refine rdH 5 fun K hK=> ?_
   go_simp
   refine hK.out _ _ (HSP.out _ _ hI2) (fun hZ=> ?_)
   clear hK K
   try simp only [Act.put]
   refine wpAnyH_done (by kernel_rfl) (NoPanic.normal ?_) _
   go_wp2_with fail
   exact bodyPost_ret (res_cell2 Tryz.results7 rfl (bk_load hI2.row6 HLEN.out)) rfl (HQ.out _ hI2.fin)
theorem open_left (h:PsL Has W0 v B n cs B L V) (x:Int) (s:Nat) (c i st sz:Int) (no:Nat) (a b d f:Int) (hx:x=0) (hs4:s < 4) (hb:B s=none) (hc:cntTo B 4=2)
  (HC:∀{W},In Has W0 V v (B) (n) cs cs (acl x s c i st sz no a b d f) (B) zeroBk [] L W→Calls Tryz.prog 17 #[v,.int .i64 s,.int .i64 63] W fun e W'=>e= .returned (.int .i64 171)∧In Has W0 V v (B) (n) cs cs (acl x s c i st sz no a b d f) (B) zeroBk [] L W'):
  Calls Tryz.prog 7 #[v,bkV cs,.agg (aca x s c i st sz no a b d f)] V (ActQ Has W0 v B n cs B L):=by
 obtain⟨W1,hW1⟩:=Nm (((V.alloc (.cells cs.toArray 33)).alloc (.cells (aca x s c i st sz no a b d f) 45)).alloc (.cells zba 33))
 have hS0:In Has W0 V v B n cs cs (acl x s c i st sz no a b d f) B zeroBk [] L W1:=by rw [hW1];exact In.start H h (acl x s c i st sz no a b d f)
 have q0:(x == 0)=true:=by rw [hx];rfl
 obtain⟨cs',hcs⟩:∃cs',cs'=cs:=⟨_,rfl⟩
 subst hcs
 have HCC:=Lh (HC hS0)
 have hsl:=Lh (fun w=>rslot_any s w)
 have eE:((171:Int) == (171:Int))=true:=by simp
 have HQ:Hid (∀(W:World),PsL Has W0 v (B) (n) cs' (B) L W→ActQ Has W0 v (B) (n) cs' (B) L (.returned (.tuple #[bkV cs',.bool true])) W):=Lh (fun _ hp=>⟨rfl,hp⟩)
 have HSH:=Lh (h.bl.shut s hs4 hb)
 have HC2:=Lh hc
 have hsb:isB (s:Int) 4=true:=isB_yes (n:=4) hs4
 rw [hsb]at hsl
 have y0:(0:Int)≤(s:Int)∧(s:Int) < 4:=by omega
 obtain⟨y01,y02⟩:=y0
 have HS4:=Lh hs4
 clear h hx HC hsb hb hs4 hc
 go_enter Tryz.func7,Tryz.ntmps7
 go_wp2_with fail
 rw [←hW1]
 clear hW1
 refine HCC.out.mono ?_
 rintro e w2 ⟨rfl,hD⟩
 clear hS0 HCC
 go_wp2_with fail
 have HCT:=Lh (fun i (hi:i < 4)=>cnt_cell hD.row4 hD.ps.bl i hi)
 go_loopw [10,11] (fun s10 s11 wr=>∃k:Nat,k≤4∧s11= .int .i64 (k:Int)∧s10= .int .i64 (cntTo B k:Int)∧w2=wr) (fun _ s11 _=>4 - (_root_.Go.RowKit.intOf s11).toNat)
 case atStart=>exact⟨0,by omega,rfl,rfl,rfl⟩
 case round=>
  obtain⟨k,hk4,rfl,rfl,rfl⟩:=hrel
  by_cases hk:k < 4
  ·have j0:(0:Int)≤(k:Int):=by omega
   have j1:(k:Int) < 4:=by omega
   have j2:decide ((k:Int) < 4)=true:=decide_eq_true j1
   have j3:decide (k < 4)=true:=decide_eq_true hk
   have hcb:=HCT.out k hk
   have hst:cntTo B (k+1)=cntTo B k+(if(B k).isSome then 1 else 0):=rfl
   have hle:=cntTo_le B k
   obtain⟨m,hm⟩:=Nm (cntTo B k)
   rw [←hm]at hst hle ⊢
   cases hb:(B k).isSome
   ·rw [hb]at hcb hst
    have HS1:=Lh (show cntTo B (k+1)=m by rw [hst];rfl)
    clear hst hm hb
    go_wp2_with fail
    go_roundw
    case rel=>exact⟨k+1,by omega,by go_num,by rw [HS1.out],by simp⟩
    case measure=>simp [_root_.Go.RowKit.intOf];omega
   ·rw [hb]at hcb hst
    have HS1:=Lh (show cntTo B (k+1)=m+1 by rw [hst];rfl)
    have ew:IntKind.i64.wrap ((m:Int)+1)=(m:Int)+1:=wrapI _ (by omega) (by omega)
    clear hst hm hb
    go_wp2_with fail
    go_roundw
    case rel=>exact⟨k+1,by omega,by go_num,by rw [HS1.out];simp,by simp⟩
    case measure=>simp [_root_.Go.RowKit.intOf];omega
  ·obtain rfl:k=4:=by omega
   have j2:decide ((4:Int) < 4)=false:=by decide
   clear HCT
   have c31:w2.cell? ⟨V.heap.size,s*10,none⟩=some (.bool false):=(hD.row4.cell _).trans HSH.out
   have e2:((cntTo B 4:Int) == 2)=true:=by rw [HC2.out];rfl
   obtain⟨m,hm⟩:=Nm (cntTo B 4)
   rw [←hm]at e2 ⊢
   clear hm
   go_wp2_with fail
   refine(hsl.out _).mono ?_
   rintro e wn ⟨rfl,rfl⟩
   go_wp2_with fail
   clear c31
   have hIq:=hD
   clear hD
   have HLEN:=Lh hIq.ps.bl.len
   have HSZ:=Lh (show(Tryz.prog.info? 33).map (·.size)=some cs'.length by rw [HLEN.out];exact bk_size)
   have HSZ2:=Lh (show(Tryz.prog.info? 33).map (·.size)=some cs'.toArray.size by rw [List.size_toArray,HLEN.out];exact bk_size)
   have HONE:=Lh (all_oneCell_toArray hIq.ps.bl.one)
   have HSP:Hid (∀(zs:List Value) (W:World),In Has W0 V v (B) (n) cs' cs' (acl x s c i st sz no a b d f) (B) zs [] L W→W.rangeAt V.heap.size 0 cs'):=Lh (fun _ _ hI=>row_range hI.row4)
   have hI0:=hIq.below H (show Below w2.heap.size w2 w2.drew from Br.drew)
   clear hIq
   refine wp_region_noPanic ?_
   refine wp_region_held_drew (S:=fun W=>W.rangeAt V.heap.size 0 cs') (by kernel_rfl) (HSP.out _ _ hI0) (fun hZ=> ?_)
   refine wpAnyH_take (i:=0) rfl (by kernel_rfl) (by kernel_rfl) (by kernel_rfl) (fun _ _ _ h=>h) (yieldsIf_load_mid (by kernel_rfl) 33 (.tmp 4) rfl (V.heap.size) 0 rfl cs' _ (fun W hW=>hW) Tryz.underlying33 rfl HSZ.out) hZ ?_
   try simp only [Act.put]
   refine tkH 1 hZ ?_
   try simp only [Act.put]
   refine rdH 2 fun K hK=> ?_
   go_simp
   refine(num_any _ _).mono ?_
   rintro e v1 ⟨rfl,rfl⟩
   have hI1:=hI0
   refine hK.out _ _ (HSP.out _ _ hI1) (fun hZ=> ?_)
   clear hK K
   try simp only [Act.put]
   refine tkH 3 hZ ?_
   try simp only [Act.put]
   refine rdH 4 fun K hK=> ?_
   refine step_store_mid rfl 33 _ _ rfl (V.heap.size+1+1) 0 cs'.toArray (by simp [Act.eval]) (by simp [Act.eval]) (row_there hI1.row6 (by rw [List.size_toArray,hI1.zlen,HLEN.out])) HSZ2.out HONE.out ?_
   have hI2:=hI1.six H cs' HLEN.out
   refine hK.out _ _ (HSP.out _ _ hI2) (fun hZ=> ?_)
   clear hK K
   try simp only [Act.put]
   refine rdH 5 fun K hK=> ?_
   go_simp
   refine hK.out _ _ (HSP.out _ _ hI2) (fun hZ=> ?_)
   clear hK K
   try simp only [Act.put]
   refine wpAnyH_done (by kernel_rfl) (NoPanic.normal ?_) _
   go_wp2_with fail
   exact bodyPost_ret (res_cell2 Tryz.results7 rfl (bk_load hI2.row6 HLEN.out)) rfl (HQ.out _ hI2.fin)
theorem open_done (h:PsL Has W0 v B n cs B L V) (x:Int) (s:Nat) (c i st sz:Int) (no:Nat) (a b d f:Int) (hx:x=0) (hs4:s < 4) (hb:B s=none) (hc:cntTo B 4≠2)
  (HC:∀{W},In Has W0 V v (B) (n) cs cs (acl x s c i st sz no a b d f) (B) zeroBk [] L W→Calls Tryz.prog 17 #[v,.int .i64 s,.int .i64 63] W fun e W'=>e= .returned (.int .i64 0)∧In Has W0 V v (upd B s (some zeroB)) (n - 48) cs cs (acl x s c i st sz no a b d f) (B) zeroBk [] L W'):
  Calls Tryz.prog 7 #[v,bkV cs,.agg (aca x s c i st sz no a b d f)] V (fun e V'=>∃cs',ActQ Has W0 v (upd B s (some zeroB)) (n - 48) cs' (upd B s (some zeroB)) L e V'):=by
 obtain⟨W1,hW1⟩:=Nm (((V.alloc (.cells cs.toArray 33)).alloc (.cells (aca x s c i st sz no a b d f) 45)).alloc (.cells zba 33))
 have hS0:In Has W0 V v B n cs cs (acl x s c i st sz no a b d f) B zeroBk [] L W1:=by rw [hW1];exact In.start H h (acl x s c i st sz no a b d f)
 have q0:(x == 0)=true:=by rw [hx];rfl
 have HCC:=Lh (HC hS0)
 have hsl:=Lh (fun w=>rslot_any s w)
 have eE:((0:Int) == (0:Int))=true:=by simp
 have HQQ:Hid (∀(cs':List Value) (W:World),PsL Has W0 v (upd B s (some zeroB)) (n - 48) cs' (upd B s (some zeroB)) L W→∃cs2,ActQ Has W0 v (upd B s (some zeroB)) (n - 48) cs2 (upd B s (some zeroB)) L (.returned (.tuple #[bkV cs',.bool true])) W):=Lh (fun _ _ hp=>⟨_,rfl,hp⟩)
 have HSH:=Lh (h.bl.shut s hs4 hb)
 have HC2:=Lh hc
 have hsb:isB (s:Int) 4=true:=isB_yes (n:=4) hs4
 rw [hsb]at hsl
 have y0:(0:Int)≤(s:Int)∧(s:Int) < 4:=by omega
 obtain⟨y01,y02⟩:=y0
 have HS4:=Lh hs4
 have HST:Hid (∀(W W':World) (bs:List Value),In Has W0 V v (upd B s (some zeroB)) (n - 48) cs cs (acl x s c i st sz no a b d f) (B) zeroBk [] L W→Fr W.heap.size W' bs 8→(∃G cap,bs[9]?=some (.slice G 384 cap)∧Sees W' W'.heap.size G (greL zeroB))→Below W.heap.size W W'→∃cs',In Has W0 V v (upd B s (some zeroB)) (n - 48) cs' cs' (acl x s c i st sz no a b d f) (upd B s (some zeroB)) zeroBk [] L (W'.setCells V.heap.size (s*10) (bs.toArray).toList)∧W'.there V.heap.size (s*10) (bs.toArray).size∧(Tryz.prog.info? 31).map (·.size)=some bs.toArray.size∧bs.toArray.all (·.oneCell')=true):=Lh (fun W W' bs hI hf hg hb2=>by
  have hl:=hI.ps.bl.len
  have h2:=hI.new H hb2 (NewL.putAt (o:=s*10) hf.new (by rw [hl,hf.len];omega)) (hI.ps.bl.fresh hb2 hs4 hf hg)
  refine⟨_,h2.four H (s*10) bs,fun j hj=>⟨by
   rw [h2.row4.cell,List.getElem?_eq_getElem (by rw [hl];have hj':j < 10:=(by rw [List.size_toArray,hf.len]at hj;exact hj);omega)];rfl,h2.row4.frozen _⟩,by rw [List.size_toArray,hf.len];exact bo_size,all_oneCell_toArray hf.one⟩)
 clear h hx HC hsb hb hs4 hc
 go_enter Tryz.func7,Tryz.ntmps7
 go_wp2_with fail
 rw [←hW1]
 clear hW1
 refine HCC.out.mono ?_
 rintro e w2 ⟨rfl,hD⟩
 clear hS0 HCC
 go_wp2_with fail
 have HCT:=Lh (fun i (hi:i < 4)=>cnt_cell hD.row4 hD.ps.bl i hi)
 go_loopw [10,11] (fun s10 s11 wr=>∃k:Nat,k≤4∧s11= .int .i64 (k:Int)∧s10= .int .i64 (cntTo B k:Int)∧w2=wr) (fun _ s11 _=>4 - (_root_.Go.RowKit.intOf s11).toNat)
 case atStart=>exact⟨0,by omega,rfl,rfl,rfl⟩
 case round=>
  obtain⟨k,hk4,rfl,rfl,rfl⟩:=hrel
  by_cases hk:k < 4
  ·have j0:(0:Int)≤(k:Int):=by omega
   have j1:(k:Int) < 4:=by omega
   have j2:decide ((k:Int) < 4)=true:=decide_eq_true j1
   have j3:decide (k < 4)=true:=decide_eq_true hk
   have hcb:=HCT.out k hk
   have hst:cntTo B (k+1)=cntTo B k+(if(B k).isSome then 1 else 0):=rfl
   have hle:=cntTo_le B k
   obtain⟨m,hm⟩:=Nm (cntTo B k)
   rw [←hm]at hst hle ⊢
   cases hb:(B k).isSome
   ·rw [hb]at hcb hst
    have HS1:=Lh (show cntTo B (k+1)=m by rw [hst];rfl)
    clear hst hm hb
    go_wp2_with fail
    go_roundw
    case rel=>exact⟨k+1,by omega,by go_num,by rw [HS1.out],by simp⟩
    case measure=>simp [_root_.Go.RowKit.intOf];omega
   ·rw [hb]at hcb hst
    have HS1:=Lh (show cntTo B (k+1)=m+1 by rw [hst];rfl)
    have ew:IntKind.i64.wrap ((m:Int)+1)=(m:Int)+1:=wrapI _ (by omega) (by omega)
    clear hst hm hb
    go_wp2_with fail
    go_roundw
    case rel=>exact⟨k+1,by omega,by go_num,by rw [HS1.out];simp,by simp⟩
    case measure=>simp [_root_.Go.RowKit.intOf];omega
  ·obtain rfl:k=4:=by omega
   have j2:decide ((4:Int) < 4)=false:=by decide
   clear HCT
   have c31:w2.cell? ⟨V.heap.size,s*10,none⟩=some (.bool false):=(hD.row4.cell _).trans HSH.out
   have e2:((cntTo B 4:Int) == 2)=false:=by rw [beq_eq_false_iff_ne];have:=HC2.out;omega
   obtain⟨m,hm⟩:=Nm (cntTo B 4)
   rw [←hm]at e2 ⊢
   clear hm
   have HD9:=Lh hD
   clear hD
   go_wp2_with fail
   refine(hsl.out _).mono ?_
   rintro e wn ⟨rfl,rfl⟩
   go_wp2_with fail
   clear c31
   refine(fresh_any _).mono ?_
   rintro e w5 ⟨bs,rfl,hf,hg,hb2⟩
   obtain⟨cs',g1,g2,g3,g4⟩:=HST.out _ _ _ HD9.out hf hg hb2
   have G1:=Lh g1
   have G2:=Lh g2
   have G3:=Lh g3
   have G4:=Lh g4
   have HQ:=Lh (fun W=>HQQ.out cs' W)
   clear g1 g2 g3 g4 hf hg hb2 HST HD9
   go_wp2_with (refine wpList_store_mid rfl 31 (.tmp 71) (.tmp 70) rfl V.heap.size (s*10) bs.toArray rfl rfl G2.out G3.out G4.out ?_)
   obtain⟨W3,hW3⟩:=Nm (w5.setCells V.heap.size (s*10) (bs.toArray).toList)
   have hIq:In Has W0 V v (upd B s (some zeroB)) (n - 48) cs' cs' (acl x s c i st sz no a b d f) (upd B s (some zeroB)) zeroBk [] L W3:=by rw [hW3];exact G1.out
   rw [←hW3]
   clear hW3 G1 G2 G3 G4
   have HLEN:=Lh hIq.ps.bl.len
   have HSZ:=Lh (show(Tryz.prog.info? 33).map (·.size)=some cs'.length by rw [HLEN.out];exact bk_size)
   have HSZ2:=Lh (show(Tryz.prog.info? 33).map (·.size)=some cs'.toArray.size by rw [List.size_toArray,HLEN.out];exact bk_size)
   have HONE:=Lh (all_oneCell_toArray hIq.ps.bl.one)
   have HSP:Hid (∀(zs:List Value) (W:World),In Has W0 V v (upd B s (some zeroB)) (n - 48) cs' cs' (acl x s c i st sz no a b d f) (upd B s (some zeroB)) zs [] L W→W.rangeAt V.heap.size 0 cs'):=Lh (fun _ _ hI=>row_range hI.row4)
   have hI0:=hIq.below H (show Below W3.heap.size W3 W3.drew from Br.drew)
   clear hIq
   refine wp_region_noPanic ?_
   refine wp_region_held_drew (S:=fun W=>W.rangeAt V.heap.size 0 cs') (by kernel_rfl) (HSP.out _ _ hI0) (fun hZ=> ?_)
   refine wpAnyH_take (i:=0) rfl (by kernel_rfl) (by kernel_rfl) (by kernel_rfl) (fun _ _ _ h=>h) (yieldsIf_load_mid (by kernel_rfl) 33 (.tmp 4) rfl (V.heap.size) 0 rfl cs' _ (fun W hW=>hW) Tryz.underlying33 rfl HSZ.out) hZ ?_
   try simp only [Act.put]
   refine tkH 1 hZ ?_
   try simp only [Act.put]
   refine rdH 2 fun K hK=> ?_
   go_simp
   refine(num_any _ _).mono ?_
   rintro e v1 ⟨rfl,rfl⟩
   have hI1:=hI0
   refine hK.out _ _ (HSP.out _ _ hI1) (fun hZ=> ?_)
   clear hK K
   try simp only [Act.put]
   refine tkH 3 hZ ?_
   try simp only [Act.put]
   refine rdH 4 fun K hK=> ?_
   refine step_store_mid rfl 33 _ _ rfl (V.heap.size+1+1) 0 cs'.toArray (by simp [Act.eval]) (by simp [Act.eval]) (row_there hI1.row6 (by rw [List.size_toArray,hI1.zlen,HLEN.out])) HSZ2.out HONE.out ?_
   have hI2:=hI1.six H cs' HLEN.out
   refine hK.out _ _ (HSP.out _ _ hI2) (fun hZ=> ?_)
   clear hK K
   try simp only [Act.put]
   refine rdH 5 fun K hK=> ?_
   go_simp
   refine hK.out _ _ (HSP.out _ _ hI2) (fun hZ=> ?_)
   clear hK K
   try simp only [Act.put]
   refine wpAnyH_done (by kernel_rfl) (NoPanic.normal ?_) _
   go_wp2_with fail
   exact bodyPost_ret (res_cell2 Tryz.results7 rfl (bk_load hI2.row6 HLEN.out)) rfl (HQ.out _ hI2.fin)
end
def okB (B:Bks) (n:Nat):Prop:=cntTo B 4≤2∧n+48*cntTo B 4=100
theorem cntTo_same {B B':Bks} (h:∀k,(B' k).isSome=(B k).isSome):∀k,cntTo B' k=cntTo B k
 | 0=>rfl
 | k+1=>by rw [cntTo,cntTo,cntTo_same h k,h]
theorem cntTo_off {B B':Bks} {s:Nat} (h:∀k,k≠s→(B' k).isSome=(B k).isSome):∀k,k≤s→cntTo B' k=cntTo B k
 | 0,_=>rfl
 | k+1,hk=>by rw [cntTo,cntTo,cntTo_off h k (by omega),h k (by omega)]
theorem cntTo_on {B B':Bks} {s:Nat} (h:∀k,k≠s→(B' k).isSome=(B k).isSome) (h1:(B' s).isSome=true) (h0:(B s).isSome=false):∀k,s < k→cntTo B' k=cntTo B k+1
 | 0,hk=>absurd hk (Nat.not_lt_zero _)
 | k+1,hk=>by
  rw [cntTo,cntTo]
  by_cases e:k=s
  ·subst e
   rw [cntTo_off h k Lr,h1,h0]
   rfl
  ·rw [cntTo_on h h1 h0 k (by omega),h k e]
   omega
theorem upd_off (B:Bks) (s:Nat) (o:Option Byts) (k:Nat) (h:k≠s):(upd B s o k).isSome=(B k).isSome:=by rw [upd_other _ _ _ _ h]
theorem okB_open {B:Bks} {n s:Nat} (h:okB B n) (hs:s < 4) (hb:B s=none) (hc:cntTo B 4≠2) (f:Byts):okB (upd B s (some f)) (n - 48):=by
 have h1:=cntTo_on (B:=B) (B':=upd B s (some f)) (s:=s) (upd_off B s _) (by rw [upd_same];rfl) (by rw [hb];rfl) 4 hs
 obtain⟨a1,a2⟩:=h
 exact⟨by omega,by omega⟩
theorem okB_close {B:Bks} {n s:Nat} (h:okB B n) (hs:s < 4) {f:Byts} (hb:B s=some f):okB (upd B s none) (n+48):=by
 have h1:=cntTo_on (B:=upd B s none) (B':=B) (s:=s) (fun k hk=>(upd_off B s _ k hk).symm) (by rw [hb];rfl) (by rw [upd_same];rfl) 4 hs
 obtain⟨a1,a2⟩:=h
 exact⟨by omega,by omega⟩
theorem okB_same {B B':Bks} {n:Nat} (h:okB B n) (hs:∀k,(B' k).isSome=(B k).isSome):okB B' n:=by
 unfold okB
 rw [cntTo_same hs]
 exact h
section
variable {T:World→Prop} {Has:HasT} (H:MApi T Has)
variable {W0 V W W':World} {v:Value} {B B' B2 B3:Bks} {n n':Nat} {cs cs' ws xs zs:List Value} {M L:List Rw}
def ActP (Has:HasT) (W0:World) (v:Value) (L:List Rw) (e:Ending) (V':World):Prop:=∃cs' B' n',ActQ Has W0 v B' n' cs' B' L e V'∧okB B' n'
include H
theorem act_open (h:PsL Has W0 v B n cs B L V) (hT:T W0) (ho:okB B n) (x s c i st sz:Int) (no:Nat) (a b d f:Int) (hx:x=0):
  Calls Tryz.prog 7 #[v,bkV cs,.agg (aca x s c i st sz no a b d f)] V (ActP Has W0 v L):=by
 cases hs:isB s 4
 ·have hE:openA B n s=2:=by unfold openA;rw [if_pos hs]
  refine(open_arg H h x s c i st sz no a b d f hx hs (fun {W} hI=> ?_)).mono fun e V' hq=>⟨_,_,_,hq,ho⟩
  have:=hI.call (P:=fun e=>e= .returned (.int .i64 (openA B n s))) (fun F hF=>H.openNo s (hI.ps.t H hT) hF (by rw [hE];decide))
  rw [hE]at this
  exact this
 ·obtain⟨s',rfl,hs4⟩:=isB_nat (b:=4) hs
  cases hb:B s' with
  | some g=>
   have hE:openA B n (s':Int)=180:=by unfold openA;rw [if_neg (by rw [hs];decide),Int.toNat_natCast,hb];rfl
   refine(open_mapped H h x s' c i st sz no a b d f hx g hs4 hb (fun {W} hI=> ?_)).mono fun e V' hq=>⟨_,_,_,hq,ho⟩
   have:=hI.call (P:=fun e=>e= .returned (.int .i64 (openA B n (s':Int)))) (fun F hF=>H.openNo (s':Int) (hI.ps.t H hT) hF (by rw [hE];decide))
   rw [hE]at this
   exact this
  | none=>
   have h1:openA B n (s':Int)=if n < 48 then 171 else 0:=by unfold openA;rw [if_neg (by rw [hs];decide),Int.toNat_natCast,hb,if_neg (by simp)]
   by_cases hc:cntTo B 4=2
   ·have hE:openA B n (s':Int)=171:=by
     have:=ho.2
     rw [h1,if_pos (by omega)]
    refine(open_left H h x s' c i st sz no a b d f hx hs4 hb hc (fun {W} hI=> ?_)).mono fun e V' hq=>⟨_,_,_,hq,ho⟩
    have:=hI.call (P:=fun e=>e= .returned (.int .i64 (openA B n (s':Int)))) (fun F hF=>H.openNo (s':Int) (hI.ps.t H hT) hF (by rw [hE];decide))
    rw [hE]at this
    exact this
   ·have hE:openA B n (s':Int)=0:=by
     have:=ho.2
     have:=ho.1
     rw [h1,if_neg (by omega)]
    refine(open_done H h x s' c i st sz no a b d f hx hs4 hb hc (fun {W} hI=> ?_)).mono fun e V' ⟨cs',hq⟩=>⟨_,_,_,hq,okB_open ho hs4 hb hc _⟩
    exact hI.call (P:=fun e=>e= .returned (.int .i64 0)) (fun F hF=>H.openYes s' (hI.ps.t H hT) hF hE)
theorem act_close (h:PsL Has W0 v B n cs B L V) (hT:T W0) (ho:okB B n) (x s c i st sz:Int) (no:Nat) (a b d f:Int) (hx:x=1):
  Calls Tryz.prog 7 #[v,bkV cs,.agg (aca x s c i st sz no a b d f)] V (ActP Has W0 v L):=by
 cases hs:isB s 4
 ·have hE:closeA B s=2:=by unfold closeA;rw [if_pos hs]
  refine(close_arg H h x s c i st sz no a b d f hx hs (fun {W} hI=> ?_)).mono fun e V' hq=>⟨_,_,_,hq,ho⟩
  have:=hI.call (P:=fun e=>e= .returned (.int .i64 (closeA B s))) (fun F hF=>H.closeNo s (hI.ps.t H hT) hF (by rw [hE];decide))
  rw [hE]at this
  exact this
 ·obtain⟨s',rfl,hs4⟩:=isB_nat (b:=4) hs
  cases hb:B s' with
  | none=>
   have hE:closeA B (s':Int)=5:=by unfold closeA openE;rw [if_neg (by rw [hs];decide),Int.toNat_natCast,hb];rfl
   refine(close_none H h x s' c i st sz no a b d f hx hs4 hb (fun {W} hI=> ?_)).mono fun e V' hq=>⟨_,_,_,hq,ho⟩
   have:=hI.call (P:=fun e=>e= .returned (.int .i64 (closeA B (s':Int)))) (fun F hF=>H.closeNo (s':Int) (hI.ps.t H hT) hF (by rw [hE];decide))
   rw [hE]at this
   exact this
  | some g=>
   have hE:closeA B (s':Int)=0:=by unfold closeA openE;rw [if_neg (by rw [hs];decide),Int.toNat_natCast,hb];rfl
   refine(close_done H h x s' c i st sz no a b d f hx g hs4 hb (fun {W} hI=> ?_)).mono fun e V' hq=>⟨_,_,_,hq,okB_close ho hs4 hb⟩
   exact hI.call (P:=fun e=>e= .returned (.int .i64 0)) (fun F hF=>H.closeYes s' (hI.ps.t H hT) hF hE)
theorem act_all (h:PsL Has W0 v B n cs B L V) (hT:T W0) (ho:okB B n) (x s c i st sz:Int) (no:Nat) (a b d f:Int) (hno:(no:Int) < 4294967296):
  Calls Tryz.prog 7 #[v,bkV cs,.agg (aca x s c i st sz no a b d f)] V (ActP Has W0 v L):=by
 by_cases h0:x=0
 ·exact act_open H h hT ho x s c i st sz no a b d f h0
 ·by_cases h1:x=1
  ·exact act_close H h hT ho x s c i st sz no a b d f h1
  ·by_cases h2:x=2
   ·exact(act_put H h hT x s c i st sz no a b d f h2 hno).mono fun e V' ⟨cs',B',hq,hs⟩=>⟨_,_,_,hq,okB_same ho hs⟩
   ·by_cases h3:x=3
    ·exact(act_get H h hT x s c i st sz no a b d f h3).mono fun e V' hq=>⟨_,_,_,hq,ho⟩
    ·by_cases h4:x=4
     ·exact(act_gput H h hT x s c i st sz no a b d f h4).mono fun e V' ⟨cs',B',hq,hs⟩=>⟨_,_,_,hq,okB_same ho hs⟩
     ·by_cases h5:x=5
      ·exact(act_gget H h hT x s c i st sz no a b d f h5).mono fun e V' hq=>⟨_,_,_,hq,ho⟩
      ·exact(act_else H h hT x s c i st sz no a b d f (by omega)).mono fun e V' hq=>⟨_,_,_,hq,ho⟩
end
structure Ac15 where
 x:Int
 s:Int
 c:Int
 i:Int
 st:Int
 sz:Int
 no:Nat
 a:Int
 b:Int
 d:Int
 f:Int
def Ac15.cells (y:Ac15):List Value:= [.int .i64 y.x,.int .i64 y.s,.int .i64 y.c,.int .i64 y.i,.int .i64 y.st,.int .i64 y.sz,.int .u32 (y.no:Int),.int .i64 y.a,.int .i64 y.b,.int .i64 y.d,.int .i64 y.f]
structure Acs15 (w:World) (l:List Ac15) (A:Option Addr):Prop where
 sees:Sees w w.heap.size A (l.flatMap Ac15.cells)
 fits:∀y∈l,(y.no:Int) < 4294967296
theorem add_off15 (a:Addr) (m j:Nat) (hj:j≠0):a.add (m+j)=⟨(a.add m).block,(a.add m).off+j,none⟩:=by
 unfold Addr.add
 rw [if_neg (by omega)]
 split
 ·rename_i h;subst h;simp
 ·simp;omega
theorem acs15_get:∀(l:List Ac15) (k j:Nat) (hk:k < l.length),j < 11→(l.flatMap Ac15.cells)[k*11+j]?=l[k].cells[j]?
 | [],k,_,h,_=>by simp at h
 | x :: r,0,j,_,hj=>by
  rw [List.flatMap_cons,Nat.zero_mul,Nat.zero_add,List.getElem?_append_left (by show j < 11;exact hj)]
  rfl
 | x :: r,k+1,j,h,hj=>by
  have:=acs15_get r k j (by simpa using h) hj
  rw [List.flatMap_cons,List.getElem?_append_right (by show 11≤_;omega),show(k+1)*11+j - x.cells.length=k*11+j by show(k+1)*11+j - 11=_;omega]
  exact this
theorem Acs15.at_ {w:World} {l:List Ac15} {A:Option Addr} (h:Acs15 w l A) (k:Nat) (hk:k < l.length):
  ∃ad,A=some ad∧∀V,Below w.heap.size w V→V.cell? (ad.add (k*11))=l[k].cells[0]?∧∀j,j < 11→j≠0→V.cell? ⟨(ad.add (k*11)).block,(ad.add (k*11)).off+j,none⟩=l[k].cells[j]?:=by
 have hne:l.flatMap Ac15.cells≠[]:=fun e=>by
  have:=acs15_get l k 0 hk (by omega)
  rw [e]at this
  simp [Ac15.cells]at this
 obtain⟨ad,hA,hlt,hc⟩:=h.sees hne
 have g:∀V,Below w.heap.size w V→∀j,j < 11→V.cell? (ad.add (k*11+j))=l[k].cells[j]?:=fun V hb j hj=>by
  have h1:=acs15_get l k j hk hj
  rw [hb.cell (by rw [add_block];exact hlt),←h1]
  cases hx:(l.flatMap Ac15.cells)[k*11+j]? with
  | some u=>exact hc _ _ hx
  | none=>
   rw [h1]at hx
   have:j < l[k].cells.length:=hj
   rw [List.getElem?_eq_getElem this]at hx
   cases hx
 refine⟨ad,hA,fun V hb=>⟨g V hb 0 (by omega),fun j hj h0=> ?_⟩⟩
 rw [←add_off15 ad (k*11) j h0]
 exact g V hb j hj
theorem BL.zero (W:World):BL W zeroBk (fun _=>none):=
 ⟨rfl,by
  intro u hu
  have:(zeroBk.all (·.oneCell'))=true:=by kernel_rfl
  exact List.all_eq_true.1 this u hu,fun s hs _=>by
  obtain rfl | rfl | rfl | rfl:s=0∨s=1∨s=2∨s=3:=by omega
  all_goals rfl,fun _ _ _ e=>by cases e⟩
theorem Apart.zero (W:World) (F:Nat→Prop):Apart W zeroBk F:=fun j A n c hj=>by
 have hmem:=List.mem_of_getElem? hj
 simp at hmem
section
variable {T:World→Prop} {Has:HasT} (H:MApi T Has)
variable {W0 V W W':World} {v:Value} {B B' B2 B3:Bks} {n n':Nat} {cs cs' ws xs zs:List Value} {M L:List Rw}
include H
theorem plays_main (HN:NApi T) (l:List Ac15) (A:Option Addr) (m cb:Nat) (w:World) (hT:T w) (hB:Acs15 w l A) (hm:l.length=m) (hm30:m≤30):
  Calls Tryz.prog 3 #[.slice A m cb] w fun e w'=>e= .returned (.bool true)∧Below w.heap.size w w':=by
 have d1:decide ((30:Int) < (m:Int))=false:=Df (by omega)
 have HMEM:=Lh (H.mem w hT)
 have HNO:=Lh (fun W (hb:Below w.heap.size w W)=>none_any HN W (H.tb hT hb))
 have HW:=Lh (fun W (hb:Below w.heap.size w W)=>works_any H.toMBase W (H.tb hT hb))
 have HAC:=Lh (fun i (hi:i < l.length)=>hB.at_ i hi)
 have HF:=Lh (fun i (hi:i < l.length)=>hB.fits _ (List.getElem_mem hi))
 have HM:=Lh hm
 have HT:=Lh hT
 have HST:Hid (∀(v:Value) (F:Nat→Prop) (w1 w2:World),Has w1 v (fun _=>none) 100 F→(∀k,F k→w.heap.size≤k)→Below w.heap.size w w1→Below w1.heap.size w1 w2→PsL Has w v (fun _=>none) 100 zeroBk (fun _=>none) [(w2.heap.size,33,zeroBk)] (w2.alloc (.cells zeroBk.toArray 33))):=Lh (fun v F w1 w2 a1 a2 a3 a4=>by
  have hp:Ps Has w v (fun _=>none) 100 zeroBk (fun _=>none) [] w2:=⟨⟨F,H.keep a1 (fun k hk=>a4.block _ (H.lt a1 k hk)),a2,Apart.zero _ _,fun x hx=>absurd hx (by simp)⟩,BL.zero w2,below0 a3 a4⟩
  exact PsL.alloc H ⟨hp,fun x hx=>absurd hx (by simp)⟩ 33 zeroBk)
 have HO0:Hid (okB (fun _=>none) 100):=Lh ⟨by decide,by decide⟩
 clear hB hm hT
 go_enter Tryz.func3,Tryz.ntmps3
 go_wp2_with fail
 refine HMEM.out.mono ?_
 rintro e w1 ⟨v,F,rfl,a1,a2,a3⟩
 have HA:=Lh (And.intro a1 (And.intro a2 a3))
 clear a1 a2 a3 HMEM
 go_wp2_with fail
 refine(HNO.out _ HA.out.2.2).mono ?_
 rintro e w2 ⟨rfl,hb2⟩
 have HP:=Lh (HST.out v F w1 w2 HA.out.1 HA.out.2.1 HA.out.2.2 hb2)
 have HLW:=(below0 HA.out.2.2 hb2).size
 clear hb2 HST HA HNO
 go_wp2_with fail
 obtain⟨W3,hW3⟩:=Nm (w2.alloc (.cells zba 33))
 have hP3:PsL Has w v (fun _=>none) 100 zeroBk (fun _=>none) [(w2.heap.size,33,zeroBk)] W3:=by rw [hW3];exact HP.out
 have HP3:=Lh hP3
 have HGL:=Lh (show w.heap.size≤w2.heap.size from HLW)
 rw [←hW3]
 clear hW3 hP3 HP
 obtain⟨g5,hg5⟩:=Nm (w2.heap.size)
 rw [←hg5]at HP3 HGL
 rw [←hg5]
 clear hg5
 go_loopw [6] (fun s6 wr=>∃(i:Nat) (B:Bks) (n:Nat) (cs:List Value),i≤m∧s6= .int .i64 (i:Int)∧okB B n∧PsL Has w v B n cs B [(g5,33,cs)] wr) (fun s6 _=>m - (_root_.Go.RowKit.intOf s6).toNat)
 case atStart=>exact⟨0,_,_,_,Nat.zero_le _,rfl,HO0.out,HP3.out⟩
 case round=>
  obtain⟨i,B,n,cs,hin,rfl,ho,hp⟩:=hrel
  by_cases hlt:i < m
  ·have hil:i < l.length:=by rw [HM.out];exact hlt
   have j0:(0:Int)≤(i:Int):=by omega
   have j1:(i:Int) < (m:Int):=by omega
   have j2:decide ((i:Int) < (m:Int))=true:=decide_eq_true j1
   have j3:decide (i < m)=true:=decide_eq_true hlt
   obtain⟨ad,rfl,hcell⟩:=HAC.out i hil
   have hno:=HF.out i hil
   obtain⟨y,hy⟩:=Nm (l[i])
   rw [←hy]at hcell hno
   have HNN:=Lh hno
   have HSA:Hid (∀W,Row W g5 33 cs→Below w.heap.size w W→W.rangeAt g5 0 cs∧W.cell? (ad.add (i*11))=some (.int .i64 y.x)∧W.cell? ⟨(ad.add (i*11)).block,(ad.add (i*11)).off+1,none⟩=some (.int .i64 y.s)∧W.cell? ⟨(ad.add (i*11)).block,(ad.add (i*11)).off+2,none⟩=some (.int .i64 y.c)∧W.cell? ⟨(ad.add (i*11)).block,(ad.add (i*11)).off+3,none⟩=some (.int .i64 y.i)∧W.cell? ⟨(ad.add (i*11)).block,(ad.add (i*11)).off+4,none⟩=some (.int .i64 y.st)∧W.cell? ⟨(ad.add (i*11)).block,(ad.add (i*11)).off+5,none⟩=some (.int .i64 y.sz)∧W.cell? ⟨(ad.add (i*11)).block,(ad.add (i*11)).off+6,none⟩=some (.int .u32 (y.no:Int))∧W.cell? ⟨(ad.add (i*11)).block,(ad.add (i*11)).off+7,none⟩=some (.int .i64 y.a)∧W.cell? ⟨(ad.add (i*11)).block,(ad.add (i*11)).off+8,none⟩=some (.int .i64 y.b)∧W.cell? ⟨(ad.add (i*11)).block,(ad.add (i*11)).off+9,none⟩=some (.int .i64 y.d)∧W.cell? ⟨(ad.add (i*11)).block,(ad.add (i*11)).off+10,none⟩=some (.int .i64 y.f)):=Lh (fun W hr hb=>by
    obtain⟨c0,c1⟩:=hcell W hb
    exact⟨row_range hr,c0,c1 1 (by omega) (by omega),c1 2 (by omega) (by omega),c1 3 (by omega) (by omega),c1 4 (by omega) (by omega),c1 5 (by omega) (by omega),c1 6 (by omega) (by omega),c1 7 (by omega) (by omega),c1 8 (by omega) (by omega),c1 9 (by omega) (by omega),c1 10 (by omega) (by omega)⟩)
   have HLEN:=Lh hp.bl.len
   have HSZ:=Lh (show(Tryz.prog.info? 33).map (·.size)=some cs.length by rw [HLEN.out];exact bk_size)
   have HPD:=Lh (hp.below H (show Below wr.heap.size wr wr.drew from Br.drew))
   have HO:=Lh ho
   clear hcell hno hy hp ho
   go_wp2_with fail
   refine wp_region_noPanic ?_
   refine wp_region_held_drew (S:=fun W=>W.rangeAt g5 0 cs∧W.cell? (ad.add (i*11))=some (.int .i64 y.x)∧W.cell? ⟨(ad.add (i*11)).block,(ad.add (i*11)).off+1,none⟩=some (.int .i64 y.s)∧W.cell? ⟨(ad.add (i*11)).block,(ad.add (i*11)).off+2,none⟩=some (.int .i64 y.c)∧W.cell? ⟨(ad.add (i*11)).block,(ad.add (i*11)).off+3,none⟩=some (.int .i64 y.i)∧W.cell? ⟨(ad.add (i*11)).block,(ad.add (i*11)).off+4,none⟩=some (.int .i64 y.st)∧W.cell? ⟨(ad.add (i*11)).block,(ad.add (i*11)).off+5,none⟩=some (.int .i64 y.sz)∧W.cell? ⟨(ad.add (i*11)).block,(ad.add (i*11)).off+6,none⟩=some (.int .u32 (y.no:Int))∧W.cell? ⟨(ad.add (i*11)).block,(ad.add (i*11)).off+7,none⟩=some (.int .i64 y.a)∧W.cell? ⟨(ad.add (i*11)).block,(ad.add (i*11)).off+8,none⟩=some (.int .i64 y.b)∧W.cell? ⟨(ad.add (i*11)).block,(ad.add (i*11)).off+9,none⟩=some (.int .i64 y.d)∧W.cell? ⟨(ad.add (i*11)).block,(ad.add (i*11)).off+10,none⟩=some (.int .i64 y.f)) (by kernel_rfl) (HSA.out _ (HPD.out.toPs.row 0 _ rfl) HPD.out.low) (fun hZ=> ?_)
   have HG5L:=Lh (show w.heap.size≤g5 from HGL.out)
   refine tkH 0 hZ ?_
   try simp only [Act.put]
   refine wpAnyH_take (i:=1) rfl (by kernel_rfl) (by kernel_rfl) (by kernel_rfl) (fun _ _ _ h=>h) (yieldsIf_load_mid (by kernel_rfl) 33 (.tmp 5) rfl g5 0 rfl cs _ (fun W hW=>hW.1) Tryz.underlying33 rfl HSZ.out) hZ ?_
   try simp only [Act.put]
   refine tkH 2 hZ ?_
   try simp only [Act.put]
   refine tkH 3 hZ ?_
   try simp only [Act.put]
   refine tkH 4 hZ ?_
   try simp only [Act.put]
   refine tkH 5 hZ ?_
   try simp only [Act.put]
   refine wpAnyH_ready (rs:= [6,10]) (by kernel_rfl) (by simp) ?_
   refine AllReadyH.cons rfl (fun K hK=> ?_) (AllReadyH.cons rfl (fun K hK=> ?_) (AllReadyH.nil))
   ·go_simp
    refine(act_all H HPD.out HT.out HO.out y.x y.s y.c y.i y.st y.sz y.no y.a y.b y.d y.f HNN.out).mono ?_
    rintro e v1 ⟨cs',B',n',⟨rfl,hq⟩,ho'⟩
    have HPQ:=Lh hq
    have HO2:=Lh ho'
    refine hK.out _ _ (HSA.out _ (hq.toPs.row 0 _ rfl) hq.low) (fun hZ=> ?_)
    clear hK K
    try simp only [Act.put]
    clear hq ho'
    refine tkH 7 hZ ?_
    try simp only [Act.put]
    refine tkH 8 hZ ?_
    try simp only [Act.put]
    refine tkH 9 hZ ?_
    try simp only [Act.put]
    refine rdH 10 fun K hK=> ?_
    go_simp
    have HAL:=Lh (PsL.alloc H HPQ.out 33 zeroBk)
    have HG5:=Lh (show g5 < v1.heap.size from(HPQ.out.toPs.row 0 _ rfl).lt)
    have HLOW:=Lh HPQ.out.low.size
    refine hK.out _ _ (HSA.out _ (HAL.out.toPs.row 1 _ rfl) HAL.out.low) (fun hZ=> ?_)
    clear hK K
    try simp only [Act.put]
    refine rdH 11 fun K hK=> ?_
    have HL2:=Lh HAL.out.bl.len
    have HS2:=Lh (show(Tryz.prog.info? 33).map (·.size)=some cs'.length by rw [HL2.out];exact bk_size)
    have HS3:=Lh (show(Tryz.prog.info? 33).map (·.size)=some cs'.toArray.size by rw [List.size_toArray,HL2.out];exact bk_size)
    have HONE:=Lh (all_oneCell_toArray HAL.out.bl.one)
    refine step_store_mid rfl 33 _ _ rfl (v1.heap.size) 0 cs'.toArray (by simp [Act.eval]) (by simp [Act.eval]) (row_there (HAL.out.toPs.row 0 _ rfl) (by rw [List.size_toArray,HL2.out];rfl)) HS3.out HONE.out ?_
    have HST1:=Lh (show PsL Has w v B' n' cs' B' [(v1.heap.size,33,cs'),(g5,33,cs)] ((v1.alloc (.cells zeroBk.toArray 33)).setCells (v1.heap.size) 0 cs'.toArray.toList) from
     PsL.set H (L1:= []) HAL.out (keep_cells (v1.heap.size) cs'.toArray.toList 0 _ (Keep.refl _)) (set_from cs' [] zeroBk (HAL.out.toPs.row 0 _ rfl) (by rw [HL2.out];rfl)) HLOW.out (fun x hx=>absurd hx (by simp)) (fun x hx=>by
      have:=HG5.out
      rcases List.mem_cons.1 hx with rfl | hx
      ·simp only;omega
      ·exact absurd hx (by simp)))
    refine hK.out _ _ (HSA.out _ (HST1.out.toPs.row 1 _ rfl) HST1.out.low) (fun hZ=> ?_)
    clear hK K
    try simp only [Act.put]
    refine rdH 12 fun K hK=> ?_
    go_simp
    refine hK.out _ _ (HSA.out _ (HST1.out.toPs.row 1 _ rfl) HST1.out.low) (fun hZ=> ?_)
    clear hK K
    try simp only [Act.put]
    refine wpAnyH_done (by kernel_rfl) ?_ _
    refine NoPanic.normal ?_
    obtain⟨W5,hW5⟩:=Nm ((v1.alloc (.cells zba 33)).setCells (v1.heap.size) 0 cs'.toArray.toList)
    have hP5:PsL Has w v B' n' cs' B' [(v1.heap.size,33,cs'),(g5,33,cs)] W5:=by rw [hW5];exact HST1.out
    rw [←hW5]
    clear hW5 HST1 HAL hZ
    obtain⟨g7,hg7⟩:=Nm (v1.heap.size)
    replace HG5:Hid (g5 < v1.heap.size):=HG5
    rw [←hg7]at hP5 HG5
    rw [←hg7]
    clear hg7 HLOW
    have HRG:=Lh (row_range (hP5.toPs.row 0 _ rfl))
    have HTH:=Lh (row_there (n:=cs'.toArray.size) (hP5.toPs.row 1 _ rfl) (by rw [List.size_toArray,HL2.out,HLEN.out]))
    have HFI:=Lh (show PsL Has w v B' n' cs' B' [(g5,33,cs')] (W5.setCells g5 0 cs'.toArray.toList) from by
     have h5:=HG5.out
     have h2:=PsL.set H (L1:= [(g7,33,cs')]) (L2:= []) hP5 (keep_cells g5 cs'.toArray.toList 0 _ (Keep.refl _)) (set_from cs' [] cs (hP5.toPs.row 1 _ rfl) (by rw [HL2.out,HLEN.out])) HG5L.out (fun x hx=>by
      rcases List.mem_cons.1 hx with rfl | hx
      ·simp only;omega
      ·exact absurd hx (by simp)) (fun x hx=>absurd hx (by simp))
     exact⟨Ps.drop (L1:= [(g7,33,cs')]) h2.toPs,fun x hx=>h2.lap x (List.mem_cons_of_mem _ hx)⟩)
    clear hP5
    go_wp2_with (first | refine wpList_load_mid rfl 33 (.tmp 7) rfl g7 0 rfl cs' _ HRG.out Tryz.underlying33 rfl HS2.out ?_ | refine wpList_store_mid rfl 33 (.tmp 5) (.tmp 39) rfl g5 0 cs'.toArray rfl rfl HTH.out HS3.out HONE.out ?_)
    go_roundw
    case rel=>exact⟨i+1,B',n',cs',by omega,by go_num,HO2.out,HFI.out⟩
    case measure=>simp [_root_.Go.RowKit.intOf];omega
   ·go_simp
    have HAZ:=Lh (PsL.alloc H HPD.out 33 zeroBk)
    have HG5:=Lh (show g5 < wr.drew.heap.size from(HPD.out.toPs.row 0 _ rfl).lt)
    have HLOW:=Lh HPD.out.low.size
    refine hK.out _ _ (HSA.out _ (HAZ.out.toPs.row 1 _ rfl) HAZ.out.low) (fun hZ=> ?_)
    clear hK K
    try simp only [Act.put]
    refine rdH 6 fun K hK=> ?_
    go_simp
    refine(act_all H HAZ.out HT.out HO.out y.x y.s y.c y.i y.st y.sz y.no y.a y.b y.d y.f HNN.out).mono ?_
    rintro e v1 ⟨cs',B',n',⟨rfl,hq⟩,ho'⟩
    have HAL:=Lh hq
    have HO2:=Lh ho'
    refine hK.out _ _ (HSA.out _ (hq.toPs.row 1 _ rfl) hq.low) (fun hZ=> ?_)
    clear hK K
    try simp only [Act.put]
    clear hq ho'
    refine tkH 7 hZ ?_
    try simp only [Act.put]
    refine tkH 8 hZ ?_
    try simp only [Act.put]
    refine tkH 9 hZ ?_
    try simp only [Act.put]
    refine rdH 11 fun K hK=> ?_
    have HL2:=Lh HAL.out.bl.len
    have HS2:=Lh (show(Tryz.prog.info? 33).map (·.size)=some cs'.length by rw [HL2.out];exact bk_size)
    have HS3:=Lh (show(Tryz.prog.info? 33).map (·.size)=some cs'.toArray.size by rw [List.size_toArray,HL2.out];exact bk_size)
    have HONE:=Lh (all_oneCell_toArray HAL.out.bl.one)
    refine step_store_mid rfl 33 _ _ rfl (wr.drew.heap.size) 0 cs'.toArray (by simp [Act.eval]) (by simp [Act.eval]) (row_there (HAL.out.toPs.row 0 _ rfl) (by rw [List.size_toArray,HL2.out];rfl)) HS3.out HONE.out ?_
    have HST1:=Lh (show PsL Has w v B' n' cs' B' [(wr.drew.heap.size,33,cs'),(g5,33,cs)] ((v1).setCells (wr.drew.heap.size) 0 cs'.toArray.toList) from
     PsL.set H (L1:= []) HAL.out (keep_cells (wr.drew.heap.size) cs'.toArray.toList 0 _ (Keep.refl _)) (set_from cs' [] zeroBk (HAL.out.toPs.row 0 _ rfl) (by rw [HL2.out];rfl)) HLOW.out (fun x hx=>absurd hx (by simp)) (fun x hx=>by
      have:=HG5.out
      rcases List.mem_cons.1 hx with rfl | hx
      ·simp only;omega
      ·exact absurd hx (by simp)))
    refine hK.out _ _ (HSA.out _ (HST1.out.toPs.row 1 _ rfl) HST1.out.low) (fun hZ=> ?_)
    clear hK K
    try simp only [Act.put]
    refine rdH 12 fun K hK=> ?_
    go_simp
    refine hK.out _ _ (HSA.out _ (HST1.out.toPs.row 1 _ rfl) HST1.out.low) (fun hZ=> ?_)
    clear hK K
    try simp only [Act.put]
    refine wpAnyH_done (by kernel_rfl) ?_ _
    refine NoPanic.normal ?_
    obtain⟨W5,hW5⟩:=Nm ((v1).setCells (wr.heap.size) 0 cs')
    have hP5:PsL Has w v B' n' cs' B' [(wr.heap.size,33,cs'),(g5,33,cs)] W5:=by rw [hW5];exact HST1.out
    rw [←hW5]
    clear hW5 HST1 HAL hZ
    obtain⟨g7,hg7⟩:=Nm (wr.heap.size)
    replace HG5:Hid (g5 < wr.heap.size):=HG5
    rw [←hg7]at hP5 HG5
    rw [←hg7]
    clear hg7 HLOW
    have HRG:=Lh (row_range (hP5.toPs.row 0 _ rfl))
    have HTH:=Lh (row_there (n:=cs'.toArray.size) (hP5.toPs.row 1 _ rfl) (by rw [List.size_toArray,HL2.out,HLEN.out]))
    have HFI:=Lh (show PsL Has w v B' n' cs' B' [(g5,33,cs')] (W5.setCells g5 0 cs'.toArray.toList) from by
     have h5:=HG5.out
     have h2:=PsL.set H (L1:= [(g7,33,cs')]) (L2:= []) hP5 (keep_cells g5 cs'.toArray.toList 0 _ (Keep.refl _)) (set_from cs' [] cs (hP5.toPs.row 1 _ rfl) (by rw [HL2.out,HLEN.out])) HG5L.out (fun x hx=>by
      rcases List.mem_cons.1 hx with rfl | hx
      ·simp only;omega
      ·exact absurd hx (by simp)) (fun x hx=>absurd hx (by simp))
     exact⟨Ps.drop (L1:= [(g7,33,cs')]) h2.toPs,fun x hx=>h2.lap x (List.mem_cons_of_mem _ hx)⟩)
    clear hP5
    go_wp2_with (first | refine wpList_load_mid rfl 33 (.tmp 7) rfl g7 0 rfl cs' _ HRG.out Tryz.underlying33 rfl HS2.out ?_ | refine wpList_store_mid rfl 33 (.tmp 5) (.tmp 39) rfl g5 0 cs'.toArray rfl rfl HTH.out HS3.out HONE.out ?_)
    go_roundw
    case rel=>exact⟨i+1,B',n',cs',by omega,by go_num,HO2.out,HFI.out⟩
    case measure=>simp [_root_.Go.RowKit.intOf];omega
  ·obtain rfl:i=m:=by omega
   have j2:decide ((i:Int) < (i:Int))=false:=Df (by omega)
   have HPX:=Lh hp
   clear hp ho
   go_wp2_with fail
   refine(HW.out _ HPX.out.low).mono ?_
   rintro e w9 ⟨rfl,hb9⟩
   have HB9:=Lh (below0 HPX.out.low hb9)
   clear hb9
   go_wp2_with fail
   go_ret
   exact⟨rfl,HB9.out⟩
theorem plays_far (A:Option Addr) (m cb:Nat) (w:World) (hT:T w) (h:30 < m):
  Calls Tryz.prog 3 #[.slice A m cb] w fun e w'=>e= .returned (.bool true)∧Below w.heap.size w w':=by
 have HW:=Lh (works_any H.toMBase w hT)
 have d1:decide ((30:Int) < (m:Int))=true:=Dt (by omega)
 clear hT
 go_enter Tryz.func3,Tryz.ntmps3
 go_wp2_with fail
 refine HW.out.mono ?_
 rintro e W1 ⟨rfl,hb1⟩
 have HB1:=Lh hb1
 clear hb1
 go_wp2_with fail
 go_ret
 exact⟨rfl,HB1.out⟩
theorem metaPlays_any (HN:NApi T) (l:List Ac15) (A:Option Addr) (m cb:Nat) (w:World) (hT:T w) (hB:Acs15 w l A) (hm:l.length=m):
  Calls Tryz.prog 3 #[.slice A m cb] w fun e w'=>e= .returned (.bool true)∧Below w.heap.size w w':=by
 by_cases h:m≤30
 ·exact plays_main H HN l A m cb w hT hB hm h
 ·exact plays_far H A m cb w hT (by omega)
end
end Go.Proofs.YtfcfbcjiijfjgaaGreatDoor.Me
namespace Go.Proofs.YtfcfbcjiijfjgaaGreatDoor.Me
open Go.ChangeShapes Go.WideShapes Go.ChangeAt Go.RowKit
abbrev actSs:List Sc:= [some .i64,some .i64,some .i64,some .i64,some .i64,some .i64,some .u32,some .i64,some .i64,some .i64,some .i64]
theorem act_of {r:List Value} (h:FitsAll actSs r):∃y:Ac15,(y.no:Int) < 4294967296∧r=y.cells:=by
 obtain⟨_,r0,rfl,⟨z0,rfl,w0⟩,_,r1,rfl,⟨z1,rfl,w1⟩,_,r2,rfl,⟨z2,rfl,w2⟩,_,r3,rfl,⟨z3,rfl,w3⟩,_,r4,rfl,⟨z4,rfl,w4⟩,_,r5,rfl,⟨z5,rfl,w5⟩,_,r6,rfl,⟨z6,rfl,w6⟩,_,r7,rfl,⟨z7,rfl,w7⟩,_,r8,rfl,⟨z8,rfl,w8⟩,_,r9,rfl,⟨z9,rfl,w9⟩,_,ra,rfl,⟨za,rfl,wa⟩,he⟩:=h
 obtain rfl:=he
 have b6:=bounds_u32 w6
 obtain⟨n,rfl⟩:∃n:Nat,z6=n:=⟨z6.toNat,by omega⟩
 exact⟨⟨z0,z1,z2,z3,z4,z5,n,z7,z8,z9,za⟩,by simp only;omega,rfl⟩
theorem acs_of {W:World} {A:Option Addr} {R:List (List Value)} (h:∀r∈R,FitsAll actSs r) (hs:Sees W W.heap.size A R.flatten):∃l:List Ac15,l.length=R.length∧Acs15 W l A:=by
 obtain⟨l,rfl,h2⟩:=rows_map (enc:=Ac15.cells) (Q:=fun y=>(y.no:Int) < 4294967296) R (fun r hr=>act_of (h r hr))
 exact⟨l,by simp,⟨by rw [List.flatMap_def];exact hs,h2⟩⟩
end Go.Proofs.YtfcfbcjiijfjgaaGreatDoor.Me
