import Derived.Test.YtfcfbcjiijfjgaaGreatDoorPBI
set_option maxHeartbeats 4000000
set_option maxRecDepth 100000
namespace Go.Proofs.YtfcfbcjiijfjgaaGreatDoor.Me
open Go.RowKit Go.Shelf
attribute [local go_sem] Oper.semAt_some
theorem upd_some {B:Bks} {s:Nat} {g g':Byts} (h:B s=some g) (k:Nat):(upd B s (some g') k).isSome=(B k).isSome:=by
 unfold upd
 split
 ·rename_i e
  rw [e,h]
  rfl
 ·rfl
theorem openE_zero {B:Bks} {s:Nat} (h:openE B (s:Int)=0):∃f,B s=some f:=by
 cases hf:B s with
 | none=>
  unfold openE at h
  rw [Int.toNat_natCast,hf]at h
  cases h
 | some f=>exact⟨f,rfl⟩
theorem put_zero {B:Bks} {s c i st sz:Int} (h:putE B s c i st sz=0):∃(s' c' i' a1 a2:Nat) (f:Byts),s=s'∧c=c'∧i=i'∧st=a1∧sz=a2∧okS s' c' i'∧a1≤4∧a2≤65535∧B s'=some f:=by
 unfold putE at h
 split at h
 ·cases h
 ·rename_i h1
  have hr:rightR st sz:=Classical.byContradiction fun hn=>h1 (.inr hn)
  unfold getE at h
  split at h
  ·rename_i h2
   exact absurd h h2
  ·rename_i h2
   obtain⟨s',c',i',rfl,rfl,rfl,hok⟩:=asks_zero (Classical.byContradiction fun hn=>h2 hn)
   obtain⟨f,hf⟩:=openE_zero h
   obtain⟨r1,r2,r3,r4⟩:=hr
   exact⟨s',c',i',st.toNat,sz.toNat,f,rfl,rfl,rfl,by omega,by omega,hok,by omega,by omega,hf⟩
section
variable {T:World→Prop} {Has:HasT} (H:MApi T Has)
variable {W0 V W W':World} {v:Value} {B B' B2 B3:Bks} {n n':Nat} {cs cs' ws xs zs:List Value} {M L:List Rw}
include H
theorem In.box (h:In Has W0 V v B n cs ws xs B2 zs M L W):In Has W0 V v B n cs ws xs B2 zs ((W.heap.size,33,cs) :: M) L ((W.alloc (.cells zeroBk.toArray 33)).setCells W.heap.size 0 cs.toArray.toList):=by
 have h1:=h.alloc H 33 zeroBk
 have hr:=set_from cs [] zeroBk (h1.rowM 0 _ rfl) (by rw [h.ps.bl.len];rfl)
 have hk:=keep_cells W.heap.size cs.toArray.toList 0 _ (Keep.refl (W.alloc (.cells zeroBk.toArray 33)))
 have hs:=h.sz
 have hl:=h.low
 obtain⟨F,_,_,a0,a3⟩:=h.ps.has
 have hoff:Apart (W.alloc (.cells zeroBk.toArray 33)) cs (· =W.heap.size):=fun j A m c hj=>by
  have:=(a0 j A m c hj).1
  exact⟨by rw [World.size_alloc];omega,fun e=>by omega⟩
 have h2:=Ps.set H (L1:= []) h1.ps hk hr (by omega) hoff (fun x hx=>absurd hx (by simp)) (fun x hx=>by
  have:=(a3 x hx).1.lt
  omega)
 refine⟨h2,h.off,fun x hx=> ?_,h.lof,h.low,by rw [cells_size,World.size_alloc];omega,h.zlen,h.lap⟩
 rcases List.mem_cons.1 hx with rfl | hx
 ·exact hs
 ·exact h.mof x hx
omit H in
theorem In.there_box (h:In Has W0 V v B n cs ws xs B2 zs M L W):(W.alloc (.cells zeroBk.toArray 33)).there W.heap.size 0 cs.toArray.size:=by
 exact row_there (Row.new W 33 zeroBk) (by rw [List.size_toArray,h.ps.bl.len];rfl)
theorem act_put_any (h:PsL Has W0 v B n cs B L V) (x s c i st sz:Int) (no:Nat) (a b d f:Int) (hx:x=2) (B':Bks) (E:Int)
  (HD:∀{W},In Has W0 V v B n cs cs (acl x s c i st sz no a b d f) B zeroBk [] L W→Calls Tryz.prog 22 #[bkV cs,spV s c i,rcV st sz no] W fun e W'=>∃cs',e= .returned (.tuple #[bkV cs',.int .i64 E])∧In Has W0 V v B n cs' cs (acl x s c i st sz no a b d f) B' zeroBk [] L W')
  (HC:∀{cs' M W},In Has W0 V v B n cs' cs (acl x s c i st sz no a b d f) B' zeroBk M L W→Calls Tryz.prog 11 #[v,spV s c i,rcV st sz no] W fun e W'=>e= .returned (.int .i64 E)∧In Has W0 V v B' n cs' cs (acl x s c i st sz no a b d f) B' zeroBk M L W'):
  Calls Tryz.prog 7 #[v,bkV cs,.agg (aca x s c i st sz no a b d f)] V fun e V'=>∃cs',ActQ Has W0 v B' n cs' B' L e V':=by
 obtain⟨W1,hW1⟩:=Nm (((V.alloc (.cells cs.toArray 33)).alloc (.cells (aca x s c i st sz no a b d f) 45)).alloc (.cells zba 33))
 have hS0:In Has W0 V v B n cs cs (acl x s c i st sz no a b d f) B zeroBk [] L W1:=by rw [hW1];exact In.start H h (acl x s c i st sz no a b d f)
 have q0:(x == 0)=false:=by rw [beq_eq_false_iff_ne];omega
 have q1:(x == 1)=false:=by rw [beq_eq_false_iff_ne];omega
 have q2:(x == 2)=true:=by rw [hx];rfl
 have hrg:=row_range hS0.row4
 rw [hW1]at hrg
 have HRG:=Lh hrg
 clear hrg
 have HLC:=Lh h.bl.len
 have HSZC:=Lh (show(Tryz.prog.info? 33).map (·.size)=some cs.length by rw [HLC.out];exact bk_size)
 have HDD:=Lh (HD hS0)
 have HCC:Hid (∀(cs':List Value) (M:List Rw) (W:World),In Has W0 V v B n cs' cs (acl x s c i st sz no a b d f) B' zeroBk M L W→Calls Tryz.prog 11 #[v,spV s c i,rcV st sz no] W fun e W'=>e= .returned (.int .i64 E)∧In Has W0 V v B' n cs' cs (acl x s c i st sz no a b d f) B' zeroBk M L W'):=Lh (fun _ _ _ hI=>HC hI)
 have HSP:Hid (∀(B:Bks) (cs':List Value) (g:Nat) (M:List Rw) (zs:List Value) (W:World),In Has W0 V v B n cs' cs (acl x s c i st sz no a b d f) B' zs ((g,33,cs') :: M) L W→W.rangeAt g 0 cs'∧W.cell? ⟨V.heap.size+1,1,none⟩=some (.int .i64 s)∧W.cell? ⟨V.heap.size+1,2,none⟩=some (.int .i64 c)∧W.cell? ⟨V.heap.size+1,3,none⟩=some (.int .i64 i)∧W.cell? ⟨V.heap.size+1,4,none⟩=some (.int .i64 st)∧W.cell? ⟨V.heap.size+1,5,none⟩=some (.int .i64 sz)∧W.cell? ⟨V.heap.size+1,6,none⟩=some (.int .u32 (no:Int))):=Lh (fun _ _ _ _ _ _ hI=>⟨row_range (hI.rowM 0 _ rfl),hI.row5.cell 1,hI.row5.cell 2,hI.row5.cell 3,hI.row5.cell 4,hI.row5.cell 5,hI.row5.cell 6⟩)
 have HQ:Hid (∀(cs':List Value) (W:World),PsL Has W0 v B' n cs' B' L W→∃cs2,ActQ Has W0 v B' n cs2 B' L (.returned (.tuple #[bkV cs',.bool true])) W):=Lh (fun _ _ hp=>⟨_,rfl,hp⟩)
 have eE:(E == E)=true:=by simp
 clear h hx HD HC
 go_enter Tryz.func7,Tryz.ntmps7
 go_wp2_with (refine wpList_load_mid rfl 33 (.tmp 4) rfl V.heap.size 0 rfl cs _ HRG.out Tryz.underlying33 rfl HSZC.out ?_)
 rw [←hW1]
 clear hW1
 refine HDD.out.mono ?_
 rintro e w2 ⟨cs',rfl,hD⟩
 clear hS0
 have HLEN:=Lh hD.ps.bl.len
 have HSZ:=Lh (show(Tryz.prog.info? 33).map (·.size)=some cs'.length by rw [HLEN.out];exact bk_size)
 have HSZ2:=Lh (show(Tryz.prog.info? 33).map (·.size)=some cs'.toArray.size by rw [List.size_toArray,HLEN.out];exact bk_size)
 have HONE:=Lh (all_oneCell_toArray hD.ps.bl.one)
 have HTB:=Lh (In.there_box hD)
 have HBX:=Lh (hD.box H)
 clear hD
 go_wp2_with (refine wpList_store_mid rfl 33 (.tmp 13) (.tmp 113) rfl w2.heap.size 0 cs'.toArray rfl rfl HTB.out HSZ2.out HONE.out ?_)
 obtain⟨W3,hW3⟩:=Nm ((w2.alloc (.cells zba 33)).setCells w2.heap.size 0 cs'.toArray.toList)
 have hB3:In Has W0 V v B n cs' cs (acl x s c i st sz no a b d f) B' zeroBk [(w2.heap.size,33,cs')] L W3:=by rw [hW3];exact HBX.out
 rw [←hW3]
 obtain⟨gb,hgb⟩:=Nm (w2.heap.size)
 rw [←hgb]at hB3
 rw [←hgb]
 clear hW3 HBX HTB hgb
 have hI0:=hB3.below H (show Below W3.heap.size W3 W3.drew from Br.drew)
 clear hB3
 refine wp_region_noPanic ?_
 refine wp_region_held_drew (S:=fun W=>W.rangeAt gb 0 cs'∧W.cell? ⟨V.heap.size+1,1,none⟩=some (.int .i64 s)∧W.cell? ⟨V.heap.size+1,2,none⟩=some (.int .i64 c)∧W.cell? ⟨V.heap.size+1,3,none⟩=some (.int .i64 i)∧W.cell? ⟨V.heap.size+1,4,none⟩=some (.int .i64 st)∧W.cell? ⟨V.heap.size+1,5,none⟩=some (.int .i64 sz)∧W.cell? ⟨V.heap.size+1,6,none⟩=some (.int .u32 (no:Int))) (by kernel_rfl) (HSP.out _ _ _ _ _ _ hI0) (fun hZ=> ?_)
 refine wpAnyH_take (i:=0) rfl (by kernel_rfl) (by kernel_rfl) (by kernel_rfl) (fun _ _ _ h=>h) (yieldsIf_load_mid (by kernel_rfl) 33 (.tmp 13) rfl (gb) 0 rfl cs' _ (fun W hW=>hW.1) Tryz.underlying33 rfl HSZ.out) hZ ?_
 try simp only [Act.put]
 refine tkH 1 hZ ?_
 try simp only [Act.put]
 refine tkH 2 hZ ?_
 try simp only [Act.put]
 refine tkH 3 hZ ?_
 try simp only [Act.put]
 refine tkH 4 hZ ?_
 try simp only [Act.put]
 refine tkH 5 hZ ?_
 try simp only [Act.put]
 refine tkH 8 hZ ?_
 try simp only [Act.put]
 refine rdH 6 fun K hK=> ?_
 go_simp
 refine(HCC.out _ _ _ hI0).mono ?_
 rintro e v1 ⟨rfl,hI1⟩
 refine hK.out _ _ (HSP.out _ _ _ _ _ _ hI1) (fun hZ=> ?_)
 clear hK K
 try simp only [Act.put]
 refine rdH 7 fun K hK=> ?_
 go_simp
 refine(num_any _ _).mono ?_
 rintro e v2 ⟨rfl,rfl⟩
 have hI2:=hI1
 refine hK.out _ _ (HSP.out _ _ _ _ _ _ hI2) (fun hZ=> ?_)
 clear hK K
 try simp only [Act.put]
 refine tkH 9 hZ ?_
 try simp only [Act.put]
 refine rdH 10 fun K hK=> ?_
 refine step_store_mid rfl 33 _ _ rfl (V.heap.size+1+1) 0 cs'.toArray (by simp [Act.eval]) (by simp [Act.eval]) (row_there hI2.row6 (by rw [List.size_toArray,hI2.zlen,HLEN.out])) HSZ2.out HONE.out ?_
 have hI3:=hI2.six H cs' HLEN.out
 refine hK.out _ _ (HSP.out _ _ _ _ _ _ hI3) (fun hZ=> ?_)
 clear hK K
 try simp only [Act.put]
 refine rdH 11 fun K hK=> ?_
 go_simp
 refine hK.out _ _ (HSP.out _ _ _ _ _ _ hI3) (fun hZ=> ?_)
 clear hK K
 try simp only [Act.put]
 refine wpAnyH_done (by kernel_rfl) (NoPanic.normal ?_) _
 go_wp2_with fail
 exact bodyPost_ret (res_cell2 Tryz.results7 rfl (bk_load hI3.row6 HLEN.out)) rfl (HQ.out _ _ hI3.fin)
theorem act_put (h:PsL Has W0 v B n cs B L V) (hT:T W0) (x s c i st sz:Int) (no:Nat) (a b d f:Int) (hx:x=2) (hno:(no:Int) < 4294967296):
  Calls Tryz.prog 7 #[v,bkV cs,.agg (aca x s c i st sz no a b d f)] V fun e V'=>∃cs' B',ActQ Has W0 v B' n cs' B' L e V'∧∀k,(B' k).isSome=(B k).isSome:=by
 by_cases hE:putE B s c i st sz=0
 ·obtain⟨s',c',i',a1,a2,g,rfl,rfl,rfl,rfl,rfl,hok,h4,h6,hf⟩:=put_zero hE
  refine(act_put_any H h x _ _ _ _ _ no a b d f hx (upd B s' (some (putB g (recO c' i') (recB a1 a2 no)))) 0 (fun {W} hI=> ?_) (fun {cs' M W} hI=> ?_)).mono ?_
  ·refine(rput_yes cs B g s' c' i' a1 a2 no W hI.ps.bl hok hf h4 h6 (by omega)).mono ?_
   rintro e W' ⟨cs2,e1,e2,e3,e4⟩
   exact⟨cs2,e1,hI.new H e4 e3 e2⟩
  ·exact hI.call (P:=fun e=>e= .returned (.int .i64 0)) (fun F hF=>H.putYes s' c' i' a1 a2 no (hI.ps.t H hT) hF hok h4 h6 (by omega) hf)
  ·rintro e V' ⟨cs',hq⟩
   exact⟨cs',_,hq,fun k=>upd_some hf k⟩
 ·refine(act_put_any H h x _ _ _ _ _ no a b d f hx B (putE B s c i st sz) (fun {W} hI=> ?_) (fun {cs' M W} hI=> ?_)).mono ?_
  ·exact((rput_no cs B s c i st sz no W hI.ps.bl hE).mono fun e W' ⟨e1,e2⟩=>⟨cs,e1,hI.below H e2⟩)
  ·exact hI.call (P:=fun e=>e= .returned (.int .i64 (putE B s c i st sz))) (fun F hF=>H.putNo s c i st sz no (hI.ps.t H hT) hF (by omega) hE)
  ·rintro e V' ⟨cs',hq⟩
   exact⟨cs',B,hq,fun _=>rfl⟩
end
theorem gasks_zero {s i:Int} (h:gasks s i=0):∃s' i':Nat,s=s'∧i=i'∧s' < 4∧i' < 384:=by
 unfold gasks at h
 split at h
 ·rename_i h1
  split at h
  ·cases h
  ·obtain⟨s',rfl,h4⟩:=isB_nat (b:=4) h1
   exact⟨s',i.toNat,rfl,by omega,h4,by omega⟩
 ·cases h
theorem gget_zero {B:Bks} {s i:Int} (h:ggetE B s i=0):∃(s' i':Nat) (f:Byts),s=s'∧i=i'∧s' < 4∧i' < 384∧B s'=some f:=by
 unfold ggetE at h
 split at h
 ·rename_i h2
  exact absurd h h2
 ·rename_i h2
  obtain⟨s',i',rfl,rfl,h4,h5⟩:=gasks_zero (Classical.byContradiction fun hn=>h2 hn)
  obtain⟨f,hf⟩:=openE_zero h
  exact⟨s',i',f,rfl,rfl,h4,h5,hf⟩
theorem gput_zero {B:Bks} {s i a b d f:Int} (h:gputE B s i a b d f=0):∃(s' i' a1 a2 a3 a4:Nat) (g:Byts),s=s'∧i=i'∧a=a1∧b=a2∧d=a3∧f=a4∧s' < 4∧i' < 384∧rightG (a1:Int) (a2:Int) (a3:Int) (a4:Int)∧B s'=some g:=by
 unfold gputE at h
 split at h
 ·cases h
 ·rename_i h1
  have hr:rightG a b d f:=Classical.byContradiction fun hn=>h1 (.inr hn)
  obtain⟨s',i',g,rfl,rfl,h4,h5,hf⟩:=gget_zero h
  obtain⟨r1,r2,r3,r4,r5,r6,r7,r8⟩:=hr
  exact⟨s',i',a.toNat,b.toNat,d.toNat,f.toNat,g,rfl,rfl,by omega,by omega,by omega,by omega,h4,h5,⟨by omega,by omega,by omega,by omega,by omega,by omega,by omega,by omega⟩,hf⟩
section
variable {T:World→Prop} {Has:HasT} (H:MApi T Has)
variable {W0 V W W':World} {v:Value} {B B' B2 B3:Bks} {n n':Nat} {cs cs' ws xs zs:List Value} {M L:List Rw}
include H
theorem act_gput_any (h:PsL Has W0 v B n cs B L V) (x s c i st sz:Int) (no:Nat) (a b d f:Int) (hx:x=4) (B':Bks) (E:Int)
  (HD:∀{W},In Has W0 V v B n cs cs (acl x s c i st sz no a b d f) B zeroBk [] L W→Calls Tryz.prog 24 #[bkV cs,.int .i64 s,.int .i64 i,gtV a b d f] W fun e W'=>∃cs',e= .returned (.tuple #[bkV cs',.int .i64 E])∧In Has W0 V v B n cs' cs (acl x s c i st sz no a b d f) B' zeroBk [] L W')
  (HC:∀{cs' M W},In Has W0 V v B n cs' cs (acl x s c i st sz no a b d f) B' zeroBk M L W→Calls Tryz.prog 19 #[v,.int .i64 s,.int .i64 i,gtV a b d f] W fun e W'=>e= .returned (.int .i64 E)∧In Has W0 V v B' n cs' cs (acl x s c i st sz no a b d f) B' zeroBk M L W'):
  Calls Tryz.prog 7 #[v,bkV cs,.agg (aca x s c i st sz no a b d f)] V fun e V'=>∃cs',ActQ Has W0 v B' n cs' B' L e V':=by
 obtain⟨W1,hW1⟩:=Nm (((V.alloc (.cells cs.toArray 33)).alloc (.cells (aca x s c i st sz no a b d f) 45)).alloc (.cells zba 33))
 have hS0:In Has W0 V v B n cs cs (acl x s c i st sz no a b d f) B zeroBk [] L W1:=by rw [hW1];exact In.start H h (acl x s c i st sz no a b d f)
 have q0:(x == 0)=false:=by rw [beq_eq_false_iff_ne];omega
 have q1:(x == 1)=false:=by rw [beq_eq_false_iff_ne];omega
 have q2:(x == 2)=false:=by rw [beq_eq_false_iff_ne];omega
 have q3:(x == 3)=false:=by rw [beq_eq_false_iff_ne];omega
 have q4:(x == 4)=true:=by rw [hx];rfl
 have hrg:=row_range hS0.row4
 rw [hW1]at hrg
 have HRG:=Lh hrg
 clear hrg
 have HLC:=Lh h.bl.len
 have HSZC:=Lh (show(Tryz.prog.info? 33).map (·.size)=some cs.length by rw [HLC.out];exact bk_size)
 have HDD:=Lh (HD hS0)
 have HCC:Hid (∀(cs':List Value) (M:List Rw) (W:World),In Has W0 V v B n cs' cs (acl x s c i st sz no a b d f) B' zeroBk M L W→Calls Tryz.prog 19 #[v,.int .i64 s,.int .i64 i,gtV a b d f] W fun e W'=>e= .returned (.int .i64 E)∧In Has W0 V v B' n cs' cs (acl x s c i st sz no a b d f) B' zeroBk M L W'):=Lh (fun _ _ _ hI=>HC hI)
 have HSP:Hid (∀(B:Bks) (cs':List Value) (g:Nat) (M:List Rw) (zs:List Value) (W:World),In Has W0 V v B n cs' cs (acl x s c i st sz no a b d f) B' zs ((g,33,cs') :: M) L W→W.rangeAt g 0 cs'∧W.cell? ⟨V.heap.size+1,3,none⟩=some (.int .i64 i)∧W.cell? ⟨V.heap.size+1,7,none⟩=some (.int .i64 a)∧W.cell? ⟨V.heap.size+1,8,none⟩=some (.int .i64 b)∧W.cell? ⟨V.heap.size+1,9,none⟩=some (.int .i64 d)∧W.cell? ⟨V.heap.size+1,10,none⟩=some (.int .i64 f)):=Lh (fun _ _ _ _ _ _ hI=>⟨row_range (hI.rowM 0 _ rfl),hI.row5.cell 3,hI.row5.cell 7,hI.row5.cell 8,hI.row5.cell 9,hI.row5.cell 10⟩)
 have HQ:Hid (∀(cs':List Value) (W:World),PsL Has W0 v B' n cs' B' L W→∃cs2,ActQ Has W0 v B' n cs2 B' L (.returned (.tuple #[bkV cs',.bool true])) W):=Lh (fun _ _ hp=>⟨_,rfl,hp⟩)
 have eE:(E == E)=true:=by simp
 clear h hx HD HC
 go_enter Tryz.func7,Tryz.ntmps7
 go_wp2_with (refine wpList_load_mid rfl 33 (.tmp 4) rfl V.heap.size 0 rfl cs _ HRG.out Tryz.underlying33 rfl HSZC.out ?_)
 rw [←hW1]
 clear hW1
 refine HDD.out.mono ?_
 rintro e w2 ⟨cs',rfl,hD⟩
 clear hS0
 have HLEN:=Lh hD.ps.bl.len
 have HSZ:=Lh (show(Tryz.prog.info? 33).map (·.size)=some cs'.length by rw [HLEN.out];exact bk_size)
 have HSZ2:=Lh (show(Tryz.prog.info? 33).map (·.size)=some cs'.toArray.size by rw [List.size_toArray,HLEN.out];exact bk_size)
 have HONE:=Lh (all_oneCell_toArray hD.ps.bl.one)
 have HTB:=Lh (In.there_box hD)
 have HBX:=Lh (hD.box H)
 clear hD
 go_wp2_with (refine wpList_store_mid rfl 33 (.tmp 19) (.tmp 162) rfl w2.heap.size 0 cs'.toArray rfl rfl HTB.out HSZ2.out HONE.out ?_)
 obtain⟨W3,hW3⟩:=Nm ((w2.alloc (.cells zba 33)).setCells w2.heap.size 0 cs'.toArray.toList)
 have hB3:In Has W0 V v B n cs' cs (acl x s c i st sz no a b d f) B' zeroBk [(w2.heap.size,33,cs')] L W3:=by rw [hW3];exact HBX.out
 rw [←hW3]
 obtain⟨gb,hgb⟩:=Nm (w2.heap.size)
 rw [←hgb]at hB3
 rw [←hgb]
 clear hW3 HBX HTB hgb
 have hI0:=hB3.below H (show Below W3.heap.size W3 W3.drew from Br.drew)
 clear hB3
 refine wp_region_noPanic ?_
 refine wp_region_held_drew (S:=fun W=>W.rangeAt gb 0 cs'∧W.cell? ⟨V.heap.size+1,3,none⟩=some (.int .i64 i)∧W.cell? ⟨V.heap.size+1,7,none⟩=some (.int .i64 a)∧W.cell? ⟨V.heap.size+1,8,none⟩=some (.int .i64 b)∧W.cell? ⟨V.heap.size+1,9,none⟩=some (.int .i64 d)∧W.cell? ⟨V.heap.size+1,10,none⟩=some (.int .i64 f)) (by kernel_rfl) (HSP.out _ _ _ _ _ _ hI0) (fun hZ=> ?_)
 refine wpAnyH_take (i:=0) rfl (by kernel_rfl) (by kernel_rfl) (by kernel_rfl) (fun _ _ _ h=>h) (yieldsIf_load_mid (by kernel_rfl) 33 (.tmp 19) rfl (gb) 0 rfl cs' _ (fun W hW=>hW.1) Tryz.underlying33 rfl HSZ.out) hZ ?_
 try simp only [Act.put]
 refine tkH 1 hZ ?_
 try simp only [Act.put]
 refine tkH 2 hZ ?_
 try simp only [Act.put]
 refine tkH 3 hZ ?_
 try simp only [Act.put]
 refine tkH 4 hZ ?_
 try simp only [Act.put]
 refine tkH 5 hZ ?_
 try simp only [Act.put]
 refine tkH 6 hZ ?_
 try simp only [Act.put]
 refine tkH 7 hZ ?_
 try simp only [Act.put]
 refine tkH 10 hZ ?_
 try simp only [Act.put]
 refine rdH 8 fun K hK=> ?_
 go_simp
 refine(HCC.out _ _ _ hI0).mono ?_
 rintro e v1 ⟨rfl,hI1⟩
 refine hK.out _ _ (HSP.out _ _ _ _ _ _ hI1) (fun hZ=> ?_)
 clear hK K
 try simp only [Act.put]
 refine rdH 9 fun K hK=> ?_
 go_simp
 refine(num_any _ _).mono ?_
 rintro e v2 ⟨rfl,rfl⟩
 have hI2:=hI1
 refine hK.out _ _ (HSP.out _ _ _ _ _ _ hI2) (fun hZ=> ?_)
 clear hK K
 try simp only [Act.put]
 refine tkH 11 hZ ?_
 try simp only [Act.put]
 refine rdH 12 fun K hK=> ?_
 refine step_store_mid rfl 33 _ _ rfl (V.heap.size+1+1) 0 cs'.toArray (by simp [Act.eval]) (by simp [Act.eval]) (row_there hI2.row6 (by rw [List.size_toArray,hI2.zlen,HLEN.out])) HSZ2.out HONE.out ?_
 have hI3:=hI2.six H cs' HLEN.out
 refine hK.out _ _ (HSP.out _ _ _ _ _ _ hI3) (fun hZ=> ?_)
 clear hK K
 try simp only [Act.put]
 refine rdH 13 fun K hK=> ?_
 go_simp
 refine hK.out _ _ (HSP.out _ _ _ _ _ _ hI3) (fun hZ=> ?_)
 clear hK K
 try simp only [Act.put]
 refine wpAnyH_done (by kernel_rfl) (NoPanic.normal ?_) _
 go_wp2_with fail
 exact bodyPost_ret (res_cell2 Tryz.results7 rfl (bk_load hI3.row6 HLEN.out)) rfl (HQ.out _ _ hI3.fin)
theorem act_gput (h:PsL Has W0 v B n cs B L V) (hT:T W0) (x s c i st sz:Int) (no:Nat) (a b d f:Int) (hx:x=4):
  Calls Tryz.prog 7 #[v,bkV cs,.agg (aca x s c i st sz no a b d f)] V fun e V'=>∃cs' B',ActQ Has W0 v B' n cs' B' L e V'∧∀k,(B' k).isSome=(B k).isSome:=by
 by_cases hE:gputE B s i a b d f=0
 ·obtain⟨s',i',a1,a2,a3,a4,g,rfl,rfl,rfl,rfl,rfl,rfl,hs4,hi,hr,hf⟩:=gput_zero hE
  have hr':=hr
  obtain⟨r1,r2,r3,r4,r5,r6,r7,r8⟩:=hr
  refine(act_gput_any H h x _ c _ st sz no _ _ _ _ hx (upd B s' (some (putB g (greatO i') (greatB a1 a2 a3 a4)))) 0 (fun {W} hI=> ?_) (fun {cs' M W} hI=> ?_)).mono ?_
  ·refine(rgput_yes cs B g s' i' a1 a2 a3 a4 W hI.ps.bl hs4 hi hf (by omega) (by omega) (by omega) (by omega)).mono ?_
   rintro e W' ⟨cs2,e1,e2,e3,e4⟩
   exact⟨cs2,e1,hI.new H e4 e3 e2⟩
  ·exact hI.call (P:=fun e=>e= .returned (.int .i64 0)) (fun F hF=>H.gputYes s' i' a1 a2 a3 a4 (hI.ps.t H hT) hF hs4 hi hr' hf)
  ·rintro e V' ⟨cs',hq⟩
   exact⟨cs',_,hq,fun k=>upd_some hf k⟩
 ·refine(act_gput_any H h x _ c _ st sz no a b d f hx B (gputE B s i a b d f) (fun {W} hI=> ?_) (fun {cs' M W} hI=> ?_)).mono ?_
  ·exact((rgput_no cs B s i a b d f W hI.ps.bl hE).mono fun e W' ⟨e1,e2⟩=>⟨cs,e1,hI.below H e2⟩)
  ·exact hI.call (P:=fun e=>e= .returned (.int .i64 (gputE B s i a b d f))) (fun F hF=>H.gputNo s i a b d f (hI.ps.t H hT) hF hE)
  ·rintro e V' ⟨cs',hq⟩
   exact⟨cs',B,hq,fun _=>rfl⟩
end
theorem get_zero {B:Bks} {s c i:Int} (h:getE B s c i=0):∃(s' c' i':Nat) (f:Byts),s=s'∧c=c'∧i=i'∧okS s' c' i'∧B s'=some f:=by
 unfold getE at h
 split at h
 ·rename_i h2
  exact absurd h h2
 ·rename_i h2
  obtain⟨s',c',i',rfl,rfl,rfl,hok⟩:=asks_zero (Classical.byContradiction fun hn=>h2 hn)
  obtain⟨f,hf⟩:=openE_zero h
  exact⟨s',c',i',f,rfl,rfl,rfl,hok,hf⟩
section
variable {T:World→Prop} {Has:HasT} (H:MApi T Has)
variable {W0 V W W':World} {v:Value} {B B' B2 B3:Bks} {n n':Nat} {cs cs' ws xs zs:List Value} {M L:List Rw}
include H
theorem act_get_any (h:PsL Has W0 v B n cs B L V) (x s c i st sz:Int) (no:Nat) (a b d f:Int) (hx:x=3) (a1 a2:Int) (a3:Nat) (E:Int)
  (HD:∀{W},In Has W0 V v B n cs cs (acl x s c i st sz no a b d f) B zeroBk [] L W→Calls Tryz.prog 23 #[bkV cs,spV s c i] W fun e W'=>e= .returned (.tuple #[.agg #[.int .i64 a1,.int .i64 a2,.int .u32 (a3:Int)],.int .i64 E])∧Below W.heap.size W W')
  (HC:∀{M W},In Has W0 V v B n cs cs (acl x s c i st sz no a b d f) B zeroBk M L W→Calls Tryz.prog 14 #[v,spV s c i] W fun e W'=>e= .returned (.tuple #[.agg #[.int .i64 a1,.int .i64 a2,.int .u32 (a3:Int)],.int .i64 E])∧In Has W0 V v B n cs cs (acl x s c i st sz no a b d f) B zeroBk M L W'):
  Calls Tryz.prog 7 #[v,bkV cs,.agg (aca x s c i st sz no a b d f)] V (ActQ Has W0 v B n cs B L):=by
 obtain⟨W1,hW1⟩:=Nm (((V.alloc (.cells cs.toArray 33)).alloc (.cells (aca x s c i st sz no a b d f) 45)).alloc (.cells zba 33))
 have hS0:In Has W0 V v B n cs cs (acl x s c i st sz no a b d f) B zeroBk [] L W1:=by rw [hW1];exact In.start H h (acl x s c i st sz no a b d f)
 have q0:(x == 0)=false:=by rw [beq_eq_false_iff_ne];omega
 have q1:(x == 1)=false:=by rw [beq_eq_false_iff_ne];omega
 have q2:(x == 2)=false:=by rw [beq_eq_false_iff_ne];omega
 have q3:(x == 3)=true:=by rw [hx];rfl
 have hrg:=row_range hS0.row4
 rw [hW1]at hrg
 have HRG:=Lh hrg
 clear hrg
 obtain⟨cs',hcs⟩:∃cs',cs'=cs:=⟨_,rfl⟩
 subst hcs
 have HLEN:=Lh h.bl.len
 have HSZ:=Lh (show(Tryz.prog.info? 33).map (·.size)=some cs'.length by rw [HLEN.out];exact bk_size)
 have HSZ2:=Lh (show(Tryz.prog.info? 33).map (·.size)=some cs'.toArray.size by rw [List.size_toArray,HLEN.out];exact bk_size)
 have HONE:=Lh (all_oneCell_toArray h.bl.one)
 have HDD:=Lh (hS0.pure H (P:=fun e=>e= .returned (.tuple #[.agg #[.int .i64 a1,.int .i64 a2,.int .u32 (a3:Int)],.int .i64 E])) (HD hS0))
 have HCC:Hid (∀(M:List Rw) (W:World),In Has W0 V v B n cs' cs' (acl x s c i st sz no a b d f) B zeroBk M L W→Calls Tryz.prog 14 #[v,spV s c i] W fun e W'=>e= .returned (.tuple #[.agg #[.int .i64 a1,.int .i64 a2,.int .u32 (a3:Int)],.int .i64 E])∧In Has W0 V v B n cs' cs' (acl x s c i st sz no a b d f) B zeroBk M L W'):=Lh (fun _ _ hI=>HC hI)
 have HSP:Hid (∀(g17 g15:Nat) (zs:List Value) (W:World),In Has W0 V v B n cs' cs' (acl x s c i st sz no a b d f) B zs [(g17,41,[.int .i64 a1,.int .i64 a2,.int .u32 (a3:Int)]),(g15,41,[.int .i64 a1,.int .i64 a2,.int .u32 (a3:Int)])] L W→W.rangeAt V.heap.size 0 cs'∧W.cell? ⟨g17,0,none⟩=some (.int .i64 a1)∧W.cell? ⟨g17,1,none⟩=some (.int .i64 a2)∧W.cell? ⟨g17,2,none⟩=some (.int .u32 (a3:Int))∧W.cell? ⟨g15,0,none⟩=some (.int .i64 a1)∧W.cell? ⟨g15,1,none⟩=some (.int .i64 a2)∧W.cell? ⟨g15,2,none⟩=some (.int .u32 (a3:Int))):=Lh (fun _ _ _ _ hI=>⟨row_range hI.row4,(hI.rowM 0 _ rfl).cell 0,(hI.rowM 0 _ rfl).cell 1,(hI.rowM 0 _ rfl).cell 2,(hI.rowM 1 _ rfl).cell 0,(hI.rowM 1 _ rfl).cell 1,(hI.rowM 1 _ rfl).cell 2⟩)
 have HQ:Hid (∀(W:World),PsL Has W0 v B n cs' B L W→ActQ Has W0 v B n cs' B L (.returned (.tuple #[bkV cs',.bool true])) W):=Lh (fun _ hp=>⟨rfl,hp⟩)
 have eE:(E == E)=true:=by simp
 have e1:(a1 == a1)=true:=by simp
 have e2:(a2 == a2)=true:=by simp
 have e3:((a3:Int) == (a3:Int))=true:=by simp
 clear h hx HD HC
 go_enter Tryz.func7,Tryz.ntmps7
 go_wp2_with (refine wpList_load_mid rfl 33 (.tmp 4) rfl V.heap.size 0 rfl cs' _ HRG.out Tryz.underlying33 rfl HSZ.out ?_)
 rw [←hW1]
 clear hW1
 refine HDD.out.mono ?_
 rintro e w2 ⟨rfl,hD⟩
 clear hS0
 have hD3:=hD.alloc H 41 [.int .i64 a1,.int .i64 a2,.int .u32 (a3:Int)]
 have HD3:=Lh hD3
 have d1:=hD3.row5.cell 1
 have d2:=hD3.row5.cell 2
 have d3:=hD3.row5.cell 3
 simp only [List.getElem?_cons_succ,List.getElem?_cons_zero]at d1 d2 d3
 clear hD hD3
 go_wp2_with fail
 obtain⟨W3,hW3⟩:=Nm (w2.alloc (.cells #[.int .i64 a1,.int .i64 a2,.int .u32 (a3:Int)] 41))
 have hB3:In Has W0 V v B n cs' cs' (acl x s c i st sz no a b d f) B zeroBk [(w2.heap.size,41,[.int .i64 a1,.int .i64 a2,.int .u32 (a3:Int)])] L W3:=by rw [hW3];exact HD3.out
 rw [←hW3]
 have HB3:=Lh hB3
 clear hW3 hB3 HD3
 obtain⟨g15,hg15⟩:=Nm (w2.heap.size)
 rw [←hg15]at HB3
 rw [←hg15]
 clear hg15 d1 d2 d3
 refine(HCC.out _ _ HB3.out).mono ?_
 rintro e w4 ⟨rfl,hD4⟩
 have HD5:=Lh (hD4.alloc H 41 [.int .i64 a1,.int .i64 a2,.int .u32 (a3:Int)])
 clear hD4 HB3
 go_wp2_with fail
 obtain⟨W5,hW5⟩:=Nm (w4.alloc (.cells #[.int .i64 a1,.int .i64 a2,.int .u32 (a3:Int)] 41))
 have hB5:In Has W0 V v B n cs' cs' (acl x s c i st sz no a b d f) B zeroBk [(w4.heap.size,41,[.int .i64 a1,.int .i64 a2,.int .u32 (a3:Int)]),(g15,41,[.int .i64 a1,.int .i64 a2,.int .u32 (a3:Int)])] L W5:=by rw [hW5];exact HD5.out
 rw [←hW5]
 obtain⟨g17,hg17⟩:=Nm (w4.heap.size)
 rw [←hg17]at hB5
 rw [←hg17]
 clear hW5 HD5 hg17
 have hI0:=hB5.below H (show Below W5.heap.size W5 W5.drew from Br.drew)
 clear hB5
 refine wp_region_noPanic ?_
 refine wp_region_held_drew (S:=fun W=>W.rangeAt V.heap.size 0 cs'∧W.cell? ⟨g17,0,none⟩=some (.int .i64 a1)∧W.cell? ⟨g17,1,none⟩=some (.int .i64 a2)∧W.cell? ⟨g17,2,none⟩=some (.int .u32 (a3:Int))∧W.cell? ⟨g15,0,none⟩=some (.int .i64 a1)∧W.cell? ⟨g15,1,none⟩=some (.int .i64 a2)∧W.cell? ⟨g15,2,none⟩=some (.int .u32 (a3:Int))) (by kernel_rfl) (HSP.out _ _ _ _ hI0) (fun hZ=> ?_)
 refine wpAnyH_take (i:=0) rfl (by kernel_rfl) (by kernel_rfl) (by kernel_rfl) (fun _ _ _ h=>h) (yieldsIf_load_mid (by kernel_rfl) 33 (.tmp 4) rfl (V.heap.size) 0 rfl cs' _ (fun W hW=>hW.1) Tryz.underlying33 rfl HSZ.out) hZ ?_
 try simp only [Act.put]
 refine tkH 1 hZ ?_
 try simp only [Act.put]
 refine tkH 2 hZ ?_
 try simp only [Act.put]
 refine tkH 3 hZ ?_
 try simp only [Act.put]
 refine tkH 4 hZ ?_
 try simp only [Act.put]
 refine tkH 5 hZ ?_
 try simp only [Act.put]
 refine tkH 7 hZ ?_
 try simp only [Act.put]
 refine rdH 6 fun K hK=> ?_
 go_simp
 refine(num_any _ _).mono ?_
 rintro e v1 ⟨rfl,rfl⟩
 have hI1:=hI0
 refine hK.out _ _ (HSP.out _ _ _ _ hI1) (fun hZ=> ?_)
 clear hK K
 try simp only [Act.put]
 refine tkH 8 hZ ?_
 try simp only [Act.put]
 refine tkH 9 hZ ?_
 try simp only [Act.put]
 refine rdH 10 fun K hK=> ?_
 refine step_store_mid rfl 33 _ _ rfl (V.heap.size+1+1) 0 cs'.toArray (by simp [Act.eval]) (by simp [Act.eval]) (row_there hI1.row6 (by rw [List.size_toArray,hI1.zlen,HLEN.out])) HSZ2.out HONE.out ?_
 have hI2:=hI1.six H cs' HLEN.out
 refine hK.out _ _ (HSP.out _ _ _ _ hI2) (fun hZ=> ?_)
 clear hK K
 try simp only [Act.put]
 refine rdH 11 fun K hK=> ?_
 go_simp
 refine hK.out _ _ (HSP.out _ _ _ _ hI2) (fun hZ=> ?_)
 clear hK K
 try simp only [Act.put]
 refine wpAnyH_done (by kernel_rfl) (NoPanic.normal ?_) _
 go_wp2_with fail
 exact bodyPost_ret (res_cell2 Tryz.results7 rfl (bk_load hI2.row6 HLEN.out)) rfl (HQ.out _ hI2.fin)
theorem act_get (h:PsL Has W0 v B n cs B L V) (hT:T W0) (x s c i st sz:Int) (no:Nat) (a b d f:Int) (hx:x=3):
  Calls Tryz.prog 7 #[v,bkV cs,.agg (aca x s c i st sz no a b d f)] V (ActQ Has W0 v B n cs B L):=by
 by_cases hE:getE B s c i=0
 ·obtain⟨s',c',i',g,rfl,rfl,rfl,hok,hf⟩:=get_zero hE
  obtain⟨_,_,_,hgd⟩:=h.bl.opn s' hok.1 g hf
  obtain⟨a1,a2,a3,hr⟩:=hgd.recs c' i' hok.2.1 hok.2.2
  exact act_get_any H h x _ _ _ st sz no a b d f hx (a1:Int) (a2:Int) a3 0 (fun {W} hI=>rget_yes cs B g s' c' i' a1 a2 a3 W hI.ps.bl hok hf hr)
   (fun {M W} hI=>hI.call (P:=fun e=>e= .returned (.tuple #[rcV (a1:Int) (a2:Int) a3,.int .i64 0])) (fun F hF=>H.getYes s' c' i' (hI.ps.t H hT) hF hok hf hr))
 ·exact act_get_any H h x s c i st sz no a b d f hx 0 0 0 (getE B s c i) (fun {W} hI=>rget_no cs B s c i W hI.ps.bl hE)
   (fun {M W} hI=>hI.call (P:=fun e=>e= .returned (.tuple #[rcV 0 0 0,.int .i64 (getE B s c i)])) (fun F hF=>H.getNo s c i (hI.ps.t H hT) hF hE))
end
section
variable {T:World→Prop} {Has:HasT} (H:MApi T Has)
variable {W0 V W W':World} {v:Value} {B B' B2 B3:Bks} {n n':Nat} {cs cs' ws xs zs:List Value} {M L:List Rw}
include H
theorem act_gget_any (h:PsL Has W0 v B n cs B L V) (x s c i st sz:Int) (no:Nat) (a b d f:Int) (hx:x=5) (a1 a2 a3 a4:Int) (E:Int)
  (HD:∀{W},In Has W0 V v B n cs cs (acl x s c i st sz no a b d f) B zeroBk [] L W→Calls Tryz.prog 25 #[bkV cs,.int .i64 s,.int .i64 i] W fun e W'=>e= .returned (.tuple #[.agg #[.int .i64 a1,.int .i64 a2,.int .i64 a3,.int .i64 a4],.int .i64 E])∧Below W.heap.size W W')
  (HC:∀{M W},In Has W0 V v B n cs cs (acl x s c i st sz no a b d f) B zeroBk M L W→Calls Tryz.prog 15 #[v,.int .i64 s,.int .i64 i] W fun e W'=>e= .returned (.tuple #[.agg #[.int .i64 a1,.int .i64 a2,.int .i64 a3,.int .i64 a4],.int .i64 E])∧In Has W0 V v B n cs cs (acl x s c i st sz no a b d f) B zeroBk M L W'):
  Calls Tryz.prog 7 #[v,bkV cs,.agg (aca x s c i st sz no a b d f)] V (ActQ Has W0 v B n cs B L):=by
 obtain⟨W1,hW1⟩:=Nm (((V.alloc (.cells cs.toArray 33)).alloc (.cells (aca x s c i st sz no a b d f) 45)).alloc (.cells zba 33))
 have hS0:In Has W0 V v B n cs cs (acl x s c i st sz no a b d f) B zeroBk [] L W1:=by rw [hW1];exact In.start H h (acl x s c i st sz no a b d f)
 have q0:(x == 0)=false:=by rw [beq_eq_false_iff_ne];omega
 have q1:(x == 1)=false:=by rw [beq_eq_false_iff_ne];omega
 have q2:(x == 2)=false:=by rw [beq_eq_false_iff_ne];omega
 have q3:(x == 3)=false:=by rw [beq_eq_false_iff_ne];omega
 have q4:(x == 4)=false:=by rw [beq_eq_false_iff_ne];omega
 have q5:(x == 5)=true:=by rw [hx];rfl
 have hrg:=row_range hS0.row4
 rw [hW1]at hrg
 have HRG:=Lh hrg
 clear hrg
 obtain⟨cs',hcs⟩:∃cs',cs'=cs:=⟨_,rfl⟩
 subst hcs
 have HLEN:=Lh h.bl.len
 have HSZ:=Lh (show(Tryz.prog.info? 33).map (·.size)=some cs'.length by rw [HLEN.out];exact bk_size)
 have HSZ2:=Lh (show(Tryz.prog.info? 33).map (·.size)=some cs'.toArray.size by rw [List.size_toArray,HLEN.out];exact bk_size)
 have HONE:=Lh (all_oneCell_toArray h.bl.one)
 have HDD:=Lh (hS0.pure H (P:=fun e=>e= .returned (.tuple #[.agg #[.int .i64 a1,.int .i64 a2,.int .i64 a3,.int .i64 a4],.int .i64 E])) (HD hS0))
 have HCC:Hid (∀(M:List Rw) (W:World),In Has W0 V v B n cs' cs' (acl x s c i st sz no a b d f) B zeroBk M L W→Calls Tryz.prog 15 #[v,.int .i64 s,.int .i64 i] W fun e W'=>e= .returned (.tuple #[.agg #[.int .i64 a1,.int .i64 a2,.int .i64 a3,.int .i64 a4],.int .i64 E])∧In Has W0 V v B n cs' cs' (acl x s c i st sz no a b d f) B zeroBk M L W'):=Lh (fun _ _ hI=>HC hI)
 have HSP:Hid (∀(g17 g15:Nat) (zs:List Value) (W:World),In Has W0 V v B n cs' cs' (acl x s c i st sz no a b d f) B zs [(g17,43,[.int .i64 a1,.int .i64 a2,.int .i64 a3,.int .i64 a4]),(g15,43,[.int .i64 a1,.int .i64 a2,.int .i64 a3,.int .i64 a4])] L W→W.rangeAt V.heap.size 0 cs'∧W.cell? ⟨g17,0,none⟩=some (.int .i64 a1)∧W.cell? ⟨g17,1,none⟩=some (.int .i64 a2)∧W.cell? ⟨g17,2,none⟩=some (.int .i64 a3)∧W.cell? ⟨g17,3,none⟩=some (.int .i64 a4)∧W.cell? ⟨g15,0,none⟩=some (.int .i64 a1)∧W.cell? ⟨g15,1,none⟩=some (.int .i64 a2)∧W.cell? ⟨g15,2,none⟩=some (.int .i64 a3)∧W.cell? ⟨g15,3,none⟩=some (.int .i64 a4)):=Lh (fun _ _ _ _ hI=>⟨row_range hI.row4,(hI.rowM 0 _ rfl).cell 0,(hI.rowM 0 _ rfl).cell 1,(hI.rowM 0 _ rfl).cell 2,(hI.rowM 0 _ rfl).cell 3,(hI.rowM 1 _ rfl).cell 0,(hI.rowM 1 _ rfl).cell 1,(hI.rowM 1 _ rfl).cell 2,(hI.rowM 1 _ rfl).cell 3⟩)
 have HQ:Hid (∀(W:World),PsL Has W0 v B n cs' B L W→ActQ Has W0 v B n cs' B L (.returned (.tuple #[bkV cs',.bool true])) W):=Lh (fun _ hp=>⟨rfl,hp⟩)
 have eE:(E == E)=true:=by simp
 have e1:(a1 == a1)=true:=by simp
 have e2:(a2 == a2)=true:=by simp
 have e3:(a3 == a3)=true:=by simp
 have e4:(a4 == a4)=true:=by simp
 clear h hx HD HC
 go_enter Tryz.func7,Tryz.ntmps7
 go_wp2_with (refine wpList_load_mid rfl 33 (.tmp 4) rfl V.heap.size 0 rfl cs' _ HRG.out Tryz.underlying33 rfl HSZ.out ?_)
 rw [←hW1]
 clear hW1
 refine HDD.out.mono ?_
 rintro e w2 ⟨rfl,hD⟩
 clear hS0
 have hD3:=hD.alloc H 43 [.int .i64 a1,.int .i64 a2,.int .i64 a3,.int .i64 a4]
 have HD3:=Lh hD3
 have d3:=hD3.row5.cell 3
 simp only [List.getElem?_cons_succ,List.getElem?_cons_zero]at d3
 clear hD hD3
 go_wp2_with fail
 obtain⟨W3,hW3⟩:=Nm (w2.alloc (.cells #[.int .i64 a1,.int .i64 a2,.int .i64 a3,.int .i64 a4] 43))
 have hB3:In Has W0 V v B n cs' cs' (acl x s c i st sz no a b d f) B zeroBk [(w2.heap.size,43,[.int .i64 a1,.int .i64 a2,.int .i64 a3,.int .i64 a4])] L W3:=by rw [hW3];exact HD3.out
 rw [←hW3]
 have HB3:=Lh hB3
 clear hW3 hB3 HD3
 obtain⟨g15,hg15⟩:=Nm (w2.heap.size)
 rw [←hg15]at HB3
 rw [←hg15]
 clear hg15 d3
 refine(HCC.out _ _ HB3.out).mono ?_
 rintro e w4 ⟨rfl,hD4⟩
 have HD5:=Lh (hD4.alloc H 43 [.int .i64 a1,.int .i64 a2,.int .i64 a3,.int .i64 a4])
 clear hD4 HB3
 go_wp2_with fail
 obtain⟨W5,hW5⟩:=Nm (w4.alloc (.cells #[.int .i64 a1,.int .i64 a2,.int .i64 a3,.int .i64 a4] 43))
 have hB5:In Has W0 V v B n cs' cs' (acl x s c i st sz no a b d f) B zeroBk [(w4.heap.size,43,[.int .i64 a1,.int .i64 a2,.int .i64 a3,.int .i64 a4]),(g15,43,[.int .i64 a1,.int .i64 a2,.int .i64 a3,.int .i64 a4])] L W5:=by rw [hW5];exact HD5.out
 rw [←hW5]
 obtain⟨g17,hg17⟩:=Nm (w4.heap.size)
 rw [←hg17]at hB5
 rw [←hg17]
 clear hW5 HD5 hg17
 have hI0:=hB5.below H (show Below W5.heap.size W5 W5.drew from Br.drew)
 clear hB5
 refine wp_region_noPanic ?_
 refine wp_region_held_drew (S:=fun W=>W.rangeAt V.heap.size 0 cs'∧W.cell? ⟨g17,0,none⟩=some (.int .i64 a1)∧W.cell? ⟨g17,1,none⟩=some (.int .i64 a2)∧W.cell? ⟨g17,2,none⟩=some (.int .i64 a3)∧W.cell? ⟨g17,3,none⟩=some (.int .i64 a4)∧W.cell? ⟨g15,0,none⟩=some (.int .i64 a1)∧W.cell? ⟨g15,1,none⟩=some (.int .i64 a2)∧W.cell? ⟨g15,2,none⟩=some (.int .i64 a3)∧W.cell? ⟨g15,3,none⟩=some (.int .i64 a4)) (by kernel_rfl) (HSP.out _ _ _ _ hI0) (fun hZ=> ?_)
 refine wpAnyH_take (i:=0) rfl (by kernel_rfl) (by kernel_rfl) (by kernel_rfl) (fun _ _ _ h=>h) (yieldsIf_load_mid (by kernel_rfl) 33 (.tmp 4) rfl (V.heap.size) 0 rfl cs' _ (fun W hW=>hW.1) Tryz.underlying33 rfl HSZ.out) hZ ?_
 try simp only [Act.put]
 refine tkH 1 hZ ?_
 try simp only [Act.put]
 refine tkH 2 hZ ?_
 try simp only [Act.put]
 refine tkH 3 hZ ?_
 try simp only [Act.put]
 refine tkH 4 hZ ?_
 try simp only [Act.put]
 refine tkH 5 hZ ?_
 try simp only [Act.put]
 refine tkH 7 hZ ?_
 try simp only [Act.put]
 refine rdH 6 fun K hK=> ?_
 go_simp
 refine(num_any _ _).mono ?_
 rintro e v1 ⟨rfl,rfl⟩
 have hI1:=hI0
 refine hK.out _ _ (HSP.out _ _ _ _ hI1) (fun hZ=> ?_)
 clear hK K
 try simp only [Act.put]
 refine tkH 8 hZ ?_
 try simp only [Act.put]
 refine tkH 9 hZ ?_
 try simp only [Act.put]
 refine rdH 10 fun K hK=> ?_
 refine step_store_mid rfl 33 _ _ rfl (V.heap.size+1+1) 0 cs'.toArray (by simp [Act.eval]) (by simp [Act.eval]) (row_there hI1.row6 (by rw [List.size_toArray,hI1.zlen,HLEN.out])) HSZ2.out HONE.out ?_
 have hI2:=hI1.six H cs' HLEN.out
 refine hK.out _ _ (HSP.out _ _ _ _ hI2) (fun hZ=> ?_)
 clear hK K
 try simp only [Act.put]
 refine rdH 11 fun K hK=> ?_
 go_simp
 refine hK.out _ _ (HSP.out _ _ _ _ hI2) (fun hZ=> ?_)
 clear hK K
 try simp only [Act.put]
 refine wpAnyH_done (by kernel_rfl) (NoPanic.normal ?_) _
 go_wp2_with fail
 exact bodyPost_ret (res_cell2 Tryz.results7 rfl (bk_load hI2.row6 HLEN.out)) rfl (HQ.out _ hI2.fin)
theorem act_gget (h:PsL Has W0 v B n cs B L V) (hT:T W0) (x s c i st sz:Int) (no:Nat) (a b d f:Int) (hx:x=5):
  Calls Tryz.prog 7 #[v,bkV cs,.agg (aca x s c i st sz no a b d f)] V (ActQ Has W0 v B n cs B L):=by
 by_cases hE:ggetE B s i=0
 ·obtain⟨s',i',g,rfl,rfl,h4,h5,hf⟩:=gget_zero hE
  obtain⟨_,_,_,hgd⟩:=h.bl.opn s' h4 g hf
  obtain⟨a1,a2,a3,a4,hr⟩:=hgd.gres i' h5
  exact act_gget_any H h x _ c _ st sz no a b d f hx (a1:Int) (a2:Int) (a3:Int) (a4:Int) 0 (fun {W} hI=>rgget_yes cs B g s' i' a1 a2 a3 a4 W hI.ps.bl h4 h5 hf hr)
   (fun {M W} hI=>hI.call (P:=fun e=>e= .returned (.tuple #[gtV (a1:Int) (a2:Int) (a3:Int) (a4:Int),.int .i64 0])) (fun F hF=>H.ggetYes s' i' (hI.ps.t H hT) hF h4 h5 hf hr))
 ·exact act_gget_any H h x s c i st sz no a b d f hx 0 0 0 0 (ggetE B s i) (fun {W} hI=>rgget_no cs B s i W hI.ps.bl hE)
   (fun {M W} hI=>hI.call (P:=fun e=>e= .returned (.tuple #[gtV 0 0 0 0,.int .i64 (ggetE B s i)])) (fun F hF=>H.ggetNo s i (hI.ps.t H hT) hF hE))
end
section
variable {T:World→Prop} {Has:HasT} (H:MApi T Has)
variable {W0 V W W':World} {v:Value} {B B' B2 B3:Bks} {n n':Nat} {cs cs' ws xs zs:List Value} {M L:List Rw}
include H
theorem In.four (h:In Has W0 V v B n cs ws xs B2 zs M L W) (o:Nat) (bs:List Value):In Has W0 V v B n cs (Me.putAt ws o bs) xs B2 zs M L (W.setCells V.heap.size o bs.toArray.toList):=by
 have hr:=Row.setCells15 bs ws o W h.row4
 have hk:=keep_cells V.heap.size bs.toArray.toList o W (Keep.refl W)
 obtain⟨F,_,_,a0,_⟩:=h.ps.has
 have h1:=h.ps
 rw [show M ++ (V.heap.size+1+1,33,zs) :: (V.heap.size+1,45,xs) :: (V.heap.size,33,ws) :: L=(M ++ [(V.heap.size+1+1,33,zs),(V.heap.size+1,45,xs)]) ++ (V.heap.size,33,ws) :: L by simp]at h1
 have h2:=h1.set H hk hr (by have:=h.low;omega) (fun j A n c hj=>⟨(a0 j A n c hj).1,fun e=>by have:=h.off j A n c hj;omega⟩) (fun x hx=> ?_) (fun x hx=>by have:=h.lof x hx;omega)
 ·rw [show(M ++ [(V.heap.size+1+1,33,zs),(V.heap.size+1,45,xs)]) ++ (V.heap.size,33,Me.putAt ws o bs) :: L=M ++ (V.heap.size+1+1,33,zs) :: (V.heap.size+1,45,xs) :: (V.heap.size,33,Me.putAt ws o bs) :: L by simp]at h2
  exact⟨h2,h.off,h.mof,h.lof,h.low,by rw [cells_size];exact h.sz,h.zlen,h.lap⟩
 ·rcases List.mem_append.1 hx with hx | hx
  ·have:=h.mof x hx
   omega
  ·rcases List.mem_cons.1 hx with rfl | hx
   ·simp only;omega
   ·rcases List.mem_cons.1 hx with rfl | hx
    ·simp only;omega
    ·exact absurd hx (by simp)
omit H in
theorem noBook_one:noBook.toArray.all (·.oneCell')=true:=by kernel_rfl
theorem close_arg (h:PsL Has W0 v B n cs B L V) (x s c i st sz:Int) (no:Nat) (a b d f:Int) (hx:x=1) (hs:isB s 4=false)
  (HC:∀{W},In Has W0 V v (B) (n) cs cs (acl x s c i st sz no a b d f) (B) zeroBk [] L W→Calls Tryz.prog 18 #[v,.int .i64 s] W fun e W'=>e= .returned (.int .i64 2)∧In Has W0 V v (B) (n) cs cs (acl x s c i st sz no a b d f) (B) zeroBk [] L W'):
  Calls Tryz.prog 7 #[v,bkV cs,.agg (aca x s c i st sz no a b d f)] V (ActQ Has W0 v B n cs B L):=by
 obtain⟨W1,hW1⟩:=Nm (((V.alloc (.cells cs.toArray 33)).alloc (.cells (aca x s c i st sz no a b d f) 45)).alloc (.cells zba 33))
 have hS0:In Has W0 V v B n cs cs (acl x s c i st sz no a b d f) B zeroBk [] L W1:=by rw [hW1];exact In.start H h (acl x s c i st sz no a b d f)
 have q0:(x == 0)=false:=by rw [beq_eq_false_iff_ne];omega
 have q1:(x == 1)=true:=by rw [hx];rfl
 obtain⟨cs',hcs⟩:∃cs',cs'=cs:=⟨_,rfl⟩
 subst hcs
 have HCC:=Lh (HC hS0)
 have hsl:=Lh (fun w=>rslot_any s w)
 have eE:((2:Int) == (2:Int))=true:=by simp
 have HQ:Hid (∀(W:World),PsL Has W0 v B n cs' B L W→ActQ Has W0 v B n cs' B L (.returned (.tuple #[bkV cs',.bool true])) W):=Lh (fun _ hp=>⟨rfl,hp⟩)
 rw [hs]at hsl
 clear hs
 clear h hx HC
 go_enter Tryz.func7,Tryz.ntmps7
 go_wp2_with fail
 rw [←hW1]
 clear hW1
 refine HCC.out.mono ?_
 rintro e w2 ⟨rfl,hD⟩
 clear hS0 HCC
 go_wp2_with fail
 refine(hsl.out _).mono ?_
 rintro e wn ⟨rfl,rfl⟩
 go_wp2_with fail
 have hIq:=hD
 clear hD
 have HLEN:=Lh hIq.ps.bl.len
 have HSZ:=Lh (show(Tryz.prog.info? 33).map (·.size)=some cs'.length by rw [HLEN.out];exact bk_size)
 have HSZ2:=Lh (show(Tryz.prog.info? 33).map (·.size)=some cs'.toArray.size by rw [List.size_toArray,HLEN.out];exact bk_size)
 have HONE:=Lh (all_oneCell_toArray hIq.ps.bl.one)
 have HSP:Hid (∀(zs:List Value) (W:World),In Has W0 V v (B) (n) cs' cs' (acl x s c i st sz no a b d f) (B) zs [] L W→W.rangeAt V.heap.size 0 cs'):=Lh (fun _ _ hI=>row_range hI.row4)
 have hI0:=hIq.below H (show Below w2.heap.size w2 w2.drew from Br.drew)
 clear hIq
 refine wp_region_noPanic ?_
 refine wp_region_held_drew (S:=fun W=>W.rangeAt V.heap.size 0 cs') (by kernel_rfl) (HSP.out _ _ hI0) (fun hZ=> ?_)
 refine wpAnyH_take (i:=0) rfl (by kernel_rfl) (by kernel_rfl) (by kernel_rfl) (fun _ _ _ h=>h) (yieldsIf_load_mid (by kernel_rfl) 33 (.tmp 4) rfl (V.heap.size) 0 rfl cs' _ (fun W hW=>hW) Tryz.underlying33 rfl HSZ.out) hZ ?_
 try simp only [Act.put]
 refine tkH 1 hZ ?_
 try simp only [Act.put]
 refine rdH 2 fun K hK=> ?_
 go_simp
 refine(num_any _ _).mono ?_
 rintro e v1 ⟨rfl,rfl⟩
 have hI1:=hI0
 refine hK.out _ _ (HSP.out _ _ hI1) (fun hZ=> ?_)
 clear hK K
 try simp only [Act.put]
 refine tkH 3 hZ ?_
 try simp only [Act.put]
 refine rdH 4 fun K hK=> ?_
 refine step_store_mid rfl 33 _ _ rfl (V.heap.size+1+1) 0 cs'.toArray (by simp [Act.eval]) (by simp [Act.eval]) (row_there hI1.row6 (by rw [List.size_toArray,hI1.zlen,HLEN.out])) HSZ2.out HONE.out ?_
 have hI2:=hI1.six H cs' HLEN.out
 refine hK.out _ _ (HSP.out _ _ hI2) (fun hZ=> ?_)
 clear hK K
 try simp only [Act.put]
 refine rdH 5 fun K hK=> ?_
 go_simp
 refine hK.out _ _ (HSP.out _ _ hI2) (fun hZ=> ?_)
 clear hK K
 try simp only [Act.put]
 refine wpAnyH_done (by kernel_rfl) (NoPanic.normal ?_) _
 go_wp2_with fail
 exact bodyPost_ret (res_cell2 Tryz.results7 rfl (bk_load hI2.row6 HLEN.out)) rfl (HQ.out _ hI2.fin)
theorem close_none (h:PsL Has W0 v B n cs B L V) (x:Int) (s:Nat) (c i st sz:Int) (no:Nat) (a b d f:Int) (hx:x=1) (hs4:s < 4) (hb:B s=none)
  (HC:∀{W},In Has W0 V v (B) (n) cs cs (acl x s c i st sz no a b d f) (B) zeroBk [] L W→Calls Tryz.prog 18 #[v,.int .i64 s] W fun e W'=>e= .returned (.int .i64 5)∧In Has W0 V v (B) (n) cs cs (acl x s c i st sz no a b d f) (B) zeroBk [] L W'):
  Calls Tryz.prog 7 #[v,bkV cs,.agg (aca x s c i st sz no a b d f)] V (ActQ Has W0 v B n cs B L):=by
 obtain⟨W1,hW1⟩:=Nm (((V.alloc (.cells cs.toArray 33)).alloc (.cells (aca x s c i st sz no a b d f) 45)).alloc (.cells zba 33))
 have hS0:In Has W0 V v B n cs cs (acl x s c i st sz no a b d f) B zeroBk [] L W1:=by rw [hW1];exact In.start H h (acl x s c i st sz no a b d f)
 have q0:(x == 0)=false:=by rw [beq_eq_false_iff_ne];omega
 have q1:(x == 1)=true:=by rw [hx];rfl
 obtain⟨cs',hcs⟩:∃cs',cs'=cs:=⟨_,rfl⟩
 subst hcs
 have HCC:=Lh (HC hS0)
 have hsl:=Lh (fun w=>rslot_any s w)
 have eE:((5:Int) == (5:Int))=true:=by simp
 have HQ:Hid (∀(W:World),PsL Has W0 v B n cs' B L W→ActQ Has W0 v B n cs' B L (.returned (.tuple #[bkV cs',.bool true])) W):=Lh (fun _ hp=>⟨rfl,hp⟩)
 have HSH:=Lh (h.bl.shut s hs4 hb)
 have hsb:isB (s:Int) 4=true:=isB_yes (n:=4) hs4
 rw [hsb]at hsl
 have y0:(0:Int)≤(s:Int)∧(s:Int) < 4:=by omega
 obtain⟨y01,y02⟩:=y0
 have HS4:=Lh hs4
 clear h hx HC hsb hb hs4
 go_enter Tryz.func7,Tryz.ntmps7
 go_wp2_with fail
 rw [←hW1]
 clear hW1
 refine HCC.out.mono ?_
 rintro e w2 ⟨rfl,hD⟩
 clear hS0 HCC
 have c31:w2.cell? ⟨V.heap.size,s*10,none⟩=some (.bool false):=(hD.row4.cell _).trans HSH.out
 go_wp2_with fail
 refine(hsl.out _).mono ?_
 rintro e wn ⟨rfl,rfl⟩
 go_wp2_with fail
 clear c31
 have hIq:=hD
 clear hD
 have HLEN:=Lh hIq.ps.bl.len
 have HSZ:=Lh (show(Tryz.prog.info? 33).map (·.size)=some cs'.length by rw [HLEN.out];exact bk_size)
 have HSZ2:=Lh (show(Tryz.prog.info? 33).map (·.size)=some cs'.toArray.size by rw [List.size_toArray,HLEN.out];exact bk_size)
 have HONE:=Lh (all_oneCell_toArray hIq.ps.bl.one)
 have HSP:Hid (∀(zs:List Value) (W:World),In Has W0 V v (B) (n) cs' cs' (acl x s c i st sz no a b d f) (B) zs [] L W→W.rangeAt V.heap.size 0 cs'):=Lh (fun _ _ hI=>row_range hI.row4)
 have hI0:=hIq.below H (show Below w2.heap.size w2 w2.drew from Br.drew)
 clear hIq
 refine wp_region_noPanic ?_
 refine wp_region_held_drew (S:=fun W=>W.rangeAt V.heap.size 0 cs') (by kernel_rfl) (HSP.out _ _ hI0) (fun hZ=> ?_)
 refine wpAnyH_take (i:=0) rfl (by kernel_rfl) (by kernel_rfl) (by kernel_rfl) (fun _ _ _ h=>h) (yieldsIf_load_mid (by kernel_rfl) 33 (.tmp 4) rfl (V.heap.size) 0 rfl cs' _ (fun W hW=>hW) Tryz.underlying33 rfl HSZ.out) hZ ?_
 try simp only [Act.put]
 refine tkH 1 hZ ?_
 try simp only [Act.put]
 refine rdH 2 fun K hK=> ?_
 go_simp
 refine(num_any _ _).mono ?_
 rintro e v1 ⟨rfl,rfl⟩
 have hI1:=hI0
 refine hK.out _ _ (HSP.out _ _ hI1) (fun hZ=> ?_)
 clear hK K
 try simp only [Act.put]
 refine tkH 3 hZ ?_
 try simp only [Act.put]
 refine rdH 4 fun K hK=> ?_
 refine step_store_mid rfl 33 _ _ rfl (V.heap.size+1+1) 0 cs'.toArray (by simp [Act.eval]) (by simp [Act.eval]) (row_there hI1.row6 (by rw [List.size_toArray,hI1.zlen,HLEN.out])) HSZ2.out HONE.out ?_
 have hI2:=hI1.six H cs' HLEN.out
 refine hK.out _ _ (HSP.out _ _ hI2) (fun hZ=> ?_)
 clear hK K
 try simp only [Act.put]
 refine rdH 5 fun K hK=> ?_
 go_simp
 refine hK.out _ _ (HSP.out _ _ hI2) (fun hZ=> ?_)
 clear hK K
 try simp only [Act.put]
 refine wpAnyH_done (by kernel_rfl) (NoPanic.normal ?_) _
 go_wp2_with fail
 exact bodyPost_ret (res_cell2 Tryz.results7 rfl (bk_load hI2.row6 HLEN.out)) rfl (HQ.out _ hI2.fin)
theorem close_done (h:PsL Has W0 v B n cs B L V) (x:Int) (s:Nat) (c i st sz:Int) (no:Nat) (a b d f:Int) (hx:x=1) (g:Byts) (hs4:s < 4) (hb:B s=some g)
  (HC:∀{W},In Has W0 V v (B) (n) cs cs (acl x s c i st sz no a b d f) (B) zeroBk [] L W→Calls Tryz.prog 18 #[v,.int .i64 s] W fun e W'=>e= .returned (.int .i64 0)∧In Has W0 V v (upd B s none) (n+48) cs cs (acl x s c i st sz no a b d f) (B) zeroBk [] L W'):
  Calls Tryz.prog 7 #[v,bkV cs,.agg (aca x s c i st sz no a b d f)] V (ActQ Has W0 v (upd B s none) (n+48) (Me.putAt cs (s*10) noBook) (upd B s none) L):=by
 obtain⟨W1,hW1⟩:=Nm (((V.alloc (.cells cs.toArray 33)).alloc (.cells (aca x s c i st sz no a b d f) 45)).alloc (.cells zba 33))
 have hS0:In Has W0 V v B n cs cs (acl x s c i st sz no a b d f) B zeroBk [] L W1:=by rw [hW1];exact In.start H h (acl x s c i st sz no a b d f)
 have q0:(x == 0)=false:=by rw [beq_eq_false_iff_ne];omega
 have q1:(x == 1)=true:=by rw [hx];rfl
 have HCC:=Lh (HC hS0)
 have hsl:=Lh (fun w=>rslot_any s w)
 have eE:((0:Int) == (0:Int))=true:=by simp
 obtain⟨cs',hcs⟩:∃cs',cs'=Me.putAt cs (s*10) noBook:=⟨_,rfl⟩
 rw [←hcs]
 have HQ:Hid (∀(W:World),PsL Has W0 v (upd B s none) (n+48) cs' (upd B s none) L W→ActQ Has W0 v (upd B s none) (n+48) cs' (upd B s none) L (.returned (.tuple #[bkV cs',.bool true])) W):=Lh (fun _ hp=>⟨rfl,hp⟩)
 have HSH:=Lh (h.bl.opn s hs4 g hb).1
 have hsb:isB (s:Int) 4=true:=isB_yes (n:=4) hs4
 rw [hsb]at hsl
 have y0:(0:Int)≤(s:Int)∧(s:Int) < 4:=by omega
 obtain⟨y01,y02⟩:=y0
 have HS4:=Lh hs4
 have HST:Hid (∀(W:World),In Has W0 V v (upd B s none) (n+48) cs cs (acl x s c i st sz no a b d f) (B) zeroBk [] L W→In Has W0 V v (upd B s none) (n+48) cs' cs' (acl x s c i st sz no a b d f) (upd B s none) zeroBk [] L (W.setCells V.heap.size (s*10) (noBook.toArray).toList)∧W.there V.heap.size (s*10) (noBook.toArray).size):=Lh (fun W hI=>by
  have hl:=hI.ps.bl.len
  rw [hcs]
  exact⟨(hI.new H Br (NewL.putAt (fun j A n c hj=>by have hmem:=List.mem_of_getElem? hj;simp at hmem) (by rw [hl];show s*10+10≤40;omega)) (hI.ps.bl.empty Br hs4)).four H (s*10) noBook,fun j hj=>⟨by
   rw [hI.row4.cell,List.getElem?_eq_getElem (by rw [hl];have hj':j < 10:=hj;omega)];rfl,hI.row4.frozen _⟩⟩)
 clear h hx HC hsb hb hs4 hcs
 go_enter Tryz.func7,Tryz.ntmps7
 go_wp2_with fail
 rw [←hW1]
 clear hW1
 refine HCC.out.mono ?_
 rintro e w2 ⟨rfl,hD⟩
 clear hS0 HCC
 have c31:w2.cell? ⟨V.heap.size,s*10,none⟩=some (.bool true):=(hD.row4.cell _).trans HSH.out
 obtain⟨g1,g2⟩:=HST.out _ hD
 have G1:=Lh g1
 have G2:=Lh g2
 clear g1 g2 hD HST
 go_wp2_with fail
 refine(hsl.out _).mono ?_
 rintro e wn ⟨rfl,rfl⟩
 go_wp2_with (refine wpList_store_mid rfl 31 (.tmp 99) (.tmp 98) rfl V.heap.size (s*10) noBook.toArray rfl rfl G2.out bo_size noBook_one ?_)
 obtain⟨W3,hW3⟩:=Nm (w2.setCells V.heap.size (s*10) (noBook.toArray).toList)
 have hIq:In Has W0 V v (upd B s none) (n+48) cs' cs' (acl x s c i st sz no a b d f) (upd B s none) zeroBk [] L W3:=by rw [hW3];exact G1.out
 rw [←hW3]
 clear hW3 G1 G2 c31
 have HLEN:=Lh hIq.ps.bl.len
 have HSZ:=Lh (show(Tryz.prog.info? 33).map (·.size)=some cs'.length by rw [HLEN.out];exact bk_size)
 have HSZ2:=Lh (show(Tryz.prog.info? 33).map (·.size)=some cs'.toArray.size by rw [List.size_toArray,HLEN.out];exact bk_size)
 have HONE:=Lh (all_oneCell_toArray hIq.ps.bl.one)
 have HSP:Hid (∀(zs:List Value) (W:World),In Has W0 V v (upd B s none) (n+48) cs' cs' (acl x s c i st sz no a b d f) (upd B s none) zs [] L W→W.rangeAt V.heap.size 0 cs'):=Lh (fun _ _ hI=>row_range hI.row4)
 have hI0:=hIq.below H (show Below W3.heap.size W3 W3.drew from Br.drew)
 clear hIq
 refine wp_region_noPanic ?_
 refine wp_region_held_drew (S:=fun W=>W.rangeAt V.heap.size 0 cs') (by kernel_rfl) (HSP.out _ _ hI0) (fun hZ=> ?_)
 refine wpAnyH_take (i:=0) rfl (by kernel_rfl) (by kernel_rfl) (by kernel_rfl) (fun _ _ _ h=>h) (yieldsIf_load_mid (by kernel_rfl) 33 (.tmp 4) rfl (V.heap.size) 0 rfl cs' _ (fun W hW=>hW) Tryz.underlying33 rfl HSZ.out) hZ ?_
 try simp only [Act.put]
 refine tkH 1 hZ ?_
 try simp only [Act.put]
 refine rdH 2 fun K hK=> ?_
 go_simp
 refine(num_any _ _).mono ?_
 rintro e v1 ⟨rfl,rfl⟩
 have hI1:=hI0
 refine hK.out _ _ (HSP.out _ _ hI1) (fun hZ=> ?_)
 clear hK K
 try simp only [Act.put]
 refine tkH 3 hZ ?_
 try simp only [Act.put]
 refine rdH 4 fun K hK=> ?_
 refine step_store_mid rfl 33 _ _ rfl (V.heap.size+1+1) 0 cs'.toArray (by simp [Act.eval]) (by simp [Act.eval]) (row_there hI1.row6 (by rw [List.size_toArray,hI1.zlen,HLEN.out])) HSZ2.out HONE.out ?_
 have hI2:=hI1.six H cs' HLEN.out
 refine hK.out _ _ (HSP.out _ _ hI2) (fun hZ=> ?_)
 clear hK K
 try simp only [Act.put]
 refine rdH 5 fun K hK=> ?_
 go_simp
 refine hK.out _ _ (HSP.out _ _ hI2) (fun hZ=> ?_)
 clear hK K
 try simp only [Act.put]
 refine wpAnyH_done (by kernel_rfl) (NoPanic.normal ?_) _
 go_wp2_with fail
 exact bodyPost_ret (res_cell2 Tryz.results7 rfl (bk_load hI2.row6 HLEN.out)) rfl (HQ.out _ hI2.fin)
end
end Go.Proofs.YtfcfbcjiijfjgaaGreatDoor.Me
