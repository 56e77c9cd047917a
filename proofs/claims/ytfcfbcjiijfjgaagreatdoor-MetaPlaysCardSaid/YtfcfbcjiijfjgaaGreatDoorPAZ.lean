import Derived.Test.YtfcfbcjiijfjgaaGreatDoorPAS
set_option maxHeartbeats 2000000
set_option maxRecDepth 100000
namespace Go.Proofs.YtfcfbcjiijfjgaaGreatDoor.Vm
open Go.RowKit Go.Shelf Go.Maps Go.Sort
attribute [local go_sem] Oper.semAt_some
def rE (may:Bool) (f:Nat→Bool) (a:Nat) (n:Int):Nat:=if ¬(may && properB n)=true then 2 else if ¬withinB a n=true then 4 else if ¬seenB f a n.toNat=true then 190 else 0
theorem reached1_any (a:Nat) (n:Int) (may:Bool) (g1 g2:Nat) (w:World) (h1:w.cell? ⟨g1,0,none⟩=some (.bool may)) (h2:w.cell? ⟨g2,0,none⟩=some (.int .u32 (a:Int))) (h3:w.cell? ⟨g2,1,none⟩=some (.int .i64 n)):
  Calls Tryz.prog 252 #[bx g1,bx g2] w fun e w'=>e= .returned (.bool (may && properB n))∧Below w.heap.size w w':=by
 have hp:=Lh (proper_any a n w)
 obtain⟨q,hq⟩:=Nm (properB n)
 rw [←hq]at hp ⊢
 clear hq
 cases may
 ·go_enter Tryz.func252,Tryz.ntmps252
  go_wp2_with fail
  go_ret
  exact⟨rfl,Br⟩
 ·go_enter Tryz.func252,Tryz.ntmps252
  go_wp2_with fail
  refine hp.out.mono ?_
  rintro e w1 ⟨rfl,hb⟩
  go_wp2_with fail
  go_ret
  exact⟨rfl,hb⟩
theorem reached2_any (f:Nat→Bool) (a n cf:Nat) (cap:Array Value) (g1 g2:Nat) (w:World) (han:a+n≤16777216) (h1:w.cell? ⟨g1,0,none⟩=some (.int .u32 (a:Int))) (h2:w.cell? ⟨g1,1,none⟩=some (.int .i64 (n:Int))) (h3:w.cell? ⟨g2,0,none⟩=some (.func (.func cf) #[] cap))
  (eg:∀args w,(callFunc cf args).run Tryz.prog w= .ok (.enter cf args) w)
  (HF:∀(z:Nat) V,z < 65536→Below w.heap.size w V→Calls Tryz.prog cf (#[.int .i64 (z:Int)] ++ cap) V fun e V'=>e= .returned (.bool (f z))∧Below V.heap.size V V'):
  Calls Tryz.prog 255 #[bx g1,bx g2] w fun e w'=>e= .returned (.bool (seenB f a n))∧Below w.heap.size w w':=by
 have hp:=Lh (seen_any f a n cf cap w han eg HF)
 obtain⟨q,hq⟩:=Nm (seenB f a n)
 rw [←hq]at hp ⊢
 clear hq HF eg
 go_enter Tryz.func255,Tryz.ntmps255
 go_wp2_with fail
 refine hp.out.mono ?_
 rintro e w1 ⟨rfl,hb⟩
 go_wp2_with fail
 go_ret
 exact⟨rfl,hb⟩
def rchB (a:Nat) (n:Int) (may:Bool) (fv:Value):List (List Value × TypeId):= [([.int .u32 (a:Int),.int .i64 n],245),([.bool may],4),([fv],67)]
def rchL (b a:Nat) (n:Int) (s:Nat) (a2 a3 a4:Bool):List Ask:=
 [⟨89,#[bx b],#[],1,true⟩,⟨252,#[],#[bx (s+1),bx s],2,a2⟩,⟨254,#[.agg #[.int .u32 (a:Int),.int .i64 n]],#[],4,a3⟩,⟨255,#[],#[bx s,bx (s+2)],190,a4⟩]
theorem rch_asked {w:World} (b q a:Nat) (n:Int) (may:Bool) (f:Nat→Bool) (cf:Nat) (cap:Array Value) (hc:w.cell? ⟨b,1,none⟩=some (bx q)) (ha:a < 4294967296) (eg:∀args w,(callFunc cf args).run Tryz.prog w= .ok (.enter cf args) w)
  (HF:∀(z:Nat) V,z < 65536→Below w.heap.size w V→Calls Tryz.prog cf (#[.int .i64 (z:Int)] ++ cap) V fun e V'=>e= .returned (.bool (f z))∧Below V.heap.size V V'):
  Calls Tryz.prog 120 #[.slice (some ⟨w.heap.size+3,0,none⟩) 4 4] (askW w (rchB a n may (.func (.func cf) #[] cap)) (rchL b a n w.heap.size true true true)) fun e w'=>e= .returned (.int .i64 (rE may f a n:Int))∧Below w.heap.size w w':=by
 obtain⟨a2,ha2⟩:=Nm ((may && properB n))
 obtain⟨a3,ha3⟩:=Nm (withinB a n)
 obtain⟨a4,ha4⟩:=Nm (seenB f a n.toNat)
 have hE:askE (rchL b a n w.heap.size a2 a3 a4)=(rE may f a n:Int):=by
  unfold rE
  rw [←ha2,←ha3,←ha4]
  cases a2 <;> cases a3 <;> cases a4 <;> rfl
 refine(asked_box (rchB a n may (.func (.func cf) #[] cap)) (rchL b a n w.heap.size a2 a3 a4) 4 4 _ rfl rfl (by omega) fun k hk hall=> ?_).mono fun e w' ⟨e1,e2,_⟩=>⟨by rw [e1,hE],e2.below⟩
 rcases k with _ | _ | _ | _ | k
 ·refine⟨enters_of Tryz.func89 (by kernel_rfl) rfl,fun V hV=> ?_⟩
  exact(there_any b q V ((hV.below.cell (p:=⟨b,1,none⟩) (lt_of_cell hc)).trans hc)).mono fun e w' ⟨e1,e2⟩=>⟨e1,e2 ▸ Br⟩
 ·refine⟨enters_of Tryz.func252 (by kernel_rfl) rfl,fun V hV=> ?_⟩
  have:=reached1_any a n may (w.heap.size+1) w.heap.size V (hV.cell 1 _ rfl 0 _ rfl) (hV.cell 0 _ rfl 0 _ rfl) (hV.cell 0 _ rfl 1 _ rfl)
  rw [←ha2]at this
  exact this
 ·refine⟨enters_of Tryz.func254 (by kernel_rfl) rfl,fun V hV=> ?_⟩
  have:=within_any a n V ha
  rw [←ha3]at this
  exact this
 ·have t2:a2=true:=hall 1 (by simp [rchL]) (by omega)
  have t3:a3=true:=hall 2 (by simp [rchL]) (by omega)
  rw [ha2]at t2
  rw [ha3]at t3
  simp only [properB,withinB,Bool.and_eq_true,decide_eq_true_eq]at t2 t3
  obtain⟨m,rfl⟩:∃m:Nat,n=m:=⟨n.toNat,by omega⟩
  refine⟨enters_of Tryz.func255 (by kernel_rfl) rfl,fun V hV=> ?_⟩
  have:=reached2_any f a m cf cap w.heap.size (w.heap.size+2) V (by omega) (hV.cell 0 _ rfl 0 _ rfl) (hV.cell 0 _ rfl 1 _ rfl) (hV.cell 2 _ rfl 0 _ rfl) eg (fun z V' hz hb=>HF z V' hz (below0 hV.below hb))
  rw [Int.toNat_natCast]at ha4
  rw [←ha4]at this
  exact this
 ·simp [rchL]at hk
  omega
theorem reached_any {w:World} (b q a:Nat) (n:Int) (may:Bool) (f:Nat→Bool) (cf:Nat) (cap:Array Value) (hc:w.cell? ⟨b,1,none⟩=some (bx q)) (ha:a < 4294967296) (eg:∀args w,(callFunc cf args).run Tryz.prog w= .ok (.enter cf args) w)
  (HF:∀(z:Nat) V,z < 65536→Below w.heap.size w V→Calls Tryz.prog cf (#[.int .i64 (z:Int)] ++ cap) V fun e V'=>e= .returned (.bool (f z))∧Below V.heap.size V V'):
  Calls Tryz.prog 232 #[bx b,.agg #[.int .u32 (a:Int),.int .i64 n],.bool may,.func (.func cf) #[] cap] w fun e w'=>e= .returned (.int .i64 (rE may f a n:Int))∧Below w.heap.size w w':=by
 have h1:=Lh (rch_asked b q a n may f cf cap hc ha eg HF)
 obtain⟨E,hE⟩:=Nm (rE may f a n)
 rw [←hE]at h1 ⊢
 clear hE HF eg hc
 go_enter Tryz.func232,Tryz.ntmps232
 go_wp2_with fail
 refine(h1.out).mono ?_
 rintro e w1 ⟨rfl,hb⟩
 go_wp2_with fail
 go_ret
 exact⟨rfl,hb⟩
theorem handed1_any {w:World} {b t g1:Nat} {l:Pg.Tb} {F:Nat→Prop} (z:Nat) (hz:z < 65536) (ht:Pg.Has w t l F) (hb0:w.cell? ⟨b,0,none⟩=some (bx t)) (h1:w.cell? ⟨g1,0,none⟩=some (bx b)):
  Calls Tryz.prog 233 #[.int .i64 (z:Int),bx g1] w fun e w'=>e= .returned (.bool (Pg.look l (z:Int)).isSome)∧Below w.heap.size w w':=by
 have HG:=Lh (mapped_any ht (z:Int) (by unfold Pg.I64;omega))
 obtain⟨r,hr⟩:=Nm ((Pg.look l (z:Int)).isSome)
 rw [←hr]at HG ⊢
 clear hr ht
 go_enter Tryz.func233,Tryz.ntmps233
 go_wp2_with fail
 refine(HG.out).mono ?_
 rintro e W1 ⟨rfl,hb2⟩
 go_wp2_with fail
 go_ret
 exact⟨rfl,hb2⟩
def hndE (l:Pg.Tb) (a:Nat) (n:Int):Nat:=rE true (fun z=>(Pg.look l (z:Int)).isSome) a n
theorem handed_any {w:World} {b t q:Nat} {l:Pg.Tb} {p:Pl} {F1 F2:Nat→Prop} (h:MRep w b t q l p F1 F2) (a:Nat) (n:Int) (ha:a < 4294967296):
  Calls Tryz.prog 159 #[bx b,.agg #[.int .u32 (a:Int),.int .i64 n]] w fun e w'=>e= .returned (.int .i64 (hndE l a n:Int))∧Below w.heap.size w w':=by
 obtain⟨W0,hW⟩:=Nm ((w.alloc (.cells #[bx b] 24)).alloc (.cells #[.int .u32 (a:Int),.int .i64 n] 245))
 have hbb:Below w.heap.size w W0:=by rw [hW];exact below2 _ _ _
 have r0:W0.cell? ⟨w.heap.size,0,none⟩=some (bx b):=by
  rw [hW]
  exact(World.cell?_alloc_lt _ _ _ (by simp)).trans (cell_alloc_new _ _ _ _)
 have HRC:=Lh (reached_any b q a n true (fun z=>(Pg.look l (z:Int)).isSome) 233 #[bx w.heap.size] (h.below hbb).c1 ha (enters_of Tryz.func233 (by kernel_rfl) rfl)
  (fun z V hz hbV=>handed1_any z hz (h.below (below0 hbb hbV)).tab (h.below (below0 hbb hbV)).c0 ((hbV.cell (p:=⟨w.heap.size,0,none⟩) (lt_of_cell r0)).trans r0)))
 have HB:=Lh hbb
 unfold hndE
 obtain⟨E,hE⟩:=Nm (rE true (fun z=>(Pg.look l (z:Int)).isSome) a n)
 rw [←hE]at HRC ⊢
 have HW:=Lh hW
 clear hE hW h hbb r0
 go_enter Tryz.func159,Tryz.ntmps159
 go_wp2_with fail
 rw [←HW.out]
 refine(HRC.out).mono ?_
 rintro e W1 ⟨rfl,hb2⟩
 have HF:=Lh (below0 HB.out hb2)
 clear hb2
 go_wp2_with fail
 go_ret
 exact⟨rfl,HF.out⟩
def RdA (w:World) (E:Nat) (bs:List UInt8) (e:Ending) (w':World):Prop:=∃A m c,e= .returned (.tuple #[.slice A m c,.int .i64 (E:Int)])∧m=bs.length∧w'.ownsRow w.heap.size 5 1 (.slice A m c) m (byt bs)∧Below w.heap.size w w'
theorem rE_0 {may:Bool} {f:Nat→Bool} {a:Nat} {n:Int} (h:rE may f a n=0):∃m:Nat,n=m∧1≤m∧a+m≤16777216∧seenB f a m=true:=by
 unfold rE at h
 split at h
 ·cases h
 ·split at h
  ·cases h
  ·split at h
   ·cases h
   ·rename_i h1 h2 h3
    have h1:=Classical.not_not.1 h1
    have h2:=Classical.not_not.1 h2
    have h3:=Classical.not_not.1 h3
    simp only [properB,withinB,Bool.and_eq_true,decide_eq_true_eq]at h1 h2
    obtain⟨m,rfl⟩:∃m:Nat,n=m:=⟨n.toNat,by omega⟩
    exact⟨m,rfl,by omega,by omega,by simpa using h3⟩
theorem peek_any {w:World} {b t q:Nat} {l:Pg.Tb} {p:Pl} {F1 F2:Nat→Prop} (h:MRep w b t q l p F1 F2) (a:Nat) (n:Int) (ha:a < 4294967296):
  Calls Tryz.prog 98 #[bx b,.int .u32 (a:Int),.int .i64 n] w (RdA w (hndE l a n) (if hndE l a n=0 then rdB p l a n.toNat else [])):=by
 have hbb:=below1 w (.cells #[.int .u32 (a:Int),.int .i64 n] 245)
 have HO:=Lh (handed_any (h.below hbb) a n ha)
 have HB:=Lh hbb
 by_cases hE:hndE l a n=0
 ·rw [if_pos hE]
  obtain⟨m,rfl,hm1,hm2,_⟩:=rE_0 hE
  rw [hE]at HO ⊢
  rw [Int.toNat_natCast]
  have HR:=Lh (fun W (hb:Below (w.alloc (.cells #[.int .u32 (a:Int),.int .i64 (m:Int)] 245)).heap.size (w.alloc (.cells #[.int .u32 (a:Int),.int .i64 (m:Int)] 245)) W)=>readM_any ((h.below hbb).below hb) a m hm2)
  have hw0:=lt_of_cell (show(w.alloc (.cells #[.int .u32 (a:Int),.int .i64 (m:Int)] 245)).cell? ⟨w.heap.size,0,none⟩=some (.int .u32 (a:Int)) from cell_alloc_new _ _ _ _)
  clear h hbb hE
  go_enter Tryz.func98,Tryz.ntmps98
  go_wp2_with fail
  refine wp_scope_jump 1 fun R hR hJm=> ?_
  go_wp2_with fail
  refine(HO.out).mono ?_
  rintro e W1 ⟨rfl,hb1⟩
  have c0:W1.cell? ⟨w.heap.size,0,none⟩=some (.int .u32 (a:Int)):=(hb1.cell (p:=⟨w.heap.size,0,none⟩) hw0).trans (cell_alloc_new _ _ _ _)
  have c1:W1.cell? ⟨w.heap.size,1,none⟩=some (.int .i64 (m:Int)):=(hb1.cell (p:=⟨w.heap.size,1,none⟩) hw0).trans (cell_alloc_new _ _ _ _)
  have HR1:=Lh (HR.out _ hb1)
  have HB1:=Lh (below0 HB.out hb1)
  clear hb1 HR
  go_wp2_with fail
  refine(HR1.out).mono ?_
  rintro e W2 ⟨v,rfl,hown,hb2⟩
  obtain⟨A,c,rfl⟩:=own_slice hown
  have HF:=Lh (show RdA w 0 (rdB p l a m) (.returned (.tuple #[.slice A (rdB p l a m).length c,.int .i64 0])) W2 from⟨A,_,c,rfl,rfl,own_mono hown HB1.out.size,below0 HB1.out hb2⟩)
  clear hown hb2 c0 c1 hw0
  go_wp2_with fail
  refine hR.out _ _ _ _ (by simp) ?_
  go_ret2
  exact HF.out
 ·rw [if_neg hE]
  obtain⟨E,hE2⟩:=Nm (hndE l a n)
  rw [←hE2]at HO hE ⊢
  have e0:(((E:Int)) == 0)=false:=by rw [beq_eq_false_iff_ne];omega
  have e1:¬((E:Int)=0):=by omega
  clear h hbb hE hE2
  go_enter Tryz.func98,Tryz.ntmps98
  go_wp2_with fail
  refine wp_scope_jump 1 fun R hR hJm=> ?_
  go_wp2_with fail
  refine(HO.out).mono ?_
  rintro e W1 ⟨rfl,hb1⟩
  have HF:=Lh (show RdA w E [] (.returned (.tuple #[.slice none 0 0,.int .i64 (E:Int)])) W1 from⟨none,0,0,rfl,rfl,World.ownsRow_nil _ _ _ _,below0 HB.out hb1⟩)
  clear hb1
  go_wp2_with fail
  refine wp_goto (hJm.out _ _ _ _ _ rfl ?_)
  go_wp2_with fail
  refine hR.out _ _ _ _ (by simp) ?_
  go_ret2
  exact HF.out
section
variable {w V V':World} {b:Nat} {p:Pl} {F:Nat→Prop}
theorem reserveN (h:Has w b p F) (o m:Int) (hm:m≤9223372036854775807):Calls Tryz.prog 42 #[bx b,.int .i64 o,.int .i64 m] w fun e w'=>e= .returned (.int .i64 (reserveE p o m:Int))∧Next w b (reserveP p o m) F w':=by
 by_cases hE:reserveE p o m=0
 ·have hob:0≤o∧0≤m:=by
   unfold reserveE at hE
   split at hE
   ·cases hE
   next h4=>
    have h5:=Classical.not_not.1 h4
    simp only [ownerB,Bool.and_eq_true,decide_eq_true_eq]at h5
    exact⟨h5.1.1,h5.2⟩
  obtain⟨x,rfl⟩:∃x:Nat,o=x:=⟨o.toNat,by omega⟩
  obtain⟨y,rfl⟩:∃y:Nat,m=y:=⟨m.toNat,by omega⟩
  rw [hE]
  exact reserve_yes h x y (by omega) hE
 ·exact reserve_no h o m hm hE
theorem takeN (h:Has w b p F) (o:Int):Calls Tryz.prog 129 #[bx b,.int .i64 o] w fun e w'=>e= .returned (.tuple #[.int .i64 (takeI p o:Int),.int .i64 (takeE p o:Int)])∧Next w b (takeP p o) F w':=by
 by_cases hE:takeE p o=0
 ·obtain⟨g1,_⟩:=takeE_left h.ok hE
  obtain⟨x,rfl⟩:∃x:Nat,o=x:=⟨o.toNat,by omega⟩
  rw [hE]
  exact take_yes h x hE
 ·exact take_no h o hE
theorem giveN (h:Has w b p F) (i:Int) (hi:i≤9223372036854775807):Calls Tryz.prog 134 #[bx b,.int .i64 i] w fun e w'=>e= .returned (.int .i64 (giveE p i:Int))∧Next w b (giveP p i) F w':=by
 by_cases hE:giveE p i=0
 ·obtain⟨g1,_⟩:=giveE_some hE
  obtain⟨x,rfl⟩:∃x:Nat,i=x:=⟨i.toNat,by omega⟩
  rw [hE]
  exact give_yes h x (by omega) hE
 ·exact give_no h i hi hE
end
def MNext (w:World) (b t q:Nat) (l:Pg.Tb) (p:Pl) (F1 F2:Nat→Prop) (w':World):Prop:=∃F3,MRep w' b t q l p F1 F3∧(∀k,F3 k→F2 k∨w.heap.size≤k)∧Keep (fun k=>F1 k∨F2 k) w w'
section
variable {w w0 w':World} {b t q:Nat} {l l':Pg.Tb} {p p':Pl} {F1 F2:Nat→Prop}
theorem MNext.same (h:MRep w b t q l p F1 F2) (hb:Below w.heap.size w w'):MNext w b t q l p F1 F2 w':=⟨F2,h.below hb,fun _ h=> .inl h,Keep.of_below hb⟩
theorem MNext.pool (h:MRep w b t q l p F1 F2) (hb:Below w.heap.size w w0) (hn:Next w0 q p' F2 w'):MNext w b t q l p' F1 F2 w':=by
 obtain⟨F3,h1,h2,h3⟩:=hn
 have hs:=hb.size
 have hk:∀k,k < w.heap.size→¬F2 k→w'.heap[k]?=w.heap[k]?:=fun k h4 h5=>(h2.block k (by omega) h5).trans (hb.block k h4)
 refine⟨F3,⟨h.obj.same (hk b (h.lt b (.inl rfl)) h.b2),h.tab.keep fun k hf=>hk k (h.tab.lt k hf) (h.apart k hf),h1,fun k h4 h5=> ?_,h.b1,fun h4=> ?_⟩,fun k h4=>(h3 k h4).imp id (fun h=>by omega),((Keep.of_below (F:=fun k=>F1 k∨F2 k) hb).trans h2 fun _ _ h=> .inr h)⟩
 ·rcases h3 k h5 with h6 | h6
  ·exact h.apart k h4 h6
  ·have:=h.tab.lt k h4;omega
 ·rcases h3 b h4 with h6 | h6
  ·exact h.b2 h6
  ·have:=h.lt b (.inl rfl);omega
theorem MNext.tab (h:MRep w b t q l p F1 F2) (hb:Below w.heap.size w w0) (hn:Pg.Next w0 t l' F1 w'):MNext w b t q l' p F1 F2 w':=by
 obtain⟨h1,h2⟩:=hn
 have hs:=hb.size
 have hk:∀k,k < w.heap.size→¬F1 k→w'.heap[k]?=w.heap[k]?:=fun k h4 h5=>(h2.block k (by omega) h5).trans (hb.block k h4)
 exact⟨F2,⟨h.obj.same (hk b (h.lt b (.inl rfl)) h.b1),h1,h.pool.keep fun k hf=>hk k (h.pool.lt k hf) (fun hf1=>h.apart k hf1 hf),h.apart,h.b1,h.b2⟩,fun _ h=> .inl h,(Keep.of_below (F:=fun k=>F1 k∨F2 k) hb).trans h2 fun _ _ h=> .inl h⟩
theorem MNext.trans {F3:Nat→Prop} (h3:∀k,F3 k→F2 k∨w.heap.size≤k) (hk:Keep (fun k=>F1 k∨F2 k) w w0) (hn:MNext w0 b t q l' p' F1 F3 w'):MNext w b t q l' p' F1 F2 w':=by
 obtain⟨F4,h4,h5,h6⟩:=hn
 have hs:=hk.size
 refine⟨F4,h4,fun k hf=> ?_,hk.trans h6 fun k hlt hf=>hf.imp id fun hf=>(h3 k hf).elim id (fun h=>by omega)⟩
 rcases h5 k hf with h7 | h7
 ·exact h3 k h7
 ·exact .inr (by omega)
end
theorem new_any (n:Nat) (w:World) (hn:n≤16384):Calls Tryz.prog 10 #[.int .i64 (n:Int)] w fun e w'=>∃b t q F1 F2,e= .returned (.tuple #[bx b,.int .i64 0])∧MRep w' b t q [] (newP n) F1 F2∧(∀k,k=b∨F1 k∨F2 k→w.heap.size≤k)∧Below w.heap.size w w':=by
 have h1:=Lh (new_yes n w hn)
 have h2:=Lh (fun w=>Pg.new_any w)
 clear hn
 go_enter Tryz.func10,Tryz.ntmps10
 go_wp2_with fail
 refine wp_scope_jump 1 fun R hR hJm=> ?_
 go_wp2_with fail
 refine(h1.out).mono ?_
 rintro e w1 ⟨q,F2,rfl,hh2,hf2,hb1⟩
 have H2:=Lh (And.intro hh2 (And.intro hf2 hb1))
 clear hh2 hf2 hb1
 go_wp2_with fail
 refine(h2.out _).mono ?_
 rintro e w2 ⟨t,F1,rfl,hh1,hf1,hb2⟩
 have HF:=Lh (show ∃F1 F2,MRep (w2.alloc (.cells #[bx t,bx q] 102)) w2.heap.size t q [] (newP n) F1 F2∧(∀k,k=w2.heap.size∨F1 k∨F2 k→w.heap.size≤k)∧Below w.heap.size w (w2.alloc (.cells #[bx t,bx q] 102)) from by
  obtain⟨hh2,hf2,hb1⟩:=H2.out
  have hba:=below1 w2 (.cells #[bx t,bx q] 102)
  have hl1:=hh1.lt
  have hl2:=hh2.lt
  have hs1:=hb1.size
  have hs2:=hb2.size
  refine⟨F1,F2,⟨Row.new w2 102 [bx t,bx q],hh1.below hba,(hh2.below hb2).below hba,fun k h4 h5=> ?_,fun h=> ?_,fun h=> ?_⟩,?_,below0 (below0 hb1 hb2) hba⟩
  ·have:=hf1 k h4
   have:=hl2 k h5
   omega
  ·have:=hl1 _ h;omega
  ·have:=hl2 _ h;omega
  ·rintro k (rfl | h | h)
   ·omega
   ·have:=hf1 k h;omega
   ·exact hf2 k h)
 clear hh1 hf1 hb2 H2
 go_wp2_with fail
 refine hR.out _ _ _ _ (by simp) ?_
 go_ret2
 obtain⟨F8,F9,h9⟩:=HF.out
 exact⟨_,t,q,F8,F9,rfl,h9⟩
theorem reserve_any {w:World} {b t q:Nat} {l:Pg.Tb} {p:Pl} {F1 F2:Nat→Prop} (h:MRep w b t q l p F1 F2) (o m:Int) (hm:m≤9223372036854775807):Calls Tryz.prog 13 #[bx b,.int .i64 o,.int .i64 m] w fun e w'=>e= .returned (.int .i64 (reserveE p o m:Int))∧MNext w b t q l (reserveP p o m) F1 F2 w':=by
 have h1:=Lh (frames_any b q w h.c1)
 have h2:=Lh ((reserveN h.pool o m hm).mono fun e w' ⟨e1,e2⟩=>(show e=Ending.returned (.int .i64 (reserveE p o m:Int))∧MNext w b t q l (reserveP p o m) F1 F2 w' from⟨e1,MNext.pool h Br e2⟩))
 obtain⟨E,hE⟩:=Nm (reserveE p o m)
 rw [←hE]at h2 ⊢
 clear hE h
 go_enter Tryz.func13,Tryz.ntmps13
 go_wp2_with fail
 refine(h1.out).mono ?_
 rintro e w1 ⟨rfl,rfl⟩
 go_wp2_with fail
 refine(h2.out).mono ?_
 rintro e w1 ⟨rfl,hn⟩
 have HN:=Lh hn
 clear hn
 go_wp2_with fail
 go_ret
 exact⟨rfl,HN.out⟩
theorem unmapN {w:World} {t:Nat} {l:Pg.Tb} {F:Nat→Prop} (h:Pg.Has w t l F) (z:Int):Calls Tryz.prog 133 #[bx t,.int .i64 z] w fun e w'=>e= .returned (.tuple #[Pg.enV (Pg.unmapX l z),.int .i64 (Pg.unmapE l z:Int)])∧Pg.Next w t (Pg.unmapT l z) F w':=by
 by_cases hE:Pg.unmapE l z=0
 ·rw [hE]
  exact Pg.unmap_yes h z hE
 ·exact Pg.unmap_no h z hE
theorem unmapX_i64 {l:Pg.Tb} (h:Pg.Tok l) (z:Int):Pg.I64 (Pg.unmapX l z).2.2:=by
 unfold Pg.unmapX
 split
 ·exact getX_i64 h z
 ·simp [Pg.zeroEn,Pg.I64]
def unmE (p:Pl) (l:Pg.Tb) (z:Int):Nat:=if Pg.unmapE l z=0 then giveE p (Pg.unmapX l z).2.2 else Pg.unmapE l z
def unmP (p:Pl) (l:Pg.Tb) (z:Int):Pl:=if Pg.unmapE l z=0 then giveP p (Pg.unmapX l z).2.2 else p
theorem unmap_any {w:World} {b t q:Nat} {l:Pg.Tb} {p:Pl} {F1 F2:Nat→Prop} (h:MRep w b t q l p F1 F2) (z:Int):
  Calls Tryz.prog 60 #[bx b,.int .i64 z] w fun e w'=>e= .returned (.int .i64 (unmE p l z:Int))∧MNext w b t q (Pg.unmapT l z) (unmP p l z) F1 F2 w':=by
 have HE:=Lh (entries_any b t q w h.c0 h.c1)
 have HU:=Lh ((unmapN h.tab z).mono fun e w' ⟨e1,e2⟩=>(show e=Ending.returned (.tuple #[Pg.enV (Pg.unmapX l z),.int .i64 (Pg.unmapE l z:Int)])∧MNext w b t q (Pg.unmapT l z) p F1 F2 w' from⟨e1,MNext.tab h Br e2⟩))
 have hfi:=unmapX_i64 h.tab.ok z
 unfold Pg.I64 at hfi
 have HFI:=Lh hfi
 unfold unmE unmP
 obtain⟨l',hl'⟩:∃l',l'=Pg.unmapT l z:=⟨_,rfl⟩
 rw [←hl']at HU ⊢
 obtain⟨⟨x1,x2,f⟩,hx⟩:∃x,x=Pg.unmapX l z:=⟨_,rfl⟩
 rw [←hx]at HU HFI ⊢
 simp only [Pg.enV,Pg.enC]at HU HFI ⊢
 obtain⟨E,hE⟩:=Nm (Pg.unmapE l z)
 rw [←hE]at HU ⊢
 clear hl' hx hE hfi h
 by_cases h0:E=0
 ·subst h0
  rw [if_pos rfl,if_pos rfl]
  rw [show((0:Nat):Int)=0 from rfl]at HU
  obtain⟨E,hE⟩:=Nm (giveE p f)
  rw [←hE]
  have HEE:=Lh hE
  clear hE
  go_enter Tryz.func60,Tryz.ntmps60
  go_wp2_with fail
  refine wp_scope_jump 1 fun R hR hJm=> ?_
  go_wp2_with fail
  refine(HE.out).mono ?_
  rintro e w0 ⟨rfl,rfl⟩
  go_wp2_with fail
  refine(HU.out).mono ?_
  rintro e w1 ⟨rfl,F3,hm,hF3,hk⟩
  obtain⟨W2,hW2⟩:=Nm (w1.alloc (.cells #[.int .i64 x1,.int .i64 x2,.int .i64 f] 195))
  have hb2:Below w1.heap.size w1 W2:=by rw [hW2];exact below1 _ _
  have hr2:Row W2 w1.heap.size 195 [.int .i64 x1,.int .i64 x2,.int .i64 f]:=by rw [hW2];exact Row.new w1 195 [.int .i64 x1,.int .i64 x2,.int .i64 f]
  have HSS:=Lh (fun(W:World) (hb:Below W2.heap.size W2 W)=>(show W.cell? ⟨b,1,none⟩=some (bx q)∧W.cell? ⟨w1.heap.size,2,none⟩=some (.int .i64 f) from⟨(hm.below (below0 hb2 hb)).c1,(hr2.below hb).cell 2⟩))
  have HG:=Lh (fun(W:World) (hb:Below W2.heap.size W2 W)=>(giveN (hm.below (below0 hb2 hb)).pool f HFI.out.2).mono fun e w' ⟨e1,e2⟩=>(show e=Ending.returned (Value.int .i64 (giveE p f:Int))∧MNext w b t q l' (giveP p f) F1 F2 w'∧w'.cell? ⟨w1.heap.size,2,none⟩=some (Value.int .i64 f) from
   ⟨e1,MNext.trans hF3 hk (MNext.pool hm (below0 hb2 hb) e2),by
    obtain⟨_,_,hkk,_⟩:=e2
    exact(hkk.cell (p:=⟨w1.heap.size,2,none⟩) (by show w1.heap.size < _;have:=hr2.lt;have:=hb.size;omega) (fun hf=>by have:=hm.pool.lt _ hf;simp only at this;omega)).trans ((hr2.below hb).cell 2)⟩))
  rw [←HEE.out]at HG
  have HW:=Lh hW2
  clear hm hF3 hk hb2 hr2 hW2
  go_wp2_with fail
  rw [←HW.out]
  have hdr:Below W2.heap.size W2 W2.drew:=Br.drew
  refine wp_region_noPanic ?_
  refine wp_region_held_drew (S:=fun W=>W.cell? ⟨b,1,none⟩=some (bx q)∧W.cell? ⟨w1.heap.size,2,none⟩=some (.int .i64 f)) (by kernel_rfl) (HSS.out _ hdr) (fun hZ=> ?_)
  refine tkH 0 hZ ?_
  simp only [Act.put]
  refine tkH 1 hZ ?_
  simp only [Act.put]
  refine tkH 2 hZ ?_
  simp only [Act.put]
  refine tkH 3 hZ ?_
  simp only [Act.put]
  refine tkH 4 hZ ?_
  simp only [Act.put]
  refine tkH 5 hZ ?_
  simp only [Act.put]
  refine rdH 6 fun K hK=> ?_
  go_simp
  refine(HG.out _ hdr).mono ?_
  rintro e W3 ⟨rfl,hn,hc3⟩
  have HS3:W3.cell? ⟨b,1,none⟩=some (bx q):=by
   obtain⟨F3,hm,_⟩:=hn
   exact hm.c1
  have HN:=Lh hn
  clear hn
  refine hK.out _ _ ⟨HS3,hc3⟩ (fun hZ=> ?_)
  clear hK K
  try simp only [Act.put]
  refine rdH 7 fun K hK=> ?_
  go_simp
  refine hK.out _ _ ⟨HS3,hc3⟩ (fun hZ=> ?_)
  clear hK K
  try simp only [Act.put]
  refine wpAnyH_done (by kernel_rfl) ?_ _
  refine NoPanic.normal ?_
  clear HSS HG hc3 HS3 hdr
  go_wp2_with fail
  refine hR.out _ _ _ _ (by simp) ?_
  go_ret
  exact⟨rfl,HN.out⟩
 ·rw [if_neg h0,if_neg h0]
  have e0:(((E:Int)) == 0)=false:=by rw [beq_eq_false_iff_ne];omega
  have e1:¬((E:Int)=0):=by omega
  clear h0
  go_enter Tryz.func60,Tryz.ntmps60
  go_wp2_with fail
  refine wp_scope_jump 1 fun R hR hJm=> ?_
  go_wp2_with fail
  refine(HE.out).mono ?_
  rintro e w0 ⟨rfl,rfl⟩
  go_wp2_with fail
  refine(HU.out).mono ?_
  rintro e w1 ⟨rfl,F3,hm,hF3,hk⟩
  have HN:=Lh (show MNext w b t q l' p F1 F2 (w1.alloc (.cells #[.int .i64 x1,.int .i64 x2,.int .i64 f] 195)) from⟨F3,hm.below (below1 _ _),hF3,hk.alloc _⟩)
  clear hm hF3 hk
  go_wp2_with fail
  refine wp_goto (hJm.out _ _ _ _ _ rfl ?_)
  go_wp2_with fail
  refine hR.out _ _ _ _ (by simp) ?_
  go_ret
  exact⟨rfl,HN.out⟩
theorem map1_any (o y m:Int) (g1 g2 g3:Nat) (w:World) (h1:w.cell? ⟨g1,0,none⟩=some (.int .i64 o)) (h2:w.cell? ⟨g2,0,none⟩=some (.int .i64 y)) (h3:w.cell? ⟨g3,0,none⟩=some (.int .i64 m)):
  Calls Tryz.prog 121 #[bx g1,bx g2,bx g3] w fun e w'=>e= .returned (.bool (ownsB o && ownerB y && Pg.mayB m))∧w=w':=by
 have k1:=Lh (owns_any o w)
 have k2:=Lh (pays_any y w)
 have k3:=Lh (allowed_any m w)
 obtain⟨q1,hq1⟩:∃q,q=ownsB o:=⟨_,rfl⟩
 obtain⟨q2,hq2⟩:∃q,q=ownerB y:=⟨_,rfl⟩
 obtain⟨q3,hq3⟩:∃q,q=Pg.mayB m:=⟨_,rfl⟩
 rw [←hq1]at k1 ⊢
 rw [←hq2]at k2 ⊢
 rw [←hq3]at k3 ⊢
 clear hq1 hq2 hq3
 cases q1
 ·go_enter Tryz.func121,Tryz.ntmps121
  go_wp2_with fail
  refine(k1.out).mono ?_
  rintro e _ ⟨rfl,rfl⟩
  go_wp2_with fail
  go_ret
  exact⟨rfl,rfl⟩
 ·cases q2
  ·go_enter Tryz.func121,Tryz.ntmps121
   go_wp2_with fail
   refine(k1.out).mono ?_
   rintro e _ ⟨rfl,rfl⟩
   go_wp2_with fail
   refine(k2.out).mono ?_
   rintro e _ ⟨rfl,rfl⟩
   go_wp2_with fail
   go_ret
   exact⟨rfl,rfl⟩
  ·go_enter Tryz.func121,Tryz.ntmps121
   go_wp2_with fail
   refine(k1.out).mono ?_
   rintro e _ ⟨rfl,rfl⟩
   go_wp2_with fail
   refine(k2.out).mono ?_
   rintro e _ ⟨rfl,rfl⟩
   go_wp2_with fail
   refine(k3.out).mono ?_
   rintro e _ ⟨rfl,rfl⟩
   go_wp2_with fail
   go_ret
   exact⟨rfl,rfl⟩
theorem map2_any (z:Int) (g:Nat) (w:World) (h1:w.cell? ⟨g,0,none⟩=some (.int .i64 z)):Calls Tryz.prog 125 #[bx g] w fun e w'=>e= .returned (.bool (Pg.pageB z))∧w=w':=by
 have k1:=Lh (known_any z w)
 obtain⟨q1,hq1⟩:∃q,q=Pg.pageB z:=⟨_,rfl⟩
 rw [←hq1]at k1 ⊢
 clear hq1
 go_enter Tryz.func125,Tryz.ntmps125
 go_wp2_with fail
 refine(k1.out).mono ?_
 rintro e _ ⟨rfl,rfl⟩
 go_wp2_with fail
 go_ret
 exact⟨rfl,rfl⟩
theorem map3_any {w:World} {b t g1 g2:Nat} {l:Pg.Tb} {F:Nat→Prop} (z:Int) (hz:Pg.I64 z) (ht:Pg.Has w t l F) (hb0:w.cell? ⟨b,0,none⟩=some (bx t)) (h1:w.cell? ⟨g1,0,none⟩=some (bx b)) (h2:w.cell? ⟨g2,0,none⟩=some (.int .i64 z)):
  Calls Tryz.prog 127 #[bx g1,bx g2] w fun e w'=>e= .returned (.bool (!(Pg.look l z).isSome))∧Below w.heap.size w w':=by
 have HSS:=Lh (fun(W:World) (hb:Below w.heap.size w W)=>(show W.cell? ⟨g1,0,none⟩=some (bx b)∧W.cell? ⟨b,0,none⟩=some (bx t)∧W.cell? ⟨g2,0,none⟩=some (.int .i64 z) from
  ⟨(hb.cell (p:=⟨g1,0,none⟩) (lt_of_cell h1)).trans h1,(hb.cell (p:=⟨b,0,none⟩) (lt_of_cell hb0)).trans hb0,(hb.cell (p:=⟨g2,0,none⟩) (lt_of_cell h2)).trans h2⟩))
 have HG:=Lh (fun(W:World) (hb:Below w.heap.size w W)=>mapped_any (ht.below hb) z hz)
 obtain⟨r,hr⟩:=Nm ((Pg.look l z).isSome)
 rw [←hr]at HG ⊢
 clear hr ht hb0 h1 h2 hz
 go_enter Tryz.func127,Tryz.ntmps127
 go_wp2_with fail
 have hdr:Below w.heap.size w w.drew:=Br.drew
 refine wp_region_held_drew (S:=fun W=>W.cell? ⟨g1,0,none⟩=some (bx b)∧W.cell? ⟨b,0,none⟩=some (bx t)∧W.cell? ⟨g2,0,none⟩=some (.int .i64 z)) (by kernel_rfl) (HSS.out _ hdr) (fun hZ=> ?_)
 refine tkH 0 hZ ?_
 simp only [Act.put]
 refine tkH 1 hZ ?_
 simp only [Act.put]
 refine tkH 2 hZ ?_
 simp only [Act.put]
 refine tkH 3 hZ ?_
 simp only [Act.put]
 refine tkH 4 hZ ?_
 simp only [Act.put]
 refine rdH 5 fun K hK=> ?_
 go_simp
 refine(HG.out _ hdr).mono ?_
 rintro e W1 ⟨rfl,hb2⟩
 replace hb2:=below0 hdr hb2
 refine hK.out _ _ (HSS.out _ hb2) (fun hZ=> ?_)
 clear hK K hdr
 try simp only [Act.put]
 refine tkH 6 hZ ?_
 simp only [Act.put]
 refine rdH 7 fun K hK=> ?_
 go_simp
 refine hK.out _ _ (HSS.out _ hb2) (fun hZ=> ?_)
 clear hK K
 try simp only [Act.put]
 refine wpAnyH_done (by kernel_rfl) ?_ _
 clear HSS HG
 go_wp2_with fail
 go_ret
 exact⟨rfl,hb2⟩
def mqE (l:Pg.Tb) (z o y m:Int):Nat:=if ¬(ownsB o && ownerB y && Pg.mayB m)=true then 2 else if ¬Pg.pageB z=true then 4 else if(Pg.look l z).isSome=true then 180 else 0
def mqL (b:Nat) (s:Nat) (a2 a3 a4:Bool):List Ask:=
 [⟨89,#[bx b],#[],1,true⟩,⟨121,#[],#[bx (s+2),bx (s+3),bx (s+4)],2,a2⟩,⟨125,#[],#[bx (s+1)],4,a3⟩,⟨127,#[],#[bx s,bx (s+1)],180,a4⟩]
theorem mq_asked {w:World} {b t q:Nat} {l:Pg.Tb} {p:Pl} {F1 F2:Nat→Prop} (h:MRep w b t q l p F1 F2) (z o y m:Int):
  Calls Tryz.prog 120 #[.slice (some ⟨w.heap.size+5,0,none⟩) 4 4] (askW w [([bx b],24),([.int .i64 z],3),([.int .i64 o],3),([.int .i64 y],3),([.int .i64 m],135)] (mqL b w.heap.size true true true)) fun e w'=>e= .returned (.int .i64 (mqE l z o y m:Int))∧Boxes w [[bx b],[.int .i64 z],[.int .i64 o],[.int .i64 y],[.int .i64 m]] w':=by
 obtain⟨a2,ha2⟩:=Nm ((ownsB o && ownerB y && Pg.mayB m))
 obtain⟨a3,ha3⟩:=Nm (Pg.pageB z)
 obtain⟨a4,ha4⟩:=Nm (!(Pg.look l z).isSome)
 have hE:askE (mqL b w.heap.size a2 a3 a4)=(mqE l z o y m:Int):=by
  unfold mqE
  have e4:(Pg.look l z).isSome= !a4:=by rw [ha4];simp
  rw [←ha2,←ha3,e4]
  cases a2 <;> cases a3 <;> cases a4 <;> rfl
 refine(asked_box [([bx b],24),([.int .i64 z],3),([.int .i64 o],3),([.int .i64 y],3),([.int .i64 m],135)] (mqL b w.heap.size a2 a3 a4) 4 4 _ rfl rfl (by omega) fun k hk hall=> ?_).mono fun e w' ⟨e1,e2,_⟩=>⟨by rw [e1,hE],e2⟩
 rcases k with _ | _ | _ | _ | k
 ·refine⟨enters_of Tryz.func89 (by kernel_rfl) rfl,fun V hV=> ?_⟩
  exact(there_any b q V (h.below hV.below).c1).mono fun e w' ⟨e1,e2⟩=>⟨e1,e2 ▸ Br⟩
 ·refine⟨enters_of Tryz.func121 (by kernel_rfl) rfl,fun V hV=> ?_⟩
  have:=(map1_any o y m (w.heap.size+2) (w.heap.size+3) (w.heap.size+4) V (hV.cell 2 _ rfl 0 _ rfl) (hV.cell 3 _ rfl 0 _ rfl) (hV.cell 4 _ rfl 0 _ rfl))
  rw [←ha2]at this
  exact this.mono fun e w' ⟨e1,e2⟩=>⟨e1,e2 ▸ Br⟩
 ·refine⟨enters_of Tryz.func125 (by kernel_rfl) rfl,fun V hV=> ?_⟩
  have:=map2_any z (w.heap.size+1) V (hV.cell 1 _ rfl 0 _ rfl)
  rw [←ha3]at this
  exact this.mono fun e w' ⟨e1,e2⟩=>⟨e1,e2 ▸ Br⟩
 ·have t3:a3=true:=hall 2 (by simp [mqL]) (by omega)
  rw [ha3]at t3
  refine⟨enters_of Tryz.func127 (by kernel_rfl) rfl,fun V hV=> ?_⟩
  have:=map3_any z (Pg.page64 t3) (h.below hV.below).tab (h.below hV.below).c0 (hV.cell 0 _ rfl 0 _ rfl) (hV.cell 1 _ rfl 0 _ rfl)
  rw [←ha4]at this
  exact this
 ·simp [mqL]at hk
  omega
theorem mapN {w:World} {t:Nat} {l:Pg.Tb} {F:Nat→Prop} (h:Pg.Has w t l F) (z:Int) (x:Pg.En) (hx:Pg.En64 x):Calls Tryz.prog 130 #[bx t,.int .i64 z,Pg.enV x] w fun e w'=>e= .returned (.int .i64 (Pg.mapE l z x:Int))∧Pg.Next w t (Pg.mapT l z x) F w':=by
 by_cases hE:Pg.mapE l z x=0
 ·rw [hE]
  exact Pg.map_yes h z x hx hE
 ·exact Pg.map_no h z x hx hE
def mapME (p:Pl) (l:Pg.Tb) (z o y m:Int):Nat:=if mqE l z o y m=0 then if takeE p y=0 then Pg.mapE l z (o,m,(takeI p y:Int)) else takeE p y else mqE l z o y m
def mapML (p:Pl) (l:Pg.Tb) (z o y m:Int):Pg.Tb:=if mqE l z o y m=0 then if takeE p y=0 then Pg.mapT l z (o,m,(takeI p y:Int)) else l else l
def mapMP (p:Pl) (l:Pg.Tb) (z o y m:Int):Pl:=if mqE l z o y m=0 then takeP p y else p
theorem Boxes.kept {w V V':World} {ls:List (List Value)} (h:Boxes w ls V) (hk:∀k,w.heap.size≤k→k < V.heap.size→V'.heap[k]?=V.heap[k]?) (k:Nat) (cs:List Value) (hc:ls[k]?=some cs):∃t,Row V' (w.heap.size+k) t cs:=by
 obtain⟨t,hr⟩:=h.row k cs hc
 exact⟨t,hr.same (hk _ (by omega) hr.lt)⟩
theorem map_q {w:World} {b t q:Nat} {l:Pg.Tb} {p:Pl} {F1 F2:Nat→Prop} (h:MRep w b t q l p F1 F2) (z o y m:Int) (hE:mqE l z o y m≠0):
  Calls Tryz.prog 58 #[bx b,.int .i64 z,.int .i64 o,.int .i64 y,.int .i64 m] w fun e w'=>e= .returned (.int .i64 (mqE l z o y m:Int))∧MNext w b t q l p F1 F2 w':=by
 have HQ:=Lh ((mq_asked h z o y m).mono fun e w' ⟨e1,e2⟩=>(show e=Ending.returned (Value.int .i64 (mqE l z o y m:Int))∧MNext w b t q l p F1 F2 w' from⟨e1,MNext.same h e2.below⟩))
 obtain⟨E,hE2⟩:=Nm (mqE l z o y m)
 rw [←hE2]at HQ hE ⊢
 have e0:(((E:Int)) == 0)=false:=by rw [beq_eq_false_iff_ne];omega
 have e1:¬((E:Int)=0):=by omega
 clear hE2 h hE
 go_enter Tryz.func58,Tryz.ntmps58
 go_wp2_with fail
 refine wp_scope_jump 1 fun R hR hJm=> ?_
 go_wp2_with fail
 refine(HQ.out).mono ?_
 rintro e w1 ⟨rfl,hn⟩
 have HN:=Lh hn
 clear hn HQ
 go_wp2_with fail
 refine wp_goto (hJm.out _ _ _ _ _ rfl ?_)
 go_wp2_with fail
 refine hR.out _ _ _ _ (by simp) ?_
 go_ret
 exact⟨rfl,HN.out⟩
theorem map_no {w:World} {b t q:Nat} {l:Pg.Tb} {p:Pl} {F1 F2:Nat→Prop} (h:MRep w b t q l p F1 F2) (z o y m:Int) (hE:mqE l z o y m=0) (hT:takeE p y≠0):
  Calls Tryz.prog 58 #[bx b,.int .i64 z,.int .i64 o,.int .i64 y,.int .i64 m] w fun e w'=>e= .returned (.int .i64 (takeE p y:Int))∧MNext w b t q l (takeP p y) F1 F2 w':=by
 have HQ:=Lh (mq_asked h z o y m)
 rw [hE]at HQ
 rw [show((0:Nat):Int)=0 from rfl]at HQ
 have HSB:=Lh (fun(W1:World) (hB:Boxes w [[bx b],[.int .i64 z],[.int .i64 o],[.int .i64 y],[.int .i64 m]] W1) (W:World) (hb:Below W1.heap.size W1 W)=>(show W.cell? ⟨w.heap.size,0,none⟩=some (bx b)∧W.cell? ⟨w.heap.size+1,0,none⟩=some (.int .i64 z)∧W.cell? ⟨w.heap.size+1+1,0,none⟩=some (.int .i64 o)∧W.cell? ⟨w.heap.size+1+1+1,0,none⟩=some (.int .i64 y)∧W.cell? ⟨w.heap.size+1+1+1+1,0,none⟩=some (.int .i64 m)∧W.cell? ⟨b,0,none⟩=some (bx t)∧W.cell? ⟨b,1,none⟩=some (bx q) from
  have h9:=hB.more hb
  ⟨h9.cell 0 _ rfl 0 _ rfl,h9.cell 1 _ rfl 0 _ rfl,h9.cell 2 _ rfl 0 _ rfl,h9.cell 3 _ rfl 0 _ rfl,h9.cell 4 _ rfl 0 _ rfl,(h.below h9.below).c0,(h.below h9.below).c1⟩))
 have HSN:=Lh (fun(V W:World) (hs:V.cell? ⟨w.heap.size,0,none⟩=some (bx b)∧V.cell? ⟨w.heap.size+1,0,none⟩=some (.int .i64 z)∧V.cell? ⟨w.heap.size+1+1,0,none⟩=some (.int .i64 o)∧V.cell? ⟨w.heap.size+1+1+1,0,none⟩=some (.int .i64 y)∧V.cell? ⟨w.heap.size+1+1+1+1,0,none⟩=some (.int .i64 m)∧V.cell? ⟨b,0,none⟩=some (bx t)∧V.cell? ⟨b,1,none⟩=some (bx q)) (hk:Keep F2 V W)=>(show W.cell? ⟨w.heap.size,0,none⟩=some (bx b)∧W.cell? ⟨w.heap.size+1,0,none⟩=some (.int .i64 z)∧W.cell? ⟨w.heap.size+1+1,0,none⟩=some (.int .i64 o)∧W.cell? ⟨w.heap.size+1+1+1,0,none⟩=some (.int .i64 y)∧W.cell? ⟨w.heap.size+1+1+1+1,0,none⟩=some (.int .i64 m)∧W.cell? ⟨b,0,none⟩=some (bx t)∧W.cell? ⟨b,1,none⟩=some (bx q) from by
  obtain⟨s1,s2,s3,s4,s5,s6,s7⟩:=hs
  have nf:∀k,w.heap.size≤k→¬F2 k:=fun k hk hf=>by have:=h.pool.lt k hf;omega
  exact⟨(hk.cell (lt_of_cell s1) (nf _ (by simp))).trans s1,(hk.cell (lt_of_cell s2) (nf _ (by simp))).trans s2,(hk.cell (lt_of_cell s3) (nf _ (by simp;omega))).trans s3,(hk.cell (lt_of_cell s4) (nf _ (by simp;omega))).trans s4,(hk.cell (lt_of_cell s5) (nf _ (by simp;omega))).trans s5,(hk.cell (lt_of_cell s6) h.b2).trans s6,(hk.cell (lt_of_cell s7) h.b2).trans s7⟩))
 have HTK:=Lh (fun(W1:World) (hB:Boxes w [[bx b],[.int .i64 z],[.int .i64 o],[.int .i64 y],[.int .i64 m]] W1) (W:World) (hb:Below W1.heap.size W1 W)=>(takeN (h.below (below0 hB.below hb)).pool y).mono fun e w' ⟨e1,e2⟩=>(show e=Ending.returned (.tuple #[.int .i64 (takeI p y:Int),.int .i64 (takeE p y:Int)])∧MNext w b t q l (takeP p y) F1 F2 w'∧Keep F2 W w' from
  ⟨e1,MNext.pool h (below0 hB.below hb) e2,by
   obtain⟨_,_,hkk,_⟩:=e2
   exact hkk⟩))
 obtain⟨E,hE2⟩:=Nm (takeE p y)
 rw [←hE2]at HTK hT ⊢
 obtain⟨f,hf⟩:=Nm (takeI p y)
 rw [←hf]at HTK
 have e0:(((E:Int)) == 0)=false:=by rw [beq_eq_false_iff_ne];omega
 have e1:¬((E:Int)=0):=by omega
 clear hE2 h hE hT hf
 go_enter Tryz.func58,Tryz.ntmps58
 go_wp2_with fail
 refine wp_scope_jump 1 fun R hR hJm=> ?_
 go_wp2_with fail
 refine(HQ.out).mono ?_
 rintro e W1 ⟨rfl,hB⟩
 have HB:=Lh hB
 clear hB HQ
 go_wp2_with fail
 have hdr:Below W1.heap.size W1 W1.drew:=Br.drew
 refine wp_region_noPanic ?_
 refine wp_region_held_drew (S:=fun W=>W.cell? ⟨w.heap.size,0,none⟩=some (bx b)∧W.cell? ⟨w.heap.size+1,0,none⟩=some (.int .i64 z)∧W.cell? ⟨w.heap.size+1+1,0,none⟩=some (.int .i64 o)∧W.cell? ⟨w.heap.size+1+1+1,0,none⟩=some (.int .i64 y)∧W.cell? ⟨w.heap.size+1+1+1+1,0,none⟩=some (.int .i64 m)∧W.cell? ⟨b,0,none⟩=some (bx t)∧W.cell? ⟨b,1,none⟩=some (bx q)) (by kernel_rfl) (HSB.out _ HB.out _ hdr) (fun hZ=> ?_)
 refine tkH 0 hZ ?_
 simp only [Act.put]
 refine tkH 1 hZ ?_
 simp only [Act.put]
 refine tkH 2 hZ ?_
 simp only [Act.put]
 refine tkH 3 hZ ?_
 simp only [Act.put]
 refine tkH 4 hZ ?_
 simp only [Act.put]
 refine rdH 5 fun K hK=> ?_
 go_simp
 refine(HTK.out _ HB.out _ hdr).mono ?_
 rintro e W2 ⟨rfl,hn,hk2⟩
 have hS2:=HSN.out _ _ (HSB.out _ HB.out _ hdr) hk2
 have HN:=Lh hn
 clear hn hk2
 refine hK.out _ _ hS2 (fun hZ=> ?_)
 clear hK K hdr
 try simp only [Act.put]
 refine tkH 6 hZ ?_
 simp only [Act.put]
 refine tkH 7 hZ ?_
 simp only [Act.put]
 refine tkH 8 hZ ?_
 simp only [Act.put]
 refine rdH 9 fun K hK=> ?_
 go_simp
 refine hK.out _ _ hS2 (fun hZ=> ?_)
 clear hK K
 try simp only [Act.put]
 refine rdH 10 fun K hK=> ?_
 go_simp
 refine hK.out _ _ hS2 (fun hZ=> ?_)
 clear hK K
 try simp only [Act.put]
 refine wpAnyH_done (by kernel_rfl) ?_ _
 refine NoPanic.normal ?_
 have HS2:=Lh hS2
 clear hS2 HSB HSN HTK HB
 go_wp2_with fail
 refine wp_goto (hJm.out _ _ _ _ _ rfl ?_)
 go_wp2_with fail
 refine hR.out _ _ _ _ (by simp) ?_
 go_ret
 exact⟨rfl,HN.out⟩
theorem map_yes {w:World} {b t q:Nat} {l:Pg.Tb} {p:Pl} {F1 F2:Nat→Prop} (h:MRep w b t q l p F1 F2) (z o y m:Int) (hE:mqE l z o y m=0) (hT:takeE p y=0) (ho:Pg.I64 o) (hmm:Pg.I64 m):
  Calls Tryz.prog 58 #[bx b,.int .i64 z,.int .i64 o,.int .i64 y,.int .i64 m] w fun e w'=>e= .returned (.int .i64 (Pg.mapE l z (o,m,(takeI p y:Int)):Int))∧MNext w b t q (Pg.mapT l z (o,m,(takeI p y:Int))) (takeP p y) F1 F2 w':=by
 have HQ:=Lh (mq_asked h z o y m)
 rw [hE]at HQ
 rw [show((0:Nat):Int)=0 from rfl]at HQ
 have HSB:=Lh (fun(W1:World) (hB:Boxes w [[bx b],[.int .i64 z],[.int .i64 o],[.int .i64 y],[.int .i64 m]] W1) (W:World) (hb:Below W1.heap.size W1 W)=>(show W.cell? ⟨w.heap.size,0,none⟩=some (bx b)∧W.cell? ⟨w.heap.size+1,0,none⟩=some (.int .i64 z)∧W.cell? ⟨w.heap.size+1+1,0,none⟩=some (.int .i64 o)∧W.cell? ⟨w.heap.size+1+1+1,0,none⟩=some (.int .i64 y)∧W.cell? ⟨w.heap.size+1+1+1+1,0,none⟩=some (.int .i64 m)∧W.cell? ⟨b,0,none⟩=some (bx t)∧W.cell? ⟨b,1,none⟩=some (bx q) from
  have h9:=hB.more hb
  ⟨h9.cell 0 _ rfl 0 _ rfl,h9.cell 1 _ rfl 0 _ rfl,h9.cell 2 _ rfl 0 _ rfl,h9.cell 3 _ rfl 0 _ rfl,h9.cell 4 _ rfl 0 _ rfl,(h.below h9.below).c0,(h.below h9.below).c1⟩))
 have HSN:=Lh (fun(V W:World) (hs:V.cell? ⟨w.heap.size,0,none⟩=some (bx b)∧V.cell? ⟨w.heap.size+1,0,none⟩=some (.int .i64 z)∧V.cell? ⟨w.heap.size+1+1,0,none⟩=some (.int .i64 o)∧V.cell? ⟨w.heap.size+1+1+1,0,none⟩=some (.int .i64 y)∧V.cell? ⟨w.heap.size+1+1+1+1,0,none⟩=some (.int .i64 m)∧V.cell? ⟨b,0,none⟩=some (bx t)∧V.cell? ⟨b,1,none⟩=some (bx q)) (hk:Keep F2 V W)=>(show W.cell? ⟨w.heap.size,0,none⟩=some (bx b)∧W.cell? ⟨w.heap.size+1,0,none⟩=some (.int .i64 z)∧W.cell? ⟨w.heap.size+1+1,0,none⟩=some (.int .i64 o)∧W.cell? ⟨w.heap.size+1+1+1,0,none⟩=some (.int .i64 y)∧W.cell? ⟨w.heap.size+1+1+1+1,0,none⟩=some (.int .i64 m)∧W.cell? ⟨b,0,none⟩=some (bx t)∧W.cell? ⟨b,1,none⟩=some (bx q) from by
  obtain⟨s1,s2,s3,s4,s5,s6,s7⟩:=hs
  have nf:∀k,w.heap.size≤k→¬F2 k:=fun k hk hf=>by have:=h.pool.lt k hf;omega
  exact⟨(hk.cell (lt_of_cell s1) (nf _ (by simp))).trans s1,(hk.cell (lt_of_cell s2) (nf _ (by simp))).trans s2,(hk.cell (lt_of_cell s3) (nf _ (by simp;omega))).trans s3,(hk.cell (lt_of_cell s4) (nf _ (by simp;omega))).trans s4,(hk.cell (lt_of_cell s5) (nf _ (by simp;omega))).trans s5,(hk.cell (lt_of_cell s6) h.b2).trans s6,(hk.cell (lt_of_cell s7) h.b2).trans s7⟩))
 have HTK:=Lh (fun(W1:World) (hB:Boxes w [[bx b],[.int .i64 z],[.int .i64 o],[.int .i64 y],[.int .i64 m]] W1) (W:World) (hb:Below W1.heap.size W1 W)=>(takeN (h.below (below0 hB.below hb)).pool y).mono fun e w' ⟨e1,e2⟩=>(show e=Ending.returned (.tuple #[.int .i64 (takeI p y:Int),.int .i64 (takeE p y:Int)])∧MNext w b t q l (takeP p y) F1 F2 w'∧Keep F2 W w' from
  ⟨e1,MNext.pool h (below0 hB.below hb) e2,by
   obtain⟨_,_,hkk,_⟩:=e2
   exact hkk⟩))
 rw [hT]at HTK
 rw [show((0:Nat):Int)=0 from rfl]at HTK
 have hti:takeI p y≤16384:=by
  have h1:=(takeE_left h.pool.ok hT).2.2.2.1
  have h2:=(List.getElem?_eq_some_iff.1 (free1_spec _ _ h1).1).1
  have:=h.pool.ok.most
  omega
 obtain⟨f,hf⟩:=Nm (takeI p y)
 rw [←hf]at HTK hti ⊢
 have HMP:=Lh (fun(W2:World) (hn:MNext w b t q l (takeP p y) F1 F2 W2) (W:World) (hb:Below W2.heap.size W2 W)=>(show Calls Tryz.prog 130 #[bx t,.int .i64 z,.agg #[.int .i64 o,.int .i64 m,.int .i64 (f:Int)]] W (fun e w'=>e= .returned (.int .i64 (Pg.mapE l z (o,m,(f:Int)):Int))∧MNext w b t q (Pg.mapT l z (o,m,(f:Int))) (takeP p y) F1 F2 w'∧Keep F1 W w') from by
  obtain⟨F3,hm,hF3,hk⟩:=hn
  exact(mapN (hm.below hb).tab z (o,m,(f:Int)) ⟨ho,hmm,by unfold Pg.I64;simp only;omega⟩).mono fun e w' ⟨e1,e2⟩=>⟨e1,MNext.trans hF3 hk (MNext.tab hm hb e2),e2.2⟩))
 have HSM:=Lh (fun(V W:World) (hs:V.cell? ⟨w.heap.size,0,none⟩=some (bx b)∧V.cell? ⟨w.heap.size+1,0,none⟩=some (.int .i64 z)∧V.cell? ⟨w.heap.size+1+1,0,none⟩=some (.int .i64 o)∧V.cell? ⟨w.heap.size+1+1+1,0,none⟩=some (.int .i64 y)∧V.cell? ⟨w.heap.size+1+1+1+1,0,none⟩=some (.int .i64 m)∧V.cell? ⟨b,0,none⟩=some (bx t)∧V.cell? ⟨b,1,none⟩=some (bx q)) (hk:Keep F1 V W)=>(show W.cell? ⟨w.heap.size,0,none⟩=some (bx b)∧W.cell? ⟨w.heap.size+1,0,none⟩=some (.int .i64 z)∧W.cell? ⟨w.heap.size+1+1,0,none⟩=some (.int .i64 o)∧W.cell? ⟨w.heap.size+1+1+1,0,none⟩=some (.int .i64 y)∧W.cell? ⟨w.heap.size+1+1+1+1,0,none⟩=some (.int .i64 m)∧W.cell? ⟨b,0,none⟩=some (bx t)∧W.cell? ⟨b,1,none⟩=some (bx q) from by
  obtain⟨s1,s2,s3,s4,s5,s6,s7⟩:=hs
  have nf:∀k,w.heap.size≤k→¬F1 k:=fun k hk hf=>by have:=h.tab.lt k hf;omega
  exact⟨(hk.cell (lt_of_cell s1) (nf _ (by simp))).trans s1,(hk.cell (lt_of_cell s2) (nf _ (by simp))).trans s2,(hk.cell (lt_of_cell s3) (nf _ (by simp;omega))).trans s3,(hk.cell (lt_of_cell s4) (nf _ (by simp;omega))).trans s4,(hk.cell (lt_of_cell s5) (nf _ (by simp;omega))).trans s5,(hk.cell (lt_of_cell s6) h.b1).trans s6,(hk.cell (lt_of_cell s7) h.b1).trans s7⟩))
 obtain⟨E,hE9⟩:=Nm (Pg.mapE l z (o,m,(f:Int)))
 rw [←hE9]at HMP ⊢
 obtain⟨l',hl'⟩:∃l',l'=Pg.mapT l z (o,m,(f:Int)):=⟨_,rfl⟩
 rw [←hl']at HMP ⊢
 clear h hE hT hf hti hE9 hl' ho hmm
 go_enter Tryz.func58,Tryz.ntmps58
 go_wp2_with fail
 refine wp_scope_jump 1 fun R hR hJm=> ?_
 go_wp2_with fail
 refine(HQ.out).mono ?_
 rintro e W1 ⟨rfl,hB⟩
 have HB:=Lh hB
 clear hB HQ
 go_wp2_with fail
 have hdr:Below W1.heap.size W1 W1.drew:=Br.drew
 refine wp_region_noPanic ?_
 refine wp_region_held_drew (S:=fun W=>W.cell? ⟨w.heap.size,0,none⟩=some (bx b)∧W.cell? ⟨w.heap.size+1,0,none⟩=some (.int .i64 z)∧W.cell? ⟨w.heap.size+1+1,0,none⟩=some (.int .i64 o)∧W.cell? ⟨w.heap.size+1+1+1,0,none⟩=some (.int .i64 y)∧W.cell? ⟨w.heap.size+1+1+1+1,0,none⟩=some (.int .i64 m)∧W.cell? ⟨b,0,none⟩=some (bx t)∧W.cell? ⟨b,1,none⟩=some (bx q)) (by kernel_rfl) (HSB.out _ HB.out _ hdr) (fun hZ=> ?_)
 refine tkH 0 hZ ?_
 simp only [Act.put]
 refine tkH 1 hZ ?_
 simp only [Act.put]
 refine tkH 2 hZ ?_
 simp only [Act.put]
 refine tkH 3 hZ ?_
 simp only [Act.put]
 refine tkH 4 hZ ?_
 simp only [Act.put]
 refine rdH 5 fun K hK=> ?_
 go_simp
 refine(HTK.out _ HB.out _ hdr).mono ?_
 rintro e W2 ⟨rfl,hn,hk2⟩
 have hS2:=HSN.out _ _ (HSB.out _ HB.out _ hdr) hk2
 have HN:=Lh hn
 clear hn hk2
 refine hK.out _ _ hS2 (fun hZ=> ?_)
 clear hK K hdr
 try simp only [Act.put]
 refine tkH 6 hZ ?_
 simp only [Act.put]
 refine tkH 7 hZ ?_
 simp only [Act.put]
 refine tkH 8 hZ ?_
 simp only [Act.put]
 refine rdH 9 fun K hK=> ?_
 go_simp
 refine hK.out _ _ hS2 (fun hZ=> ?_)
 clear hK K
 try simp only [Act.put]
 refine rdH 10 fun K hK=> ?_
 go_simp
 refine hK.out _ _ hS2 (fun hZ=> ?_)
 clear hK K
 try simp only [Act.put]
 refine wpAnyH_done (by kernel_rfl) ?_ _
 refine NoPanic.normal ?_
 have HS2:=Lh hS2
 clear hS2 HSB HSN HTK HB
 go_wp2_with fail
 have hdr:Below W2.heap.size W2 W2.drew:=Br.drew
 refine wp_region_noPanic ?_
 refine wp_region_held_drew (S:=fun W=>W.cell? ⟨w.heap.size,0,none⟩=some (bx b)∧W.cell? ⟨w.heap.size+1,0,none⟩=some (.int .i64 z)∧W.cell? ⟨w.heap.size+1+1,0,none⟩=some (.int .i64 o)∧W.cell? ⟨w.heap.size+1+1+1,0,none⟩=some (.int .i64 y)∧W.cell? ⟨w.heap.size+1+1+1+1,0,none⟩=some (.int .i64 m)∧W.cell? ⟨b,0,none⟩=some (bx t)∧W.cell? ⟨b,1,none⟩=some (bx q)) (by kernel_rfl) (show W2.drew.cell? ⟨w.heap.size,0,none⟩=some (bx b)∧W2.drew.cell? ⟨w.heap.size+1,0,none⟩=some (.int .i64 z)∧W2.drew.cell? ⟨w.heap.size+1+1,0,none⟩=some (.int .i64 o)∧W2.drew.cell? ⟨w.heap.size+1+1+1,0,none⟩=some (.int .i64 y)∧W2.drew.cell? ⟨w.heap.size+1+1+1+1,0,none⟩=some (.int .i64 m)∧W2.drew.cell? ⟨b,0,none⟩=some (bx t)∧W2.drew.cell? ⟨b,1,none⟩=some (bx q) from HS2.out) (fun hZ=> ?_)
 refine tkH 0 hZ ?_
 simp only [Act.put]
 refine tkH 1 hZ ?_
 simp only [Act.put]
 refine tkH 2 hZ ?_
 simp only [Act.put]
 refine tkH 3 hZ ?_
 simp only [Act.put]
 refine tkH 4 hZ ?_
 simp only [Act.put]
 refine tkH 5 hZ ?_
 simp only [Act.put]
 refine tkH 6 hZ ?_
 simp only [Act.put]
 refine tkH 7 hZ ?_
 simp only [Act.put]
 refine tkH 8 hZ ?_
 simp only [Act.put]
 refine tkH 9 hZ ?_
 simp only [Act.put]
 refine rdH 10 fun K hK=> ?_
 go_simp
 refine(HMP.out _ HN.out _ hdr).mono ?_
 rintro e W3 ⟨rfl,hn,hk3⟩
 have hS3:=HSM.out W2.drew W3 HS2.out hk3
 have HN3:=Lh hn
 clear hn hk3
 refine hK.out _ _ hS3 (fun hZ=> ?_)
 clear hK K hdr
 try simp only [Act.put]
 refine rdH 11 fun K hK=> ?_
 go_simp
 refine hK.out _ _ hS3 (fun hZ=> ?_)
 clear hK K
 try simp only [Act.put]
 refine wpAnyH_done (by kernel_rfl) ?_ _
 refine NoPanic.normal ?_
 clear hS3 HS2 HMP HSM HN
 go_wp2_with fail
 refine hR.out _ _ _ _ (by simp) ?_
 go_ret
 exact⟨rfl,HN3.out⟩
theorem map_any {w:World} {b t q:Nat} {l:Pg.Tb} {p:Pl} {F1 F2:Nat→Prop} (h:MRep w b t q l p F1 F2) (z o y m:Int) (ho:Pg.I64 o) (hm:Pg.I64 m):
  Calls Tryz.prog 58 #[bx b,.int .i64 z,.int .i64 o,.int .i64 y,.int .i64 m] w fun e w'=>e= .returned (.int .i64 (mapME p l z o y m:Int))∧MNext w b t q (mapML p l z o y m) (mapMP p l z o y m) F1 F2 w':=by
 unfold mapME mapML mapMP
 by_cases h0:mqE l z o y m=0
 ·rw [if_pos h0,if_pos h0,if_pos h0]
  by_cases h1:takeE p y=0
  ·rw [if_pos h1,if_pos h1]
   exact map_yes h z o y m h0 h1 ho hm
  ·rw [if_neg h1,if_neg h1]
   exact map_no h z o y m h0 h1
 ·rw [if_neg h0,if_neg h0,if_neg h0]
  exact map_q h z o y m h0
def pokeP (p:Pl) (l:Pg.Tb) (a n:Nat) (bs:List UInt8):Pl:=if hndE l a (n:Int)=0 then wr p l (pts a n) bs else p
theorem poke_any {w:World} {b t q:Nat} {l:Pg.Tb} {p:Pl} {F1 F2:Nat→Prop} (h:MRep w b t q l p F1 F2) (a n c:Nat) (S:Option Addr) (bs:List UInt8) (ha:a < 4294967296) (hn:bs.length=n) (hc:n≤c) (hS:Src w b F1 F2 S bs):
  Calls Tryz.prog 86 #[bx b,.int .u32 (a:Int),.slice S n c] w fun e w'=>e= .returned (.int .i64 (hndE l a (n:Int):Int))∧MNext w b t q l (pokeP p l a n bs) F1 F2 w':=by
 have hbb:=below1 w (.cells #[.int .u32 (a:Int),.int .i64 (n:Int)] 245)
 have HO:=Lh (handed_any (h.below hbb) a (n:Int) ha)
 unfold pokeP
 by_cases hE:hndE l a (n:Int)=0
 ·rw [if_pos hE]
  obtain⟨m,hm,hm1,hm2,_⟩:=rE_0 hE
  have hmn:m=n:=by omega
  subst hmn
  rw [hE]at HO ⊢
  have hw0:=lt_of_cell (show(w.alloc (.cells #[.int .u32 (a:Int),.int .i64 (m:Int)] 245)).cell? ⟨w.heap.size,0,none⟩=some (.int .u32 (a:Int)) from cell_alloc_new _ _ _ _)
  have HR:=Lh (fun W (hb:Below (w.alloc (.cells #[.int .u32 (a:Int),.int .i64 (m:Int)] 245)).heap.size (w.alloc (.cells #[.int .u32 (a:Int),.int .i64 (m:Int)] 245)) W)=>(writeM_any ((h.below hbb).below hb) a m c S bs hm2 hn hc ⟨(hS.1.below (below0 hbb hb)).more (below0 hbb hb).size,fun ad e hne=>by
   have h1:=hS.2 ad e hne
   have h2:=(below0 hbb hb).size
   exact⟨by omega,h1.2⟩⟩).mono fun e w' ⟨e1,⟨F3,e2,e3⟩,e4⟩=>(show(∃v,e=Ending.returned v)∧MNext w b t q l (wr p l (pts a m) bs) F1 F2 w' from
    ⟨e1,F3,e2,fun k hf=>(e3 k hf).imp id (fun hk=>by have:=(below0 hbb hb).size;omega),(Keep.of_below (F:=fun k=>F1 k∨F2 k) (below0 hbb hb)).trans e4 fun _ _ hf=> .inr hf⟩))
  clear h hbb hE hm hS hn hc
  go_enter Tryz.func86,Tryz.ntmps86
  go_wp2_with fail
  refine wp_scope_jump 1 fun R hR hJm=> ?_
  go_wp2_with fail
  refine(HO.out).mono ?_
  rintro e W1 ⟨rfl,hb1⟩
  have c0:W1.cell? ⟨w.heap.size,0,none⟩=some (.int .u32 (a:Int)):=(hb1.cell (p:=⟨w.heap.size,0,none⟩) hw0).trans (cell_alloc_new _ _ _ _)
  have c1:W1.cell? ⟨w.heap.size,1,none⟩=some (.int .i64 (m:Int)):=(hb1.cell (p:=⟨w.heap.size,1,none⟩) hw0).trans (cell_alloc_new _ _ _ _)
  have HR1:=Lh (HR.out _ hb1)
  clear hb1 HR
  go_wp2_with fail
  refine(HR1.out).mono ?_
  rintro e W2 ⟨⟨v,rfl⟩,hnx⟩
  have HF:=Lh hnx
  clear hnx c0 c1 hw0
  go_wp2_with fail
  refine hR.out _ _ _ _ (by simp) ?_
  go_ret
  exact⟨rfl,HF.out⟩
 ·rw [if_neg hE]
  have HM:=Lh (fun W (hb:Below (w.alloc (.cells #[.int .u32 (a:Int),.int .i64 (n:Int)] 245)).heap.size (w.alloc (.cells #[.int .u32 (a:Int),.int .i64 (n:Int)] 245)) W)=>MNext.same h (below0 hbb hb))
  obtain⟨E,hE2⟩:=Nm (hndE l a (n:Int))
  rw [←hE2]at HO hE ⊢
  have e0:(((E:Int)) == 0)=false:=by rw [beq_eq_false_iff_ne];omega
  have e1:¬((E:Int)=0):=by omega
  clear h hbb hE hE2 hS hn hc
  go_enter Tryz.func86,Tryz.ntmps86
  go_wp2_with fail
  refine wp_scope_jump 1 fun R hR hJm=> ?_
  go_wp2_with fail
  refine(HO.out).mono ?_
  rintro e W1 ⟨rfl,hb1⟩
  have HF:=Lh (HM.out _ hb1)
  clear hb1 HM
  go_wp2_with fail
  refine wp_goto (hJm.out _ _ _ _ _ rfl ?_)
  go_wp2_with fail
  refine hR.out _ _ _ _ (by simp) ?_
  go_ret
  exact⟨rfl,HF.out⟩
end Go.Proofs.YtfcfbcjiijfjgaaGreatDoor.Vm
