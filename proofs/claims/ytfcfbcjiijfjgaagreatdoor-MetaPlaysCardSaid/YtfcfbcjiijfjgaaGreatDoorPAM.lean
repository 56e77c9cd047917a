import Derived.Test.YtfcfbcjiijfjgaaGreatDoorPAL
import Derived.Test.YtfcfbcjiijfjgaaGreatDoorPAE
set_option maxHeartbeats 2000000
set_option maxRecDepth 100000
namespace Go.Proofs.YtfcfbcjiijfjgaaGreatDoor.Pg
open Go.RowKit Go.Shelf Go.Maps
attribute [local go_sem] Oper.semAt_some
theorem map2_any (g:Nat) (z:Int) (w:World) (hc:w.cell? ⟨g,0,none⟩=some (.int .i64 z)):Calls Tryz.prog 191 #[bx g] w fun e w'=>e= .returned (.bool (pageB z))∧Below w.heap.size w w':=by
 have h1:=Lh (fun w=>known_any z w)
 obtain⟨q,hq⟩:=Nm (pageB z)
 rw [←hq]at h1 ⊢
 clear hq
 go_enter Tryz.func191,Tryz.ntmps191
 go_wp2_with fail
 refine(h1.out _).mono ?_
 rintro e w1 ⟨rfl,rfl⟩
 go_wp2
 go_ret
 exact⟨rfl,Br⟩
theorem unmap1_any (g:Nat) (z:Int) (w:World) (hc:w.cell? ⟨g,0,none⟩=some (.int .i64 z)):Calls Tryz.prog 198 #[bx g] w fun e w'=>e= .returned (.bool (pageB z))∧Below w.heap.size w w':=by
 have h1:=Lh (fun w=>known_any z w)
 obtain⟨q,hq⟩:=Nm (pageB z)
 rw [←hq]at h1 ⊢
 clear hq
 go_enter Tryz.func198,Tryz.ntmps198
 go_wp2_with fail
 refine(h1.out _).mono ?_
 rintro e w1 ⟨rfl,rfl⟩
 go_wp2
 go_ret
 exact⟨rfl,Br⟩
theorem map1_any (g:Nat) (x:En) (w:World) (hc:∀(j:Nat) v,(enC x)[j]?=some v→w.cell? ⟨g,j,none⟩=some v):Calls Tryz.prog 189 #[bx g] w fun e w'=>e= .returned (.bool (rightB x))∧Below w.heap.size w w':=by
 have h1:=Lh (show ∀V,Calls Tryz.prog 190 #[.agg #[.int .i64 x.1,.int .i64 x.2.1,.int .i64 x.2.2]] V (fun e w'=>e= .returned (.bool (rightB x))∧Below V.heap.size V w') from fun V=>proper_any x V)
 have c0:=hc 0 _ rfl
 have c1:=hc 1 _ rfl
 have c2:=hc 2 _ rfl
 obtain⟨q,hq⟩:=Nm (rightB x)
 rw [←hq]at h1 ⊢
 clear hq hc
 obtain⟨o,m,f⟩:=x
 simp only at c0 c1 c2 h1
 go_enter Tryz.func189,Tryz.ntmps189
 go_wp2_with fail
 refine(h1.out _).mono ?_
 rintro e w1 ⟨rfl,hb⟩
 go_wp2
 go_ret
 exact⟨rfl,hb⟩
theorem map3_any {b bp bf:Nat} {l:Tb} {w:World} (h:Rep w b l bp bf) (gt gp:Nat) (z:Int) (hz:I64 z) (ht:w.cell? ⟨gt,0,none⟩=some (bx b)) (hp:w.cell? ⟨gp,0,none⟩=some (.int .i64 z)):
  Calls Tryz.prog 193 #[bx gt,bx gp] w fun e w'=>e= .returned (.bool (!(look l z).isSome))∧Below w.heap.size w w':=by
 have hh:=Lh (fun V (hb:Below w.heap.size w V)=>(show Calls Tryz.prog 194 #[bx b,.int .i64 z] V (fun e w'=>e= .returned (.bool (look l z).isSome)∧Below w.heap.size w w') from
  (mapped_any b bp l z V hz (h.below hb).c0 (h.below hb).pages).mono fun e w' ⟨e1,e2⟩=>⟨e1,below0 hb e2⟩))
 have l1:=lt_of_cell ht
 have l2:=lt_of_cell hp
 obtain⟨q,hq⟩:=Nm ((look l z).isSome)
 rw [←hq]at hh ⊢
 have HSA:=Lh (fun W (hB:Below w.heap.size w W)=>(show W.cell? ⟨gt,0,none⟩=some (bx b)∧W.cell? ⟨gp,0,none⟩=some (.int .i64 z)∧Below w.heap.size w W from
  ⟨(hB.cell (p:=⟨gt,0,none⟩) l1).trans ht,(hB.cell (p:=⟨gp,0,none⟩) l2).trans hp,hB⟩))
 have hdr:=Lh (show Below w.heap.size w w.drew from Br.drew)
 clear hq h
 go_enter Tryz.func193,Tryz.ntmps193
 go_wp2_with fail
 go_region_held3 (fun W=>W.cell? ⟨gt,0,none⟩=some (bx b)∧W.cell? ⟨gp,0,none⟩=some (.int .i64 z)∧Below w.heap.size w W)
  (first | exact HSA.out _ hdr.out | exact HSA.out _ (by assumption) | (go_split_ands;exact HSA.out _ (by assumption)))
  (first | (go_at_call 194;refine(hh.out _ (by go_split_ands;assumption)).mono ?_;rintro e w2 ⟨rfl,hb2⟩))
 go_wp2
 go_ret
 exact⟨rfl,hb2⟩
theorem unmap2_any {b bp bf:Nat} {l:Tb} {w:World} (h:Rep w b l bp bf) (gt gp:Nat) (z:Int) (hz:I64 z) (ht:w.cell? ⟨gt,0,none⟩=some (bx b)) (hp:w.cell? ⟨gp,0,none⟩=some (.int .i64 z)):
  Calls Tryz.prog 199 #[bx gt,bx gp] w fun e w'=>e= .returned (.bool ((look l z).isSome))∧Below w.heap.size w w':=by
 have hh:=Lh (fun V (hb:Below w.heap.size w V)=>(show Calls Tryz.prog 194 #[bx b,.int .i64 z] V (fun e w'=>e= .returned (.bool (look l z).isSome)∧Below w.heap.size w w') from
  (mapped_any b bp l z V hz (h.below hb).c0 (h.below hb).pages).mono fun e w' ⟨e1,e2⟩=>⟨e1,below0 hb e2⟩))
 have l1:=lt_of_cell ht
 have l2:=lt_of_cell hp
 obtain⟨q,hq⟩:=Nm ((look l z).isSome)
 rw [←hq]at hh ⊢
 have HSA:=Lh (fun W (hB:Below w.heap.size w W)=>(show W.cell? ⟨gt,0,none⟩=some (bx b)∧W.cell? ⟨gp,0,none⟩=some (.int .i64 z)∧Below w.heap.size w W from
  ⟨(hB.cell (p:=⟨gt,0,none⟩) l1).trans ht,(hB.cell (p:=⟨gp,0,none⟩) l2).trans hp,hB⟩))
 have hdr:=Lh (show Below w.heap.size w w.drew from Br.drew)
 clear hq h
 go_enter Tryz.func199,Tryz.ntmps199
 go_wp2_with fail
 go_region_held3 (fun W=>W.cell? ⟨gt,0,none⟩=some (bx b)∧W.cell? ⟨gp,0,none⟩=some (.int .i64 z)∧Below w.heap.size w W)
  (first | exact HSA.out _ hdr.out | exact HSA.out _ (by assumption) | (go_split_ands;exact HSA.out _ (by assumption)))
  (first | (go_at_call 194;refine(hh.out _ (by go_split_ands;assumption)).mono ?_;rintro e w2 ⟨rfl,hb2⟩))
 go_wp2
 go_ret
 exact⟨rfl,hb2⟩
theorem map4_any {b bp bf:Nat} {l:Tb} {w:World} (h:Rep w b l bp bf) (gt gx:Nat) (z:Int) (hz:I64 z) (ht:w.cell? ⟨gt,0,none⟩=some (bx b)) (hp:w.cell? ⟨gx,2,none⟩=some (.int .i64 z)):
  Calls Tryz.prog 195 #[bx gt,bx gx] w fun e w'=>e= .returned (.bool (!framed l z))∧Below w.heap.size w w':=by
 have hh:=Lh (fun V (hb:Below w.heap.size w V)=>(show Calls Tryz.prog 196 #[bx b,.int .i64 z] V (fun e w'=>e= .returned (.bool (framed l z))∧Below w.heap.size w w') from
  (framed_any b bf l z V hz (h.below hb).c1 (h.below hb).frames).mono fun e w' ⟨e1,e2⟩=>⟨e1,below0 hb e2⟩))
 have l1:=lt_of_cell ht
 have l2:=lt_of_cell hp
 obtain⟨q,hq⟩:=Nm (framed l z)
 rw [←hq]at hh ⊢
 have HSA:=Lh (fun W (hB:Below w.heap.size w W)=>(show W.cell? ⟨gt,0,none⟩=some (bx b)∧W.cell? ⟨gx,2,none⟩=some (.int .i64 z)∧Below w.heap.size w W from
  ⟨(hB.cell (p:=⟨gt,0,none⟩) l1).trans ht,(hB.cell (p:=⟨gx,2,none⟩) l2).trans hp,hB⟩))
 have hdr:=Lh (show Below w.heap.size w w.drew from Br.drew)
 clear hq h
 go_enter Tryz.func195,Tryz.ntmps195
 go_wp2_with fail
 go_region_held3 (fun W=>W.cell? ⟨gt,0,none⟩=some (bx b)∧W.cell? ⟨gx,2,none⟩=some (.int .i64 z)∧Below w.heap.size w W)
  (first | exact HSA.out _ hdr.out | exact HSA.out _ (by assumption) | (go_split_ands;exact HSA.out _ (by assumption)))
  (first | (go_at_call 196;refine(hh.out _ (by go_split_ands;assumption)).mono ?_;rintro e w2 ⟨rfl,hb2⟩))
 go_wp2
 go_ret
 exact⟨rfl,hb2⟩
structure Ent (w:World) (b bp bf:Nat) (l:Tb) (p:Int) (x:En) (V:World) (st1 st2:Nat) (v1 v2:Value) (w2 w3 w4 w5:World):Prop where
 r2:(Instr.mapEntry 162 (.map (some bp)) (.int .i64 p)).run Tryz.prog V= .ok (.tuple #[v1,.int .i64 (st1:Int)]) w2
 r3:(Instr.entryStore 162 (.map (some bp)) (.int .i64 (st1:Int)) (enV x)).run Tryz.prog w2= .ok () w3
 r4:(Instr.mapEntry 163 (.map (some bf)) (.int .i64 x.2.2)).run Tryz.prog w3= .ok (.tuple #[v2,.int .i64 (st2:Int)]) w4
 r5:(Instr.entryStore 163 (.map (some bf)) (.int .i64 (st2:Int)) (.agg #[])).run Tryz.prog w4= .ok () w5
 k2:∀k,k≠bp→k≠bf→w2.heap[k]?=V.heap[k]?
 k3:∀k,k≠bp→k≠bf→w3.heap[k]?=V.heap[k]?
 k4:∀k,k≠bp→k≠bf→w4.heap[k]?=V.heap[k]?
 k5:∀k,k≠bp→k≠bf→w5.heap[k]?=V.heap[k]?
 rep:Rep w5 b (ins l p x) bp bf
 keep:Keep (blocks b bp bf) w w5
theorem grown_heap {w w':World} {b:Nat} (h:w.grownBy w' (some b)) (hs:w'.heap.size=w.heap.size) (k:Nat) (hk:k≠b):w'.heap[k]?=w.heap[k]?:=by
 rcases Nat.lt_or_ge k w.heap.size with h1 | h1
 ·exact h.block k h1 (fun e=>hk (Option.some.inj e))
 ·rw [Array.getElem?_eq_none h1,Array.getElem?_eq_none (by omega)]
theorem enter_steps {b bp bf:Nat} {l:Tb} {w V:World} (h:Rep w b l bp bf) (p:Int) (x:En) (hE:mapE l p x=0) (hx:En64 x) (hV:Below w.heap.size w V):
  ∃st1 st2 v1 v2 w2 w3 w4 w5,Ent w b bp bf l p x V st1 st2 v1 v2 w2 w3 w4 w5:=by
 obtain⟨g1,g2,g3,g4⟩:=mapE_0 hE
 have hok:=map_ok h.ok p x hx
 have hT:mapT l p x=ins l p x:=by unfold mapT;rw [if_pos hE]
 rw [hT]at hok
 have hr:=h.below hV
 have hll:=h.ok.len
 have hll2:=hok.len
 obtain⟨D,hD,hF⟩:=hr.frames
 have np:=h.ne_p
 have nf:=h.ne_f
 have ne:=h.ne
 obtain⟨v1,st1,w2,a1,a2,a3,a4⟩:=entry_own (t:=162) hr.pages law Tryz.underlying162 zeroP (by decide) (keyZ (page64 g2))
 obtain⟨w3,b1,b2,b3,b4⟩:=a4 w2 (enV x) (entD x) [] rfl (entR_en x)
 have f2:w2.heap[bf]?=V.heap[bf]?:=grown_heap a2 a3 bf ne.symm
 have f3:w3.heap[bf]?=V.heap[bf]?:=(grown_heap b3 b4 bf ne.symm).trans f2
 obtain⟨v2,st2,w4,c1,c2,c3,c4⟩:=entry_own (t:=163) (owns_same hD f3) law Tryz.underlying163 zeroU (by decide) (keyZ hx.2.2)
 obtain⟨w5,d1,d2,d3,d4⟩:=c4 w4 (.agg #[]) unitD [] rfl rfl
 rw [mapP_put x g3]at b2
 refine⟨st1,st2,v1,v2,w2,w3,w4,w5,a1,b1,c1,d1,fun k h1 h2=>grown_heap a2 a3 k h1,fun k h1 h2=>(grown_heap b3 b4 k h1).trans (grown_heap a2 a3 k h1),fun k h1 h2=>(grown_heap c2 c3 k h2).trans ((grown_heap b3 b4 k h1).trans (grown_heap a2 a3 k h1)),fun k h1 h2=>(grown_heap d3 d4 k h2).trans ((grown_heap c2 c3 k h2).trans ((grown_heap b3 b4 k h1).trans (grown_heap a2 a3 k h1))),⟨hok,?_,?_,⟨_,?_,hF.put p x g4⟩,ne⟩,?_⟩
 ·refine hr.obj.same ?_
  rw [grown_heap d3 d4 b nf,grown_heap c2 c3 b nf,grown_heap b3 b4 b np,grown_heap a2 a3 b np]
 ·refine owns_tight (owns_same b2 ?_) (by rw [mapP_size];exact hll2)
  rw [grown_heap d3 d4 bp ne,grown_heap c2 c3 bp ne]
 ·exact owns_tight d2 (by rw [(hF.put p x g4).size];exact hll2)
 ·have kV:Keep (blocks b bp bf) w V:=Keep.of_below hV
  exact(((kV.grown a2 (fun r e=>by cases e;exact .inr (.inr (.inl rfl)))).grown b3 (fun r e=>by cases e;exact .inr (.inr (.inl rfl)))).grown c2 (fun r e=>by cases e;exact .inr (.inr (.inr rfl)))).grown d3 (fun r e=>by cases e;exact .inr (.inr (.inr rfl)))
theorem enter_any {b bp bf:Nat} {l:Tb} {w:World} (h:Rep w b l bp bf) (p:Int) (x:En) (hE:mapE l p x=0) (hx:En64 x):
  Calls Tryz.prog 197 #[bx b,.int .i64 p,enV x] w fun e w'=>(∃v,e= .returned v)∧Rep w' b (ins l p x) bp bf∧Keep (blocks b bp bf) w w':=by
 obtain⟨w1,hw1⟩:=Nm (w.alloc (.cells #[.int .i64 x.1,.int .i64 x.2.1,.int .i64 x.2.2] 195))
 have hb1:Below w.heap.size w w1:=hw1 ▸ below1 w _
 obtain⟨st1,st2,v1,v2,w2,w3,w4,w5,hN⟩:=enter_steps h p x hE hx hb1.drew
 have hr1:=h.below hb1
 have c0:=hr1.c0
 have c1:=hr1.c1
 have hbl:=h.obj.lt
 have hpl:=h.pages.lt
 have hfl:=h.frames.lt
 have s0:w1.cell? ⟨w.heap.size,0,none⟩=some (.int .i64 x.1):=by rw [hw1];exact cell_alloc_new _ _ _ _
 have s1:w1.cell? ⟨w.heap.size,1,none⟩=some (.int .i64 x.2.1):=by rw [hw1];exact cell_alloc_new _ _ _ _
 have s2:w1.cell? ⟨w.heap.size,2,none⟩=some (.int .i64 x.2.2):=by rw [hw1];exact cell_alloc_new _ _ _ _
 have np:=h.ne_p
 have nf:=h.ne_f
 have HSA:=Lh (fun(W:World) (hW:∀k,k≠bp→k≠bf→W.heap[k]?=w1.heap[k]?)=>(show W.cell? ⟨b,0,none⟩=some (.map (some bp))∧W.cell? ⟨b,1,none⟩=some (.map (some bf))∧W.cell? ⟨w.heap.size,0,none⟩=some (.int .i64 x.1)∧W.cell? ⟨w.heap.size,1,none⟩=some (.int .i64 x.2.1)∧W.cell? ⟨w.heap.size,2,none⟩=some (.int .i64 x.2.2) from
  ⟨(World.cell?_of_block (hW b np nf)).trans c0,(World.cell?_of_block (hW b np nf)).trans c1,(World.cell?_of_block (hW w.heap.size (by omega) (by omega))).trans s0,(World.cell?_of_block (hW w.heap.size (by omega) (by omega))).trans s1,(World.cell?_of_block (hW w.heap.size (by omega) (by omega))).trans s2⟩))
 have H1:=Lh (HSA.out w1.drew (fun _ _ _=>rfl))
 have H2:=Lh (HSA.out w2 hN.k2)
 have H3:=Lh (HSA.out w3 hN.k3)
 have H4:=Lh (HSA.out w4 hN.k4)
 have H5:=Lh (HSA.out w5 hN.k5)
 have r2:=hN.r2
 have r3:(Instr.entryStore 162 (.map (some bp)) (.int .i64 (st1:Int)) (.agg #[.int .i64 x.1,.int .i64 x.2.1,.int .i64 x.2.2])).run Tryz.prog w2= .ok () w3:=hN.r3
 have r4:=hN.r4
 have r5:=hN.r5
 have HF:=Lh (And.intro hN.rep hN.keep)
 have HW:=Lh hw1
 have mixed:Tryz.prog.follows .mixedOrders=true:=by kernel_rfl
 rw [show enV x= .agg #[.int .i64 x.1,.int .i64 x.2.1,.int .i64 x.2.2] from rfl]
 obtain⟨x1,x2,x3⟩:=x
 simp only at r2 r3 r4 r5 s0 s1 s2 H1 H2 H3 H4 H5 HF HW ⊢
 clear hN hr1 HSA hb1 hw1 hE hx h
 go_enter Tryz.func197,Tryz.ntmps197
 go_wp2_with fail
 rw [←HW.out]
 go_region_held3 (fun W=>W.cell? ⟨b,0,none⟩=some (.map (some bp))∧W.cell? ⟨b,1,none⟩=some (.map (some bf))∧W.cell? ⟨w.heap.size,0,none⟩=some (.int .i64 x1)∧W.cell? ⟨w.heap.size,1,none⟩=some (.int .i64 x2)∧W.cell? ⟨w.heap.size,2,none⟩=some (.int .i64 x3))
  (first | exact H1.out | exact H2.out | exact H3.out | exact H4.out | exact H5.out)
  (fail)
 go_end0
 exact⟨⟨_,rfl⟩,HF.out⟩
def mapL (v:Value) (s:Nat) (a1 a2 a3 a4 a5:Bool):List Ask:=
 [⟨188,#[v],#[],1,a1⟩,⟨189,#[],#[bx (s+2)],2,a2⟩,⟨191,#[],#[bx (s+1)],4,a3⟩,⟨193,#[],#[bx s,bx (s+1)],180,a4⟩,⟨195,#[],#[bx s,bx (s+2)],181,a5⟩]
def mapB (v:Value) (p:Int) (x:En):List (List Value × TypeId):= [([v],97),([.int .i64 p],3),(enC x,195)]
theorem map_asked {b bp bf:Nat} {l:Tb} {w:World} (h:Rep w b l bp bf) (p:Int) (x:En) (hx:En64 x):
  Calls Tryz.prog 187 #[.slice (some ⟨w.heap.size+3,0,none⟩) 5 5] (askW w (mapB (bx b) p x) (mapL (bx b) w.heap.size true true true true true)) fun e w'=>e= .returned (.int .i64 (mapE l p x:Int))∧Boxes w [[bx b],[.int .i64 p],enC x] w':=by
 obtain⟨a2,ha2⟩:=Nm (rightB x)
 obtain⟨a3,ha3⟩:=Nm (pageB p)
 obtain⟨a4,ha4⟩:=Nm (!(look l p).isSome)
 obtain⟨a5,ha5⟩:=Nm (!framed l x.2.2)
 have hE:askE (mapL (bx b) w.heap.size true a2 a3 a4 a5)=(mapE l p x:Int):=by
  unfold mapE
  have e4:(look l p).isSome= !a4:=by rw [ha4];simp
  have e5:framed l x.2.2= !a5:=by rw [ha5];simp
  rw [←ha2,←ha3,e4,e5]
  cases a2 <;> cases a3 <;> cases a4 <;> cases a5 <;> rfl
 refine(asked_box (mapB (bx b) p x) (mapL (bx b) w.heap.size true a2 a3 a4 a5) 5 5 _ rfl rfl (by omega) fun k hk hall=> ?_).mono fun e w' ⟨e1,e2,_⟩=>⟨by rw [e1,hE],e2⟩
 rcases k with _ | _ | _ | _ | _ | k
 ·refine⟨enters_of Tryz.func188 (by kernel_rfl) rfl,fun V hV=> ?_⟩
  exact(there_map b bp V (hV.rep h).c0).mono fun e w' ⟨e1,e2⟩=>⟨e1,e2 ▸ Br⟩
 ·refine⟨enters_of Tryz.func189 (by kernel_rfl) rfl,fun V hV=> ?_⟩
  have:=map1_any (w.heap.size+2) x V (fun j v hv=>hV.cell 2 _ rfl j v hv)
  rw [←ha2]at this
  exact this
 ·refine⟨enters_of Tryz.func191 (by kernel_rfl) rfl,fun V hV=> ?_⟩
  have:=map2_any (w.heap.size+1) p V (hV.cell 1 _ rfl 0 _ rfl)
  rw [←ha3]at this
  exact this
 ·have t3:a3=true:=hall 2 (by simp [mapL]) (by omega)
  rw [ha3]at t3
  refine⟨enters_of Tryz.func193 (by kernel_rfl) rfl,fun V hV=> ?_⟩
  have:=map3_any (hV.rep h) w.heap.size (w.heap.size+1) p (page64 t3) (hV.cell 0 _ rfl 0 _ rfl) (hV.cell 1 _ rfl 0 _ rfl)
  rw [←ha4]at this
  exact this
 ·refine⟨enters_of Tryz.func195 (by kernel_rfl) rfl,fun V hV=> ?_⟩
  have:=map4_any (hV.rep h) w.heap.size (w.heap.size+2) x.2.2 hx.2.2 (hV.cell 0 _ rfl 0 _ rfl) (hV.cell 2 _ rfl 2 _ rfl)
  rw [←ha5]at this
  exact this
 ·simp [mapL]at hk
  omega
theorem map_no {b:Nat} {l:Tb} {F:Nat→Prop} {w:World} (h:Has w b l F) (p:Int) (x:En) (hx:En64 x) (hE:mapE l p x≠0):
  Calls Tryz.prog 130 #[bx b,.int .i64 p,enV x] w fun e w'=>e= .returned (.int .i64 (mapE l p x:Int))∧Next w b (mapT l p x) F w':=by
 have hN:=Lh (fun w' (hb:Below w.heap.size w w')=>(show Next w b (mapT l p x) F w' from by
  unfold mapT
  rw [if_neg hE]
  exact Next.same h hb))
 obtain⟨bp,bf,hr,rfl⟩:=h
 have h1:=Lh ((map_asked hr p x hx).mono fun e w' ⟨e1,e2⟩=>(show e=Ending.returned (Value.int .i64 (mapE l p x:Int))∧Below w.heap.size w w' from⟨e1,e2.below⟩))
 obtain⟨E,hE2⟩:=Nm (mapE l p x)
 rw [←hE2]at h1 hE ⊢
 have e0:(((E:Int)) == 0)=false:=by rw [beq_eq_false_iff_ne];omega
 have e1:¬((E:Int)=0):=by omega
 clear hE2 hr hE
 rw [show enV x= .agg #[.int .i64 x.1,.int .i64 x.2.1,.int .i64 x.2.2] from rfl]
 go_enter Tryz.func130,Tryz.ntmps130
 go_wp2_with fail
 refine wp_scope_jump 1 fun R hR hJm=> ?_
 go_wp2_with fail
 refine(h1.out).mono ?_
 rintro e w1 ⟨rfl,hb⟩
 go_wp2_with fail
 refine wp_goto (hJm.out _ _ _ _ _ rfl ?_)
 go_wp2_with fail
 refine hR.out _ _ _ _ (by simp) ?_
 go_ret
 exact⟨rfl,hN.out _ hb⟩
theorem map_yes {b:Nat} {l:Tb} {F:Nat→Prop} {w:World} (h:Has w b l F) (p:Int) (x:En) (hx:En64 x) (hE:mapE l p x=0):
  Calls Tryz.prog 130 #[bx b,.int .i64 p,enV x] w fun e w'=>e= .returned (.int .i64 0)∧Next w b (mapT l p x) F w':=by
 have hT:mapT l p x=ins l p x:=by unfold mapT;rw [if_pos hE]
 rw [hT]
 obtain⟨bp,bf,hr,rfl⟩:=h
 have h1:=Lh ((map_asked hr p x hx).mono fun e w' ⟨e1,e2⟩=>(show e=Ending.returned (Value.int .i64 (mapE l p x:Int))∧Boxes w [[bx b],[.int .i64 p],enC x] w' from⟨e1,e2⟩))
 rw [hE]at h1
 have HS:=Lh (fun w1 (hB:Boxes w [[bx b],[.int .i64 p],enC x] w1) W (hb:Keep (blocks b bp bf) w1 W)=>(show W.cell? ⟨w.heap.size,0,none⟩=some (bx b)∧W.cell? ⟨w.heap.size+1,0,none⟩=some (.int .i64 p)∧W.cell? ⟨w.heap.size+1+1,0,none⟩=some (.int .i64 x.1)∧W.cell? ⟨w.heap.size+1+1,1,none⟩=some (.int .i64 x.2.1)∧W.cell? ⟨w.heap.size+1+1,2,none⟩=some (.int .i64 x.2.2)∧Keep (blocks b bp bf) w1 W from
  ⟨hB.keep hb hr.lt 0 _ rfl 0 _ rfl,hB.keep hb hr.lt 1 _ rfl 0 _ rfl,hB.keep hb hr.lt 2 _ rfl 0 _ rfl,hB.keep hb hr.lt 2 _ rfl 1 _ rfl,hB.keep hb hr.lt 2 _ rfl 2 _ rfl,hb⟩))
 have HC:=Lh (fun w1 (hB:Boxes w [[bx b],[.int .i64 p],enC x] w1) V (hb:Below w1.heap.size w1 V)=>(show Calls Tryz.prog 197 #[bx b,.int .i64 p,.agg #[.int .i64 x.1,.int .i64 x.2.1,.int .i64 x.2.2]] V (fun e w'=>(∃v,e= .returned v)∧Next w b (ins l p x) (blocks b bp bf) w'∧Keep (blocks b bp bf) w1 w') from
  (enter_any (hr.below (below0 hB.below hb)) p x hE hx).mono fun e w' ⟨e1,e2,e3⟩=>⟨e1,⟨⟨_,_,e2,rfl⟩,(Keep.of_below (below0 hB.below hb)).trans e3 fun _ _ h=>h⟩,(Keep.of_below hb).trans e3 fun _ _ h=>h⟩))
 rw [show enV x= .agg #[.int .i64 x.1,.int .i64 x.2.1,.int .i64 x.2.2] from rfl]
 clear hr hE hT
 go_enter Tryz.func130,Tryz.ntmps130
 go_wp2_with fail
 refine wp_scope_jump 1 fun R hR hJm=> ?_
 go_wp2_with fail
 refine(h1.out).mono ?_
 rintro e w1 ⟨rfl,hB⟩
 have H0:=Lh (HS.out w1 hB)
 have H1:=Lh (HC.out w1 hB)
 have hdr:=Lh (show Below w1.heap.size w1 w1.drew from Br.drew)
 obtain⟨x1,x2,x3⟩:=x
 simp only at H0 H1
 clear hB h1 HS HC
 go_wp2_with fail
 go_region_held3 (fun W=>W.cell? ⟨w.heap.size,0,none⟩=some (bx b)∧W.cell? ⟨w.heap.size+1,0,none⟩=some (.int .i64 p)∧W.cell? ⟨w.heap.size+1+1,0,none⟩=some (.int .i64 x1)∧W.cell? ⟨w.heap.size+1+1,1,none⟩=some (.int .i64 x2)∧W.cell? ⟨w.heap.size+1+1,2,none⟩=some (.int .i64 x3)∧Keep (blocks b bp bf) w1 W)
  (first | exact H0.out _ (Keep.of_below hdr.out) | exact H0.out _ (by assumption))
  (first | (go_at_call 197;refine(H1.out _ hdr.out).mono ?_;rintro e w2 ⟨⟨v2,rfl⟩,hN,hk2⟩))
 go_wp2_with fail
 refine hR.out _ _ _ _ (by simp) ?_
 go_ret
 exact⟨rfl,hN⟩
end Go.Proofs.YtfcfbcjiijfjgaaGreatDoor.Pg
namespace Go.Proofs.YtfcfbcjiijfjgaaGreatDoor.Pg
open Go.RowKit Go.Shelf Go.Maps Go.ChangeMaps Go.MapKept
attribute [local go_sem] Oper.semAt_some
theorem turned_heap {w w':World} {b:Nat} (h:w.mapTurned w' b) (k:Nat) (hk:k≠b):w'.heap[k]?=w.heap[k]?:=by
 refine grown_heap h.grown ?_ k hk
 obtain⟨es,clock,es',clock',hb,rfl⟩:=h
 simp [setBlock]
theorem keep_set3 {w w3:World} {F:Nat→Prop} (hk:Keep F w w3) (x y z:Value):Keep F w (((w3.setCell ⟨w.heap.size,0,none⟩ x).setCell ⟨w.heap.size,1,none⟩ y).setCell ⟨w.heap.size,2,none⟩ z):=
 ((hk.set _ (.inr Lr)).set _ (.inr Lr)).set _ (.inr Lr)
theorem rep_set3 {w3:World} {b bp bf n:Nat} {l:Tb} (h:Rep w3 b l bp bf) (h1:b < n) (h2:bp < n) (h3:bf < n) (x y z:Value):Rep (((w3.setCell ⟨n,0,none⟩ x).setCell ⟨n,1,none⟩ y).setCell ⟨n,2,none⟩ z) b l bp bf:=by
 refine h.keep fun k hk=> ?_
 have:k≠n:=by rcases hk with rfl | rfl | rfl <;> omega
 rw [heap_set this,heap_set this,heap_set this]
theorem lookup_at {w:World} {bp n:Nat} {l:Tb} {p:Int} {e:En} (hown:w.ownsMap Tryz.prog 3 entR bp n (mapP l)) (hp:I64 p) (he:look l p=some e):
  (Instr.lookup 162 (.map (some bp)) (.int .i64 p) false).run Tryz.prog w= .ok (.agg #[.int .i64 e.1,.int .i64 e.2.1,.int .i64 e.2.2]) w:=by
 obtain⟨v,ps,hrun,hv⟩:=hown.lookup law Tryz.underlying162 (zeroP w) (entR_en zeroEn) (keyZ hp)
 rw [hrun,look_en hv]
 unfold getX
 rw [he]
 rfl
theorem leave_any {b bp bf:Nat} {l:Tb} {w:World} (h:Rep w b l bp bf) (p:Int) (hp:I64 p) (e:En) (he:look l p=some e):
  Calls Tryz.prog 200 #[bx b,.int .i64 p] w fun e' w'=>e'= .returned (enV e)∧Rep w' b (del l p) bp bf∧Keep (blocks b bp bf) w w':=by
 obtain⟨w1,hw1⟩:=Nm ((w.alloc (.cells #[.int .i64 0,.int .i64 0,.int .i64 0] 195)).alloc (.cells #[.int .i64 e.1,.int .i64 e.2.1,.int .i64 e.2.2] 195))
 have hb1:Below w.heap.size w w1:=hw1 ▸ below2 w _ _
 have hlk:=lookup_at (w:=w.alloc (.cells #[.int .i64 0,.int .i64 0,.int .i64 0] 195)) (h.below (below1 w _)).pages hp he
 have hr1:=h.below hb1
 have hkey:=keyZ hp
 have hx:En64 e:=h.ok.big _ (look_some he)
 have hkey2:=keyZ hx.2.2
 have hbl:=h.obj.lt
 have hpl:=h.pages.lt
 have hfl:=h.frames.lt
 have np:=h.ne_p
 have nf:=h.ne_f
 have ne:=h.ne
 have c0:=h.c0
 have g0:Row w1 w.heap.size 195 [.int .i64 0,.int .i64 0,.int .i64 0]:=by
  rw [hw1]
  exact(Row.new w _ _).below (below1 _ _)
 have g1:Row w1 (w.heap.size+1) 195 [.int .i64 e.1,.int .i64 e.2.1,.int .i64 e.2.2]:=by
  rw [hw1]
  exact Row.new_at _ _ _ (by simp)
 have hpm:w1.ownsMap Tryz.prog 3 entR bp 65536 (mapP l):=hr1.pages
 have HM:=Lh (fun(w2:World) (ho:w2.ownsMap Tryz.prog 3 entR bp 65536 ((mapP l).del (.int .i64 p))) (ht:w1.mapTurned w2 bp)=>
  (show w2.cell? ⟨b,0,none⟩=some (.map (some bp))∧w2.cell? ⟨b,1,none⟩=some (.map (some bf))∧w2.cell? ⟨w.heap.size+1,0,none⟩=some (.int .i64 e.1)∧w2.cell? ⟨w.heap.size+1,1,none⟩=some (.int .i64 e.2.1)∧w2.cell? ⟨w.heap.size+1,2,none⟩=some (.int .i64 e.2.2)∧
   ∃w3,(Builtin.delete_ #[163,3] 0 #[.map (some bf),.int .i64 e.2.2]).run Tryz.prog w2.drew= .ok (.tuple #[]) w3∧
    (w3.cell? ⟨b,1,none⟩=some (.map (some bf))∧w3.cell? ⟨w.heap.size+1,2,none⟩=some (.int .i64 e.2.2))∧
    (w3.cell? ⟨w.heap.size+1,0,none⟩=some (.int .i64 e.1)∧w3.cell? ⟨w.heap.size+1,1,none⟩=some (.int .i64 e.2.1)∧w3.cell? ⟨w.heap.size+1,2,none⟩=some (.int .i64 e.2.2))∧
    Row w3 w.heap.size 195 [.int .i64 0,.int .i64 0,.int .i64 0]∧Rep w3 b (del l p) bp bf∧Keep (blocks b bp bf) w w3 from by
  have k2:=fun k hk=>turned_heap ht k hk
  obtain⟨D,hD,hF⟩:=hr1.frames
  obtain⟨w3,hrun,hD3,ht3⟩:=World.ownsMap.drop (w:=w2.drew) (owns_same hD (show w2.drew.heap[bf]?=w1.heap[bf]? from k2 bf ne.symm)) law Tryz.underlying163 hkey2 0
  have k3:∀k,k≠bf→w3.heap[k]?=w2.heap[k]?:=fun k hk=>turned_heap ht3 k hk
  have hb2:=(hr1.obj.same (k2 b np))
  have hb3:=(hb2.same (k3 b nf))
  have q2:=g1.same (k2 (w.heap.size+1) (by omega))
  have q3:=q2.same (k3 (w.heap.size+1) (by omega))
  refine⟨hb2.cell 0,hb2.cell 1,q2.cell 0,q2.cell 1,q2.cell 2,w3,hrun,⟨hb3.cell 1,q3.cell 2⟩,⟨q3.cell 0,q3.cell 1,q3.cell 2⟩,(g0.same (k2 w.heap.size (by omega))).same (k3 w.heap.size (by omega)),⟨del_ok h.ok p,hb3,?_,⟨_,hD3,hF.del h.ok he⟩,ne⟩,?_⟩
  ·rw [mapP_del]at ho
   exact owns_same ho (k3 bp ne)
  ·exact(((Keep.of_below hb1).grown ht.grown (fun r e=>by cases e;exact .inr (.inr (.inl rfl)))).drewN 1).grown ht3.grown (fun r e=>by cases e;exact .inr (.inr (.inr rfl)))))
 obtain⟨w2,hrun2,ho2,ht2⟩:=World.ownsMap.drop hpm law Tryz.underlying162 hkey 0
 obtain⟨s0,s1,s2,s3,s4,w3,hrun3,hS3,hQ,hg3,hfin⟩:=HM.out w2 ho2 ht2
 have HF:=Lh hfin
 have HS2:=Lh (And.intro s1 s4)
 have HS3:=Lh hS3
 obtain⟨q0,q1,q2⟩:=hQ
 have f0:=hg3.cell 0
 have f1:=hg3.cell 1
 have f2:=hg3.cell 2
 have z0:=hg3.frozen 0
 have z1:=hg3.frozen 1
 have z2:=hg3.frozen 2
 have HG:=Lh hg3
 have HL:=Lh (And.intro hbl (And.intro hpl hfl))
 rw [hw1]at hrun2
 have d0:w1.cell? ⟨b,0,none⟩=some (.map (some bp)):=hr1.c0
 rw [hw1]at d0
 clear hr1 g0 g1 hb1 hx np nf ne hpl hfl h he HM ho2 ht2 hpm hw1 hfin hS3 hg3
 obtain⟨x1,x2,x3⟩:=e
 simp only [List.getElem?_cons_zero,List.getElem?_cons_succ]at hlk hkey2 hrun2 hrun3 d0 s2 s3 s4 q0 q1 q2 HS2 HS3 f0 f1 f2
 go_enter Tryz.func200,Tryz.ntmps200
 go_wp2_with fail
 go_region_held3 (fun W=>W.cell? ⟨b,1,none⟩=some (.map (some bf))∧W.cell? ⟨w.heap.size+1,2,none⟩=some (.int .i64 x3))
  (first | exact HS2.out | exact HS3.out)
  (fail)
 go_wp2_with fail
 have hR:=((HG.out.set 0 (.int .i64 x1)).set 1 (.int .i64 x2)).set 2 (.int .i64 x3)
 exact bodyPost_ret (res_cell1 Tryz.results200 rfl (load_en (x:=(x1,x2,x3)) fun j v hj=>(hR.cell j).trans hj)) rfl ⟨rfl,rep_set3 HF.out.1 HL.out.1 HL.out.2.1 HL.out.2.2 _ _ _,keep_set3 HF.out.2 _ _ _⟩
end Go.Proofs.YtfcfbcjiijfjgaaGreatDoor.Pg
namespace Go.Proofs.YtfcfbcjiijfjgaaGreatDoor.Pg
open Go.RowKit Go.Shelf Go.Maps
attribute [local go_sem] Oper.semAt_some
def unmL (v:Value) (s:Nat) (a1 a2 a3:Bool):List Ask:=
 [⟨188,#[v],#[],1,a1⟩,⟨198,#[],#[bx (s+1)],4,a2⟩,⟨199,#[],#[bx s,bx (s+1)],5,a3⟩]
def unmB (v:Value) (p:Int):List (List Value × TypeId):= [([v],97),([.int .i64 p],3),(enC zeroEn,195)]
theorem unm_asked {b bp bf:Nat} {l:Tb} {w:World} (h:Rep w b l bp bf) (p:Int):
  Calls Tryz.prog 187 #[.slice (some ⟨w.heap.size+3,0,none⟩) 3 3] (askW w (unmB (bx b) p) (unmL (bx b) w.heap.size true true true)) fun e w'=>e= .returned (.int .i64 (unmapE l p:Int))∧Boxes w [[bx b],[.int .i64 p],enC zeroEn] w':=by
 obtain⟨a3,ha3⟩:=Nm (pageB p)
 obtain⟨a4,ha4⟩:=Nm ((look l p).isSome)
 have hE:askE (unmL (bx b) w.heap.size true a3 a4)=(unmapE l p:Int):=by
  unfold unmapE
  rw [←ha3,←ha4]
  cases a3 <;> cases a4 <;> rfl
 refine(asked_box (unmB (bx b) p) (unmL (bx b) w.heap.size true a3 a4) 3 3 _ rfl rfl (by omega) fun k hk hall=> ?_).mono fun e w' ⟨e1,e2,_⟩=>⟨by rw [e1,hE],e2⟩
 rcases k with _ | _ | _ | k
 ·refine⟨enters_of Tryz.func188 (by kernel_rfl) rfl,fun V hV=> ?_⟩
  exact(there_map b bp V (hV.rep h).c0).mono fun e w' ⟨e1,e2⟩=>⟨e1,e2 ▸ Br⟩
 ·refine⟨enters_of Tryz.func198 (by kernel_rfl) rfl,fun V hV=> ?_⟩
  have:=unmap1_any (w.heap.size+1) p V (hV.cell 1 _ rfl 0 _ rfl)
  rw [←ha3]at this
  exact this
 ·have t3:a3=true:=hall 1 (by simp [unmL]) (by omega)
  rw [ha3]at t3
  refine⟨enters_of Tryz.func199 (by kernel_rfl) rfl,fun V hV=> ?_⟩
  have:=unmap2_any (hV.rep h) w.heap.size (w.heap.size+1) p (page64 t3) (hV.cell 0 _ rfl 0 _ rfl) (hV.cell 1 _ rfl 0 _ rfl)
  rw [←ha4]at this
  exact this
 ·simp [unmL]at hk
  omega
theorem below_set3 {w w1:World} {n:Nat} (h:Below w.heap.size w w1) (hn:w.heap.size≤n) (x y z:Value):Below w.heap.size w (((w1.setCell ⟨n,0,none⟩ x).setCell ⟨n,1,none⟩ y).setCell ⟨n,2,none⟩ z):=
 ((h.setCell hn x).setCell hn y).setCell hn z
theorem set3_ld {w1:World} {n:Nat} {t:TypeId} {x y z:Value} (h:Row w1 n t [x,y,z]) (a b c:Int):(loadVar 195 ⟨n,0,none⟩).run Tryz.prog (((w1.setCell ⟨n,0,none⟩ (.int .i64 a)).setCell ⟨n,1,none⟩ (.int .i64 b)).setCell ⟨n,2,none⟩ (.int .i64 c))= .ok (enV (a,b,c)) (((w1.setCell ⟨n,0,none⟩ (.int .i64 a)).setCell ⟨n,1,none⟩ (.int .i64 b)).setCell ⟨n,2,none⟩ (.int .i64 c)):=
 load_en (x:=(a,b,c)) fun j _ hj=>((((h.set 0 _).set 1 _).set 2 _).cell j).trans hj
theorem unmap_no {b:Nat} {l:Tb} {F:Nat→Prop} {w:World} (h:Has w b l F) (p:Int) (hE:unmapE l p≠0):
  Calls Tryz.prog 133 #[bx b,.int .i64 p] w fun e w'=>e= .returned (.tuple #[enV (unmapX l p),.int .i64 (unmapE l p:Int)])∧Next w b (unmapT l p) F w':=by
 have hN:=Lh (fun w' (hb:Below w.heap.size w w')=>(show Next w b (unmapT l p) F w' from by
  unfold unmapT
  rw [if_neg hE]
  exact Next.same h hb))
 have hX:unmapX l p=(0,0,0):=by unfold unmapX;rw [if_neg hE];rfl
 rw [hX]
 obtain⟨bp,bf,hr,rfl⟩:=h
 have h1:=Lh (unm_asked hr p)
 obtain⟨E,hE2⟩:=Nm (unmapE l p)
 rw [←hE2]at h1 hE ⊢
 have e0:(((E:Int)) == 0)=false:=by rw [beq_eq_false_iff_ne];omega
 have e1:¬((E:Int)=0):=by omega
 clear hE2 hr hE hX
 go_enter Tryz.func133,Tryz.ntmps133
 go_wp2_with fail
 refine wp_scope_jump 1 fun R hR hJm=> ?_
 go_wp2_with fail
 refine(h1.out).mono ?_
 rintro e w1 ⟨rfl,hB⟩
 obtain⟨t,hr⟩:=hB.row 2 _ rfl
 have f0:w1.cell? ⟨w.heap.size+1+1,0,none⟩=some (.int .i64 0):=hr.cell 0
 have f1:w1.cell? ⟨w.heap.size+1+1,1,none⟩=some (.int .i64 0):=hr.cell 1
 have f2:w1.cell? ⟨w.heap.size+1+1,2,none⟩=some (.int .i64 0):=hr.cell 2
 have z0:w1.frozen? ⟨w.heap.size+1+1,0,none⟩=false:=hr.frozen 0
 have z1:w1.frozen? ⟨w.heap.size+1+1,1,none⟩=false:=hr.frozen 1
 have z2:w1.frozen? ⟨w.heap.size+1+1,2,none⟩=false:=hr.frozen 2
 have HB:=Lh hB.below
 have HR:=Lh (show Row w1 (w.heap.size+1+1) t [.int .i64 0,.int .i64 0,.int .i64 0] from hr)
 clear hr hB
 go_wp2_with fail
 refine wp_goto (hJm.out _ _ _ _ _ rfl ?_)
 go_wp2_with fail
 refine hR.out _ _ _ _ (by simp) ?_
 exact bodyPost_ret (res_cell2 Tryz.results133 rfl (set3_ld HR.out 0 0 0)) rfl ⟨rfl,hN.out _ (below_set3 HB.out (by omega) _ _ _)⟩
theorem unmapE_0 {l:Tb} {p:Int} (h:unmapE l p=0):pageB p=true∧∃e,look l p=some e:=by
 unfold unmapE at h
 split at h
 ·cases h
 split at h
 ·cases h
 next h1 h2=>exact⟨by simpa using h1,by
  cases hl:look l p with
  | none=>rw [hl]at h2;exact absurd rfl h2
  | some e=>exact⟨e,rfl⟩⟩
theorem unmap_yes {b:Nat} {l:Tb} {F:Nat→Prop} {w:World} (h:Has w b l F) (p:Int) (hE:unmapE l p=0):
  Calls Tryz.prog 133 #[bx b,.int .i64 p] w fun e w'=>e= .returned (.tuple #[enV (unmapX l p),.int .i64 0])∧Next w b (unmapT l p) F w':=by
 obtain⟨hpg,e,he⟩:=unmapE_0 hE
 have hT:unmapT l p=del l p:=by unfold unmapT;rw [if_pos hE]
 have hX:unmapX l p=e:=by unfold unmapX;rw [if_pos hE,he];rfl
 rw [hT,hX]
 obtain⟨bp,bf,hr,rfl⟩:=h
 have h1:=Lh (unm_asked hr p)
 rw [hE]at h1
 have HS:=Lh (fun w1 (hB:Boxes w [[bx b],[.int .i64 p],enC zeroEn] w1)=>(show w1.cell? ⟨w.heap.size,0,none⟩=some (bx b)∧w1.cell? ⟨w.heap.size+1,0,none⟩=some (.int .i64 p) from
  ⟨hB.cell 0 _ rfl 0 _ rfl,hB.cell 1 _ rfl 0 _ rfl⟩))
 have HST:=Lh (fun(W:World) (x y z:Value) (h:W.cell? ⟨w.heap.size,0,none⟩=some (bx b)∧W.cell? ⟨w.heap.size+1,0,none⟩=some (.int .i64 p))=>(show(((W.setCell ⟨w.heap.size+1+1,0,none⟩ x).setCell ⟨w.heap.size+1+1,1,none⟩ y).setCell ⟨w.heap.size+1+1,2,none⟩ z).cell? ⟨w.heap.size,0,none⟩=some (bx b)∧(((W.setCell ⟨w.heap.size+1+1,0,none⟩ x).setCell ⟨w.heap.size+1+1,1,none⟩ y).setCell ⟨w.heap.size+1+1,2,none⟩ z).cell? ⟨w.heap.size+1,0,none⟩=some (.int .i64 p) from by
  have e:∀k,k≠w.heap.size+1+1→(((W.setCell ⟨w.heap.size+1+1,0,none⟩ x).setCell ⟨w.heap.size+1+1,1,none⟩ y).setCell ⟨w.heap.size+1+1,2,none⟩ z).heap[k]?=W.heap[k]?:=fun k hk=>by rw [heap_set hk,heap_set hk,heap_set hk]
  exact⟨(World.cell?_of_block (e w.heap.size (by omega))).trans h.1,(World.cell?_of_block (e (w.heap.size+1) (by omega))).trans h.2⟩))
 have HC:=Lh (fun w1 (hB:Boxes w [[bx b],[.int .i64 p],enC zeroEn] w1) V (hb:Below w1.heap.size w1 V)=>(show Calls Tryz.prog 200 #[bx b,.int .i64 p] V (fun e' w'=>e'= .returned (.agg #[.int .i64 e.1,.int .i64 e.2.1,.int .i64 e.2.2])∧(w'.cell? ⟨w.heap.size,0,none⟩=some (bx b)∧w'.cell? ⟨w.heap.size+1,0,none⟩=some (.int .i64 p))∧
   (w'.cell? ⟨w.heap.size+1+1,0,none⟩=some (.int .i64 0)∧w'.cell? ⟨w.heap.size+1+1,1,none⟩=some (.int .i64 0)∧w'.cell? ⟨w.heap.size+1+1,2,none⟩=some (.int .i64 0))∧
   (w'.frozen? ⟨w.heap.size+1+1,0,none⟩=false∧w'.frozen? ⟨w.heap.size+1+1,1,none⟩=false∧w'.frozen? ⟨w.heap.size+1+1,2,none⟩=false)∧
   (∀x y z,Next w b (del l p) (blocks b bp bf) (((w'.setCell ⟨w.heap.size+1+1,0,none⟩ x).setCell ⟨w.heap.size+1+1,1,none⟩ y).setCell ⟨w.heap.size+1+1,2,none⟩ z))∧∃t,Row w' (w.heap.size+1+1) t [.int .i64 0,.int .i64 0,.int .i64 0]) from
  (leave_any (hr.below (below0 hB.below hb)) p (page64 hpg) e he).mono fun e' w' ⟨e1,e2,e3⟩=>by
   have hk:Keep (blocks b bp bf) w1 w':=(Keep.of_below hb).trans e3 fun _ _ h=>h
   have hk0:Keep (blocks b bp bf) w w':=(Keep.of_below (below0 hB.below hb)).trans e3 fun _ _ h=>h
   obtain⟨t,hrow⟩:=hB.keepRow hk hr.lt 2 _ rfl
   have hl1:=hr.obj.lt
   have hl2:=hr.pages.lt
   have hl3:=hr.frames.lt
   refine⟨e1,⟨hB.keep hk hr.lt 0 _ rfl 0 _ rfl,hB.keep hk hr.lt 1 _ rfl 0 _ rfl⟩,⟨hrow.cell 0,hrow.cell 1,hrow.cell 2⟩,⟨hrow.frozen 0,hrow.frozen 1,hrow.frozen 2⟩,fun x y z=> ?_,t,hrow⟩
   exact⟨⟨_,_,rep_set3 e2 (by omega) (by omega) (by omega) _ _ _,rfl⟩,((hk0.set _ (.inr (by omega))).set _ (.inr (by omega))).set _ (.inr (by omega))⟩))
 clear hr hE hT hX he hpg
 go_enter Tryz.func133,Tryz.ntmps133
 go_wp2_with fail
 refine wp_scope_jump 1 fun R hR hJm=> ?_
 go_wp2_with fail
 refine(h1.out).mono ?_
 rintro e w1 ⟨rfl,hB⟩
 have H0:=Lh (HS.out w1 hB)
 have H1:=Lh (HC.out w1 hB)
 have hdr:=Lh (show Below w1.heap.size w1 w1.drew from Br.drew)
 obtain⟨x1,x2,x3⟩:=e
 simp only at H1
 clear hB h1 HS HC
 go_wp2_with fail
 go_region_held3 (fun W=>W.cell? ⟨w.heap.size,0,none⟩=some (bx b)∧W.cell? ⟨w.heap.size+1,0,none⟩=some (.int .i64 p))
  (first | exact H0.out | exact HST.out _ _ _ _ hS2 | exact hS2)
  (first | (go_at_call 200;refine(H1.out _ hdr.out).mono ?_;rintro e w2 ⟨rfl,hS2,⟨f0,f1,f2⟩,⟨z0,z1,z2⟩,hN,t,hrow⟩))
 go_wp2_with fail
 refine hR.out _ _ _ _ (by simp) ?_
 exact bodyPost_ret (res_cell2 Tryz.results133 rfl (set3_ld hrow x1 x2 x3)) rfl ⟨rfl,hN _ _ _⟩
end Go.Proofs.YtfcfbcjiijfjgaaGreatDoor.Pg
