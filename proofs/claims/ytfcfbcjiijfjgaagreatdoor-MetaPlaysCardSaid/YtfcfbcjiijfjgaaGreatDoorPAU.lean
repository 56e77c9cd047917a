import Derived.Test.YtfcfbcjiijfjgaaGreatDoorPAT
set_option maxHeartbeats 4000000
set_option maxRecDepth 100000
namespace Go.Proofs.YtfcfbcjiijfjgaaGreatDoor.Me
open Go.RowKit Go.Shelf
attribute [local go_sem] Oper.semAt_some
theorem step_append_sees {P:Program} {w:World} {ops:Array Oper} {o:Oper} {a:Act} {K:Act→World→Prop} {Q:Exit→Act→World→Prop} {E:Prop} (hgd:o.guard=none) (s x:Operand) (t:TypeId)
  (ho:o.op= .call {callee:= .builtin .append,args:= #[s,x],argTypes:= #[t,t]})
  (base:Nat) (e:TypeId) (i:TypeInfo) (z:Value) (size bytes:Nat) (ht:P.underlying t=some (.slice e)) (hi:P.info? e=some i) (hz:i.zero=some z)
  (hsize:i.size=size) (hby:i.bytes=bytes) (hzs:z.cells.size=size) (hsz:0 < size)
  (v:Value) (n:Nat) (xs:List Value) (hs:a.eval s=v) (hown:w.ownsRow base e size v n xs)
  (B:Nat) (A:Option Addr) (m c:Nat) (news:List Value) (hx:a.eval x= .slice A m c) (hl:news.length=m*size) (hr:Sees w B A news) (h1:∀u∈news,u.oneCell'=true)
  (h63:n+m≤maxLen) (hbytes:(n+m)*bytes≤140737488355328) (hbase:base≤w.heap.size)
  (h:∀v' w',w'.ownsRow base e size v' (n+m) (xs ++ news)→w.grownBy w' v.ownBlock→(v'.ownBlock=v.ownBlock∨v'.ownBlock=some w.heap.size)→K (a.put o.dst v') w'):
  if Region.wanted o (yielded ops a.tmps)=true then Oper.wp P o a w K Q else E:=by
 rw [if_pos (by simp [Region.wanted,hgd])]
 obtain⟨v',w',hrun,h2,h3,h4⟩:=run_append_sees (P:=P) w base t o.type e i z size bytes ht hi hz hsize hby hzs hsz v n xs hown B A m c news hl hr h1 h63 hbytes hbase
 unfold Oper.wp execOp
 simp only [ho,resolve,invoke,builtin,Sem.run_bind,Sem.run_pure,Result.andThen_ok,List.map_toArray,List.map_cons,List.map_nil,hs,hx,hrun]
 exact h v' w' h2 h3 h4
theorem setCells_other {g k:Nat} (h:k≠g):∀(cs:List Value) (o:Nat) {V:World},(V.setCells g o cs).heap[k]?=V.heap[k]?
 | [],_,_=>rfl
 | v :: r,o,V=>by
  rw [World.setCells]
  exact(setCells_other h r (o+1)).trans (heap_set h)
theorem rc_info:(Tryz.prog.info? 41).map (fun i=>(i.zero,i.size,i.bytes))=some (some (.agg #[.int .i64 0,.int .i64 0,.int .u32 0]),3,24):=by kernel_rfl
theorem recL_one {f:Byts} {c:Nat}:∀u∈recL f c,u.oneCell'=true:=by
 intro u hu
 obtain⟨i,_,hi⟩:=List.mem_flatMap.1 hu
 rcases h:recAt f (recO c i) with _ | ⟨a,b,d⟩ <;> rw [h]at hi <;> simp only [recC,List.mem_cons,List.not_mem_nil,or_false]at hi <;> rcases hi with rfl | rfl | rfl <;> rfl
theorem app_rec {w4:World} {t:TypeId} {k:Nat} {v':Value} {n:Nat} {xs:List Value} {B:Nat} (h1:w4.ownsRow B t k v' n xs) (h3:v'.ownBlock≠none):
  ∃g c rest,v'= .slice (some ⟨g,0,none⟩) n c∧B≤g∧Row w4 g t (xs ++ rest):=by
 obtain⟨h1,⟨rfl,_⟩ | ⟨g,cap,cur,rfl,hb,hg,_,_,hc,ht⟩⟩:=h1
 ·exact absurd rfl h3
 ·refine⟨g,cap,cur.toList.drop (n*k),rfl,hb,?_⟩
  rw [←ht,List.take_append_drop]
  exact hg
theorem rput_yes (cs:List Value) (B:Bks) (f:Byts) (s c i st sz no:Nat) (w:World) (hL:BL w cs B) (hok:okS s c i) (hf:B s=some f) (h1:st≤4) (h2:sz≤65535) (h3:no < 4294967296):
  Calls Tryz.prog 22 #[bkV cs,spV (s:Int) (c:Int) (i:Int),rcV (st:Int) (sz:Int) no] w fun e w'=>∃cs',e= .returned (.tuple #[bkV cs',.int .i64 0])∧BL w' cs' (upd B s (some (putB f (recO c i) (recB st sz no))))∧NewL w w' cs cs'∧Below w.heap.size w w':=by
 obtain⟨i0,hi0,hz0,hz1,hz2⟩:=info_parts rc_info
 have hA:=Lh (fun V=>rasks_any (s:Int) (c:Int) (i:Int) V)
 have hR:=Lh (fun V=>rright_any (st:Int) (sz:Int) no V)
 obtain⟨w4,hw4⟩:=Nm ((((w.alloc (.cells cs.toArray 33)).alloc (.cells #[.int .i64 (s:Int),.int .i64 (c:Int),.int .i64 (i:Int)] 37)).alloc (.cells #[.int .i64 (st:Int),.int .i64 (sz:Int),.int .u32 (no:Int)] 41)).alloc (.cells zba 33))
 have q0:Row w4 w.heap.size 33 cs:=by rw [hw4];exact(((Row.new w _ cs).below (below1 _ _)).below (below1 _ _)).below (below1 _ _)
 have q1:Row w4 (w.heap.size+1) 37 [.int .i64 (s:Int),.int .i64 (c:Int),.int .i64 (i:Int)]:=by rw [hw4];exact((Row.new_at _ 37 [.int .i64 (s:Int),.int .i64 (c:Int),.int .i64 (i:Int)] (by simp)).below (below1 _ _)).below (below1 _ _)
 have q2:Row w4 (w.heap.size+1+1) 41 [.int .i64 (st:Int),.int .i64 (sz:Int),.int .u32 (no:Int)]:=by rw [hw4];exact(Row.new_at _ 41 [.int .i64 (st:Int),.int .i64 (sz:Int),.int .u32 (no:Int)] (by simp)).below (below1 _ _)
 have q3:Row w4 (w.heap.size+1+1+1) 33 zbl:=by rw [hw4];exact Row.new_at _ 33 zbl (by simp)
 have qb:Below w.heap.size w w4:=by rw [hw4];exact(below3 w _ _ _).alloc (by simp;omega) _
 have ha:asksS (s:Int) (c:Int) (i:Int)=0:=by
  have e1:isB (s:Int) 4=true:=isB_yes (n:=4) hok.1
  have e2:isB (c:Int) 8=true:=isB_yes (n:=8) hok.2.1
  have e3:=hok.2.2
  rw [asksS,if_pos ⟨e1,e2⟩,if_neg (by rw [Int.toNat_natCast];omega)]
 rw [ha]at hA
 rw [decide_eq_true (show rightR (st:Int) (sz:Int) from⟨by omega,by omega,by omega,by omega⟩)]at hR
 obtain⟨ho,hc8,_,_⟩:=hL.opn s hok.1 f hf
 obtain⟨A,cap,hsl,hse⟩:=hc8 c hok.2.1
 have hrl:=recL_len f c
 have hcl:=cnt_le hok.2.1
 have hne:recL f c≠[]:=fun e=>by rw [e]at hrl;simp at hrl;omega
 obtain⟨ad,rfl,hadb,hcell⟩:=hse hne
 have HSE:=Lh hse
 have hs4:=hok.1
 have hc4:=hok.2.1
 have hi4:=hok.2.2
 have HRL:=Lh (recL_put f c i st sz no hok.2.1 hok.2.2 h1 h2 h3)
 have HFIN:=Lh (fun w' (hb:Below w.heap.size w w')=>hL.put hb hok.1 hok.2.1 hok.2.2 hf h1 h2 h3)
 have hl40:=hL.len
 obtain⟨C,hC⟩:=Nm (cnt c)
 rw [←hC]at hsl hcl hi4 hrl HFIN
 have hC1:=hcl.1
 have hC85:=hcl.2.1
 have y0:(0:Int)≤(s:Int)∧(s:Int) < 4∧(0:Int)≤(c:Int)∧(c:Int) < 8∧(0:Int)≤(i:Int)∧(i:Int) < (C:Int):=by omega
 obtain⟨y01,y02,y03,y04,y05,y06⟩:=y0
 have HONE:=Lh hL.one
 clear hL hc8 hse hne hcell ha hok hC hcl h1 h2 h3
 go_enter Tryz.func22,Tryz.ntmps22
 go_wp2_with fail
 rw [←hw4]
 clear hw4
 have c10:w4.cell? ⟨w.heap.size+1,0,none⟩=some (.int .i64 (s:Int)):=q1.cell 0
 have c11:w4.cell? ⟨w.heap.size+1,1,none⟩=some (.int .i64 (c:Int)):=q1.cell 1
 have c12:w4.cell? ⟨w.heap.size+1,2,none⟩=some (.int .i64 (i:Int)):=q1.cell 2
 go_wp2_with fail
 refine(hA.out _).mono ?_
 rintro e w5 ⟨rfl,hb⟩
 have p0:=q0.below hb
 have p1:=q1.below hb
 have p2:=q2.below hb
 have p3:=q3.below hb
 have pb:=below0 qb hb
 clear q0 q1 q2 q3 qb hb c10 c11 c12
 have c20:w5.cell? ⟨w.heap.size+1+1,0,none⟩=some (.int .i64 (st:Int)):=p2.cell 0
 have c21:w5.cell? ⟨w.heap.size+1+1,1,none⟩=some (.int .i64 (sz:Int)):=p2.cell 1
 have c22:w5.cell? ⟨w.heap.size+1+1,2,none⟩=some (.int .u32 (no:Int)):=p2.cell 2
 go_wp2_with fail
 refine(hR.out _).mono ?_
 rintro e w6 ⟨rfl,hb6⟩
 have q0:=p0.below hb6
 have q1:=p1.below hb6
 have q2:=p2.below hb6
 have q3:=p3.below hb6
 have qb:=below0 pb hb6
 clear p0 p1 p2 p3 pb hb6 c20 c21 c22 hA hR
 have c30:w6.cell? ⟨w.heap.size+1,0,none⟩=some (.int .i64 (s:Int)):=q1.cell 0
 have c31:w6.cell? ⟨w.heap.size,s*10,none⟩=some (.bool true):=(q0.cell _).trans ho
 have HS1:Hid (∀W,Below w6.heap.size w6 W→W.cell? ⟨w.heap.size+1,0,none⟩=some (.int .i64 (s:Int))∧W.cell? ⟨w.heap.size+1,1,none⟩=some (.int .i64 (c:Int))∧W.cell? ⟨w.heap.size,s*10+1+c,none⟩=some (.slice (some ad) C cap)):=Lh (fun W hW=>
  ⟨(q1.below hW).cell 0,(q1.below hW).cell 1,((q0.below hW).cell _).trans hsl⟩)
 go_wp2_with fail
 refine wp_region_noPanic ?_
 refine wp_region_held_drew (S:=fun W=>W.cell? ⟨w.heap.size+1,0,none⟩=some (.int .i64 (s:Int))∧W.cell? ⟨w.heap.size+1,1,none⟩=some (.int .i64 (c:Int))∧W.cell? ⟨w.heap.size,s*10+1+c,none⟩=some (.slice (some ad) C cap)) (by kernel_rfl) (HS1.out _ Br.drew) (fun hZ=> ?_)
 refine tkH 1 hZ ?_
 try simp only [Act.put]
 refine tkH 2 hZ ?_
 try simp only [Act.put]
 refine tkH 3 hZ ?_
 try simp only [Act.put]
 refine tkH 4 hZ ?_
 try simp only [Act.put]
 refine tkH 5 hZ ?_
 try simp only [Act.put]
 refine tkH 6 hZ ?_
 try simp only [Act.put]
 refine tkH 7 hZ ?_
 try simp only [Act.put]
 refine tkH 8 hZ ?_
 try simp only [Act.put]
 refine rdH 0 fun K hK=> ?_
 go_simp
 have hown0:((w6.drew).alloc (.cells #[] 41)).ownsRow w6.heap.size 41 3 (.slice (some ⟨(w6.drew).heap.size,0,none⟩) 0 0) 0 []:=World.ownsRow_lit (w6.drew) #[] 0 Lr (Nat.zero_le _) rfl
 have hBc:Below w6.heap.size w6 ((w6.drew).alloc (.cells #[] 41)):=Br.drew.alloc Lr _
 refine hK.out _ _ (HS1.out _ hBc) (fun hZ=> ?_)
 clear hK K
 try simp only [Act.put]
 refine rdH 9 fun K hK=> ?_
 refine step_append_sees rfl (.tmp 31) (.tmp 39) 27 rfl w6.heap.size 41 i0 _ 3 24 Tryz.underlying27 hi0 hz0 hz1 hz2 rfl (by decide) _ 0 [] (by simp [Act.eval]) hown0 w.heap.size (some ad) C cap (recL f c) (by simp [Act.eval]) hrl (HSE.out.below ((qb.trans (hBc.mono qb.size)))) recL_one (by unfold maxLen;omega) (by omega) hBc.size ?_
 intro v9 V9 hown1 hg1 hv1
 rw [Nat.zero_add,List.nil_append]at hown1
 obtain⟨gn,cn,rest,rfl,hgn,hrow⟩:=app_rec hown1 (by rcases hv1 with h | h <;> rw [h] <;> simp [Value.ownBlock])
 have hBn:=hBc.grown hg1 hBc.size (fun k hk=>(hown0.lt k hk).1)
 clear hown0 hown1 hg1 hv1 hBc
 refine hK.out _ _ (HS1.out _ hBn) (fun hZ=> ?_)
 clear hK K
 try simp only [Act.put]
 refine rdH 10 fun K hK=> ?_
 go_simp
 refine hK.out _ _ (HS1.out _ hBn) (fun hZ=> ?_)
 clear hK K
 try simp only [Act.put]
 refine wpAnyH_done (by kernel_rfl) (NoPanic.normal ?_) _
 have r0:=q0.below hBn
 have r1:=q1.below hBn
 have r2:=q2.below hBn
 have r3:=q3.below hBn
 have rb:=below0 qb hBn
 have hw6:=q3.lt
 have hwg:w.heap.size+1+1+1 < gn:=by omega
 clear q0 q1 q2 q3 qb hBn HS1 c30 c31
 have d0:V9.cell? ⟨w.heap.size+1,2,none⟩=some (.int .i64 (i:Int)):=r1.cell 2
 have d1:V9.cell? ⟨w.heap.size+1+1,0,none⟩=some (.int .i64 (st:Int)):=r2.cell 0
 have d2:V9.cell? ⟨w.heap.size+1+1,1,none⟩=some (.int .i64 (sz:Int)):=r2.cell 1
 have d3:V9.cell? ⟨w.heap.size+1+1,2,none⟩=some (.int .u32 (no:Int)):=r2.cell 2
 have hcx:∀k,k < C*3→∃x,V9.cell? ⟨gn,k,none⟩=some x:=fun k hk=>by
  refine⟨_,(hrow.cell k).trans ((List.getElem?_append_left (by omega)).trans (List.getElem?_eq_getElem (by omega)))⟩
 obtain⟨x0,hx0⟩:=hcx (i*3) (by omega)
 obtain⟨x1,hx1⟩:=hcx (i*3+1) (by omega)
 obtain⟨x2,hx2⟩:=hcx (i*3+2) (by omega)
 have f0:=hrow.frozen (i*3)
 have f1:=hrow.frozen (i*3+1)
 have f2:=hrow.frozen (i*3+2)
 have hrow2:=((hrow.set (i*3) (.int .i64 (st:Int))).set (i*3+1) (.int .i64 (sz:Int))).set (i*3+2) (.int .u32 (no:Int))
 have HROW2:=Lh hrow2
 obtain⟨V10,hV10⟩:∃V,V=((V9.setCell ⟨gn,i*3,none⟩ (.int .i64 (st:Int))).setCell ⟨gn,i*3+1,none⟩ (.int .i64 (sz:Int))).setCell ⟨gn,i*3+2,none⟩ (.int .u32 (no:Int)):=⟨_,rfl⟩
 have hsm:∀k,k≠gn→V10.heap[k]?=V9.heap[k]?:=fun k hk=>by rw [hV10];exact(heap_set hk).trans ((heap_set hk).trans (heap_set hk))
 have t0:Row V10 w.heap.size 33 cs:=r0.same (hsm _ (by omega))
 have t1:Row V10 (w.heap.size+1) 37 [.int .i64 (s:Int),.int .i64 (c:Int),.int .i64 (i:Int)]:=r1.same (hsm _ (by omega))
 have t3:Row V10 (w.heap.size+1+1+1) 33 zbl:=r3.same (hsm _ (by omega))
 have tb:Below w.heap.size w V10:=by rw [hV10];exact((rb.setCell (by simp only;omega) _).setCell (by simp only;omega) _).setCell (by simp only;omega) _
 have HV10:=Lh hV10
 clear hcx hsm r0 r1 r2 r3 hrow hrow2 hV10
 go_wp2_with fail
 rw [←HV10.out]
 clear d0 d1 d2 d3 hx0 hx1 hx2 f0 f1 f2
 have HS2:Hid (∀W:World,(∀k,k≠w.heap.size→W.heap[k]?=V10.heap[k]?)→W.cell? ⟨w.heap.size+1,0,none⟩=some (.int .i64 (s:Int))∧W.cell? ⟨w.heap.size+1,1,none⟩=some (.int .i64 (c:Int))):=Lh (fun W hW=>by
  have h:=t1.same (hW (w.heap.size+1) (by omega))
  exact⟨h.cell 0,h.cell 1⟩)
 have u0:V10.cell? ⟨w.heap.size,s*10+1+c,none⟩=some (.slice (some ad) C cap):=(t0.cell _).trans hsl
 have uf:=t0.frozen (s*10+1+c)
 have hset:∀(x:Value) (k:Nat),k≠w.heap.size→((V10.setCell ⟨w.heap.size,s*10+1+c,none⟩ x).drew).heap[k]?=V10.heap[k]?:=fun x k hk=>heap_set hk
 have HSET:=Lh hset
 clear hset
 refine wp_region_noPanic ?_
 refine wp_region_held_drew (S:=fun W=>W.cell? ⟨w.heap.size+1,0,none⟩=some (.int .i64 (s:Int))∧W.cell? ⟨w.heap.size+1,1,none⟩=some (.int .i64 (c:Int))) (by kernel_rfl) (HS2.out _ (fun _ _=>rfl)) (fun hZ=> ?_)
 refine tkH 0 hZ ?_
 try simp only [Act.put]
 refine tkH 1 hZ ?_
 try simp only [Act.put]
 refine tkH 2 hZ ?_
 try simp only [Act.put]
 refine tkH 3 hZ ?_
 try simp only [Act.put]
 refine tkH 4 hZ ?_
 try simp only [Act.put]
 refine tkH 5 hZ ?_
 try simp only [Act.put]
 refine tkH 6 hZ ?_
 try simp only [Act.put]
 refine tkH 7 hZ ?_
 try simp only [Act.put]
 refine rdH 8 fun K hK=> ?_
 go_simp
 refine hK.out _ _ (HS2.out _ (HSET.out _)) (fun hZ=> ?_)
 clear hK K
 try simp only [Act.put]
 refine wpAnyH_done (by kernel_rfl) (NoPanic.normal ?_) _
 have hcl40:(cs.set (s*10+1+c) (.slice (some ⟨gn,0,none⟩) C cn)).length=40:=by rw [List.length_set,hl40]
 obtain⟨V11,hV11⟩:∃V,V=(V10.setCell ⟨w.heap.size,s*10+1+c,none⟩ (.slice (some ⟨gn,0,none⟩) C cn)).drew:=⟨_,rfl⟩
 have hsm:∀k,k≠w.heap.size→V11.heap[k]?=V10.heap[k]?:=fun k hk=>by rw [hV11];exact heap_set hk
 have z0:Row V11 w.heap.size 33 (cs.set (s*10+1+c) (.slice (some ⟨gn,0,none⟩) C cn)):=by rw [hV11];exact t0.set _ _
 have z3:=t3.same (hsm (w.heap.size+1+1+1) (by omega))
 have zg:Row V11 gn 41 ((((recL f c ++ rest).set (i*3) (.int .i64 (st:Int))).set (i*3+1) (.int .i64 (sz:Int))).set (i*3+2) (.int .u32 (no:Int))):=by
  have h:=HROW2.out
  rw [←HV10.out]at h
  exact h.same (hsm gn (by omega))
 rw [List.set_append_left _ _ (by omega),List.set_append_left _ _ (by rw [List.length_set];omega),List.set_append_left _ _ (by rw [List.length_set,List.length_set];omega),←HRL.out]at zg
 have zb:Below w.heap.size w V11:=by rw [hV11];exact(tb.setCell Lr _).drew
 have hone2:∀u∈cs.set (s*10+1+c) (.slice (some ⟨gn,0,none⟩) C cn),u.oneCell'=true:=fun u hu=>by
  rcases List.mem_or_eq_of_mem_set hu with hu | rfl
  ·exact HONE.out u hu
  ·rfl
 obtain⟨cs2,hcs2⟩:∃x,x=cs.set (s*10+1+c) (.slice (some ⟨gn,0,none⟩) C cn):=⟨_,rfl⟩
 have HFC:=Lh (fun w' (hb:Below w.heap.size w w') hA=>HFIN.out w' hb (some ⟨gn,0,none⟩) cn hA)
 have HNL:=Lh (fun(W:World) (hW:gn < W.heap.size)=>NewL.set (w:=w) (w':=W) (cs:=cs) (s*10+1+c) gn C cn (by omega) hW)
 rw [←hcs2]at z0 hcl40 hone2 HFC HNL
 rw [←hV11]
 have hlast:=Lh (bk_put z3 zb (by omega) hcl40 hcl40)
 have hzg:Row (V11.setCells (w.heap.size+1+1+1) 0 cs2.toArray.toList) gn 41 (recL (putB f (recO c i) (recB st sz no)) c ++ rest):=zg.same (setCells_other (by omega) _ _)
 have hfin:=Lh (HFC.out _ hlast.out.2 (by
  have h:=(hzg.sees).take (recL (putB f (recO c i) (recB st sz no)) c).length
  rw [List.take_left]at h
  exact h))
 have HLT:=Lh hzg.lt
 have hone:=Lh (all_oneCell_toArray hone2)
 have hth:=Lh (row_there z3 (n:=cs2.toArray.size) (by rw [List.size_toArray,hcl40];rfl))
 have hrg:=Lh (row_range z0)
 have hsz:=Lh (show(Tryz.prog.info? 33).map (·.size)=some cs2.length by rw [hcl40];exact bk_size)
 have hsz2:=Lh (show(Tryz.prog.info? 33).map (·.size)=some cs2.toArray.size by rw [List.size_toArray,hcl40];exact bk_size)
 clear hcs2 hV11 z0 z3 zg zb hone2 hzg hsm t0 t1 t3 tb u0 uf HS2 HSET
 go_wp2_with (first | refine wpList_load_mid rfl 33 (.tmp 3) rfl w.heap.size 0 rfl cs2 _ hrg.out Tryz.underlying33 rfl hsz.out ?_ | refine wpList_store_mid rfl 33 (.tmp 6) (.tmp 54) rfl (w.heap.size+1+1+1) 0 cs2.toArray rfl rfl hth.out hsz2.out hone.out ?_)
 exact bodyPost_ret (res_cell2 Tryz.results22 rfl hlast.out.1) rfl ⟨cs2,rfl,hfin.out,HNL.out _ HLT.out,hlast.out.2⟩
theorem rgput_no (cs:List Value) (B:Bks) (s i st pg sz fi:Int) (w:World) (hL:BL w cs B) (hE:gputE B s i st pg sz fi≠0):Calls Tryz.prog 24 #[bkV cs,.int .i64 s,.int .i64 i,gtV st pg sz fi] w fun e w'=>e= .returned (.tuple #[bkV cs,.int .i64 (gputE B s i st pg sz fi)])∧Below w.heap.size w w':=by
 have hS:=Lh (fun V=>rslot_any s V)
 have hR:=Lh (fun V=>rrightg_any st pg sz fi V)
 obtain⟨w3,hw3⟩:=Nm (((w.alloc (.cells cs.toArray 33)).alloc (.cells #[.int .i64 st,.int .i64 pg,.int .i64 sz,.int .i64 fi] 43)).alloc (.cells zba 33))
 have q0:Row w3 w.heap.size 33 cs:=by rw [hw3];exact((Row.new w _ cs).below (below1 _ _)).below (below1 _ _)
 have q1:Row w3 (w.heap.size+1) 43 [.int .i64 st,.int .i64 pg,.int .i64 sz,.int .i64 fi]:=by rw [hw3];exact(Row.new_at _ 43 [.int .i64 st,.int .i64 pg,.int .i64 sz,.int .i64 fi] (by simp)).below (below1 _ _)
 have q2:Row w3 (w.heap.size+1+1) 33 zbl:=by rw [hw3];exact Row.new_at _ 33 zbl (by simp)
 have qb:Below w.heap.size w w3:=by rw [hw3];exact below3 w _ _ _
 cases hs:isB s 4
 ·have hp:gputE B s i st pg sz fi=2:=by unfold gputE gasks;rw [hs];simp
  rw [hp]
  rw [hs]at hS
  clear hp hE hs
  go_enter Tryz.func24,Tryz.ntmps24
  go_wp2_with fail
  rw [←hw3]
  clear hw3
  have c10:w3.cell? ⟨w.heap.size+1,0,none⟩=some (.int .i64 st):=q1.cell 0
  have c11:w3.cell? ⟨w.heap.size+1,1,none⟩=some (.int .i64 pg):=q1.cell 1
  have c12:w3.cell? ⟨w.heap.size+1,2,none⟩=some (.int .i64 sz):=q1.cell 2
  have c13:w3.cell? ⟨w.heap.size+1,3,none⟩=some (.int .i64 fi):=q1.cell 3
  go_wp2_with fail
  refine(hS.out _).mono ?_
  rintro e w4 ⟨rfl,rfl⟩
  clear c10 c11 c12 c13
  have HL:=Lh hL
  have hone:=Lh (all_oneCell_toArray hL.one)
  have hth:=Lh (row_there q2 (n:=cs.toArray.size) (by rw [List.size_toArray,hL.len];rfl))
  have hrg:=Lh (row_range q0)
  have hsz:=Lh (show(Tryz.prog.info? 33).map (·.size)=some cs.length by rw [hL.len];exact bk_size)
  have hsz2:=Lh (show(Tryz.prog.info? 33).map (·.size)=some cs.toArray.size by rw [List.size_toArray,hL.len];exact bk_size)
  have hlast:=Lh (bk_put q2 qb (by omega) hL.len hL.len)
  go_wp2_with (first | refine wpList_load_mid rfl 33 (.tmp 4) rfl w.heap.size 0 rfl cs _ hrg.out Tryz.underlying33 rfl hsz.out ?_ | refine wpList_store_mid rfl 33 (.tmp 8) (.tmp 19) rfl (w.heap.size+1+1) 0 cs.toArray rfl rfl hth.out hsz2.out hone.out ?_)
  exact bodyPost_ret (res_cell2 Tryz.results24 rfl hlast.out.1) rfl ⟨rfl,hlast.out.2⟩
 ·rw [hs]at hS
  by_cases hr:rightG st pg sz fi
  ·rw [decide_eq_true hr]at hR
   have hk:gasks s i≠2:=by unfold gasks;rw [hs,if_pos rfl];split <;> decide
   have hp:gputE B s i st pg sz fi=ggetE B s i:=by unfold gputE;rw [if_neg (fun h=>h.elim hk (fun h=>h hr))]
   clear hk
   rw [hp]at hE ⊢
   by_cases h0:i < 0
   ·have h4:ggetE B s i=4:=by unfold ggetE gasks;rw [hs];simp [h0]
    rw [h4]
    have d0:decide (i < 0)=true:=decide_eq_true h0
    clear h4 hE hs hp hr
    go_enter Tryz.func24,Tryz.ntmps24
    go_wp2_with fail
    rw [←hw3]
    clear hw3
    have c10:w3.cell? ⟨w.heap.size+1,0,none⟩=some (.int .i64 st):=q1.cell 0
    have c11:w3.cell? ⟨w.heap.size+1,1,none⟩=some (.int .i64 pg):=q1.cell 1
    have c12:w3.cell? ⟨w.heap.size+1,2,none⟩=some (.int .i64 sz):=q1.cell 2
    have c13:w3.cell? ⟨w.heap.size+1,3,none⟩=some (.int .i64 fi):=q1.cell 3
    go_wp2_with fail
    refine(hS.out _).mono ?_
    rintro e w4 ⟨rfl,rfl⟩
    go_wp2_with fail
    refine(hR.out _).mono ?_
    rintro e w5 ⟨rfl,hb⟩
    have p0:=q0.below hb
    have p1:=q1.below hb
    have p2:=q2.below hb
    have pb:=below0 qb hb
    clear q0 q1 q2 qb hb c10 c11 c12 c13
    have HL:=Lh hL
    have hone:=Lh (all_oneCell_toArray hL.one)
    have hth:=Lh (row_there p2 (n:=cs.toArray.size) (by rw [List.size_toArray,hL.len];rfl))
    have hrg:=Lh (row_range p0)
    have hsz:=Lh (show(Tryz.prog.info? 33).map (·.size)=some cs.length by rw [hL.len];exact bk_size)
    have hsz2:=Lh (show(Tryz.prog.info? 33).map (·.size)=some cs.toArray.size by rw [List.size_toArray,hL.len];exact bk_size)
    have hlast:=Lh (bk_put p2 pb (by omega) hL.len hL.len)
    go_wp2_with (first | refine wpList_load_mid rfl 33 (.tmp 4) rfl w.heap.size 0 rfl cs _ hrg.out Tryz.underlying33 rfl hsz.out ?_ | refine wpList_store_mid rfl 33 (.tmp 8) (.tmp 26) rfl (w.heap.size+1+1) 0 cs.toArray rfl rfl hth.out hsz2.out hone.out ?_)
    exact bodyPost_ret (res_cell2 Tryz.results24 rfl hlast.out.1) rfl ⟨rfl,hlast.out.2⟩
   ·have d0:decide (i < 0)=false:=decide_eq_false h0
    by_cases h1:384≤i
    ·have h4:ggetE B s i=4:=by unfold ggetE gasks;rw [hs];simp [h1]
     rw [h4]
     have d1:decide (384≤i)=true:=decide_eq_true h1
     clear h4 hE hs hp hr
     go_enter Tryz.func24,Tryz.ntmps24
     go_wp2_with fail
     rw [←hw3]
     clear hw3
     have c10:w3.cell? ⟨w.heap.size+1,0,none⟩=some (.int .i64 st):=q1.cell 0
     have c11:w3.cell? ⟨w.heap.size+1,1,none⟩=some (.int .i64 pg):=q1.cell 1
     have c12:w3.cell? ⟨w.heap.size+1,2,none⟩=some (.int .i64 sz):=q1.cell 2
     have c13:w3.cell? ⟨w.heap.size+1,3,none⟩=some (.int .i64 fi):=q1.cell 3
     go_wp2_with fail
     refine(hS.out _).mono ?_
     rintro e w4 ⟨rfl,rfl⟩
     go_wp2_with fail
     refine(hR.out _).mono ?_
     rintro e w5 ⟨rfl,hb⟩
     have p0:=q0.below hb
     have p1:=q1.below hb
     have p2:=q2.below hb
     have pb:=below0 qb hb
     clear q0 q1 q2 qb hb c10 c11 c12 c13
     have HL:=Lh hL
     have hone:=Lh (all_oneCell_toArray hL.one)
     have hth:=Lh (row_there p2 (n:=cs.toArray.size) (by rw [List.size_toArray,hL.len];rfl))
     have hrg:=Lh (row_range p0)
     have hsz:=Lh (show(Tryz.prog.info? 33).map (·.size)=some cs.length by rw [hL.len];exact bk_size)
     have hsz2:=Lh (show(Tryz.prog.info? 33).map (·.size)=some cs.toArray.size by rw [List.size_toArray,hL.len];exact bk_size)
     have hlast:=Lh (bk_put p2 pb (by omega) hL.len hL.len)
     go_wp2_with (first | refine wpList_load_mid rfl 33 (.tmp 4) rfl w.heap.size 0 rfl cs _ hrg.out Tryz.underlying33 rfl hsz.out ?_ | refine wpList_store_mid rfl 33 (.tmp 8) (.tmp 26) rfl (w.heap.size+1+1) 0 cs.toArray rfl rfl hth.out hsz2.out hone.out ?_)
     exact bodyPost_ret (res_cell2 Tryz.results24 rfl hlast.out.1) rfl ⟨rfl,hlast.out.2⟩
    ·have d1:decide (384≤i)=false:=decide_eq_false h1
     obtain⟨s',rfl,hs4⟩:=isB_nat (b:=4) hs
     have hg:ggetE B (s':Int) i=openE B (s':Int):=by unfold ggetE gasks;rw [hs];simp [h0,h1]
     have hn:B s'=none:=by
      cases h:B s' with
      | none=>rfl
      | some f=>exact absurd (hg.trans (openE_some h)) hE
     have h5:ggetE B (s':Int) i=5:=by rw [hg];unfold openE;rw [Int.toNat_natCast,hn];rfl
     rw [h5]
     have hsh:=hL.shut s' hs4 hn
     have y0:(0:Int)≤(s':Int)∧(s':Int) < 4:=by omega
     obtain⟨y01,y02⟩:=y0
     clear hg h5 hE hs hn hp hr
     go_enter Tryz.func24,Tryz.ntmps24
     go_wp2_with fail
     rw [←hw3]
     clear hw3
     have c10:w3.cell? ⟨w.heap.size+1,0,none⟩=some (.int .i64 st):=q1.cell 0
     have c11:w3.cell? ⟨w.heap.size+1,1,none⟩=some (.int .i64 pg):=q1.cell 1
     have c12:w3.cell? ⟨w.heap.size+1,2,none⟩=some (.int .i64 sz):=q1.cell 2
     have c13:w3.cell? ⟨w.heap.size+1,3,none⟩=some (.int .i64 fi):=q1.cell 3
     go_wp2_with fail
     refine(hS.out _).mono ?_
     rintro e w4 ⟨rfl,rfl⟩
     go_wp2_with fail
     refine(hR.out _).mono ?_
     rintro e w5 ⟨rfl,hb⟩
     have p0:=q0.below hb
     have p1:=q1.below hb
     have p2:=q2.below hb
     have pb:=below0 qb hb
     clear q0 q1 q2 qb hb c10 c11 c12 c13
     have c31:w5.cell? ⟨w.heap.size,s'*10,none⟩=some (.bool false):=(p0.cell _).trans hsh
     have HL:=Lh hL
     have hone:=Lh (all_oneCell_toArray hL.one)
     have hth:=Lh (row_there p2 (n:=cs.toArray.size) (by rw [List.size_toArray,hL.len];rfl))
     have hrg:=Lh (row_range p0)
     have hsz:=Lh (show(Tryz.prog.info? 33).map (·.size)=some cs.length by rw [hL.len];exact bk_size)
     have hsz2:=Lh (show(Tryz.prog.info? 33).map (·.size)=some cs.toArray.size by rw [List.size_toArray,hL.len];exact bk_size)
     have hlast:=Lh (bk_put p2 pb (by omega) hL.len hL.len)
     go_wp2_with (first | refine wpList_load_mid rfl 33 (.tmp 4) rfl w.heap.size 0 rfl cs _ hrg.out Tryz.underlying33 rfl hsz.out ?_ | refine wpList_store_mid rfl 33 (.tmp 8) (.tmp 32) rfl (w.heap.size+1+1) 0 cs.toArray rfl rfl hth.out hsz2.out hone.out ?_)
     exact bodyPost_ret (res_cell2 Tryz.results24 rfl hlast.out.1) rfl ⟨rfl,hlast.out.2⟩
  ·rw [decide_eq_false hr]at hR
   have hp:gputE B s i st pg sz fi=2:=by unfold gputE;rw [if_pos (.inr hr)]
   rw [hp]
   clear hE hp hr hs
   go_enter Tryz.func24,Tryz.ntmps24
   go_wp2_with fail
   rw [←hw3]
   clear hw3
   have c10:w3.cell? ⟨w.heap.size+1,0,none⟩=some (.int .i64 st):=q1.cell 0
   have c11:w3.cell? ⟨w.heap.size+1,1,none⟩=some (.int .i64 pg):=q1.cell 1
   have c12:w3.cell? ⟨w.heap.size+1,2,none⟩=some (.int .i64 sz):=q1.cell 2
   have c13:w3.cell? ⟨w.heap.size+1,3,none⟩=some (.int .i64 fi):=q1.cell 3
   go_wp2_with fail
   refine(hS.out _).mono ?_
   rintro e w4 ⟨rfl,rfl⟩
   go_wp2_with fail
   refine(hR.out _).mono ?_
   rintro e w5 ⟨rfl,hb⟩
   have p0:=q0.below hb
   have p1:=q1.below hb
   have p2:=q2.below hb
   have pb:=below0 qb hb
   clear q0 q1 q2 qb hb c10 c11 c12 c13
   have HL:=Lh hL
   have hone:=Lh (all_oneCell_toArray hL.one)
   have hth:=Lh (row_there p2 (n:=cs.toArray.size) (by rw [List.size_toArray,hL.len];rfl))
   have hrg:=Lh (row_range p0)
   have hsz:=Lh (show(Tryz.prog.info? 33).map (·.size)=some cs.length by rw [hL.len];exact bk_size)
   have hsz2:=Lh (show(Tryz.prog.info? 33).map (·.size)=some cs.toArray.size by rw [List.size_toArray,hL.len];exact bk_size)
   have hlast:=Lh (bk_put p2 pb (by omega) hL.len hL.len)
   go_wp2_with (first | refine wpList_load_mid rfl 33 (.tmp 4) rfl w.heap.size 0 rfl cs _ hrg.out Tryz.underlying33 rfl hsz.out ?_ | refine wpList_store_mid rfl 33 (.tmp 8) (.tmp 19) rfl (w.heap.size+1+1) 0 cs.toArray rfl rfl hth.out hsz2.out hone.out ?_)
   exact bodyPost_ret (res_cell2 Tryz.results24 rfl hlast.out.1) rfl ⟨rfl,hlast.out.2⟩
theorem gc_info:(Tryz.prog.info? 43).map (fun i=>(i.zero,i.size,i.bytes))=some (some (.agg #[.int .i64 0,.int .i64 0,.int .i64 0,.int .i64 0]),4,32):=by kernel_rfl
theorem gre_size:(Tryz.prog.info? 43).map (·.size)=some 4:=by kernel_rfl
theorem greL_one {f:Byts}:∀u∈greL f,u.oneCell'=true:=by
 intro u hu
 obtain⟨i,_,hi⟩:=List.mem_flatMap.1 hu
 rcases h:greatAt f (greatO i) with _ | ⟨a,b,c,d⟩ <;> rw [h]at hi <;> simp only [greC,List.mem_cons,List.not_mem_nil,or_false]at hi <;> rcases hi with rfl | rfl | rfl | rfl <;> rfl
theorem Row.set4 {W:World} {g:Nat} {t:TypeId} {l:List Value} (h:Row W g t l) (o:Nat) (a b c d:Value):Row (W.setCells g o [a,b,c,d]) g t ((((l.set o a).set (o+1) b).set (o+2) c).set (o+3) d):=(((h.set o a).set (o+1) b).set (o+2) c).set (o+3) d
theorem row_there_at {W:World} {g:Nat} {t:TypeId} {l:List Value} (h:Row W g t l) {o n:Nat} (hn:o+n≤l.length):W.there g o n:=fun j hj=>by
 rw [h.cell,List.getElem?_eq_getElem (by omega)]
 exact⟨rfl,h.frozen _⟩
theorem gput_fin {w V9:World} {cs:List Value} {B:Bks} {f:Byts} {s i st pg sz fi gn cn:Nat} {rest:List Value} (hL:BL w cs B) (hs4:s < 4) (hi:i < 384) (hf:B s=some f) (h1:st≤4) (h2:pg≤65535) (h3:sz≤262144) (h4:fi≤65535)
  (r0:Row V9 w.heap.size 33 cs) (r1:Row V9 (w.heap.size+1+1) 33 zbl) (rb:Below w.heap.size w V9) (hg:w.heap.size+1+1 < gn) (hrow:Row V9 gn 43 (greL f ++ rest)) (V10:World) (hV:V10=V9.setCells gn (i*4) #[Value.int .i64 (st:Int),.int .i64 (pg:Int),.int .i64 (sz:Int),.int .i64 (fi:Int)].toList):
  V10.cell? ⟨w.heap.size,s*10+9,none⟩=cs[s*10+9]?∧V10.frozen? ⟨w.heap.size,s*10+9,none⟩=false∧True∧
  Hid ((V10.setCell ⟨w.heap.size,s*10+9,none⟩ (.slice (some ⟨gn,0,none⟩) 384 cn)).rangeAt w.heap.size 0 (cs.set (s*10+9) (.slice (some ⟨gn,0,none⟩) 384 cn))
   ∧(Tryz.prog.info? 33).map (·.size)=some (cs.set (s*10+9) (.slice (some ⟨gn,0,none⟩) 384 cn)).length
   ∧(V10.setCell ⟨w.heap.size,s*10+9,none⟩ (.slice (some ⟨gn,0,none⟩) 384 cn)).there (w.heap.size+1+1) 0 (cs.set (s*10+9) (.slice (some ⟨gn,0,none⟩) 384 cn)).toArray.size
   ∧(Tryz.prog.info? 33).map (·.size)=some (cs.set (s*10+9) (.slice (some ⟨gn,0,none⟩) 384 cn)).toArray.size
   ∧(cs.set (s*10+9) (.slice (some ⟨gn,0,none⟩) 384 cn)).toArray.all (·.oneCell')=true
   ∧(loadVar 33 ⟨w.heap.size+1+1,0,none⟩).run Tryz.prog ((V10.setCell ⟨w.heap.size,s*10+9,none⟩ (.slice (some ⟨gn,0,none⟩) 384 cn)).setCells (w.heap.size+1+1) 0 (cs.set (s*10+9) (.slice (some ⟨gn,0,none⟩) 384 cn)).toArray.toList)= .ok (bkV (cs.set (s*10+9) (.slice (some ⟨gn,0,none⟩) 384 cn))) ((V10.setCell ⟨w.heap.size,s*10+9,none⟩ (.slice (some ⟨gn,0,none⟩) 384 cn)).setCells (w.heap.size+1+1) 0 (cs.set (s*10+9) (.slice (some ⟨gn,0,none⟩) 384 cn)).toArray.toList)
   ∧BL ((V10.setCell ⟨w.heap.size,s*10+9,none⟩ (.slice (some ⟨gn,0,none⟩) 384 cn)).setCells (w.heap.size+1+1) 0 (cs.set (s*10+9) (.slice (some ⟨gn,0,none⟩) 384 cn)).toArray.toList) (cs.set (s*10+9) (.slice (some ⟨gn,0,none⟩) 384 cn)) (upd B s (some (putB f (greatO i) (greatB st pg sz fi))))
   ∧Below w.heap.size w ((V10.setCell ⟨w.heap.size,s*10+9,none⟩ (.slice (some ⟨gn,0,none⟩) 384 cn)).setCells (w.heap.size+1+1) 0 (cs.set (s*10+9) (.slice (some ⟨gn,0,none⟩) 384 cn)).toArray.toList)
   ∧NewL w ((V10.setCell ⟨w.heap.size,s*10+9,none⟩ (.slice (some ⟨gn,0,none⟩) 384 cn)).setCells (w.heap.size+1+1) 0 (cs.set (s*10+9) (.slice (some ⟨gn,0,none⟩) 384 cn)).toArray.toList) cs (cs.set (s*10+9) (.slice (some ⟨gn,0,none⟩) 384 cn))):=by
 have hl40:=hL.len
 have hgl:=greL_len f
 obtain⟨nv,hnv⟩:∃x,x=Value.slice (some ⟨gn,0,none⟩) 384 cn:=⟨_,rfl⟩
 have hn1:nv.oneCell'=true:=by rw [hnv];rfl
 have hs10:∀k,k≠gn→V10.heap[k]?=V9.heap[k]?:=fun k hk=>by rw [hV];exact setCells_other hk _ _
 have t0:=r0.same (hs10 w.heap.size (by omega))
 have t1:=r1.same (hs10 (w.heap.size+1+1) (by omega))
 have tg:Row V10 gn 43 (greL (putB f (greatO i) (greatB st pg sz fi)) ++ rest):=by
  have h:=Row.set4 hrow (i*4) (.int .i64 (st:Int)) (.int .i64 (pg:Int)) (.int .i64 (sz:Int)) (.int .i64 (fi:Int))
  rw [List.set_append_left _ _ (by omega),List.set_append_left _ _ (by rw [List.length_set];omega),List.set_append_left _ _ (by rw [List.length_set,List.length_set];omega),List.set_append_left _ _ (by rw [List.length_set,List.length_set,List.length_set];omega),←greL_put f i st pg sz fi hi h1 h2 h3 h4]at h
  rw [hV]
  exact h
 have tb:Below w.heap.size w V10:=by rw [hV];exact set_below gn w.heap.size (by omega) _ _ _ rb
 refine⟨t0.cell _,t0.frozen _,trivial,Lh ?_⟩
 rw [←hnv]
 obtain⟨V11,hV11⟩:∃V,V=V10.setCell ⟨w.heap.size,s*10+9,none⟩ nv:=⟨_,rfl⟩
 have hs11:∀k,k≠w.heap.size→V11.heap[k]?=V10.heap[k]?:=fun k hk=>by rw [hV11];exact heap_set hk
 have z0:Row V11 w.heap.size 33 (cs.set (s*10+9) nv):=by rw [hV11];exact t0.set _ _
 have z1:=t1.same (hs11 (w.heap.size+1+1) (by omega))
 have zg:=tg.same (hs11 gn (by omega))
 have zb:Below w.heap.size w V11:=by rw [hV11];exact tb.setCell Lr _
 have hcl40:(cs.set (s*10+9) nv).length=40:=by rw [List.length_set,hl40]
 have hone:∀u∈cs.set (s*10+9) nv,u.oneCell'=true:=fun u hu=>by
  rcases List.mem_or_eq_of_mem_set hu with hu | rfl
  ·exact hL.one u hu
  ·exact hn1
 rw [←hV11]
 have hlast:=bk_put z1 zb (by omega) hcl40 hcl40
 refine⟨row_range z0,by rw [hcl40];exact bk_size,row_there z1 (by rw [List.size_toArray,hcl40];rfl),by rw [List.size_toArray,hcl40];exact bk_size,all_oneCell_toArray hone,hlast.1,?_,hlast.2,?_⟩
 rotate_left
 ·rw [hnv]
  refine NewL.set _ gn 384 cn (by omega) ?_
  rw [←hnv]
  exact(zg.same (setCells_other (by omega:gn≠w.heap.size+1+1) (cs.set (s*10+9) nv).toArray.toList 0 (V:=V11))).lt
 have hb2:=hL.gput hlast.2 hs4 hi hf h1 h2 h3 h4 (some ⟨gn,0,none⟩) cn
 rw [←hnv]at hb2
 refine hb2 ?_
 have hzg:=zg.same (setCells_other (by omega:gn≠w.heap.size+1+1) (cs.set (s*10+9) nv).toArray.toList 0 (V:=V11))
 have h:=(hzg.sees).take (greL (putB f (greatO i) (greatB st pg sz fi))).length
 rw [List.take_left]at h
 exact h
theorem rgput_yes (cs:List Value) (B:Bks) (f:Byts) (s i st pg sz fi:Nat) (w:World) (hL:BL w cs B) (hs4:s < 4) (hi:i < 384) (hf:B s=some f) (h1:st≤4) (h2:pg≤65535) (h3:sz≤262144) (h4:fi≤65535):
  Calls Tryz.prog 24 #[bkV cs,.int .i64 (s:Int),.int .i64 (i:Int),gtV (st:Int) (pg:Int) (sz:Int) (fi:Int)] w fun e w'=>∃cs',e= .returned (.tuple #[bkV cs',.int .i64 0])∧BL w' cs' (upd B s (some (putB f (greatO i) (greatB st pg sz fi))))∧NewL w w' cs cs'∧Below w.heap.size w w':=by
 obtain⟨i0,hi0,hz0,hz1,hz2⟩:=info_parts gc_info
 have hS:=Lh (fun V=>rslot_any (s:Int) V)
 have hR:=Lh (fun V=>rrightg_any (st:Int) (pg:Int) (sz:Int) (fi:Int) V)
 obtain⟨w3,hw3⟩:=Nm (((w.alloc (.cells cs.toArray 33)).alloc (.cells #[.int .i64 (st:Int),.int .i64 (pg:Int),.int .i64 (sz:Int),.int .i64 (fi:Int)] 43)).alloc (.cells zba 33))
 have q0:Row w3 w.heap.size 33 cs:=by rw [hw3];exact((Row.new w _ cs).below (below1 _ _)).below (below1 _ _)
 have q1:Row w3 (w.heap.size+1) 43 [.int .i64 (st:Int),.int .i64 (pg:Int),.int .i64 (sz:Int),.int .i64 (fi:Int)]:=by rw [hw3];exact(Row.new_at _ 43 [.int .i64 (st:Int),.int .i64 (pg:Int),.int .i64 (sz:Int),.int .i64 (fi:Int)] (by simp)).below (below1 _ _)
 have q2:Row w3 (w.heap.size+1+1) 33 zbl:=by rw [hw3];exact Row.new_at _ 33 zbl (by simp)
 have qb:Below w.heap.size w w3:=by rw [hw3];exact below3 w _ _ _
 have hs:isB (s:Int) 4=true:=isB_yes (n:=4) hs4
 rw [hs]at hS
 rw [decide_eq_true (show rightG (st:Int) (pg:Int) (sz:Int) (fi:Int) from⟨by omega,by omega,by omega,by omega,by omega,by omega,by omega,by omega⟩)]at hR
 obtain⟨ho,_,⟨A,cap,hsl,hse⟩,_⟩:=hL.opn s hs4 f hf
 have hrl:=greL_len f
 have hne:greL f≠[]:=fun e=>by rw [e]at hrl;simp at hrl
 obtain⟨ad,rfl,hadb,hcell⟩:=hse hne
 have HFIN:=Lh (fun V9 gn cn rest r0 r1 rb hg hrow V10 hV=>gput_fin (w:=w) (V9:=V9) (gn:=gn) (cn:=cn) (rest:=rest) hL hs4 hi hf h1 h2 h3 h4 r0 r1 rb hg hrow V10 hV)
 have y0:(0:Int)≤(s:Int)∧(s:Int) < 4∧(0:Int)≤(i:Int)∧(i:Int) < 384∧¬384≤i:=by omega
 obtain⟨y01,y02,y05,y06,y07⟩:=y0
 have d0:decide ((i:Int) < 0)=false:=Df (by omega)
 have d1:decide ((384:Int)≤(i:Int))=false:=Df (by omega)
 have HSL:=Lh hsl
 have HRL:=Lh hrl
 have HSE:=Lh hse
 clear hL hse hne hcell hs hsl hrl h1 h2 h3 h4 hf
 go_enter Tryz.func24,Tryz.ntmps24
 go_wp2_with fail
 rw [←hw3]
 clear hw3
 have c10:w3.cell? ⟨w.heap.size+1,0,none⟩=some (.int .i64 (st:Int)):=q1.cell 0
 have c11:w3.cell? ⟨w.heap.size+1,1,none⟩=some (.int .i64 (pg:Int)):=q1.cell 1
 have c12:w3.cell? ⟨w.heap.size+1,2,none⟩=some (.int .i64 (sz:Int)):=q1.cell 2
 have c13:w3.cell? ⟨w.heap.size+1,3,none⟩=some (.int .i64 (fi:Int)):=q1.cell 3
 go_wp2_with fail
 refine(hS.out _).mono ?_
 rintro e w4 ⟨rfl,rfl⟩
 go_wp2_with fail
 refine(hR.out _).mono ?_
 rintro e w5 ⟨rfl,hb⟩
 have p0:=q0.below hb
 have p1:=q1.below hb
 have p2:=q2.below hb
 have pb:=below0 qb hb
 clear q0 q1 q2 qb hb c10 c11 c12 c13
 have c31:w5.cell? ⟨w.heap.size,s*10,none⟩=some (.bool true):=(p0.cell _).trans ho
 have HP:=Lh (And.intro p0 (And.intro p1 (And.intro p2 pb)))
 have HBC:Hid (Below w5.heap.size w5 (w5.alloc (.cells #[] 43))):=Lh (below1 _ _)
 have HOWN0:Hid ((w5.alloc (.cells #[] 43)).ownsRow w5.heap.size 43 4 (.slice (some ⟨w5.heap.size,0,none⟩) 0 0) 0 []):=Lh (World.ownsRow_lit w5 #[] 0 Lr (Nat.zero_le _) rfl)
 have HSEE:=Lh (HSE.out.below (pb.trans (HBC.out.mono pb.size)))
 have u9:(w5.alloc (.cells #[] 43)).cell? ⟨w.heap.size,s*10+9,none⟩=some (.slice (some ad) 384 cap):=((p0.below HBC.out).cell _).trans HSL.out
 have H1C:=Lh (all_oneCell_toArray (cs:= [Value.int .i64 (st:Int),.int .i64 (pg:Int),.int .i64 (sz:Int),.int .i64 (fi:Int)]) (by intro v hv;simp only [List.mem_cons,List.not_mem_nil,or_false]at hv;rcases hv with rfl | rfl | rfl | rfl <;> rfl))
 clear p0 p1 p2 pb hadb
 go_wp2_with (first | (at_builtin;refine wpList_append_sees rfl (.tmp 33) (.tmp 37) 29 rfl w5.heap.size 43 i0 _ 4 32 Tryz.underlying29 hi0 hz0 hz1 hz2 rfl (by decide) (Value.slice (some ⟨w5.heap.size,0,none⟩) 0 0) 0 [] rfl HOWN0.out w.heap.size (some ad) 384 cap (greL f) rfl HRL.out HSEE.out greL_one (by unfold maxLen;omega) (by omega) (by simp) ?_;intro v9 V9 hown1 hg1 hv1;rw [Nat.zero_add,List.nil_append]at hown1;obtain⟨gn,cn,rest,rfl,hgn,hrow⟩:=app_rec hown1 (by rcases hv1 with h | h <;> rw [h] <;> simp [Value.ownBlock]);have hBn:=HBC.out.grown hg1 HBC.out.size (fun k hk=>(HOWN0.out.lt k hk).1);have r1:=HP.out.2.1.below hBn;have d0:V9.cell? ⟨w.heap.size+1,0,none⟩=some (.int .i64 (st:Int)):=r1.cell 0;have d1:V9.cell? ⟨w.heap.size+1,1,none⟩=some (.int .i64 (pg:Int)):=r1.cell 1;have d2:V9.cell? ⟨w.heap.size+1,2,none⟩=some (.int .i64 (sz:Int)):=r1.cell 2;have d3:V9.cell? ⟨w.heap.size+1,3,none⟩=some (.int .i64 (fi:Int)):=r1.cell 3;have HTH:=Lh (row_there_at hrow (o:=i*4) (n:=4) (by rw [List.length_append,HRL.out];omega));have H9:=Lh (HFIN.out V9 gn cn rest (HP.out.1.below hBn) (HP.out.2.2.1.below hBn) (below0 HP.out.2.2.2 hBn) (by have:=HP.out.2.2.1.lt;omega) hrow);clear hown1 hg1 hv1 hBn hrow r1 u9) | (refine wpList_store_mid rfl 43 (.tmp 42) (.tmp 41) rfl gn (i*4) #[Value.int .i64 (st:Int),.int .i64 (pg:Int),.int .i64 (sz:Int),.int .i64 (fi:Int)] rfl rfl HTH.out gre_size H1C.out ?_;obtain⟨V10,hV10⟩:∃V,V=V9.setCells gn (i*4) #[Value.int .i64 (st:Int),.int .i64 (pg:Int),.int .i64 (sz:Int),.int .i64 (fi:Int)].toList:=⟨_,rfl⟩;rw [←hV10];obtain⟨hu0,uf,_,HG⟩:=H9.out V10 hV10;have u0:=hu0.trans HSL.out;obtain⟨cs2,hcs2⟩:∃x,x=cs.set (s*10+9) (Value.slice (some ⟨gn,0,none⟩) 384 cn):=⟨_,rfl⟩;rw [←hcs2]at HG;clear hcs2 hu0 hV10 d0 d1 d2 d3 HTH) | (refine wpList_load_mid rfl 33 (.tmp 4) rfl w.heap.size 0 rfl cs2 _ HG.out.1 Tryz.underlying33 rfl HG.out.2.1 ?_) | (refine wpList_store_mid rfl 33 (.tmp 8) (.tmp 47) rfl (w.heap.size+1+1) 0 cs2.toArray rfl rfl HG.out.2.2.1 HG.out.2.2.2.1 HG.out.2.2.2.2.1 ?_))
 exact bodyPost_ret (res_cell2 Tryz.results24 rfl HG.out.2.2.2.2.2.1) rfl ⟨cs2,rfl,HG.out.2.2.2.2.2.2.1,HG.out.2.2.2.2.2.2.2.2,HG.out.2.2.2.2.2.2.2.1⟩
end Go.Proofs.YtfcfbcjiijfjgaaGreatDoor.Me
