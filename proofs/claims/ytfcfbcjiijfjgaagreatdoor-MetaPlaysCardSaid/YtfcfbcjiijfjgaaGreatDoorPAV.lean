import Derived.Test.YtfcfbcjiijfjgaaGreatDoorPAU
import Derived.Laws.MakeOwn
set_option maxHeartbeats 2000000
set_option maxRecDepth 100000
namespace Go.Proofs.YtfcfbcjiijfjgaaGreatDoor.Me
open Go.RowKit Go.Shelf
attribute [local go_sem] Oper.semAt_some
theorem made_gen (z:Array Value) (k:Nat) (hz:z.size=k) (hk:0 < k) (g:Nat→List Value) (hg:∀i,g i=z.toList) (n:Nat):madeCells z (n*k)=((List.range n).flatMap g).toArray:=by
 have hgl:∀i,(g i).length=k:=fun i=>by rw [hg,Array.length_toList,hz]
 apply Array.ext
 ·rw [size_madeCells,List.size_toArray,flat_len g k hgl]
 ·intro i h1 h2
  have h1':=h1
  rw [size_madeCells]at h1'
  have hd:i / k < n:=(Nat.div_lt_iff_lt_mul hk).2 h1'
  have hm:i % k < k:=Nat.mod_lt _ hk
  have e:=flat_get g k hgl n (i / k) (i % k) hd hm
  rw [hg,Nat.div_add_mod' i k]at e
  have e1:z.toList[i % k]?=some (z[i % k]'(by omega)):=by simp [hz,hm]
  rw [e1]at e
  have e2:=(List.getElem?_eq_some_iff.1 e).2
  have hlt:i % z.size < z.size:=by rw [hz];exact hm
  have e0:∀h,((List.range n).flatMap g).toArray[i]'h=((List.range n).flatMap g)[i]'(by simpa using h):=fun h=>by simp
  rw [e0,e2]
  simp [madeCells,hz,hm]
theorem make_rec (c:Nat) (hc:c < 8) (w:World):(Instr.makeSlice 27 (.int .i64 (cnt c:Int)) (.int .i64 (cnt c:Int))).run Tryz.prog w= .ok (.slice (some ⟨w.heap.size,0,none⟩) (cnt c) (cnt c)) (w.alloc (.cells (recL zeroB c).toArray 41)):=by
 obtain⟨i0,hi,hz0,hz1,hz2⟩:=info_parts rc_info
 have hcl:=cnt_le hc
 have hm:=run_make (P:=Tryz.prog) w 27 41 i0 _ Tryz.underlying27 hi hz0 .i64 .i64 (cnt c) (cnt c) (by omega) (by omega) (by rw [hz2];omega) (by omega)
 rw [Int.toNat_natCast,hz1,show madeCells (Value.agg #[.int .i64 0,.int .i64 0,.int .u32 0]).cells (cnt c*3)=(recL zeroB c).toArray from made_gen _ 3 rfl (by omega) _ (fun i=>by rw [rec_zero];rfl) _]at hm
 exact hm
theorem make_gre (w:World):(Instr.makeSlice 29 (.int .i64 384) (.int .i64 384)).run Tryz.prog w= .ok (.slice (some ⟨w.heap.size,0,none⟩) 384 384) (w.alloc (.cells (greL zeroB).toArray 43)):=by
 obtain⟨i0,hi,hz0,hz1,hz2⟩:=info_parts gc_info
 have hm:=run_make (P:=Tryz.prog) w 29 43 i0 _ Tryz.underlying29 hi hz0 .i64 .i64 (384:Nat) (384:Nat) (by omega) (by omega) (by rw [hz2];omega) (by omega)
 rw [Int.toNat_natCast,hz1,show madeCells (Value.agg #[.int .i64 0,.int .i64 0,.int .i64 0,.int .i64 0]).cells (384*4)=(greL zeroB).toArray from made_gen _ 4 rfl (by omega) _ (fun i=>by rw [great_zero];rfl) _]at hm
 exact hm
theorem res_cell1 {fn:Func} {p:Tmp} {ty:TypeId} (h:fn.results= #[.cell p ty]) {tmps:Array Value} {P:Program} {w:World} {a:Addr} (ha:tmps.getD p undef= .pointer (some a)) {v:Value} (hv:(loadVar ty a).run P w= .ok v w):
  (results fn tmps).run P w= .ok v w:=by
 have h1:(results fn tmps).run P w=((asAddr (tmps.getD p undef)).run P w).andThen fun a w₁=>(loadVar ty a).run P w₁:=by
  simp only [results,h]
  simp [Sem.run_bind,Result.andThen]
 rw [h1,ha]
 exact hv
theorem bo_size:(Tryz.prog.info? 31).map (·.size)=some 10:=by kernel_rfl
structure Fr (b:Nat) (w:World) (bs:List Value) (m:Nat):Prop where
 new:∀(j:Nat) (A:Addr) (n c:Nat),bs[j]?=some (Value.slice (some A) n c)→b≤A.block∧A.block < w.heap.size
 len:bs.length=10
 one:∀u∈bs,u.oneCell'=true
 opn:bs[0]?=some (.bool true)
 recs:∀c,c < m→∃a cap,bs[1+c]?=some (.slice (some ⟨a,0,none⟩) (cnt c) cap)∧Row w a 41 (recL zeroB c)
theorem row_ne {w:World} {a b:Nat} {t u:TypeId} {l m:List Value} (h:Row w a t l) (h':Row w b u m) (ht:t≠u):a≠b:=by
 rintro rfl
 have e:=h.symm.trans h'
 injection e with e
 injection e with _ e
 exact ht e
theorem Fr.same {b:Nat} {w w':World} {bs:List Value} {m k:Nat} (h:Fr b w bs m) (hsz:w.heap.size≤w'.heap.size) (hb:∀j,j≠k→w'.heap[j]?=w.heap[j]?) {u:TypeId} {l:List Value} (hk:Row w k u l) (hu:41≠u):Fr b w' bs m:=
 ⟨fun j A n c hj=>⟨(h.new j A n c hj).1,by have:=(h.new j A n c hj).2;omega⟩,h.len,h.one,h.opn,fun c hc=>by
  obtain⟨A,cap,g1,g2⟩:=h.recs c hc
  exact⟨A,cap,g1,g2.same (hb _ (row_ne g2 hk hu))⟩⟩
theorem Fr.below {b:Nat} {w w':World} {bs:List Value} {m:Nat} (h:Fr b w bs m) (hb:Below w.heap.size w w'):Fr b w' bs m:=
 ⟨fun j A n c hj=>⟨(h.new j A n c hj).1,by have:=(h.new j A n c hj).2;have:=hb.size;omega⟩,h.len,h.one,h.opn,fun c hc=>by
  obtain⟨A,cap,g1,g2⟩:=h.recs c hc
  exact⟨A,cap,g1,g2.below hb⟩⟩
theorem Fr.new_set {b:Nat} {w:World} {bs:List Value} (h:∀(j:Nat) (A:Addr) (n c:Nat),bs[j]?=some (Value.slice (some A) n c)→b≤A.block∧A.block < w.heap.size) (k a n c:Nat) (h1:b≤a) (h2:a < w.heap.size):∀(j:Nat) (A:Addr) (n' c':Nat),(bs.set k (.slice (some ⟨a,0,none⟩) n c))[j]?=some (Value.slice (some A) n' c')→b≤A.block∧A.block < w.heap.size:=by
 intro j A n' c' hj
 by_cases he:k=j
 ·subst he
  by_cases hl:k < bs.length
  ·rw [List.getElem?_set_self hl]at hj
   injection hj with hj
   injection hj with hj
   injection hj with hj
   subst hj
   exact⟨h1,h2⟩
  ·rw [List.getElem?_eq_none (by rw [List.length_set];omega)]at hj
   cases hj
 ·rw [List.getElem?_set_ne he]at hj
  exact h j A n' c' hj
theorem Fr.set {b:Nat} {w:World} {bs:List Value} {m:Nat} (h:Fr b w bs m) (hm:m < 8) (A:Nat) (cap:Nat) (hba:b≤A) (hs:Row w A 41 (recL zeroB m)):Fr b w (bs.set (1+m) (.slice (some ⟨A,0,none⟩) (cnt m) cap)) (m+1):=
 ⟨Fr.new_set h.new _ _ _ _ hba hs.lt,by rw [List.length_set,h.len],fun u hu=>by
  rcases List.mem_or_eq_of_mem_set hu with hu | rfl
  ·exact h.one u hu
  ·rfl,by rw [List.getElem?_set_ne (by omega)];exact h.opn,fun c hc=>by
  by_cases he:c=m
  ·subst he
   exact⟨A,cap,by rw [List.getElem?_set_self (by rw [h.len];omega)],hs⟩
  ·obtain⟨A',cap',g1,g2⟩:=h.recs c (by omega)
   exact⟨A',cap',by rw [List.getElem?_set_ne (by omega)];exact g1,g2⟩⟩
def FreshP (w:World) (e:Ending) (w':World):Prop:=∃bs:List Value,e= .returned (.agg bs.toArray)∧Fr w.heap.size w' bs 8∧(∃G cap,bs[9]?=some (.slice G 384 cap)∧Sees w' w'.heap.size G (greL zeroB))∧Below w.heap.size w w'
def FrI (w wr:World) (m:Nat):Prop:=Row wr w.heap.size 31 [Value.bool false,.slice none 0 0,.slice none 0 0,.slice none 0 0,.slice none 0 0,.slice none 0 0,.slice none 0 0,.slice none 0 0,.slice none 0 0,.slice none 0 0]∧(∃bs,Row wr (w.heap.size+1) 31 bs∧Fr w.heap.size wr bs m)∧Below w.heap.size w wr
theorem FrI.step {w wr:World} {m:Nat} (h:FrI w wr m) (hm:m < 8) (W1:World) (hW:W1=wr.alloc (.cells (recL zeroB m).toArray 41)):
  (∃x,W1.cell? ⟨w.heap.size+1,1+m,none⟩=some x)∧W1.frozen? ⟨w.heap.size+1,1+m,none⟩=false∧FrI w (W1.setCell ⟨w.heap.size+1,1+m,none⟩ (.slice (some ⟨wr.heap.size,0,none⟩) (cnt m) (cnt m))) (m+1):=by
 obtain⟨h0,⟨bs,h1,h2⟩,hb⟩:=h
 have hbl:Below wr.heap.size wr W1:=by rw [hW];exact below1 _ _
 have g0:=h0.below hbl
 have g1:=h1.below hbl
 have hlen:=h2.len
 have hrw:Row W1 wr.heap.size 41 (recL zeroB m):=by rw [hW];exact Row.new wr _ _
 have hlt:=h1.lt
 refine⟨⟨bs[1+m]'(by omega),by rw [g1.cell,List.getElem?_eq_getElem (by omega)]⟩,g1.frozen _,?_⟩
 have hne:∀k,k≠w.heap.size+1→(W1.setCell ⟨w.heap.size+1,1+m,none⟩ (.slice (some ⟨wr.heap.size,0,none⟩) (cnt m) (cnt m))).heap[k]?=W1.heap[k]?:=fun k hk=>heap_set hk
 refine⟨g0.same (hne _ (by omega)),⟨_,g1.set _ _,?_⟩,(below0 hb hbl).setCell (by simp only;omega) _⟩
 have h3:=(h2.below hbl).same (by simp) hne g1 (by decide)
 exact h3.set hm _ _ (by have:=hb.size;omega) (hrw.same (hne _ (by omega)))
theorem FrI.last {w wr:World} (h:FrI w wr 8) (W1:World) (hW:W1=wr.alloc (.cells (greL zeroB).toArray 43)):
  (∃x,W1.cell? ⟨w.heap.size+1,9,none⟩=some x)∧W1.frozen? ⟨w.heap.size+1,9,none⟩=false∧∃bs:List Value,Hid ((W1.setCell ⟨w.heap.size+1,9,none⟩ (.slice (some ⟨wr.heap.size,0,none⟩) 384 384)).rangeAt (w.heap.size+1) 0 bs
   ∧(Tryz.prog.info? 31).map (·.size)=some bs.length
   ∧(W1.setCell ⟨w.heap.size+1,9,none⟩ (.slice (some ⟨wr.heap.size,0,none⟩) 384 384)).there w.heap.size 0 bs.toArray.size
   ∧(Tryz.prog.info? 31).map (·.size)=some bs.toArray.size
   ∧bs.toArray.all (·.oneCell')=true
   ∧(loadVar 31 ⟨w.heap.size,0,none⟩).run Tryz.prog ((W1.setCell ⟨w.heap.size+1,9,none⟩ (.slice (some ⟨wr.heap.size,0,none⟩) 384 384)).setCells w.heap.size 0 bs.toArray.toList)= .ok (.agg bs.toArray) ((W1.setCell ⟨w.heap.size+1,9,none⟩ (.slice (some ⟨wr.heap.size,0,none⟩) 384 384)).setCells w.heap.size 0 bs.toArray.toList)
   ∧FreshP w (.returned (.agg bs.toArray)) ((W1.setCell ⟨w.heap.size+1,9,none⟩ (.slice (some ⟨wr.heap.size,0,none⟩) 384 384)).setCells w.heap.size 0 bs.toArray.toList)):=by
 obtain⟨h0,⟨bs,h1,h2⟩,hb⟩:=h
 have hbl:Below wr.heap.size wr W1:=by rw [hW];exact below1 _ _
 have g0:=h0.below hbl
 have g1:=h1.below hbl
 have hlen:=h2.len
 have hrw:Row W1 wr.heap.size 43 (greL zeroB):=by rw [hW];exact Row.new wr _ _
 have hlt:=h1.lt
 obtain⟨nv,hnv⟩:∃x,x=Value.slice (some ⟨wr.heap.size,0,none⟩) 384 384:=⟨_,rfl⟩
 have hn1:nv.oneCell'=true:=by rw [hnv];rfl
 refine⟨⟨bs[9]'(by omega),by rw [g1.cell,List.getElem?_eq_getElem (by omega)]⟩,g1.frozen _,bs.set 9 nv,Lh ?_⟩
 rw [←hnv]
 obtain⟨V2,hV2⟩:∃V,V=W1.setCell ⟨w.heap.size+1,9,none⟩ nv:=⟨_,rfl⟩
 rw [←hV2]
 have hne:∀k,k≠w.heap.size+1→V2.heap[k]?=W1.heap[k]?:=fun k hk=>by rw [hV2];exact heap_set hk
 have r0:=g0.same (hne _ (by omega))
 have r1:Row V2 (w.heap.size+1) 31 (bs.set 9 nv):=by rw [hV2];exact g1.set _ _
 have rg:=hrw.same (hne wr.heap.size (by omega))
 have rb:Below w.heap.size w V2:=by rw [hV2];exact(below0 hb hbl).setCell (by simp only;omega) _
 have h3:=(h2.below hbl).same (by rw [hV2];simp) hne g1 (by decide)
 have hl10:(bs.set 9 nv).length=10:=by rw [List.length_set,hlen]
 have h4:Fr w.heap.size V2 (bs.set 9 nv) 8:=⟨by rw [hnv];exact Fr.new_set h3.new _ _ _ _ (by have:=hb.size;omega) rg.lt,hl10,fun u hu=>by
  rcases List.mem_or_eq_of_mem_set hu with hu | rfl
  ·exact h2.one u hu
  ·exact hn1,by rw [List.getElem?_set_ne (by omega)];exact h2.opn,fun c hc=>by
  obtain⟨A,cap,e1,e2⟩:=h3.recs c hc
  exact⟨A,cap,by rw [List.getElem?_set_ne (by omega)];exact e1,e2⟩⟩
 have hne3:∀k,k≠w.heap.size→(V2.setCells w.heap.size 0 (bs.set 9 nv).toArray.toList).heap[k]?=V2.heap[k]?:=fun k hk=>setCells_other hk _ _
 have hsz3:V2.heap.size≤(V2.setCells w.heap.size 0 (bs.set 9 nv).toArray.toList).heap.size:=(set_below w.heap.size w.heap.size Lr _ _ _ Br).size
 have r3:Row (V2.setCells w.heap.size 0 (bs.set 9 nv).toArray.toList) w.heap.size 31 (bs.set 9 nv):=set_from (bs.set 9 nv) [] _ r0 (by rw [hl10];rfl)
 have hgl:=greL_len zeroB
 refine⟨row_range r1,by rw [hl10];exact bo_size,row_there r0 (by rw [List.size_toArray,hl10];rfl),by rw [List.size_toArray,hl10];exact bo_size,all_oneCell_toArray h4.one,run_loadVar_mid _ w.heap.size 0 _ (bs.set 9 nv) _ (row_range r3) Tryz.underlying31 rfl (by rw [hl10];exact bo_size),⟨_,rfl,h4.same hsz3 hne3 r0 (by decide),⟨some ⟨wr.heap.size,0,none⟩,384,by rw [List.getElem?_set_self (by omega),hnv],?_⟩,set_below w.heap.size _ Lr _ _ _ rb⟩⟩
 exact(rg.same (hne3 _ (by have:=hb.size;have:=h0.lt;omega))).sees
theorem fresh_any (w:World):Calls Tryz.prog 21 #[] w (FreshP w):=by
 have HG:Hid (∀e w',FreshP w e w'→FreshP w e w'):=Lh (fun _ _ h=>h)
 have HF0:=Lh (show FrI w ((w.alloc (.cells #[Value.bool false,.slice none 0 0,.slice none 0 0,.slice none 0 0,.slice none 0 0,.slice none 0 0,.slice none 0 0,.slice none 0 0,.slice none 0 0,.slice none 0 0] 31)).alloc (.cells #[Value.bool true,.slice none 0 0,.slice none 0 0,.slice none 0 0,.slice none 0 0,.slice none 0 0,.slice none 0 0,.slice none 0 0,.slice none 0 0,.slice none 0 0] 31)) 0 from
  ⟨(Row.new w 31 [Value.bool false,.slice none 0 0,.slice none 0 0,.slice none 0 0,.slice none 0 0,.slice none 0 0,.slice none 0 0,.slice none 0 0,.slice none 0 0,.slice none 0 0]).below (below1 _ _),⟨[Value.bool true,.slice none 0 0,.slice none 0 0,.slice none 0 0,.slice none 0 0,.slice none 0 0,.slice none 0 0,.slice none 0 0,.slice none 0 0,.slice none 0 0],Row.new_at _ 31 [Value.bool true,.slice none 0 0,.slice none 0 0,.slice none 0 0,.slice none 0 0,.slice none 0 0,.slice none 0 0,.slice none 0 0,.slice none 0 0,.slice none 0 0] (by simp),by intro j A n c hj;have hmem:=List.mem_of_getElem? hj;simp at hmem,rfl,by intro u hu;simp only [List.mem_cons,List.not_mem_nil,or_false]at hu;rcases hu with rfl | rfl | rfl | rfl | rfl | rfl | rfl | rfl | rfl | rfl <;> rfl,rfl,fun _ h=>absurd h (Nat.not_lt_zero _)⟩,below2 _ _ _⟩)
 go_enter Tryz.func21,Tryz.ntmps21
 go_wp2_with fail
 go_loopw [2] (fun s V=>∃m:Nat,s= .int .i64 (m:Int)∧m≤8∧Hid (FrI w V m)) (fun s _=>8 - (intOf s).toNat)
 case atStart=>exact⟨0,rfl,Nat.zero_le _,HF0⟩
 case round=>
  obtain⟨m,rfl,hm,HI⟩:=hrel
  by_cases h8:m < 8
  ·have d0:decide ((m:Int) < 8)=true:=Dt (by omega)
   have hc:=Lh (fun V=>refcount_yes m V h8)
   have hm1:=make_rec m h8 wr
   obtain⟨W1,hW1⟩:=Nm (wr.alloc (.cells (recL zeroB m).toArray 41))
   obtain⟨⟨x,hx⟩,hfx,hst⟩:=HI.out.step h8 W1 hW1
   have HST:=Lh hst
   obtain⟨cn,hcn⟩:=Nm (cnt m)
   rw [show 4096 / (pay m+32)=cn from hcn.symm]at hc
   rw [←hcn]at hm1 HST
   rw [←hW1]at hm1
   have a1:IntKind.i64.wrap ((m:Int)+1)=((m+1:Nat):Int):=(wrapI _ (by omega) (by omega)).trans (by omega)
   clear hst hW1 hcn HI HF0
   go_wp2_with (first | (go_at_call 62;refine(hc.out _).mono ?_;rintro e wn ⟨rfl,rfl⟩))
   refine⟨⟨m+1,rfl,by omega,HST⟩,?_⟩
   show 8 - ((m:Int)+1).toNat < 8 - ((m:Int)).toNat
   omega
  ·have d0:decide ((m:Int) < 8)=false:=Df (by omega)
   obtain rfl:m=8:=by omega
   have hm9:=make_gre wr
   obtain⟨W1,hW1⟩:=Nm (wr.alloc (.cells (greL zeroB).toArray 43))
   obtain⟨⟨x,hx⟩,hfx,bs,HL⟩:=HI.out.last W1 hW1
   rw [←hW1]at hm9
   clear hW1 HI HF0
   go_wp2_with (first | refine wpList_load_mid rfl 31 (.tmp 1) rfl (w.heap.size+1) 0 rfl bs _ HL.out.1 Tryz.underlying31 rfl HL.out.2.1 ?_ | refine wpList_store_mid rfl 31 (.tmp 0) (.tmp 16) rfl w.heap.size 0 bs.toArray rfl rfl HL.out.2.2.1 HL.out.2.2.2.1 HL.out.2.2.2.2.1 ?_)
   exact bodyPost_ret (res_cell1 Tryz.results21 rfl HL.out.2.2.2.2.2.1) rfl HL.out.2.2.2.2.2.2
theorem int_info15:(Tryz.prog.info? 3).map (fun i=>(i.zero,i.size,i.bytes))=some (some (.int .i64 0),1,8):=by kernel_rfl
def stAt (f:Byts) (c i:Nat):Nat:=match recAt f (recO c i) with
 | some (st,_,_)=>st
 | none=>0
def stsL (f:Byts) (c:Nat):List Nat:=(List.range (cnt c)).map (stAt f c)
def insM (l:List Nat):List Value:=l.map fun(z:Nat)=>Value.int .i64 (z:Int)
theorem stsL_len (f:Byts) (c:Nat):(stsL f c).length=cnt c:=by simp [stsL]
theorem stsL_get (f:Byts) (c k:Nat) (hk:k < cnt c):(stsL f c)[k]?=some (stAt f c k):=by
 unfold stsL
 rw [List.getElem?_map,List.getElem?_range hk]
 rfl
theorem recL_st (f:Byts) (c k:Nat) (hk:k < cnt c):(recL f c)[k*3]?=some (.int .i64 (stAt f c k:Int)):=by
 have h:=recL_at f c k 0 hk (by omega)
 rw [Nat.add_zero]at h
 rw [h]
 unfold stAt
 rcases recAt f (recO c k) with _ | ⟨a,b,d⟩ <;> rfl
theorem insM_take (l:List Nat) (k x:Nat) (h:l[k]?=some x):insM (l.take (k+1))=insM (l.take k) ++ [.int .i64 (x:Int)]:=by
 rw [List.take_add_one,h]
 simp [insM]
def StatesP (w:World) (f:Byts) (c:Nat) (e:Ending) (w':World):Prop:=∃A cp,e= .returned (.slice A (cnt c) cp)∧Sees w' w'.heap.size A (insM (stsL f c))∧Below w.heap.size w w'
theorem own_slice15 {w:World} {B:Nat} {t:TypeId} {k:Nat} {v:Value} {n:Nat} {xs:List Value} (h:w.ownsRow B t k v n xs):∃A c,v= .slice A n c:=by
 obtain⟨_,⟨rfl,rfl,_⟩ | ⟨g,cap,cur,rfl,_⟩⟩:=h
 ·exact⟨none,0,rfl⟩
 ·exact⟨_,_,rfl⟩
theorem rstates_yes (cs:List Value) (B:Bks) (f:Byts) (s c:Nat) (w:World) (hL:BL w cs B) (hs4:s < 4) (hc8:c < 8) (hf:B s=some f):
  Calls Tryz.prog 69 #[bkV cs,.int .i64 (s:Int),.int .i64 (c:Int)] w (StatesP w f c):=by
 obtain⟨i0,hi,hz0,hz1,hz2⟩:=info_parts int_info15
 obtain⟨_,hcs,_,_⟩:=hL.opn s hs4 f hf
 obtain⟨A,cap,hsl,hse⟩:=hcs c hc8
 have hrl:=recL_len f c
 have hcl:=cnt_le hc8
 have hne:recL f c≠[]:=fun e=>by rw [e]at hrl;simp at hrl;omega
 obtain⟨ad,rfl,hadb,hcell⟩:=hse hne
 obtain⟨w0,hw0⟩:=Nm (w.alloc (.cells cs.toArray 33))
 have hr0:Row w0 w.heap.size 33 cs:=by rw [hw0];exact Row.new w _ cs
 have hb0:Below w.heap.size w w0:=by rw [hw0];exact below1 _ _
 have hsz0:w0.heap.size=w.heap.size+1:=by rw [hw0];simp
 have hst:=fun k (hk:k < cnt c)=>stsL_get f c k hk
 have hbc:∀o,w0.cell? (ad.add o)=w.cell? (ad.add o):=fun o=>hb0.cell (by rw [add_block];exact hadb)
 have hrd:=fun k (hk:k < cnt c)=>(hbc _).trans (hcell _ _ (recL_st f c k hk))
 clear hbc
 have hgl:=stsL_len f c
 have HG:Hid (∀e w',StatesP w f c e w'→StatesP w f c e w'):=Lh (fun _ _ h=>h)
 obtain⟨n,hn⟩:=Nm (cnt c)
 rw [←hn]at hcl hst hrd hgl hsl
 have HN:=Lh hn
 obtain⟨xs,hxs⟩:=Nm (stsL f c)
 rw [←hxs]at hst hgl
 have HX:=Lh hxs
 have HST:=Lh hst
 have HRD:=Lh hrd
 have HSL:=Lh hsl
 have hcl1:=hcl.1
 have hcl2:=hcl.2.1
 have y0:(0:Int)≤(s:Int)∧(s:Int) < 4∧(0:Int)≤(c:Int)∧(c:Int) < 8:=by omega
 obtain⟨y01,y02,y03,y04⟩:=y0
 clear hL hcs hse hne hcell hf hn hxs hst hrd hsl hrl hcl
 go_enter Tryz.func69,Tryz.ntmps69
 go_wp2_with fail
 rw [←hw0]
 clear hw0
 go_loopw [7,8] (fun v i wr=>∃k:Nat,k≤n∧i= .int .i64 (k:Int)∧wr.ownsRow w0.heap.size 3 1 v k (insM (xs.take k))∧Below w0.heap.size w0 wr) (fun _ i _=>n - (intOf i).toNat)
 case atStart=>exact⟨0,Nat.zero_le _,rfl,World.ownsRow_nil _ _ _ _,Br⟩
 case round=>
  obtain⟨k,hk,rfl,hown,hB⟩:=hrel
  have hcl0:wr.cell? ⟨w.heap.size,s*10+1+c,none⟩=some (.slice (some ad) n cap):=((hr0.below hB).cell _).trans HSL.out
  obtain⟨Av,cv,rfl⟩:=own_slice15 hown
  by_cases hkn:k < n
  ·have d0:decide ((k:Int) < (n:Int))=true:=Dt (by omega)
   have hwc:∀o,wr.cell? (ad.add o)=w0.cell? (ad.add o):=fun o=>hB.cell (by rw [add_block];have:=hb0.size;omega)
   have hrk:wr.cell? (ad.add (k*3))=some (.int .i64 (stAt f c k:Int)):=(hwc _).trans (HRD.out k hkn)
   have htk:=insM_take xs k _ (HST.out k hkn)
   obtain⟨x,hx⟩:=Nm (stAt f c k)
   rw [←hx]at hrk htk
   have HTK:=Lh htk
   have a1:IntKind.i64.wrap ((k:Int)+1)=((k+1:Nat):Int):=(wrapI _ (by omega) (by omega)).trans (by omega)
   have hown1:=hown.alloc (.cells #[.int .i64 (x:Int)] 3)
   have z0:(0:Int)≤(k:Int)∧(k:Int) < (n:Int):=by omega
   obtain⟨z01,z02⟩:=z0
   clear hx htk hwc
   go_wp2_with (at_builtin;refine wpList_append_sees rfl (.tmp 20) (.tmp 31) 143 rfl w0.heap.size 3 i0 _ 1 8 Tryz.underlying143 hi hz0 hz1 hz2 rfl (by decide) _ k (insM (xs.take k)) rfl hown1 (wr.heap.size+1) (some ⟨wr.heap.size,0,none⟩) 1 1 [.int .i64 (x:Int)] rfl rfl (fun _=>⟨_,rfl,by simp,cell_one_new _ _ _⟩) (by simp [Value.oneCell']) (by unfold maxLen;omega) (by omega) (by simp;have:=hB.size;omega) ?_;intro v' w4 hown4 hg4 hv4)
   go_roundw
   case rel=>
    refine⟨k+1,by omega,by go_num,?_,?_⟩
    ·rw [HTK.out];exact hown4
    ·exact(hB.alloc hB.size _).grown hg4 (by simp;have:=hB.size;omega) (fun g e=>(hown1.lt g e).1)
   case measure=>simp [intOf];omega
  ·obtain rfl:k=n:=by omega
   have d0:decide ((k:Int) < (k:Int))=false:=Df (by omega)
   have hfin:=Lh (show StatesP w f c (.returned (.slice Av k cv)) wr from by
    rw [List.take_of_length_le (by omega)]at hown
    refine⟨Av,cv,by rw [HN.out],?_,below0 hb0 hB⟩
    rw [←HX.out]
    exact Sees.of_own hown)
   clear hown
   go_wp2_with fail
   go_ret
   exact hfin.out
end Go.Proofs.YtfcfbcjiijfjgaaGreatDoor.Me
