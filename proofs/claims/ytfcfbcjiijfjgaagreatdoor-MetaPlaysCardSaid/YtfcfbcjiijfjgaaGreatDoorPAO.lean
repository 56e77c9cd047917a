import Derived.Test.YtfcfbcjiijfjgaaGreatDoorPAK
import Derived.Test.YtfcfbcjiijfjgaaGreatDoorPAM
import Derived.Test.YtfcfbcjiijfjgaaGreatDoorPAN
import Derived.Test.YtfcfbcjiijfjgaaGreatDoorPAH
set_option maxHeartbeats 4000000
set_option maxRecDepth 100000
namespace Go.Proofs.YtfcfbcjiijfjgaaGreatDoor.Vm
open Go.RowKit Go.Shelf Go.Maps Go.Sort
attribute [local go_sem] Oper.semAt_some
structure Ask where
 cf:Nat
 first:Array Value
 cap:Array Value
 e:Int
 ans:Bool
def Ask.val (q:Ask):Value:= .func (.func q.cf) q.first q.cap
def askCells (qs:List Ask):List Value:=qs.flatMap fun q=> [q.val,.int .i64 q.e]
def askE:List Ask→Int
 | []=>0
 | q :: r=>if q.ans then askE r else q.e
theorem ask_cells:∀(qs:List Ask) (k:Nat) (h:k < qs.length),(askCells qs)[k*2]?=some qs[k].val∧(askCells qs)[k*2+1]?=some (.int .i64 qs[k].e)
 | q :: r,0,_=>⟨rfl,rfl⟩
 | q :: r,k+1,h=>by
  have:=ask_cells r k (by simpa using h)
  rw [show(k+1)*2=k*2+1+1 by omega]
  exact this
theorem askE_at:∀(qs:List Ask) (k:Nat) (h:k < qs.length),(∀j (hj:j < qs.length),j < k→qs[j].ans=true)→qs[k].ans=false→askE qs=qs[k].e
 | q :: r,0,_,_,h=>by simp at h;simp [askE,h]
 | q :: r,k+1,hk,ha,h=>by
  have h0:q.ans=true:=ha 0 (by simp) (by omega)
  rw [askE,if_pos h0]
  exact askE_at r k (by simpa using hk) (fun j hj hjk=>ha (j+1) (by simpa using hj) (by omega)) h
theorem askE_end:∀(qs:List Ask),(∀j (hj:j < qs.length),qs[j].ans=true)→askE qs=0
 | [],_=>rfl
 | q :: r,ha=>by
  have h0:q.ans=true:=ha 0 (by simp)
  rw [askE,if_pos h0]
  exact askE_end r fun j hj=>ha (j+1) (by simpa using hj)
def Asks (w:World) (qs:List Ask):Prop:=
 ∀k (hk:k < qs.length),(∀j (hj:j < qs.length),j < k→qs[j].ans=true)→(∀args V,(callFunc qs[k].cf args).run Tryz.prog V= .ok (.enter qs[k].cf args) V)∧
  ∀V,Below w.heap.size w V→Calls Tryz.prog qs[k].cf (qs[k].first ++ qs[k].cap) V fun e V'=>e= .returned (.bool qs[k].ans)∧Below V.heap.size V V'
theorem asked_any (qs:List Ask) (g n c:Nat) (w:World) (hn:qs.length=n) (hm:n≤100) (hr:Row w g 201 (askCells qs)) (hq:Asks w qs):
  Calls Tryz.prog 120 #[.slice (some ⟨g,0,none⟩) n c] w fun e w'=>e= .returned (.int .i64 (askE qs))∧Below w.heap.size w w':=by
 have hgl:=hr.lt
 have HC:=Lh (fun k hk=>ask_cells qs k hk)
 have HA:=Lh (fun k h1 h2 h3=>askE_at qs k h1 h2 h3)
 have HE:=Lh (askE_end qs)
 have HQ:=Lh hq
 have HR:=Lh hr
 obtain⟨E,hE⟩:=Nm (askE qs)
 rw [←hE]at HA HE ⊢
 clear hE hq hr
 go_enter Tryz.func120,Tryz.ntmps120
 go_wp2_with fail
 go_loopw [7] (fun s wr=>∃k:Nat,k≤n∧s= .int .i64 (k:Int)∧Hid (∀j (hj:j < qs.length),j < k→qs[j].ans=true)∧Below w.heap.size w wr) (fun s _=>n - (_root_.Go.RowKit.intOf s).toNat)
 case atStart=>exact⟨0,by omega,rfl,Lh (fun j hj h=>absurd h (by omega)),Br⟩
 case round=>
  obtain⟨k,hk,rfl,hall,hb⟩:=hrel
  by_cases hlt:k < n
  ·have hkl:k < qs.length:=by omega
   have e0:decide ((k:Int) < (n:Int))=true:=Dt (by omega)
   have i0:(0:Int)≤(k:Int):=by omega
   have i1:(k:Int) < (n:Int):=by omega
   obtain⟨c0,c1⟩:=HC.out k hkl
   have hc0:wr.cell? ⟨g,k*2,none⟩=some qs[k].val:=((hb.cell (p:=⟨g,k*2,none⟩) hgl).trans (HR.out.cell _)).trans c0
   have hc1:wr.cell? ⟨g,k*2+1,none⟩=some (.int .i64 qs[k].e):=((hb.cell (p:=⟨g,k*2+1,none⟩) hgl).trans (HR.out.cell _)).trans c1
   obtain⟨hent,hcall⟩:=HQ.out k hkl hall.out
   have HCALL:=Lh hcall
   obtain⟨q,hqe⟩:=Nm (qs[k])
   have HQE:=Lh hqe
   rw [←hqe]at hc0 hc1 hent HCALL
   obtain⟨cf,first,cap,ee,ans⟩:=q
   simp only [Ask.val]at hc0 hc1 hent HCALL
   clear hcall c0 c1 hqe
   go_wp2_with fail
   have hb1:=Lh (hb.alloc hb.size (.cells #[.func (.func cf) first cap,.int .i64 ee] 201))
   refine(HCALL.out _ hb1.out).mono ?_
   rintro e w1 ⟨rfl,hb2⟩
   have hd1:w1.cell? ⟨wr.heap.size,1,none⟩=some (.int .i64 ee):=(hb2.cell (p:=⟨wr.heap.size,1,none⟩) (by simp)).trans (cell_alloc_new _ _ _ _)
   have hb3:=Lh (show Below w.heap.size w w1 from hb1.out.trans (hb2.mono (by have:=hb1.out.size;exact this)))
   clear hb2 hb1 hc0 hc1 hent HCALL
   cases ans
   ·have hfin:=Lh (HA.out k hkl hall.out (by rw [←HQE.out]))
    rw [←HQE.out]at hfin
    go_wp2
    go_ret
    exact⟨by rw [hfin.out];rfl,hb3.out⟩
   ·have hall2:Hid (∀j (hj:j < qs.length),j < k+1→qs[j].ans=true):=Lh fun j hj hjk=>by
     rcases Nat.lt_or_ge j k with h | h
     ·exact hall.out j hj h
     ·obtain rfl:j=k:=by omega
      rw [←HQE.out]
    go_wp2
    go_roundw
    case rel=>exact⟨k+1,by omega,by go_num,hall2,hb3.out⟩
    case measure=>simp [_root_.Go.RowKit.intOf];omega
  ·obtain rfl:k=n:=by omega
   have hfin:=Lh (HE.out (fun j hj=>hall.out j hj (by omega)))
   go_wp2
   go_ret
   exact⟨by rw [hfin.out];rfl,hb⟩
def boxW (w:World):List (List Value × TypeId)→World
 | []=>w
 | x :: r=>boxW (w.alloc (.cells x.1.toArray x.2)) r
structure Boxes (w:World) (l:List (List Value)) (V:World):Prop where
 below:Below w.heap.size w V
 row:∀k cs,l[k]?=some cs→∃t,Row V (w.heap.size+k) t cs
 size:w.heap.size+l.length≤V.heap.size
theorem Boxes.cell {w V:World} {l:List (List Value)} (h:Boxes w l V) (k:Nat) (cs:List Value) (hk:l[k]?=some cs) (j:Nat) (v:Value) (hv:cs[j]?=some v):V.cell? ⟨w.heap.size+k,j,none⟩=some v:=by
 obtain⟨t,hr⟩:=h.row k cs hk
 exact(hr.cell j).trans hv
theorem Boxes.frozen {w V:World} {l:List (List Value)} (h:Boxes w l V) (k:Nat) (cs:List Value) (hk:l[k]?=some cs) (j:Nat):V.frozen? ⟨w.heap.size+k,j,none⟩=false:=by
 obtain⟨t,hr⟩:=h.row k cs hk
 exact hr.frozen j
theorem box_size:∀(l:List (List Value × TypeId)) (w:World),(boxW w l).heap.size=w.heap.size+l.length
 | [],w=>rfl
 | x :: r,w=>by rw [boxW,box_size r];simp;omega
theorem box_below:∀(l:List (List Value × TypeId)) (w V:World),Below w.heap.size w V→Below w.heap.size w (boxW V l)
 | [],w,V,h=>h
 | x :: r,w,V,h=>by rw [boxW];exact box_below r w _ (h.alloc h.size _)
theorem box_keep:∀(l:List (List Value × TypeId)) (V:World) (k:Nat),k < V.heap.size→(boxW V l).heap[k]?=V.heap[k]?
 | [],V,k,h=>rfl
 | x :: r,V,k,h=>by
  rw [boxW,box_keep r _ k (by simp;omega)]
  exact Below.heap_alloc _ _ _ h
theorem box_row:∀(l:List (List Value × TypeId)) (w:World) (k:Nat) (x:List Value × TypeId),l[k]?=some x→Row (boxW w l) (w.heap.size+k) x.2 x.1
 | [],w,k,x,h=>by simp at h
 | y :: r,w,0,x,h=>by
  simp at h
  subst h
  exact(Row.new w y.2 y.1).same (box_keep r _ _ (by simp))
 | y :: r,w,k+1,x,h=>by
  have:=box_row r (w.alloc (.cells y.1.toArray y.2)) k x (by simpa using h)
  rw [World.size_alloc]at this
  rw [boxW,show w.heap.size+(k+1)=w.heap.size+1+k by omega]
  exact this
def askW (w:World) (l:List (List Value × TypeId)) (qs:List Ask):World:=(boxW w l).alloc (.cells (askCells qs).toArray 201)
theorem Boxes.more {w V V':World} {l:List (List Value)} (h:Boxes w l V) (hb:Below V.heap.size V V'):Boxes w l V':=
 ⟨below0 h.below hb,fun k cs hk=>by
  obtain⟨t,hr⟩:=h.row k cs hk
  exact⟨t,hr.below hb⟩,Nat.le_trans h.size hb.size⟩
theorem Boxes.keepRow {w V V':World} {l:List (List Value)} {F:Nat→Prop} (h:Boxes w l V) (hb:Keep F V V') (hF:∀k,F k→k < w.heap.size) (k:Nat) (cs:List Value) (hk:l[k]?=some cs):∃t,Row V' (w.heap.size+k) t cs:=by
 obtain⟨t,hr⟩:=h.row k cs hk
 exact⟨t,hb.row hr fun hf=>by have:=hF _ hf;omega⟩
theorem Boxes.keep {w V V':World} {l:List (List Value)} {F:Nat→Prop} (h:Boxes w l V) (hb:Keep F V V') (hF:∀k,F k→k < w.heap.size) (k:Nat) (cs:List Value) (hk:l[k]?=some cs) (j:Nat) (v:Value) (hv:cs[j]?=some v):V'.cell? ⟨w.heap.size+k,j,none⟩=some v:=by
 obtain⟨t,hr⟩:=h.keepRow hb hF k cs hk
 exact(hr.cell j).trans hv
theorem askW_boxes (w:World) (l:List (List Value × TypeId)) (qs:List Ask):Boxes w (l.map Prod.fst) (askW w l qs)∧Row (askW w l qs) (w.heap.size+l.length) 201 (askCells qs)∧(askW w l qs).heap.size=w.heap.size+l.length+1:=by
 have hs:=box_size l w
 refine⟨⟨(box_below l w w Br).alloc (by omega) _,fun k cs hk=> ?_,by simp [askW,hs]⟩,Row.new_at _ _ _ hs,by simp [askW,hs]⟩
 rw [List.getElem?_map,Option.map_eq_some_iff]at hk
 obtain⟨x,hx,rfl⟩:=hk
 exact⟨_,(box_row l w k x hx).below (below1 _ _)⟩
theorem asked_box {w:World} (l:List (List Value × TypeId)) (qs:List Ask) (n c s:Nat) (hs:s=w.heap.size+l.length) (hn:qs.length=n) (hm:n≤100)
  (HQ:∀k (hk:k < qs.length),(∀j (hj:j < qs.length),j < k→qs[j].ans=true)→(∀args V,(callFunc qs[k].cf args).run Tryz.prog V= .ok (.enter qs[k].cf args) V)∧
   ∀V,Boxes w (l.map Prod.fst) V→Calls Tryz.prog qs[k].cf (qs[k].first ++ qs[k].cap) V fun e V'=>e= .returned (.bool qs[k].ans)∧Below V.heap.size V V'):
  Calls Tryz.prog 120 #[.slice (some ⟨s,0,none⟩) n c] (askW w l qs) fun e w'=>e= .returned (.int .i64 (askE qs))∧Boxes w (l.map Prod.fst) w'∧s < w'.heap.size:=by
 obtain⟨h1,h2,h3⟩:=askW_boxes w l qs
 subst hs
 refine(asked_any qs (w.heap.size+l.length) n c _ hn hm h2 fun k hk hall=>⟨(HQ k hk hall).1,fun V hV=>(HQ k hk hall).2 V (h1.more hV)⟩).mono fun e w' ⟨e1,e2⟩=>⟨e1,h1.more e2,?_⟩
 have:=e2.size
 omega
end Go.Proofs.YtfcfbcjiijfjgaaGreatDoor.Vm
namespace Go.Proofs.YtfcfbcjiijfjgaaGreatDoor.Me
open Go.RowKit Go.Shelf Go.Maps Go.Sort
open Vm (Ask askCells askE Asks ask_cells askE_at askE_end)
attribute [local go_sem] Oper.semAt_some
theorem asked_any (qs:List Ask) (g n c:Nat) (w:World) (hn:qs.length=n) (hm:n≤100) (hr:Row w g 83 (askCells qs)) (hq:Asks w qs):
  Calls Tryz.prog 28 #[.slice (some ⟨g,0,none⟩) n c] w fun e w'=>e= .returned (.int .i64 (askE qs))∧Below w.heap.size w w':=by
 have hgl:=hr.lt
 have HC:=Lh (fun k hk=>ask_cells qs k hk)
 have HA:=Lh (fun k h1 h2 h3=>askE_at qs k h1 h2 h3)
 have HE:=Lh (askE_end qs)
 have HQ:=Lh hq
 have HR:=Lh hr
 obtain⟨E,hE⟩:=Nm (askE qs)
 rw [←hE]at HA HE ⊢
 clear hE hq hr
 go_enter Tryz.func28,Tryz.ntmps28
 go_wp2_with fail
 go_loopw [7] (fun s wr=>∃k:Nat,k≤n∧s= .int .i64 (k:Int)∧Hid (∀j (hj:j < qs.length),j < k→qs[j].ans=true)∧Below w.heap.size w wr) (fun s _=>n - (_root_.Go.RowKit.intOf s).toNat)
 case atStart=>exact⟨0,by omega,rfl,Lh (fun j hj h=>absurd h (by omega)),Br⟩
 case round=>
  obtain⟨k,hk,rfl,hall,hb⟩:=hrel
  by_cases hlt:k < n
  ·have hkl:k < qs.length:=by omega
   have e0:decide ((k:Int) < (n:Int))=true:=Dt (by omega)
   have i0:(0:Int)≤(k:Int):=by omega
   have i1:(k:Int) < (n:Int):=by omega
   obtain⟨c0,c1⟩:=HC.out k hkl
   have hc0:wr.cell? ⟨g,k*2,none⟩=some qs[k].val:=((hb.cell (p:=⟨g,k*2,none⟩) hgl).trans (HR.out.cell _)).trans c0
   have hc1:wr.cell? ⟨g,k*2+1,none⟩=some (.int .i64 qs[k].e):=((hb.cell (p:=⟨g,k*2+1,none⟩) hgl).trans (HR.out.cell _)).trans c1
   obtain⟨hent,hcall⟩:=HQ.out k hkl hall.out
   have HCALL:=Lh hcall
   obtain⟨q,hqe⟩:=Nm (qs[k])
   have HQE:=Lh hqe
   rw [←hqe]at hc0 hc1 hent HCALL
   obtain⟨cf,first,cap,ee,ans⟩:=q
   simp only [Ask.val]at hc0 hc1 hent HCALL
   clear hcall c0 c1 hqe
   go_wp2_with fail
   have hb1:=Lh (hb.alloc hb.size (.cells #[.func (.func cf) first cap,.int .i64 ee] 83))
   refine(HCALL.out _ hb1.out).mono ?_
   rintro e w1 ⟨rfl,hb2⟩
   have hd1:w1.cell? ⟨wr.heap.size,1,none⟩=some (.int .i64 ee):=(hb2.cell (p:=⟨wr.heap.size,1,none⟩) (by simp)).trans (cell_alloc_new _ _ _ _)
   have hb3:=Lh (show Below w.heap.size w w1 from hb1.out.trans (hb2.mono (by have:=hb1.out.size;exact this)))
   clear hb2 hb1 hc0 hc1 hent HCALL
   cases ans
   ·have hfin:=Lh (HA.out k hkl hall.out (by rw [←HQE.out]))
    rw [←HQE.out]at hfin
    go_wp2
    go_ret
    exact⟨by rw [hfin.out];rfl,hb3.out⟩
   ·have hall2:Hid (∀j (hj:j < qs.length),j < k+1→qs[j].ans=true):=Lh fun j hj hjk=>by
     rcases Nat.lt_or_ge j k with h | h
     ·exact hall.out j hj h
     ·obtain rfl:j=k:=by omega
      rw [←HQE.out]
    go_wp2
    go_roundw
    case rel=>exact⟨k+1,by omega,by go_num,hall2,hb3.out⟩
    case measure=>simp [_root_.Go.RowKit.intOf];omega
  ·obtain rfl:k=n:=by omega
   have hfin:=Lh (HE.out (fun j hj=>hall.out j hj (by omega)))
   go_wp2
   go_ret
   exact⟨by rw [hfin.out];rfl,hb⟩
theorem asked_at (qs:List Ask) (n g:Nat) (W:World) (hn:qs.length=n) (hm:n≤100) (hg:W.heap.size=g) (hq:Asks W qs):
  Calls Tryz.prog 28 #[.slice (some ⟨g,0,none⟩) n n] (W.alloc (.cells (askCells qs).toArray 83)) fun e w'=>e= .returned (.int .i64 (askE qs))∧Below W.heap.size W w':=by
 subst hg
 refine(asked_any qs W.heap.size n n _ hn hm (Row.new W _ _) fun k hk hall=>⟨(hq k hk hall).1,fun V hV=>(hq k hk hall).2 V ((below1 _ _).trans (hV.mono (by simp)))⟩).mono fun e w' ⟨e1,e2⟩=>⟨e1,(below1 _ _).trans (e2.mono (by simp))⟩
theorem at1_any (g:Nat) (x:Bool) (w:World) (h:w.cell? ⟨g,0,none⟩=some (.bool x)):Calls Tryz.prog 29 #[.pointer (some ⟨g,0,none⟩)] w fun e w'=>e= .returned (.bool x)∧Below w.heap.size w w':=by
 go_enter Tryz.func29,Tryz.ntmps29
 go_wp2
 go_ret
 exact⟨rfl,Br⟩
theorem at2_any (g p:Nat) (f k m s c i:Int) (w:World) (h:Row w g 78 [.int .u32 f,.int .i64 k,.int .i64 m]) (hp:Row w p 37 [.int .i64 s,.int .i64 c,.int .i64 i]):Calls Tryz.prog 30 #[.pointer (some ⟨g,0,none⟩),.pointer (some ⟨p,0,none⟩)] w fun e w'=>e= .returned (.bool (isB i m))∧Below w.heap.size w w':=by
 have h1:=Lh (has_any f k m i w)
 have c0:w.cell? ⟨g,0,none⟩=_:=h.cell 0
 have c1:w.cell? ⟨g,1,none⟩=_:=h.cell 1
 have c2:w.cell? ⟨g,2,none⟩=_:=h.cell 2
 have c3:w.cell? ⟨p,2,none⟩=_:=hp.cell 2
 obtain⟨b,hb⟩:=Nm (isB i m)
 rw [←hb]at h1 ⊢
 clear hb h hp
 go_enter Tryz.func30,Tryz.ntmps30
 go_wp2_with fail
 refine h1.out.mono ?_
 rintro e w1 ⟨rfl,hb1⟩
 go_wp2
 go_ret
 exact⟨rfl,hb1⟩
def payR (s c:Int):Int × Int × Int × Bool:=if isB s 4=true∧isB c 8=true then((256*(4096*s.toNat+4097+17*c.toNat)+16:Nat),(pay c.toNat+32:Nat),(cnt c.toNat:Nat),true) else(0,0,0,false)
theorem payloads_any (s c:Int) (w:World) (hT:Tabs w):Calls Tryz.prog 27 #[.int .i64 s,.int .i64 c] w fun e w'=>e= .returned (.tuple #[roV (payR s c).1 (payR s c).2.1 (payR s c).2.2.1,.bool (payR s c).2.2.2])∧Below w.heap.size w w':=by
 unfold payR
 by_cases h:isB s 4=true∧isB c 8=true
 ·rw [if_pos h]
  obtain⟨s,rfl,hs⟩:=isB_nat h.1
  obtain⟨c,rfl,hc⟩:=isB_nat h.2
  simp only [Int.toNat_natCast]
  exact payloads_yes s c w hT hs hc
 ·rw [if_neg h]
  refine payloads_no s c w ?_
  rcases h1:isB s 4 with _ | _
  ·exact .inl rfl
  ·rcases h2:isB c 8 with _ | _
   ·exact .inr rfl
   ·exact absurd ⟨h1,h2⟩ h
def atL (s g p:Nat) (x y:Bool):List Ask:= [⟨29,#[],#[.pointer (some ⟨g,0,none⟩)],2,x⟩,⟨30,#[],#[.pointer (some ⟨s,0,none⟩),.pointer (some ⟨p,0,none⟩)],4,y⟩]
theorem at_asks {W:World} {s g p:Nat} {f k m a c i:Int} {x:Bool} (h1:W.cell? ⟨g,0,none⟩=some (.bool x)) (h2:Row W s 78 [.int .u32 f,.int .i64 k,.int .i64 m]) (h3:Row W p 37 [.int .i64 a,.int .i64 c,.int .i64 i]):Asks W (atL s g p x (isB i m)):=by
 intro q hq hall
 rcases q with _ | _ | q
 ·exact⟨enters_of Tryz.func29 (by kernel_rfl) rfl,fun V hV=>at1_any g x V ((hV.cell (p:=⟨g,0,none⟩) (lt_of_cell h1)).trans h1)⟩
 ·exact⟨enters_of Tryz.func30 (by kernel_rfl) rfl,fun V hV=>at2_any s p f k m a c i V (h2.below hV) (h3.below hV)⟩
 ·simp [atL]at hq
  omega
theorem at_E (a b d:Nat) (s c i:Int):askE (atL a b d (payR s c).2.2.2 (isB i (payR s c).2.2.1))=asksS s c i:=by
 unfold asksS payR
 by_cases h:isB s 4=true∧isB c 8=true
 ·rw [if_pos h,if_pos h]
  simp only [atL,askE,if_true]
  unfold isB
  by_cases h1:i < 0∨((cnt c.toNat:Nat):Int)≤i
  ·rw [if_pos h1,if_neg (by simp;omega)]
  ·rw [if_neg h1,if_pos (by simp;omega)]
 ·rw [if_neg h,if_neg h]
  rfl
theorem at_world {w w1:World} (f k m:Int) (x:Bool) (s c i:Int) (hb:Below (w.heap.size+1) (w.alloc (.cells #[.int .i64 s,.int .i64 c,.int .i64 i] 37)) w1):∃W,W=((w1.alloc (.cells #[.int .u32 f,.int .i64 k,.int .i64 m] 78)).alloc (.cells #[.bool x] 4))∧W.heap.size=w1.heap.size+1+1∧W.cell? ⟨w1.heap.size+1,0,none⟩=some (.bool x)∧Row W w1.heap.size 78 [.int .u32 f,.int .i64 k,.int .i64 m]∧Row W w.heap.size 37 [.int .i64 s,.int .i64 c,.int .i64 i]∧Below w.heap.size w W:=by
 have hs:=hb.size
 have hbw:Below w1.heap.size w1 ((w1.alloc (.cells #[.int .u32 f,.int .i64 k,.int .i64 m] 78)).alloc (.cells #[.bool x] 4)):=(Br.alloc Lr _).alloc (by simp) _
 have r0:Row w1 w.heap.size 37 [.int .i64 s,.int .i64 c,.int .i64 i]:=(Row.new w _ _).below (by rw [World.size_alloc];exact hb)
 refine⟨_,rfl,by simp,?_,(Row.new w1 _ [.int .u32 f,.int .i64 k,.int .i64 m]).below (below1 _ _),r0.below hbw,(below1 w _).trans ((hb.trans (hbw.mono (by simpa using hs))).mono (by omega))⟩
 have rc:Row ((w1.alloc (.cells #[.int .u32 f,.int .i64 k,.int .i64 m] 78)).alloc (.cells #[.bool x] 4)) (w1.heap.size+1) 4 [.bool x]:=Row.new_at _ _ _ (by simp)
 exact rc.cell 0
theorem at_walk (s c i f k m E z:Int) (x:Bool) (w:World) (h1:Calls Tryz.prog 27 #[.int .i64 s,.int .i64 c] (w.alloc (.cells #[.int .i64 s,.int .i64 c,.int .i64 i] 37)) fun e w'=>e= .returned (.tuple #[roV f k m,.bool x])∧Below (w.heap.size+1) (w.alloc (.cells #[.int .i64 s,.int .i64 c,.int .i64 i] 37)) w')
  (hE:∀a b d,askE (atL a b d x (isB i m))=E) (hz:E=0→∀W,Calls Tryz.prog 32 #[roV f k m,.int .i64 i] W fun e w'=>e= .returned (.int .u32 z)∧Below W.heap.size W w'):
  Calls Tryz.prog 8 #[spV s c i] w fun e w'=>e= .returned (.tuple #[.int .u32 (if E=0 then z else 0),.int .i64 E])∧Below w.heap.size w w':=by
 have H1:=Lh h1
 have HW:=Lh (fun w1 hb=>at_world (w:=w) (w1:=w1) f k m x s c i hb)
 have HA:=Lh (fun(W:World) (s' g p g':Nat) (hg:W.heap.size=g') (a1:W.cell? ⟨g,0,none⟩=some (.bool x)) (a2:Row W s' 78 [.int .u32 f,.int .i64 k,.int .i64 m]) (a3:Row W p 37 [.int .i64 s,.int .i64 c,.int .i64 i])=>(asked_at (atL s' g p x (isB i m)) 2 g' W rfl (by omega) hg (at_asks a1 a2 a3)).mono fun e w' ⟨e1,e2⟩=>(show e=Ending.returned (.int .i64 E)∧Below W.heap.size W w' from⟨by rw [e1,hE],e2⟩))
 have HZ:=Lh hz
 simp only [atL,askCells,Ask.val,List.flatMap_cons,List.flatMap_nil,List.append_nil,List.cons_append,List.nil_append]at HA
 clear h1 hE hz
 obtain⟨Z,hZ⟩:=Nm (if E=0 then z else 0)
 rw [←hZ]
 go_enter Tryz.func8,Tryz.ntmps8
 go_wp2_with fail
 refine wp_scope_jump 1 fun R hR hJm=> ?_
 go_wp2_with fail
 refine H1.out.mono ?_
 rintro e w1 ⟨rfl,hb1⟩
 obtain⟨W,hW,hs,hx,hr,hp,hB⟩:=HW.out _ hb1
 have HS:=Lh (show W.heap.size=w1.heap.size+1+1 from hs)
 have HX:=Lh hx
 have HR:=Lh hr
 have HP:=Lh hp
 have HB:=Lh hB
 have HWE:=Lh hW
 clear hW hs hx hr hp hB hb1 H1 HW
 go_wp2_with fail
 rw [<- HWE.out]
 refine(HA.out W w1.heap.size (w1.heap.size+1) w.heap.size _ HS.out HX.out HR.out HP.out).mono ?_
 rintro e W2 ⟨rfl,hb2⟩
 have hr2:=HR.out.below hb2
 have hp2:=HP.out.below hb2
 have HB2:=Lh (below0 HB.out hb2)
 have c0:=hr2.cell 0
 have c1:=hr2.cell 1
 have c2:=hr2.cell 2
 have c3:=hp2.cell 2
 clear hr2 hp2 hb2 HA HR HP HB HX HWE
 by_cases h0:E=0
 ·subst h0
  rw [if_pos rfl]at hZ
  subst hZ
  have HZ2:=Lh (HZ.out rfl)
  clear HZ
  go_wp2_with fail
  refine(HZ2.out _).mono ?_
  rintro e W3 ⟨rfl,hb3⟩
  have HB3:=Lh (below0 HB2.out hb3)
  clear hb3
  go_wp2
  refine hR.out _ _ _ _ (by simp) ?_
  exact bodyPost_ret (v:= .tuple #[.int .u32 Z,.int .i64 0]) (by simp [results,Tryz.results8,go_sem]) rfl ⟨rfl,HB3.out⟩
 ·rw [if_neg h0]at hZ
  subst hZ
  have e0:(E == 0)=false:=by rw [beq_eq_false_iff_ne];exact h0
  go_wp2_with fail
  refine wp_goto (hJm.out _ _ _ _ _ rfl ?_)
  go_wp2
  refine hR.out _ _ _ _ (by simp) ?_
  exact bodyPost_ret (v:= .tuple #[.int .u32 0,.int .i64 E]) (by simp [results,Tryz.results8,go_sem]) rfl ⟨rfl,HB2.out⟩
theorem wrapU (a:Int) (h:0≤a) (h2:a < 4294967296):IntKind.u32.wrap a=a:=by rw [IntKind.wrap_u32];omega
theorem at_yes {s c i:Nat} (w:World) (hT:Tabs w) (h:okS s c i):Calls Tryz.prog 8 #[spV (s:Int) (c:Int) (i:Int)] w fun e w'=>e= .returned (.tuple #[.int .u32 (atS s c i:Int),.int .i64 0])∧Below w.heap.size w w':=by
 obtain⟨hs,hc,hi⟩:=h
 have hl:=off_lt hc hi
 have hcn:=cnt_le hc
 have hpb:=pay_bound hc
 have hE:askE (atL 0 0 0 true (isB (i:Int) ((cnt c:Nat):Int)))=0:=by
  rw [isB_yes hi]
  rfl
 have hik:i*(pay c+32)≤4096:=by omega
 refine(at_walk (s:Int) (c:Int) (i:Int) _ _ _ 0 (atS s c i:Int) true w ((payloads_yes s c _ (hT.below (below1 _ _)) hs hc).mono fun e w' ⟨e1,e2⟩=>⟨e1,by rw [World.size_alloc]at e2;exact e2⟩) (fun a b d=>hE) fun _ W=>at_any _ _ _ _ (i*(pay c+32):Nat) (i*(pay c+32):Nat) _ W ?_ ?_ ?_).mono fun e w' ⟨e1,e2⟩=>⟨by rw [e1,if_pos rfl],e2⟩
 ·rw [wrapI _ (by rw [←Int.natCast_mul];omega) (by rw [←Int.natCast_mul];omega),Int.natCast_mul]
 ·exact wrapU _ (by omega) (by omega)
 ·rw [←Int.natCast_add,wrapU _ (by omega) (by omega)]
  unfold atS
  congr 1
  omega
theorem at_no {s c i:Int} (w:World) (hT:Tabs w) (h:asksS s c i≠0):Calls Tryz.prog 8 #[spV s c i] w fun e w'=>e= .returned (.tuple #[.int .u32 0,.int .i64 (asksS s c i)])∧Below w.heap.size w w':=
 (at_walk s c i _ _ _ (asksS s c i) 0 _ w ((payloads_any s c _ (hT.below (below1 _ _))).mono fun e w' ⟨e1,e2⟩=>⟨e1,by rw [World.size_alloc]at e2;exact e2⟩) (fun a b d=>at_E a b d s c i) fun e=>absurd e h).mono fun e w' ⟨e1,e2⟩=>⟨by rw [e1,if_neg h],e2⟩
end Go.Proofs.YtfcfbcjiijfjgaaGreatDoor.Me
namespace Go.Proofs.YtfcfbcjiijfjgaaGreatDoor.Me
open Go.RowKit Go.Shelf
attribute [local go_sem] Oper.semAt_some
structure Prt where
 wd:Nat
 mo:Nat
 tf:Nat
 sf:Nat
def Prt.cells (p:Prt):List Value:= [.int .i64 (p.wd:Int),.int .i64 (p.mo:Int),.func (.func p.tf) #[] #[],.func (.func p.sf) #[] #[]]
abbrev paV (a b:Int) (c d:Nat):Value:= .agg #[.int .i64 a,.int .i64 b,.func (.func c) #[] #[],.func (.func d) #[] #[]]
def Prt.val (p:Prt):Value:=paV (p.wd:Int) (p.mo:Int) p.tf p.sf
def prtCells (l:List Prt):List Value:=l.flatMap Prt.cells
theorem prt_cell:∀(l:List Prt) (k:Nat) (h:k < l.length),(prtCells l)[k*4]?=some (.int .i64 (l[k].wd:Int))∧(prtCells l)[k*4+1]?=some (.int .i64 (l[k].mo:Int))∧(prtCells l)[k*4+2]?=some (.func (.func l[k].tf) #[] #[])∧(prtCells l)[k*4+3]?=some (.func (.func l[k].sf) #[] #[])
 | p :: r,0,_=>⟨rfl,rfl,rfl,rfl⟩
 | p :: r,k+1,h=>by
  have:=prt_cell r k (by simpa using h)
  rw [show(k+1)*4=k*4+1+1+1+1 by omega]
  exact this
def frm:List Prt→Nat→Nat
 | [],_=>0
 | _ :: _,0=>0
 | p :: r,k+1=>p.wd+frm r k
theorem frm_zero (l:List Prt):frm l 0=0:=by cases l <;> rfl
theorem frm_step:∀(l:List Prt) (k:Nat) (h:k < l.length),frm l (k+1)=frm l k+l[k].wd
 | p :: r,0,_=>by
  show p.wd+frm r 0=0+p.wd
  rw [frm_zero]
  omega
 | p :: r,k+1,h=>by
  rw [frm,frm_step r k (by simpa using h),frm]
  simp only [List.getElem_cons_succ]
  omega
structure Pls (w:World) (bo g n:Nat) (l:List Prt) (t:TypeId) (c:Nat):Prop where
 cs:w.cell? ⟨bo,0,none⟩=some (.slice (some ⟨g,0,none⟩) n c)
 row:Row w g t (prtCells l)
def pvL (bo g:Nat) (k:Nat):Prop:=k=bo∨k=g
section
variable {w w':World} {bo g n c:Nat} {l:List Prt} {t:TypeId}
theorem Pls.same (h:Pls w bo g n l t c) (hp:∀k,pvL bo g k→w'.heap[k]?=w.heap[k]?):Pls w' bo g n l t c:=⟨(World.cell?_of_block (hp bo (.inl rfl))).trans h.cs,h.row.same (hp g (.inr rfl))⟩
theorem Pls.lt (h:Pls w bo g n l t c):∀k,pvL bo g k→k < w.heap.size:=by
 rintro k (rfl | rfl)
 ·exact lt_of_cell h.cs
 ·exact h.row.lt
theorem Pls.at_ (h:Pls w bo g n l t c) {k:Nat} (hk:k < l.length):w.cell? ⟨g,k*4,none⟩=some (.int .i64 (l[k].wd:Int))∧w.cell? ⟨g,k*4+1,none⟩=some (.int .i64 (l[k].mo:Int))∧w.cell? ⟨g,k*4+2,none⟩=some (.func (.func l[k].tf) #[] #[])∧w.cell? ⟨g,k*4+3,none⟩=some (.func (.func l[k].sf) #[] #[]):=by
 obtain⟨h0,h1,h2,h3⟩:=prt_cell l k hk
 exact⟨(h.row.cell _).trans h0,(h.row.cell _).trans h1,(h.row.cell _).trans h2,(h.row.cell _).trans h3⟩
end
def encP (l:List Prt) (k:Nat):Array Value:= #[.int .i64 (frm l k:Int),(l.getD k ⟨0,0,0,0⟩).val]
theorem encP_at (l:List Prt) {k:Nat} (h:k < l.length):encP l k= #[.int .i64 (frm l k:Int),paV (l[k].wd:Int) (l[k].mo:Int) l[k].tf l[k].sf]:=by
 unfold encP
 rw [List.getD_eq_getElem?_getD,List.getElem?_eq_getElem h]
 rfl
def preP (l:List Prt) (pre:List Nat) (x:Nat) (_:World):Prop:=x=pre.length∧x < l.length
def allP (l:List Prt) (xs:List Nat):Prop:=xs.length=l.length
def someP (_:List Prt) (_:List Nat):Prop:=True
theorem placed_Rec (A:Option Addr) (n c:Nat) (w:World):Calls Tryz.prog 158 #[.slice A n c] w fun e w'=>e= .returned (.func (.func 231) #[] #[.pointer (some ⟨w.heap.size,0,none⟩)])∧w'=w.alloc (.cells #[.slice A n c] 115):=by
 go_enter Tryz.func158,Tryz.ntmps158
 go_wp2
 go_ret
 exact⟨rfl,rfl⟩
theorem placed1_Rec (bo g n c:Nat) (l:List Prt) (t:TypeId) (w0:World) (h:Pls w0 bo g n l t c) (hn:l.length=n) (hm:n≤6) (hc:n≤c) (hf:∀k,k≤n→frm l k≤1000):
  It Tryz.prog 231 #[.pointer (some ⟨bo,0,none⟩)] (encP l) (fun _ _=>False) (preP l) (pvL bo g) (allP l) (someP l) w0:=by
 intro l0 J Jx W hpW hsW hJ hJx hY h0
 refine(callsIn_wide (n:=1)).1 ?_
 have HPW:=Lh hpW
 have HPL:=Lh h.lt
 have HP:=Lh (fun(V:World) (hp:∀k,pvL bo g k→V.heap[k]?=w0.heap[k]?)=>h.same hp)
 have HN:=Lh hn
 have HF:=Lh hf
 have HFS:=Lh (fun k hk=>frm_step l k hk)
 have HENC:=Lh (fun k (hk:k < l.length)=>encP_at l hk)
 have c1:=(h.same hpW).cs
 have HZ:=Lh (frm_zero l)
 clear h hn hpW hf
 refine callsIn_of_wp Tryz.func231 rfl trivial ?_ rfl
 simp only [Tryz.ntmps231,List.size_toArray,List.length_cons,List.length_nil,Nat.reduceAdd,Nat.reduceSub,Array.replicate_succ,Array.replicate_zero,List.push_toArray,List.append_toArray,List.nil_append,List.cons_append]
 gi_wp2_with fail
 gi_loopw [3,8] (fun f t wr=>∃(i F:Nat) (pre:List Nat) (O:Nat→Prop),f= .int .i64 (F:Int)∧t= .int .i64 (i:Int)∧i≤n∧Hid (F=frm l i)∧Hid (pre.length=i)∧J pre O wr∧W.heap.size≤wr.heap.size∧(∀b,O b→W.heap.size≤b∧b < wr.heap.size)∧∀k,pvL bo g k→wr.heap[k]?=w0.heap[k]?) (fun _ t _=>n - (_root_.Go.RowKit.intOf t).toNat)
 case atStart=>exact⟨0,0,[],fun _=>False,rfl,rfl,Nat.zero_le _,Lh HZ.out.symm,Lh rfl,h0,Nat.le_refl _,fun b (h:False)=>h.elim,HPW.out⟩
 case round=>
  obtain⟨i,F,pre,O,rfl,rfl,hin,HFE,HPRE,hj,hws,hO,hpv⟩:=hrel
  by_cases hlt:i < n
  ·have hil:i < l.length:=by rw [HN.out];exact hlt
   have j0:(0:Int)≤(i:Int):=by omega
   have j1:(i:Int) < (n:Int):=by omega
   have j2:decide ((i:Int) < (n:Int))=true:=decide_eq_true j1
   have j3:decide (i < n)=true:=decide_eq_true hlt
   obtain⟨d0,d1,d2,d3⟩:=(HP.out wr hpv).at_ hil
   have HE:=Lh (HENC.out i hil)
   have hfs:=HFS.out i hil
   have hb1:=HF.out (i+1) (by omega)
   rw [←HFE.out]at hfs HE
   obtain⟨p,hp⟩:=Nm (l[i])
   rw [←hp]at d0 d1 d2 d3 HE hfs
   obtain⟨a,b,tf,sf⟩:=p
   simp only at d0 d1 d2 d3 HE hfs
   obtain⟨o,ho⟩:∃o:Obj,o= .cells #[.int .i64 (a:Int),.int .i64 (b:Int),.func (.func tf) #[] #[],.func (.func sf) #[] #[]] 106:=⟨_,rfl⟩
   obtain⟨W1,hW1⟩:=Nm (wr.alloc o)
   have hs1:W1.heap.size=wr.heap.size+1:=by rw [hW1];simp
   have hlow:∀k,k < wr.heap.size→W1.heap[k]?=wr.heap[k]?:=fun k hk=>by rw [hW1];exact Below.heap_alloc _ _ _ hk
   have hrw:Row W1 wr.heap.size 106 [.int .i64 (a:Int),.int .i64 (b:Int),.func (.func tf) #[] #[],.func (.func sf) #[] #[]]:=by rw [hW1,ho];exact Row.new _ _ _
   have hO1:∀b,O b→W.heap.size≤b∧b < W1.heap.size:=fun b hb=>by have:=hO b hb;omega
   have hj1:J pre O W1:=by rw [hW1];exact hJ _ _ _ _ none hj (World.grownBy_alloc wr o none) (fun r e=>by cases e)
   obtain⟨fn,tmps,assign,body,hy,hR⟩:=hY pre i O W1 (by omega) hO1 hj1 ⟨HPRE.out.symm,hil⟩ (fun b (h:False)=>h.elim)
   rw [HE.out]at hy
   have HW1:=Lh (show W1=wr.alloc (.cells #[.int .i64 (a:Int),.int .i64 (b:Int),.func (.func tf) #[] #[],.func (.func sf) #[] #[]] 106) by rw [hW1,ho])
   have a1:IntKind.i64.wrap ((i:Int)+1)=((i+1:Nat):Int):=(wrapI _ (by omega) (by omega)).trans (by omega)
   have hFa:F+a≤1000:=by omega
   have HFA:=Lh hfs
   have HRW:=Lh hrw
   have HC2:Hid (∀W',Keeps (pvL bo g) W.heap.size O (fun _=>False) W1 W'→W'.cell? ⟨wr.heap.size,0,none⟩=some (.int .i64 (a:Int))):=Lh (fun W' hk=>(World.cell?_of_block (hk.same wr.heap.size (by omega) (.inr ⟨hws,fun h=>by have:=hO _ h;omega,fun h=>h⟩))).trans (hrw.cell 0))
   have HPV:Hid (∀W',Keeps (pvL bo g) W.heap.size O (fun _=>False) W1 W'→∀j,pvL bo g j→W'.heap[j]?=w0.heap[j]?):=Lh (fun W' hk j hj=>by
    have hjl:=HPL.out j hj
    exact(hk.same j (by omega) (.inl hj)).trans ((hlow j (by omega)).trans (hpv j hj)))
   have HON:Hid (∀W',Keeps (pvL bo g) W.heap.size O (fun _=>False) W1 W'→∀b,nextO O (fun _=>False) W1 W' b→W.heap.size≤b∧b < W'.heap.size):=Lh (fun W' hk=>nextO_bound hO1 (by omega) hk.size)
   have HWS:Hid (∀W',Keeps (pvL bo g) W.heap.size O (fun _=>False) W1 W'→W.heap.size≤W'.heap.size):=Lh (fun W' hk=>by have:=hk.size;omega)
   have a2:IntKind.i64.wrap ((F:Int)+(a:Int))=((F+a:Nat):Int):=(wrapI _ (by omega) (by omega)).trans (by omega)
   clear hp hfs hb1 HFE hW1 ho hs1 hlow hrw hO1 hj1 hpv hO hj HE
   gi_wp2_with fail
   rw [←HW1.out,hy]
   go_simp
   refine hR.mono ?_
   rintro e W' ⟨hk',(⟨rfl,hj'⟩ | ⟨rfl,hjx⟩)⟩
   ·have e0:=HC2.out W' hk'
    have HPV4:=Lh (HPV.out W' hk')
    have HON4:=Lh (HON.out W' hk')
    have HWS4:=Lh (HWS.out W' hk')
    clear hk' HC2 HPV HON HWS HRW d0 d1 d2 d3 hy hR
    gi_wp2_with fail
    refine⟨⟨i+1,F+a,pre ++ [i],_,rfl,rfl,by omega,Lh HFA.out.symm,Lh (by rw [List.length_append,HPRE.out];rfl),hj',HWS4.out,HON4.out,HPV4.out⟩,?_⟩
    simp [_root_.Go.RowKit.intOf];omega
   ·gi_wp2_with fail
    refine bodyPost_ret (results_none rfl _ _ _) rfl ?_
    exact itEnd.part trivial hjx
  ·obtain rfl:i=n:=by omega
   have j2:decide ((i:Int) < (i:Int))=false:=Df (by omega)
   have HA:=Lh (show allP l pre from HPRE.out.trans HN.out.symm)
   clear HPRE
   gi_wp2_with fail
   go_end0
   exact itEnd.all HA.out hj
theorem placed_Gre (A:Option Addr) (n c:Nat) (w:World):Calls Tryz.prog 209 #[.slice A n c] w fun e w'=>e= .returned (.func (.func 251) #[] #[.pointer (some ⟨w.heap.size,0,none⟩)])∧w'=w.alloc (.cells #[.slice A n c] 126):=by
 go_enter Tryz.func209,Tryz.ntmps209
 go_wp2
 go_ret
 exact⟨rfl,rfl⟩
theorem placed1_Gre (bo g n c:Nat) (l:List Prt) (t:TypeId) (w0:World) (h:Pls w0 bo g n l t c) (hn:l.length=n) (hm:n≤6) (hc:n≤c) (hf:∀k,k≤n→frm l k≤1000):
  It Tryz.prog 251 #[.pointer (some ⟨bo,0,none⟩)] (encP l) (fun _ _=>False) (preP l) (pvL bo g) (allP l) (someP l) w0:=by
 intro l0 J Jx W hpW hsW hJ hJx hY h0
 refine(callsIn_wide (n:=1)).1 ?_
 have HPW:=Lh hpW
 have HPL:=Lh h.lt
 have HP:=Lh (fun(V:World) (hp:∀k,pvL bo g k→V.heap[k]?=w0.heap[k]?)=>h.same hp)
 have HN:=Lh hn
 have HF:=Lh hf
 have HFS:=Lh (fun k hk=>frm_step l k hk)
 have HENC:=Lh (fun k (hk:k < l.length)=>encP_at l hk)
 have c1:=(h.same hpW).cs
 have HZ:=Lh (frm_zero l)
 clear h hn hpW hf
 refine callsIn_of_wp Tryz.func251 rfl trivial ?_ rfl
 simp only [Tryz.ntmps251,List.size_toArray,List.length_cons,List.length_nil,Nat.reduceAdd,Nat.reduceSub,Array.replicate_succ,Array.replicate_zero,List.push_toArray,List.append_toArray,List.nil_append,List.cons_append]
 gi_wp2_with fail
 gi_loopw [3,8] (fun f t wr=>∃(i F:Nat) (pre:List Nat) (O:Nat→Prop),f= .int .i64 (F:Int)∧t= .int .i64 (i:Int)∧i≤n∧Hid (F=frm l i)∧Hid (pre.length=i)∧J pre O wr∧W.heap.size≤wr.heap.size∧(∀b,O b→W.heap.size≤b∧b < wr.heap.size)∧∀k,pvL bo g k→wr.heap[k]?=w0.heap[k]?) (fun _ t _=>n - (_root_.Go.RowKit.intOf t).toNat)
 case atStart=>exact⟨0,0,[],fun _=>False,rfl,rfl,Nat.zero_le _,Lh HZ.out.symm,Lh rfl,h0,Nat.le_refl _,fun b (h:False)=>h.elim,HPW.out⟩
 case round=>
  obtain⟨i,F,pre,O,rfl,rfl,hin,HFE,HPRE,hj,hws,hO,hpv⟩:=hrel
  by_cases hlt:i < n
  ·have hil:i < l.length:=by rw [HN.out];exact hlt
   have j0:(0:Int)≤(i:Int):=by omega
   have j1:(i:Int) < (n:Int):=by omega
   have j2:decide ((i:Int) < (n:Int))=true:=decide_eq_true j1
   have j3:decide (i < n)=true:=decide_eq_true hlt
   obtain⟨d0,d1,d2,d3⟩:=(HP.out wr hpv).at_ hil
   have HE:=Lh (HENC.out i hil)
   have hfs:=HFS.out i hil
   have hb1:=HF.out (i+1) (by omega)
   rw [←HFE.out]at hfs HE
   obtain⟨p,hp⟩:=Nm (l[i])
   rw [←hp]at d0 d1 d2 d3 HE hfs
   obtain⟨a,b,tf,sf⟩:=p
   simp only at d0 d1 d2 d3 HE hfs
   obtain⟨o,ho⟩:∃o:Obj,o= .cells #[.int .i64 (a:Int),.int .i64 (b:Int),.func (.func tf) #[] #[],.func (.func sf) #[] #[]] 121:=⟨_,rfl⟩
   obtain⟨W1,hW1⟩:=Nm (wr.alloc o)
   have hs1:W1.heap.size=wr.heap.size+1:=by rw [hW1];simp
   have hlow:∀k,k < wr.heap.size→W1.heap[k]?=wr.heap[k]?:=fun k hk=>by rw [hW1];exact Below.heap_alloc _ _ _ hk
   have hrw:Row W1 wr.heap.size 121 [.int .i64 (a:Int),.int .i64 (b:Int),.func (.func tf) #[] #[],.func (.func sf) #[] #[]]:=by rw [hW1,ho];exact Row.new _ _ _
   have hO1:∀b,O b→W.heap.size≤b∧b < W1.heap.size:=fun b hb=>by have:=hO b hb;omega
   have hj1:J pre O W1:=by rw [hW1];exact hJ _ _ _ _ none hj (World.grownBy_alloc wr o none) (fun r e=>by cases e)
   obtain⟨fn,tmps,assign,body,hy,hR⟩:=hY pre i O W1 (by omega) hO1 hj1 ⟨HPRE.out.symm,hil⟩ (fun b (h:False)=>h.elim)
   rw [HE.out]at hy
   have HW1:=Lh (show W1=wr.alloc (.cells #[.int .i64 (a:Int),.int .i64 (b:Int),.func (.func tf) #[] #[],.func (.func sf) #[] #[]] 121) by rw [hW1,ho])
   have a1:IntKind.i64.wrap ((i:Int)+1)=((i+1:Nat):Int):=(wrapI _ (by omega) (by omega)).trans (by omega)
   have hFa:F+a≤1000:=by omega
   have HFA:=Lh hfs
   have HRW:=Lh hrw
   have HC2:Hid (∀W',Keeps (pvL bo g) W.heap.size O (fun _=>False) W1 W'→W'.cell? ⟨wr.heap.size,0,none⟩=some (.int .i64 (a:Int))):=Lh (fun W' hk=>(World.cell?_of_block (hk.same wr.heap.size (by omega) (.inr ⟨hws,fun h=>by have:=hO _ h;omega,fun h=>h⟩))).trans (hrw.cell 0))
   have HPV:Hid (∀W',Keeps (pvL bo g) W.heap.size O (fun _=>False) W1 W'→∀j,pvL bo g j→W'.heap[j]?=w0.heap[j]?):=Lh (fun W' hk j hj=>by
    have hjl:=HPL.out j hj
    exact(hk.same j (by omega) (.inl hj)).trans ((hlow j (by omega)).trans (hpv j hj)))
   have HON:Hid (∀W',Keeps (pvL bo g) W.heap.size O (fun _=>False) W1 W'→∀b,nextO O (fun _=>False) W1 W' b→W.heap.size≤b∧b < W'.heap.size):=Lh (fun W' hk=>nextO_bound hO1 (by omega) hk.size)
   have HWS:Hid (∀W',Keeps (pvL bo g) W.heap.size O (fun _=>False) W1 W'→W.heap.size≤W'.heap.size):=Lh (fun W' hk=>by have:=hk.size;omega)
   have a2:IntKind.i64.wrap ((F:Int)+(a:Int))=((F+a:Nat):Int):=(wrapI _ (by omega) (by omega)).trans (by omega)
   clear hp hfs hb1 HFE hW1 ho hs1 hlow hrw hO1 hj1 hpv hO hj HE
   gi_wp2_with fail
   rw [←HW1.out,hy]
   go_simp
   refine hR.mono ?_
   rintro e W' ⟨hk',(⟨rfl,hj'⟩ | ⟨rfl,hjx⟩)⟩
   ·have e0:=HC2.out W' hk'
    have HPV4:=Lh (HPV.out W' hk')
    have HON4:=Lh (HON.out W' hk')
    have HWS4:=Lh (HWS.out W' hk')
    clear hk' HC2 HPV HON HWS HRW d0 d1 d2 d3 hy hR
    gi_wp2_with fail
    refine⟨⟨i+1,F+a,pre ++ [i],_,rfl,rfl,by omega,Lh HFA.out.symm,Lh (by rw [List.length_append,HPRE.out];rfl),hj',HWS4.out,HON4.out,HPV4.out⟩,?_⟩
    simp [_root_.Go.RowKit.intOf];omega
   ·gi_wp2_with fail
    refine bodyPost_ret (results_none rfl _ _ _) rfl ?_
    exact itEnd.part trivial hjx
  ·obtain rfl:i=n:=by omega
   have j2:decide ((i:Int) < (i:Int))=false:=Df (by omega)
   have HA:=Lh (show allP l pre from HPRE.out.trans HN.out.symm)
   clear HPRE
   gi_wp2_with fail
   go_end0
   exact itEnd.all HA.out hj
end Go.Proofs.YtfcfbcjiijfjgaaGreatDoor.Me
namespace Go.Proofs.YtfcfbcjiijfjgaaGreatDoor.Vm
open Go.RowKit Go.Shelf Go.Maps Go.Sort
attribute [local go_sem] Oper.semAt_some
structure MRep (w:World) (b t q:Nat) (l:Pg.Tb) (p:Pl) (F1 F2:Nat→Prop):Prop where
 obj:Row w b 102 [bx t,bx q]
 tab:Pg.Has w t l F1
 pool:Has w q p F2
 apart:∀k,F1 k→¬F2 k
 b1:¬F1 b
 b2:¬F2 b
section
variable {w w':World} {b t q:Nat} {l:Pg.Tb} {p:Pl} {F1 F2:Nat→Prop}
theorem MRep.c0 (h:MRep w b t q l p F1 F2):w.cell? ⟨b,0,none⟩=some (bx t):=h.obj.cell 0
theorem MRep.c1 (h:MRep w b t q l p F1 F2):w.cell? ⟨b,1,none⟩=some (bx q):=h.obj.cell 1
theorem MRep.below (h:MRep w b t q l p F1 F2) (hb:Below w.heap.size w w'):MRep w' b t q l p F1 F2:=
 ⟨h.obj.below hb,h.tab.below hb,h.pool.below hb,h.apart,h.b1,h.b2⟩
end
def ownsB (o:Int):Bool:=decide (-1≤o) && decide (o < 64)
theorem owns_any (o:Int) (w:World):Calls Tryz.prog 122 #[.int .i64 o] w fun e w'=>e= .returned (.bool (ownsB o))∧w=w':=by
 unfold ownsB
 go_enter Tryz.func122,Tryz.ntmps122
 by_cases h0: -1≤o
 ·have e0:decide (-1≤o)=true:=decide_eq_true h0
  obtain⟨q,hq⟩:=Nm (decide (o < 64))
  rw [←hq]
  go_wp2
  go_ret
  exact⟨by simp [hq,h0],rfl⟩
 ·have e0:decide (-1≤o)=false:=decide_eq_false h0
  go_wp2
  go_ret
  exact⟨by simp,rfl⟩
theorem pays_any (o:Int) (w:World):Calls Tryz.prog 123 #[.int .i64 o] w fun e w'=>e= .returned (.bool (ownerB o))∧w=w':=by
 unfold ownerB
 go_enter Tryz.func123,Tryz.ntmps123
 by_cases h0:0≤o
 ·have e0:decide (0≤o)=true:=decide_eq_true h0
  obtain⟨q,hq⟩:=Nm (decide (o < 64))
  rw [←hq]
  go_wp2
  go_ret
  exact⟨by simp [hq,h0],rfl⟩
 ·have e0:decide (0≤o)=false:=decide_eq_false h0
  go_wp2
  go_ret
  exact⟨by simp,rfl⟩
theorem allowed_any (o:Int) (w:World):Calls Tryz.prog 124 #[.int .i64 o] w fun e w'=>e= .returned (.bool (Pg.mayB o))∧w=w':=by
 unfold Pg.mayB
 go_enter Tryz.func124,Tryz.ntmps124
 by_cases h0:0≤o
 ·have e0:decide (0≤o)=true:=decide_eq_true h0
  obtain⟨q,hq⟩:=Nm (decide (o≤2))
  rw [←hq]
  go_wp2
  go_ret
  exact⟨by simp [hq,h0],rfl⟩
 ·have e0:decide (0≤o)=false:=decide_eq_false h0
  go_wp2
  go_ret
  exact⟨by simp,rfl⟩
theorem known_any (z:Int) (w:World):Calls Tryz.prog 126 #[.int .i64 z] w fun e w'=>e= .returned (.bool (Pg.pageB z))∧w=w':=by
 unfold Pg.pageB
 go_enter Tryz.func126,Tryz.ntmps126
 by_cases h0:0≤z
 ·have e0:decide (0≤z)=true:=decide_eq_true h0
  obtain⟨q,hq⟩:=Nm (decide (z < 65536))
  rw [←hq]
  go_wp2
  go_ret
  exact⟨by simp [hq,h0],rfl⟩
 ·have e0:decide (0≤z)=false:=decide_eq_false h0
  go_wp2
  go_ret
  exact⟨by simp,rfl⟩
theorem there_any (b q:Nat) (w:World) (hc:w.cell? ⟨b,1,none⟩=some (bx q)):Calls Tryz.prog 89 #[bx b] w fun e w'=>e= .returned (.bool true)∧w=w':=by
 go_enter Tryz.func89,Tryz.ntmps89
 go_wp2
 go_ret
 exact⟨rfl,rfl⟩
theorem frames_any (b q:Nat) (w:World) (hc:w.cell? ⟨b,1,none⟩=some (bx q)):Calls Tryz.prog 41 #[bx b] w fun e w'=>e= .returned (bx q)∧w=w':=by
 have h1:=Lh (there_any b q w hc)
 go_enter Tryz.func41,Tryz.ntmps41
 go_wp2_with fail
 refine h1.out.mono ?_
 rintro e _ ⟨rfl,rfl⟩
 go_wp2
 go_ret
 exact⟨rfl,rfl⟩
theorem entries_any (b t q:Nat) (w:World) (h0:w.cell? ⟨b,0,none⟩=some (bx t)) (hc:w.cell? ⟨b,1,none⟩=some (bx q)):Calls Tryz.prog 132 #[bx b] w fun e w'=>e= .returned (bx t)∧w=w':=by
 have h1:=Lh (there_any b q w hc)
 go_enter Tryz.func132,Tryz.ntmps132
 go_wp2_with fail
 refine h1.out.mono ?_
 rintro e _ ⟨rfl,rfl⟩
 go_wp2
 go_ret
 exact⟨rfl,rfl⟩
theorem get_any {w:World} {t:Nat} {l:Pg.Tb} {F:Nat→Prop} (h:Pg.Has w t l F) (z:Int) (hz:Pg.I64 z):Calls Tryz.prog 182 #[bx t,.int .i64 z] w fun e w'=>e= .returned (.tuple #[Pg.enV (Pg.getX l z),.bool (Pg.look l z).isSome])∧Below w.heap.size w w':=by
 obtain⟨bp,bf,hr,_⟩:=h
 exact Pg.get_any hr z hz
theorem mapped_any {w:World} {t:Nat} {l:Pg.Tb} {F:Nat→Prop} (h:Pg.Has w t l F) (z:Int) (hz:Pg.I64 z):Calls Tryz.prog 128 #[.agg #[bx t],.int .i64 z] w fun e w'=>e= .returned (.bool (Pg.look l z).isSome)∧Below w.heap.size w w':=by
 have hb:=Lh (below1 w (.cells #[bx t] 100))
 have h1:=Lh (get_any (h.below hb.out) z hz)
 obtain⟨s,hs⟩:=Nm ((Pg.look l z).isSome)
 obtain⟨⟨a1,a2,a3⟩,ha⟩:∃a,a=Pg.getX l z:=⟨_,rfl⟩
 rw [←hs,←ha]at h1
 rw [←hs]
 clear hs ha h
 go_enter Tryz.func128,Tryz.ntmps128
 go_wp2_with fail
 refine h1.out.mono ?_
 rintro e w1 ⟨rfl,hb1⟩
 have HB:=Lh (below0 hb.out hb1)
 clear hb1
 simp only [Pg.enV,Pg.enC]
 go_wp2_with fail
 go_ret
 exact⟨rfl,HB.out.alloc HB.out.size _⟩
theorem framed_any {w:World} {t:Nat} {l:Pg.Tb} {F:Nat→Prop} (h:Pg.Has w t l F) (z:Int) (hz:Pg.I64 z):Calls Tryz.prog 237 #[.agg #[bx t],.int .i64 z] w fun e w'=>e= .returned (.int .i64 (Pg.getX l z).2.2)∧Below w.heap.size w w':=by
 have hb:=Lh (below1 w (.cells #[bx t] 100))
 have h1:=Lh (get_any (h.below hb.out) z hz)
 obtain⟨s,hs⟩:=Nm ((Pg.look l z).isSome)
 obtain⟨⟨a1,a2,a3⟩,ha⟩:∃a,a=Pg.getX l z:=⟨_,rfl⟩
 rw [←hs,←ha]at h1
 rw [←ha]
 clear hs ha h
 simp only
 go_enter Tryz.func237,Tryz.ntmps237
 go_wp2_with fail
 refine h1.out.mono ?_
 rintro e w1 ⟨rfl,hb1⟩
 have HB:=Lh (below0 hb.out hb1)
 clear hb1
 simp only [Pg.enV,Pg.enC]
 go_wp2_with fail
 go_ret
 exact⟨rfl,HB.out.alloc HB.out.size _⟩
def pts (a n:Nat):List (Nat × Nat × Nat):=if n=0 then [] else(a / 256,a % 256,min n (256 - a % 256)) :: pts (a+min n (256 - a % 256)) (n - min n (256 - a % 256))
termination_by n
decreasing_by omega
theorem pts_zero (a:Nat):pts a 0= []:=by rw [pts];rfl
theorem pts_pos {a n:Nat} (h:0 < n):pts a n=(a / 256,a % 256,min n (256 - a % 256)) :: pts (a+min n (256 - a % 256)) (n - min n (256 - a % 256)):=by
 rw [pts,if_neg (by omega)]
def enc3 (x:Nat × Nat × Nat):Value:= .agg #[.int .i64 (x.1:Int),.int .i64 (x.2.1:Int),.int .i64 (x.2.2:Int)]
def encX (x:Nat × Nat × Nat):Array Value:= #[enc3 x]
def preX (a n:Nat) (pre:List (Nat × Nat × Nat)) (x:Nat × Nat × Nat) (_:World):Prop:=∃post,pts a n=pre ++ x :: post
def allX (a n:Nat) (xs:List (Nat × Nat × Nat)):Prop:=xs=pts a n
def someX (a n:Nat) (xs:List (Nat × Nat × Nat)):Prop:=∃post,pts a n=xs ++ post
abbrev rc2 (a n:Nat):List Value:= [.int .u32 (a:Int),.int .i64 (n:Int)]
theorem nextO_bound {O M:Nat→Prop} {B:Nat} {W W':World} (hO:∀b,O b→B≤b∧b < W.heap.size) (hB:B≤W.heap.size) (hs:W.heap.size≤W'.heap.size) (hM:∀b,M b→B≤b∧b < W.heap.size:=by exact fun _ h=>h.elim):
  ∀b,nextO O M W W' b→B≤b∧b < W'.heap.size:=by
 rintro b (h | h | h)
 ·have:=hO b h;omega
 ·have:=hM b h;omega
 ·omega
theorem parts1_it (a n g:Nat) (w0:World) (han:a+n≤16777216) (hr:Row w0 g 245 (rc2 a n)):It Tryz.prog 261 #[bx g] encX (fun _ _=>False) (preX a n) (· =g) (allX a n) (someX a n) w0:=by
 intro l J Jx W hpW hsW hJ hJx hY h0
 have hrW:Row W g 245 (rc2 a n):=hr.same (hpW _ rfl)
 have mixed:Tryz.prog.follows .mixedOrders=true:=by kernel_rfl
 have c0:W.cell? ⟨g,0,none⟩=some (.int .u32 (a:Int)):=hrW.cell 0
 have c1:W.cell? ⟨g,1,none⟩=some (.int .i64 (n:Int)):=hrW.cell 1
 have ew:IntKind.i64.wrap ((a:Nat):Int)=(a:Int):=wrapI _ (by omega) (by omega)
 refine(callsIn_wide (n:=1)).1 ?_
 refine callsIn_of_wp Tryz.func261 rfl trivial ?_ rfl
 simp only [Tryz.ntmps261,List.size_toArray,List.length_cons,List.length_nil,Nat.reduceAdd,Nat.reduceSub,Array.replicate_succ,Array.replicate_zero,List.push_toArray,List.append_toArray,List.nil_append,List.cons_append]
 gi_wp2_with fail
 refine wpIn_wide.2 ?_
 go_quiet (fail)
 obtain⟨W1,hW1⟩:=Nm (W.drewN nq)
 have hbW:Below W.heap.size W W1:=by rw [hW1];exact below_drewN Br nq
 have h1:J [] (fun _=>False) W1:=hJ _ _ _ _ none h0 ⟨hbW.os,hbW.tape,hbW.output,hbW.size,fun k hk _=>hbW.block k hk⟩ (fun r e=>by cases e)
 have hr1:=hrW.below hbW
 have hs1:=hbW.size
 rw [←hW1]
 clear hW1 hbW h0 c0 c1 ew hrW
 gi_wp2_with fail
 gi_loopw [3,4] (fun t3 t4 wr=>∃(at_ left:Nat) (pre:List (Nat × Nat × Nat)) (O:Nat→Prop),t3= .int .i64 (at_:Int)∧t4= .int .i64 (left:Int)∧at_+left=a+n∧Hid (pts a n=pre ++ pts at_ left)∧J pre O wr∧W.heap.size≤wr.heap.size∧(∀b,O b→W.heap.size≤b∧b < wr.heap.size)∧Row wr g 245 (rc2 a n)) (fun _ t4 _=>(_root_.Go.RowKit.intOf t4).toNat)
 case atStart=>exact⟨a,n,[],fun _=>False,rfl,rfl,rfl,Lh rfl,h1,hs1,fun b (h:False)=>h.elim,hr1⟩
 case round=>
  clear h1 hr1 hs1
  obtain⟨at_,left,pre,O,rfl,rfl,hal,Hpre,hj,hws,hO,hrow⟩:=hrel
  by_cases hlt:0 < left
  ·have j1:decide ((0:Int) < (left:Int))=true:=Dt (by omega)
   obtain⟨pg,hpg⟩:=Nm (at_ / 256)
   obtain⟨pl,hpl⟩:=Nm (at_ % 256)
   obtain⟨r,hr9⟩:=Nm (256 - pl)
   obtain⟨k,hk⟩:=Nm (min left r)
   have d1:IntKind.i64.wrap ((at_:Int).tdiv 256)=(pg:Int):=by
    rw [show(at_:Int).tdiv 256=((at_ / 256:Nat):Int) from rfl,←hpg]
    exact wrapI _ (by omega) (by omega)
   have d2:IntKind.i64.wrap ((at_:Int).tmod 256)=(pl:Int):=by
    rw [show(at_:Int).tmod 256=((at_ % 256:Nat):Int) from rfl,←hpl]
    exact wrapI _ (by omega) (by omega)
   have d3:IntKind.i64.wrap (256 - (pl:Int))=(r:Int):=by
    rw [wrapI _ (by omega) (by omega)]
    omega
   have m1:min (left:Int) (r:Int)=(k:Int):=by omega
   have d4:IntKind.i64.wrap ((at_:Int)+(k:Int))=((at_+k:Nat):Int):=by
    rw [wrapI _ (by omega) (by omega)]
    omega
   have d5:IntKind.i64.wrap ((left:Int) - (k:Int))=((left - k:Nat):Int):=by
    rw [wrapI _ (by omega) (by omega)]
    omega
   have hstep:=Lh (pts_pos (a:=at_) hlt)
   rw [←hpg,←hpl,←hr9,←hk]at hstep
   have v1:(at_:Int) / 256=(pg:Int):=by omega
   have v2:(at_:Int) % 256=(pl:Int):=by omega
   have v3:(256:Int) - (pl:Int)=(r:Int):=by omega
   have hpgb:pg≤65536:=by omega
   have hplb:pl < 256:=by omega
   have hkp:0 < k:=by omega
   have hkl:k≤left:=by omega
   clear hpg hpl hr9 hk
   have HD4:=Lh d4
   have HD5:=Lh d5
   clear d4 d5
   obtain⟨V1,hV1⟩:=Nm (wr.alloc (.cells #[.int .i64 (pg:Int),.int .i64 (pl:Int),.int .i64 (k:Int)] 295))
   have hbV:Below wr.heap.size wr V1:=by rw [hV1];exact below1 _ _
   have hz1:V1.heap.size=wr.heap.size+1:=by rw [hV1];simp
   have r5:Row V1 wr.heap.size 295 [.int .i64 (pg:Int),.int .i64 (pl:Int),.int .i64 (k:Int)]:=by rw [hV1];exact Row.new wr 295 [.int .i64 (pg:Int),.int .i64 (pl:Int),.int .i64 (k:Int)]
   have hsplit:pts a n=pre ++ (pg,pl,k) :: pts (at_+k) (left - k):=by rw [Hpre.out,hstep.out]
   have HSP:=Lh hsplit
   obtain⟨fn,tmps,assign,body,hy,hR⟩:=hY pre (pg,pl,k) O V1 (by omega) (fun b h=>by have:=hO b h;omega) (hJ _ _ _ _ none hj ⟨hbV.os,hbV.tape,hbV.output,hbV.size,fun k hk _=>hbV.block k hk⟩ (fun r e=>by cases e)) ⟨_,hsplit⟩ (fun b (h:False)=>h.elim)
   have hrow1:=hrow.below hbV
   have hno5:¬O wr.heap.size:=fun h=>by have:=hO _ h;omega
   simp only [encX,enc3]at hy
   have HAL:=Lh hal
   have HKP:=Lh (And.intro hkp hkl)
   clear hsplit hj hrow hstep hkp hkl hal
   gi_wp2_with fail
   rw [←hV1]
   clear hV1
   simp only [hy,Oper.uponIn]
   refine⟨fun _=>Nat.le_refl _,hR.mono ?_⟩
   rintro e W' ⟨hk',(⟨rfl,hj'⟩ | ⟨rfl,hjx⟩)⟩
   ·have r5':=r5.same (hk'.same wr.heap.size (by omega) (.inr ⟨hws,hno5,fun h=>h⟩))
    have c2:W'.cell? ⟨wr.heap.size,2,none⟩=some (.int .i64 (k:Int)):=r5'.cell 2
    have hrow':Row W' g 245 (rc2 a n):=hrow1.same (hk'.same _ hrow1.lt (.inl rfl))
    have hO':=nextO_bound (M:=fun _=>False) (fun b h=>by have:=hO b h;omega) (by omega:W.heap.size≤V1.heap.size) hk'.size
    have hws':W.heap.size≤W'.heap.size:=by have:=hk'.size;omega
    have d4:=HD4.out
    have d5:=HD5.out
    clear hy hR r5 r5' hrow1 hk' hO hws hbV
    gi_wp2_with fail
    refine wpIn_wide.2 ?_
    go_quiet (fail)
    obtain⟨W2,hW2⟩:=Nm (W'.drewN nq)
    have hb2:Below W'.heap.size W' W2:=by rw [hW2];exact below_drewN Br nq
    have hj2:=hJ _ _ _ _ none hj' ⟨hb2.os,hb2.tape,hb2.output,hb2.size,fun k hk _=>hb2.block k hk⟩ (fun r e=>by cases e)
    have hr2:=hrow'.below hb2
    have hs2:=hb2.size
    rw [←hW2]
    clear hW2 hb2 hj' hrow' c2
    gi_wp2_with fail
    go_roundw
    case rel=>exact⟨at_+k,left - k,_,_,by go_num,rfl,by have:=HAL.out;have:=HKP.out;omega,Lh (by rw [HSP.out,List.append_assoc];rfl),hj2,by omega,fun b h=>by have:=hO' b h;omega,hr2⟩
    case measure=>have:=HKP.out;simp [_root_.Go.RowKit.intOf];omega
   ·gi_wp2_with fail
    refine bodyPost_ret (results_none rfl _ _ _) rfl ?_
    exact itEnd.part ⟨_,by rw [HSP.out,List.append_assoc];rfl⟩ hjx
  ·obtain rfl:left=0:=by omega
   have j1:decide ((0:Int) < ((0:Nat):Int))=false:=rfl
   have hall:pts a n=pre:=by rw [Hpre.out,pts_zero,List.append_nil]
   gi_wp2_with fail
   go_end0
   exact itEnd.all hall.symm hj
end Go.Proofs.YtfcfbcjiijfjgaaGreatDoor.Vm
