import Derived.Test.YtfcfbcjiijfjgaaGreatDoorPAB
import Derived.Test.YtfcfbcjiijfjgaaGreatDoorPAE
namespace Go.Proofs.YtfcfbcjiijfjgaaGreatDoor
open Go.RowKit
theorem wpIn_region_heldH {n:Nat} {P:Program} {Q:Exit→Act→World→Prop} (l':Nat) {l:List Oper} (m:Nat) {id:Nat} {a:Act} {w:World} (S:World→Prop) (hm:P.follows .mixedOrders=true) (hp:(l.toArray.all Oper.plainB)=true) (hc:cutOk l.toArray m=true) (hS:S w.drew)
  (h:S w.drew→wpAnyH P .any (l.take m).toArray (restQ n P l.toArray Q m) S m (Array.replicate m false) a w.drew):(Code.region id l.toArray true).wpIn (Fence.wide.inRound l') n P Q a w:=by
 have hz:=cut_size hc
 refine region_round l' hm hp ?_
 have hf:l.toArray.size=m+(l.toArray.size - m):=by omega
 rw [hf]
 have hall:∀j,(Array.replicate (m+(l.toArray.size - m)) false).getD j false=false:=getD_rep _
 refine cut_go (pre:=(l.take m).toArray) hc (by simp at hz ⊢;omega) (fun j hj=>by simp [hj]) m _ (Array.replicate m false) a _ (by simp at hz ⊢;omega) (by simp) (fun j _=>by rw [hall,getD_rep]) (fun j _ _=>hall j) (fun k ok _ hk=>by rw [hall]at hk;cases hk) (hall _) ?_
 exact wpAny_of_held _ _ _ _ (h hS)
def upd (vs:Nat→Value) (i:Nat) (v:Value):Nat→Value:=fun k=>if k=i then v else vs k
theorem upd_self (vs:Nat→Value) (i:Nat) (v:Value):upd vs i v i=v:=if_pos rfl
theorem upd_ne {vs:Nat→Value} {i j:Nat} {v:Value} (h:j≠i):upd vs i v j=vs j:=if_neg h
theorem upd_comm {vs:Nat→Value} {i j:Nat} {v u:Value} (h:j≠i):upd (upd vs i v) j u=upd (upd vs j u) i v:=by
 funext k
 unfold upd
 by_cases h1:k=j
 ·subst h1
  simp [h]
 ·simp [h1]
def poolB (md:Region.Mode) (ops:Array Oper) (Lf:Array Bool):Nat→Array Bool→List Nat→Bool
 | 0,L,J=>J.isEmpty && decide (L=Lf)
 | n+1,L,J=> !(Region.ready md ops L).isEmpty && (Region.ready md ops L).all fun i=>J.contains i && poolB md ops Lf n (L.setIfInBounds i true) (J.erase i)
theorem wpAnyH_pool {P:Program} {md:Region.Mode} {ops:Array Oper} {Q:Exit→Act→World→Prop} {S:World→Prop} {Lf:Array Bool} {fuel:Nat} (F:Nat→Value→World→Prop):
  ∀(n:Nat) (L:Array Bool) (J:List Nat) (A:(Nat→Value)→Act) (I:World→Prop),J.Nodup→poolB md ops Lf n L J=true→(∀W,I W→S W)→
  (∀i∈J,∀vs W,I W→wpOp P ops Q i (fun a' W'=>I W'∧(∃v,a'=A (upd vs i v)∧F i v W')∧∀k u,F k u W→F k u W') (A vs) W)→
  (∀vs W,I W→(∀i∈J,F i (vs i) W)→wpAnyH P md ops Q S fuel Lf (A vs) W)→
  ∀vs W,I W→wpAnyH P md ops Q S (fuel+n) L (A vs) W:=by
 intro n
 induction n with
 | zero=>
  intro L J A I _ hB _ _ hfin vs W hI
  simp only [poolB,Bool.and_eq_true,List.isEmpty_iff,decide_eq_true_eq]at hB
  obtain⟨rfl,rfl⟩:=hB
  exact hfin vs W hI (fun i hi=>by cases hi)
 | succ n ih=>
  intro L J A I hnd hB hS hst hfin vs W hI
  simp only [poolB,Bool.and_eq_true,List.all_eq_true,List.contains_iff_mem]at hB
  refine⟨fun h0=> ?_,fun i hi=> ?_⟩
  ·rw [h0]at hB
   exact absurd hB.1 (by simp)
  ·obtain⟨hiJ,hiB⟩:=hB.2 i hi
   refine wpOp_mono (fun a' W' h=> ?_) (hst i hiJ vs W hI)
   obtain⟨hI2,⟨v,rfl,hv⟩,_⟩:=h
   refine⟨hS _ hI2,ih (L.setIfInBounds i true) (J.erase i) (fun vs2=>A (upd vs2 i v)) (fun W=>I W∧F i v W) (hnd.erase i) hiB (fun W h=>hS W h.1) ?_ ?_ vs W' ⟨hI2,hv⟩⟩
   ·intro j hj vs2 W2 h
    have hne:j≠i:=(hnd.mem_erase_iff.1 hj).1
    refine wpOp_mono (fun a2 W3 h2=> ?_) (hst j (List.mem_of_mem_erase hj) (upd vs2 i v) W2 h.1)
    obtain⟨g1,⟨u,rfl,g2⟩,g3⟩:=h2
    exact⟨⟨g1,g3 _ _ h.2⟩,⟨u,by rw [upd_comm hne],g2⟩,g3⟩
   ·intro vs2 W2 h hall
    refine hfin (upd vs2 i v) W2 h.1 (fun j hj=> ?_)
    by_cases hji:j=i
    ·subst hji
     rw [upd_self]
     exact h.2
    ·rw [upd_ne hji]
     exact hall j (hnd.mem_erase_iff.2 ⟨hji,hj⟩)
theorem put_put (a:Act) (d:Nat) (u v:Value):(a.put (some d) u).put (some d) v=a.put (some d) v:=by
 simp [Act.put,Array.setIfInBounds_setIfInBounds]
def puts (d:Nat→Nat) (J:List Nat) (vs:Nat→Value) (a:Act):Act:=J.foldr (fun i a=>a.put (some (d i)) (vs i)) a
theorem puts_upd {d:Nat→Nat}:∀{J:List Nat},J.Nodup→(∀i∈J,∀j∈J,i≠j→d i≠d j)→∀{i:Nat},i∈J→∀(vs:Nat→Value) (v:Value) (a:Act),
  (puts d J vs a).put (some (d i)) v=puts d J (upd vs i v) a:=by
 intro J
 induction J with
 | nil=>intro _ _ i hi;cases hi
 | cons j J ih=>
  intro hnd hd i hi vs v a
  have hnd2:=List.nodup_cons.1 hnd
  by_cases hij:i=j
  ·subst hij
   have e:puts d J (upd vs i v) a=puts d J vs a:=by
    have:∀L:List Nat,i∉L→puts d L (upd vs i v) a=puts d L vs a:=by
     intro L
     induction L with
     | nil=>intro _;rfl
     | cons k L ih2=>
      intro hk
      have hk2:=fun h=>hk (List.mem_cons.2 h)
      show(puts d L (upd vs i v) a).put (some (d k)) (upd vs i v k)=(puts d L vs a).put (some (d k)) (vs k)
      rw [ih2 (fun h=>hk2 (Or.inr h)),upd_ne (fun h=>hk2 (Or.inl h.symm))]
    exact this J hnd2.1
   show((puts d J vs a).put (some (d i)) (vs i)).put (some (d i)) v=(puts d J (upd vs i v) a).put (some (d i)) (upd vs i v i)
   rw [put_put,upd_self,e]
  ·have hiJ:i∈J:=by
    rcases List.mem_cons.1 hi with h | h
    ·exact absurd h hij
    ·exact h
   show((puts d J vs a).put (some (d j)) (vs j)).put (some (d i)) v=(puts d J (upd vs i v) a).put (some (d j)) (upd vs i v j)
   rw [upd_ne (fun h=>hij h.symm),←ih hnd2.2 (fun x hx y hy=>hd x (List.mem_cons_of_mem _ hx) y (List.mem_cons_of_mem _ hy)) hiJ vs v a]
   have hne:d j≠d i:=hd j List.mem_cons_self i hi (fun h=>hij h.symm)
   simp only [Act.put]
   rw [Array.setIfInBounds_comm _ _ hne]
theorem wpAnyH_pool_puts {P:Program} {md:Region.Mode} {ops:Array Oper} {Q:Exit→Act→World→Prop} {S:World→Prop} {Lf:Array Bool} {fuel:Nat} (F:Nat→Value→World→Prop) (I:World→Prop)
  (n:Nat) (J:List Nat) (d:Nat→Nat) {L:Array Bool} {a:Act} {W:World} (hnd:J.Nodup) (hd:∀i∈J,∀j∈J,i≠j→d i≠d j) (ha:puts d J (fun _=>undef) a=a)
  (hB:poolB md ops Lf n L J=true) (hS:∀W,I W→S W) (hI:I W)
  (hst:∀i∈J,∀vs W,I W→∃o,ops[i]?=some o∧o.dst=some (d i)∧
   ∀K:Act→World→Prop,Shut (∀v W',I W'→F i v W'→(∀k u,F k u W→F k u W')→K ((puts d J vs a).put (some (d i)) v) W')→
    if Region.wanted o (yielded ops (puts d J vs a).tmps)=true then Oper.wp P o (puts d J vs a) W K Q else K ((puts d J vs a).put o.dst undef) W)
  (hfin:∀vs W,I W→(∀i∈J,F i (vs i) W)→wpAnyH P md ops Q S fuel Lf (puts d J vs a) W):wpAnyH P md ops Q S (fuel+n) L a W:=by
 rw [←ha]
 refine wpAnyH_pool F n L J (fun vs=>puts d J vs a) I hnd hB hS (fun i hi vs W hI=> ?_) hfin _ W hI
 obtain⟨o,ho,_,h⟩:=hst i hi vs W hI
 refine wpOp_step ho (fun K hK=>h K (fun v W' g1 g2 g3=>hK _ _ ⟨g1,⟨v,puts_upd hnd hd hi vs v a,g2⟩,g3⟩))
end Go.Proofs.YtfcfbcjiijfjgaaGreatDoor
