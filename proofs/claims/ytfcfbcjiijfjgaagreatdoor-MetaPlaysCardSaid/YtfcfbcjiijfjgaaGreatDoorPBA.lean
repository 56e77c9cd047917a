import Derived.Test.YtfcfbcjiijfjgaaGreatDoorPAZ
set_option maxHeartbeats 2000000
set_option maxRecDepth 100000
namespace Go.Proofs.YtfcfbcjiijfjgaaGreatDoor.Vm
open Go.RowKit Go.Shelf Go.Maps Go.Sort
abbrev Bys:=Nat→UInt8
structure Pgc where
 o:Int
 y:Nat
 m:Int
 g:Bys
abbrev Vw:=Int→Option Pgc
def upz (V:Vw) (z:Int) (o:Option Pgc):Vw:=fun y=>if y=z then o else V y
theorem upz_same (V:Vw) (z:Int) (o:Option Pgc):upz V z o z=o:=by unfold upz;rw [if_pos rfl]
theorem upz_other (V:Vw) (z:Int) (o:Option Pgc) {y:Int} (h:y≠z):upz V z o y=V y:=by unfold upz;rw [if_neg h]
def upn (L:Nat→Nat) (y k:Nat):Nat→Nat:=fun o=>if o=y then k else L o
theorem look_insW {l:Pg.Tb} (h:l.Pairwise (fun a b=>a.1 < b.1)) {z:Int} (x:Pg.En) (hz:Pg.look l z=none) (y:Int):Pg.look (Pg.ins l z x) y=if y=z then some x else Pg.look l y:=by
 have hs:=Pg.ins_sorted (x:=x) h (Pg.look_none.1 hz)
 apply Option.ext
 intro e
 rw [Pg.look_mem hs,Pg.mem_ins]
 split
 ·rename_i h1
  subst h1
  constructor
  ·rintro(h2 | h2)
   ·simp only [Prod.mk.injEq,true_and]at h2
    rw [h2]
   ·exact absurd rfl (Pg.look_none.1 hz _ h2)
  ·intro h2
   injection h2 with h2
   exact .inl (by rw [h2])
 ·rename_i h1
  rw [←Pg.look_mem h]
  constructor
  ·rintro(h2 | h2)
   ·simp only [Prod.mk.injEq]at h2
    exact absurd h2.1 h1
   ·exact h2
  ·exact fun h2=> .inr h2
theorem look_delW {l:Pg.Tb} (h:Pg.Tok l) (z y:Int):Pg.look (Pg.del l z) y=if y=z then none else Pg.look l y:=by
 have hs:=(Pg.del_ok h z).sorted
 split
 ·rename_i h1
  subst h1
  rw [Pg.look_none]
  intro r hr
  unfold Pg.del at hr
  have:=(List.mem_filter.1 hr).2
  simpa using this
 ·rename_i h1
  apply Option.ext
  intro e
  rw [Pg.look_mem hs,Pg.look_mem h.sorted]
  unfold Pg.del
  rw [List.mem_filter]
  constructor
  ·exact fun h2=>h2.1
  ·exact fun h2=>⟨h2,by simpa using h1⟩
theorem frames_neW {l:Pg.Tb} (h:Pg.Tok l) {z y:Int} {e d:Pg.En} (h1:Pg.look l z=some e) (h2:Pg.look l y=some d) (hf:e.2.2=d.2.2):z=y:=by
 obtain⟨i,hi,e1⟩:=List.getElem_of_mem ((Pg.look_mem h.sorted).1 h1)
 obtain⟨j,hj,e2⟩:=List.getElem_of_mem ((Pg.look_mem h.sorted).1 h2)
 have hp:=List.pairwise_iff_getElem.1 h.frame
 rcases Nat.lt_trichotomy i j with h3 | h3 | h3
 ·have:=hp i j hi hj h3
  rw [e1,e2]at this
  exact absurd hf this
 ·subst h3
  have:=e1.symm.trans e2
  exact congrArg Prod.fst this
 ·have:=hp j i hj hi h3
  rw [e1,e2]at this
  exact absurd hf.symm this
theorem frame_readW {p:Pl} {f fo:Nat} {bs:List UInt8} (h:p.fr[f]?=some (some (fo,bs))) {a n:Nat} (han:a+n≤256):reachE p (f:Int) (a:Int) (n:Int)=0∧frameO p f=some (fo,bs):=by
 have hlt:=(List.getElem?_eq_some_iff.1 h).1
 have h1:frameO p f=some (fo,bs):=by unfold frameO;rw [h];rfl
 refine⟨?_,h1⟩
 unfold reachE
 rw [if_neg,if_neg (by rw [Int.toNat_natCast,h1];simp)]
 simp only [frameB,holdsB,Bool.and_eq_true,decide_eq_true_eq]
 omega
structure Pv (p:Pl) (l:Pg.Tb) (V:Vw) (L:Nat→Nat):Prop where
 ok:p.ok
 tok:Pg.Tok l
 shut:∀z,V z=none→Pg.look l z=none
 opn:∀z x,V z=some x→∃(i:Nat) (bs:List UInt8),Pg.look l z=some (x.o,x.m,(i:Int))∧p.fr[i]?=some (some (x.y,bs))∧bs.length=256∧∀j,j < 256→bs[j]?=some (x.g j)
 left:∀o,o < 64→leftN p o=L o
theorem Pv.new {p:Pl} {L:Nat→Nat} (h:p.ok) (hl:∀o,o < 64→leftN p o=L o):Pv p [] (fun _=>none) L:=
 ⟨h,Pg.Tok.nil,fun _ _=>rfl,fun _ _ e=>(by cases e),hl⟩
structure Ctx where
 R:Vw
 L:Nat→Nat
def Ctx.lf (X:Ctx) (n:Nat):Nat→Nat:=fun o=>if o=63 then n else X.L o
def X0:Ctx:=⟨fun _=>none,fun _=>0⟩
theorem lf_63 (X:Ctx) (n:Nat):X.lf n 63=n:=if_pos rfl
theorem lf_upn (X:Ctx) (n k:Nat):upn (X.lf n) 63 k=X.lf k:=by
 funext o
 unfold upn Ctx.lf
 split <;> rfl
theorem zero_lenW:zero256.length=256:=List.length_replicate ..
theorem left_setW {p:Pl} (h:p.ok) {L:Nat→Nat} (hl:∀o,o < 64→leftN p o=L o) {fr:List Fr} {y k:Nat} (hy:y < 64):∀o,o < 64→leftN {fr:=fr,left:=p.left.set y k} o=upn L y k o:=by
 intro o ho
 unfold leftN upn
 simp only
 by_cases h1:o=y
 ·subst h1
  rw [if_pos rfl,List.getElem?_set_self (by rw [h.l64];exact hy)]
  rfl
 ·rw [if_neg h1,List.getElem?_set_ne (fun e=>h1 e.symm)]
  exact hl o ho
section
variable {p:Pl} {l:Pg.Tb} {V:Vw} {L:Nat→Nat}
theorem Pv.payer (h:Pv p l V L) {z:Int} {x:Pgc} (hv:V z=some x):x.y < 64:=by
 obtain⟨i,bs,_,hf,_⟩:=h.opn z x hv
 exact(h.ok.own _ _ (List.mem_of_getElem? hf)).1
theorem Pv.map (h:Pv p l V L) {z o m:Int} {y:Nat} (hz:Pg.pageB z=true) (hm:Pg.mayB m=true) (ho:ownsB o=true) (hy:y < 64) (hv:V z=none) (hn:0 < L y):
  mapME p l z o y m=0∧Pv (mapMP p l z o y m) (mapML p l z o y m) (upz V z (some ⟨o,y,m,fun _=>0⟩)) (upn L y (L y - 1)):=by
 have hl:=h.shut z hv
 have hoy:ownerB (y:Int)=true:=by unfold ownerB;rw [(Dt (by omega)),(Dt (by omega))];rfl
 have hm0:mqE l z o y m=0:=by
  unfold mqE
  rw [if_neg (by rw [hm,ho,hoy];decide),if_neg (by rw [hz];simp),if_neg (by rw [hl];simp)]
 have hly:=h.left y hy
 have ht:takeE p (y:Int)=0:=by
  unfold takeE
  rw [if_neg (by rw [hoy];decide),if_neg (by rw [Int.toNat_natCast,hly];omega)]
 obtain⟨_,_,_,hf1,_⟩:=takeE_left h.ok ht
 obtain⟨f,hf⟩:=Nm (takeI p (y:Int))
 unfold mapME mapMP mapML
 rw [if_pos hm0,if_pos hm0,if_pos hm0,if_pos ht,if_pos ht]
 rw [←hf]at hf1 ⊢
 have hfn:=(free1_spec _ _ hf1).1
 have hfl:=(List.getElem?_eq_some_iff.1 hfn).1
 have hfr:Pg.framed l (f:Int)=false:=by
  rw [Pg.framed_false]
  intro r hr hrf
  have hlk:=(Pg.look_mem h.tok.sorted (z:=r.1) (e:=r.2)).2 hr
  cases hvr:V r.1 with
  | none=>
   rw [h.shut _ hvr]at hlk
   cases hlk
  | some g=>
   obtain⟨i',bs',hl',hf',_⟩:=h.opn _ g hvr
   rw [hl']at hlk
   injection hlk with hlk
   rw [←hlk]at hrf
   simp only at hrf
   have:i'=f:=by omega
   subst this
   rw [hfn]at hf'
   cases hf'
 have hmost:=h.ok.most
 have hm':=hm
 have ho':=ho
 simp only [Pg.mayB,Bool.and_eq_true,decide_eq_true_eq]at hm'
 simp only [ownsB,Bool.and_eq_true,decide_eq_true_eq]at ho'
 have hE:Pg.mapE l z (o,m,(f:Int))=0:=by
  unfold Pg.mapE
  rw [if_neg,if_neg (by rw [hz];simp),if_neg (by rw [hl];simp),if_neg (by simp only;rw [hfr];simp)]
  have:Pg.rightB (o,m,(f:Int))=true:=by
   simp only [Pg.rightB,Pg.mayB,Bool.and_eq_true,decide_eq_true_eq]
   omega
  rw [this]
  simp
 have hT:Pg.mapT l z (o,m,(f:Int))=Pg.ins l z (o,m,(f:Int)):=by unfold Pg.mapT;rw [if_pos hE]
 have hTk:takeP p (y:Int)={fr:=p.fr.set f (some (y,zero256)),left:=p.left.set y (leftN p y - 1)}:=by
  unfold takeP
  rw [if_pos ht,←hf,Int.toNat_natCast]
 refine⟨hE,take_ok h.ok _,Pg.map_ok h.tok _ _ ⟨by unfold Pg.I64;simp only;omega,by unfold Pg.I64;simp only;omega,by unfold Pg.I64;simp only;omega⟩,fun k hy=> ?_,fun k g hk=> ?_,?_⟩
 ·have hyz:k≠z:=by
   rintro rfl
   rw [upz_same]at hy
   cases hy
  rw [upz_other _ _ _ hyz]at hy
  rw [hT,look_insW h.tok.sorted _ hl,if_neg hyz]
  exact h.shut k hy
 ·by_cases hyz:k=z
  ·subst hyz
   rw [upz_same]at hk
   injection hk with hk
   subst hk
   refine⟨f,zero256,by rw [hT,look_insW h.tok.sorted _ hl,if_pos rfl],by rw [hTk];exact List.getElem?_set_self hfl,zero_lenW,fun j hj=> ?_⟩
   unfold zero256
   rw [List.getElem?_replicate,if_pos hj]
  ·rw [upz_other _ _ _ hyz]at hk
   obtain⟨i',bs',hl',hf',hlen,hb⟩:=h.opn k g hk
   refine⟨i',bs',by rw [hT,look_insW h.tok.sorted _ hl,if_neg hyz];exact hl',?_,hlen,hb⟩
   have hne:f≠i':=by
    rintro rfl
    rw [hfn]at hf'
    cases hf'
   rw [hTk]
   simp only
   rw [List.getElem?_set_ne hne]
   exact hf'
 ·rw [hTk,hly]
  exact left_setW h.ok h.left hy
theorem Pv.unmap (h:Pv p l V L) {z:Int} {x:Pgc} (hz:Pg.pageB z=true) (hv:V z=some x):
  unmE p l z=0∧Pv (unmP p l z) (Pg.unmapT l z) (upz V z none) (upn L x.y (L x.y+1)):=by
 obtain⟨f,bs,hl,hf,hlen,hb⟩:=h.opn z x hv
 have hfl:=(List.getElem?_eq_some_iff.1 hf).1
 have hE:Pg.unmapE l z=0:=by unfold Pg.unmapE;rw [hz,hl];rfl
 have hX:(Pg.unmapX l z).2.2=(f:Int):=by unfold Pg.unmapX;rw [if_pos hE,hl];rfl
 have hT:Pg.unmapT l z=Pg.del l z:=by unfold Pg.unmapT;rw [if_pos hE]
 have hfo:frameO p f=some (x.y,bs):=by unfold frameO;rw [hf];rfl
 have hfb:frameB p (f:Int)=true:=by simp only [frameB,Bool.and_eq_true,decide_eq_true_eq];omega
 have hg:giveE p (f:Int)=0:=by
  unfold giveE
  rw [if_neg (by rw [hfb];simp),if_neg (by rw [Int.toNat_natCast,hfo];simp)]
 have hP:unmP p l z=giveP p (f:Int):=by unfold unmP;rw [if_pos hE,hX]
 have hgp:giveP p (f:Int)={fr:=p.fr.set f none,left:=p.left.set x.y (leftN p x.y+1)}:=by
  unfold giveP
  rw [if_pos hfb,Int.toNat_natCast,hfo]
 refine⟨by unfold unmE;rw [if_pos hE,hX];exact hg,?_⟩
 rw [hP,hT]
 refine⟨give_ok h.ok _,Pg.del_ok h.tok _,fun y hy=> ?_,fun y g' hy=> ?_,?_⟩
 ·rw [look_delW h.tok]
  split
  ·rfl
  ·rename_i h1
   rw [upz_other _ _ _ h1]at hy
   exact h.shut y hy
 ·have hyz:y≠z:=by
   rintro rfl
   rw [upz_same]at hy
   cases hy
  rw [upz_other _ _ _ hyz]at hy
  obtain⟨i',bs',hl',hf',hlen',hb'⟩:=h.opn y g' hy
  refine⟨i',bs',by rw [look_delW h.tok,if_neg hyz];exact hl',?_,hlen',hb'⟩
  have hne:f≠i':=by
   rintro rfl
   exact hyz (frames_neW h.tok hl' hl rfl)
  rw [hgp]
  simp only
  rw [List.getElem?_set_ne hne]
  exact hf'
 ·rw [hgp,h.left _ (h.payer hv)]
  exact left_setW h.ok h.left (h.payer hv)
theorem Pv.pce (h:Pv p l V L) {z a k:Nat} {x:Pgc} (hv:V (z:Int)=some x) (hak:a+k≤256):Vm.pce p l (z,a,k)=(List.range k).map fun j=>x.g (a+j):=by
 obtain⟨f,bs,hl,hf,hlen,hb⟩:=h.opn _ x hv
 obtain⟨h1,h2⟩:=frame_readW hf hak
 unfold Vm.pce
 simp only
 rw [show(Pg.getX l (z:Int)).2.2=(f:Int) by unfold Pg.getX;rw [hl];rfl]
 unfold readP
 rw [if_pos h1,Int.toNat_natCast,h2]
 simp only [Int.toNat_natCast]
 apply List.ext_getElem?
 intro j
 rw [List.getElem?_take,List.getElem?_drop,List.getElem?_map]
 by_cases hj:j < k
 ·rw [if_pos hj,List.getElem?_range hj,hb _ (by omega)]
  rfl
 ·rw [if_neg hj,List.getElem?_eq_none (by simp;omega)]
  rfl
theorem Pv.part (h:Pv p l V L) {z a:Nat} {x:Pgc} {b:List UInt8} (hv:V (z:Int)=some x) (hab:a+b.length≤256):
  Pv (writeP p (Pg.getX l (z:Int)).2.2 (a:Int) b) l (upz V z (some {x with g:=fun k=>if a≤k∧k < a+b.length then b.getD (k - a) 0 else x.g k})) L:=by
 obtain⟨f,bs,hl,hf,hlen,hb⟩:=h.opn _ x hv
 obtain⟨h1,h2⟩:=frame_readW hf hab
 have hfl:=(List.getElem?_eq_some_iff.1 hf).1
 have hp:writeP p (Pg.getX l (z:Int)).2.2 (a:Int) b={p with fr:=p.fr.set f (some (x.y,putB bs a b))}:=by
  rw [show(Pg.getX l (z:Int)).2.2=(f:Int) by unfold Pg.getX;rw [hl];rfl]
  unfold writeP
  rw [if_pos h1,Int.toNat_natCast,h2]
  simp
 refine⟨write_ok h.ok _ _ _,h.tok,fun y hy=> ?_,fun y g' hy=> ?_,by rw [hp];exact h.left⟩
 ·by_cases hyz:y=(z:Int)
  ·subst hyz
   rw [upz_same]at hy
   cases hy
  ·rw [upz_other _ _ _ hyz]at hy
   exact h.shut y hy
 ·by_cases hyz:y=(z:Int)
  ·subst hyz
   rw [upz_same]at hy
   injection hy with hy
   subst hy
   have hpl:(putB bs a b).length=256:=by
    unfold putB
    simp only [List.length_append,List.length_take,List.length_drop]
    omega
   refine⟨f,putB bs a b,hl,by rw [hp];exact List.getElem?_set_self hfl,hpl,fun j hj=> ?_⟩
   unfold putB
   simp only
   have hta:(bs.take a).length=a:=by rw [List.length_take];omega
   by_cases c1:j < a
   ·rw [if_neg (by omega),List.append_assoc,List.getElem?_append_left (by omega),List.getElem?_take,if_pos c1]
    exact hb j hj
   ·by_cases c2:j < a+b.length
    ·rw [if_pos ⟨by omega,c2⟩,List.append_assoc,List.getElem?_append_right (by omega),hta,List.getElem?_append_left (by omega),List.getD_eq_getElem?_getD,List.getElem?_eq_getElem (by omega)]
     rfl
    ·rw [if_neg (by omega),List.getElem?_append_right (by rw [List.length_append,hta];omega),List.length_append,hta,List.getElem?_drop,show a+b.length+(j - (a+b.length))=j by omega]
     exact hb j hj
  ·rw [upz_other _ _ _ hyz]at hy
   obtain⟨i',bs',hl',hf',hlen',hb'⟩:=h.opn y g' hy
   refine⟨i',bs',hl',?_,hlen',hb'⟩
   have hne:f≠i':=by
    rintro rfl
    exact hyz (frames_neW h.tok hl' hl rfl)
   rw [hp]
   simp only
   rw [List.getElem?_set_ne hne]
   exact hf'
end
def byZ (V:Vw) (a:Nat):UInt8:=match V ((a / 256:Nat):Int) with
 | some x=>x.g (a % 256)
 | none=>0
def putZ (V:Vw) (a:Nat) (b:List UInt8):Vw:=fun z=>(V z).map fun x=>{x with g:=fun j=>if j < 256∧(a:Int)≤256*z+j∧256*z+j < a+b.length then b.getD (256*z+j - a).toNat 0 else x.g j}
theorem putZ_some (V:Vw) (a:Nat) (b:List UInt8) (z:Int):(putZ V a b z).isSome=(V z).isSome:=by
 unfold putZ
 cases V z <;> rfl
theorem putZ_nil (V:Vw) (a:Nat):putZ V a []=V:=by
 funext z
 unfold putZ
 cases V z with
 | none=>rfl
 | some g=>
  simp only [Option.map_some]
  have e:(fun j:Nat=>if j < 256∧(a:Int)≤256*z+j∧256*z+j < a+(([]:List UInt8).length:Nat) then([]:List UInt8).getD (256*z+j - a).toNat 0 else g.g j)=g.g:=by
   funext j
   rw [if_neg (by simp only [List.length_nil];omega)]
  rw [e]
theorem putZ_one {V:Vw} {z r:Nat} {x:Pgc} {b:List UInt8} (hv:V (z:Int)=some x) (hb:r+b.length≤256):
  upz V (z:Int) (some {x with g:=fun k=>if r≤k∧k < r+b.length then b.getD (k - r) 0 else x.g k})=putZ V (256*z+r) b:=by
 funext y
 by_cases hy:y=(z:Int)
 ·subst hy
  rw [upz_same]
  unfold putZ
  rw [hv]
  simp only [Option.map_some]
  congr 2
  funext j
  by_cases c:r≤j∧j < r+b.length
  ·rw [if_pos c,if_pos (by omega)]
   congr 1
   omega
  ·rw [if_neg c,if_neg (by omega)]
 ·rw [upz_other _ _ _ hy]
  unfold putZ
  cases V y with
  | none=>rfl
  | some g'=>
   simp only [Option.map_some]
   have e:(fun j:Nat=>if j < 256∧((256*z+r:Nat):Int)≤256*y+j∧256*y+j < ((256*z+r:Nat):Int)+(b.length:Nat) then b.getD (256*y+j - ((256*z+r:Nat):Int)).toNat 0 else g'.g j)=g'.g:=by
    funext j
    rw [if_neg (by omega)]
   rw [e]
theorem putZ_putZ (V:Vw) (a:Nat) (b c:List UInt8):putZ (putZ V a b) (a+b.length) c=putZ V a (b ++ c):=by
 funext z
 unfold putZ
 cases V z with
 | none=>rfl
 | some g=>
  simp only [Option.map_some]
  congr 2
  funext j
  rw [List.length_append]
  by_cases c1:j < 256∧(a:Int)≤256*z+j∧256*z+j < a+(b.length+c.length:Nat)
  ·rw [if_pos c1]
   by_cases c2:256*z+j < a+b.length
   ·rw [if_neg (by omega),if_pos ⟨c1.1,c1.2.1,by omega⟩,List.getD_eq_getElem?_getD,List.getD_eq_getElem?_getD,List.getElem?_append_left (by omega)]
   ·rw [if_pos ⟨c1.1,by omega,by omega⟩,List.getD_eq_getElem?_getD,List.getD_eq_getElem?_getD,List.getElem?_append_right (by omega)]
    congr 2
    omega
  ·rw [if_neg c1,if_neg (by omega),if_neg (by omega)]
section
variable {p:Pl} {l:Pg.Tb} {V:Vw} {n:Nat→Nat}
def fineZ (V:Vw) (a k:Nat):Prop:=∀i,a≤i→i < a+k→(V ((i / 256:Nat):Int)).isSome=true
theorem Pv.rd (h:Pv p l V n):∀(k a:Nat),fineZ V a k→rdB p l a k=(List.range k).map fun j=>byZ V (a+j):=by
 intro k
 induction k using Nat.strongRecOn with
 | _ k ih=>
  intro a hf
  rcases Nat.eq_zero_or_pos k with rfl | hn
  ·unfold rdB
   rw [pts_zero]
   simp [flat]
  ·have hm:a % 256 < 256:=Nat.mod_lt _ (by decide)
   obtain⟨m,hk⟩:=Nm (min k (256 - a % 256))
   have h2:=ih (k - m) (by omega) (a+m) (fun i h3 h4=>hf i (by omega) (by omega))
   have hp:rdB p l a k=Vm.pce p l (a / 256,a % 256,m) ++ rdB p l (a+m) (k - m):=by
    unfold rdB
    rw [pts_pos hn,←hk,List.map_cons,flat]
   obtain⟨g,hg⟩:=Option.isSome_iff_exists.1 (hf a Lr (by omega))
   rw [hp,h2,h.pce hg (by omega)]
   apply List.ext_getElem?
   intro j
   rcases Nat.lt_or_ge j m with h3 | h3
   ·rw [List.getElem?_append_left (by simpa using h3),List.getElem?_map,List.getElem?_map,List.getElem?_range h3,List.getElem?_range (by omega)]
    simp only [Option.map_some]
    unfold byZ
    rw [show(a+j) / 256=a / 256 by omega,hg,show(a+j) % 256=a % 256+j by omega]
   ·rw [List.getElem?_append_right (by simpa using h3),List.length_map,List.length_range]
    rcases Nat.lt_or_ge j k with h4 | h4
    ·rw [List.getElem?_map,List.getElem?_map,List.getElem?_range (by omega),List.getElem?_range h4]
     simp only [Option.map_some]
     rw [show a+m+(j - m)=a+j by omega]
    ·rw [List.getElem?_eq_none (by simp;omega),List.getElem?_eq_none (by simp;omega)]
theorem Pv.parts:∀(k a:Nat) (p:Pl) (V:Vw) (bs:List UInt8),Pv p l V n→fineZ V a k→bs.length=k→Pv (wr p l (pts a k) bs) l (putZ V a bs) n:=by
 intro k
 induction k using Nat.strongRecOn with
 | _ k ih=>
  intro a p V bs h hf hb
  rcases Nat.eq_zero_or_pos k with rfl | hn
  ·rw [pts_zero,List.eq_nil_of_length_eq_zero hb,putZ_nil]
   exact h
  ·have hm:a % 256 < 256:=Nat.mod_lt _ (by decide)
   obtain⟨m,hk⟩:=Nm (min k (256 - a % 256))
   have hkl:(bs.take m).length=m:=by rw [List.length_take];omega
   obtain⟨g,hg⟩:=Option.isSome_iff_exists.1 (hf a Lr (by omega))
   have h1:=h.part (a:=a % 256) (b:=bs.take m) hg (by omega)
   rw [putZ_one hg (by omega),show 256*(a / 256)+a % 256=a by omega]at h1
   have h2:=ih (k - m) (by omega) (a+m) _ _ (bs.drop m) h1 (fun i h3 h4=>by rw [putZ_some];exact hf i (by omega) (by omega)) (by rw [List.length_drop,hb])
   have h3:=putZ_putZ V a (bs.take m) (bs.drop m)
   rw [hkl,List.take_append_drop]at h3
   rw [h3]at h2
   rw [pts_pos hn,←hk]
   exact h2
end
end Go.Proofs.YtfcfbcjiijfjgaaGreatDoor.Vm
namespace Go.Proofs.YtfcfbcjiijfjgaaGreatDoor.Me
open Go.RowKit Go.Shelf
variable {X:Vm.Ctx}
def bkp (f:Byts) (o:Nat):Vm.Pgc:=⟨-1,63,0,fun j=>if j < 256 then f (256*o+j) else 0⟩
def bookV (X:Vm.Ctx) (B:Bks) (z:Int):Option Vm.Pgc:=if 0≤z∧z < 256∧1≤z % 64∧z % 64≤48 then(B (z / 64).toNat).map fun f=>bkp f ((z % 64).toNat - 1) else X.R z
theorem bookV_at (B:Bks) {s o:Nat} (hs:s < 4) (ho:o < 48):bookV X B (((64*s+1+o):Nat):Int)=(B s).map fun f=>bkp f o:=by
 unfold bookV
 rw [if_pos (by omega),show((((64*s+1+o):Nat):Int) / 64).toNat=s by omega,show((((64*s+1+o):Nat):Int) % 64).toNat - 1=o by omega]
theorem bookV_off (B:Bks) {z:Int} (h:¬∃s o:Nat,s < 4∧o < 48∧z=(((64*s+1+o):Nat):Int)):bookV X B z=X.R z:=by
 unfold bookV
 rw [if_neg]
 rintro⟨h1,h2,h3,h4⟩
 exact h ⟨(z / 64).toNat,(z % 64).toNat - 1,by omega,by omega,by omega⟩
theorem bookV_none:bookV Vm.X0 (fun _=>none)=fun _=>none:=by
 funext z
 unfold bookV
 split <;> rfl
theorem bookV_ext {V:Vm.Vw} {B:Bks} (h1:∀s o:Nat,s < 4→o < 48→V (((64*s+1+o):Nat):Int)=(B s).map fun f=>bkp f o)
  (h2:∀z,(¬∃s o:Nat,s < 4∧o < 48∧z=(((64*s+1+o):Nat):Int))→V z=X.R z):V=bookV X B:=by
 funext z
 by_cases h:∃s o:Nat,s < 4∧o < 48∧z=(((64*s+1+o):Nat):Int)
 ·obtain⟨s,o,hs,ho,rfl⟩:=h
  rw [h1 s o hs ho,bookV_at B hs ho]
 ·rw [h2 z h,bookV_off B h]
theorem upd_at (B:Bks) (s:Nat) (x:Option Byts) (k:Nat):upd B s x k=if k=s then x else B k:=rfl
theorem bookV_put {B:Bks} {s o:Nat} {f:Byts} {b:List UInt8} (hs:s < 4) (hf:B s=some f) (ho:o+b.length≤12288):
  Vm.putZ (bookV X B) (256*(64*s+1)+o) b=bookV X (upd B s (some (putB f o b))):=by
 refine bookV_ext (fun s' o' hs' ho'=> ?_) (fun z hz=> ?_)
 ·unfold Vm.putZ
  rw [bookV_at B hs' ho',upd_at]
  by_cases e:s'=s
  ·subst e
   rw [if_pos rfl,hf]
   simp only [Option.map_some]
   unfold bkp
   congr 2
   funext j
   simp only
   by_cases c0:j < 256
   ·rw [if_pos c0]
    unfold putB
    by_cases c:o≤256*o'+j∧256*o'+j < o+b.length
    ·rw [if_pos (by omega),if_pos c,show(256*((64*s'+1+o':Nat):Int)+(j:Int) - ((256*(64*s'+1)+o:Nat):Int)).toNat=256*o'+j - o by omega,if_pos c0]
    ·rw [if_neg (by omega),if_pos c0,if_neg c]
   ·rw [if_neg c0,if_neg (by omega),if_neg c0]
  ·rw [if_neg e]
   cases B s' with
   | none=>rfl
   | some f'=>
    simp only [Option.map_some]
    unfold bkp
    congr 2
    funext j
    simp only
    rw [if_neg (by omega)]
 ·unfold Vm.putZ
  rw [bookV_off B hz]
  cases X.R z with
  | none=>rfl
  | some x=>
   simp only [Option.map_some]
   have e:(fun j:Nat=>if j < 256∧((256*(64*s+1)+o:Nat):Int)≤256*z+j∧256*z+j < ((256*(64*s+1)+o:Nat):Int)+(b.length:Nat) then b.getD (256*z+j - ((256*(64*s+1)+o:Nat):Int)).toNat 0 else x.g j)=x.g:=by
    funext j
    rw [if_neg]
    rintro⟨h1,h2,h3⟩
    exact hz ⟨s,(z - (64*s+1)).toNat,hs,by omega,by omega⟩
   rw [e]
theorem bookV_byte {B:Bks} {s o:Nat} {f:Byts} (hs:s < 4) (hf:B s=some f) (ho:o < 12288):Vm.byZ (bookV X B) (256*(64*s+1)+o)=f o:=by
 unfold Vm.byZ
 rw [show(256*(64*s+1)+o) / 256=(64*s+1+(o / 256)) by omega,bookV_at B hs (by omega),hf]
 simp only [Option.map_some,bkp]
 rw [if_pos (by omega)]
 congr 1
 omega
theorem bookV_fine {B:Bks} {s o k:Nat} {f:Byts} (hs:s < 4) (hf:B s=some f) (ho:o+k≤12288):Vm.fineZ (bookV X B) (256*(64*s+1)+o) k:=fun i h1 h2=>by
 rw [show i / 256=(64*s+1+(i / 256 - (64*s+1))) by omega,bookV_at B hs (by omega),hf]
 rfl
def partV (X:Vm.Ctx) (B:Bks) (s k:Nat) (x:Option Vm.Pgc) (z:Int):Option Vm.Pgc:=if(64*s+1:Int)≤z∧z < 64*s+1+k then x else bookV X B z
theorem partV_zero (B:Bks) (s:Nat) (x:Option Vm.Pgc):partV X B s 0 x=bookV X B:=by
 funext z
 unfold partV
 rw [if_neg (by omega)]
theorem partV_step (B:Bks) (s k:Nat) (x:Option Vm.Pgc):Vm.upz (partV X B s k x) (((64*s+1+k):Nat):Int) x=partV X B s (k+1) x:=by
 funext z
 unfold Vm.upz partV
 have e:(((64*s+1+k):Nat):Int)=64*s+1+k:=by omega
 rw [e]
 by_cases h:z=64*(s:Int)+1+k
 ·rw [if_pos h,if_pos (by omega)]
 ·rw [if_neg h]
  by_cases h2:(64*s+1:Int)≤z∧z < 64*s+1+k
  ·rw [if_pos h2,if_pos (by omega)]
  ·rw [if_neg h2,if_neg (by omega)]
theorem partV_next (B:Bks) (s k:Nat) (x:Option Vm.Pgc):partV X B s k x (((64*s+1+k):Nat):Int)=bookV X B (((64*s+1+k):Nat):Int):=by
 unfold partV
 have e:(((64*s+1+k):Nat):Int)=64*s+1+k:=by omega
 rw [if_neg (by omega)]
theorem partV_open (B:Bks) {s:Nat} (hs:s < 4):partV X B s 48 (some ⟨-1,63,0,fun _=>0⟩)=bookV X (upd B s (some zeroB)):=by
 refine bookV_ext (fun s' o' hs' ho'=> ?_) (fun z hz=> ?_)
 ·unfold partV
  have e:(((64*s'+1+o'):Nat):Int)=64*s'+1+o':=by omega
  rw [upd_at,e]
  by_cases h:s'=s
  ·subst h
   rw [if_pos (by omega),if_pos rfl]
   simp only [Option.map_some]
   unfold bkp
   congr 2
   funext j
   unfold zeroB
   split <;> rfl
  ·rw [if_neg (by omega),if_neg h,←e,bookV_at B hs' ho']
 ·unfold partV
  rw [if_neg,bookV_off B hz]
  intro h
  exact hz ⟨s,(z - (64*s+1)).toNat,hs,by omega,by omega⟩
theorem partV_close (B:Bks) {s:Nat} (hs:s < 4):partV X B s 48 none=bookV X (upd B s none):=by
 refine bookV_ext (fun s' o' hs' ho'=> ?_) (fun z hz=> ?_)
 ·unfold partV
  have e:(((64*s'+1+o'):Nat):Int)=64*s'+1+o':=by omega
  rw [upd_at,e]
  by_cases h:s'=s
  ·subst h
   rw [if_pos (by omega),if_pos rfl]
   rfl
  ·rw [if_neg (by omega),if_neg h,←e,bookV_at B hs' ho']
 ·unfold partV
  rw [if_neg,bookV_off B hz]
  intro h
  exact hz ⟨s,(z - (64*s+1)).toNat,hs,by omega,by omega⟩
end Go.Proofs.YtfcfbcjiijfjgaaGreatDoor.Me
namespace Go.Proofs.YtfcfbcjiijfjgaaGreatDoor.Me
open Go.RowKit Go.Shelf
variable {X:Vm.Ctx}
attribute [local go_sem] Oper.semAt_some
def HasM (X:Vm.Ctx):HasT:=fun w v B n F=>∃b t q l p F1 F2,v=bx b∧Vm.MRep w b t q l p F1 F2∧Vm.Pv p l (bookV X B) (X.lf n)∧F=fun k=>k=b∨F1 k∨F2 k
theorem HasM.keep {w w':World} {v:Value} {B:Bks} {n:Nat} {F:Nat→Prop} (h:HasM X w v B n F) (hk:∀k,F k→w'.heap[k]?=w.heap[k]?):HasM X w' v B n F:=by
 obtain⟨b,t,q,l,p,F1,F2,rfl,h,hp,rfl⟩:=h
 exact⟨b,t,q,l,p,F1,F2,rfl,⟨h.obj.same (hk b (.inl rfl)),h.tab.keep (fun k hf=>hk k (.inr (.inl hf))),h.pool.keep (fun k hf=>hk k (.inr (.inr hf))),h.apart,h.b1,h.b2⟩,hp,rfl⟩
theorem HasM.lt {w:World} {v:Value} {B:Bks} {n:Nat} {F:Nat→Prop} (h:HasM X w v B n F):∀k,F k→k < w.heap.size:=by
 obtain⟨b,t,q,l,p,F1,F2,rfl,h,hp,rfl⟩:=h
 rintro k (rfl | hf | hf)
 ·exact h.obj.lt
 ·exact h.tab.lt k hf
 ·exact h.pool.lt k hf
theorem HasM.ptr {w:World} {v:Value} {B:Bks} {n:Nat} {F:Nat→Prop} (h:HasM X w v B n F):∃ad,v= .pointer (some ad):=by
 obtain⟨b,t,q,l,p,F1,F2,rfl,_⟩:=h
 exact⟨_,rfl⟩
theorem nx_mem {w w':World} {b t q:Nat} {l':Pg.Tb} {p':Pl} {F1 F2:Nat→Prop} {B':Bks} {n':Nat} (hn:Vm.MNext w b t q l' p' F1 F2 w') (hp:Vm.Pv p' l' (bookV X B') (X.lf n')):Nx (HasM X) w (bx b) B' n' (fun k=>k=b∨F1 k∨F2 k) w':=by
 obtain⟨F3,h1,h2,h3⟩:=hn
 refine⟨_,⟨b,t,q,l',p',F1,F3,rfl,h1,hp,rfl⟩,h3.mono (fun k _ hk=> .inr hk),fun k hk=> ?_⟩
 rcases hk with hk | hk | hk
 ·exact .inl (.inl hk)
 ·exact .inl (.inr (.inl hk))
 ·rcases h2 k hk with h | h
  ·exact .inl (.inr (.inr h))
  ·exact .inr h
theorem left_allW (p:Pl) (L:Nat→Nat) (h:(List.range 64).all (fun o=>leftN p o == L o)=true):∀o,o < 64→leftN p o=L o:=fun o ho=>by
 rw [List.all_eq_true]at h
 exact eq_of_beq (h o (List.mem_range.2 ho))
theorem m_new1 (w:World):Calls Tryz.prog 10 #[.int .i64 1] w fun e w'=>∃v F,e= .returned (.tuple #[v,.int .i64 0])∧HasM Vm.X0 w' v (fun _=>none) 0 F∧(∀k,F k→w.heap.size≤k)∧Below w.heap.size w w':=by
 refine(Vm.new_any 1 w (by omega)).mono ?_
 rintro e w' ⟨b,t,q,F1,F2,rfl,h1,h2,h3⟩
 exact⟨_,_,rfl,⟨b,t,q,[],newP 1,F1,F2,rfl,h1,by rw [bookV_none];exact Vm.Pv.new (newP_ok (by omega)) (left_allW _ _ (by decide)),rfl⟩,h2,h3⟩
theorem res_ok:reserveE (newP 100) 63 100=0:=by kernel_rfl
theorem res_left:(List.range 64).all (fun o=>leftN (reserveP (newP 100) 63 100) o == Vm.X0.lf 100 o)=true:=by kernel_rfl
theorem m_mem (w:World):Calls Tryz.prog 5 #[] w fun e w'=>∃v F,e= .returned (.tuple #[v,.bool true])∧HasM Vm.X0 w' v (fun _=>none) 100 F∧(∀k,F k→w.heap.size≤k)∧Below w.heap.size w w':=by
 have HN:=Lh (Vm.new_any 100 w (by omega))
 have HNUM:=Lh (fun(n:Int) (w:World)=>num_any n w)
 go_enter Tryz.func5,Tryz.ntmps5
 go_wp2_with fail
 refine HN.out.mono ?_
 rintro e w1 ⟨b,t,q,F1,F2,rfl,h1,h2,h3⟩
 have hres:=Vm.reserve_any h1 63 100 (by omega)
 rw [res_ok]at hres
 have HR:=Lh hres
 have H2:=Lh (And.intro h2 h3)
 clear h1 h2 h3 hres HN
 go_wp2_with fail
 refine HR.out.mono ?_
 rintro e w2 ⟨rfl,F3,g1,g2,g3⟩
 have HFIN:=Lh (show HasM Vm.X0 w2 (bx b) (fun _=>none) 100 (fun k=>k=b∨F1 k∨F3 k)∧(∀k,(k=b∨F1 k∨F3 k)→w.heap.size≤k)∧Below w.heap.size w w2 from by
  have hs:=H2.out.2.size
  refine⟨⟨b,t,q,_,_,F1,F3,rfl,g1,by rw [bookV_none];exact Vm.Pv.new g1.pool.ok (left_allW _ _ res_left),rfl⟩,fun k hk=> ?_,H2.out.2.trans (g3.below (fun k hf=>H2.out.1 k (hf.elim (fun h=> .inr (.inl h)) (fun h=> .inr (.inr h)))) hs)⟩
  rcases hk with hk | hk | hk
  ·exact H2.out.1 k (.inl hk)
  ·exact H2.out.1 k (.inr (.inl hk))
  ·rcases g2 k hk with h | h
   ·exact H2.out.1 k (.inr (.inr h))
   ·omega)
 clear g1 g2 g3 HR H2
 go_wp2_with (first | (go_at_call 12;refine(HNUM.out _ _).mono ?_;rintro e u0 ⟨rfl,rfl⟩))
 go_ret2
 exact⟨_,_,rfl,HFIN.out.1,HFIN.out.2.1,HFIN.out.2.2⟩
section
variable {w:World} {v:Value} {B:Bks} {n:Nat} {F:Nat→Prop} {f:Byts}
theorem seen_fine {V:Vm.Vw} {g:Nat→Bool} (hg:∀z:Nat,(V (z:Int)).isSome=true→g z=true):∀(k a:Nat),Vm.fineZ V a k→Vm.seenB g a k=true:=by
 intro k
 induction k using Nat.strongRecOn with
 | _ k ih=>
  intro a hf
  unfold Vm.seenB
  rcases Nat.eq_zero_or_pos k with rfl | hn
  ·rw [Vm.pts_zero]
   rfl
  ·rw [Vm.pts_pos hn,List.all_cons,Bool.and_eq_true]
   refine⟨hg _ (hf a Lr (by omega)),?_⟩
   have:=ih (k - min k (256 - a % 256)) (by omega) (a+min k (256 - a % 256)) (fun i h3 h4=>hf i (by omega) (by omega))
   unfold Vm.seenB at this
   exact this
end
section
variable {w:World} {v:Value} {B:Bks} {n:Nat} {F:Nat→Prop} {f:Byts}
theorem hnd_zero {p:Pl} {l:Pg.Tb} {s o k:Nat} (hp:Vm.Pv p l (bookV X B) (X.lf n)) (hs:s < 4) (hf:B s=some f) (ho:o+k≤12288) (hk:1≤k):Vm.hndE l (256*(64*s+1)+o) (k:Int)=0:=by
 unfold Vm.hndE Vm.rE
 have e1:¬¬(true && Vm.properB (k:Int))=true:=by
  simp only [Vm.properB,Bool.true_and,Bool.and_eq_true,decide_eq_true_eq]
  omega
 have e2:¬¬Vm.withinB (256*(64*s+1)+o) (k:Int)=true:=by
  simp only [Vm.withinB,Bool.and_eq_true,decide_eq_true_eq]
  omega
 rw [if_neg e1,if_neg e2,Int.toNat_natCast,if_neg]
 intro h
 refine h (seen_fine (V:=bookV X B) (fun z hz=> ?_) k _ (bookV_fine hs hf ho))
 obtain⟨g,hg⟩:=Option.isSome_iff_exists.1 hz
 obtain⟨i,bs,hl,_⟩:=hp.opn _ g hg
 rw [hl]
 rfl
theorem m_poke (s o:Nat) (bs:List UInt8) (A:Option Addr) (ca:Nat) (h:HasM X w v B n F) (hs:s < 4) (hf:B s=some f) (ho:o+bs.length≤12288) (h1:1≤bs.length) (hca:bs.length≤ca) (hA:Sees w w.heap.size A (byt bs)) (hF:∀ad,A=some ad→¬F ad.block):
  Calls Tryz.prog 86 #[v,.int .u32 ((256*(64*s+1)+o:Nat):Int),.slice A bs.length ca] w fun e w'=>e= .returned (.int .i64 0)∧Nx (HasM X) w v (upd B s (some (putB f o bs))) n F w':=by
 obtain⟨b,t,q,l,p,F1,F2,rfl,h,hp,rfl⟩:=h
 have hE:=hnd_zero (n:=n) hp hs hf ho h1
 refine(Vm.poke_any h (256*(64*s+1)+o) bs.length ca A bs (by omega) rfl hca ⟨hA,fun ad e hne=> ?_⟩).mono ?_
 ·have:=hF ad e
  obtain⟨ad',e',hlt,_⟩:=hA (fun e2=>hne (by cases bs with | nil=>rfl | cons _ _=>cases e2))
  rw [e]at e'
  injection e' with e'
  subst e'
  exact⟨hlt,fun h=>this (.inr (.inl h)),fun h=>this (.inr (.inr h)),fun h=>this (.inl h)⟩
 ·rintro e w' ⟨rfl,hn⟩
  rw [hE]
  refine⟨rfl,nx_mem hn ?_⟩
  unfold Vm.pokeP
  rw [if_pos hE,←bookV_put hs hf ho]
  exact Vm.Pv.parts bs.length _ p _ bs hp (bookV_fine hs hf ho) rfl
end
end Go.Proofs.YtfcfbcjiijfjgaaGreatDoor.Me
namespace Go.Proofs.YtfcfbcjiijfjgaaGreatDoor.Vm
open Go.RowKit Go.Shelf Go.Maps Go.Sort
attribute [local go_sem] Oper.semAt_some
end Go.Proofs.YtfcfbcjiijfjgaaGreatDoor.Vm
namespace Go.Proofs.YtfcfbcjiijfjgaaGreatDoor.Me
open Go.RowKit Go.Shelf
variable {X:Vm.Ctx}
attribute [local go_sem] Oper.semAt_some
section
variable {w:World} {v:Value} {B:Bks} {n:Nat} {F:Nat→Prop} {f:Byts}
theorem m_peek (s o k:Nat) (h:HasM X w v B n F) (hs:s < 4) (hf:B s=some f) (ho:o+k≤12288) (hk:1≤k):
  Calls Tryz.prog 98 #[v,.int .u32 ((256*(64*s+1)+o:Nat):Int),.int .i64 (k:Int)] w (Vm.RdA w 0 ((List.range k).map fun j=>f (o+j))):=by
 obtain⟨b,t,q,l,p,F1,F2,rfl,h,hp,rfl⟩:=h
 have hE:=hnd_zero (n:=n) hp hs hf ho hk
 have:=Vm.peek_any h (256*(64*s+1)+o) (k:Int) (by omega)
 rw [hE,if_pos rfl,Int.toNat_natCast,hp.rd k _ (bookV_fine hs hf ho)]at this
 have e:((List.range k).map fun j=>Vm.byZ (bookV X B) (256*(64*s+1)+o+j))=(List.range k).map fun j=>f (o+j):=by
  apply List.map_congr_left
  intro j hj
  rw [List.mem_range]at hj
  rw [Nat.add_assoc]
  exact bookV_byte hs hf (by omega)
 rw [e]at this
 exact this
end
def HasL (w:World) (v:Value) (V:Vm.Vw) (L:Nat→Nat) (F:Nat→Prop):Prop:=∃b t q l p F1 F2,v=bx b∧Vm.MRep w b t q l p F1 F2∧Vm.Pv p l V L∧F=fun k=>k=b∨F1 k∨F2 k
def NxL (w:World) (v:Value) (V:Vm.Vw) (L:Nat→Nat) (F:Nat→Prop) (w':World):Prop:=∃F',HasL w' v V L F'∧Keep F w w'∧∀k,F' k→F k∨w.heap.size≤k
abbrev HasV (X:Vm.Ctx) (w:World) (v:Value) (V:Vm.Vw) (n:Nat) (F:Nat→Prop):Prop:=HasL w v V (X.lf n) F
abbrev NxV (X:Vm.Ctx) (w:World) (v:Value) (V:Vm.Vw) (n:Nat) (F:Nat→Prop) (w':World):Prop:=NxL w v V (X.lf n) F w'
theorem nx_v {w w':World} {b t q:Nat} {l':Pg.Tb} {p':Pl} {F1 F2:Nat→Prop} {V':Vm.Vw} {n':Nat→Nat} (hn:Vm.MNext w b t q l' p' F1 F2 w') (hp:Vm.Pv p' l' V' n'):NxL w (bx b) V' n' (fun k=>k=b∨F1 k∨F2 k) w':=by
 obtain⟨F3,h1,h2,h3⟩:=hn
 refine⟨_,⟨b,t,q,l',p',F1,F3,rfl,h1,hp,rfl⟩,h3.mono (fun k _ hk=> .inr hk),fun k hk=> ?_⟩
 rcases hk with hk | hk | hk
 ·exact .inl (.inl hk)
 ·exact .inl (.inr (.inl hk))
 ·rcases h2 k hk with h | h
  ·exact .inl (.inr (.inr h))
  ·exact .inr h
section
variable {w w' w2:World} {v:Value} {V V' V2:Vm.Vw} {n n' n2:Nat→Nat} {F:Nat→Prop}
theorem NxL.refl (h:HasL w v V n F) (hb:Below w.heap.size w w'):NxL w v V n F w':=by
 obtain⟨b,t,q,l,p,F1,F2,rfl,h,hp,rfl⟩:=h
 exact nx_v (Vm.MNext.same h hb) hp
theorem NxL.trans (h:NxL w v V n F w') (h2:∀F',HasL w' v V n F'→NxL w' v V2 n2 F' w2):NxL w v V2 n2 F w2:=by
 obtain⟨F',a1,a2,a3⟩:=h
 obtain⟨F2,b1,b2,b3⟩:=h2 F' a1
 have hs:=a2.size
 refine⟨F2,b1,⟨b2.os.trans a2.os,b2.tape.trans a2.tape,b2.output.trans a2.output,Nat.le_trans hs b2.size,fun k hk hf=> ?_⟩,fun k hk=> ?_⟩
 ·refine(b2.block k (by omega) (fun h'=> ?_)).trans (a2.block k hk hf)
  rcases a3 k h' with h9 | h9
  ·exact hf h9
  ·omega
 ·rcases b3 k hk with h9 | h9
  ·exact a3 k h9
  ·exact .inr (by omega)
theorem v_mapG {z o m:Int} {y:Nat} (h:HasL w v V n F) (hz:Pg.pageB z=true) (hm:Pg.mayB m=true) (ho:Vm.ownsB o=true) (hy:y < 64) (hv:V z=none) (hn:0 < n y):
  Calls Tryz.prog 58 #[v,.int .i64 z,.int .i64 o,.int .i64 (y:Int),.int .i64 m] w fun e w'=>e= .returned (.int .i64 0)∧NxL w v (Vm.upz V z (some ⟨o,y,m,fun _=>0⟩)) (Vm.upn n y (n y - 1)) F w':=by
 obtain⟨b,t,q,l,p,F1,F2,rfl,h,hp,rfl⟩:=h
 obtain⟨h1,h2⟩:=hp.map hz hm ho hy hv hn
 have hm64:Pg.I64 m:=by
  simp only [Pg.mayB,Bool.and_eq_true,decide_eq_true_eq]at hm
  unfold Pg.I64
  omega
 have ho64:Pg.I64 o:=by
  simp only [Vm.ownsB,Bool.and_eq_true,decide_eq_true_eq]at ho
  unfold Pg.I64
  omega
 have:=Vm.map_any h z o (y:Int) m ho64 hm64
 rw [h1]at this
 refine this.mono ?_
 rintro e w' ⟨rfl,hn⟩
 exact⟨rfl,nx_v hn h2⟩
theorem v_unmapG {z:Int} {x:Vm.Pgc} (h:HasL w v V n F) (hz:Pg.pageB z=true) (hv:V z=some x):
  Calls Tryz.prog 60 #[v,.int .i64 z] w fun e w'=>e= .returned (.int .i64 0)∧NxL w v (Vm.upz V z none) (Vm.upn n x.y (n x.y+1)) F w':=by
 obtain⟨b,t,q,l,p,F1,F2,rfl,h,hp,rfl⟩:=h
 obtain⟨h1,h2⟩:=hp.unmap hz hv
 have:=Vm.unmap_any h z
 rw [h1]at this
 refine this.mono ?_
 rintro e w' ⟨rfl,hn⟩
 exact⟨rfl,nx_v hn h2⟩
end
section
variable {w w' w2:World} {v:Value} {V V' V2:Vm.Vw} {n n' n2:Nat} {F:Nat→Prop}
theorem NxV.refl (h:HasV X w v V n F) (hb:Below w.heap.size w w'):NxV X w v V n F w':=NxL.refl h hb
theorem NxV.trans (h:NxV X w v V n F w') (h2:∀F',HasV X w' v V n F'→NxV X w' v V2 n2 F' w2):NxV X w v V2 n2 F w2:=NxL.trans h h2
theorem v_map {z:Int} (h:HasV X w v V n F) (hz:Pg.pageB z=true) (hv:V z=none) (hn:0 < n):
  Calls Tryz.prog 58 #[v,.int .i64 z,.int .i64 (-1),.int .i64 63,.int .i64 0] w fun e w'=>e= .returned (.int .i64 0)∧NxV X w v (Vm.upz V z (some ⟨-1,63,0,fun _=>0⟩)) (n - 1) F w':=by
 have:=v_mapG (y:=63) (o:= -1) (m:=0) h hz rfl rfl (by omega) hv (by rw [Vm.lf_63];exact hn)
 rw [Vm.lf_63,Vm.lf_upn]at this
 exact this
theorem v_unmap {z:Int} {x:Vm.Pgc} (h:HasV X w v V n F) (hz:Pg.pageB z=true) (hv:V z=some x) (hy:x.y=63):
  Calls Tryz.prog 60 #[v,.int .i64 z] w fun e w'=>e= .returned (.int .i64 0)∧NxV X w v (Vm.upz V z none) (n+1) F w':=by
 have:=v_unmapG h hz hv
 rw [hy,Vm.lf_63,Vm.lf_upn]at this
 exact this
end
end Go.Proofs.YtfcfbcjiijfjgaaGreatDoor.Me
namespace Go.Proofs.YtfcfbcjiijfjgaaGreatDoor
open Go.RowKit Go.Shelf Go.Maps Go.Sort
attribute [local go_sem] Oper.semAt_some
theorem Reserved_yes {b:Nat} {p:Pl} {F:Nat→Prop} {w:World} (h:Has w b p F) (o:Nat) (ho:o < 64):Calls Tryz.prog 119 #[bx b,.int .i64 (o:Int)] w fun e w'=>e= .returned (.tuple #[.int .i64 (resN p o:Int),.int .i64 (taken p.fr o:Int)])∧Below w.heap.size w w':=by
 obtain⟨bm,fv,sv,fb,gf,gs,hr,rfl⟩:=h
 have h1:=Lh (there_map b bm w hr.c1)
 have h2:=Lh (known_any (o:Int) w)
 have hob:ownerB (o:Int)=true:=by unfold ownerB;rw [(Dt (by omega)),(Dt (by omega))];rfl
 rw [hob]at h2
 have H3:=Lh (fun W (hb:Below w.heap.size w W)=>(show Calls Tryz.prog 96 #[bx b,.int .i64 (o:Int)] W (fun e w'=>e= .returned (.int .i64 (resN p o:Int))∧Below w.heap.size w w') from(reserved_any (hr.below hb) ho).mono fun e w' ⟨e1,e2⟩=>⟨e1,below0 hb e2⟩))
 have H4:=Lh (fun W (hb:Below w.heap.size w W)=>(show Calls Tryz.prog 94 #[bx b,.int .i64 (o:Int)] W (fun e w'=>e= .returned (.int .i64 (taken p.fr o:Int))∧Below w.heap.size w w') from(has_any (o:=o) (hr.below hb)).mono fun e w' ⟨e1,e2⟩=>⟨e1,below0 hb e2⟩))
 have hdr:=Lh (show Below w.heap.size w w.drew from Br.drew)
 obtain⟨x,hx⟩:=Nm (resN p o)
 obtain⟨y,hy⟩:=Nm (taken p.fr o)
 rw [←hx]at H3 ⊢
 rw [←hy]at H4 ⊢
 clear hx hy hr ho hob
 go_enter Tryz.func119,Tryz.ntmps119
 go_wp2_with fail
 refine(h1.out).mono ?_
 rintro e w1 ⟨rfl,rfl⟩
 go_wp2_with fail
 refine(h2.out).mono ?_
 rintro e w2 ⟨rfl,rfl⟩
 go_wp2_with fail
 go_region_held3 (fun W=>Below w.heap.size w W) (first | exact hdr.out | assumption)
  (first | (go_at_call 96;refine(H3.out _ (by first | exact hdr.out | assumption)).mono ?_;rintro e w2 ⟨rfl,hb2⟩) | (go_at_call 94;refine(H4.out _ (by first | exact hdr.out | assumption)).mono ?_;rintro e w3 ⟨rfl,hb3⟩))
 all_goals
  go_wp2
  go_ret2
  exact⟨rfl,by assumption⟩
end Go.Proofs.YtfcfbcjiijfjgaaGreatDoor
namespace Go.Proofs.YtfcfbcjiijfjgaaGreatDoor.Me
open Go.RowKit Go.Shelf
variable {X:Vm.Ctx}
attribute [local go_sem] Oper.semAt_some
section
variable {w:World} {v:Value} {V:Vm.Vw} {n:Nat} {F:Nat→Prop}
theorem res_sub (p:Pl) (o:Nat):(resN p o:Int) - (taken p.fr o:Int)=(leftN p o:Int):=by unfold resN;omega
theorem v_leftG (L:Nat→Nat) (o n:Nat) (h:HasL w v V L F) (ho:o < 64) (hL:L o=n):Calls Tryz.prog 56 #[v,.int .i64 (o:Int)] w fun e w'=>e= .returned (.int .i64 (n:Int))∧Below w.heap.size w w':=by
 obtain⟨b,t,q,l,p,F1,F2,rfl,h,hp,rfl⟩:=h
 have h1:=Lh (Vm.frames_any b q w h.c1)
 have h2:=Lh (Reserved_yes h.pool o ho)
 have hs:=res_sub p o
 rw [hp.left o ho,hL]at hs
 have hok:=hp.ok
 have hn:n≤16384:=by
  have h3:=sum_ge p.left o _ (hok.left_get (o:=o) ho)
  have h4:=hok.sum
  have h5:=hok.most
  have h6:=(hp.left o ho).trans hL
  omega
 have ew:IntKind.i64.wrap ((resN p o:Int) - (taken p.fr o:Int))=(n:Int):=by rw [hs];exact wrapI _ (by omega) (by omega)
 obtain⟨x,hx⟩:=Nm (resN p o)
 obtain⟨y,hy⟩:=Nm (taken p.fr o)
 rw [←hx,←hy]at h2 ew
 clear hx hy hs h hp hok hn
 go_enter Tryz.func56,Tryz.ntmps56
 go_wp2_with fail
 refine h1.out.mono ?_
 rintro e w1 ⟨rfl,rfl⟩
 go_wp2_with fail
 refine h2.out.mono ?_
 rintro e w2 ⟨rfl,hb⟩
 have HB:=Lh hb
 clear hb
 go_wp2_with fail
 go_ret
 exact⟨rfl,HB.out⟩
theorem v_left (h:HasV X w v V n F):Calls Tryz.prog 56 #[v,.int .i64 63] w fun e w'=>e= .returned (.int .i64 (n:Int))∧Below w.heap.size w w':=
 v_leftG _ 63 n h (by omega) (Vm.lf_63 X n)
end
section
variable {w:World} {v:Value} {V:Vm.Vw} {n:Nat} {F:Nat→Prop}
theorem look_some {L:Nat→Nat} (h:HasL w v V L F) (z:Int):∃l t q b p F1 F2,v=bx b∧Vm.MRep w b t q l p F1 F2∧(Pg.look l z).isSome=(V z).isSome∧(∀c,V z=some c→(Pg.getX l z).1=c.o∧(Pg.getX l z).2.1=c.m):=by
 obtain⟨b,t,q,l,p,F1,F2,rfl,h,hp,rfl⟩:=h
 refine⟨l,t,q,b,p,F1,F2,rfl,h,?_⟩
 cases hv:V z with
 | none=>
  rw [hp.shut z hv]
  exact⟨rfl,fun c e=>by cases e⟩
 | some g=>
  obtain⟨i,bs,hl,_⟩:=hp.opn z g hv
  refine⟨by rw [hl];rfl,fun c e=> ?_⟩
  injection e with e
  subst e
  unfold Pg.getX
  rw [hl]
  exact⟨rfl,rfl⟩
theorem v_get {L:Nat→Nat} (h:HasL w v V L F) (z:Int) (hz:Pg.I64 z):Calls Tryz.prog 181 #[v,.int .i64 z] w fun e w'=>∃x y i,e= .returned (.tuple #[.agg #[.int .i64 x,.int .i64 y,.int .i64 i],.bool (V z).isSome])∧(∀c,V z=some c→x=c.o∧y=c.m)∧Below w.heap.size w w':=by
 obtain⟨l,t,q,b,p,F1,F2,rfl,h,hs,hown⟩:=look_some h z
 obtain⟨W1,hW1⟩:=Nm (w.alloc (.cells #[.int .i64 0,.int .i64 0,.int .i64 0] 195))
 have hb1:Below w.heap.size w W1:=by rw [hW1];exact below1 _ _
 have hr1:Row W1 w.heap.size 195 [.int .i64 0,.int .i64 0,.int .i64 0]:=by rw [hW1];exact Row.new w _ _
 have h':=h.below hb1
 have h1:=Lh (Vm.entries_any b t q W1 h'.c0 h'.c1)
 have h2:=Lh (Vm.get_any h'.tab z hz)
 rw [hs]at h2
 obtain⟨X,hX⟩:=Nm (Pg.getX l z)
 rw [←hX]at h2 hown
 obtain⟨x,y,i⟩:=X
 obtain⟨tf,htf⟩:=Nm ((V z).isSome)
 rw [←htf]at h2 ⊢
 have HOWN:=Lh hown
 replace h2:Hid (Calls Tryz.prog 182 #[bx t,.int .i64 z] W1 fun e w'=>e= .returned (.tuple #[.agg #[.int .i64 x,.int .i64 y,.int .i64 i],.bool tf])∧Below W1.heap.size W1 w'):=h2
 have HR1:=Lh hr1
 have HB1:=Lh hb1
 have HW1:=Lh hW1
 clear h h' hs hX htf hr1 hb1 hW1 hown
 go_enter Tryz.func181,Tryz.ntmps181
 go_wp2_with fail
 rw [←HW1.out]
 refine h1.out.mono ?_
 rintro e w1 ⟨rfl,rfl⟩
 go_wp2_with fail
 refine h2.out.mono ?_
 rintro e w2 ⟨rfl,hb⟩
 have hr:=HR1.out.below hb
 have f0:=hr.frozen 0
 have f1:=hr.frozen 1
 have f2:=hr.frozen 2
 have c0:w2.cell? ⟨w.heap.size,0,none⟩=some (.int .i64 0):=hr.cell 0
 have c1:w2.cell? ⟨w.heap.size,1,none⟩=some (.int .i64 0):=hr.cell 1
 have c2:w2.cell? ⟨w.heap.size,2,none⟩=some (.int .i64 0):=hr.cell 2
 obtain⟨k0,k1,k2,k3⟩:=three_set hr (below0 HB1.out hb) (by omega) (Value.int .i64 x) (Value.int .i64 y) (Value.int .i64 i)
 have HK:=Lh (And.intro k0 (And.intro k1 (And.intro k2 k3)))
 clear k0 k1 k2 k3 hb
 go_wp2_with fail
 obtain⟨k0,k1,k2,k3⟩:=HK.out
 exact bodyPost_ret (v:= .tuple #[.agg #[Value.int .i64 x,.int .i64 y,.int .i64 i],.bool tf]) (by simp [results,Tryz.results181,go_sem,k0,k1,k2]) rfl ⟨x,y,i,rfl,HOWN.out,k3⟩
end
end Go.Proofs.YtfcfbcjiijfjgaaGreatDoor.Me
namespace Go.Proofs.YtfcfbcjiijfjgaaGreatDoor.Vm
open Go.RowKit Go.Shelf Go.Maps Go.Sort
attribute [local go_sem] Oper.semAt_some
theorem map_low {w:World} {b t q:Nat} {l:Pg.Tb} {p:Pl} {F1 F2:Nat→Prop} (h:MRep w b t q l p F1 F2) (z o y m:Int) (hE:mqE l z o y m≠0):
  Calls Tryz.prog 58 #[bx b,.int .i64 z,.int .i64 o,.int .i64 y,.int .i64 m] w fun e w'=>e= .returned (.int .i64 (mqE l z o y m:Int))∧Below w.heap.size w w':=by
 have HQ:=Lh ((mq_asked h z o y m).mono fun e w' ⟨e1,e2⟩=>(show e=Ending.returned (Value.int .i64 (mqE l z o y m:Int))∧Below w.heap.size w w' from⟨e1,e2.below⟩))
 obtain⟨E,hE2⟩:=Nm (mqE l z o y m)
 rw [←hE2]at HQ hE ⊢
 have e0:(((E:Int)) == 0)=false:=by rw [beq_eq_false_iff_ne];omega
 have e1:¬((E:Int)=0):=by omega
 clear hE2 h hE
 go_enter Tryz.func58,Tryz.ntmps58
 go_wp2_with fail
 refine wp_scope_jump 1 fun R hR hJm=> ?_
 go_wp2_with fail
 refine(HQ.out).mono ?_
 rintro e w1 ⟨rfl,hn⟩
 have HN:=Lh hn
 clear hn HQ
 go_wp2_with fail
 refine wp_goto (hJm.out _ _ _ _ _ rfl ?_)
 go_wp2_with fail
 refine hR.out _ _ _ _ (by simp) ?_
 go_ret
 exact⟨rfl,HN.out⟩
theorem there_nil (w:World):Calls Tryz.prog 89 #[.pointer none] w fun e w'=>e= .returned (.bool false)∧w=w':=by
 go_enter Tryz.func89,Tryz.ntmps89
 go_wp2
 go_ret
 exact⟨rfl,rfl⟩
theorem rch_nil {w:World} (a:Nat) (n:Int) (may:Bool) (fv:Value) (qs:List Ask) (hl:qs.length=3):
  Calls Tryz.prog 120 #[.slice (some ⟨w.heap.size+3,0,none⟩) 4 4] (askW w (rchB a n may fv) (⟨89,#[.pointer none],#[],1,false⟩ :: qs)) fun e w'=>e= .returned (.int .i64 1)∧Below w.heap.size w w':=by
 refine(asked_box (rchB a n may fv) (⟨89,#[.pointer none],#[],1,false⟩ :: qs) 4 4 _ rfl (by simp [hl]) (by omega) fun k hk hall=> ?_).mono fun e w' ⟨e1,e2,_⟩=>⟨e1,e2.below⟩
 rcases k with _ | k
 ·refine⟨enters_of Tryz.func89 (by kernel_rfl) rfl,fun V hV=> ?_⟩
  exact(there_nil V).mono fun e w' ⟨e1,e2⟩=>⟨e1,e2 ▸ Br⟩
 ·exact absurd (hall 0 (by simp) (by omega)) (by simp)
theorem reached_nil {w:World} (a:Nat) (n:Int) (may:Bool) (cf:Nat) (cap:Array Value):
  Calls Tryz.prog 232 #[.pointer none,.agg #[.int .u32 (a:Int),.int .i64 n],.bool may,.func (.func cf) #[] cap] w fun e w'=>e= .returned (.int .i64 1)∧Below w.heap.size w w':=by
 have h1:=Lh (rch_nil (w:=w) a n may (.func (.func cf) #[] cap) [⟨252,#[],#[bx (w.heap.size+1),bx w.heap.size],2,true⟩,⟨254,#[.agg #[.int .u32 (a:Int),.int .i64 n]],#[],4,true⟩,⟨255,#[],#[bx w.heap.size,bx (w.heap.size+2)],190,true⟩] rfl)
 go_enter Tryz.func232,Tryz.ntmps232
 go_wp2_with fail
 refine(h1.out).mono ?_
 rintro e w1 ⟨rfl,hb⟩
 go_wp2_with fail
 go_ret
 exact⟨rfl,hb⟩
theorem handed_nil {w:World} (a:Nat) (n:Int):
  Calls Tryz.prog 159 #[.pointer none,.agg #[.int .u32 (a:Int),.int .i64 n]] w fun e w'=>e= .returned (.int .i64 1)∧Below w.heap.size w w':=by
 go_enter Tryz.func159,Tryz.ntmps159
 go_wp2_with fail
 refine(reached_nil a n _ _ _).mono ?_
 rintro e w1 ⟨rfl,hb⟩
 go_wp2_with fail
 go_ret
 exact⟨rfl,(((Below.refl w.heap.size w).alloc Lr _).alloc (by simp) _).trans (hb.mono (by simp;omega))⟩
theorem peek_nil {w:World} (a:Nat) (n:Int):
  Calls Tryz.prog 98 #[.pointer none,.int .u32 (a:Int),.int .i64 n] w fun e w'=>e= .returned (.tuple #[.slice none 0 0,.int .i64 1])∧Below w.heap.size w w':=by
 go_enter Tryz.func98,Tryz.ntmps98
 go_wp2_with fail
 refine wp_scope_jump 1 fun R hR hJm=> ?_
 go_wp2_with fail
 refine(handed_nil a n).mono ?_
 rintro e w1 ⟨rfl,hb⟩
 go_wp2_with fail
 refine wp_goto (hJm.out _ _ _ _ _ rfl ?_)
 go_wp2_with fail
 refine hR.out _ _ _ _ (by simp) ?_
 exact bodyPost_ret (v:= .tuple #[.slice none 0 0,.int .i64 1]) (by simp [results,Tryz.results98,go_sem]) rfl ⟨rfl,(below1 _ _).trans (hb.mono (by simp))⟩
end Go.Proofs.YtfcfbcjiijfjgaaGreatDoor.Vm
