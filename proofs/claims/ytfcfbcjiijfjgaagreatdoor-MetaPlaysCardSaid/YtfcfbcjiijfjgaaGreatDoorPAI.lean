import Derived.Test.YtfcfbcjiijfjgaaGreatDoorPAA
import Derived.Lib.SlKeysI
import Derived.Maps.OwnSet
import Derived.Maps.OwnOps
import Derived.Maps.OwnIn
import Derived.RangeFuncSeq
import Derived.Sort.MapsRangeIn
import Derived.Deep.MidRow
import Derived.Deep.RegionHeld3
import Derived.BigQuiet
import Derived.Laws.EntriesVeiled
set_option maxHeartbeats 2000000
set_option maxRecDepth 100000
namespace Go.Proofs.YtfcfbcjiijfjgaaGreatDoor
open Go.Maps
abbrev Fr:=Option (Nat × List UInt8)
structure Pl where
 fr:List Fr
 left:List Nat
def ownO (x:Fr):Option Nat:=x.map Prod.fst
def owns (fr:List Fr):List (Option Nat):=fr.map ownO
def isO (k:Nat) (x:Fr):Bool:=match x with | some (o,_)=>o == k | none=>false
def taken (fr:List Fr) (k:Nat):Nat:=fr.countP (isO k)
def used (fr:List Fr):Nat:=fr.countP Option.isSome
structure Pl.ok (p:Pl):Prop where
 l64:p.left.length=64
 most:p.fr.length≤16384
 sum:used p.fr+p.left.sum≤p.fr.length
 own:∀o bs,some (o,bs)∈p.fr→o < 64∧bs.length=256
def Pl.room (p:Pl):Nat:=p.fr.length - used p.fr - p.left.sum
theorem sum_set:∀(l:List Nat) (k v x:Nat),l[k]?=some x→(l.set k v).sum+x=l.sum+v
 | [],_,_,_,h=>by simp at h
 | a :: r,0,v,x,h=>by
  simp at h
  subst h
  simp
  omega
 | a :: r,k+1,v,x,h=>by
  have:=sum_set r k v x (by simpa using h)
  simp
  omega
theorem sum_ge:∀(l:List Nat) (k x:Nat),l[k]?=some x→x≤l.sum
 | [],_,_,h=>by simp at h
 | a :: r,0,x,h=>by
  simp at h
  subst h
  simp
 | a :: r,k+1,x,h=>by
  have:=sum_ge r k x (by simpa using h)
  simp
  omega
theorem countP_set {α:Type} (f:α→Bool):∀(l:List α) (k:Nat) (v x:α),l[k]?=some x→(l.set k v).countP f+(if f x then 1 else 0)=l.countP f+(if f v then 1 else 0)
 | [],_,_,_,h=>by simp at h
 | a :: r,0,v,x,h=>by
  simp at h
  subst h
  simp only [List.set_cons_zero,List.countP_cons]
  omega
 | a :: r,k+1,v,x,h=>by
  have:=countP_set f r k v x (by simpa using h)
  simp only [List.set_cons_succ,List.countP_cons]
  omega
theorem taken_used (fr:List Fr) (k:Nat):taken fr k≤used fr:=by
 unfold taken used
 refine List.countP_mono_left fun x _ h=> ?_
 match x,h with
 | some _,_=>rfl
theorem used_len (fr:List Fr):used fr≤fr.length:=List.countP_le_length
def free1:List Fr→Option Nat
 | []=>none
 | none :: _=>some 0
 | some _ :: r=>(free1 r).map (· +1)
theorem free1_some:∀(fr:List Fr),used fr < fr.length→∃i,free1 fr=some i
 | [],h=>by simp [used]at h
 | none :: r,_=>⟨0,rfl⟩
 | some x :: r,h=>by
  have h2:used r < r.length:=by
   simp only [used,List.countP_cons,List.length_cons,Option.isSome_some,if_true]at h
   unfold used
   omega
  obtain⟨i,hi⟩:=free1_some r h2
  exact⟨i+1,by simp [free1,hi]⟩
theorem free1_spec:∀(fr:List Fr) (i:Nat),free1 fr=some i→fr[i]?=some none∧∀j,j < i→∃x,fr[j]?=some (some x)
 | [],i,h=>by simp [free1]at h
 | none :: r,i,h=>by
  simp [free1]at h
  subst h
  exact⟨rfl,fun j hj=>by omega⟩
 | some x :: r,i,h=>by
  simp only [free1,Option.map_eq_some_iff]at h
  obtain⟨k,hk,rfl⟩:=h
  obtain⟨h1,h2⟩:=free1_spec r k hk
  refine⟨by simpa using h1,fun j hj=> ?_⟩
  cases j with
  | zero=>exact⟨x,rfl⟩
  | succ j=>simpa using h2 j (by omega)
def zero256:List UInt8:=List.replicate 256 0
def leftN (p:Pl) (o:Nat):Nat:=p.left[o]?.getD 0
def resN (p:Pl) (o:Nat):Nat:=leftN p o+taken p.fr o
def ownerB (o:Int):Bool:=decide (0≤o) && decide (o < 64)
def reserveE (p:Pl) (o m:Int):Nat:=
 if ¬(ownerB o=true∧0≤m) then 2 else if m < taken p.fr o.toNat then 172 else if ¬(m - resN p o.toNat≤p.room) then 170 else 0
def reserveP (p:Pl) (o m:Int):Pl:=if reserveE p o m=0 then {p with left:=p.left.set o.toNat (m.toNat - taken p.fr o.toNat)} else p
def takeE (p:Pl) (o:Int):Nat:=if ¬ownerB o=true then 2 else if leftN p o.toNat=0 then 171 else 0
def takeI (p:Pl) (o:Int):Nat:=if takeE p o=0 then(free1 p.fr).getD 0 else 0
def takeP (p:Pl) (o:Int):Pl:=if takeE p o=0 then {fr:=p.fr.set (takeI p o) (some (o.toNat,zero256)),left:=p.left.set o.toNat (leftN p o.toNat - 1)} else p
def frameB (p:Pl) (i:Int):Bool:=decide (0≤i) && decide (i < p.fr.length)
def frameO (p:Pl) (i:Nat):Fr:=(p.fr[i]?).getD none
def giveE (p:Pl) (i:Int):Nat:=if ¬frameB p i=true then 4 else if frameO p i.toNat=none then 5 else 0
def giveP (p:Pl) (i:Int):Pl:=
 match(if frameB p i then frameO p i.toNat else none) with
 | some (o,_)=>{fr:=p.fr.set i.toNat none,left:=p.left.set o (leftN p o+1)}
 | none=>p
def holdsB (at_ many:Int):Bool:=decide (0≤at_) && decide (at_≤256) && decide (0≤many) && decide (many≤256 - at_)
def reachE (p:Pl) (i at_ many:Int):Nat:=if ¬(frameB p i=true∧holdsB at_ many=true) then 4 else if frameO p i.toNat=none then 5 else 0
def readP (p:Pl) (i at_ many:Int):List UInt8:=
 if reachE p i at_ many=0 then match frameO p i.toNat with | some (_,bs)=>(bs.drop at_.toNat).take many.toNat | none=> [] else []
def putB (bs:List UInt8) (at_:Nat) (b:List UInt8):List UInt8:=bs.take at_ ++ b ++ bs.drop (at_+b.length)
def writeP (p:Pl) (i at_:Int) (b:List UInt8):Pl:=
 if reachE p i at_ b.length=0 then match frameO p i.toNat with | some (o,bs)=>{p with fr:=p.fr.set i.toNat (some (o,putB bs at_.toNat b))} | none=>p else p
def newP (n:Nat):Pl:={fr:=List.replicate n none,left:=List.replicate 64 0}
theorem newP_ok {n:Nat} (h:n≤16384):(newP n).ok:=by
 refine⟨by simp [newP],by simpa [newP] using h,?_,fun o bs hm=> ?_⟩
 ·have h1:used (List.replicate n (none:Fr))=0:=by
   unfold used
   rw [List.countP_eq_zero]
   intro x hx
   rw [List.eq_of_mem_replicate hx]
   decide
  simp [newP,h1]
 ·simp [newP]at hm
theorem Pl.ok.left_get {p:Pl} (h:p.ok) {o:Nat} (ho:o < 64):p.left[o]?=some (leftN p o):=by
 unfold leftN
 rw [List.getElem?_eq_getElem (by rw [h.l64];exact ho)]
 rfl
theorem Pl.ok.room_eq {p:Pl} (h:p.ok):p.room+p.left.sum+used p.fr=p.fr.length:=by
 have:=h.sum
 unfold Pl.room
 omega
theorem mem_set_own {fr:List Fr} {i:Nat} {x:Fr} {o:Nat} {bs:List UInt8} (hm:some (o,bs)∈fr.set i x):some (o,bs)∈fr∨x=some (o,bs):=by
 rcases List.mem_or_eq_of_mem_set hm with h | h
 ·exact .inl h
 ·exact .inr h.symm
theorem reserve_ok {p:Pl} (h:p.ok) (o m:Int):(reserveP p o m).ok:=by
 unfold reserveP
 split
 next h0=>
  unfold reserveE at h0
  split at h0
  ·cases h0
  split at h0
  ·cases h0
  split at h0
  ·cases h0
  next h1 h2 h3=>
   have h1':=Classical.not_not.1 h1
   have h3':=Classical.not_not.1 h3
   have hob:=h1'.1
   simp only [ownerB,Bool.and_eq_true,decide_eq_true_eq]at hob
   have hg:=h.left_get (o:=o.toNat) (by omega)
   have hs:=sum_set p.left o.toNat (m.toNat - taken p.fr o.toNat) _ hg
   have hr:=h.room_eq
   refine⟨by simpa using h.l64,h.most,?_,h.own⟩
   unfold resN at h3'
   show used p.fr+(p.left.set o.toNat (m.toNat - taken p.fr o.toNat)).sum≤p.fr.length
   omega
 ·exact h
theorem takeE_left {p:Pl} (h:p.ok) {o:Int} (h0:takeE p o=0):0≤o∧o < 64∧0 < leftN p o.toNat∧free1 p.fr=some (takeI p o)∧used p.fr < p.fr.length:=by
 have h00:=h0
 unfold takeE at h0
 split at h0
 ·cases h0
 split at h0
 ·cases h0
 next h1 h2=>
  have h1':=Classical.not_not.1 h1
  simp only [ownerB,Bool.and_eq_true,decide_eq_true_eq]at h1'
  have hg:=h.left_get (o:=o.toNat) (by omega)
  have hs:=sum_ge p.left o.toNat _ hg
  have hsum:=h.sum
  have hu:used p.fr < p.fr.length:=by omega
  obtain⟨i,hi⟩:=free1_some p.fr hu
  exact⟨h1'.1,h1'.2,by omega,by unfold takeI;rw [if_pos h00,hi];rfl,hu⟩
theorem take_ok {p:Pl} (h:p.ok) (o:Int):(takeP p o).ok:=by
 unfold takeP
 split
 next h0=>
  obtain⟨h1,h2,h3,h4,h5⟩:=takeE_left h h0
  obtain⟨hn,_⟩:=free1_spec _ _ h4
  have hg:=h.left_get (o:=o.toNat) (by omega)
  have hs:=sum_set p.left o.toNat (leftN p o.toNat - 1) _ hg
  have hc:=countP_set Option.isSome p.fr (takeI p o) (some (o.toNat,zero256)) none hn
  simp at hc
  have hsum:=h.sum
  refine⟨by simpa using h.l64,by simpa using h.most,?_,fun o' bs hm=> ?_⟩
  ·show used (p.fr.set (takeI p o) (some (o.toNat,zero256)))+(p.left.set o.toNat (leftN p o.toNat - 1)).sum≤(p.fr.set (takeI p o) (some (o.toNat,zero256))).length
   simp only [List.length_set]
   unfold used at hsum ⊢
   omega
  ·rcases mem_set_own hm with h6 | h6
   ·exact h.own _ _ h6
   ·simp only [Option.some.injEq,Prod.mk.injEq]at h6
    obtain⟨rfl,rfl⟩:=h6
    exact⟨by omega,List.length_replicate⟩
 ·exact h
theorem give_some {p:Pl} {i:Int} {o:Nat} {bs:List UInt8} (h:(if frameB p i then frameO p i.toNat else none)=some (o,bs)):0≤i∧i.toNat < p.fr.length∧p.fr[i.toNat]?=some (some (o,bs))∧frameO p i.toNat=some (o,bs):=by
 split at h
 next hf=>
  simp only [frameB,Bool.and_eq_true,decide_eq_true_eq]at hf
  have hl:i.toNat < p.fr.length:=by omega
  refine⟨hf.1,hl,?_,h⟩
  unfold frameO at h
  rw [List.getElem?_eq_getElem hl]at h ⊢
  simp at h
  rw [h]
 ·cases h
theorem give_ok {p:Pl} (h:p.ok) (i:Int):(giveP p i).ok:=by
 unfold giveP
 split
 next o bs hx=>
  obtain⟨h1,h2,h3,h4⟩:=give_some hx
  obtain⟨ho,_⟩:=h.own o bs (List.mem_of_getElem? h3)
  have hg:=h.left_get (o:=o) ho
  have hs:=sum_set p.left o (leftN p o+1) _ hg
  have hc:=countP_set Option.isSome p.fr i.toNat none _ h3
  simp at hc
  have hsum:=h.sum
  refine⟨by simpa using h.l64,by simpa using h.most,?_,fun o' bs' hm=> ?_⟩
  ·show used (p.fr.set i.toNat none)+(p.left.set o (leftN p o+1)).sum≤(p.fr.set i.toNat none).length
   simp only [List.length_set]
   unfold used at hsum ⊢
   omega
  ·rcases mem_set_own hm with h6 | h6
   ·exact h.own _ _ h6
   ·cases h6
 ·exact h
theorem putB_len (bs:List UInt8) (a:Nat) (b:List UInt8) (h:a+b.length≤bs.length):(putB bs a b).length=bs.length:=by
 simp [putB]
 omega
theorem reach_some {p:Pl} {i at_ m:Int} (h:reachE p i at_ m=0):0≤i∧i.toNat < p.fr.length∧0≤at_∧0≤m∧at_+m≤256∧∃o bs,p.fr[i.toNat]?=some (some (o,bs))∧frameO p i.toNat=some (o,bs):=by
 unfold reachE at h
 split at h
 ·cases h
 split at h
 ·cases h
 next h1 h2=>
  have h1':=Classical.not_not.1 h1
  simp only [frameB,holdsB,Bool.and_eq_true,decide_eq_true_eq]at h1'
  have hl:i.toNat < p.fr.length:=by omega
  refine⟨h1'.1.1,hl,by omega,by omega,by omega,?_⟩
  unfold frameO at h2 ⊢
  rw [List.getElem?_eq_getElem hl]at h2 ⊢
  simp only [Option.getD_some]at h2 ⊢
  cases hx:p.fr[i.toNat] with
  | some y=>exact⟨y.1,y.2,rfl,rfl⟩
  | none=>exact absurd hx h2
theorem write_ok {p:Pl} (h:p.ok) (i at_:Int) (b:List UInt8):(writeP p i at_ b).ok:=by
 unfold writeP
 split
 next h0=>
  obtain⟨h1,h2,h3,h4,h5,o,bs,h6,h7⟩:=reach_some h0
  rw [h7]
  obtain⟨ho,hb⟩:=h.own o bs (List.mem_of_getElem? h6)
  have hc:=countP_set Option.isSome p.fr i.toNat (some (o,putB bs at_.toNat b)) _ h6
  simp at hc
  have hsum:=h.sum
  refine⟨h.l64,by simpa using h.most,?_,fun o' bs' hm=> ?_⟩
  ·show used (p.fr.set i.toNat (some (o,putB bs at_.toNat b)))+p.left.sum≤(p.fr.set i.toNat (some (o,putB bs at_.toNat b))).length
   simp only [List.length_set]
   unfold used at hsum ⊢
   omega
  ·rcases mem_set_own hm with h8 | h8
   ·exact h.own _ _ h8
   ·simp only [Option.some.injEq,Prod.mk.injEq]at h8
    obtain⟨rfl,rfl⟩:=h8
    exact⟨ho,by rw [putB_len _ _ _ (by omega)];exact hb⟩
 ·exact h
def entsF:Nat→List (Option Nat)→List (Lit × DataW Unit)
 | _,[]=> []
 | s,none :: r=>entsF (s+1) r
 | s,some o :: r=>(.int .i64 (s:Int),.lit (.int .i64 (o:Int))) :: entsF (s+1) r
def mapD (l:List (Option Nat)):DataW Unit:= .map (entsF 0 l)
def idxF:Nat→List (Option Nat)→List Nat
 | _,[]=> []
 | s,none :: r=>idxF (s+1) r
 | s,some _ :: r=>s :: idxF (s+1) r
theorem ents_len:∀(s:Nat) (l:List (Option Nat)),(entsF s l).length=l.countP Option.isSome
 | _,[]=>rfl
 | s,none :: r=>by simp [entsF,ents_len (s+1) r]
 | s,some o :: r=>by simp [entsF,ents_len (s+1) r]
theorem mapD_size (l:List (Option Nat)):Maps.size (mapD l)=l.countP Option.isSome:=ents_len 0 l
theorem ents_keys:∀(s:Nat) (l:List (Option Nat)),(entsF s l).map (fun p=>intOf p.1)=(idxF s l).map (fun n:Nat=>(n:Int))
 | _,[]=>rfl
 | s,none :: r=>ents_keys (s+1) r
 | s,some o :: r=>by rw [entsF,idxF,List.map_cons,List.map_cons,ents_keys (s+1) r];rfl
theorem idx_ge:∀(s:Nat) (l:List (Option Nat)),∀n∈idxF s l,s≤n∧n < s+l.length
 | _,[],n,h=>by simp [idxF]at h
 | s,none :: r,n,h=>by
  have:=idx_ge (s+1) r n h
  simp
  omega
 | s,some o :: r,n,h=>by
  simp only [idxF,List.mem_cons]at h
  rcases h with rfl | h
  ·simp
  ·have:=idx_ge (s+1) r n h
   simp
   omega
theorem same_i (a b:Int):Lit.sameKey (.int .i64 a) (.int .i64 b)=decide (a=b):=by simp [Lit.sameKey]
theorem ents_find:∀(s:Nat) (l:List (Option Nat)) (n:Nat),s≤n→(entsF s l).find? (fun p=>p.1.sameKey (.int .i64 (n:Int)))=(match l[n - s]? with | some (some o)=>some (.int .i64 (n:Int),.lit (.int .i64 (o:Int))) | _=>none)
 | s,[],n,_=>by simp [entsF]
 | s,none :: r,n,h=>by
  rw [entsF]
  rcases Nat.eq_or_lt_of_le h with rfl | h
  ·rw [List.find?_eq_none.2]
   ·simp
   ·intro p hp
    have:intOf p.1∈(entsF (s+1) r).map (fun p=>intOf p.1):=List.mem_map_of_mem hp
    rw [ents_keys,List.mem_map]at this
    obtain⟨m,hm,he⟩:=this
    have:=(idx_ge _ _ _ hm).1
    cases hk:p.1 <;> simp [hk,Lit.sameKey,intOf]at he ⊢
    intro _
    omega
  ·rw [ents_find (s+1) r n h,show n - s=(n - (s+1))+1 by omega]
   simp
 | s,some o :: r,n,h=>by
  rw [entsF]
  rcases Nat.eq_or_lt_of_le h with rfl | h
  ·simp [same_i]
  ·rw [List.find?_cons_of_neg (by simp [same_i];omega),ents_find (s+1) r n h,show n - s=(n - (s+1))+1 by omega]
   simp
theorem ents_find_neg:∀(s:Nat) (l:List (Option Nat)) (z:Int),z < s→(entsF s l).find? (fun p=>p.1.sameKey (.int .i64 z))=none
 | s,[],z,_=>rfl
 | s,none :: r,z,h=>ents_find_neg (s+1) r z (by omega)
 | s,some o :: r,z,h=>by
  rw [entsF,List.find?_cons_of_neg (by simp [same_i];omega)]
  exact ents_find_neg (s+1) r z (by omega)
def ownAt (l:List (Option Nat)) (z:Int):Option Nat:=if z < 0 then none else(l[z.toNat]?).getD none
theorem mapD_find (l:List (Option Nat)) (z:Int):(entsF 0 l).find? (fun p=>p.1.sameKey (.int .i64 z))=(ownAt l z).map (fun o:Nat=>((.int .i64 z,.lit (.int .i64 (o:Int))):Lit × DataW Unit)):=by
 unfold ownAt
 split
 next h=>rw [ents_find_neg 0 l z (by omega)];rfl
 next h=>
  obtain⟨n,rfl⟩:∃n:Nat,z=n:=⟨z.toNat,by omega⟩
  rw [ents_find 0 l n (Nat.zero_le _),Int.toNat_natCast,Nat.sub_zero]
  match l[n]? with
  | some (some o)=>rfl
  | some none=>rfl
  | none=>rfl
theorem mapD_has (l:List (Option Nat)) (z:Int):Maps.has (mapD l) (.int .i64 z)=(ownAt l z).isSome:=by
 show(entsF 0 l).any _=_
 rw [Bool.eq_iff_iff,List.any_eq_true,←List.find?_isSome,mapD_find,Option.isSome_map]
theorem mapD_at (l:List (Option Nat)) (z:Int) (d:DataW Unit):(mapD l).atKey (.int .i64 z) d=(match ownAt l z with | some o=> .lit (.int .i64 (o:Int)) | none=>d):=by
 simp only [mapD,DataW.atKey,mapD_find]
 cases ownAt l z <;> rfl
theorem ents_del:∀(s:Nat) (l:List (Option Nat)) (n:Nat),s≤n→(entsF s l).filter (ChangeMaps.notKey (.int .i64 (n:Int)))=entsF s (l.set (n - s) none)
 | s,[],n,_=>by simp [entsF]
 | s,none :: r,n,h=>by
  rw [entsF]
  rcases Nat.eq_or_lt_of_le h with rfl | h
  ·rw [Nat.sub_self,List.set_cons_zero,entsF,List.filter_eq_self]
   intro p hp
   have:intOf p.1∈(entsF (s+1) r).map (fun p=>intOf p.1):=List.mem_map_of_mem hp
   rw [ents_keys,List.mem_map]at this
   obtain⟨m,hm,he⟩:=this
   have:=(idx_ge _ _ _ hm).1
   unfold ChangeMaps.notKey
   cases hk:p.1 <;> simp [hk,Lit.sameKey,intOf]at he ⊢
   exact .inr (by omega)
  ·rw [show n - s=(n - (s+1))+1 by omega,List.set_cons_succ,entsF,ents_del (s+1) r n h]
 | s,some o :: r,n,h=>by
  rw [entsF]
  rcases Nat.eq_or_lt_of_le h with rfl | h
  ·rw [Nat.sub_self,List.set_cons_zero,entsF,List.filter_cons_of_neg (by simp [ChangeMaps.notKey,same_i]),List.filter_eq_self]
   intro p hp
   have:intOf p.1∈(entsF (s+1) r).map (fun p=>intOf p.1):=List.mem_map_of_mem hp
   rw [ents_keys,List.mem_map]at this
   obtain⟨m,hm,he⟩:=this
   have:=(idx_ge _ _ _ hm).1
   unfold ChangeMaps.notKey
   cases hk:p.1 <;> simp [hk,Lit.sameKey,intOf]at he ⊢
   exact .inr (by omega)
  ·rw [show n - s=(n - (s+1))+1 by omega,List.set_cons_succ,entsF,List.filter_cons_of_pos (by simp [ChangeMaps.notKey,same_i];omega),ents_del (s+1) r n h]
theorem mapD_del (l:List (Option Nat)) (n:Nat):(mapD l).del (.int .i64 (n:Int))=mapD (l.set n none):=by
 show DataW.map ((entsF 0 l).filter (ChangeMaps.notKey (.int .i64 (n:Int))))=_
 rw [ents_del 0 l n (Nat.zero_le _)]
 rfl
theorem ents_ins:∀(s:Nat) (l:List (Option Nat)) (n o:Nat),s≤n→n < s+l.length→DataW.insert (.int .i64 (n:Int),.lit (.int .i64 (o:Int))) (entsF s (l.set (n - s) none))=entsF s (l.set (n - s) (some o))
 | s,[],n,_,h1,h2=>by simp at h2;omega
 | s,x :: r,n,o,h1,h2=>by
  rcases Nat.eq_or_lt_of_le h1 with rfl | h1
  ·rw [Nat.sub_self,List.set_cons_zero,List.set_cons_zero,entsF,entsF]
   match hr:entsF (s+1) r with
   | []=>rfl
   | y :: q=>
    rw [DataW.insert,if_pos]
    have hy:y∈entsF (s+1) r:=by rw [hr];simp
    have:intOf y.1∈(entsF (s+1) r).map (fun p=>intOf p.1):=List.mem_map_of_mem hy
    rw [ents_keys,List.mem_map]at this
    obtain⟨m,hm,he⟩:=this
    have:=(idx_ge _ _ _ hm).1
    have hki:∀(s:Nat) (l:List (Option Nat)) (p:Lit × DataW Unit),p∈entsF s l→∃z,p.1= .int .i64 z:=by
     intro s l
     induction l generalizing s with
     | nil=>intro p hp;simp [entsF]at hp
     | cons x r ih=>
      intro p hp
      cases x with
      | none=>exact ih _ p hp
      | some o=>
       rw [entsF,List.mem_cons]at hp
       rcases hp with rfl | hp
       ·exact⟨_,rfl⟩
       ·exact ih _ p hp
    obtain⟨z,hz⟩:=hki _ _ y hy
    rw [hz]at he ⊢
    simp [intOf]at he
    simp [Lit.before]
    omega
  ·have h3:n < (s+1)+r.length:=by simp at h2;omega
   rw [show n - s=(n - (s+1))+1 by omega,List.set_cons_succ,List.set_cons_succ]
   cases x with
   | none=>
    rw [entsF,entsF]
    exact ents_ins (s+1) r n o h1 h3
   | some y=>
    rw [entsF,entsF,DataW.insert,if_neg (by simp [Lit.before];omega),ents_ins (s+1) r n o h1 h3]
theorem mapD_put (l:List (Option Nat)) (n o:Nat) (h:n < l.length):(mapD l).put (.int .i64 (n:Int)) (.lit (.int .i64 (o:Int)))=mapD (l.set n (some o)):=by
 show DataW.map (DataW.insert _ ((entsF 0 l).filter (ChangeMaps.notKey (.int .i64 (n:Int)))))=_
 rw [ents_del 0 l n (Nat.zero_le _),ents_ins 0 l n o (Nat.zero_le _) (by omega)]
 rfl
theorem owns_len (fr:List Fr):(owns fr).length=fr.length:=by simp [owns]
theorem owns_used (fr:List Fr):(owns fr).countP Option.isSome=used fr:=by
 unfold owns used
 rw [List.countP_map]
 refine List.countP_congr fun x _=> ?_
 cases x <;> simp [ownO]
theorem owns_set (fr:List Fr) (i:Nat) (x:Fr):owns (fr.set i x)=(owns fr).set i (ownO x):=by simp [owns,List.map_set]
theorem owns_get (fr:List Fr) (i:Nat):(owns fr)[i]?=(fr[i]?).map ownO:=by simp [owns]
end Go.Proofs.YtfcfbcjiijfjgaaGreatDoor
namespace Go.Proofs.YtfcfbcjiijfjgaaGreatDoor
open Go.RowKit Go.Shelf Go.Maps
section
variable {P:Program} (w:World)
theorem run_neq_map_nil (t k e:TypeId) (p:Option Nat) (h:P.underlying t=some (.map k e)):
  (binOp .neq t (.map p) (.map none)).run P w= .ok (.bool (!p.isNone)) w:=by
 have h1:(Op.equal t (.map p) (.map none)).run P w= .ok p.isNone w:=by
  have h2:∀d,(Op.equalIn (d+1) t (.map p) (.map none)).run P w= .ok p.isNone w:=fun d=>by cases p <;> simp [Op.equalIn,run_underlying h]
  exact h2 9999
 simp only [binOp]
 simp [h1,Result.andThen]
end
theorem wpList_append_eq {P:Program} (w:World) {ops:Array Oper} {rest:List Oper} {o:Oper} {a:Act} {Q:Exit→Act→World→Prop} (hgd:o.guard=none) (s x:Operand) (t tn:TypeId)
  (ho:o.op= .call {callee:= .builtin .append,args:= #[s,x],argTypes:= #[t,tn]}) (vs vx:Value) (hs:a.eval s=vs) (hx:a.eval x=vx)
  (v':Value) (w':World) (hr:(Builtin.append_ #[t,tn] o.type #[vs,vx]).run P w= .ok v' w') (h:wpList P ops Q rest (a.put o.dst v') w'):wpList P ops Q (o :: rest) a w:=
 wpList_plain hgd fun K hK=>by
  unfold Oper.wp execOp
  simp only [ho,resolve,invoke,builtin,Sem.run_bind,Sem.run_pure,Result.andThen_ok,List.map_toArray,List.map_cons,List.map_nil,hs,hx,hr]
  exact hK _ _ h
def Own (w:World) (t:TypeId) (k:Nat) (v:Value) (n:Nat) (xs:List Value) (g:Option Nat):Prop:=
 (g=none∧n=0∧xs= []∧∃A,v= .slice A 0 0)∨
 (∃b cap cur,g=some b∧v= .slice (some ⟨b,0,none⟩) n cap∧w.heap[b]?=some (.cells cur t (0,0))∧n≤cap∧cap≤maxLen∧cur.size=cap*k∧xs.length=n*k∧cur.toList.take (n*k)=xs)
section
variable {w w':World} {t:TypeId} {k n:Nat} {v:Value} {xs:List Value} {g:Option Nat}
theorem Own.keep (h:Own w t k v n xs g) (hk:∀b,g=some b→w'.heap[b]?=w.heap[b]?):Own w' t k v n xs g:=by
 rcases h with h | ⟨b,cap,cur,h1,h2,h3,h4⟩
 ·exact .inl h
 ·exact .inr ⟨b,cap,cur,h1,h2,(hk b h1).trans h3,h4⟩
theorem Own.lt (h:Own w t k v n xs g):∀b,g=some b→b < w.heap.size:=by
 rintro b rfl
 rcases h with⟨h,_⟩ | ⟨b',cap,cur,h1,h2,h3,h4⟩
 ·cases h
 ·cases h1
  exact(Array.getElem?_eq_some_iff.1 h3).1
theorem Own.len (h:Own w t k v n xs g):xs.length=n*k:=by
 rcases h with⟨_,rfl,rfl,_⟩ | ⟨b,cap,cur,h1,h2,h3,h4,h5,h6,h7,h8⟩
 ·simp
 ·exact h7
theorem Own.form (h:Own w t k v n xs g):∃A c,v= .slice A n c∧n≤c∧c≤maxLen:=by
 rcases h with⟨_,rfl,rfl,A,rfl⟩ | ⟨b,cap,cur,h1,rfl,h3,h4,h5,h6⟩
 ·exact⟨A,0,rfl,Nat.le_refl _,Nat.zero_le _⟩
 ·exact⟨_,cap,rfl,h4,h5⟩
theorem Own.block (h:Own w t k v n xs g) (hn:0 < n):∃b c cur,g=some b∧v= .slice (some ⟨b,0,none⟩) n c∧n≤c∧c≤maxLen∧w.heap[b]?=some (.cells cur t (0,0))∧cur.size=c*k∧cur.toList.take (n*k)=xs:=by
 rcases h with⟨_,rfl,rfl,A,rfl⟩ | ⟨b,cap,cur,h1,rfl,h3,h4,h5,h6,h7,h8⟩
 ·omega
 ·exact⟨b,cap,cur,h1,rfl,h4,h5,h3,h6,h8⟩
theorem Own.cell (h:Own w t k v n xs g) {b:Nat} (hb:g=some b) (j:Nat) (hj:j < n*k):w.cell? ⟨b,j,none⟩=xs[j]?:=by
 rcases h with⟨h0,_⟩ | ⟨b',cap,cur,h1,rfl,h3,h4,h5,h6,h7,h8⟩
 ·rw [h0]at hb;cases hb
 ·rw [h1]at hb
  cases hb
  rw [←h8,List.getElem?_take,if_pos hj]
  simp [World.cell?,h3]
theorem Own.frozen (h:Own w t k v n xs g) {b:Nat} (hb:g=some b) (j:Nat):w.frozen? ⟨b,j,none⟩=false:=by
 rcases h with⟨h0,_⟩ | ⟨b',cap,cur,h1,rfl,h3,h4,h5,h6,h7,h8⟩
 ·rw [h0]at hb;cases hb
 ·rw [h1]at hb
  cases hb
  simp [World.frozen?,h3]
theorem Own.of_row {base:Nat} (h:w.ownsRow base t k v n xs):Own w t k v n xs v.ownBlock:=by
 rcases h.2 with⟨rfl,rfl⟩ | ⟨b,cap,cur,rfl,h1,h2,h3,h4,h5,h6⟩
 ·exact .inl ⟨rfl,rfl,List.eq_nil_of_length_eq_zero (by simpa using h.1),none,rfl⟩
 ·exact .inr ⟨b,cap,cur,rfl,rfl,h2,h3,h4,h5,h.1,h6⟩
theorem Own.nil (w:World) (t:TypeId) (k:Nat):Own w t k (.slice none 0 0) 0 [] none:= .inl ⟨rfl,rfl,rfl,none,rfl⟩
theorem Own.append {P:Program} (h:Own w t k v n xs g) (s ty:TypeId) (i:TypeInfo) (z:Value) (bytes:Nat) (ht:P.underlying s=some (.slice t)) (hi:P.info? t=some i) (hz:i.zero=some z) (hsize:i.size=k)
  (hby:i.bytes=bytes) (hzs:z.cells.size=k) (hk:0 < k) (ad:Addr) (c:Nat) (news:List Value) (hl:news.length=k) (hnews:∀j u,news[j]?=some u→w.cell? (ad.add j)=some u)
  (h1:∀u∈news,u.oneCell'=true) (h63:n+1≤maxLen) (hbytes:(n+1)*bytes≤140737488355328):
  ∃v' w' g',(Builtin.append_ #[s,s] ty #[v,.slice (some ad) 1 c]).run P w= .ok v' w'∧Own w' t k v' (n+1) (xs ++ news) g'∧w.grownBy w' g∧(g'=g∨g'=some w.heap.size)∧g'.isSome:=by
 rcases h with⟨rfl,rfl,rfl,A,rfl⟩ | ⟨b,cap,cur,rfl,rfl,h3,h4,h5,h6,h7,h8⟩
 ·cases A with
  | none=>
   obtain⟨v',w',hr,h2,h3,h4,h5⟩:=run_append_own_at (P:=P) w 0 s ty t i z k bytes ht hi hz hsize hby hzs hk _ 0 [] (World.ownsRow_nil w 0 t k) ad 1 c news (by simpa using hl) hnews h1 h63 hbytes (Nat.zero_le _)
   refine⟨v',w',v'.ownBlock,hr,Own.of_row h2,h3,h5,?_⟩
   rcases h2.2 with⟨rfl,h0⟩ | ⟨b,cap,cur,rfl,_⟩
   ·omega
   ·rfl
  | some a=>
   have hr:=run_append_grow (P:=P) w s ty t i z ht hi hz a 0 0 [] (by simp) (fun j u hu=>by simp at hu) ad 1 c news (by rw [hsize,Nat.one_mul];exact hl) hnews (by omega) (by omega) (by rw [hby];exact growslice_fits (by omega) hbytes)
   refine⟨_,_,some w.heap.size,hr,.inr ⟨w.heap.size,_,_,rfl,rfl,heap_alloc_new w.drew _,grownCap_ge _ _ _ _,grownCap_le_maxLen _ _ _ _ h63,?_,?_,?_⟩,?_,.inr rfl,rfl⟩
   ·have hge:=grownCap_ge w (0+1) 0 t
    simp only [Array.size_append,List.size_toArray,List.length_nil,Nat.zero_add,size_zeroCells,hzs,hl]
    simp only [Nat.zero_add]at hge
    rw [show k+(grownCap w 1 0 t - 1)*k=(1+(grownCap w 1 0 t - 1))*k by rw [Nat.add_mul,Nat.one_mul]]
    congr 1
    omega
   ·simpa using hl
   ·simp [←hl]
   ·exact⟨rfl,rfl,rfl,by simp,fun j hj _=>Below.heap_alloc _ _ _ hj⟩
 ·obtain⟨v',w',hr,h2,h3',h4',h5'⟩:=run_append_own_at (P:=P) w 0 s ty t i z k bytes ht hi hz hsize hby hzs hk _ n xs ⟨h7,.inr ⟨b,cap,cur,rfl,Nat.zero_le _,h3,h4,h5,h6,h8⟩⟩ ad 1 c news (by simpa using hl) hnews h1 h63 hbytes (Nat.zero_le _)
  refine⟨v',w',v'.ownBlock,hr,Own.of_row h2,h3',h5',?_⟩
  rcases h2.2 with⟨rfl,h0⟩ | ⟨b,cap,cur,rfl,_⟩
  ·omega
  ·rfl
end
def bv (x:UInt8):Value:= .int .u8 (x.toNat:Int)
def iv (n:Nat):Value:= .int .i64 (n:Int)
def fl (fb:List (List UInt8)):List Value:=fb.flatMap fun bs=>bs.map bv
def poolL (many bm:Nat) (left:List Nat) (fv sv:Value):List Value:=iv many :: .map (some bm) :: (left.map iv ++ [fv,sv])
def spareOf (fr:List Fr) (n:Nat):List Nat:=((List.range n).filter fun i=>frameO ⟨fr,[]⟩ i == none).reverse
structure Rep (w:World) (b:Nat) (p:Pl) (bm:Nat) (fv sv:Value) (fb:List (List UInt8)) (gf gs:Option Nat):Prop where
 ok:p.ok
 obj:Row w b 161 (poolL p.fr.length bm p.left fv sv)
 map:w.ownsMap Tryz.prog 3 (plainElem Tryz.prog 3) bm 16384 (mapD (owns p.fr))
 frm:Own w 308 256 fv fb.length (fl fb) gf
 spr:Own w 3 1 sv (spareOf p.fr fb.length).length ((spareOf p.fr fb.length).map iv) gs
 fbl:fb.length≤p.fr.length
 behind:∀i,fb.length≤i→frameO p i=none
 fbs:∀bs∈fb,bs.length=256
 same:∀(i o:Nat) (bs:List UInt8),p.fr[i]?=some (some (o,bs))→fb[i]?=some bs
def blocks (b bm:Nat) (gf gs:Option Nat):Nat→Prop:=fun k=>k=b∨k=bm∨gf=some k∨gs=some k
def Has (w:World) (b:Nat) (p:Pl) (F:Nat→Prop):Prop:=∃bm fv sv fb gf gs,Rep w b p bm fv sv fb gf gs∧F=blocks b bm gf gs
section
variable {w w':World} {b bm:Nat} {p:Pl} {fv sv:Value} {fb:List (List UInt8)} {gf gs:Option Nat} {F:Nat→Prop}
theorem Rep.keep (h:Rep w b p bm fv sv fb gf gs) (hk:∀k,blocks b bm gf gs k→w'.heap[k]?=w.heap[k]?):Rep w' b p bm fv sv fb gf gs:=by
 obtain⟨es,clock,h1,h2,h3,h4⟩:=h.map
 exact⟨h.ok,h.obj.same (hk _ (.inl rfl)),⟨es,clock,(hk _ (.inr (.inl rfl))).trans h1,h2,h3,h4⟩,h.frm.keep fun g e=>hk _ (.inr (.inr (.inl e))),h.spr.keep fun g e=>hk _ (.inr (.inr (.inr e))),h.fbl,h.behind,h.fbs,h.same⟩
theorem Rep.lt (h:Rep w b p bm fv sv fb gf gs):∀k,blocks b bm gf gs k→k < w.heap.size:=by
 rintro k (rfl | rfl | e | e)
 ·exact h.obj.lt
 ·exact h.map.lt
 ·exact h.frm.lt k e
 ·exact h.spr.lt k e
theorem Rep.below (h:Rep w b p bm fv sv fb gf gs) (hb:Below w.heap.size w w'):Rep w' b p bm fv sv fb gf gs:=h.keep fun k hk=>hb.block _ (h.lt k hk)
theorem Has.keep (h:Has w b p F) (hk:∀k,F k→w'.heap[k]?=w.heap[k]?):Has w' b p F:=by
 obtain⟨bm,fv,sv,fb,gf,gs,h1,rfl⟩:=h
 exact⟨bm,fv,sv,fb,gf,gs,h1.keep hk,rfl⟩
theorem Has.lt (h:Has w b p F):∀k,F k→k < w.heap.size:=by
 obtain⟨bm,fv,sv,fb,gf,gs,h1,rfl⟩:=h
 exact h1.lt
theorem Has.mem (h:Has w b p F):F b:=by
 obtain⟨bm,fv,sv,fb,gf,gs,h1,rfl⟩:=h
 exact .inl rfl
theorem Has.ok (h:Has w b p F):p.ok:=by
 obtain⟨bm,fv,sv,fb,gf,gs,h1,rfl⟩:=h
 exact h1.ok
theorem Has.below (h:Has w b p F) (hb:Below w.heap.size w w'):Has w' b p F:=h.keep fun k hk=>hb.block _ (h.lt k hk)
theorem Rep.ne_map (h:Rep w b p bm fv sv fb gf gs):b≠bm:=by
 rintro rfl
 obtain⟨es,clock,h1,_⟩:=h.map
 have:=h.obj.symm.trans h1
 cases this
theorem Own.cells_ty {t:TypeId} {k n:Nat} {v:Value} {xs:List Value} {g:Option Nat} (h:Own w t k v n xs g) {c:Nat} (hg:g=some c):∃cur,w.heap[c]?=some (.cells cur t (0,0)):=by
 rcases h with⟨h0,_⟩ | ⟨b',cap,cur,h1,rfl,h3,h4⟩
 ·rw [h0]at hg;cases hg
 ·rw [h1]at hg;cases hg
  exact⟨cur,h3⟩
theorem Rep.gf_ne (h:Rep w b p bm fv sv fb gf gs):gf≠some b∧gf≠some bm∧gs≠some b∧gs≠some bm∧∀k,gf=some k→gs≠some k:=by
 obtain⟨es,clock,hm,_⟩:=h.map
 refine⟨fun e=> ?_,fun e=> ?_,fun e=> ?_,fun e=> ?_,fun k e e'=> ?_⟩
 ·obtain⟨cur,hc⟩:=h.frm.cells_ty e
  have:=h.obj.symm.trans hc
  injection this with this
  injection this with _ h2
  exact absurd h2 (by decide)
 ·obtain⟨cur,hc⟩:=h.frm.cells_ty e
  have:=hm.symm.trans hc
  cases this
 ·obtain⟨cur,hc⟩:=h.spr.cells_ty e
  have:=h.obj.symm.trans hc
  injection this with this
  injection this with _ h2
  exact absurd h2 (by decide)
 ·obtain⟨cur,hc⟩:=h.spr.cells_ty e
  have:=hm.symm.trans hc
  cases this
 ·obtain⟨cur,hc⟩:=h.frm.cells_ty e
  obtain⟨cur',hc'⟩:=h.spr.cells_ty e'
  have:=hc.symm.trans hc'
  injection this with this
  injection this with _ h2
  exact absurd h2 (by decide)
theorem Rep.c0 (h:Rep w b p bm fv sv fb gf gs):w.cell? ⟨b,0,none⟩=some (.int .i64 (p.fr.length:Int)):=h.obj.cell 0
theorem Rep.c1 (h:Rep w b p bm fv sv fb gf gs):w.cell? ⟨b,1,none⟩=some (.map (some bm)):=h.obj.cell 1
theorem Rep.cl (h:Rep w b p bm fv sv fb gf gs) {o:Nat} (ho:o < 64):w.cell? ⟨b,2+o,none⟩=some (.int .i64 (leftN p o:Int)):=by
 rw [h.obj.cell,poolL,show 2+o=o+1+1 by omega,List.getElem?_cons_succ,List.getElem?_cons_succ,List.getElem?_append_left (by rw [List.length_map,h.ok.l64];exact ho),List.getElem?_map,h.ok.left_get ho]
 rfl
theorem Rep.c66 (h:Rep w b p bm fv sv fb gf gs):w.cell? ⟨b,66,none⟩=some fv:=by
 rw [h.obj.cell,poolL,List.getElem?_cons_succ,List.getElem?_cons_succ,List.getElem?_append_right (by rw [List.length_map,h.ok.l64];decide),List.length_map,h.ok.l64]
 rfl
theorem Rep.c67 (h:Rep w b p bm fv sv fb gf gs):w.cell? ⟨b,67,none⟩=some sv:=by
 rw [h.obj.cell,poolL,List.getElem?_cons_succ,List.getElem?_cons_succ,List.getElem?_append_right (by rw [List.length_map,h.ok.l64];decide),List.length_map,h.ok.l64]
 rfl
end
def Non (w:World) (v:Value):Prop:=v= .pointer none∨∃b,v= .pointer (some ⟨b,0,none⟩)∧w.cell? ⟨b,1,none⟩=some (.map none)
theorem Non.below {w w':World} {v:Value} (h:Non w v) (hb:Below w.heap.size w w'):Non w' v:=by
 rcases h with h | ⟨b,h1,h2⟩
 ·exact .inl h
 ·exact .inr ⟨b,h1,(hb.cell (p:=⟨b,1,none⟩) (lt_of_cell h2)).trans h2⟩
end Go.Proofs.YtfcfbcjiijfjgaaGreatDoor
namespace Go.Proofs.YtfcfbcjiijfjgaaGreatDoor
open Go.RowKit Go.Shelf Go.Maps
attribute [local go_sem] Oper.semAt_some
theorem num_any (n:Int) (w:World):Calls Tryz.prog 12 #[.int .i64 n] w fun e w'=>e= .returned (.int .i64 n)∧w=w':=by
 go_enter Tryz.func12,Tryz.ntmps12
 go_wp2
 go_ret
 exact⟨rfl,rfl⟩
theorem known_any (o:Int) (w:World):Calls Tryz.prog 92 #[.int .i64 o] w fun e w'=>e= .returned (.bool (ownerB o))∧w=w':=by
 unfold ownerB
 go_enter Tryz.func92,Tryz.ntmps92
 by_cases h0:0≤o
 ·have e0:decide (0≤o)=true:=decide_eq_true h0
  obtain⟨q,hq⟩:=Nm (decide (o < 64))
  rw [←hq]
  go_wp2
  go_ret
  exact⟨by simp [hq,h0],rfl⟩
 ·have e0:decide (0≤o)=false:=decide_eq_false h0
  go_wp2
  go_ret
  exact⟨by simp,rfl⟩
theorem holds_any (a m:Int) (w:World) (h1: -9223372036854775808≤a∧a≤9223372036854775807):Calls Tryz.prog 263 #[.int .i64 a,.int .i64 m] w fun e w'=>e= .returned (.bool (holdsB a m))∧w=w':=by
 unfold holdsB
 go_enter Tryz.func263,Tryz.ntmps263
 by_cases h0:0≤a
 ·have e0:decide (0≤a)=true:=decide_eq_true h0
  have e4:IntKind.i64.wrap (256 - a)=256 - a:=wrapI _ (by omega) (by omega)
  by_cases h2:a≤256
  ·have e1:decide (a≤256)=true:=decide_eq_true h2
   by_cases h3:0≤m
   ·have e2:decide (0≤m)=true:=decide_eq_true h3
    go_wp2
    go_ret
    exact⟨by simp [h0,h2,h3],rfl⟩
   ·have e2:decide (0≤m)=false:=decide_eq_false h3
    go_wp2
    go_ret
    exact⟨by simp,rfl⟩
  ·have e1:decide (a≤256)=false:=decide_eq_false h2
   go_wp2
   go_ret
   exact⟨by simp,rfl⟩
 ·have e0:decide (0≤a)=false:=decide_eq_false h0
  go_wp2
  go_ret
  exact⟨by simp,rfl⟩
theorem there_map (b bm:Nat) (w:World) (hc:w.cell? ⟨b,1,none⟩=some (.map (some bm))):Calls Tryz.prog 90 #[.pointer (some ⟨b,0,none⟩)] w fun e w'=>e= .returned (.bool true)∧w=w':=by
 have hq:=fun w=>run_neq_map_nil (P:=Tryz.prog) w 155 _ _ (some bm) Tryz.underlying155
 go_enter Tryz.func90,Tryz.ntmps90
 go_wp2
 go_ret
 exact⟨rfl,rfl⟩
theorem is_any (b n:Nat) (i:Int) (w:World) (hc:w.cell? ⟨b,0,none⟩=some (.int .i64 (n:Int))):
  Calls Tryz.prog 202 #[.pointer (some ⟨b,0,none⟩),.int .i64 i] w fun e w'=>e= .returned (.bool (decide (0≤i) && decide (i < n)))∧w=w':=by
 go_enter Tryz.func202,Tryz.ntmps202
 by_cases h0:0≤i
 ·have e0:decide (0≤i)=true:=decide_eq_true h0
  obtain⟨q,hq⟩:=Nm (decide (i < (n:Int)))
  rw [←hq]
  go_wp2
  go_ret
  exact⟨by simp [hq,h0],rfl⟩
 ·have e0:decide (0≤i)=false:=decide_eq_false h0
  go_wp2
  go_ret
  exact⟨by simp,rfl⟩
theorem law:Keyed Tryz.prog 3:=int_keyed Tryz.underlying3
theorem zeroE (w:World):(zeroValue 3).run Tryz.prog w= .ok (.int .i64 0) w:=by kernel_rfl
theorem wf_i64 {a:Int} (h1: -9223372036854775808≤a) (h2:a≤9223372036854775807):(Lit.int .i64 a).wf=true:=WalkArith.wf_i64 (by omega)
theorem keyZ {a:Int} (h1: -9223372036854775808≤a) (h2:a≤9223372036854775807):keyOf Tryz.prog 3 (.int .i64 a)=some (.int .i64 a):=keyOf_int_mk Tryz.underlying3 (wf_i64 h1 h2)
def ownN (l:List (Option Nat)) (z:Int):Nat:=(ownAt l z).getD 0
theorem mapD_ownN {l:List (Option Nat)} {z c:Int} (h:(mapD l).atKey (.int .i64 z) (.lit (.int .i64 0))= .lit (.int .i64 c)):c=ownN l z:=by
 rw [mapD_at]at h
 unfold ownN
 cases hx:ownAt l z <;> rw [hx]at h <;> simp at h ⊢
 ·exact h.symm
 ·exact h.symm
theorem owned_any (b bm n:Nat) (l:List (Option Nat)) (i:Int) (w:World) (hi: -9223372036854775808≤i∧i≤9223372036854775807) (hc:w.cell? ⟨b,1,none⟩=some (.map (some bm))) (hown:w.ownsMap Tryz.prog 3 (plainElem Tryz.prog 3) bm n (mapD l)):
  Calls Tryz.prog 204 #[.pointer (some ⟨b,0,none⟩),.int .i64 i] w fun e w'=>e= .returned (.bool (ownAt l i).isSome)∧w=w':=by
 have hkey:=keyZ hi.1 hi.2
 have hh:=mapD_has l i
 obtain⟨q,hq⟩:=Nm ((ownAt l i).isSome)
 rw [←hq]at hh ⊢
 obtain⟨D,hD⟩:=Nm (mapD l)
 rw [←hD]at hown hh
 clear hD hq
 go_enter Tryz.func204,Tryz.ntmps204
 go_wp2_with (at_lookup;refine wpList_lookup_own_ok_int _ rfl _ _ 155 rfl 3 3 .i64 law Tryz.underlying155 Tryz.underlying3 (zeroE _) bm n D rfl hown _ _ rfl hkey ?_;intro c hat hwc;rw [hh])
 go_ret
 exact⟨rfl,rfl⟩
end Go.Proofs.YtfcfbcjiijfjgaaGreatDoor
namespace Go.Proofs.YtfcfbcjiijfjgaaGreatDoor
open Go.RowKit Go.Shelf Go.Maps Go.Sort
attribute [local go_sem] Oper.semAt_some
theorem ranges_same {k:TypeId} {R:Value→Option (DataW Unit × List MemPlace)} {w w':World} {b r n:Nat} {D:DataW Unit} {left:Lit→Bool} {cnt:Nat}
  (h:w.ranges Tryz.prog k R b r n D left cnt) (hb:w'.heap[b]?=w.heap[b]?) (hr:w'.heap[r]?=w.heap[r]?):w'.ranges Tryz.prog k R b r n D left cnt:=by
 obtain⟨es,clock,since,seen,c0,h1,F,hs,hD,h2,rest⟩:=h
 exact⟨es,clock,since,seen,c0,hb.trans h1,F,hs,hD,hr.trans h2,rest⟩
theorem owns_same {k:TypeId} {R:Value→Option (DataW Unit × List MemPlace)} {w w':World} {b n:Nat} {D:DataW Unit} (h:w.ownsMap Tryz.prog k R b n D) (hb:w'.heap[b]?=w.heap[b]?):w'.ownsMap Tryz.prog k R b n D:=by
 obtain⟨es,clock,h1,rest⟩:=h
 exact⟨es,clock,hb.trans h1,rest⟩
def pairsF:Nat→List (Option Nat)→List (Int × Int)
 | _,[]=> []
 | s,none :: r=>pairsF (s+1) r
 | s,some o :: r=>((s:Int),(o:Int)) :: pairsF (s+1) r
theorem pairs_ge:∀(s:Nat) (l:List (Option Nat)),∀p∈pairsF s l,(s:Int)≤p.1
 | _,[],n,h=>by simp [pairsF]at h
 | s,none :: r,n,h=>by
  have:=pairs_ge (s+1) r n h
  omega
 | s,some o :: r,n,h=>by
  simp only [pairsF,List.mem_cons]at h
  rcases h with rfl | h
  ·exact Int.le_refl _
  ·have:=pairs_ge (s+1) r n h
   omega
theorem pairs_nodup:∀(s:Nat) (l:List (Option Nat)),(pairsF s l).Nodup
 | _,[]=>by simp [pairsF]
 | s,none :: r=>pairs_nodup (s+1) r
 | s,some o :: r=>by
  rw [pairsF,List.nodup_cons]
  exact⟨fun h=>by have:=pairs_ge _ _ _ h;simp only at this;omega,pairs_nodup (s+1) r⟩
theorem pairs_mem:∀(s:Nat) (l:List (Option Nat)) (p:Int × Int),p∈pairsF s l↔(s:Int)≤p.1∧∃o:Nat,l[(p.1 - s).toNat]?=some (some o)∧p.2=o
 | s,[],p=>by simp [pairsF]
 | s,none :: r,p=>by
  rw [pairsF,pairs_mem (s+1) r p]
  constructor
  ·rintro⟨h1,o,h2,h3⟩
   exact⟨by omega,o,by rw [show(p.1 - s).toNat=(p.1 - (s+1:Nat)).toNat+1 by omega];simpa using h2,h3⟩
  ·rintro⟨h1,o,h2,h3⟩
   rcases Int.lt_or_eq_of_le h1 with h1 | h1
   ·refine⟨by omega,o,?_,h3⟩
    rw [show(p.1 - s).toNat=(p.1 - (s+1:Nat)).toNat+1 by omega]at h2
    simpa using h2
   ·rw [←h1]at h2
    simp at h2
 | s,some x :: r,p=>by
  rw [pairsF,List.mem_cons,pairs_mem (s+1) r p]
  constructor
  ·rintro(rfl | ⟨h1,o,h2,h3⟩)
   ·exact⟨Int.le_refl _,x,by simp,rfl⟩
   ·exact⟨by omega,o,by rw [show(p.1 - s).toNat=(p.1 - (s+1:Nat)).toNat+1 by omega];simpa using h2,h3⟩
  ·rintro⟨h1,o,h2,h3⟩
   rcases Int.lt_or_eq_of_le h1 with h1 | h1
   ·refine .inr ⟨by omega,o,?_,h3⟩
    rw [show(p.1 - s).toNat=(p.1 - (s+1:Nat)).toNat+1 by omega]at h2
    simpa using h2
   ·rw [←h1]at h2
    simp at h2
    exact .inl (Prod.ext h1.symm (by rw [h3,h2]))
theorem pairs_count (k:Nat):∀(s:Nat) (l:List (Option Nat)),(pairsF s l).countP (fun p=>p.2 == (k:Int))=l.countP (fun x=>x == some k)
 | _,[]=>rfl
 | s,none :: r=>by
  rw [pairsF,pairs_count k (s+1) r,List.countP_cons]
  rfl
 | s,some o :: r=>by
  rw [pairsF,List.countP_cons,List.countP_cons,pairs_count k (s+1) r]
  congr 1
  by_cases h:o=k
  ·subst h;simp
  ·have:¬(o:Int)=(k:Int):=by omega
   simp [h,this]
theorem count_ps {l:List (Option Nat)} {ps:List (Int × Int)} (hn:(ps.map (·.1)).Nodup) (hm:∀x,x∈ps.map (·.1)↔Maps.has (mapD l) (.int .i64 x)=true) (hv:∀p∈ps,∀zd,(mapD l).atKey (.int .i64 p.1) zd= .lit (.int .i64 p.2)) (k:Nat):
  (ps.map (·.2)).countP (fun x=>x == (k:Int))=l.countP (fun x=>x == some k):=by
 rw [←pairs_count k 0 l,List.countP_map]
 refine List.Perm.countP_eq _ ?_
 have hnp:ps.Nodup:=(List.pairwise_map.1 hn).imp (fun h e=>h (congrArg _ e))
 refine(List.perm_ext_iff_of_nodup hnp (pairs_nodup 0 l)).2 fun p=> ?_
 rw [pairs_mem]
 have key:∀z:Int,∀o:Nat,ownAt l z=some o↔0≤z∧l[z.toNat]?=some (some o):=by
  intro z o
  unfold ownAt
  split
  next h=>simp;omega
  next h=>
   constructor
   ·intro h2
    refine⟨by omega,?_⟩
    cases hx:l[z.toNat]? <;> rw [hx]at h2 <;> simp at h2
    rw [h2]
   ·rintro⟨_,h2⟩
    rw [h2]
    rfl
 have hvp:∀p∈ps,∃o:Nat,ownAt l p.1=some o∧p.2=o:=by
  intro p hp
  have h2:=hv p hp .nil
  rw [mapD_at]at h2
  cases hx:ownAt l p.1 with
  | none=>rw [hx]at h2;cases h2
  | some o=>
   rw [hx]at h2
   simp at h2
   exact⟨o,rfl,h2.symm⟩
 constructor
 ·intro hp
  obtain⟨o,h1,h2⟩:=hvp p hp
  have:=(key _ _).1 h1
  exact⟨by omega,o,by simpa using this.2,h2⟩
 ·rintro⟨h1,o,h2,h3⟩
  have h4:ownAt l p.1=some o:=(key _ _).2 ⟨by omega,by simpa using h2⟩
  have h5:p.1∈ps.map (·.1):=(hm _).2 (by rw [mapD_has,h4];rfl)
  obtain⟨q,hq,e⟩:=List.mem_map.1 h5
  obtain⟨o',h6,h7⟩:=hvp q hq
  rw [e,h4]at h6
  cases h6
  have:q=p:=Prod.ext e (by rw [h7,h3])
  exact this ▸ hq
def valsS (l:List (Option Nat)) (xs:List Int):Prop:=∀k:Nat,xs.countP (fun x=>x == (k:Int))=l.countP (fun x=>x == some k)
theorem vals1_it (l:List (Option Nat)) (g bm nn:Nat) (w0:World) (hc0:w0.cell? ⟨g,0,none⟩=some (.map (some bm))) (hown0:w0.ownsMap Tryz.prog 3 (plainElem Tryz.prog 3) bm nn (mapD l)):
  It Tryz.prog 242 #[.pointer (some ⟨g,0,none⟩)] (fun x:Int=> #[.int .i64 x]) (fun _ _=>False) (fun pre _ _=>pre.length < l.countP Option.isSome) (fun k=>k=g∨k=bm) (valsS l) (fun _=>True) w0:=by
 intro l' J Jx W hpW hsW hJ hJx hY h0
 have hc:W.cell? ⟨g,0,none⟩=some (.map (some bm)):=(World.cell?_of_block (hpW g (.inl rfl))).trans hc0
 have hown:=owns_same hown0 (hpW bm (.inr rfl))
 have hgl:g < W.heap.size:=lt_of_cell hc
 have hbl:=hown.lt
 have HV:=Lh (fun ps hn hm hv=>(show valsS l _ from fun k=>count_ps (l:=l) (ps:=ps) hn hm hv k))
 have HN:=Lh (mapD_size l)
 obtain⟨D,hD⟩:=Nm (mapD l)
 rw [←hD]at hown HV HN
 obtain⟨S,hS⟩:=Nm (valsS l)
 rw [←hS]at HV ⊢
 clear hD hS hown0 hc0 hpW hsW
 refine(callsIn_wide (n:=1)).1 ?_
 refine callsIn_of_wp Tryz.func242 rfl trivial ?_ rfl
 simp only [Tryz.ntmps242,List.size_toArray,List.length_cons,List.length_nil,Nat.reduceAdd,Nat.reduceSub,Array.replicate_succ,Array.replicate_zero,List.push_toArray,List.append_toArray,List.nil_append,List.cons_append]
 gi_wp2_with (first
  | (gi_at_range;refine wpListIn_range_own _ rfl _ 155 rfl 3 3 law Tryz.underlying155 _ bm nn _ rfl hown ?_;intro wr0 hrg0 hg0 hs0)
  | gi_in)
 gi_loopw [4] (fun _ wr=>∃(left:Lit→Bool) (cnt:Nat) (ps:List (Int × Int)) (O:Nat→Prop),wr.ranges Tryz.prog 3 (plainElem Tryz.prog 3) bm W.heap.size nn D left cnt∧Hid (ps.length+cnt≤Maps.size D)∧CollectedI D left (ps.map (·.1))∧Hid (∀p∈ps,∀zd,D.atKey (.int .i64 p.1) zd= .lit (.int .i64 p.2))∧J (ps.map (·.2)) O wr∧
   W.heap.size+1≤wr.heap.size∧(∀b,O b→W.heap.size+1≤b∧b < wr.heap.size))
  (fun _ wr=>wr.rangeLeft bm W.heap.size)
 case atStart=>
  exact⟨_,_,[],fun _=>False,hrg0,Lh (by simp),CollectedI.start D,Lh (by simp),hJ [] _ W wr0 none h0 hg0 (fun r e=>by cases e),by omega,fun b (h:False)=>h.elim⟩
 case round=>
  obtain⟨left,cnt,ps,O,hrg,hcs,hC,hV,hJs,hws,hO⟩:=hrel
  clear hs0 hg0 hrg0
  gi_wp2_with (first
   | (gi_at_next;refine wpListIn_next_ranges _ rfl _ rfl 3 law (plainElem Tryz.prog 3) encZ (Value.int .i64) (fun key kl hk=>by obtain⟨x,hx,_⟩:=Maps.keyOf_i64 Tryz.underlying3 hk;exact⟨x,hx⟩) (fun v y hv=>by obtain⟨c,rfl,_⟩:=plainElem_int_inv Tryz.underlying3 hv;exact⟨c,rfl⟩) bm W.heap.size nn _ _ _ rfl hrg ?_ ?_)
   | gi_in)
  ·intro hc0 hl0
   gi_wp2
   go_end0
   exact itEnd.all (HV.out ps hC.1 (fun x=>by rw [hC.2 x,hl0];simp) hV.out) hJs
  ·intro x c kl yd yp w2 cnt2 hkey hlk hv hat hrg2 hlt hg2 hs2 hen
   obtain⟨x',ex,rfl,_⟩:=Maps.keyOf_i64 Tryz.underlying3 hkey
   obtain rfl:x=x':=encZ_inj ex
   obtain⟨c',ec,ez,_⟩:=plainElem_int_inv Tryz.underlying3 hv
   obtain rfl:c=c':=by simpa using ec
   obtain rfl:yd= .lit (.int .i64 c):=(Prod.mk.inj ez).1
   have hJ2:J (ps.map (·.2)) O w2:=hJ _ _ wr w2 (some W.heap.size) hJs hg2 (fun r e=>by cases e;exact⟨Nat.le_refl _,fun h=>by have:=(hO _ h).1;omega⟩)
   obtain⟨fn,tmps,assign,body,hy,hR⟩:=hY (ps.map (·.2)) c O w2 (by omega) (fun b h=>by have:=hO b h;omega) hJ2 (by have:=hcs.out;rw [HN.out]at this;rw [List.length_map];omega) (fun b (h:False)=>h.elim)
   have hcs2:=Lh (show(ps ++ [(x,c)]).length+cnt2≤Maps.size D from by have:=hcs.out;simp;omega)
   have hC2:CollectedI D (fun z=>left z && !z.sameKey (.int .i64 x)) ((ps ++ [(x,c)]).map (·.1)):=by simpa using hC.step hlk hat
   have hV2:=Lh (show ∀p∈ps ++ [(x,c)],∀zd,D.atKey (.int .i64 p.1) zd= .lit (.int .i64 p.2) from fun p hp=>(List.mem_append.1 hp).elim (hV.out p) (fun e=>by simp at e;subst e;exact hat))
   have hb2:bm < w2.heap.size:=by omega
   have hws2:W.heap.size+1≤w2.heap.size:=by omega
   have hO2:∀b,O b→W.heap.size+1≤b∧b < w2.heap.size:=fun b h=>by have:=hO b h;omega
   clear hs2 hat hC hV hcs
   gi_wp2
   refine hR.mono ?_
   rintro e W3 ⟨hk,(⟨rfl,hJ3⟩ | ⟨rfl,hJx3⟩)⟩
   ·have hrg3:=ranges_same hrg2 (hk.same bm hb2 (.inl (.inr rfl))) (hk.same W.heap.size (by omega) (.inr ⟨Nat.le_refl _,fun h=>by have:=(hO2 _ h).1;omega,fun h=>h⟩))
    gi_wp2
    go_roundw
    case rel=>exact⟨_,cnt2,ps ++ [(x,c)],_,hrg3,hcs2,hC2,hV2,by simpa using hJ3,Nat.le_trans hws2 hk.size,nextO_bound (M:=fun _=>False) hO2 hws2 hk.size⟩
    case measure=>rw [hrg3.left_eq,hrg.left_eq];exact hlt
   ·gi_wp2
    refine bodyPost_ret (results_none rfl _ _ _) rfl ?_
    exact itEnd.part trivial hJx3
theorem Keep.grown {F:Nat→Prop} {w V V':World} {row:Option Nat} (h:Keep F w V) (hg:V.grownBy V' row) (hr:∀r,row=some r→w.heap.size≤r∨F r):Keep F w V':=
 ⟨hg.os.trans h.os,hg.tape.trans h.tape,hg.output.trans h.output,Nat.le_trans h.size hg.size,fun k hk hf=>(hg.block k (Nat.lt_of_lt_of_le hk h.size) (fun e=>by
  rcases hr k e.symm with h1 | h1
  ·omega
  ·exact hf h1)).trans (h.block k hk hf)⟩
theorem values_any (m:Option Nat) (w:World):Calls Tryz.prog 166 #[.map m] w fun e w'=>
  e= .returned (.func (.func 242) #[] #[.pointer (some ⟨w.heap.size,0,none⟩)])∧w.alloc (.cells #[.map m] 155)=w':=by
 go_enter Tryz.func166,Tryz.ntmps166
 go_wp2
 go_ret
 exact⟨rfl,rfl⟩
theorem has1_any (x:Int) (t k:Nat) (w:World) (hc:w.cell? ⟨t,0,none⟩=some (.int .i64 (k:Int))):Calls Tryz.prog 167 #[.int .i64 x,.pointer (some ⟨t,0,none⟩)] w fun e w'=>e= .returned (.bool (x == (k:Int)))∧w=w':=by
 have h1:(x == (k:Int))=decide (x=(k:Int)):=rfl
 rw [h1]
 go_enter Tryz.func167,Tryz.ntmps167
 go_wp2
 go_ret
 exact⟨by simp,rfl⟩
section
variable (w:World) (t k:Nat)
def cI (pre:List Int) (_:Nat→Prop) (V:World):Prop:=
 Boxed V w.heap.size 67 (.func (.func 167) #[] #[.pointer (some ⟨t,0,none⟩)])∧Boxed V (w.heap.size+1) 3 (.int .i64 (pre.countP (fun x=>x == (k:Int)):Nat))∧Below w.heap.size w V
end
theorem cI.abid {w:World} {t k B:Nat} (hB:w.heap.size+2≤B):Abid B (cI w t k):=by
 rintro s O V V' row ⟨h1,h2,h3⟩ hg hr
 have hne:∀k,k < B→some k≠row:=fun k hk e=>by have:=(hr k e.symm).1;omega
 exact⟨h1.kept hg (hne _ (by omega)),h2.kept hg (hne _ (by omega)),h3.grown hg h3.size (fun r e=>by have:=(hr r e).1;omega)⟩
theorem counted_any (l:List (Option Nat)) (g bm nn t k:Nat) (w:World) (hl:l.length≤16384) (hc:w.cell? ⟨g,0,none⟩=some (.map (some bm))) (hown:w.ownsMap Tryz.prog 3 (plainElem Tryz.prog 3) bm nn (mapD l)) (hk:w.cell? ⟨t,0,none⟩=some (.int .i64 (k:Int))):
  Calls Tryz.prog 165 #[.func (.func 242) #[] #[.pointer (some ⟨g,0,none⟩)],.func (.func 167) #[] #[.pointer (some ⟨t,0,none⟩)]] w fun e w'=>
   e= .returned (.int .i64 (l.countP (fun x=>x == some k):Nat))∧Below w.heap.size w w':=by
 have hgl:=lt_of_cell hc
 have htl:=lt_of_cell hk
 simp only at hgl htl
 have hbl:=hown.lt
 have HL:=Lh hl
 refine calls_marks Tryz.func165 rfl ?_
 simp only [Tryz.ntmps165,List.size_toArray,List.length_cons,List.length_nil,Nat.reduceAdd,Nat.reduceSub,Array.replicate_succ,Array.replicate_zero,List.push_toArray,List.append_toArray,List.nil_append,List.cons_append]
 go_wp2_with fail
 obtain⟨w2,hw2⟩:=Nm ((w.alloc (Obj.cells #[Value.func (Fn.func 167) #[] #[Value.pointer (some ⟨t,0,none⟩)]] 67)).alloc (Obj.cells #[Value.int IntKind.i64 0] 3))
 have hs2:w2.heap.size=w.heap.size+2:=by rw [hw2];simp
 have hB2:Below w.heap.size w w2:=by rw [hw2];exact below2 _ _ _
 have hX1:Boxed w2 w.heap.size 67 (.func (.func 167) #[] #[.pointer (some ⟨t,0,none⟩)]):=by rw [hw2];exact(Boxed.new w _ _).alloc _
 have hX2:Boxed w2 (w.heap.size+1) 3 (.int .i64 0):=by
  have h:=Boxed.new (w.alloc (Obj.cells #[Value.func (Fn.func 167) #[] #[Value.pointer (some ⟨t,0,none⟩)]] 67)) 3 (.int .i64 0)
  rw [World.size_alloc]at h
  rw [hw2]
  exact h
 have hit:=vals1_it l g bm nn w2 ((hB2.cell (p:=⟨g,0,none⟩) hgl).trans hc) (owns_same hown (hB2.block _ hbl))
 have hk2:Hid (∀V,Below w.heap.size w V→V.cell? ⟨t,0,none⟩=some (.int .i64 (k:Int))):=Lh fun V hb=>(hb.cell (p:=⟨t,0,none⟩) htl).trans hk
 rw [←hw2]
 clear hw2 hc hown hk hl
 refine wpIn_wide.1 (wpIn_range_it (gf:=242) (lb:= #[.pointer (some ⟨g,0,none⟩)]) rfl (enters_of Tryz.func242 (by kernel_rfl) rfl) hit (fun k hk=>by rcases hk with rfl | rfl <;> omega) (fun _=>rfl) (fun _ _ _ _ _ h=>h)
  (cI w t k) (fun _ _ _ _=>False) (cI.abid (by omega)) (fun _ _ _ _ _ _ h _ _=>h) ⟨hX1,hX2,hB2⟩
  (fun x=>{tmps:= #[.func (.func 242) #[] #[.pointer (some ⟨g,0,none⟩)],.func (.func 167) #[] #[.pointer (some ⟨t,0,none⟩)],undef,.pointer (some ⟨w.heap.size,0,none⟩),.int .i64 0,.pointer (some ⟨w.heap.size+1,0,none⟩),.int .i64 x,.func (.func 242) #[] #[.pointer (some ⟨g,0,none⟩)],.int .i64 x,undef,undef,undef,undef,undef,undef],defers:= []}) ?assign ?body ?done ?stop)
 case assign=>
  intro l' x W' K hK
  simp only []
  gi_wp2
  exact hK
 case body=>
  rintro l' pre x O V hVs hO ⟨hx1,hx2,hbl3⟩ hpr _
  have hh:=Lh (fun V hb=>has1_any x t k V (hk2.out V hb))
  have e1:=hx1.cell
  obtain⟨q,hq⟩:∃q,(x == (k:Int))=q:=⟨_,rfl⟩
  rw [hq]at hh
  have hn:(pre ++ [x]).countP (fun x=>x == (k:Int))=pre.countP (fun x=>x == (k:Int))+(if q=true then 1 else 0):=by
   rw [List.countP_append,List.countP_singleton,hq]
  have HN:=Lh hn
  obtain⟨n,hn0⟩:=Nm (pre.countP (fun x=>x == (k:Int)))
  rw [←hn0]at hx2 HN
  clear hn hit hX1 hX2
  have hnb:n < 16384:=by
   have h1:n≤pre.length:=by rw [hn0];exact List.countP_le_length
   have h2:l.countP Option.isSome≤l.length:=List.countP_le_length
   have:=HL.out
   omega
  have hwr:IntKind.i64.wrap ((n:Int)+1)=((n+1:Nat):Int):=by rw [wrapI _ (by omega) (by omega)];rfl
  clear hn0 hpr hq
  cases q
  ·gi_wp2_with fail
   refine⟨trivial,rfl,CallsIn.inRound l' ((callsIn_wide.2 (hh.out _ hbl3)).mono ?_)⟩
   rintro e w1 ⟨rfl,rfl⟩
   have hfin:=Lh (show Keeps (fun k=>k=g∨k=bm) w2.heap.size O (fun _=>False) V V∧cI w t k (pre ++ [x]) (nextO O (fun _=>False) V V) V from
    ⟨Keeps.refl _,hx1,by rw [HN.out];exact hx2,hbl3⟩)
   gi_wp2
   exact hfin.out
  ·gi_wp2_with fail
   refine⟨trivial,rfl,CallsIn.inRound l' ((callsIn_wide.2 (hh.out _ hbl3)).mono ?_)⟩
   rintro e w1 ⟨rfl,rfl⟩
   have i0:=hx2.cell
   have i1:=hx2.frozen
   obtain⟨W',hW'⟩:∃W',W'=V.setCell ⟨w.heap.size+1,0,none⟩ (.int .i64 ((n+1:Nat):Int)):=⟨_,rfl⟩
   have hfin:=Lh (show Keeps (fun k=>k=g∨k=bm) w2.heap.size O (fun _=>False) V W'∧cI w t k (pre ++ [x]) (nextO O (fun _=>False) V W') W' from by
    have hws:W'.heap.size=V.heap.size:=by rw [hW'];simp [World.setCell]
    have hoth:∀k,k≠w.heap.size+1→W'.heap[k]?=V.heap[k]?:=fun k h1=>by rw [hW',heap_set h1]
    refine⟨⟨by omega,fun k _ hp=>hoth k ?_⟩,(hoth _ (by omega)).trans hx1,?_,by rw [hW'];exact hbl3.setCell (by simp) _⟩
    ·rcases hp with(rfl | rfl) | ⟨h,_⟩ <;> omega
    ·rw [HN.out]
     show Boxed W' (w.heap.size+1) 3 (.int .i64 ((n+1:Nat):Int))
     rw [hW']
     exact hx2.set _)
   rw [hW']at hfin
   clear hW'
   gi_wp2
   exact hfin.out
 case done=>
  rintro xs O V hall ⟨hx1,hx2,hbl3⟩ hD
  rw [hall k]at hx2
  have j0:=hx2.cell
  have hfin:=Lh (show Below w.heap.size w (V.putObj w2.heap.size (.deferred none)) from hbl3.grown (putObj_grown V _ _) hbl3.size (fun r e=>by cases e;omega))
  clear hit hX1 hX2 hx1 hx2 hbl3
  go_wp2
  refine⟨by simp,.inl ⟨_,_,rfl,run_takeDeferred hD,?_⟩⟩
  exact⟨_,results_tmp (t:=4) rfl _ _ _,rfl,hfin.out⟩
 case stop=>
  rintro c' pre' O V hall h hD
  exact h.elim
theorem isO_own (k:Nat) (x:Fr):(ownO x == some k)=isO k x:=by
 cases x with
 | none=>rfl
 | some p=>simp [ownO,isO]
theorem owns_taken (fr:List Fr) (k:Nat):(owns fr).countP (fun x=>x == some k)=taken fr k:=by
 unfold owns taken
 rw [List.countP_map]
 exact List.countP_congr fun x _=>by simp [isO_own]
theorem has_map (b bm nn o:Nat) (fr:List Fr) (w:World) (hl:fr.length≤16384) (hc:w.cell? ⟨b,1,none⟩=some (.map (some bm))) (hown:w.ownsMap Tryz.prog 3 (plainElem Tryz.prog 3) bm nn (mapD (owns fr))):
  Calls Tryz.prog 94 #[.pointer (some ⟨b,0,none⟩),.int .i64 (o:Int)] w fun e w'=>e= .returned (.int .i64 (taken fr o:Int))∧Below w.heap.size w w':=by
 have hbl:=lt_of_cell hc
 simp only at hbl
 have hml:=hown.lt
 have h1:=Lh (fun m w=>values_any m w)
 have h2:=Lh (fun V (hb:Below w.heap.size w V) (g t:Nat) h h2=>counted_any (owns fr) g bm nn t o V (by rw [owns_len];exact hl) h (owns_same hown (hb.block _ hml)) h2)
 rw [owns_taken]at h2
 have hc2:∀ob,(w.alloc ob).cell? ⟨b,1,none⟩=some (.map (some bm)):=fun ob=>(World.cell?_alloc_lt _ _ _ hbl).trans hc
 obtain⟨n,hn⟩:=Nm (taken fr o)
 rw [←hn]at h2 ⊢
 have hB:=Lh (below2 w (.cells #[.int .i64 (o:Int)] 3) (.cells #[.map (some bm)] 155))
 clear hn hown hc
 go_enter Tryz.func94,Tryz.ntmps94
 go_wp2_with fail
 refine(h1.out _ _).mono ?_
 rintro e w1 ⟨rfl,rfl⟩
 go_wp2_with fail
 refine(h2.out _ hB.out (w.heap.size+1) w.heap.size ?_ ?_).mono ?_
 ·have:=Row.cell (Row.new (w.alloc (.cells #[.int .i64 (o:Int)] 3)) 155 [.map (some bm)]) 0
  rw [World.size_alloc]at this
  exact this
 ·exact(World.cell?_alloc_lt _ _ _ (by simp)).trans (cell_alloc_new _ _ _ _)
 rintro e w2 ⟨rfl,hb2⟩
 have hfin:=Lh (show Below w.heap.size w w2 from hB.out.trans (hb2.mono (by simp;omega)))
 clear hb2 h2
 go_wp2
 go_ret
 exact⟨rfl,hfin.out⟩
theorem has_any {b bm o:Nat} {p:Pl} {fv sv:Value} {fb:List (List UInt8)} {gf gs:Option Nat} {w:World} (h:Rep w b p bm fv sv fb gf gs):
  Calls Tryz.prog 94 #[.pointer (some ⟨b,0,none⟩),.int .i64 (o:Int)] w fun e w'=>e= .returned (.int .i64 (taken p.fr o:Int))∧Below w.heap.size w w':=
 has_map b bm 16384 o p.fr w h.ok.most h.c1 h.map
theorem taken_le (p:Pl) (h:p.ok) (o:Nat):taken p.fr o≤16384:=Nat.le_trans (taken_used _ _) (Nat.le_trans (used_len _) h.most)
theorem left_le (p:Pl) (h:p.ok) (o:Nat):leftN p o≤16384:=by
 rcases Nat.lt_or_ge o 64 with ho | ho
 ·have:=sum_ge _ _ _ (h.left_get ho)
  have:=h.sum
  have:=h.most
  omega
 ·unfold leftN
  rw [List.getElem?_eq_none (by rw [h.l64];exact ho)]
  simp
theorem reserved_any {b bm o:Nat} {p:Pl} {fv sv:Value} {fb:List (List UInt8)} {gf gs:Option Nat} {w:World} (h:Rep w b p bm fv sv fb gf gs) (ho:o < 64):
  Calls Tryz.prog 96 #[.pointer (some ⟨b,0,none⟩),.int .i64 (o:Int)] w fun e w'=>e= .returned (.int .i64 (resN p o:Int))∧Below w.heap.size w w':=by
 have hh:=Lh (fun V (hb:Below w.heap.size w V)=>(show Calls Tryz.prog 94 #[.pointer (some ⟨b,0,none⟩),.int .i64 (o:Int)] V (fun e w'=>e= .returned (.int .i64 (taken p.fr o:Int))∧Below w.heap.size w w') from
  (has_any (o:=o) (h.below hb)).mono fun e w' ⟨h1,h2⟩=>⟨h1,hb.trans (h2.mono hb.size)⟩))
 have hcl:=h.cl ho
 have hlt:=h.obj.lt
 have hwr:IntKind.i64.wrap ((leftN p o:Int)+(taken p.fr o:Int))=(resN p o:Int):=by
  have:=taken_le p h.ok o
  have:=left_le p h.ok o
  rw [wrapI _ (by omega) (by omega)]
  unfold resN
  omega
 obtain⟨x,hx⟩:=Nm (leftN p o)
 obtain⟨y,hy⟩:=Nm (taken p.fr o)
 obtain⟨z,hz⟩:=Nm (resN p o)
 rw [←hx,←hy,←hz]at hwr
 rw [←hy]at hh
 rw [←hx]at hcl
 rw [←hz]
 have HSA:=Lh (fun W (hB:Below w.heap.size w W)=>(show W.cell? ⟨b,2+o,none⟩=some (.int .i64 (x:Int))∧Below w.heap.size w W from⟨(hB.cell (p:=⟨b,2+o,none⟩) hlt).trans hcl,hB⟩))
 have hdr:=Lh (show Below w.heap.size w w.drew from Br.drew)
 have i0:(0:Int)≤(o:Int):=by omega
 have i1:(o:Int) < 64:=by omega
 clear hx hy hz h
 go_enter Tryz.func96,Tryz.ntmps96
 go_wp2_with fail
 go_region_held3 (fun W=>W.cell? ⟨b,2+o,none⟩=some (.int .i64 (x:Int))∧Below w.heap.size w W)
  (first | exact HSA.out _ hdr.out | exact HSA.out _ (by assumption) | (go_split_ands;exact HSA.out _ (by assumption)))
  (first | (go_at_call 94;refine(hh.out _ (by go_split_ands;assumption)).mono ?_;rintro e w2 ⟨rfl,hb2⟩))
 go_wp2
 go_ret
 exact⟨rfl,hb2⟩
theorem sum_take_succ (l:List Nat) (k:Nat) (h:k < l.length):(l.take (k+1)).sum=(l.take k).sum+l[k]:=by
 rw [List.take_succ_eq_append_getElem h,List.sum_append]
 simp
theorem sum_take_le (l:List Nat) (k:Nat):(l.take k).sum≤l.sum:=by
 conv=>rhs;rw [←List.take_append_drop k l,List.sum_append]
 omega
theorem int_info:(Tryz.prog.info? 3).map (fun i=>(i.zero,i.size,i.bytes))=some (some (.int .i64 0),1,8):=by kernel_rfl
theorem run_index64 (w:World) (l:List Nat) (k:Nat) (hk:k < l.length) (h64:k < 64):
  (Instr.index 156 (.agg (l.map iv).toArray) (.int .i64 (k:Int))).run Tryz.prog w= .ok (.int .i64 (l[k]:Int)) w:=by
 obtain⟨i0,hi,hz0,hz1,hz2⟩:=info_parts int_info
 simp [Instr.index,run_underlying Tryz.underlying156,run_underlying Tryz.underlying3,asIntOf,sizeOf,typeInfo,hi,hz1,part,isAgg,go_sem,h64]
 rw [List.getElem?_eq_getElem hk]
 rfl
theorem room_any {b bm:Nat} {p:Pl} {fv sv:Value} {fb:List (List UInt8)} {gf gs:Option Nat} {w:World} (h:Rep w b p bm fv sv fb gf gs):
  Calls Tryz.prog 97 #[.pointer (some ⟨b,0,none⟩)] w fun e w'=>e= .returned (.int .i64 (p.room:Int))∧∃m,w'=w.drewN m:=by
 have hc0:=h.c0
 have hc1:=h.c1
 have hl64:=h.ok.l64
 have hroom:=h.ok.room_eq
 have hmost:=h.ok.most
 have hlen:∀m ty,(Builtin.len_ #[155] ty #[.map (some bm)]).run Tryz.prog (w.drewN m)= .ok (.int .i64 (used p.fr:Int)) (w.drewN m):=fun m ty=>by
  have:=(owns_same (w':=w.drewN m) h.map rfl).len Tryz.underlying155 ty
  rw [mapD_size,owns_used]at this
  exact this
 have hlen0:=fun ty=>(show(Builtin.len_ #[155] ty #[.map (some bm)]).run Tryz.prog w= .ok (.int .i64 (used p.fr:Int)) w from hlen 0 ty)
 have hrow:w.rangeAt b 2 (p.left.map iv):=fun j v hj=>by
  rw [List.getElem?_map,Option.map_eq_some_iff]at hj
  obtain⟨x,hx,rfl⟩:=hj
  have hj64:j < 64:=by rw [←hl64];exact(List.getElem?_eq_some_iff.1 hx).1
  rw [h.cl hj64]
  have:=h.ok.left_get hj64
  rw [hx]at this
  injection this with this
  rw [this]
  rfl
 have hsz:(Tryz.prog.info? 156).map (·.size)=some (p.left.map iv).length:=by rw [List.length_map,hl64];kernel_rfl
 have HRW:=Lh (fun m=>(show(w.drewN m).rangeAt b 2 (p.left.map iv) from hrow))
 have HSZ:=Lh hsz
 have hix:=Lh (fun W k hk=>run_index64 W p.left k hk (by rw [←hl64];exact hk))
 have hst:=Lh (fun k=>sum_take_le p.left k)
 have hss:=Lh (fun k hk=>sum_take_succ p.left k hk)
 obtain⟨N,hN⟩:=Nm (p.fr.length)
 obtain⟨U,hU⟩:=Nm (used p.fr)
 obtain⟨R,hR⟩:=Nm (p.room)
 obtain⟨L,hL⟩:=Nm (p.left)
 rw [←hN]at hc0 hroom hmost
 rw [←hU]at hlen hlen0 hroom
 rw [←hR]at hroom ⊢
 rw [←hL]at hroom hl64 HRW HSZ hix hst hss
 have hw1:IntKind.i64.wrap ((N:Int) - (U:Int))=(N:Int) - (U:Int):=wrapI _ (by omega) (by omega)
 have HR:=Lh hroom
 have HM:=Lh hmost
 have H64:=Lh hl64
 clear hN hU hR hL hrow hsz h hroom hmost hl64
 go_enter Tryz.func97,Tryz.ntmps97
 go_wp2_with fail
 go_quiet (fail)
 go_wp2_with (refine wpList_load_mid rfl 156 (.tmp 18) rfl b 2 rfl (L.map iv) _ (HRW.out _) Tryz.underlying156 rfl HSZ.out ?_)
 go_loopw [3,20] (fun s3 s20 wr=>∃k:Nat,k≤64∧s20= .int .i64 (k:Int)∧s3= .int .i64 ((N:Int) - (U:Int) - ((L.take k).sum:Int))∧∃m,wr=w.drewN m) (fun _ s20 _=>64 - (_root_.Go.RowKit.intOf s20).toNat)
 case atStart=>exact⟨0,by omega,rfl,by simp,_,rfl⟩
 case round=>
  obtain⟨k,hk,rfl,rfl,m,rfl⟩:=hrel
  have h1:=hst.out k
  have hrm:=HR.out
  have hmt:=HM.out
  by_cases hlt:k < 64
  ·have hkl:k < L.length:=by rw [H64.out];exact hlt
   have e0:decide ((k:Int) < 64)=true:=Dt (by omega)
   have hi:=hix.out (w.drewN m) k hkl
   have h2:=hst.out (k+1)
   have h3:=hss.out k hkl
   obtain⟨x,hx⟩:=Nm (L[k])
   rw [←hx]at hi h3
   have hw2:IntKind.i64.wrap ((N:Int) - (U:Int) - ((L.take k).sum:Int) - (x:Int))=(N:Int) - (U:Int) - ((L.take (k+1)).sum:Int):=by rw [wrapI _ (by omega) (by omega)];omega
   obtain⟨y,hy⟩:=Nm ((L.take (k+1)).sum)
   have HY:=Lh hy
   rw [←hy]at hw2
   clear hx h3 h2 h1 hy hrm hmt
   go_wp2
   go_roundw
   case rel=>exact⟨k+1,by omega,by go_num,by rw [←HY.out],m,rfl⟩
   case measure=>simp [_root_.Go.RowKit.intOf];omega
  ·obtain rfl:k=64:=by omega
   rw [List.take_of_length_le (by rw [H64.out];omega)]at h1 ⊢
   have he:(N:Int) - (U:Int) - (L.sum:Int)=(R:Int):=by omega
   rw [he]
   clear he h1 hrm hmt
   go_wp2
   go_ret
   exact⟨rfl,m,rfl⟩
structure Ask where
 cf:Nat
 first:Array Value
 cap:Array Value
 e:Int
 ans:Bool
def Ask.val (q:Ask):Value:= .func (.func q.cf) q.first q.cap
def askCells (qs:List Ask):List Value:=qs.flatMap fun q=> [q.val,.int .i64 q.e]
def askE:List Ask→Int
 | []=>0
 | q :: r=>if q.ans then askE r else q.e
theorem ask_cells:∀(qs:List Ask) (k:Nat) (h:k < qs.length),(askCells qs)[k*2]?=some qs[k].val∧(askCells qs)[k*2+1]?=some (.int .i64 qs[k].e)
 | q :: r,0,_=>⟨rfl,rfl⟩
 | q :: r,k+1,h=>by
  have:=ask_cells r k (by simpa using h)
  rw [show(k+1)*2=k*2+1+1 by omega]
  exact this
theorem askE_at:∀(qs:List Ask) (k:Nat) (h:k < qs.length),(∀j (hj:j < qs.length),j < k→qs[j].ans=true)→qs[k].ans=false→askE qs=qs[k].e
 | q :: r,0,_,_,h=>by simp at h;simp [askE,h]
 | q :: r,k+1,hk,ha,h=>by
  have h0:q.ans=true:=ha 0 (by simp) (by omega)
  rw [askE,if_pos h0]
  exact askE_at r k (by simpa using hk) (fun j hj hjk=>ha (j+1) (by simpa using hj) (by omega)) h
theorem askE_end:∀(qs:List Ask),(∀j (hj:j < qs.length),qs[j].ans=true)→askE qs=0
 | [],_=>rfl
 | q :: r,ha=>by
  have h0:q.ans=true:=ha 0 (by simp)
  rw [askE,if_pos h0]
  exact askE_end r fun j hj=>ha (j+1) (by simpa using hj)
def Asks (w:World) (qs:List Ask):Prop:=
 ∀k (hk:k < qs.length),(∀j (hj:j < qs.length),j < k→qs[j].ans=true)→(∀args V,(callFunc qs[k].cf args).run Tryz.prog V= .ok (.enter qs[k].cf args) V)∧
  ∀V,Below w.heap.size w V→Calls Tryz.prog qs[k].cf (qs[k].first ++ qs[k].cap) V fun e V'=>e= .returned (.bool qs[k].ans)∧Below V.heap.size V V'
theorem asked_any (qs:List Ask) (g n c:Nat) (w:World) (hn:qs.length=n) (hm:n≤100) (hr:Row w g 154 (askCells qs)) (hq:Asks w qs):
  Calls Tryz.prog 76 #[.slice (some ⟨g,0,none⟩) n c] w fun e w'=>e= .returned (.int .i64 (askE qs))∧Below w.heap.size w w':=by
 have hgl:=hr.lt
 have HC:=Lh (fun k hk=>ask_cells qs k hk)
 have HA:=Lh (fun k h1 h2 h3=>askE_at qs k h1 h2 h3)
 have HE:=Lh (askE_end qs)
 have HQ:=Lh hq
 have HR:=Lh hr
 obtain⟨E,hE⟩:=Nm (askE qs)
 rw [←hE]at HA HE ⊢
 clear hE hq hr
 go_enter Tryz.func76,Tryz.ntmps76
 go_wp2_with fail
 go_loopw [7] (fun s wr=>∃k:Nat,k≤n∧s= .int .i64 (k:Int)∧Hid (∀j (hj:j < qs.length),j < k→qs[j].ans=true)∧Below w.heap.size w wr) (fun s _=>n - (_root_.Go.RowKit.intOf s).toNat)
 case atStart=>exact⟨0,by omega,rfl,Lh (fun j hj h=>absurd h (by omega)),Br⟩
 case round=>
  obtain⟨k,hk,rfl,hall,hb⟩:=hrel
  by_cases hlt:k < n
  ·have hkl:k < qs.length:=by omega
   have e0:decide ((k:Int) < (n:Int))=true:=Dt (by omega)
   have i0:(0:Int)≤(k:Int):=by omega
   have i1:(k:Int) < (n:Int):=by omega
   obtain⟨c0,c1⟩:=HC.out k hkl
   have hc0:wr.cell? ⟨g,k*2,none⟩=some qs[k].val:=((hb.cell (p:=⟨g,k*2,none⟩) hgl).trans (HR.out.cell _)).trans c0
   have hc1:wr.cell? ⟨g,k*2+1,none⟩=some (.int .i64 qs[k].e):=((hb.cell (p:=⟨g,k*2+1,none⟩) hgl).trans (HR.out.cell _)).trans c1
   obtain⟨hent,hcall⟩:=HQ.out k hkl hall.out
   have HCALL:=Lh hcall
   obtain⟨q,hqe⟩:=Nm (qs[k])
   have HQE:=Lh hqe
   rw [←hqe]at hc0 hc1 hent HCALL
   obtain⟨cf,first,cap,ee,ans⟩:=q
   simp only [Ask.val]at hc0 hc1 hent HCALL
   clear hcall c0 c1 hqe
   go_wp2_with fail
   have hb1:=Lh (hb.alloc hb.size (.cells #[.func (.func cf) first cap,.int .i64 ee] 154))
   refine(HCALL.out _ hb1.out).mono ?_
   rintro e w1 ⟨rfl,hb2⟩
   have hd1:w1.cell? ⟨wr.heap.size,1,none⟩=some (.int .i64 ee):=(hb2.cell (p:=⟨wr.heap.size,1,none⟩) (by simp)).trans (cell_alloc_new _ _ _ _)
   have hb3:=Lh (show Below w.heap.size w w1 from hb1.out.trans (hb2.mono (by have:=hb1.out.size;exact this)))
   clear hb2 hb1 hc0 hc1 hent HCALL
   cases ans
   ·have hfin:=Lh (HA.out k hkl hall.out (by rw [←HQE.out]))
    rw [←HQE.out]at hfin
    go_wp2
    go_ret
    exact⟨by rw [hfin.out];rfl,hb3.out⟩
   ·have hall2:Hid (∀j (hj:j < qs.length),j < k+1→qs[j].ans=true):=Lh fun j hj hjk=>by
     rcases Nat.lt_or_ge j k with h | h
     ·exact hall.out j hj h
     ·obtain rfl:j=k:=by omega
      rw [←HQE.out]
    go_wp2
    go_roundw
    case rel=>exact⟨k+1,by omega,by go_num,hall2,hb3.out⟩
    case measure=>simp [_root_.Go.RowKit.intOf];omega
  ·obtain rfl:k=n:=by omega
   have hfin:=Lh (HE.out (fun j hj=>hall.out j hj (by omega)))
   go_wp2
   go_ret
   exact⟨by rw [hfin.out];rfl,hb⟩
theorem new1_any (g:Nat) (n:Int) (w:World) (hc:w.cell? ⟨g,0,none⟩=some (.int .i64 n)):Calls Tryz.prog 77 #[.pointer (some ⟨g,0,none⟩)] w fun e w'=>e= .returned (.bool (decide (0≤n) && decide (n≤16384)))∧Below w.heap.size w w':=by
 have hb:=lt_of_cell hc
 go_enter Tryz.func77,Tryz.ntmps77
 by_cases h0:0≤n
 ·have e0:decide (0≤n)=true:=decide_eq_true h0
  obtain⟨q,hq⟩:=Nm (decide (n≤16384))
  rw [←hq]
  go_wp2
  go_ret
  exact⟨by simp,Br⟩
 ·have e0:decide (0≤n)=false:=decide_eq_false h0
  go_wp2
  go_ret
  exact⟨by simp,Br⟩
def newQ (g:Nat) (a:Bool):Ask:=⟨77,#[],#[.pointer (some ⟨g,0,none⟩)],2,a⟩
theorem new_asked (n:Int) (q:Bool) (w:World) (hq:(decide (0≤n) && decide (n≤16384))=q):
  Calls Tryz.prog 76 #[.slice (some ⟨w.heap.size+1,0,none⟩) 1 1] ((w.alloc (.cells #[.int .i64 n] 3)).alloc (.cells #[.func (.func 77) #[] #[.pointer (some ⟨w.heap.size,0,none⟩)],.int .i64 2] 154)) fun e w'=>
   e= .returned (.int .i64 (if q then 0 else 2))∧Below w.heap.size w w'∧w'.cell? ⟨w.heap.size,0,none⟩=some (.int .i64 n):=by
 obtain⟨W,hW⟩:=Nm (((w.alloc (.cells #[.int .i64 n] 3)).alloc (.cells #[.func (.func 77) #[] #[.pointer (some ⟨w.heap.size,0,none⟩)],.int .i64 2] 154)))
 have hb:Below w.heap.size w W:=by rw [hW];exact below2 _ _ _
 have hr:Row W (w.heap.size+1) 154 (askCells [newQ w.heap.size q]):=by rw [hW];exact Row.new_at _ _ _ (by simp)
 have hc:W.cell? ⟨w.heap.size,0,none⟩=some (.int .i64 n):=by rw [hW];exact(World.cell?_alloc_lt _ _ _ (by simp)).trans (cell_alloc_new _ _ _ _)
 have hlt:=lt_of_cell hc
 rw [←hW]
 refine(asked_any [newQ w.heap.size q] (w.heap.size+1) 1 1 W rfl (by omega) hr ?_).mono ?_
 ·intro k hk _
  obtain rfl:k=0:=by simp at hk;omega
  refine⟨enters_of Tryz.func77 (by kernel_rfl) rfl,fun V hV=> ?_⟩
  have:=new1_any w.heap.size n V ((hV.cell (p:=⟨w.heap.size,0,none⟩) hlt).trans hc)
  rw [hq]at this
  exact this
 ·rintro e w' ⟨rfl,h2⟩
  refine⟨?_,below0 hb (h2.mono Lr),(h2.cell (p:=⟨w.heap.size,0,none⟩) hlt).trans hc⟩
  cases q <;> rfl
theorem newP_rep (n:Nat) (w1:World) (hn:n≤16384):
  Rep ((w1.alloc (.map #[] 0)).alloc (.cells (poolL n w1.heap.size (List.replicate 64 0) (.slice none 0 0) (.slice none 0 0)).toArray 161)) (w1.heap.size+1) (newP n) w1.heap.size (.slice none 0 0) (.slice none 0 0) [] none none:=by
 have hown:=World.ownsMap_made w1 Tryz.prog 3 (plainElem (H:=Unit) Tryz.prog 3)
 have hd:mapD (owns (newP n).fr)= .map []:=by
  have h1:∀m s,entsF s (owns (List.replicate m none))= []:=by
   intro m
   induction m with
   | zero=>intro s;rfl
   | succ m ih=>intro s;rw [List.replicate_succ];exact ih (s+1)
  unfold mapD newP
  rw [h1]
 have hf:∀i,frameO (newP n) i=none:=fun i=>by
  unfold frameO newP
  rw [List.getElem?_replicate]
  split <;> rfl
 refine⟨newP_ok hn,?_,?_,?_,?_,Nat.zero_le _,fun i _=>hf i,by simp,?_⟩
 ·have:=Row.new_at (w1.alloc (.map #[] 0)) 161 (poolL n w1.heap.size (List.replicate 64 0) (.slice none 0 0) (.slice none 0 0)) (g:=w1.heap.size+1) (by simp)
  simpa [newP] using this
 ·rw [hd]
  exact owns_same (hown.mono (Nat.zero_le _)) (Below.heap_alloc _ _ _ (by simp))
 ·exact Own.nil _ _ _
 ·exact Own.nil _ _ _
 ·intro i o bs h
  have:=hf i
  unfold frameO at this
  rw [h]at this
  cases this
theorem new_cells (n g:Nat):Array.foldl (fun cs x=>cs.setIfInBounds x.snd x.fst) Tryz.zeroCells161 ((Tryz.zeroCells158.setIfInBounds 0 (Value.int IntKind.i64 (n:Int))).setIfInBounds 1 (Value.map (some g))).zipIdx 0 66=
  (poolL n g (List.replicate 64 0) (.slice none 0 0) (.slice none 0 0)).toArray:=by kernel_rfl
theorem new_yes (n:Nat) (w:World) (hn:n≤16384):Calls Tryz.prog 36 #[.int .i64 (n:Int)] w fun e w'=>∃b F,e= .returned (.tuple #[.pointer (some ⟨b,0,none⟩),.int .i64 0])∧Has w' b (newP n) F∧(∀k,F k→w.heap.size≤k)∧Below w.heap.size w w':=by
 have hmm:=@run_makeMap Tryz.prog
 have h1:=Lh (new_asked n true w (by rw [(Dt (by omega)),(Dt (by omega))];rfl))
 have hfin:=Lh (fun(w1:World) (hb:Below w.heap.size w w1)=>(show ∃b F,Ending.returned (.tuple #[.pointer (some ⟨w1.heap.size+1,0,none⟩),.int .i64 0])= .returned (.tuple #[.pointer (some ⟨b,0,none⟩),.int .i64 0])∧
   Has ((w1.alloc (.map #[] 0)).alloc (.cells (poolL n w1.heap.size (List.replicate 64 0) (.slice none 0 0) (.slice none 0 0)).toArray 161)) b (newP n) F∧(∀k,F k→w.heap.size≤k)∧
   Below w.heap.size w ((w1.alloc (.map #[] 0)).alloc (.cells (poolL n w1.heap.size (List.replicate 64 0) (.slice none 0 0) (.slice none 0 0)).toArray 161)) from by
  have hs:=hb.size
  refine⟨_,_,rfl,⟨_,_,_,_,_,_,newP_rep n w1 hn,rfl⟩,?_,(hb.alloc hs _).alloc (by simp;omega) _⟩
  rintro k (rfl | rfl | h | h)
  ·omega
  ·exact hs
  ·cases h
  ·cases h))
 clear hn
 go_enter Tryz.func36,Tryz.ntmps36
 go_wp2_with fail
 refine wp_scope_jump 1 fun R hR hJm=> ?_
 go_wp2_with fail
 refine(h1.out).mono ?_
 rintro e w1 ⟨rfl,hb,hc⟩
 have hfin1:=Lh (hfin.out w1 hb)
 obtain⟨C2,hC2⟩:=Nm ((poolL n w1.heap.size (List.replicate 64 0) (.slice none 0 0) (.slice none 0 0)).toArray)
 have hnc:=Lh (new_cells n w1.heap.size)
 rw [←hC2]at hnc hfin1
 clear hfin hC2
 go_wp2_with fail
 rw [hnc.out]
 refine hR.out _ _ _ _ (by simp) ?_
 go_ret2
 exact hfin1.out
end Go.Proofs.YtfcfbcjiijfjgaaGreatDoor
