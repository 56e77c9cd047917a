import Derived.Test.YtfcfbcjiijfjgaaGreatDoorPAI
import Derived.Laws.ResultCell
set_option maxHeartbeats 1000000
namespace Go.Proofs.YtfcfbcjiijfjgaaGreatDoor.Pg
open Go.Maps
abbrev En:=Int × Int × Int
abbrev Tb:=List (Int × En)
def zeroEn:En:=(0,0,0)
def enC (x:En):List Value:= [.int .i64 x.1,.int .i64 x.2.1,.int .i64 x.2.2]
def enV (x:En):Value:= .agg (enC x).toArray
def I64 (z:Int):Prop:= -9223372036854775808≤z∧z≤9223372036854775807
def En64 (x:En):Prop:=I64 x.1∧I64 x.2.1∧I64 x.2.2
def mayB (m:Int):Bool:=decide (0≤m) && decide (m≤2)
def rightB (x:En):Bool:=decide (-1≤x.1) && decide (x.1≤63) && mayB x.2.1 && decide (0≤x.2.2)
def pageB (z:Int):Bool:=decide (0≤z) && decide (z < 65536)
theorem pageB_iff {z:Int}:pageB z=true↔0≤z∧z < 65536:=by simp [pageB]
structure Tok (l:Tb):Prop where
 sorted:l.Pairwise (fun a b=>a.1 < b.1)
 page:∀r∈l,pageB r.1=true
 right:∀r∈l,rightB r.2=true
 frame:l.Pairwise (fun a b=>a.2.2.2≠b.2.2.2)
 big:∀r∈l,En64 r.2
theorem Tok.nil:Tok []:=⟨List.Pairwise.nil,fun _ h=>by simp at h,fun _ h=>by simp at h,List.Pairwise.nil,fun _ h=>by simp at h⟩
theorem rise_len:∀(l:Tb) (lo:Int),lo≤65536→(∀r∈l,lo≤r.1∧r.1 < 65536)→l.Pairwise (fun a b=>a.1 < b.1)→(l.length:Int)≤65536 - lo
 | [],lo,h,_,_=>by simp;omega
 | a :: t,lo,h,hb,hs=>by
  obtain⟨h1,h2⟩:=List.pairwise_cons.1 hs
  have ha:=hb a (by simp)
  have:=rise_len t (a.1+1) (by omega) (fun r hr=>⟨by have:=h1 r hr;omega,(hb r (by simp [hr])).2⟩) h2
  rw [List.length_cons]
  omega
theorem Tok.len {l:Tb} (h:Tok l):l.length≤65536:=by
 have:=rise_len l 0 (by omega) (fun r hr=>pageB_iff.1 (h.page r hr)) h.sorted
 omega
def look (l:Tb) (z:Int):Option En:=(l.find? (fun r=>r.1 == z)).map Prod.snd
def framed (l:Tb) (f:Int):Bool:=l.any (fun r=>r.2.2.2 == f)
theorem look_cons (r:Int × En) (t:Tb) (z:Int):look (r :: t) z=if r.1=z then some r.2 else look t z:=by
 unfold look
 by_cases h:r.1=z
 ·rw [if_pos h,List.find?_cons_of_pos (by simpa using h)]
  rfl
 ·rw [if_neg h,List.find?_cons_of_neg (by simpa using h)]
theorem look_none {l:Tb} {z:Int}:look l z=none↔∀r∈l,r.1≠z:=by
 unfold look
 rw [Option.map_eq_none_iff,List.find?_eq_none]
 simp
theorem look_mem:∀{l:Tb},l.Pairwise (fun a b=>a.1 < b.1)→∀{z:Int} {e:En},look l z=some e↔(z,e)∈l
 | [],_,z,e=>by simp [look]
 | r :: t,hs,z,e=>by
  obtain⟨h1,h2⟩:=List.pairwise_cons.1 hs
  rw [look_cons]
  by_cases h:r.1=z
  ·rw [if_pos h,List.mem_cons]
   constructor
   ·intro h3
    injection h3 with h3
    exact .inl (Prod.ext h.symm h3.symm)
   ·rintro(h3 | h3)
    ·rw [←h3]
    ·have:=h1 _ h3
     simp only at this
     omega
  ·rw [if_neg h,look_mem h2,List.mem_cons]
   constructor
   ·exact .inr
   ·rintro(h3 | h3)
    ·exact absurd (by rw [←h3]) h
    ·exact h3
theorem look_some {l:Tb} {z:Int} {e:En} (h:look l z=some e):(z,e)∈l:=by
 unfold look at h
 rw [Option.map_eq_some_iff]at h
 obtain⟨r,h1,rfl⟩:=h
 have h2:=List.mem_of_find?_eq_some h1
 have h3:=List.find?_some h1
 have h4:r.1=z:=by simpa using h3
 rw [←h4]
 exact h2
def ins:Tb→Int→En→Tb
 | [],p,x=> [(p,x)]
 | r :: t,p,x=>if p < r.1 then(p,x) :: r :: t else r :: ins t p x
def mapE (l:Tb) (p:Int) (x:En):Nat:=if rightB x=false then 2 else if pageB p=false then 4 else if(look l p).isSome then 180 else if framed l x.2.2 then 181 else 0
def mapT (l:Tb) (p:Int) (x:En):Tb:=if mapE l p x=0 then ins l p x else l
def del (l:Tb) (p:Int):Tb:=l.filter (fun r=> !(r.1 == p))
def unmapE (l:Tb) (p:Int):Nat:=if pageB p=false then 4 else if(look l p).isSome=false then 5 else 0
def unmapT (l:Tb) (p:Int):Tb:=if unmapE l p=0 then del l p else l
def unmapX (l:Tb) (p:Int):En:=if unmapE l p=0 then(look l p).getD zeroEn else zeroEn
def setM (l:Tb) (p m:Int):Tb:=l.map (fun r=>if r.1=p then(r.1,r.2.1,m,r.2.2.2) else r)
def getX (l:Tb) (p:Int):En:=(look l p).getD zeroEn
def inRun (a m:Int) (r:Int × En):Bool:=decide (a≤r.1) && decide (r.1 - a < m)
def freeB (l:Tb) (a m:Int):Bool:=l.all (fun r=> !inRun a m r)
theorem mem_ins:∀{l:Tb} {p:Int} {x:En} {r:Int × En},r∈ins l p x↔r=(p,x)∨r∈l
 | [],p,x,r=>by simp [ins]
 | a :: t,p,x,r=>by
  rw [ins]
  split
  ·simp
  ·rw [List.mem_cons,mem_ins,List.mem_cons]
   constructor
   ·rintro(h | h | h)
    ·exact .inr (.inl h)
    ·exact .inl h
    ·exact .inr (.inr h)
   ·rintro(h | h | h)
    ·exact .inr (.inl h)
    ·exact .inl h
    ·exact .inr (.inr h)
theorem ins_len:∀(l:Tb) (p:Int) (x:En),(ins l p x).length=l.length+1
 | [],p,x=>rfl
 | a :: t,p,x=>by
  rw [ins]
  split
  ·rfl
  ·rw [List.length_cons,ins_len t,List.length_cons]
theorem ins_sorted:∀{l:Tb} {p:Int} {x:En},l.Pairwise (fun a b=>a.1 < b.1)→(∀r∈l,r.1≠p)→(ins l p x).Pairwise (fun a b=>a.1 < b.1)
 | [],p,x,_,_=>by simp [ins]
 | a :: t,p,x,hs,hn=>by
  obtain⟨h1,h2⟩:=List.pairwise_cons.1 hs
  rw [ins]
  split
  next h=>exact List.pairwise_cons.2 ⟨fun r hr=>by
   rcases List.mem_cons.1 hr with rfl | hr
   ·exact h
   ·have:=h1 r hr
    show p < r.1
    omega,hs⟩
  next h=>
   refine List.pairwise_cons.2 ⟨fun r hr=> ?_,ins_sorted h2 fun r hr=>hn r (by simp [hr])⟩
   rcases mem_ins.1 hr with rfl | hr
   ·have:=hn a (by simp)
    show a.1 < p
    omega
   ·exact h1 r hr
theorem ins_frame:∀{l:Tb} {p:Int} {x:En},l.Pairwise (fun a b=>a.2.2.2≠b.2.2.2)→(∀r∈l,r.2.2.2≠x.2.2)→(ins l p x).Pairwise (fun a b=>a.2.2.2≠b.2.2.2)
 | [],p,x,_,_=>by simp [ins]
 | a :: t,p,x,hs,hn=>by
  obtain⟨h1,h2⟩:=List.pairwise_cons.1 hs
  rw [ins]
  split
  ·exact List.pairwise_cons.2 ⟨fun r hr=>(hn r hr).symm,hs⟩
  ·refine List.pairwise_cons.2 ⟨fun r hr=> ?_,ins_frame h2 fun r hr=>hn r (by simp [hr])⟩
   rcases mem_ins.1 hr with rfl | hr
   ·exact hn a (by simp)
   ·exact h1 r hr
theorem framed_false {l:Tb} {f:Int}:framed l f=false↔∀r∈l,r.2.2.2≠f:=by
 unfold framed
 rw [List.any_eq_false]
 simp
theorem mapE_0 {l:Tb} {p:Int} {x:En} (h:mapE l p x=0):rightB x=true∧pageB p=true∧look l p=none∧framed l x.2.2=false:=by
 unfold mapE at h
 split at h
 ·cases h
 split at h
 ·cases h
 split at h
 ·cases h
 split at h
 ·cases h
 next h1 h2 h3 h4=>exact⟨by simpa using h1,by simpa using h2,by simpa using h3,by simpa using h4⟩
theorem map_ok {l:Tb} (h:Tok l) (p:Int) (x:En) (hx:En64 x):Tok (mapT l p x):=by
 unfold mapT
 split
 next h0=>
  obtain⟨h1,h2,h3,h4⟩:=mapE_0 h0
  refine⟨ins_sorted h.sorted (look_none.1 h3),fun r hr=> ?_,fun r hr=> ?_,ins_frame h.frame (framed_false.1 h4),fun r hr=> ?_⟩
  ·rcases mem_ins.1 hr with rfl | hr
   ·exact h2
   ·exact h.page r hr
  ·rcases mem_ins.1 hr with rfl | hr
   ·exact h1
   ·exact h.right r hr
  ·rcases mem_ins.1 hr with rfl | hr
   ·exact hx
   ·exact h.big r hr
 ·exact h
theorem del_ok {l:Tb} (h:Tok l) (p:Int):Tok (del l p):=
 ⟨h.sorted.filter _,fun r hr=>h.page r (List.mem_filter.1 hr).1,fun r hr=>h.right r (List.mem_filter.1 hr).1,h.frame.filter _,fun r hr=>h.big r (List.mem_filter.1 hr).1⟩
theorem setM_frm (l:Tb) (p m:Int):(setM l p m).map (fun r=>r.2.2.2)=l.map (fun r=>r.2.2.2):=by
 unfold setM
 rw [List.map_map]
 refine List.map_congr_left fun r _=> ?_
 simp only [Function.comp]
 split <;> rfl
def entD (x:En):DataW Unit:= .agg [.lit (.int .i64 x.1),.lit (.int .i64 x.2.1),.lit (.int .i64 x.2.2)]
def entR (v:Value):Option (DataW Unit × List MemPlace):=
 match v with
 | .agg ⟨[.int .i64 a,.int .i64 b,.int .i64 c]⟩=>some (entD (a,b,c),[])
 | _=>none
theorem entR_en (x:En):entR (enV x)=some (entD x,[]):=rfl
theorem entR_inv {v:Value} {y:DataW Unit × List MemPlace} (h:entR v=some y):∃x:En,v=enV x∧y=(entD x,[]):=by
 unfold entR at h
 split at h
 next a b c=>exact⟨(a,b,c),rfl,by injection h with h;exact h.symm⟩
 ·cases h
theorem entD_inj {x y:En} (h:entD x=entD y):x=y:=by
 unfold entD at h
 injection h with h
 injection h with h1 h
 injection h with h2 h
 injection h with h3 _
 injection h1 with h1
 injection h1 with _ h1
 injection h2 with h2
 injection h2 with _ h2
 injection h3 with h3
 injection h3 with _ h3
 exact Prod.ext h1 (Prod.ext h2 h3)
def unitD:DataW Unit:= .lit (.bool true)
def unitR (v:Value):Option (DataW Unit × List MemPlace):=
 match v with
 | .agg ⟨[]⟩=>some (unitD,[])
 | _=>none
def ents (l:Tb):List (Lit × DataW Unit):=l.map fun r=>(.int .i64 r.1,entD r.2)
def mapP (l:Tb):DataW Unit:= .map (ents l)
theorem mapP_size (l:Tb):Maps.size (mapP l)=l.length:=by
 show(ents l).length=_
 simp [ents]
theorem same_i (a b:Int):Lit.sameKey (.int .i64 a) (.int .i64 b)=decide (a=b):=by simp [Lit.sameKey]
theorem ents_find (l:Tb) (z:Int):(ents l).find? (fun p=>p.1.sameKey (.int .i64 z))=(look l z).map fun e=>((.int .i64 z,entD e):Lit × DataW Unit):=by
 induction l with
 | nil=>rfl
 | cons r t ih=>
  rw [look_cons]
  by_cases h:r.1=z
  ·rw [if_pos h,ents,List.map_cons,List.find?_cons_of_pos (by rw [same_i];simpa using h),h]
   rfl
  ·rw [if_neg h,ents,List.map_cons,List.find?_cons_of_neg (by rw [same_i];simpa using h)]
   exact ih
theorem mapP_has (l:Tb) (z:Int):Maps.has (mapP l) (.int .i64 z)=(look l z).isSome:=by
 show(ents l).any _=_
 rw [Bool.eq_iff_iff,List.any_eq_true,←List.find?_isSome,ents_find,Option.isSome_map]
theorem mapP_at (l:Tb) (z:Int) (d:DataW Unit):(mapP l).atKey (.int .i64 z) d=(match look l z with | some e=>entD e | none=>d):=by
 simp only [mapP,DataW.atKey,ents_find]
 cases look l z <;> rfl
theorem ents_filter (l:Tb) (p:Int):(ents l).filter (fun q=> !q.1.sameKey (.int .i64 p))=ents (del l p):=by
 unfold ents del
 rw [List.filter_map]
 congr 1
 refine List.filter_congr fun r _=> ?_
 simp only [Function.comp,same_i]
 congr 1
theorem mapP_del (l:Tb) (p:Int):(mapP l).del (.int .i64 p)=mapP (del l p):=by
 show DataW.map ((ents l).filter _)=_
 rw [ents_filter]
 rfl
theorem ents_insert:∀(l:Tb) (p:Int) (x:En),DataW.insert (.int .i64 p,entD x) (ents l)=ents (ins l p x)
 | [],p,x=>rfl
 | r :: t,p,x=>by
  rw [ins]
  show DataW.insert _ ((.int .i64 r.1,entD r.2) :: ents t)=_
  rw [DataW.insert]
  by_cases h:p < r.1
  ·rw [if_pos (by simpa [Lit.before] using h),if_pos h]
   rfl
  ·rw [if_neg (by simpa [Lit.before] using h),if_neg h,ents_insert t p x]
   rfl
theorem del_none {l:Tb} {p:Int} (h:look l p=none):del l p=l:=by
 unfold del
 rw [List.filter_eq_self]
 intro r hr
 have:=look_none.1 h r hr
 simpa using this
theorem mapP_put {l:Tb} {p:Int} (x:En) (h:look l p=none):(mapP l).put (.int .i64 p) (entD x)=mapP (ins l p x):=by
 show DataW.map (DataW.insert _ ((ents l).filter _))=_
 rw [ents_filter,del_none h,ents_insert]
 rfl
theorem setM_len (l:Tb) (p m:Int):(setM l p m).length=l.length:=by simp [setM]
structure Frs (l:Tb) (D:DataW Unit):Prop where
 tidy:Tidy D
 has:∀z:Int,Maps.has D (.int .i64 z)=framed l z
 size:Maps.size D=l.length
theorem Frs.nil:Frs [] (.map []):=⟨tidy_empty,fun _=>rfl,rfl⟩
theorem key_i (z:Int):WideAt.IsKeyLit (.int .i64 z):=trivial
theorem lit_ne {a b:Int} (h:a≠b):(Lit.int .i64 a)≠ .int .i64 b:=fun e=>h (by injection e)
theorem framed_ins (l:Tb) (p:Int) (x:En) (z:Int):framed (ins l p x) z=(x.2.2 == z || framed l z):=by
 unfold framed
 rw [Bool.eq_iff_iff,Bool.or_eq_true,List.any_eq_true,List.any_eq_true]
 constructor
 ·rintro⟨r,hr,h⟩
  rcases mem_ins.1 hr with rfl | hr
  ·exact .inl h
  ·exact .inr ⟨r,hr,h⟩
 ·rintro(h | ⟨r,hr,h⟩)
  ·exact⟨(p,x),mem_ins.2 (.inl rfl),h⟩
  ·exact⟨r,mem_ins.2 (.inr hr),h⟩
theorem Frs.put {l:Tb} {D:DataW Unit} (h:Frs l D) (p:Int) (x:En) (hf:framed l x.2.2=false):Frs (ins l p x) (D.put (.int .i64 x.2.2) unitD):=by
 refine⟨h.tidy.put (key_i _) _,fun z=> ?_,?_⟩
 ·rw [framed_ins]
  by_cases e:x.2.2=z
  ·rw [←e,has_put_same h.tidy.isMap (key_i _)]
   simp
  ·rw [has_put_other (lit_ne (Ne.symm e)),h.has,beq_eq_false_iff_ne.2 e,Bool.false_or]
 ·rw [size_put h.tidy,h.has,hf,h.size,ins_len]
  rfl
theorem del_len:∀{l:Tb} {p:Int} {e:En},l.Pairwise (fun a b=>a.1 < b.1)→look l p=some e→(del l p).length+1=l.length
 | [],p,e,_,h=>by simp [look]at h
 | r :: t,p,e,hs,h=>by
  obtain⟨h1,h2⟩:=List.pairwise_cons.1 hs
  rw [look_cons]at h
  by_cases hr:r.1=p
  ·have hn:look t p=none:=look_none.2 fun q hq e=>by have:=h1 q hq;omega
   have h3:del (r :: t) p=t:=by
    unfold del
    rw [List.filter_cons_of_neg (by simpa using hr)]
    exact del_none hn
   rw [h3,List.length_cons]
  ·rw [if_neg hr]at h
   have h3:del (r :: t) p=r :: del t p:=by
    unfold del
    rw [List.filter_cons_of_pos (by simpa using hr)]
   rw [h3,List.length_cons,List.length_cons,del_len h2 h]
theorem pair_ne {α:Type} {R:α→α→Prop} (hR:∀a b,R a b→R b a) {l:List α} (h:l.Pairwise R) {a b:α} (ha:a∈l) (hb:b∈l) (hab:a≠b):R a b:=by
 induction l with
 | nil=>simp at ha
 | cons c t ih=>
  obtain⟨h1,h2⟩:=List.pairwise_cons.1 h
  rcases List.mem_cons.1 ha with rfl | ha'
  ·rcases List.mem_cons.1 hb with rfl | hb'
   ·exact absurd rfl hab
   ·exact h1 b hb'
  ·rcases List.mem_cons.1 hb with rfl | hb'
   ·exact hR _ _ (h1 a ha')
   ·exact ih h2 ha' hb'
theorem Frs.del {l:Tb} {D:DataW Unit} (h:Frs l D) (hl:Tok l) {p:Int} {e:En} (he:look l p=some e):Frs (del l p) (D.del (.int .i64 e.2.2)):=by
 have hm:=look_some he
 refine⟨h.tidy.del _,fun z=> ?_,?_⟩
 ·by_cases ez:z=e.2.2
  ·subst ez
   rw [has_del_same]
   symm
   rw [framed_false]
   intro r hr ef
   obtain⟨hr1,hr2⟩:=List.mem_filter.1 hr
   have hne:r≠(p,e):=fun e2=>by rw [e2]at hr2;simp at hr2
   exact pair_ne (fun _ _ h=>Ne.symm h) hl.frame hr1 hm hne ef
  ·rw [has_del_other (lit_ne ez),h.has]
   unfold framed Go.Proofs.YtfcfbcjiijfjgaaGreatDoor.Pg.del
   rw [Bool.eq_iff_iff,List.any_eq_true,List.any_eq_true]
   constructor
   ·rintro⟨r,hr,hf⟩
    refine⟨r,List.mem_filter.2 ⟨hr,?_⟩,hf⟩
    have hf:r.2.2.2=z:=by simpa using hf
    simp only [Bool.not_eq_true',beq_eq_false_iff_ne]
    intro e2
    have:look l r.1=some r.2:=(look_mem hl.sorted).2 hr
    rw [e2,he]at this
    injection this with this
    rw [←this]at hf
    exact ez hf.symm
   ·rintro⟨r,hr,hf⟩
    exact⟨r,(List.mem_filter.1 hr).1,hf⟩
 ·have h1:=size_del (k:= .int .i64 e.2.2) h.tidy
  have h2:Maps.has D (.int .i64 e.2.2)=true:=by
   rw [h.has]
   unfold framed
   rw [List.any_eq_true]
   exact⟨(p,e),hm,by simp⟩
  rw [h2,if_pos rfl,h.size]at h1
  have h3:=del_len hl.sorted he
  omega
theorem Frs.set {l:Tb} {D:DataW Unit} (h:Frs l D) (p m:Int):Frs (setM l p m) D:=by
 refine⟨h.tidy,fun z=> ?_,by rw [h.size,setM_len]⟩
 rw [h.has]
 have e:∀t:Tb,framed t z=(t.map (fun r=>r.2.2.2)).any (fun f=>f == z):=fun t=>by
  unfold framed
  rw [List.any_map]
  rfl
 rw [e,e,setM_frm]
structure LastA (l:Tb) (a m k:Int) (q:Bool):Prop where
 yes:q=true→a≤k∧k - a < m∧(look l k).isSome=true
 no:q=false→k=0
 none:∀j,a≤j→j - a < m→(q=true→k < j)→look l j=none
theorem inRun_iff {a m:Int} {r:Int × En}:inRun a m r=true↔a≤r.1∧r.1 - a < m:=by simp [inRun]
theorem LastA.busy {l:Tb} {a m k:Int} (h:LastA l a m k true):freeB l a m=false:=by
 obtain⟨h1,h2,h3⟩:=h.yes rfl
 obtain⟨e,he⟩:=Option.isSome_iff_exists.1 h3
 have hi:inRun a m (k,e)=true:=inRun_iff.2 ⟨h1,h2⟩
 unfold freeB
 rw [List.all_eq_false]
 exact⟨(k,e),look_some he,by simp [hi]⟩
end Go.Proofs.YtfcfbcjiijfjgaaGreatDoor.Pg
namespace Go.Proofs.YtfcfbcjiijfjgaaGreatDoor.Pg
open Go.RowKit Go.Shelf Go.Maps
section
variable {P:Program} (w:World)
theorem run_neq_map_nil (t k e:TypeId) (p:Option Nat) (h:P.underlying t=some (.map k e)):
  (binOp .neq t (.map p) (.map none)).run P w= .ok (.bool (!p.isNone)) w:=by
 have h1:(Op.equal t (.map p) (.map none)).run P w= .ok p.isNone w:=by
  have h2:∀d,(Op.equalIn (d+1) t (.map p) (.map none)).run P w= .ok p.isNone w:=fun d=>by cases p <;> simp [Op.equalIn,run_underlying h]
  exact h2 9999
 simp only [binOp]
 simp [h1,Result.andThen]
end
section
variable {k:TypeId} {R:Value→Option (DataW Unit × List MemPlace)} {w w':World} {b r n m:Nat} {D:DataW Unit} {left:Lit→Bool} {cnt:Nat}
theorem owns_same (h:w.ownsMap Tryz.prog k R b n D) (hb:w'.heap[b]?=w.heap[b]?):w'.ownsMap Tryz.prog k R b n D:=by
 obtain⟨es,clock,h1,rest⟩:=h
 exact⟨es,clock,hb.trans h1,rest⟩
theorem owns_tight (h:w.ownsMap Tryz.prog k R b n D) (hm:Maps.size D≤m):w.ownsMap Tryz.prog k R b m D:=by
 obtain⟨es,clock,h1,h2,h3,rfl⟩:=h
 refine⟨es,clock,h1,h2,?_,rfl⟩
 simpa [Maps.size,length_sorted] using hm
end
abbrev bx (b:Nat):Value:= .pointer (some ⟨b,0,none⟩)
abbrev PMap (w:World) (b:Nat) (l:Tb):Prop:=w.ownsMap Tryz.prog 3 entR b 65536 (mapP l)
def FMap (w:World) (b:Nat) (l:Tb):Prop:=∃D,w.ownsMap Tryz.prog 3 unitR b 65536 D∧Frs l D
theorem FMap.same {w w':World} {b:Nat} {l:Tb} (h:FMap w b l) (hb:w'.heap[b]?=w.heap[b]?):FMap w' b l:=by
 obtain⟨D,h1,h2⟩:=h
 exact⟨D,owns_same h1 hb,h2⟩
theorem FMap.lt {w:World} {b:Nat} {l:Tb} (h:FMap w b l):b < w.heap.size:=by
 obtain⟨D,h1,h2⟩:=h
 exact h1.lt
structure Rep (w:World) (b:Nat) (l:Tb) (bp bf:Nat):Prop where
 ok:Tok l
 obj:Row w b 167 [.map (some bp),.map (some bf)]
 pages:PMap w bp l
 frames:FMap w bf l
 ne:bp≠bf
def blocks (b bp bf:Nat):Nat→Prop:=fun k=>k=b∨k=bp∨k=bf
def Has (w:World) (b:Nat) (l:Tb) (F:Nat→Prop):Prop:=∃bp bf,Rep w b l bp bf∧F=blocks b bp bf
section
variable {w w':World} {b bp bf:Nat} {l:Tb} {F:Nat→Prop}
theorem Rep.keep (h:Rep w b l bp bf) (hk:∀k,blocks b bp bf k→w'.heap[k]?=w.heap[k]?):Rep w' b l bp bf:=
 ⟨h.ok,h.obj.same (hk _ (.inl rfl)),owns_same h.pages (hk _ (.inr (.inl rfl))),h.frames.same (hk _ (.inr (.inr rfl))),h.ne⟩
theorem Rep.lt (h:Rep w b l bp bf):∀k,blocks b bp bf k→k < w.heap.size:=by
 rintro k (rfl | rfl | rfl)
 ·exact h.obj.lt
 ·exact h.pages.lt
 ·exact h.frames.lt
theorem Rep.below (h:Rep w b l bp bf) (hb:Below w.heap.size w w'):Rep w' b l bp bf:=h.keep fun k hk=>hb.block _ (h.lt k hk)
theorem Rep.c0 (h:Rep w b l bp bf):w.cell? ⟨b,0,none⟩=some (.map (some bp)):=h.obj.cell 0
theorem Rep.c1 (h:Rep w b l bp bf):w.cell? ⟨b,1,none⟩=some (.map (some bf)):=h.obj.cell 1
theorem Rep.ne_p (h:Rep w b l bp bf):b≠bp:=by
 rintro rfl
 obtain⟨es,clock,h1,_⟩:=h.pages
 cases h.obj.symm.trans h1
theorem Rep.ne_f (h:Rep w b l bp bf):b≠bf:=by
 rintro rfl
 obtain⟨D,⟨es,clock,h1,_⟩,_⟩:=h.frames
 cases h.obj.symm.trans h1
theorem Has.keep (h:Has w b l F) (hk:∀k,F k→w'.heap[k]?=w.heap[k]?):Has w' b l F:=by
 obtain⟨bp,bf,h1,rfl⟩:=h
 exact⟨bp,bf,h1.keep hk,rfl⟩
theorem Has.lt (h:Has w b l F):∀k,F k→k < w.heap.size:=by
 obtain⟨bp,bf,h1,rfl⟩:=h
 exact h1.lt
theorem Has.mem (h:Has w b l F):F b:=by
 obtain⟨bp,bf,h1,rfl⟩:=h
 exact .inl rfl
theorem Has.ok (h:Has w b l F):Tok l:=by
 obtain⟨bp,bf,h1,rfl⟩:=h
 exact h1.ok
theorem Has.below (h:Has w b l F) (hb:Below w.heap.size w w'):Has w' b l F:=h.keep fun k hk=>hb.block _ (h.lt k hk)
end
def Non (w:World) (v:Value):Prop:=v= .pointer none∨∃b,v=bx b∧w.cell? ⟨b,0,none⟩=some (.map none)
theorem Non.below {w w':World} {v:Value} (h:Non w v) (hb:Below w.heap.size w w'):Non w' v:=by
 rcases h with h | ⟨b,h1,h2⟩
 ·exact .inl h
 ·exact .inr ⟨b,h1,(hb.cell (p:=⟨b,0,none⟩) (lt_of_cell h2)).trans h2⟩
def Next (w:World) (b:Nat) (l':Tb) (F:Nat→Prop) (w':World):Prop:=Has w' b l' F∧Keep F w w'
theorem Next.same {w w':World} {b:Nat} {l:Tb} {F:Nat→Prop} (h:Has w b l F) (hb:Below w.heap.size w w'):Next w b l F w':=⟨h.below hb,Keep.of_below hb⟩
theorem law:Keyed Tryz.prog 3:=int_keyed Tryz.underlying3
theorem wf_i64 {a:Int} (h:I64 a):(Lit.int .i64 a).wf=true:=WalkArith.wf_i64 (by unfold I64 at h;omega)
theorem keyZ {a:Int} (h:I64 a):keyOf Tryz.prog 3 (.int .i64 a)=some (.int .i64 a):=keyOf_int_mk Tryz.underlying3 (wf_i64 h)
theorem zeroP (w:World):(zeroValue 195).run Tryz.prog w= .ok (enV zeroEn) w:=by kernel_rfl
theorem zeroU (w:World):(zeroValue 311).run Tryz.prog w= .ok (.agg #[]) w:=by kernel_rfl
theorem page64 {z:Int} (h:pageB z=true):I64 z:=by have:=pageB_iff.1 h;unfold I64;omega
end Go.Proofs.YtfcfbcjiijfjgaaGreatDoor.Pg
namespace Go.Proofs.YtfcfbcjiijfjgaaGreatDoor.Pg
open Go.RowKit Go.Shelf Go.Maps
attribute [local go_sem] Oper.semAt_some
theorem known_any (z:Int) (w:World):Calls Tryz.prog 192 #[.int .i64 z] w fun e w'=>e= .returned (.bool (pageB z))∧w=w':=by
 unfold pageB
 go_enter Tryz.func192,Tryz.ntmps192
 by_cases h0:0≤z
 ·have e0:decide (0≤z)=true:=decide_eq_true h0
  obtain⟨q,hq⟩:=Nm (decide (z < 65536))
  rw [←hq]
  go_wp2
  go_ret
  exact⟨by simp [hq,h0],rfl⟩
 ·have e0:decide (0≤z)=false:=decide_eq_false h0
  go_wp2
  go_ret
  exact⟨by simp,rfl⟩
theorem allowed_any (z:Int) (w:World):Calls Tryz.prog 248 #[.int .i64 z] w fun e w'=>e= .returned (.bool (mayB z))∧w=w':=by
 unfold mayB
 go_enter Tryz.func248,Tryz.ntmps248
 by_cases h0:0≤z
 ·have e0:decide (0≤z)=true:=decide_eq_true h0
  obtain⟨q,hq⟩:=Nm (decide (z≤2))
  rw [←hq]
  go_wp2
  go_ret
  exact⟨by simp [hq,h0],rfl⟩
 ·have e0:decide (0≤z)=false:=decide_eq_false h0
  go_wp2
  go_ret
  exact⟨by simp,rfl⟩
theorem proper_any (x:En) (w:World):Calls Tryz.prog 190 #[enV x] w fun e w'=>e= .returned (.bool (rightB x))∧Below w.heap.size w w':=by
 obtain⟨o,m,f⟩:=x
 have h1:=Lh (fun w=>allowed_any m w)
 unfold rightB
 simp only
 obtain⟨q,hq⟩:=Nm (mayB m)
 rw [←hq]at h1 ⊢
 clear hq
 have hb:=Lh (below1 w (.cells #[.int .i64 o,.int .i64 m,.int .i64 f] 195))
 show Calls _ _ #[.agg #[.int .i64 o,.int .i64 m,.int .i64 f]] _ _
 go_enter Tryz.func190,Tryz.ntmps190
 by_cases h0: -1≤o
 ·have e0:decide (-1≤o)=true:=decide_eq_true h0
  by_cases h2:o < 64
  ·have e1:decide (o < 64)=true:=decide_eq_true h2
   have e3:decide (o≤63)=true:=Dt (by omega)
   cases q
   ·go_wp2_with fail
    refine(h1.out _).mono ?_
    rintro e w1 ⟨rfl,rfl⟩
    go_wp2
    go_ret
    exact⟨by simp,hb.out⟩
   ·go_wp2_with fail
    refine(h1.out _).mono ?_
    rintro e w1 ⟨rfl,rfl⟩
    go_wp2
    go_ret
    exact⟨by simp [e0,e3],hb.out⟩
  ·have e1:decide (o < 64)=false:=decide_eq_false h2
   have e3:decide (o≤63)=false:=Df (by omega)
   go_wp2
   go_ret
   exact⟨by simp,hb.out⟩
 ·have e0:decide (-1≤o)=false:=decide_eq_false h0
  go_wp2
  go_ret
  exact⟨by simp,hb.out⟩
theorem there_map (b bp:Nat) (w:World) (hc:w.cell? ⟨b,0,none⟩=some (.map (some bp))):Calls Tryz.prog 188 #[bx b] w fun e w'=>e= .returned (.bool true)∧w=w':=by
 have hq:=fun w=>run_neq_map_nil (P:=Tryz.prog) w 162 _ _ (some bp) Tryz.underlying162
 go_enter Tryz.func188,Tryz.ntmps188
 go_wp2
 go_ret
 exact⟨rfl,rfl⟩
theorem res_cell1 {fn:Func} {p:Tmp} {ty:TypeId} (h:fn.results= #[.cell p ty]) {tmps:Array Value} {P:Program} {w:World} {a:Addr} (ha:tmps.getD p undef= .pointer (some a)) {v:Value} (hv:(loadVar ty a).run P w= .ok v w):
  (results fn tmps).run P w= .ok v w:=by
 have h1:(results fn tmps).run P w=((asAddr (tmps.getD p undef)).run P w).andThen fun a w₁=>(loadVar ty a).run P w₁:=by
  simp only [results,h]
  simp [Sem.run_bind,Result.andThen]
 rw [h1,ha]
 exact hv
theorem res_cell2 {fn:Func} {p u:Tmp} {ty:TypeId} (h:fn.results= #[.cell p ty,.tmp u]) {tmps:Array Value} {P:Program} {w:World} {a:Addr} (ha:tmps.getD p undef= .pointer (some a)) {v:Value} (hv:(loadVar ty a).run P w= .ok v w):
  (results fn tmps).run P w= .ok (.tuple #[v,tmps.getD u undef]) w:=by
 rw [results_cell_tmp h,ha]
 show((loadVar ty a).run P w).andThen _=_
 rw [hv]
 rfl
theorem load_en {W:World} {b:Nat} {x:En} (h:∀(j:Nat) v,(enC x)[j]?=some v→W.cell? ⟨b,j,none⟩=some v):(loadVar 195 ⟨b,0,none⟩).run Tryz.prog W= .ok (enV x) W:=
 run_loadVar_mid _ b 0 _ (enC x) _ (fun j v hj=>by rw [Nat.zero_add];exact h j v hj) Tryz.underlying195 rfl (by kernel_rfl)
theorem load_en2 (w:World) (a b c:Int) (o:Obj):(loadVar 195 ⟨w.heap.size,0,none⟩).run Tryz.prog ((w.alloc (.cells #[.int .i64 a,.int .i64 b,.int .i64 c] 195)).alloc o)= .ok (enV (a,b,c)) ((w.alloc (.cells #[.int .i64 a,.int .i64 b,.int .i64 c] 195)).alloc o):=
 load_en (x:=(a,b,c)) fun j v hj=>(World.cell?_alloc_lt _ _ _ (by simp)).trans ((cell_alloc_new _ _ _ _).trans (by rw [←hj];simp [enC]))
structure Ask where
 cf:Nat
 first:Array Value
 cap:Array Value
 e:Int
 ans:Bool
def Ask.val (q:Ask):Value:= .func (.func q.cf) q.first q.cap
def askCells (qs:List Ask):List Value:=qs.flatMap fun q=> [q.val,.int .i64 q.e]
def askE:List Ask→Int
 | []=>0
 | q :: r=>if q.ans then askE r else q.e
theorem ask_cells:∀(qs:List Ask) (k:Nat) (h:k < qs.length),(askCells qs)[k*2]?=some qs[k].val∧(askCells qs)[k*2+1]?=some (.int .i64 qs[k].e)
 | q :: r,0,_=>⟨rfl,rfl⟩
 | q :: r,k+1,h=>by
  have:=ask_cells r k (by simpa using h)
  rw [show(k+1)*2=k*2+1+1 by omega]
  exact this
theorem askE_at:∀(qs:List Ask) (k:Nat) (h:k < qs.length),(∀j (hj:j < qs.length),j < k→qs[j].ans=true)→qs[k].ans=false→askE qs=qs[k].e
 | q :: r,0,_,_,h=>by simp at h;simp [askE,h]
 | q :: r,k+1,hk,ha,h=>by
  have h0:q.ans=true:=ha 0 (by simp) (by omega)
  rw [askE,if_pos h0]
  exact askE_at r k (by simpa using hk) (fun j hj hjk=>ha (j+1) (by simpa using hj) (by omega)) h
theorem askE_end:∀(qs:List Ask),(∀j (hj:j < qs.length),qs[j].ans=true)→askE qs=0
 | [],_=>rfl
 | q :: r,ha=>by
  have h0:q.ans=true:=ha 0 (by simp)
  rw [askE,if_pos h0]
  exact askE_end r fun j hj=>ha (j+1) (by simpa using hj)
def Asks (w:World) (qs:List Ask):Prop:=
 ∀k (hk:k < qs.length),(∀j (hj:j < qs.length),j < k→qs[j].ans=true)→(∀args V,(callFunc qs[k].cf args).run Tryz.prog V= .ok (.enter qs[k].cf args) V)∧
  ∀V,Below w.heap.size w V→Calls Tryz.prog qs[k].cf (qs[k].first ++ qs[k].cap) V fun e V'=>e= .returned (.bool qs[k].ans)∧Below V.heap.size V V'
theorem asked_any (qs:List Ask) (g n c:Nat) (w:World) (hn:qs.length=n) (hm:n≤100) (hr:Row w g 276 (askCells qs)) (hq:Asks w qs):
  Calls Tryz.prog 187 #[.slice (some ⟨g,0,none⟩) n c] w fun e w'=>e= .returned (.int .i64 (askE qs))∧Below w.heap.size w w':=by
 have hgl:=hr.lt
 have HC:=Lh (fun k hk=>ask_cells qs k hk)
 have HA:=Lh (fun k h1 h2 h3=>askE_at qs k h1 h2 h3)
 have HE:=Lh (askE_end qs)
 have HQ:=Lh hq
 have HR:=Lh hr
 obtain⟨E,hE⟩:=Nm (askE qs)
 rw [←hE]at HA HE ⊢
 clear hE hq hr
 go_enter Tryz.func187,Tryz.ntmps187
 go_wp2_with fail
 go_loopw [7] (fun s wr=>∃k:Nat,k≤n∧s= .int .i64 (k:Int)∧Hid (∀j (hj:j < qs.length),j < k→qs[j].ans=true)∧Below w.heap.size w wr) (fun s _=>n - (_root_.Go.RowKit.intOf s).toNat)
 case atStart=>exact⟨0,by omega,rfl,Lh (fun j hj h=>absurd h (by omega)),Br⟩
 case round=>
  obtain⟨k,hk,rfl,hall,hb⟩:=hrel
  by_cases hlt:k < n
  ·have hkl:k < qs.length:=by omega
   have e0:decide ((k:Int) < (n:Int))=true:=Dt (by omega)
   have i0:(0:Int)≤(k:Int):=by omega
   have i1:(k:Int) < (n:Int):=by omega
   obtain⟨c0,c1⟩:=HC.out k hkl
   have hc0:wr.cell? ⟨g,k*2,none⟩=some qs[k].val:=((hb.cell (p:=⟨g,k*2,none⟩) hgl).trans (HR.out.cell _)).trans c0
   have hc1:wr.cell? ⟨g,k*2+1,none⟩=some (.int .i64 qs[k].e):=((hb.cell (p:=⟨g,k*2+1,none⟩) hgl).trans (HR.out.cell _)).trans c1
   obtain⟨hent,hcall⟩:=HQ.out k hkl hall.out
   have HCALL:=Lh hcall
   obtain⟨q,hqe⟩:=Nm (qs[k])
   have HQE:=Lh hqe
   rw [←hqe]at hc0 hc1 hent HCALL
   obtain⟨cf,first,cap,ee,ans⟩:=q
   simp only [Ask.val]at hc0 hc1 hent HCALL
   clear hcall c0 c1 hqe
   go_wp2_with fail
   have hb1:=Lh (hb.alloc hb.size (.cells #[.func (.func cf) first cap,.int .i64 ee] 276))
   refine(HCALL.out _ hb1.out).mono ?_
   rintro e w1 ⟨rfl,hb2⟩
   have hd1:w1.cell? ⟨wr.heap.size,1,none⟩=some (.int .i64 ee):=(hb2.cell (p:=⟨wr.heap.size,1,none⟩) (by simp)).trans (cell_alloc_new _ _ _ _)
   have hb3:=Lh (show Below w.heap.size w w1 from hb1.out.trans (hb2.mono (by have:=hb1.out.size;exact this)))
   clear hb2 hb1 hc0 hc1 hent HCALL
   cases ans
   ·have hfin:=Lh (HA.out k hkl hall.out (by rw [←HQE.out]))
    rw [←HQE.out]at hfin
    go_wp2
    go_ret
    exact⟨by rw [hfin.out];rfl,hb3.out⟩
   ·have hall2:Hid (∀j (hj:j < qs.length),j < k+1→qs[j].ans=true):=Lh fun j hj hjk=>by
     rcases Nat.lt_or_ge j k with h | h
     ·exact hall.out j hj h
     ·obtain rfl:j=k:=by omega
      rw [←HQE.out]
    go_wp2
    go_roundw
    case rel=>exact⟨k+1,by omega,by go_num,hall2,hb3.out⟩
    case measure=>simp [_root_.Go.RowKit.intOf];omega
  ·obtain rfl:k=n:=by omega
   have hfin:=Lh (HE.out (fun j hj=>hall.out j hj (by omega)))
   go_wp2
   go_ret
   exact⟨by rw [hfin.out];rfl,hb⟩
def boxW (w:World):List (List Value × TypeId)→World
 | []=>w
 | x :: r=>boxW (w.alloc (.cells x.1.toArray x.2)) r
structure Boxes (w:World) (l:List (List Value)) (V:World):Prop where
 below:Below w.heap.size w V
 row:∀k cs,l[k]?=some cs→∃t,Row V (w.heap.size+k) t cs
 size:w.heap.size+l.length≤V.heap.size
theorem Boxes.cell {w V:World} {l:List (List Value)} (h:Boxes w l V) (k:Nat) (cs:List Value) (hk:l[k]?=some cs) (j:Nat) (v:Value) (hv:cs[j]?=some v):V.cell? ⟨w.heap.size+k,j,none⟩=some v:=by
 obtain⟨t,hr⟩:=h.row k cs hk
 exact(hr.cell j).trans hv
theorem Boxes.frozen {w V:World} {l:List (List Value)} (h:Boxes w l V) (k:Nat) (cs:List Value) (hk:l[k]?=some cs) (j:Nat):V.frozen? ⟨w.heap.size+k,j,none⟩=false:=by
 obtain⟨t,hr⟩:=h.row k cs hk
 exact hr.frozen j
theorem box_size:∀(l:List (List Value × TypeId)) (w:World),(boxW w l).heap.size=w.heap.size+l.length
 | [],w=>rfl
 | x :: r,w=>by rw [boxW,box_size r];simp;omega
theorem box_below:∀(l:List (List Value × TypeId)) (w V:World),Below w.heap.size w V→Below w.heap.size w (boxW V l)
 | [],w,V,h=>h
 | x :: r,w,V,h=>by rw [boxW];exact box_below r w _ (h.alloc h.size _)
theorem box_keep:∀(l:List (List Value × TypeId)) (V:World) (k:Nat),k < V.heap.size→(boxW V l).heap[k]?=V.heap[k]?
 | [],V,k,h=>rfl
 | x :: r,V,k,h=>by
  rw [boxW,box_keep r _ k (by simp;omega)]
  exact Below.heap_alloc _ _ _ h
theorem box_row:∀(l:List (List Value × TypeId)) (w:World) (k:Nat) (x:List Value × TypeId),l[k]?=some x→Row (boxW w l) (w.heap.size+k) x.2 x.1
 | [],w,k,x,h=>by simp at h
 | y :: r,w,0,x,h=>by
  simp at h
  subst h
  exact(Row.new w y.2 y.1).same (box_keep r _ _ (by simp))
 | y :: r,w,k+1,x,h=>by
  have:=box_row r (w.alloc (.cells y.1.toArray y.2)) k x (by simpa using h)
  rw [World.size_alloc]at this
  rw [boxW,show w.heap.size+(k+1)=w.heap.size+1+k by omega]
  exact this
def askW (w:World) (l:List (List Value × TypeId)) (qs:List Ask):World:=(boxW w l).alloc (.cells (askCells qs).toArray 276)
theorem Boxes.more {w V V':World} {l:List (List Value)} (h:Boxes w l V) (hb:Below V.heap.size V V'):Boxes w l V':=
 ⟨below0 h.below hb,fun k cs hk=>by
  obtain⟨t,hr⟩:=h.row k cs hk
  exact⟨t,hr.below hb⟩,Nat.le_trans h.size hb.size⟩
theorem Boxes.keepRow {w V V':World} {l:List (List Value)} {F:Nat→Prop} (h:Boxes w l V) (hb:Keep F V V') (hF:∀k,F k→k < w.heap.size) (k:Nat) (cs:List Value) (hk:l[k]?=some cs):∃t,Row V' (w.heap.size+k) t cs:=by
 obtain⟨t,hr⟩:=h.row k cs hk
 exact⟨t,hb.row hr fun hf=>by have:=hF _ hf;omega⟩
theorem Boxes.keep {w V V':World} {l:List (List Value)} {F:Nat→Prop} (h:Boxes w l V) (hb:Keep F V V') (hF:∀k,F k→k < w.heap.size) (k:Nat) (cs:List Value) (hk:l[k]?=some cs) (j:Nat) (v:Value) (hv:cs[j]?=some v):V'.cell? ⟨w.heap.size+k,j,none⟩=some v:=by
 obtain⟨t,hr⟩:=h.keepRow hb hF k cs hk
 exact(hr.cell j).trans hv
theorem askW_boxes (w:World) (l:List (List Value × TypeId)) (qs:List Ask):Boxes w (l.map Prod.fst) (askW w l qs)∧Row (askW w l qs) (w.heap.size+l.length) 276 (askCells qs)∧(askW w l qs).heap.size=w.heap.size+l.length+1:=by
 have hs:=box_size l w
 refine⟨⟨(box_below l w w Br).alloc (by omega) _,fun k cs hk=> ?_,by simp [askW,hs]⟩,Row.new_at _ _ _ hs,by simp [askW,hs]⟩
 rw [List.getElem?_map,Option.map_eq_some_iff]at hk
 obtain⟨x,hx,rfl⟩:=hk
 exact⟨_,(box_row l w k x hx).below (below1 _ _)⟩
theorem asked_box {w:World} (l:List (List Value × TypeId)) (qs:List Ask) (n c s:Nat) (hs:s=w.heap.size+l.length) (hn:qs.length=n) (hm:n≤100)
  (HQ:∀k (hk:k < qs.length),(∀j (hj:j < qs.length),j < k→qs[j].ans=true)→(∀args V,(callFunc qs[k].cf args).run Tryz.prog V= .ok (.enter qs[k].cf args) V)∧
   ∀V,Boxes w (l.map Prod.fst) V→Calls Tryz.prog qs[k].cf (qs[k].first ++ qs[k].cap) V fun e V'=>e= .returned (.bool qs[k].ans)∧Below V.heap.size V V'):
  Calls Tryz.prog 187 #[.slice (some ⟨s,0,none⟩) n c] (askW w l qs) fun e w'=>e= .returned (.int .i64 (askE qs))∧Boxes w (l.map Prod.fst) w'∧s < w'.heap.size:=by
 obtain⟨h1,h2,h3⟩:=askW_boxes w l qs
 subst hs
 refine(asked_any qs (w.heap.size+l.length) n c _ hn hm h2 fun k hk hall=>⟨(HQ k hk hall).1,fun V hV=>(HQ k hk hall).2 V (h1.more hV)⟩).mono fun e w' ⟨e1,e2⟩=>⟨e1,h1.more e2,?_⟩
 have:=e2.size
 omega
theorem Boxes.rep {w V:World} {l:List (List Value)} {b bp bf:Nat} {t:Tb} (h:Boxes w l V) (hr:Rep w b t bp bf):Rep V b t bp bf:=hr.below h.below
theorem look_en {l:Tb} {z:Int} {v:Value} {ps:List MemPlace} (h:entR v=some ((mapP l).atKey (.int .i64 z) (entD zeroEn),ps)):v=enV (getX l z):=by
 obtain⟨x,rfl,hy⟩:=entR_inv h
 injection hy with hy _
 rw [mapP_at]at hy
 unfold getX
 cases hl:look l z with
 | none=>
  rw [hl]at hy
  rw [←entD_inj hy]
  rfl
 | some e=>
  rw [hl]at hy
  rw [←entD_inj hy]
  rfl
theorem unit_v {v:Value} {y:DataW Unit × List MemPlace} (h:unitR v=some y):v= .agg #[]:=by
 unfold unitR at h
 split at h
 ·rfl
 ·cases h
theorem mapped_any (b bp:Nat) (l:Tb) (z:Int) (w:World) (hz:I64 z) (hc:w.cell? ⟨b,0,none⟩=some (.map (some bp))) (hm:PMap w bp l):
  Calls Tryz.prog 194 #[bx b,.int .i64 z] w fun e w'=>e= .returned (.bool (look l z).isSome)∧Below w.heap.size w w':=by
 have hkey:=keyZ hz
 have hh:=mapP_has l z
 have HL:=Lh (fun v ps h=>(show v= .agg #[.int .i64 (getX l z).1,.int .i64 (getX l z).2.1,.int .i64 (getX l z).2.2] from look_en (l:=l) (z:=z) (v:=v) (ps:=ps) h))
 obtain⟨q,hq⟩:=Nm ((look l z).isSome)
 rw [←hq]at hh ⊢
 obtain⟨D,hD⟩:=Nm (mapP l)
 have hm:w.ownsMap Tryz.prog 3 entR bp 65536 D:=by rw [hD];exact hm
 rw [←hD]at hh HL
 obtain⟨y,hy⟩:=Nm (getX l z)
 rw [←hy]at HL
 clear hD hq hy
 obtain⟨y1,y2,y3⟩:=y
 simp only at HL
 have HB:=Lh (fun V=>below1 w V)
 have HE:=Lh (entR_en zeroEn)
 go_enter Tryz.func194,Tryz.ntmps194
 go_wp2_with (at_lookup;refine wpList_lookup_own_ok _ rfl _ _ 162 rfl 3 195 law Tryz.underlying162 entR (zeroP _) (entD zeroEn) [] HE.out bp 65536 D rfl hm _ _ rfl hkey ?_;intro v ps hv;rw [hh];obtain rfl:=HL.out _ _ hv)
 go_ret
 exact⟨rfl,HB.out _⟩
theorem framed_any (b bf:Nat) (l:Tb) (z:Int) (w:World) (hz:I64 z) (hc:w.cell? ⟨b,1,none⟩=some (.map (some bf))) (hm:FMap w bf l):
  Calls Tryz.prog 196 #[bx b,.int .i64 z] w fun e w'=>e= .returned (.bool (framed l z))∧Below w.heap.size w w':=by
 obtain⟨D,hm,hF⟩:=hm
 have hkey:=keyZ hz
 have hh:=hF.has z
 obtain⟨q,hq⟩:=Nm (framed l z)
 rw [←hq]at hh ⊢
 clear hq hF
 have HB:=Lh (fun V=>below1 w V)
 have HE:Hid (unitR (.agg #[])=some (unitD,[])):=Lh rfl
 go_enter Tryz.func196,Tryz.ntmps196
 go_wp2_with (at_lookup;refine wpList_lookup_own_ok _ rfl _ _ 163 rfl 3 311 law Tryz.underlying163 unitR (zeroU _) unitD [] HE.out bf 65536 D rfl hm _ _ rfl hkey ?_;intro v ps hv;rw [hh];obtain rfl:=unit_v hv)
 go_ret
 exact⟨rfl,HB.out _⟩
theorem new_rep (w:World):Rep (((w.alloc (.map #[] 0)).alloc (.map #[] 0)).alloc (.cells #[.map (some w.heap.size),.map (some (w.heap.size+1))] 167)) (w.heap.size+1+1) [] w.heap.size (w.heap.size+1):=by
 refine⟨Tok.nil,Row.new_at _ _ [.map (some w.heap.size),.map (some (w.heap.size+1))] (by simp),?_,⟨.map [],?_,Frs.nil⟩,by omega⟩
 ·exact owns_same (owns_same ((World.ownsMap_made w Tryz.prog 3 entR).mono (Nat.zero_le _)) (Below.heap_alloc _ _ _ (by simp))) (Below.heap_alloc _ _ _ (by simp;omega))
 ·have:=World.ownsMap_made (w.alloc (.map #[] 0)) Tryz.prog 3 unitR
  rw [World.size_alloc]at this
  exact owns_same (this.mono (Nat.zero_le _)) (Below.heap_alloc _ _ _ (by simp))
theorem new_any (w:World):Calls Tryz.prog 37 #[] w fun e w'=>∃b F,e= .returned (bx b)∧Has w' b [] F∧(∀k,F k→w.heap.size≤k)∧Below w.heap.size w w':=by
 have hmm:=@run_makeMap Tryz.prog
 have hfin:=Lh (show ∃b F,Ending.returned (bx (w.heap.size+1+1))= .returned (bx b)∧Has (((w.alloc (.map #[] 0)).alloc (.map #[] 0)).alloc (.cells #[.map (some w.heap.size),.map (some (w.heap.size+1))] 167)) b [] F∧(∀k,F k→w.heap.size≤k)∧Below w.heap.size w (((w.alloc (.map #[] 0)).alloc (.map #[] 0)).alloc (.cells #[.map (some w.heap.size),.map (some (w.heap.size+1))] 167)) from by
  refine⟨_,_,rfl,⟨_,_,new_rep w,rfl⟩,?_,below3 _ _ _ _⟩
  rintro k (rfl | rfl | rfl)
  ·omega
  ·omega
  ·omega)
 go_enter Tryz.func37,Tryz.ntmps37
 go_wp2_with fail
 go_ret
 exact hfin.out
theorem get_any {b bp bf:Nat} {l:Tb} {w:World} (h:Rep w b l bp bf) (z:Int) (hz:I64 z):Calls Tryz.prog 182 #[bx b,.int .i64 z] w fun e w'=>e= .returned (.tuple #[enV (getX l z),.bool (look l z).isSome])∧Below w.heap.size w w':=by
 have hb1:=below1 w (.cells #[.int .i64 0,.int .i64 0,.int .i64 0] 195)
 have h1:=Lh (there_map b bp (w.alloc (.cells #[.int .i64 0,.int .i64 0,.int .i64 0] 195)) (h.below hb1).c0)
 have c0:=h.c0
 have hm:=(h.below hb1).pages
 have hlt:=h.obj.lt
 have hkey:=keyZ hz
 have hh:=mapP_has l z
 have HL:=Lh (fun v ps h=>(show v= .agg #[.int .i64 (getX l z).1,.int .i64 (getX l z).2.1,.int .i64 (getX l z).2.2] from look_en (l:=l) (z:=z) (v:=v) (ps:=ps) h))
 obtain⟨q,hq⟩:=Nm ((look l z).isSome)
 rw [←hq]at hh ⊢
 obtain⟨D,hD⟩:=Nm (mapP l)
 have hm:World.ownsMap (w.alloc (.cells #[.int .i64 0,.int .i64 0,.int .i64 0] 195)) Tryz.prog 3 entR bp 65536 D:=by rw [hD];exact hm
 rw [←hD]at hh HL
 obtain⟨y,hy⟩:=Nm (getX l z)
 rw [←hy]at HL ⊢
 clear hD hq hy h
 obtain⟨y1,y2,y3⟩:=y
 simp only at HL
 have HB:=Lh hb1
 have HE:=Lh (entR_en zeroEn)
 clear hb1
 go_enter Tryz.func182,Tryz.ntmps182
 go_wp2_with fail
 refine h1.out.mono ?_
 rintro e w1 ⟨rfl,rfl⟩
 go_wp2_with (at_lookup;refine wpList_lookup_own_ok _ rfl _ _ 162 rfl 3 195 law Tryz.underlying162 entR (zeroP _) (entD zeroEn) [] HE.out bp 65536 D rfl hm _ _ rfl hkey ?_;intro v ps hv;rw [hh];obtain rfl:=HL.out _ _ hv)
 exact bodyPost_ret (res_cell2 Tryz.results182 rfl (load_en2 w y1 y2 y3 _)) rfl ⟨rfl,below2 w _ _⟩
end Go.Proofs.YtfcfbcjiijfjgaaGreatDoor.Pg
