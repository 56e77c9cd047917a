import Derived.Test.YtfcfbcjiijfjgaaGreatDoorPBF
import Derived.Laws.Entries
import Derived.BigQuiet
namespace Go.Proofs.YtfcfbcjiijfjgaaGreatDoor.Sh
open Go.RowKit Go.Shelf
attribute [local go_sem] Oper.semAt_some
abbrev Ls:=List Int
def izs (l:Ls):List Value:=l.map fun z=> .int .i64 z
theorem izs_len (l:Ls):(izs l).length=l.length:=by simp [izs]
theorem izs_get (l:Ls) {k:Nat} (h:k < l.length):(izs l)[k]?=some (.int .i64 l[k]):=by simp [izs,h]
theorem izs_set (l:Ls) (k:Nat) (z:Int):(izs l).set k (.int .i64 z)=izs (l.set k z):=by simp [izs,List.map_set]
def Wi (w:World) (v:Value) (l:Ls):Prop:=∃A c,v= .slice A l.length c∧l.length≤c∧(l≠[]→∃g rest,A=some ⟨g,0,none⟩∧Row w g 3 (izs l ++ rest))
section
variable {w w':World} {v:Value} {l:Ls}
theorem Wi.nil_ (w:World):Wi w (.slice none 0 0) []:=⟨none,0,rfl,Nat.le_refl _,fun h=>absurd rfl h⟩
theorem Wi.same (h:Wi w v l) (hk:∀g cs,Row w g 3 cs→w'.heap[g]?=w.heap[g]?):Wi w' v l:=by
 obtain⟨A,c,e,hc,h⟩:=h
 refine⟨A,c,e,hc,fun hn=> ?_⟩
 obtain⟨g,rest,e2,hr⟩:=h hn
 exact⟨g,rest,e2,hr.same (hk g _ hr)⟩
theorem Wi.below (h:Wi w v l) (hb:Below w.heap.size w w'):Wi w' v l:=h.same fun _ _ hr=>hb.block _ hr.lt
theorem Wi.sees (h:Wi w v l):∃A c,v= .slice A l.length c∧l.length≤c∧Sees w w.heap.size A (izs l):=by
 obtain⟨A,c,e,hc,h⟩:=h
 refine⟨A,c,e,hc,fun hn=> ?_⟩
 obtain⟨g,rest,e2,hr⟩:=h (fun e=>hn (by rw [e];rfl))
 exact⟨_,e2,hr.lt,fun j u hu=>by
  rw [add_plain,Nat.zero_add,hr.cell,List.getElem?_append_left (List.getElem?_eq_some_iff.1 hu).1]
  exact hu⟩
end
theorem sees_int {w:World} {B:Nat} {A:Option Addr} {l:Ls} (h:Sees w B A (izs l)) {k:Nat} (hk:k < l.length):∃ad,A=some ad∧ad.block < B∧w.cell? (ad.add k)=some (.int .i64 l[k]):=by
 obtain⟨ad,e,hb,hc⟩:=h.at_ (k:=k) (by rw [izs_len];exact hk)
 have e1:=izs_get l hk
 rw [List.getElem?_eq_getElem (by rw [izs_len];exact hk)]at e1
 rw [Option.some.inj e1]at hc
 exact⟨ad,e,hb,hc⟩
theorem cell_one_at (w:World) (v:Value) (t:TypeId):∀(j:Nat) (u:Value),[v][j]?=some u→(w.alloc (.cells #[v] t)).cell? ((⟨w.heap.size,0,none⟩:Addr).add j)=some u:=fun j u hu=>by
 rw [add_plain,Nat.zero_add,cell_alloc_new]
 simpa using hu
def Sts (l:Ls):Prop:=∀z∈l,0≤z∧z≤4
def hz (l:List Nat):Ls:=l.map fun n:Nat=>(n:Int)
def letter (z:Int):UInt8:=if z=0 then 102 else if z=1 then 107 else if z=2 then 108 else if z=3 then 104 else 103
def text (l:Ls):List UInt8:=l.map letter
theorem text_len (l:Ls):(text l).length=l.length:=by simp [text]
theorem text_app (a b:Ls):text (a ++ b)=text a ++ text b:=by simp [text]
def unletter (b:UInt8):Option Int:=if b=102 then some 0 else if b=107 then some 1 else if b=108 then some 2 else if b=104 then some 3 else if b=103 then some 4 else none
def untext:List UInt8→Option Ls
 | []=>some []
 | b :: r=>match unletter b,untext r with
  | some z,some l=>some (z :: l)
  | _,_=>none
end Go.Proofs.YtfcfbcjiijfjgaaGreatDoor.Sh
