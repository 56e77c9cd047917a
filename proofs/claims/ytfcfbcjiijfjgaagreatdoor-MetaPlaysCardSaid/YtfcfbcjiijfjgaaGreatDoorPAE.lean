import Derived.Test.YtfcfbcjiijfjgaaGreatDoorPAA
import Derived.WideKeyEntry
import Derived.Maps.OwnSet
import Derived.Maps.Range
import Derived.Deep.Slices
import Derived.Deep.DeepHandedRow
import Derived.Test.YtfcfbcjiijfjgaaGreatDoorCards
import Derived.Test.YtfcfbcjiijfjgaaGreatDoorTie
import Derived.ClosedOfChecked
set_option maxHeartbeats 1000000
namespace Go.Proofs.YtfcfbcjiijfjgaaGreatDoor.Sz
open Go.RowKit
def pays:List Nat:= [16,32,48,64,96,128,192,256]
def pay (k:Nat):Nat:=pays.getD k 0
def payCells:Array Value:= #[.int .i64 16,.int .i64 32,.int .i64 48,.int .i64 64,.int .i64 96,.int .i64 128,.int .i64 192,.int .i64 256]
theorem pay_cases {k:Nat} (h:k < 8):(k=0∧pay k=16)∨(k=1∧pay k=32)∨(k=2∧pay k=48)∨(k=3∧pay k=64)∨(k=4∧pay k=96)∨(k=5∧pay k=128)∨(k=6∧pay k=192)∨(k=7∧pay k=256):=by
 rcases(show k=0∨k=1∨k=2∨k=3∨k=4∨k=5∨k=6∨k=7 by omega) with rfl | rfl | rfl | rfl | rfl | rfl | rfl | rfl <;> simp [pay,pays]
theorem pay_bound {k:Nat} (h:k < 8):16≤pay k∧pay k≤256∧pay k % 16=0:=by
 rcases pay_cases h with h | h | h | h | h | h | h | h <;> omega
def Tab (w:World):Prop:=∃t fr,w.heap[0]?=some (.cells payCells t fr)
theorem Tab.lt {w:World} (h:Tab w):0 < w.heap.size:=by
 obtain⟨t,fr,h⟩:=h
 exact(Array.getElem?_eq_some_iff.1 h).1
theorem Tab.same {w w':World} (h:Tab w) (hb:w'.heap[0]?=w.heap[0]?):Tab w':=by
 obtain⟨t,fr,h⟩:=h
 exact⟨t,fr,hb.trans h⟩
theorem Tab.below {w w':World} (h:Tab w) (hb:Below w.heap.size w w'):Tab w':=h.same (hb.block _ h.lt)
theorem Tab.alloc {w:World} (h:Tab w) (o:Obj):Tab (w.alloc o):=h.below (Br.alloc Lr _)
theorem Tab.drewN {w:World} (h:Tab w) (n:Nat):Tab (w.drewN n):=h
theorem Tab.of {w:World} (h:Lib.TabIs Tryz.prog w "pinfold/size.payloads" .i64 [16,32,48,64,96,128,192,256]):Tab w:=by
 unfold Lib.TabIs World.var? at h
 have hg:Tryz.prog.globalNamed "pinfold/size.payloads" =some 0:=by kernel_rfl
 rw [hg]at h
 simp only [Option.bind_some]at h
 split at h
 ·rename_i cs t fr hh
  simp only [Option.some.injEq]at h
  subst h
  exact⟨t,fr,hh⟩
 ·cases h
theorem Tab.cell {w:World} (h:Tab w) {k:Nat} (hk:k < 8):w.cell? ⟨0,k,none⟩=some (.int .i64 (pay k:Int)):=by
 obtain⟨t,fr,h⟩:=h
 rw [cell_of_row _ _ k _ t fr h]
 rcases(show k=0∨k=1∨k=2∨k=3∨k=4∨k=5∨k=6∨k=7 by omega) with rfl | rfl | rfl | rfl | rfl | rfl | rfl | rfl <;> simp [pay,pays,payCells]
theorem below1 (w:World) (o:Obj):Below w.heap.size w (w.alloc o):=Br.alloc Lr _
theorem below2 (w:World) (o p:Obj):Below w.heap.size w ((w.alloc o).alloc p):=(below1 w o).alloc (by simp) _
abbrev kv (n p:Int):Value:= .agg #[.int .i64 n,.int .i64 p]
def isK (n:Int):Bool:=decide (0≤n) && decide (n < 8)
theorem known_any (n:Int) (w:World):Calls Tryz.prog 217 #[.int .i64 n] w fun e w'=>e= .returned (.bool (isK n))∧w=w':=by
 by_cases h0:0≤n
 ·by_cases h8:n < 8
  ·have e0:decide (0≤n)=true:=decide_eq_true h0
   have e8:decide (n < 8)=true:=decide_eq_true h8
   go_enter Tryz.func217,Tryz.ntmps217
   go_wp2
   go_ret
   exact⟨by rw [isK,e0,e8];rfl,rfl⟩
  ·have e0:decide (0≤n)=true:=decide_eq_true h0
   have e8:decide (n < 8)=false:=decide_eq_false h8
   go_enter Tryz.func217,Tryz.ntmps217
   go_wp2
   go_ret
   exact⟨by rw [isK,e0,e8];rfl,rfl⟩
 ·have e0:decide (0≤n)=false:=decide_eq_false h0
  go_enter Tryz.func217,Tryz.ntmps217
  go_wp2
  go_ret
  exact⟨by rw [isK,e0];rfl,rfl⟩
theorem isK_yes {k:Nat} (h:k < 8):isK (k:Int)=true:=by simp [isK];omega
theorem kindOf_yes (k:Nat) (w:World) (ht:Tab w) (hk:k < 8):Calls Tryz.prog 216 #[.int .i64 (k:Int)] w fun e w'=>e= .returned (kv k (pay k))∧Below w.heap.size w w':=by
 have hc:∀o p,((w.alloc o).alloc p).cell? ⟨0,k,none⟩=some (.int .i64 (pay k:Int)):=fun o p=>((ht.alloc o).alloc p).cell hk
 have hkn:=Lh (fun w=>known_any (k:Int) w)
 rw [isK_yes hk]at hkn
 have hk0:decide ((k:Int) < 8)=true:=Dt (by omega)
 have hk1:k < 8:=hk
 obtain⟨p,hp⟩:=Nm (pay k)
 rw [←hp]at hc ⊢
 clear hp hk
 go_enter Tryz.func216,Tryz.ntmps216
 go_wp2_with fail
 refine(hkn.out _).mono ?_
 rintro e w1 ⟨rfl,rfl⟩
 go_wp2
 exact bodyPost_ret (v:=kv k p) (by simp [results,Tryz.results216,go_sem]) rfl ⟨rfl,below2 _ _ _⟩
theorem kindOf_no (n:Int) (w:World) (hk:isK n=false):Calls Tryz.prog 216 #[.int .i64 n] w fun e w'=>e= .returned (kv n 0)∧Below w.heap.size w w':=by
 have hkn:=Lh (fun w=>known_any n w)
 rw [hk]at hkn
 clear hk
 go_enter Tryz.func216,Tryz.ntmps216
 go_wp2_with fail
 refine(hkn.out _).mono ?_
 rintro e w1 ⟨rfl,rfl⟩
 go_wp2
 exact bodyPost_ret (v:=kv n 0) (by simp [results,Tryz.results216,go_sem]) rfl ⟨rfl,below2 _ _ _⟩
theorem wrapI (a:Int) (h1: -9223372036854775808≤a) (h2:a≤9223372036854775807):IntKind.i64.wrap a=a:=IntWalk.i64_in a (by omega)
theorem slot_any (n:Int) (p:Nat) (w:World) (hp:p≤256):Calls Tryz.prog 148 #[kv n p] w fun e w'=>e= .returned (.int .i64 ((p+32:Nat):Int))∧Below w.heap.size w w':=by
 have h1:IntKind.i64.wrap (16+(p:Int))=((16+p:Nat):Int):=wrapI ((16+p:Nat):Int) (by omega) (by omega)
 have h2:IntKind.i64.wrap (((16+p:Nat):Int)+16)=((p+32:Nat):Int):=by rw [wrapI _ (by omega) (by omega)];omega
 obtain⟨a,ha⟩:=Nm (16+p)
 obtain⟨b,hb⟩:=Nm (p+32)
 rw [←ha]at h1 h2
 rw [←hb]at h2 ⊢
 clear ha hb hp
 go_enter Tryz.func148,Tryz.ntmps148
 go_wp2
 go_ret
 exact⟨rfl,below1 _ _⟩
theorem div4096 (p:Nat):IntKind.i64.wrap ((4096:Int) / ((p:Nat):Int))=((4096 / p:Nat):Int):=by
 have:(4096:Int) / ((p:Nat):Int)=((4096 / p:Nat):Int):=rfl
 have hle:=Nat.div_le_self 4096 p
 rw [this]
 obtain⟨q,hq⟩:=Nm (4096 / p)
 rw [←hq]at hle ⊢
 exact wrapI _ (by omega) (by omega)
theorem count_any (n:Int) (p:Nat) (w:World) (hp:p≤256):Calls Tryz.prog 150 #[kv n p] w fun e w'=>e= .returned (.int .i64 ((4096 / (p+32):Nat):Int))∧Below w.heap.size w w':=by
 have hs:=Lh (fun w=>slot_any n p w hp)
 have hd:=div4096 (p+32)
 have hne:¬((p+32:Nat):Int)=0:=by omega
 have hne2:(((p+32:Nat):Int) == 0)=false:=beq_eq_false_iff_ne.2 hne
 obtain⟨a,ha⟩:=Nm (p+32)
 rw [←ha]at hs hd hne hne2 ⊢
 clear ha hp
 go_enter Tryz.func150,Tryz.ntmps150
 go_wp2_with fail
 refine(hs.out _).mono ?_
 rintro e w1 ⟨rfl,hb1⟩
 go_wp2
 go_ret
 exact⟨rfl,(below1 _ _).trans (hb1.mono (by simp))⟩
theorem slot1_any (n:Int) (p:Nat) (w:World) (hp:p≤256):Calls Tryz.prog 147 #[kv n p] w fun e w'=>e= .returned (.int .i64 ((p+32:Nat):Int))∧Below w.heap.size w w':=by
 have hs:=Lh (fun w=>slot_any n p w hp)
 obtain⟨a,ha⟩:=Nm (p+32)
 rw [←ha]at hs ⊢
 clear ha hp
 go_enter Tryz.func147,Tryz.ntmps147
 go_wp2_with fail
 refine(hs.out _).mono ?_
 rintro e w1 ⟨rfl,hb1⟩
 go_wp2
 go_ret
 exact⟨rfl,(below1 _ _).trans (hb1.mono (by simp))⟩
theorem count1_any (n:Int) (p:Nat) (w:World) (hp:p≤256):Calls Tryz.prog 149 #[kv n p] w fun e w'=>e= .returned (.int .i64 ((4096 / (p+32):Nat):Int))∧Below w.heap.size w w':=by
 have hs:=Lh (fun w=>count_any n p w hp)
 obtain⟨a,ha⟩:=Nm (4096 / (p+32))
 rw [←ha]at hs ⊢
 clear ha hp
 go_enter Tryz.func149,Tryz.ntmps149
 go_wp2_with fail
 refine(hs.out _).mono ?_
 rintro e w1 ⟨rfl,hb1⟩
 go_wp2
 go_ret
 exact⟨rfl,(below1 _ _).trans (hb1.mono (by simp))⟩
theorem told_no (n:Int) (g:Nat) (w:World) (hk:isK n=false):Calls Tryz.prog 146 #[.int .i64 n,.func (.func g) #[] #[]] w fun e w'=>e= .returned (.tuple #[.int .i64 0,.int .i64 2])∧Below w.heap.size w w':=by
 have hkn:=Lh (fun w=>known_any n w)
 have hko:=Lh (fun w=>kindOf_no n w hk)
 rw [hk]at hkn
 clear hk
 go_enter Tryz.func146,Tryz.ntmps146
 go_wp2_with fail
 refine wp_scope_jump 1 fun R hR hG=> ?_
 go_wp2_with fail
 refine(hko.out _).mono ?_
 rintro e w1 ⟨rfl,hb1⟩
 have hz:=hb1.size
 go_wp2_with fail
 refine(hkn.out _).mono ?_
 rintro e w' ⟨rfl,rfl⟩
 go_wp2_with fail
 refine wp_goto (hG.out _ _ _ _ _ rfl ?_)
 go_wp2
 refine hR.out _ _ _ _ (by simp) ?_
 go_ret2
 exact⟨rfl,hb1.alloc hz _⟩
theorem told_slot (k:Nat) (w:World) (ht:Tab w) (hk:k < 8):Calls Tryz.prog 146 #[.int .i64 (k:Int),.func (.func 147) #[] #[]] w fun e w'=>e= .returned (.tuple #[.int .i64 ((pay k+32:Nat)),.int .i64 0])∧Below w.heap.size w w':=by
 have hkn:=Lh (fun w=>known_any (k:Int) w)
 have hko:=Lh (kindOf_yes k w ht hk)
 have hg:=Lh (fun w=>slot1_any (k:Int) (pay k) w (pay_bound hk).2.1)
 rw [isK_yes hk]at hkn
 obtain⟨r,hr⟩:∃r:Int,r=(pay k+32:Nat):=⟨_,rfl⟩
 rw [←hr]at hg ⊢
 obtain⟨p,hp⟩:=Nm (pay k)
 rw [←hp]at hko hg
 clear hk hp hr ht
 go_enter Tryz.func146,Tryz.ntmps146
 go_wp2_with fail
 refine wp_scope_jump 1 fun R hR hG=> ?_
 go_wp2_with fail
 refine(hko.out).mono ?_
 rintro e w1 ⟨rfl,hb1⟩
 have hz:=hb1.size
 go_wp2_with fail
 refine(hkn.out _).mono ?_
 rintro e w' ⟨rfl,rfl⟩
 go_wp2_with fail
 refine(hg.out _).mono ?_
 rintro e w2 ⟨rfl,hb2⟩
 go_wp2
 refine hR.out _ _ _ _ (by simp) ?_
 go_ret2
 exact⟨rfl,(hb1.alloc hz _).trans (hb2.mono (by simp;omega))⟩
theorem told_count (k:Nat) (w:World) (ht:Tab w) (hk:k < 8):Calls Tryz.prog 146 #[.int .i64 (k:Int),.func (.func 149) #[] #[]] w fun e w'=>e= .returned (.tuple #[.int .i64 ((4096 / (pay k+32):Nat)),.int .i64 0])∧Below w.heap.size w w':=by
 have hkn:=Lh (fun w=>known_any (k:Int) w)
 have hko:=Lh (kindOf_yes k w ht hk)
 have hg:=Lh (fun w=>count1_any (k:Int) (pay k) w (pay_bound hk).2.1)
 rw [isK_yes hk]at hkn
 obtain⟨r,hr⟩:∃r:Int,r=(4096 / (pay k+32):Nat):=⟨_,rfl⟩
 rw [←hr]at hg ⊢
 obtain⟨p,hp⟩:=Nm (pay k)
 rw [←hp]at hko hg
 clear hk hp hr ht
 go_enter Tryz.func146,Tryz.ntmps146
 go_wp2_with fail
 refine wp_scope_jump 1 fun R hR hG=> ?_
 go_wp2_with fail
 refine(hko.out).mono ?_
 rintro e w1 ⟨rfl,hb1⟩
 have hz:=hb1.size
 go_wp2_with fail
 refine(hkn.out _).mono ?_
 rintro e w' ⟨rfl,rfl⟩
 go_wp2_with fail
 refine(hg.out _).mono ?_
 rintro e w2 ⟨rfl,hb2⟩
 go_wp2
 refine hR.out _ _ _ _ (by simp) ?_
 go_ret2
 exact⟨rfl,(hb1.alloc hz _).trans (hb2.mono (by simp;omega))⟩
theorem slot_yes (k:Nat) (w:World) (ht:Tab w) (hk:k < 8):Calls Tryz.prog 72 #[.int .i64 (k:Int)] w fun e w'=>e= .returned (.tuple #[.int .i64 ((pay k+32:Nat)),.int .i64 0])∧Below w.heap.size w w':=by
 have hg:=Lh (told_slot k w ht hk)
 obtain⟨r,hr⟩:∃r:Int,r=(pay k+32:Nat):=⟨_,rfl⟩
 rw [←hr]at hg ⊢
 clear hk hr ht
 go_enter Tryz.func72,Tryz.ntmps72
 go_wp2_with fail
 refine(hg.out).mono ?_
 rintro e w1 ⟨rfl,hb1⟩
 go_wp2
 go_ret2
 exact⟨rfl,hb1⟩
theorem count_yes (k:Nat) (w:World) (ht:Tab w) (hk:k < 8):Calls Tryz.prog 73 #[.int .i64 (k:Int)] w fun e w'=>e= .returned (.tuple #[.int .i64 ((4096 / (pay k+32):Nat)),.int .i64 0])∧Below w.heap.size w w':=by
 have hg:=Lh (told_count k w ht hk)
 obtain⟨r,hr⟩:∃r:Int,r=(4096 / (pay k+32):Nat):=⟨_,rfl⟩
 rw [←hr]at hg ⊢
 clear hk hr ht
 go_enter Tryz.func73,Tryz.ntmps73
 go_wp2_with fail
 refine(hg.out).mono ?_
 rintro e w1 ⟨rfl,hb1⟩
 go_wp2
 go_ret2
 exact⟨rfl,hb1⟩
theorem count_no (n:Int) (w:World) (hk:isK n=false):Calls Tryz.prog 73 #[.int .i64 n] w fun e w'=>e= .returned (.tuple #[.int .i64 0,.int .i64 2])∧Below w.heap.size w w':=by
 have hg:=Lh (fun g=>told_no n g w hk)
 clear hk
 go_enter Tryz.func73,Tryz.ntmps73
 go_wp2_with fail
 refine(hg.out _).mono ?_
 rintro e w1 ⟨rfl,hb1⟩
 go_wp2
 go_ret2
 exact⟨rfl,hb1⟩
end Go.Proofs.YtfcfbcjiijfjgaaGreatDoor.Sz
namespace Go.Proofs.YtfcfbcjiijfjgaaGreatDoor
open Go.ChangeShapes Go.WideShapes Go.MapKept Go.ChangeMaps Go.Maps Go.WideElems
section
variable {H:Type} {P:Program} {w:World} {t k e:TypeId} {R:Value→Option (DataW H × List MemPlace)} {b:Nat} {es:Array MapEntry} {clock:Nat}
theorem entry_store (K:Keyed P k) (ht:P.underlying t=some (.map k e)) {z:Value} (hz:∀u:World,(zeroValue e).run P u= .ok z u) (hb:w.heap[b]?=some (.map es clock)) (F:Fit P k R es clock)
  {key:Value} {kl:Lit} (hkey:keyOf P k key=some kl):
  ∃(v0:Value) (st:Nat) (es1:Array MapEntry) (clock1:Nat),(Instr.mapEntry t (.map (some b)) key).run P w= .ok (.tuple #[v0,goInt st]) (setBlock w b (.map es1 clock1))∧
   ∀(w2:World) (val:Value),w2.heap[b]?=some (.map es1 clock1)→∃es' clock',(Instr.entryStore t (.map (some b)) (goInt st) val).run P w2= .ok () (setBlock w2 b (.map es' clock'))∧
    (Instr.mapUpdate t (.map (some b)) key val).run P w= .ok () (setBlock w b (.map es' clock')):=by
 obtain⟨s1,s2,_⟩:=F.stamped
 rcases K.find w hkey es.toList F.keys with⟨h1,h2⟩ | ⟨j,e0,h1,h2,h3⟩
 ·refine⟨z,clock,es.push ⟨key,z,clock⟩,clock+1,?_,fun w2 val hw2=>⟨es.push ⟨key,val,clock⟩,clock+1,?_,?_⟩⟩
  ·simp [Instr.mapEntry,run_underlying ht,MapKept.run_getObj_map hb,K.check w false hkey,h1,hz,MapKept.run_setObj_map _ hb,Result.andThen,setBlock]
  ·have hidx:(es.push ⟨key,z,clock⟩).findIdx? (fun e=>((e.born:Nat):Int) == ((clock:Nat):Int))=some es.size:=by
    rw [findIdx_arr]
    have:=findIdx_born (l:=(es.push ⟨key,z,clock⟩).toList) (j:=es.size) (e0:=⟨key,z,clock⟩) (by
     simp only [Array.toList_push,List.map_append,List.map_cons,List.map_nil]
     refine List.nodup_append.2 ⟨s2,by simp,fun a ha c hc e1=> ?_⟩
     simp only [List.mem_singleton]at hc
     obtain⟨x,hx,rfl⟩:=List.mem_map.1 ha
     have:=s1 x hx
     omega) (by simp)
    exact this
   have hmod:(es.push ⟨key,z,clock⟩).modify es.size (fun e=>{e with val:=val})=es.push ⟨key,val,clock⟩:=by
    apply Array.ext'
    rw [Array.toList_modify,Array.toList_push,Array.toList_push,←Array.length_toList,modify_last]
   simp [Instr.entryStore,MapKept.run_getObj_map hw2,asInt,asIntOf,goInt,hidx,hmod,MapKept.run_setObj_map _ hw2,Result.andThen,setBlock]
  ·simp [Instr.mapUpdate,run_underlying ht,MapKept.run_getObj_map hb,K.check w false hkey,h1,MapKept.run_setObj_map _ hb,Result.andThen,setBlock]
 ·have hj:es[j]?=some e0:=by simpa using h2
  have hsame:es.modify j (fun e=>{e with key:=key})=es:=by
   apply Array.ext'
   rw [Array.toList_modify,modify_eq_set _ _ _ _ h2]
   have:({e0 with key:=key}:MapEntry)=e0:=by rw [←h3]
   rw [this]
   exact set_self _ _ _ h2
  refine⟨e0.val,e0.born,es,clock,?_,fun w2 val hw2=>⟨es.modify j (fun e'=>{e' with key:=key,val:=val}),clock,?_,?_⟩⟩
  ·simp [Instr.mapEntry,run_underlying ht,MapKept.run_getObj_map hb,K.check w false hkey,h1,hj,h3,K.stays w hkey,hsame,MapKept.run_setObj_map _ hb,Result.andThen,setBlock]
  ·have hidx:es.findIdx? (fun e=>((e.born:Nat):Int) == ((e0.born:Nat):Int))=some j:=by
    rw [findIdx_arr]
    exact findIdx_born s2 h2
   have hmod:es.modify j (fun e=>{e with val:=val})=es.modify j (fun e'=>{e' with key:=key,val:=val}):=by
    apply Array.ext'
    rw [Array.toList_modify,Array.toList_modify,modify_eq_set _ _ _ _ h2,modify_eq_set _ _ _ _ h2,←h3]
   simp [Instr.entryStore,MapKept.run_getObj_map hw2,asInt,asIntOf,goInt,hidx,hmod,MapKept.run_setObj_map _ hw2,Result.andThen,setBlock]
  ·simp [Instr.mapUpdate,run_underlying ht,MapKept.run_getObj_map hb,K.check w false hkey,h1,hj,h3,K.stays w hkey,MapKept.run_setObj_map _ hb,Result.andThen,setBlock]
theorem entry_own {n:Nat} {D:DataW H} (h:w.ownsMap P k R b n D) (K:Keyed P k) (ht:P.underlying t=some (.map k e)) {z:Value} (hz:∀u:World,(zeroValue e).run P u= .ok z u) (hn:n < maxLen)
  {key:Value} {kl:Lit} (hkey:keyOf P k key=some kl):
  ∃(v0:Value) (st:Nat) (w1:World),(Instr.mapEntry t (.map (some b)) key).run P w= .ok (.tuple #[v0,.int .i64 (st:Int)]) w1∧w.grownBy w1 (some b)∧w1.heap.size=w.heap.size∧
   ∀(w2:World) (val:Value) (d:DataW H) (ps:List MemPlace),w2.heap[b]?=w1.heap[b]?→R val=some (d,ps)→
    ∃w3,(Instr.entryStore t (.map (some b)) (.int .i64 (st:Int)) val).run P w2= .ok () w3∧w3.ownsMap P k R b (n+1) (D.put kl d)∧w2.grownBy w3 (some b)∧w3.heap.size=w2.heap.size:=by
 have h0:=h
 obtain⟨es,clock,hb,F,hs,hD⟩:=h
 obtain⟨v0,st,es1,clock1,hrun,hst⟩:=entry_store (R:=R) K ht hz hb F hkey
 have hs1:(setBlock w b (.map es1 clock1)).heap[b]?=some (.map es1 clock1):=heap_setBlock_same hb _
 refine⟨v0,st,_,hrun,⟨rfl,rfl,rfl,by simp [setBlock],fun i _ hi=>heap_setBlock_other hb _ (fun e=>hi (by rw [e]))⟩,by simp [setBlock],fun w2 val d ps hw2 hv=> ?_⟩
 rw [hs1]at hw2
 obtain⟨es',clock',hr2,hup⟩:=hst w2 val hw2
 obtain⟨w',hup',hown,_⟩:=h0.update K ht hn hkey hv
 rw [hup]at hup'
 injection hup' with _ hup'
 subst hup'
 refine⟨_,hr2,?_,⟨rfl,rfl,rfl,by simp [setBlock],fun i _ hi=>heap_setBlock_other hw2 _ (fun e=>hi (by rw [e]))⟩,by simp [setBlock]⟩
 obtain⟨es3,clock3,hb3,rest⟩:=hown
 rw [heap_setBlock_same hb]at hb3
 exact⟨es3,clock3,(heap_setBlock_same hw2 _).trans hb3,rest⟩
end
end Go.Proofs.YtfcfbcjiijfjgaaGreatDoor
namespace Go.Proofs.YtfcfbcjiijfjgaaGreatDoor.Wo
open Go.RowKit Go.Shelf
attribute [local go_sem] Oper.semAt_some
def cutk (s m k:Nat):Nat × Nat:=(k*s,min (k*s+s) m)
theorem cuts_any (m s:Int) (w:World):Calls Tryz.prog 178 #[.int .i64 m,.int .i64 s] w fun e w'=>
  e= .returned (.func (.func 246) #[] #[.pointer (some ⟨w.heap.size+1,0,none⟩),.pointer (some ⟨w.heap.size,0,none⟩)])∧(w.alloc (.cells #[.int .i64 m] 3)).alloc (.cells #[.int .i64 s] 3)=w':=by
 go_enter Tryz.func178,Tryz.ntmps178
 go_wp2
 go_ret
 exact⟨rfl,rfl⟩
def encCut (x:Nat × Nat):Array Value:= #[.int .i64 x.1,.int .i64 x.2]
def preCut (s:Int) (m:Nat) (pre:List (Nat × Nat)) (x:Nat × Nat) (_:World):Prop:=x=cutk s.toNat m pre.length∧pre.length*s.toNat < m∧1≤s
def allCut (s:Int) (m:Nat) (xs:List (Nat × Nat)):Prop:=xs=(List.range xs.length).map (cutk s.toNat m)∧(s < 1→xs= [])∧(1≤s→m≤xs.length*s.toNat)
def someCut (s:Int) (m:Nat) (xs:List (Nat × Nat)):Prop:=xs=(List.range xs.length).map (cutk s.toNat m)
theorem allCut_nil {s:Int} {m:Nat} (h:s < 1):allCut s m []:=⟨rfl,fun _=>rfl,fun h'=>by omega⟩
theorem min_next {F k sn m:Nat} (h:F=min (k*sn) m) (hF:F < m) (hle:sn≤m - F):Hid (F+sn=min ((k+1)*sn) m):=by
 show _=_
 rw [Nat.add_mul,Nat.one_mul]
 omega
theorem min_last {F k sn m:Nat} (h:F=min (k*sn) m) (hF:F < m) (hle:m - F < sn):Hid (m=min ((k+1)*sn) m):=by
 show _=_
 rw [Nat.add_mul,Nat.one_mul]
 omega
theorem cut_next {F k sn m:Nat} (h:F=min (k*sn) m) (hF:F < m) (hle:sn≤m - F):(F,F+sn)=cutk sn m k:=by
 have:F=k*sn:=by omega
 simp only [cutk,←this]
 congr 1
 omega
theorem cut_last {F k sn m:Nat} (h:F=min (k*sn) m) (hF:F < m) (hle:m - F < sn):(F,m)=cutk sn m k:=by
 have:F=k*sn:=by omega
 simp only [cutk,←this]
 congr 1
 omega
theorem range_next {α:Type} {f:Nat→α} {pre:List α} {k:Nat} {x:α} (h:pre=(List.range k).map f) (hx:x=f k):Hid (pre ++ [x]=(List.range (k+1)).map f):=by
 show _=_
 rw [List.range_succ,List.map_append,h,hx]
 rfl
theorem some_of {sn m k:Nat} {pre:List (Nat × Nat)} (h:Hid (pre=(List.range k).map (cutk sn m))):someCut (sn:Int) m pre:=by
 have h:=h.out
 have hl:pre.length=k:=by rw [h];simp
 unfold someCut
 rw [hl,Int.toNat_natCast]
 exact h
theorem all_of {sn m k F:Nat} {pre:List (Nat × Nat)} (h:pre=(List.range k).map (cutk sn m)) (hF:F=min (k*sn) m) (he:F=m) (hs:1≤sn):Hid (allCut (sn:Int) m pre):=by
 have hl:pre.length=k:=by rw [h];simp
 exact⟨some_of h,fun h'=>by omega,fun _=>by rw [hl,Int.toNat_natCast];omega⟩
theorem cuts1_it (m:Nat) (s:Int) (bs bm:Nat) (w0:World) (hm:m≤140737488351232) (hcs:w0.cell? ⟨bs,0,none⟩=some (.int .i64 s)) (hcm:w0.cell? ⟨bm,0,none⟩=some (.int .i64 m)):
  It Tryz.prog 246 #[.pointer (some ⟨bs,0,none⟩),.pointer (some ⟨bm,0,none⟩)] encCut (fun _ _=>False) (preCut s m) (fun k=>k=bs∨k=bm) (allCut s m) (someCut s m) w0:=by
 intro l J Jx W hpW hsW hJ hJx hY h0
 refine(callsIn_wide (n:=1)).1 ?_
 have hWs:W.cell? ⟨bs,0,none⟩=some (.int .i64 s):=(World.cell?_of_block (hpW bs (.inl rfl))).trans hcs
 have hWm:W.cell? ⟨bm,0,none⟩=some (.int .i64 m):=(World.cell?_of_block (hpW bm (.inr rfl))).trans hcm
 refine callsIn_of_wp Tryz.func246 rfl trivial ?_ rfl
 simp only [Tryz.ntmps246,List.size_toArray,List.length_cons,List.length_nil,Nat.reduceAdd,Nat.reduceSub,Array.replicate_succ,Array.replicate_zero,List.push_toArray,List.append_toArray,List.nil_append,List.cons_append]
 by_cases hlt:s < 1
 ·gi_wp2
  refine bodyPost_ret (results_none rfl _ _ _) rfl ?_
  exact itEnd.all (allCut_nil hlt) h0
 ·obtain⟨sn,rfl⟩:∃sn:Nat,s=sn:=⟨s.toNat,by omega⟩
  have hs1:1≤sn:=by omega
  clear hlt
  gi_wp2
  gi_loopw [4] (fun i wr=>∃(k F:Nat) (pre:List (Nat × Nat)) (O:Nat→Prop),i= .int .i64 F∧F≤m∧Hid (F=min (k*sn) m)∧Hid (pre=(List.range k).map (cutk sn m))∧J pre O wr∧W.heap.size≤wr.heap.size∧(∀b,O b→W.heap.size≤b∧b < wr.heap.size)∧wr.cell? ⟨bs,0,none⟩=some (.int .i64 sn)∧wr.cell? ⟨bm,0,none⟩=some (.int .i64 m)) (fun i _=>m - (intOf i).toNat)
  case atStart=>exact⟨0,0,[],fun _=>False,rfl,Nat.zero_le _,by simp [Hid],rfl,h0,Nat.le_refl _,fun _ h=>h.elim,hWs,hWm⟩
  case round=>
   obtain⟨k,F,pre,O,rfl,hFm,HF,Hpre,hj,hws,hO,hcs',hcm'⟩:=hrel
   by_cases hF:F < m
   ·have hlen:pre.length=k:=by rw [Hpre.out];simp
    have hFk:F=k*sn:=by have:=HF.out;omega
    by_cases hle:sn≤m - F
    ·obtain⟨fn,tmps,assign,body,hy,hR⟩:=hY pre (F,F+sn) O wr hws hO hj ⟨by rw [hlen];simp only [cutk,Int.toNat_natCast];rw [←hFk];congr 1;omega,by rw [hlen];simp only [Int.toNat_natCast];omega,by omega⟩ (fun _ h=>h.elim)
     clear hlen hFk
     simp only [encCut,Int.natCast_add]at hy
     gi_wp2
     refine hR.mono ?_
     rintro e W' ⟨hk,(⟨rfl,hj'⟩ | ⟨rfl,hjx⟩)⟩
     ·have hs2:=(World.cell?_of_block (hk.same bs (lt_of_cell hcs') (.inl (.inl rfl)))).trans hcs'
      have hm2:=(World.cell?_of_block (hk.same bm (lt_of_cell hcm') (.inl (.inr rfl)))).trans hcm'
      gi_wp2
      go_roundw
      case rel=>exact⟨k+1,F+sn,_,_,by go_num,by omega,min_next HF.out hF hle,range_next Hpre.out (cut_next HF.out hF hle),hj',Nat.le_trans hws hk.size,nextO_bound hO hws hk.size,hs2,hm2⟩
      case measure=>simp [intOf];omega
     ·gi_wp2
      refine bodyPost_ret (results_none rfl _ _ _) rfl ?_
      exact itEnd.part (some_of (range_next Hpre.out (cut_next HF.out hF hle))) hjx
    ·have hgt:m - F < sn:=by omega
     obtain⟨fn,tmps,assign,body,hy,hR⟩:=hY pre (F,m) O wr hws hO hj ⟨by rw [hlen];simp only [cutk,Int.toNat_natCast];rw [←hFk];congr 1;omega,by rw [hlen];simp only [Int.toNat_natCast];omega,by omega⟩ (fun _ h=>h.elim)
     clear hlen hFk
     simp only [encCut]at hy
     have hmin:(m:Int) - (F:Int)≤(sn:Int):=by omega
     have hsum:(F:Int)+((m:Int) - (F:Int))=(m:Int):=by omega
     gi_wp2
     refine hR.mono ?_
     rintro e W' ⟨hk,(⟨rfl,hj'⟩ | ⟨rfl,hjx⟩)⟩
     ·have hs2:=(World.cell?_of_block (hk.same bs (lt_of_cell hcs') (.inl (.inl rfl)))).trans hcs'
      have hm2:=(World.cell?_of_block (hk.same bm (lt_of_cell hcm') (.inl (.inr rfl)))).trans hcm'
      gi_wp2
      go_roundw
      case rel=>exact⟨k+1,m,_,_,by go_num,Nat.le_refl _,min_last HF.out hF hgt,range_next Hpre.out (cut_last HF.out hF hgt),hj',Nat.le_trans hws hk.size,nextO_bound hO hws hk.size,hs2,hm2⟩
      case measure=>simp [intOf];omega
     ·gi_wp2
      refine bodyPost_ret (results_none rfl _ _ _) rfl ?_
      exact itEnd.part (some_of (range_next Hpre.out (cut_last HF.out hF hgt))) hjx
   ·have hFe:F=m:=by omega
    have hall:Hid (allCut (sn:Int) m pre):=all_of Hpre.out HF.out hFe hs1
    clear hFe
    gi_wp2
    go_end0
    exact itEnd.all hall.out hj
end Go.Proofs.YtfcfbcjiijfjgaaGreatDoor.Wo
namespace Go.Proofs.YtfcfbcjiijfjgaaGreatDoor
open Go.RowKit
def Oper.plainB (o:Oper):Bool:=match o.op with | .defer _=>false | _=>true
theorem plain_ne {o:Oper} (h:Oper.plainB o=true):∀c,o.op≠ .defer c:=by
 intro c hc
 unfold Oper.plainB at h
 rw [hc]at h
 cases h
section
variable {n:Nat} {P:Program} {Q:Exit→Act→World→Prop}
theorem wpIn_oper_round (l:Nat) {o:Oper} {a:Act} {w:World} {next:Act→World→Prop} (ho:Oper.plainB o=true) (h:o.wpIn Fence.wide n P a w next Q):o.wpIn (Fence.wide.inRound l) n P a w next Q:=by
 refine⟨fun _ _=>trivial,?_⟩
 have h2:=h.2
 have e1:Oper.semAt (Fence.wide.inRound l).round a.eval o=Oper.semAt Fence.wide.round a.eval o:=Oper.semAt_some l _ _ (plain_ne ho)
 rw [e1]
 generalize(Oper.semAt Fence.wide.round a.eval o).run P w=r at h2 ⊢
 cases r with
 | ok x w'=>cases x <;> exact h2
 | halt x w'=>cases x <;> exact h2
theorem wpAnyIn_round (l:Nat) {md:Region.Mode} {ops:Array Oper} (hp:∀(i:Nat) o,ops[i]?=some o→Oper.plainB o=true):∀(fuel:Nat) (listed:Array Bool) (a:Act) (w:World),
  wpAnyIn Fence.wide n P md ops Q fuel listed a w→wpAnyIn (Fence.wide.inRound l) n P md ops Q fuel listed a w
 | 0,_,_,_,h=>h
 | fuel+1,listed,a,w,h=>by
  refine⟨h.1,fun i hi=> ?_⟩
  have hi2:=h.2 i hi
  unfold wpOpIn at hi2 ⊢
  split
  ·rename_i ho
   rw [ho]at hi2
   exact wpAnyIn_round l hp fuel _ _ _ hi2
  ·rename_i o ho
   rw [ho]at hi2
   simp only at hi2
   split
   ·rename_i hw
    rw [if_pos hw]at hi2
    exact Oper.wpIn_mono (fun a w h=>wpAnyIn_round l hp fuel _ _ _ h) (wpIn_oper_round l (hp i o ho) hi2)
   ·rename_i hw
    rw [if_neg hw]at hi2
    exact⟨fun _ _=>trivial,wpAnyIn_round l hp fuel _ _ _ hi2.2⟩
theorem region_round (l:Nat) {id:Nat} {ops:Array Oper} {a:Act} {w:World} (hm:P.follows .mixedOrders=true) (hp:(ops.all Oper.plainB)=true)
  (h:wpAnyIn Fence.wide n P .any ops Q ops.size (Array.replicate ops.size false) a w.drew):(Code.region id ops true).wpIn (Fence.wide.inRound l) n P Q a w:=
 wpIn_region_any hm (wpAnyIn_round l (fun i o ho=>by
  obtain⟨hi,rfl⟩:=Array.getElem?_eq_some_iff.1 ho
  exact Array.all_eq_true.1 hp i hi) _ _ _ _ h)
end
end Go.Proofs.YtfcfbcjiijfjgaaGreatDoor
namespace Go.Proofs.YtfcfbcjiijfjgaaGreatDoor
open Go.ChangeShapes Go.WideShapes Go.ChangeAt Go.RowKit Go.Deep
abbrev Sc:=Option IntKind
def fitsCell:Sc→Value→Prop
 | none,v=>∃b,v= .bool b
 | some k,v=>∃n,v= .int k n∧(Lit.int k n).wf=true
def FitsAll:List Sc→List Value→Prop
 | [],vs=>vs= []
 | s :: ss,vs=>∃v r,vs=v :: r∧fitsCell s v∧FitsAll ss r
theorem FitsAll.append:∀{a b:List Sc} {u v:List Value},FitsAll a u→FitsAll b v→FitsAll (a ++ b) (u ++ v)
 | [],_,_,_,h,k=>by rw [show _= [] from h];exact k
 | _ :: _,_,_,_,⟨x,r,e,h1,h2⟩,k=>⟨x,r ++ _,by rw [e];rfl,h1,h2.append k⟩
theorem FitsAll.length:∀{a:List Sc} {u:List Value},FitsAll a u→u.length=a.length
 | [],_,h=>by rw [show _= [] from h];rfl
 | _ :: _,_,⟨x,r,e,_,h2⟩=>by rw [e,List.length_cons,List.length_cons,h2.length]
def shape (P:Program):Nat→TypeId→Option (List Sc)
 | 0,_=>none
 | m+1,t=>match P.underlying t with
  | some .bool=>some [none]
  | some (.int k)=>some [some k]
  | some (.struct fs)=>(fs.toList.foldr (fun f r=>(shape P m f.type).bind fun ss=>r.bind fun l=>if ss.length=P.cellsOf f.type∧f.offset+ss.length+l.length=P.cellsOf t then some (ss ++ l) else none) (some [])).bind fun ss=>if ss.length=P.cellsOf t then some ss else none
  | some (.array n e)=>(shape P m e).bind fun ss=>if ss.length=P.cellsOf e∧n*P.cellsOf e=P.cellsOf t then some (List.replicate n ss).flatten else none
  | _=>none
section
variable {H:Type} {enc:TypeId × Value→H} {P:Program} {w:World} {base:Nat} {sp:Nat→Bool} {held:Bool}
theorem fields_plain {m n C:Nat} {cs:List Value} (ih:∀t ss,shape P m t=some ss→∀fuel cs x,DataW.trod enc P w base sp held fuel t cs=some x→FitsAll ss cs∧x.2= []) (hC:cs.length=C):
  ∀(fs:List Field) (xs:List (DataW H × List MemPlace)) (ss:List Sc),xs.length=fs.length→
   (fs.foldr (fun f r=>(shape P m f.type).bind fun ss=>r.bind fun l=>if ss.length=P.cellsOf f.type∧f.offset+ss.length+l.length=C then some (ss ++ l) else none) (some []))=some ss→
   (∀(i:Nat) (f:Field),fs[i]?=some f→DataW.trod enc P w base sp held n f.type ((cs.drop f.offset).take (P.cellsOf f.type))=xs[i]?)→
   FitsAll ss (cs.drop (C - ss.length))∧ss.length≤C∧xs.flatMap (·.2)= []
 | [],[],ss,_,h,_=>by
  simp only [List.foldr_nil,Option.some.injEq]at h
  subst h
  exact⟨by show _= [];simp [hC],by simp,rfl⟩
 | f :: fs,x :: xs,ss,hl,h,hf=>by
  simp only [List.foldr_cons,Option.bind_eq_some_iff]at h
  obtain⟨s0,hs0,l,hl0,h⟩:=h
  split at h
  ·rename_i hc
   injection h with h
   subst h
   obtain⟨h1,h2,h3⟩:=fields_plain ih hC fs xs l (by simpa using hl) hl0 (fun i g hg=>by simpa using hf (i+1) g (by simpa using hg))
   have h0:=hf 0 f rfl
   obtain⟨g1,g2⟩:=ih _ _ hs0 _ _ _ h0
   refine⟨?_,by rw [List.length_append];omega,by rw [List.flatMap_cons,g2,h3];rfl⟩
   have e1:C - (s0 ++ l).length=f.offset:=by rw [List.length_append];omega
   rw [e1]
   have e2:cs.drop f.offset=(cs.drop f.offset).take (P.cellsOf f.type) ++ cs.drop (C - l.length):=by
    conv=>lhs;rw [←List.take_append_drop (P.cellsOf f.type) (cs.drop f.offset)]
    rw [List.drop_drop]
    congr 2
    omega
   rw [e2]
   exact g1.append h1
  ·cases h
 | [],_ :: _,_,hl,_,_=>by simp at hl
 | _ :: _,[],_,hl,_,_=>by simp at hl
theorem array_plain {c:Nat} {ss:List Sc} {cs:List Value} (hc:ss.length=c):∀(n:Nat),(∀i,i < n→FitsAll ss ((cs.drop (i*c)).take c))→FitsAll (List.replicate n ss).flatten (cs.take (n*c))
 | 0,_=>by show _= [];simp
 | n+1,h=>by
  rw [List.replicate_succ',List.flatten_append,Nat.add_mul,Nat.one_mul,List.take_add]
  refine(array_plain hc n fun i hi=>h i (by omega)).append ?_
  simpa using h n (by omega)
theorem trod_plain:∀(m:Nat) (t:TypeId) (ss:List Sc),shape P m t=some ss→∀(fuel:Nat) (cs:List Value) (x:DataW H × List MemPlace),DataW.trod enc P w base sp held fuel t cs=some x→FitsAll ss cs∧x.2= []
 | 0,_,_,h=>by simp [shape]at h
 | m+1,t,ss,h=>by
  intro fuel cs x hx
  unfold shape at h
  split at h
  ·rename_i ht
   injection h with h
   subst h
   obtain⟨b,rfl,rfl⟩:=DataW.trod_bool ht hx
   exact⟨⟨_,_,rfl,⟨b,rfl⟩,rfl⟩,rfl⟩
  ·rename_i k ht
   injection h with h
   subst h
   obtain⟨b,rfl,rfl,hw⟩:=DataW.trod_int ht hx
   exact⟨⟨_,_,rfl,⟨b,rfl,hw⟩,rfl⟩,rfl⟩
  ·rename_i fs ht
   obtain⟨xs,n,_,rfl,hl,hxl,hf⟩:=DataW.trod_struct ht hx
   simp only [Option.bind_eq_some_iff]at h
   obtain⟨s0,h,h'⟩:=h
   split at h'
   ·rename_i hc
    injection h' with h'
    subst h'
    obtain⟨h1,h2,h3⟩:=fields_plain (trod_plain m) hl fs.toList xs s0 (by simpa using hxl) h (fun i f hi=>hf i f (by simpa using hi))
    refine⟨?_,h3⟩
    rw [hc,Nat.sub_self,List.drop_zero]at h1
    exact h1
   ·cases h'
  ·rename_i k e ht
   obtain⟨xs,n,_,rfl,hl,hxl,hf⟩:=DataW.trod_array ht hx
   simp only [Option.bind_eq_some_iff]at h
   obtain⟨s0,h,h'⟩:=h
   split at h'
   ·rename_i hc
    injection h' with h'
    subst h'
    have hi:∀i,i < k→FitsAll s0 ((cs.drop (i*P.cellsOf e)).take (P.cellsOf e))∧∀y,xs[i]?=some y→y.2= []:=fun i hi=>by
     have h1:=hf i hi
     rw [List.getElem?_eq_getElem (by omega)]at h1
     obtain⟨g1,g2⟩:=trod_plain m e s0 h _ _ _ h1
     refine⟨g1,fun y hy=> ?_⟩
     rw [List.getElem?_eq_getElem (by omega)]at hy
     injection hy with hy
     rw [←hy];exact g2
    refine⟨?_,?_⟩
    ·have h1:=array_plain hc.1 k fun i hlt=>(hi i hlt).1
     rw [hc.2,←hl,List.take_length]at h1
     exact h1
    ·show xs.flatMap (·.2)= []
     rw [List.flatMap_eq_nil_iff]
     intro y hy
     obtain⟨i,hi',rfl⟩:=List.mem_iff_getElem.1 hy
     exact(hi i (by omega)).2 _ (List.getElem?_eq_getElem hi')
   ·cases h'
  ·cases h
theorem flatten_get {c:Nat} (hc:0 < c):∀(rows:List (List Value)),(∀r∈rows,r.length=c)→∀(j:Nat),rows.flatten[j]?=(rows[j / c]?).bind fun r=>r[j % c]?
 | [],_,j=>by simp
 | r :: rows,h,j=>by
  have hr:=h r (by simp)
  rw [List.flatten_cons]
  by_cases hj:j < c
  ·rw [List.getElem?_append_left (by omega),Nat.div_eq_of_lt hj,Nat.mod_eq_of_lt hj]
   rfl
  ·rw [List.getElem?_append_right (by omega),hr,flatten_get hc rows (fun s hs=>h s (by simp [hs])) (j - c)]
   have e1:j / c=(j - c) / c+1:=by
    have:=Nat.add_div_right (j - c) hc
    rw [show j - c+c=j by omega]at this
    omega
   have e2:j % c=(j - c) % c:=by
    have:=Nat.add_mod_right (j - c) c
    rw [show j - c+c=j by omega]at this
    exact this
   rw [e1,e2,List.getElem?_cons_succ]
theorem plains_of_trod {W:World} {m by_:Nat} {t e:TypeId} {ss:List Sc} {cs:List Value} {fuel:Nat} {d:DataW H} {p:List MemPlace}
  (ht:P.underlying t=some (.slice e)) (hs:shape P m e=some ss) (hl:ss.length=P.cellsOf e) (h0:0 < ss.length) (hby:P.bytesOf e=by_)
  (hf:DataW.trod enc P W 0 (fun _=>true) true fuel t cs=some (d,p)) (hw:∀n∈d.weights P t,n≤reachBytes):
  ∃(A:Option Addr) (n c:Nat) (rows:List (List Value)),cs= [.slice A n c]∧rows.length=n∧n*by_≤140737488351232∧n≤maxLen∧(∀r∈rows,FitsAll ss r)∧Sees W W.heap.size A rows.flatten:=by
 rcases open_slice ht hf with⟨hcs,_⟩ | ⟨a,len,cap,mm,n,D,Pl,hcs,_,hlc,hcm,hm,hx,hcell⟩
 ·exact⟨none,0,0,[],hcs,rfl,by omega,Nat.zero_le _,fun _ h=>absurd h (by simp),Sees.nil_⟩
 ·simp only [if_true]at hm
  simp only [Prod.mk.injEq]at hx
  obtain⟨rfl,rfl⟩:=hx
  have hr:=hw ((((List.range len).map D).length+((List.range (mm - len)).map fun j=>D (len+j)).length)*by_) (by simp [DataW.weights,ht,hby])
  simp only [List.length_map,List.length_range]at hr
  have hr':len*by_≤140737488351232:=by
   have h1:reachBytes=140737488351232:=rfl
   have h2:len*by_≤(len+(mm - len))*by_:=Nat.mul_le_mul_right _ (by omega)
   omega
  obtain⟨f,hfx⟩:=choose_lt (α:=List Value) (n:=len) (p:=fun i r=>W.cells? 0 (a.add (i*P.cellsOf e)) (P.cellsOf e)=some r∧FitsAll ss r) (fun i hi=>by
   obtain⟨cs',h1,h2⟩:=hcell i (by omega)
   exact⟨cs',h1,(trod_plain m e ss hs _ _ _ h2).1⟩)
  have hrow:∀r∈(List.range len).map f,FitsAll ss r:=fun r hr=>by
   obtain⟨i,hi,rfl⟩:=List.mem_map.1 hr
   exact(hfx i (List.mem_range.1 hi)).2
  have hlen:∀r∈(List.range len).map f,r.length=P.cellsOf e:=fun r hr=>(hrow r hr).length.trans hl
  have hc0:0 < P.cellsOf e:=by omega
  have key:∀j u,((List.range len).map f).flatten[j]?=some u→W.cell? (a.add j)=some u:=fun j u hu=>by
   rw [flatten_get hc0 _ hlen]at hu
   simp only [Option.bind_eq_some_iff,List.getElem?_map,Option.map_eq_some_iff]at hu
   obtain⟨r,⟨i,hi,rfl⟩,hu⟩:=hu
   rw [List.getElem?_eq_some_iff]at hi
   obtain⟨hi1,hi2⟩:=hi
   rw [List.length_range]at hi1
   rw [List.getElem_range]at hi2
   subst hi2
   obtain⟨_,_,h3⟩:=World.cells?_some (hfx _ hi1).1
   have:=h3 (j % P.cellsOf e) (Nat.mod_lt _ hc0)
   rw [add_assoc]at this
   have e1:j / P.cellsOf e*P.cellsOf e+j % P.cellsOf e=j:=by rw [Nat.mul_comm];exact Nat.div_add_mod j _
   rw [e1]at this
   rw [this]
   simpa using hu
  refine⟨some a,len,cap,(List.range len).map f,hcs,by simp,hr',by omega,hrow,fun hne=> ?_⟩
  have hpos:0 < ((List.range len).map f).flatten.length:=List.length_pos_iff.2 hne
  obtain⟨u,hu⟩:∃u,((List.range len).map f).flatten[0]?=some u:=⟨_,List.getElem?_eq_getElem hpos⟩
  have hlt:=lt_of_cell (key 0 u hu)
  rw [add_block]at hlt
  exact⟨a,rfl,hlt,key⟩
theorem open_plains {W:World} {m by_:Nat} {t e:TypeId} {ss:List Sc} {v:Value} {d:DataW H} {p:List MemPlace}
  (ht:P.underlying t=some (.slice e)) (hs:shape P m e=some ss) (hl:ss.length=P.cellsOf e) (h0:0 < ss.length) (hby:P.bytesOf e=by_)
  (hval:Value.okWide P W .any base t v) (h:DataW.Trod enc P W 0 (fun _=>true) true t v d p)
  {ts:List TypeId} {ds:List (DataW H)} {j:Nat} (hsz:(DataW.weightsEach P ts ds).all (· ≤reachBytes)=true) (hj:ts[j]?=some t) (hd:ds[j]?=some d):
  ∃(A:Option Addr) (n c:Nat) (rows:List (List Value)),v= .slice A n c∧rows.length=n∧n*by_≤140737488351232∧n≤maxLen∧(∀r∈rows,FitsAll ss r)∧Sees W W.heap.size A rows.flatten:=by
 obtain⟨a0,len,cap,rfl⟩:=okWide_slice ht hval
 obtain⟨fuel,hf⟩:=h
 obtain⟨A,n,c,rows,hcs,h1,h2,h3,h4,h5⟩:=plains_of_trod ht hs hl h0 hby hf (weights_each hsz hj hd)
 exact⟨A,n,c,rows,by simpa [Value.cells] using hcs,h1,h2,h3,h4,h5⟩
end
theorem rows_map {α:Type} {enc:α→List Value} {Q:α→Prop}:∀(rows:List (List Value)),(∀r∈rows,∃x,Q x∧r=enc x)→∃xs:List α,rows=xs.map enc∧∀x∈xs,Q x
 | [],_=>⟨[],rfl,fun _ h=>absurd h (by simp)⟩
 | r :: rows,h=>by
  obtain⟨x,hx,rfl⟩:=h r (by simp)
  obtain⟨xs,h1,h2⟩:=rows_map rows fun s hs=>h s (by simp [hs])
  exact⟨x :: xs,by rw [h1];rfl,fun y hy=>by
   rcases List.mem_cons.1 hy with rfl | h
   ·exact hx
   ·exact h2 y h⟩
end Go.Proofs.YtfcfbcjiijfjgaaGreatDoor
namespace Go.Proofs.YtfcfbcjiijfjgaaGreatDoor
open Go.ChangeShapes Go.WideShapes Go.ChangeAt Go.RowKit
section
variable {H:Type} {enc:TypeId × Value→H} {P:Program}
theorem below_trodAll (hl:laidOutB P=true) {W W':World} (hb:Below W.heap.size W W'):∀{ts:List TypeId} {vs:List Value} {ds:List (DataW H)} {ps:List MemPlace},
  (∀t∈ts,P.readableRec t=true∧t < P.types.size)→DataW.TrodAll enc P W 0 (fun _=>true) true ts vs ds ps→(∀x∈ps,x.block < W.heap.size)→
  DataW.TrodAll enc P W' 0 (fun b=>decide (b < W.heap.size)) true ts vs ds ps
 | [],[],[],_,_,h,_=>h
 | t :: ts,v :: vs,d :: ds,ps,hr,h,hlt=>by
  obtain⟨p,q,h1,h2,rfl⟩:=h
  obtain⟨hr1,hr2⟩:=hr t (by simp)
  exact⟨p,q,Below.trod hl hr1 hr2 h1 hb (fun x hx=>hlt x (by simp [hx])),below_trodAll hl hb (fun t ht=>hr t (by simp [ht])) h2 (fun x hx=>hlt x (by simp [hx])),rfl⟩
 | [],[],_ :: _,_,_,h,_=>h.elim
 | [],_ :: _,_,_,_,h,_=>h.elim
 | _ :: _,[],_,_,_,h,_=>h.elim
 | _ :: _,_ :: _,[],_,_,h,_=>h.elim
theorem law_post {f:Func} {s:ChangeSpec} {W W':World} {args:Array Value} {ds gs:List (DataW H)} {before:List MemPlace} {tb:TypeId}
  (hl:laidOutB P=true) (hp:(f.params.toList.all fun t=>P.readableRec t && decide (t < P.types.size))=true) (hv:s.vars= [])
  (hs:s.fn H ds={results:= [.lit (.bool true)],args:=ds}) (hr:f.resultTypes= #[tb]) (hb:P.underlying tb=some .bool)
  (hW:DataW.Whole enc P f.params.toList s.vars false W args.toList ds gs before) (hB:Below W.heap.size W W'):
  s.post enc P f false true false false W args (.bool true) W':=by
 have hW':=hW
 obtain⟨p,q,hA,hV,rfl,_,_⟩:=hW
 rw [hv]at hV
 have hg:gs= []∧q= []:=by
  cases gs with
  | nil=>exact⟨rfl,hV⟩
  | cons g gs=>exact hV.elim
 obtain⟨rfl,rfl⟩:=hg
 refine⟨ds,[],p ++ [],[],p,[],hW',?_,?_,?_,hB.frame _,fun h=>by cases h⟩
 ·rw [List.append_nil,hs,hr]
  exact trodAll_mk1 (shut_bool hb true)
 ·rw [List.append_nil,hs]
  exact below_trodAll hl hB (fun t ht=>by have:=List.all_eq_true.1 hp t ht;simpa using this) hA (fun x hx=>hW'.lt x (by simp [hx]))
 ·rw [List.append_nil,hs,hv]
  rfl
end
theorem closed_of {P:Program} {f:FuncId} {fn:Func} {s:ChangeSpec} {c:OpenClaim}
 (h1:c.wf (OpenSpec.ofChange s)=true) (h2:laidOutB P=true) (h3:mapsRowed P=true)
 (h4:fn.params.all (P.readableRec ·)=true) (h5:namedTie P c.named s.vars=true)
 (h6:(c.stops == [])=true) (h7:(P.stops == [])=true) (h8:(c.knobs == [])=true) (h9:(P.stopKnobs == [])=true)
 (h10:(c.inPlace == P.inPlace f)=true) (h11:(c.unfollowed == P.unfollowed f)=true) (h12:(c.recurses == P.recurses f)=true) (h13:(c.named == P.varsNamed f)=true)
 (h14:(c.maps == (fn.params.toList ++ s.plain.varTypes P).any (P.mapsRec ·))=true) (h15:(c.ifaces == (fn.params.toList ++ s.plain.varTypes P).any (P.ifacesRec ·))=true) (h16:(c.mapsOut == P.mapsAmong fn.resultTypes.toList)=true)
 (h17:(c.loops == (fn.params.toList ++ s.plain.varTypes P).any (P.loopsFrom ·))=true) (h18:(c.wideKeys == (fn.params.toList ++ s.plain.varTypes P ++ fn.resultTypes.toList).any (P.wideKeysFrom ·))=true)
 (h19:s.vars.all (P.varReadable ·)=true) (h20:fn.resultTypes.all (fun t=>P.readableRec t && decide (t < P.types.size))=true) (h21:(c.ifacesOut == fn.resultTypes.toList.any (P.ifacesRec ·))=true) (h22:(c.loopsOut == fn.resultTypes.toList.any (P.loopsFrom ·))=true) (h23:(c.plainKeys == P.plainKeys)=true) (h24:c.shortTexts.isNone=true) (h25:P.stopsHeard=true) (h26:P.mayEnter=true) (h27:(c.lifted == P.liftsFinal)=true) (h28:(P.make == some c.make)=true) (h29:(c.kinds == (if c.domain.isEmpty then [] else fn.params.toList.map fun t=>match P.underlying t with | some (.int k)=>some k | _=>none))=true) (h30:(c.pinned == c.pinnedBy)=true)
 (h31:(c.veiled == (fn.params.toList ++ s.plain.varTypes P ++ fn.resultTypes.toList).any (P.veiledRec ·))=true) (h32:c.veiledFits P fn.params.toList (fn.params.toList ++ s.plain.varTypes P ++ fn.resultTypes.toList)=true):joinedFacts P f fn s c=true:=by
 unfold joinedFacts
 simp only [Bool.and_eq_true]
 exact⟨⟨⟨⟨⟨⟨⟨⟨⟨⟨⟨⟨⟨⟨⟨⟨⟨⟨⟨⟨⟨⟨⟨⟨⟨⟨⟨⟨⟨⟨⟨h1,h2⟩,h3⟩,h4⟩,h5⟩,h6⟩,h7⟩,h8⟩,h9⟩,h10⟩,h11⟩,h12⟩,h13⟩,h14⟩,h15⟩,h16⟩,h17⟩,h18⟩,h19⟩,h20⟩,h21⟩,h22⟩,h23⟩,h24⟩,h25⟩,h26⟩,h27⟩,h28⟩,h29⟩,h30⟩,h31⟩,h32⟩
theorem pgTypes:Tryz.checked.prog.types=Tryz.checked.src.types:=by kernel_rfl
theorem pgRest:(Tryz.checked.prog.globals.all (fun g=>decide (g.type < Tryz.checked.prog.types.size)) && Tryz.checked.prog.funcs.all (fun f=>f.params.all fun t=>decide (t < Tryz.checked.prog.types.size)))=true:=by kernel_rfl
theorem pgKeys:Go.ClosedOfChecked.keysListB Tryz.checked.prog=true:=by kernel_rfl
theorem pgThree:laidOutB Tryz.prog=true∧mapsRowed Tryz.prog=true∧Tryz.prog.plainKeys=true:=Go.ClosedOfChecked.closed_of_checked Tryz.checked pgTypes pgRest pgKeys
theorem pgStops:(Tryz.prog.stops == [])=true:=by kernel_rfl
theorem pgKnobs:(Tryz.prog.stopKnobs == [])=true:=by kernel_rfl
theorem pgHeard:Tryz.prog.stopsHeard=true:=by kernel_rfl
theorem pgEnter:Tryz.prog.mayEnter=true:=by kernel_rfl
end Go.Proofs.YtfcfbcjiijfjgaaGreatDoor
