import Derived.Lib.Hide
import Derived.Below
import Derived.Test.YtfcfbcjiijfjgaaGreatDoorProg
import Derived.WalkKit
import Derived.Deep.Draws
import Derived.Deep.AppendLies
import Derived.Maps.AppendAt
import Derived.ScopeJumps
import Derived.Deep.DeepMust
import Derived.RangeFuncNested
import Derived.RangeFuncCalls
import Derived.RangeFuncLeaves
import Derived.Shelf.Abstract
import Derived.Shelf.RegionOpen
import Derived.OwnWalkIn
import Derived.TacticsInMore
import Derived.LoopNIn
import Derived.LoopIn
import Derived.RangeFuncBox
import Derived.IntWalk
import Derived.Lib.LaidTab
import Derived.ProofKit
import Derived.OpenShut
import Derived.SizedLaws
set_option maxHeartbeats 400000
namespace Go.Proofs.YtfcfbcjiijfjgaaGreatDoor
open Go.RowKit
theorem Lh {p:Prop} (h:p):Hid p:=Lib.hid h
theorem Dt {p:Prop} [Decidable p] (h:p):decide p=true:=decide_eq_true h
theorem Df {p:Prop} [Decidable p] (h:¬p):decide p=false:=decide_eq_false h
theorem Nm {α:Type} (x:α):∃y,y=x:=⟨x,rfl⟩
theorem Lr {n:Nat}:n≤n:=Nat.le_refl n
theorem Br {n:Nat} {w:World}:Below n w w:=Below.refl n w
abbrev zba:Array Value:= #[Value.bool false,.slice none 0 0,.slice none 0 0,.slice none 0 0,.slice none 0 0,.slice none 0 0,.slice none 0 0,.slice none 0 0,.slice none 0 0,.slice none 0 0,.bool false,.slice none 0 0,.slice none 0 0,.slice none 0 0,.slice none 0 0,.slice none 0 0,.slice none 0 0,.slice none 0 0,.slice none 0 0,.slice none 0 0,.bool false,.slice none 0 0,.slice none 0 0,.slice none 0 0,.slice none 0 0,.slice none 0 0,.slice none 0 0,.slice none 0 0,.slice none 0 0,.slice none 0 0,.bool false,.slice none 0 0,.slice none 0 0,.slice none 0 0,.slice none 0 0,.slice none 0 0,.slice none 0 0,.slice none 0 0,.slice none 0 0,.slice none 0 0]
abbrev zbl:List Value:= [Value.bool false,.slice none 0 0,.slice none 0 0,.slice none 0 0,.slice none 0 0,.slice none 0 0,.slice none 0 0,.slice none 0 0,.slice none 0 0,.slice none 0 0,.bool false,.slice none 0 0,.slice none 0 0,.slice none 0 0,.slice none 0 0,.slice none 0 0,.slice none 0 0,.slice none 0 0,.slice none 0 0,.slice none 0 0,.bool false,.slice none 0 0,.slice none 0 0,.slice none 0 0,.slice none 0 0,.slice none 0 0,.slice none 0 0,.slice none 0 0,.slice none 0 0,.slice none 0 0,.bool false,.slice none 0 0,.slice none 0 0,.slice none 0 0,.slice none 0 0,.slice none 0 0,.slice none 0 0,.slice none 0 0,.slice none 0 0,.slice none 0 0]
abbrev acl (x s c i st sz:Int) (no:Nat) (a b d f:Int):List Value:= [.int .i64 x,.int .i64 s,.int .i64 c,.int .i64 i,.int .i64 st,.int .i64 sz,.int .u32 (no:Int),.int .i64 a,.int .i64 b,.int .i64 d,.int .i64 f]
abbrev aca (x s c i st sz:Int) (no:Nat) (a b d f:Int):Array Value:= #[.int .i64 x,.int .i64 s,.int .i64 c,.int .i64 i,.int .i64 st,.int .i64 sz,.int .u32 (no:Int),.int .i64 a,.int .i64 b,.int .i64 d,.int .i64 f]
def fwd (P:Program) (c:Code) (Q:Exit→Act→World→Prop):Nat→Exit→Act→World→Prop
 | n+1,.goto l,a,w=>∃rest,findLabel c l=some rest∧rest.wp P (fwd P c Q n) a w
 | 0,.goto _,_,_=>False
 | _,.normal,a,w=>Q .normal a w
 | _,.exit id,a,w=>Q (.exit id) a w
 | _,.ret,a,w=>Q .ret a w
 | _,.panic ch,a,w=>Q (.panic ch) a w
 | _,.outgrown,a,w=>Q .outgrown a w
section
variable {P:Program} {a:Act} {w:World} {Q:Exit→Act→World→Prop} {c:Code} {n:Nat}
theorem fwd_ret (h:Q .ret a w):fwd P c Q n .ret a w:=by cases n <;> exact h
theorem fwd_normal (h:Q .normal a w):fwd P c Q n .normal a w:=by cases n <;> exact h
theorem fwd_exit {id:Nat} (h:Q (.exit id) a w):fwd P c Q n (.exit id) a w:=by cases n <;> exact h
theorem fwd_goto {l:Nat} {rest:Code} (hf:findLabel c l=some rest) (h:rest.wp P (fwd P c Q n) a w):fwd P c Q (n+1) (.goto l) a w:=⟨rest,hf,h⟩
theorem wp_scope_fwd (n:Nat) (h:c.wp P (fwd P c Q n) a w):(Code.scope c).wp P Q a w:=by
 intro b k cs
 have key:∀(n:Nat) (d:Code) (a:Act) (w:World),d.wp P (fwd P c Q n) a w→∃e a' w',Q e a' w'∧Arrives P (lone (b.at a (.code d :: .inScope c :: k)) cs w) b k cs e a' w':=by
  intro n
  induction n with
  | zero=>
   intro d a w h
   obtain⟨e,a₁,w₁,hq,harr⟩:=h b (.inScope c :: k) cs
   cases e with
   | normal=>exact⟨.normal,a₁,w₁,hq,Steps.trans harr (.one step_inScope)⟩
   | exit id=>exact⟨.exit id,a₁,w₁,hq,fun k' hk=>harr k' (by simp [exitTo,hk])⟩
   | goto l=>exact hq.elim
   | ret=>exact⟨_,a₁,w₁,hq,harr⟩
   | panic ch=>exact⟨_,a₁,w₁,hq,harr⟩
   | outgrown=>exact⟨_,a₁,w₁,hq,harr⟩
  | succ n ih=>
   intro d a w h
   obtain⟨e,a₁,w₁,hq,harr⟩:=h b (.inScope c :: k) cs
   cases e with
   | normal=>exact⟨.normal,a₁,w₁,hq,Steps.trans harr (.one step_inScope)⟩
   | exit id=>exact⟨.exit id,a₁,w₁,hq,fun k' hk=>harr k' (by simp [exitTo,hk])⟩
   | goto l=>
    obtain⟨rest,hf,hr⟩:=hq
    obtain⟨e₂,a₂,w₂,hq₂,harr₂⟩:=ih rest a₁ w₁ hr
    exact⟨e₂,a₂,w₂,hq₂,.of_steps (harr _ (by simp [gotoIn,hf])) harr₂⟩
   | ret=>exact⟨_,a₁,w₁,hq,harr⟩
   | panic ch=>exact⟨_,a₁,w₁,hq,harr⟩
   | outgrown=>exact⟨_,a₁,w₁,hq,harr⟩
 obtain⟨e,a₁,w₁,hq,harr⟩:=key n c a w h
 refine⟨e,a₁,w₁,hq,?_⟩
 exact .of_steps (.one step_scope) harr
theorem wp_scope_jump (N:Nat) (h:∀R:Nat→Exit→Act→World→Prop,Hid (∀n e a w,(∀l,e≠ .goto l)→Q e a w→R n e a w)→
  Hid (∀n l rest a w,findLabel c l=some rest→rest.wp P (R n) a w→R (n+1) (.goto l) a w)→c.wp P (R N) a w):(Code.scope c).wp P Q a w:=
 wp_scope_fwd N (h (fwd P c Q) (fun n e a w he hq=>by
  cases e with
  | goto l=>exact absurd rfl (he l)
  | ret=>exact fwd_ret hq
  | normal=>exact fwd_normal hq
  | exit id=>exact fwd_exit hq
  | panic ch=>cases n <;> exact hq
  | outgrown=>cases n <;> exact hq) (fun _ _ _ _ _ hf hr=>fwd_goto hf hr))
end
theorem add_block (a:Addr) (n:Nat):(a.add n).block=a.block:=by unfold Addr.add;split <;> rfl
theorem add_assoc (a:Addr) (i j:Nat):(a.add i).add j=a.add (i+j):=by
 unfold Addr.add
 by_cases hi:i=0 <;> by_cases hj:j=0 <;> simp [hi,hj,Nat.add_assoc]
theorem add_plain (b o n:Nat):(⟨b,o,none⟩:Addr).add n=⟨b,o+n,none⟩:=by unfold Addr.add;split <;> simp_all
def Sees (w:World) (B:Nat) (A:Option Addr) (xs:List Value):Prop:=
 xs≠[]→∃ad,A=some ad∧ad.block < B∧∀j u,xs[j]?=some u→w.cell? (ad.add j)=some u
section
variable {w w':World} {B B':Nat} {A:Option Addr} {xs:List Value}
theorem Sees.nil_:Sees w B A []:=fun h=>absurd rfl h
theorem Sees.at_ {k:Nat} (h:Sees w B A xs) (hk:k < xs.length):∃ad,A=some ad∧ad.block < B∧w.cell? (ad.add k)=some xs[k]:=by
 obtain⟨ad,e,hb,hc⟩:=h (by rintro rfl;simp at hk)
 exact⟨ad,e,hb,hc k _ (List.getElem?_eq_getElem hk)⟩
theorem Sees.keep (h:Sees w B A xs) (hk:∀p:Addr,p.block < B→w'.cell? p=w.cell? p):Sees w' B A xs:=fun hn=>by
 obtain⟨ad,e,hb,hc⟩:=h hn
 exact⟨ad,e,hb,fun j u hu=>(hk _ (by rw [add_block];exact hb)).trans (hc j u hu)⟩
theorem Sees.below (h:Sees w B A xs) (hb:Below B w w'):Sees w' B A xs:=h.keep fun _ hp=>hb.cell hp
theorem Sees.more (h:Sees w B A xs) (hB:B≤B'):Sees w B' A xs:=fun hn=>by
 obtain⟨ad,e,hb,hc⟩:=h hn
 exact⟨ad,e,by omega,hc⟩
theorem Sees.alloc (h:Sees w B A xs) (hB:B≤w.heap.size) (o:Obj):Sees (w.alloc o) B A xs:=h.keep fun p hp=>World.cell?_alloc_lt w o p (by omega)
theorem Sees.setCell (h:Sees w B A xs) {p:Addr} (hB:B≤p.block) (u:Value):Sees (w.setCell p u) B A xs:=
 h.keep fun q hq=>World.cell?_setCell_other w p q u (fun e=>by subst e;omega)
theorem Sees.drew (h:Sees w B A xs):Sees w.drew B A xs:=h
theorem Sees.drewN (h:Sees w B A xs) (k:Nat):Sees (w.drewN k) B A xs:=h
theorem Sees.grown (h:Sees w B A xs) {row:Option Nat} (hg:w.grownBy w' row) (hB:B≤w.heap.size) (hr:∀g,row=some g→B≤g):Sees w' B A xs:=
 h.keep fun p hp=>World.cell?_of_block (hg.block p.block (by omega) (fun e=>by have:=hr _ e.symm;omega))
theorem Sees.take (h:Sees w B A xs) (k:Nat):Sees w B A (xs.take k):=fun hn=>by
 obtain⟨ad,e,hb,hc⟩:=h (by rintro rfl;simp at hn)
 refine⟨ad,e,hb,fun j u hu=>hc j u ?_⟩
 rw [List.getElem?_take]at hu
 split at hu
 ·exact hu
 ·cases hu
theorem Sees.sub {g o:Nat} (h:Sees w B (some ⟨g,o,none⟩) xs) (f k:Nat):Sees w B (some ⟨g,o+f,none⟩) ((xs.drop f).take k):=fun hn=>by
 obtain⟨ad,e,hb,hc⟩:=h (by rintro rfl;simp at hn)
 injection e with e
 subst e
 refine⟨_,rfl,hb,fun j u hu=> ?_⟩
 rw [List.getElem?_take]at hu
 split at hu
 ·rw [List.getElem?_drop]at hu
  have:=hc _ _ hu
  rw [add_plain]at this ⊢
  rw [Nat.add_assoc]
  exact this
 ·cases hu
theorem Sees.of_own {base:Nat} {e:TypeId} {c n:Nat} (h:w.ownsRow base e 1 (.slice A n c) n xs):Sees w w.heap.size A xs:=fun hn=>by
 have hl:=h.1
 have h0:0 < n:=by
  rcases Nat.eq_zero_or_pos n with rfl | h0
  ·exact absurd (List.eq_nil_of_length_eq_zero (by simpa using hl)) hn
  ·exact h0
 obtain⟨g,cap,hv,_,hlt⟩:=h.form h0
 have hA:A=some ⟨g,0,none⟩:=by injection hv
 subst hA
 exact⟨_,rfl,hlt,h.cells (g:=g) rfl⟩
end
theorem below_drewN {B:Nat} {a w:World} (h:Below B a w) (n:Nat):Below B a (w.drewN n):=⟨h.os,h.tape,h.output,h.size,h.block⟩
theorem quiet_l {P:Program} {f:FuncId} {args:Array Value} {w:World} {n:Nat} {v:Value} (h:Calls P f args (w.drewN n) fun e w'=>e= .returned v∧w.drewN n=w'):
  Calls P f args (w.drewN n) fun e w''=>e= .returned v∧∃m,w''=w.drewN m:=
 h.mono fun _ _ ⟨he,hm⟩=>⟨he,n,hm.symm⟩
theorem lt_of_cell {w:World} {p:Addr} {v:Value} (h:w.cell? p=some v):p.block < w.heap.size:=by
 unfold World.cell? at h
 rcases Nat.lt_or_ge p.block w.heap.size with hl | hl
 ·exact hl
 ·rw [Array.getElem?_eq_none hl]at h
  cases h
theorem cell_alloc_new (w:World) (cs:Array Value) (t:TypeId) (i:Nat):(w.alloc (.cells cs t)).cell? ⟨w.heap.size,i,none⟩=cs[i]?:=
 cell_of_row _ _ i cs t (0,0) (heap_alloc_new w _)
theorem cell_new_at (w:World) (cs:Array Value) (t:TypeId) (i:Nat) {g:Nat} (hg:w.heap.size=g):(w.alloc (.cells cs t)).cell? ⟨g,i,none⟩=cs[i]?:=by
 subst hg
 exact cell_alloc_new w cs t i
theorem frozen_alloc_new (w:World) (cs:Array Value) (t:TypeId) (i:Nat):(w.alloc (.cells cs t)).frozen? ⟨w.heap.size,i,none⟩=false:=by
 have h:=heap_alloc_new w (.cells cs t)
 simp only [World.frozen?,h]
 simp
theorem own_mono {w:World} {B B':Nat} {e:TypeId} {size:Nat} {v:Value} {n:Nat} {xs:List Value} (h:w.ownsRow B e size v n xs) (hB:B'≤B):w.ownsRow B' e size v n xs:=by
 obtain⟨h1,h2 | ⟨g,c,cur,hv,hb,hr⟩⟩:=h
 ·exact⟨h1,.inl h2⟩
 ·exact⟨h1,.inr ⟨g,c,cur,hv,by omega,hr⟩⟩
theorem own_slice {w:World} {B:Nat} {e:TypeId} {size:Nat} {v:Value} {n:Nat} {xs:List Value} (h:w.ownsRow B e size v n xs):∃A c,v= .slice A n c:=by
 obtain⟨_,⟨rfl,rfl⟩ | ⟨g,c',cur,rfl,_⟩⟩:=h
 ·exact⟨none,0,rfl⟩
 ·exact⟨_,_,rfl⟩
theorem own_cap {w:World} {B:Nat} {e:TypeId} {size:Nat} {A:Option Addr} {c n:Nat} {xs:List Value} (h:w.ownsRow B e size (.slice A n c) n xs):n≤c∧c≤maxLen:=by
 obtain⟨_,⟨hv,_⟩ | ⟨g,c',cur,hv,_,_,h1,h2,_⟩⟩:=h
 ·injection hv with _ h1 h2
  subst h1;subst h2
  exact⟨Nat.le_refl _,Nat.zero_le _⟩
 ·injection hv with _ _ h
  subst h
  exact⟨h1,h2⟩
theorem run_append_sees {P:Program} (w:World) (base:Nat) (t ty e:TypeId) (i:TypeInfo) (z:Value) (size bytes:Nat) (ht:P.underlying t=some (.slice e)) (hi:P.info? e=some i) (hz:i.zero=some z)
  (hsize:i.size=size) (hby:i.bytes=bytes) (hzs:z.cells.size=size) (hsz:0 < size)
  (v:Value) (n:Nat) (xs:List Value) (hown:w.ownsRow base e size v n xs)
  (B:Nat) (A:Option Addr) (m c:Nat) (news:List Value) (hl:news.length=m*size) (hr:Sees w B A news) (h1:∀u∈news,u.oneCell'=true)
  (h63:n+m≤maxLen) (hbytes:(n+m)*bytes≤140737488355328) (hbase:base≤w.heap.size):
  ∃v' w',(Builtin.append_ #[t,t] ty #[v,.slice A m c]).run P w= .ok v' w'∧w'.ownsRow base e size v' (n+m) (xs ++ news)∧w.grownBy w' v.ownBlock∧
   (v'.ownBlock=v.ownBlock∨v'.ownBlock=some w.heap.size):=by
 rcases A with _ | ad
 ·have hnil:news= []:=by
   rcases news with _ | ⟨u,news⟩
   ·rfl
   ·obtain⟨ad,h,_⟩:=hr (by simp)
    cases h
  subst hnil
  obtain rfl:m=0:=by
   rcases Nat.eq_zero_or_pos m with h | h
   ·exact h
   ·have:=Nat.mul_pos h hsz
    simp at hl
    omega
  refine⟨v,w,?_,by simpa using hown,World.grownBy.refl w _,.inl rfl⟩
  rcases hown.2 with⟨rfl,rfl⟩ | ⟨g,cap,cur,rfl,_,_,hnc,_⟩
  ·simp [Builtin.append_,run_underlying ht,sizeOf,typeInfo,hi,Builtin.lenOf,Builtin.firstCells]
  ·simp [Builtin.append_,run_underlying ht,sizeOf,typeInfo,hi,Builtin.lenOf,Builtin.firstCells,hnc,storeCells]
 ·have hcells:∀j u,news[j]?=some u→w.cell? (ad.add j)=some u:=by
   intro j u hu
   obtain⟨ad',h,_,hc⟩:=hr (by rintro rfl;simp at hu)
   injection h with h
   subst h
   exact hc j u hu
  obtain⟨v',w',hrun,h2,h3,_,h5⟩:=run_append_own_at (P:=P) w base t ty e i z size bytes ht hi hz hsize hby hzs hsz v n xs hown ad m c news hl hcells h1 h63 hbytes hbase
  exact⟨v',w',hrun,h2,h3,h5⟩
theorem wpList_append_sees {P:Program} {w:World} {ops:Array Oper} {rest:List Oper} {o:Oper} {a:Act} {Q:Exit→Act→World→Prop} (hgd:o.guard=none) (s x:Operand) (t:TypeId)
  (ho:o.op= .call {callee:= .builtin .append,args:= #[s,x],argTypes:= #[t,t]})
  (base:Nat) (e:TypeId) (i:TypeInfo) (z:Value) (size bytes:Nat) (ht:P.underlying t=some (.slice e)) (hi:P.info? e=some i) (hz:i.zero=some z)
  (hsize:i.size=size) (hby:i.bytes=bytes) (hzs:z.cells.size=size) (hsz:0 < size)
  (v:Value) (n:Nat) (xs:List Value) (hs:a.eval s=v) (hown:w.ownsRow base e size v n xs)
  (B:Nat) (A:Option Addr) (m c:Nat) (news:List Value) (hx:a.eval x= .slice A m c) (hl:news.length=m*size) (hr:Sees w B A news) (h1:∀u∈news,u.oneCell'=true)
  (h63:n+m≤maxLen) (hbytes:(n+m)*bytes≤140737488355328) (hbase:base≤w.heap.size)
  (h:∀v' w',w'.ownsRow base e size v' (n+m) (xs ++ news)→w.grownBy w' v.ownBlock→(v'.ownBlock=v.ownBlock∨v'.ownBlock=some w.heap.size)→wpList P ops Q rest (a.put o.dst v') w'):wpList P ops Q (o :: rest) a w:=by
 refine wpList_plain hgd fun _ hK=> ?_
 obtain⟨v',w',hrun,h2,h3,h4⟩:=run_append_sees (P:=P) w base t o.type e i z size bytes ht hi hz hsize hby hzs hsz v n xs hown B A m c news hl hr h1 h63 hbytes hbase
 unfold Oper.wp execOp
 simp only [ho,resolve,invoke,builtin,Sem.run_bind,Sem.run_pure,Result.andThen_ok,List.map_toArray,List.map_cons,List.map_nil,hs,hx,hrun]
 exact hK _ _ (h v' w' h2 h3 h4)
def byt (l:List UInt8):List Value:=l.map fun b=> .int .u8 (b.toNat:Int)
theorem byt_length (l:List UInt8):(byt l).length=l.length:=by simp [byt]
theorem byt_append (a b:List UInt8):byt (a ++ b)=byt a ++ byt b:=by simp [byt]
theorem byt_take (a:List UInt8) (k:Nat):(byt a).take k=byt (a.take k):=by simp [byt,List.map_take]
theorem byt_drop (a:List UInt8) (k:Nat):(byt a).drop k=byt (a.drop k):=by simp [byt,List.map_drop]
theorem byt_one {l:List UInt8}:∀u∈byt l,u.oneCell'=true:=by
 intro u hu
 simp only [byt,List.mem_map]at hu
 obtain⟨b,_,rfl⟩:=hu
 rfl
theorem Sees.byte {w:World} {B:Nat} {A:Option Addr} {l:List UInt8} (h:Sees w B A (byt l)) {k:Nat} (hk:k < l.length):
  ∃ad,A=some ad∧ad.block < B∧w.cell? (ad.add k)=some (.int .u8 (l[k].toNat:Int)):=by
 obtain⟨ad,e,hb,hc⟩:=h.at_ (k:=k) (by rw [byt_length];exact hk)
 exact⟨ad,e,hb,by rw [hc];simp [byt]⟩
structure Keeps (Priv:Nat→Prop) (B:Nat) (O M:Nat→Prop) (W W':World):Prop where
 size:W.heap.size≤W'.heap.size
 same:∀k,k < W.heap.size→(Priv k∨(B≤k∧¬O k∧¬M k))→W'.heap[k]?=W.heap[k]?
theorem Keeps.refl {Priv:Nat→Prop} {B:Nat} {O M:Nat→Prop} (W:World):Keeps Priv B O M W W:=⟨Nat.le_refl _,fun _ _ _=>rfl⟩
theorem Keeps.trans {Priv:Nat→Prop} {B:Nat} {O M:Nat→Prop} {W1 W2 W3:World} (h:Keeps Priv B O M W1 W2) (k:Keeps Priv B O M W2 W3):Keeps Priv B O M W1 W3:=
 ⟨Nat.le_trans h.size k.size,fun i hi hp=>(k.same i (Nat.lt_of_lt_of_le hi h.size) hp).trans (h.same i hi hp)⟩
def nextO (O M:Nat→Prop) (W W':World):Nat→Prop:=fun k=>O k∨M k∨(W.heap.size≤k∧k < W'.heap.size)
theorem nextO_size {O M:Nat→Prop} {W W' V V':World} (h:W.heap.size=V.heap.size) (h':W'.heap.size=V'.heap.size):nextO O M W W'=nextO O M V V':=by
 unfold nextO
 rw [h,h']
def Abid {β:Type} (B:Nat) (J:β→(Nat→Prop)→World→Prop):Prop:=
 ∀s O W W' row,J s O W→W.grownBy W' row→(∀r,row=some r→B≤r∧¬O r)→J s O W'
def itEnd {α:Type} (S Sp:List α→Prop) (J Jx:List α→(Nat→Prop)→World→Prop) (e:Ending) (W':World):Prop:=
 (∃v,e= .returned v)∧((∃xs O,S xs∧J xs O W')∨(∃pre O,Sp pre∧Jx pre O W'))
theorem itEnd.all {α:Type} {S Sp:List α→Prop} {J Jx:List α→(Nat→Prop)→World→Prop} {v:Value} {W':World} {xs:List α} {O:Nat→Prop} (h:S xs) (hj:J xs O W'):itEnd S Sp J Jx (.returned v) W':=⟨⟨v,rfl⟩,.inl ⟨xs,O,h,hj⟩⟩
theorem itEnd.part {α:Type} {S Sp:List α→Prop} {J Jx:List α→(Nat→Prop)→World→Prop} {v:Value} {W':World} {xs:List α} {O:Nat→Prop} (h:Sp xs) (hj:Jx xs O W'):itEnd S Sp J Jx (.returned v) W':=⟨⟨v,rfl⟩,.inr ⟨xs,O,h,hj⟩⟩
def It {α:Type} (P:Program) (g:Nat) (lb:Array Value) (encs:α→Array Value) (M:α→Nat→Prop) (Pre:List α→α→World→Prop) (Priv:Nat→Prop) (S Sp:List α→Prop) (w0:World):Prop:=
 ∀(l:Nat) (J Jx:List α→(Nat→Prop)→World→Prop) (W:World),(∀k,Priv k→W.heap[k]?=w0.heap[k]?)→w0.heap.size≤W.heap.size→Abid W.heap.size J→Abid W.heap.size Jx→
  (∀pre x O W1,W.heap.size≤W1.heap.size→(∀k,O k→W.heap.size≤k∧k < W1.heap.size)→J pre O W1→Pre pre x W1→(∀k,M x k→W.heap.size≤k∧k < W1.heap.size∧¬O k)→
   YieldAt Fence.wide 0 P l (encs x) W1 fun e W'=>
    Keeps Priv W.heap.size O (M x) W1 W'∧((e= .returned (.bool true)∧J (pre ++ [x]) (nextO O (M x) W1 W') W')∨(e= .returned (.bool false)∧Jx (pre ++ [x]) (nextO O (M x) W1 W') W')))→
  J [] (fun _=>False) W→
  Calls P g (#[.func (.yield l) #[] #[]] ++ lb) W (itEnd S Sp J Jx)
theorem It.later {α:Type} {P:Program} {g:Nat} {lb:Array Value} {encs:α→Array Value} {M:α→Nat→Prop} {Pre:List α→α→World→Prop} {Priv:Nat→Prop} {S Sp:List α→Prop} {w0 w1:World}
  (h:It P g lb encs M Pre Priv S Sp w0) (hp:∀k,Priv k→w1.heap[k]?=w0.heap[k]?) (hs:w0.heap.size≤w1.heap.size):It P g lb encs M Pre Priv S Sp w1:=
 fun l J Jx W hpW hsW=>h l J Jx W (fun k hk=>(hpW k hk).trans (hp k hk)) (Nat.le_trans hs hsW)
def itPost {α:Type} (Priv:Nat→Prop) (B:Nat) (M:α→Nat→Prop) (I:List α→(Nat→Prop)→World→Prop) (Ix:Code→List α→(Nat→Prop)→World→Prop) (pre:List α) (x:α) (O:Nat→Prop) (W:World):Exit→Act→World→Prop
 | .normal,_,W'=>Keeps Priv B O (M x) W W'∧I (pre ++ [x]) (nextO O (M x) W W') W'
 | .ret,_,W'=>Keeps Priv B O (M x) W W'∧Ix .ret (pre ++ [x]) (nextO O (M x) W W') W'
 | .exit id,_,W'=>Keeps Priv B O (M x) W W'∧Ix (.exit id) (pre ++ [x]) (nextO O (M x) W W') W'
 | .goto t,_,W'=>Keeps Priv B O (M x) W W'∧Ix (.goto t) (pre ++ [x]) (nextO O (M x) W W') W'
 | .panic _,_,_=>False
 | .outgrown,_,_=>False
theorem putObj_grown (W:World) (l:Nat) (o:Obj):W.grownBy (W.putObj l o) (some l):=
 ⟨rfl,rfl,rfl,by simp,fun k _ hk=>World.putObj_heap_other (fun e=>hk (by rw [e]))⟩
theorem wpIn_range_it {α:Type} {P:Program} {g:Operand} {ps:Array Tmp} {assign body:Code} {Q:Exit→Act→World→Prop} {a:Act} {w:World}
  {gf:Nat} {lb:Array Value} (hg:a.eval g= .func (.func gf) #[] lb) (eg:∀args w,(callFunc gf args).run P w= .ok (.enter gf args) w)
  {encs:α→Array Value} {M:α→Nat→Prop} {Pre:List α→α→World→Prop} {Priv:Nat→Prop} {S Sp:List α→Prop} (hit:It P gf lb encs M Pre Priv S Sp w)
  (hpv:∀k,Priv k→k < w.heap.size) (hps:∀x,(encs x).size=ps.size) (hPre:∀pre x V V',(∀k,M x k→V'.heap[k]?=V.heap[k]?)→Pre pre x V→Pre pre x V')
  (I:List α→(Nat→Prop)→World→Prop) (Ix:Code→List α→(Nat→Prop)→World→Prop) (hI:Abid w.heap.size I) (hIx:∀c,Abid w.heap.size (Ix c)) (h0:I [] (fun _=>False) w) (a₁:α→Act)
  (hassign:∀(l:Nat) (x:α) (W:World) (K:Act→World→Prop),K (a₁ x) W→
   assign.wpIn (Fence.wide.inRound l) 0 P (Exit.then K (fun _ _ _=>False)) {tmps:=(ps.zip (encs x)).foldl (fun t (p,v)=>t.setIfInBounds p v) a.tmps,defers:= []} W)
  (hbody:∀(l:Nat) (pre:List α) (x:α) (O:Nat→Prop) (W:World),w.heap.size+2≤W.heap.size→(∀k,O k→w.heap.size+2≤k∧k < W.heap.size)→I pre O W→Pre pre x W→(∀k,M x k→w.heap.size+2≤k∧k < W.heap.size∧¬O k)→
   body.wpIn (Fence.wide.inRound l) 0 P (itPost Priv w.heap.size M I Ix pre x O W) (a₁ x) W)
  (hdone:∀(xs:List α) (O:Nat→Prop) (W:World),S xs→I xs O W→W.heap[w.heap.size]?=some (.deferred (some []))→Q .normal {a with defers:={target:= .collected w.heap.size,args:= #[]} :: a.defers} W)
  (hstop:∀(c:Code) (pre:List α) (O:Nat→Prop) (W:World),Sp pre→Ix c pre O W→W.heap[w.heap.size]?=some (.deferred (some []))→c.wpIn Fence.wide 2 P Q {a with defers:={target:= .collected w.heap.size,args:= #[]} :: a.defers} W):
  (Code.rangeFunc g ps assign body).wpIn Fence.wide 2 P Q a w:=by
 refine wpIn_rangeFunc ?_
 intro fn hfn
 obtain⟨rec,hrec⟩:∃rec:LoopState→Option Code→Loop,rec=fun st pe=>{state:=st,pending:=pe,fn,tmps:=a.tmps,params:=ps,assign,body,defers:=w.heap.size}:=⟨_,rfl⟩
 obtain⟨W1,hW1⟩:∃W1,(w.alloc (.deferred (some []))).alloc (.loop (rec .ready none))=W1:=⟨_,rfl⟩
 have hsz:W1.heap.size=w.heap.size+2:=by rw [←hW1];simp
 have hL1:W1.heap[w.heap.size+1]?=some (.loop (rec .ready none)):=by
  rw [←hW1];have:=World.alloc_heap_new (w.alloc (.deferred (some []))) (.loop (rec .ready none));rwa [World.size_alloc]at this
 have hD1:W1.heap[w.heap.size]?=some (.deferred (some [])):=by
  rw [←hW1];exact(Below.heap_alloc _ _ _ (by simp)).trans (World.alloc_heap_new w _)
 have hI1:I [] (fun _=>False) W1:=by
  rw [←hW1]
  exact hI _ _ _ _ none (hI _ _ _ _ none h0 (World.grownBy_alloc w _ none) (fun r e=>by cases e)) (World.grownBy_alloc _ _ none) (fun r e=>by cases e)
 have hlow:∀k,k < w.heap.size→W1.heap[k]?=w.heap[k]?:=fun k hk=>by
  rw [←hW1];exact(Below.heap_alloc _ _ _ (by simp;omega)).trans (Below.heap_alloc _ _ _ hk)
 refine⟨w.heap.size+1,[{target:= .collected w.heap.size,args:= #[]}],W1,{target:= .fn (.func gf) lb,args:= #[.func (.yield (w.heap.size+1)) #[] #[]]},W1,gf,
  #[.func (.yield (w.heap.size+1)) #[] #[]] ++ lb,W1,?_,?_,?_,?_,(fun h=>by cases h),?_⟩
 ·rw [←hW1,hrec];exact run_enterLoop_outer _ _ _ _ _
 ·simp only [resolve,hg]
  simp [go_sem]
 ·intro f' hf';exact trivial
 ·simp [invoke,go_sem,eg]
 ·refine callsIn_wide.2 ((hit (w.heap.size+1)
   (fun pre O W=>I pre O W∧W.heap[w.heap.size+1]?=some (.loop (rec .ready none))∧W.heap[w.heap.size]?=some (.deferred (some []))∧∀k,O k→w.heap.size+2≤k)
   (fun pre O W=>∃c,Ix c pre O W∧W.heap[w.heap.size+1]?=some (.loop (rec .done (some c)))∧W.heap[w.heap.size]?=some (.deferred (some []))∧∀k,O k→w.heap.size+2≤k)
   W1 (fun k hk=>hlow k (hpv k hk)) (by omega) ?_ ?_ ?_ ⟨hI1,hL1,hD1,fun _ h=>h.elim⟩).mono ?_)
  ·intro s O A B row hs hg' hr
   have hlt:=(Array.getElem?_eq_some_iff.1 hs.2.1).1
   refine⟨hI s O A B row hs.1 hg' (fun r e=>⟨by have:=(hr r e).1;omega,(hr r e).2⟩),(hg'.block _ hlt (fun e=>by have:=(hr _ e.symm).1;omega)).trans hs.2.1,(hg'.block _ (by omega) (fun e=>by have:=(hr _ e.symm).1;omega)).trans hs.2.2.1,hs.2.2.2⟩
  ·intro s O A B row hs hg' hr
   obtain⟨c,hc,hl,hk,hOb⟩:=hs
   have hlt:=(Array.getElem?_eq_some_iff.1 hl).1
   refine⟨c,hIx c s O A B row hc hg' (fun r e=>⟨by have:=(hr r e).1;omega,(hr r e).2⟩),(hg'.block _ hlt (fun e=>by have:=(hr _ e.symm).1;omega)).trans hl,(hg'.block _ (by omega) (fun e=>by have:=(hr _ e.symm).1;omega)).trans hk,hOb⟩
  ·-- a round
   rintro pre x O W hWs hO ⟨hi,hl,hk,hOb⟩ hpre hM
   have hlt:w.heap.size+1 < W.heap.size:=(Array.getElem?_eq_some_iff.1 hl).1
   have hy:=run_yield (P:=P) (args:=encs x) hl (by rw [hrec];exact hps x)
   rw [hrec]at hy
   refine⟨fn,_,assign,body,hy,roundIn_of_wpIn hfn (hassign _ x W _ ⟨_,run_beginRound hl (by rw [hrec]),?_⟩)⟩
   obtain⟨V,hV⟩:=Nm (W.putObj (w.heap.size+1) (.loop {rec .ready none with state:= .busy}))
   rw [←hV]
   have hVs:V.heap.size=W.heap.size:=by rw [hV];simp
   have hl2:V.heap[w.heap.size+1]?=some (.loop {rec .ready none with state:= .busy}):=by rw [hV];exact World.putObj_heap_same hlt
   have hVo:∀k,k≠w.heap.size+1→V.heap[k]?=W.heap[k]?:=fun k hk=>by rw [hV];exact World.putObj_heap_other hk
   have hk2:V.heap[w.heap.size]?=some (.deferred (some [])):=(hVo _ (by omega)).trans hk
   have hiV:I pre O V:=by rw [hV];exact hI _ _ _ _ _ hi (putObj_grown W _ _) (fun r e=>by cases e;exact⟨by omega,fun ho=>by have:=(hO _ ho).1;omega⟩)
   have hpV:Pre pre x V:=hPre pre x W V (fun k hkm=>hVo k (by have:=(hM k hkm).1;omega)) hpre
   refine wpIn_mono (hbody _ pre x O V (by omega) (fun k ho=>by have:=hO k ho;omega) hiV hpV (fun k hm=>by have:=hM k hm;exact⟨by omega,by omega,this.2.2⟩)) ?_
   have hnO:¬O (w.heap.size+1):=fun ho=>by have:=(hO _ ho).1;omega
   have hnM:¬M x (w.heap.size+1):=fun ho=>by have:=(hM _ ho).1;omega
   have hnO':¬O w.heap.size:=fun ho=>by have:=(hO _ ho).1;omega
   have hnM':¬M x w.heap.size:=fun ho=>by have:=(hM _ ho).1;omega
   have hOn:∀W3:World,∀k,nextO O (M x) V W3 k→w.heap.size+2≤k:=by
    rintro W3 k (h | h | h)
    ·exact hOb k h
    ·have:=(hM k h).1;omega
    ·omega
   have fin:∀(jump:Option Code) (W3:World),Keeps Priv w.heap.size O (M x) V W3→
     (Instr.endRound (w.heap.size+1) jump).run P W3= .ok (.bool jump.isNone) (W3.putObj (w.heap.size+1) (.loop (rec (if jump.isNone then .ready else .done) jump)))∧
     (W3.putObj (w.heap.size+1) (.loop (rec (if jump.isNone then .ready else .done) jump))).heap[w.heap.size+1]?=some (.loop (rec (if jump.isNone then .ready else .done) jump))∧
     (W3.putObj (w.heap.size+1) (.loop (rec (if jump.isNone then .ready else .done) jump))).heap[w.heap.size]?=some (.deferred (some []))∧
     Keeps Priv W1.heap.size O (M x) W (W3.putObj (w.heap.size+1) (.loop (rec (if jump.isNone then .ready else .done) jump)))∧
     nextO O (M x) V W3=nextO O (M x) W (W3.putObj (w.heap.size+1) (.loop (rec (if jump.isNone then .ready else .done) jump)))∧
     (∀s,(∀k,nextO O (M x) V W3 k→¬k=w.heap.size+1)∧(I s (nextO O (M x) V W3) W3→I s (nextO O (M x) V W3) (W3.putObj (w.heap.size+1) (.loop (rec (if jump.isNone then .ready else .done) jump)))))∧
     (∀c s,Ix c s (nextO O (M x) V W3) W3→Ix c s (nextO O (M x) V W3) (W3.putObj (w.heap.size+1) (.loop (rec (if jump.isNone then .ready else .done) jump)))):=fun jump W3 hk3=>by
    have hl3:=(hk3.same _ (by omega) (.inr ⟨by omega,hnO,hnM⟩)).trans hl2
    have hd3:=(hk3.same _ (by omega) (.inr ⟨Nat.le_refl _,hnO',hnM'⟩)).trans hk2
    have hlt3:w.heap.size+1 < W3.heap.size:=(Array.getElem?_eq_some_iff.1 hl3).1
    have hr:=run_endRound (P:=P) jump hl3
    rw [hrec]at hr ⊢
    have hnn:∀k,nextO O (M x) V W3 k→¬k=w.heap.size+1:=by
     rintro k (h | h | h) rfl
     ·exact hnO h
     ·exact hnM h
     ·omega
    refine⟨hr,World.putObj_heap_same hlt3,(World.putObj_heap_other (by omega)).trans hd3,⟨by have:=hk3.size;simp;omega,fun k hkl hp=> ?_⟩,nextO_size hVs (by simp),fun s=>⟨hnn,fun h=>hI _ _ _ _ _ h (putObj_grown W3 _ _) (fun r e=>by cases e;exact⟨by omega,fun ho=>hnn _ ho rfl⟩)⟩,
     fun c s h=>hIx c _ _ _ _ _ h (putObj_grown W3 _ _) (fun r e=>by cases e;exact⟨by omega,fun ho=>hnn _ ho rfl⟩)⟩
    have hne:k≠w.heap.size+1:=by
     rcases hp with hp | ⟨hp,_⟩
     ·have:=hpv k hp;omega
     ·omega
    exact(World.putObj_heap_other hne).trans ((hk3.same k (by omega) (by rcases hp with hp | ⟨h1,h2⟩;exact .inl hp;exact .inr ⟨by omega,h2⟩)).trans (hVo k hne))
   rintro e a3 W3 hp
   cases e with
   | normal=>
    obtain⟨hk3,hi3⟩:=hp
    obtain⟨hr,hl4,hk4,hkk,hn,hi4,_⟩:=fin none W3 hk3
    exact⟨_,_,hr,hkk,.inl ⟨rfl,by rw [←hn];exact(hi4 _).2 hi3,hl4,hk4,by rw [←hn];exact hOn _⟩⟩
   | ret=>
    obtain⟨hk3,hi3⟩:=hp
    obtain⟨hr,hl4,hk4,hkk,hn,_,hi4⟩:=fin (some .ret) W3 hk3
    exact⟨_,_,hr,hkk,.inr ⟨rfl,.ret,by rw [←hn];exact hi4 _ _ hi3,hl4,hk4,by rw [←hn];exact hOn _⟩⟩
   | exit id=>
    obtain⟨hk3,hi3⟩:=hp
    obtain⟨hr,hl4,hk4,hkk,hn,_,hi4⟩:=fin (some (.exit id)) W3 hk3
    exact⟨_,_,hr,hkk,.inr ⟨rfl,.exit id,by rw [←hn];exact hi4 _ _ hi3,hl4,hk4,by rw [←hn];exact hOn _⟩⟩
   | goto t=>
    obtain⟨hk3,hi3⟩:=hp
    obtain⟨hr,hl4,hk4,hkk,hn,_,hi4⟩:=fin (some (.goto t)) W3 hk3
    exact⟨_,_,hr,hkk,.inr ⟨rfl,.goto t,by rw [←hn];exact hi4 _ _ hi3,hl4,hk4,by rw [←hn];exact hOn _⟩⟩
   | panic ch=>exact hp.elim
   | outgrown=>exact hp.elim
  ·-- behind the iterator
   rintro e W2 ⟨⟨v,rfl⟩,(⟨xs,O,hS,hi,hl,hk,hOb⟩ | ⟨pre,O,hSp,c,hi,hl,hk,hOb⟩)⟩
   ·have he:=run_endLoop (P:=P) hl (by rw [hrec];simp)
    rw [hrec]at he
    exact⟨none,_,he,hdone xs O _ hS (hI _ _ _ _ _ hi (putObj_grown W2 _ _) (fun r e=>by cases e;exact⟨by omega,fun ho=>by have:=hOb _ ho;omega⟩)) ((World.putObj_heap_other (by omega)).trans hk)⟩
   ·have he:=run_endLoop (P:=P) hl (by rw [hrec];simp)
    rw [hrec]at he
    exact⟨some c,_,he,hstop c pre O _ hSp (hIx c _ _ _ _ _ hi (putObj_grown W2 _ _) (fun r e=>by cases e;exact⟨by omega,fun ho=>by have:=hOb _ ho;omega⟩)) ((World.putObj_heap_other (by omega)).trans hk)⟩
theorem calls_marks {P:Program} {f:FuncId} {fn:Func} {c:Code} {args:Array Value} {w:World} {R:Ending→World→Prop}
  (hf:P.funcs[f]?=some fn) (hb:fn.body=some c)
  (h:c.wp P (bodyPostM Fence.wide 2 P fn R) {tmps:=args ++ Array.replicate (fn.ntmps - args.size) undef,defers:= []} w):Calls P f args w R:=
 callsIn_wide.1 (callsIn_of_wp_marks hf hb trivial (wpIn_wide.2 h) rfl)
theorem own_same {w w':World} {B:Nat} {e:TypeId} {size:Nat} {v:Value} {n:Nat} {xs:List Value} (h:w.ownsRow B e size v n xs) (hb:∀k,v.ownBlock=some k→w'.heap[k]?=w.heap[k]?):w'.ownsRow B e size v n xs:=by
 obtain⟨h1,h2 | ⟨g,c,cur,rfl,hg,hh,hr⟩⟩:=h
 ·exact⟨h1,.inl h2⟩
 ·exact⟨h1,.inr ⟨g,c,cur,rfl,hg,(hb g rfl).trans hh,hr⟩⟩
theorem own_lt {w:World} {B:Nat} {e:TypeId} {size:Nat} {v:Value} {n:Nat} {xs:List Value} (h:w.ownsRow B e size v n xs) {k:Nat} (hk:v.ownBlock=some k):k < w.heap.size:=(h.lt k hk).2
theorem nextO_ge {B:Nat} {O M:Nat→Prop} {W W':World} (hO:∀k,O k→B≤k) (hM:∀k,M k→B≤k) (hW:B≤W.heap.size):∀k,nextO O M W W' k→B≤k:=by
 rintro k (h | h | h)
 ·exact hO k h
 ·exact hM k h
 ·omega
end Go.Proofs.YtfcfbcjiijfjgaaGreatDoor
namespace Go.Proofs.YtfcfbcjiijfjgaaGreatDoor
open Go.RowKit Go.Shelf
theorem below1 (w:World) (o:Obj):Below w.heap.size w (w.alloc o):=Br.alloc Lr _
theorem below2 (w:World) (o p:Obj):Below w.heap.size w ((w.alloc o).alloc p):=(below1 w o).alloc (by simp) _
theorem below3 (w:World) (o p q:Obj):Below w.heap.size w (((w.alloc o).alloc p).alloc q):=(below2 w o p).alloc (by simp;omega) _
theorem below0 {w w1 w2:World} (h:Below w.heap.size w w1) (h2:Below w1.heap.size w1 w2):Below w.heap.size w w2:=h.trans (h2.mono h.size)
theorem wrapI (a:Int) (h1: -9223372036854775808≤a) (h2:a≤9223372036854775807):IntKind.i64.wrap a=a:=IntWalk.i64_in a (by omega)
theorem heap_set {V:World} {b o k:Nat} {v:Value} (h:k≠b):(V.setCell ⟨b,o,none⟩ v).heap[k]?=V.heap[k]?:=Below.heap_setCell _ _ _ _ h
theorem set_cells {V:World} {b o:Nat} {cs:Array Value} {t:TypeId} {fr:Nat × Nat} (v:Value) (h:V.heap[b]?=some (.cells cs t fr)):(V.setCell ⟨b,o,none⟩ v).heap[b]?=some (.cells (cs.setIfInBounds o v) t fr):=by
 obtain⟨hlt,hk⟩:=Array.getElem?_eq_some_iff.1 h
 show(V.heap.modify b _)[b]?=_
 rw [Array.getElem?_eq_getElem (by rw [Array.size_modify];exact hlt),Array.getElem_modify_self,hk]
 rfl
def Row (V:World) (b:Nat) (t:TypeId) (l:List Value):Prop:=V.heap[b]?=some (.cells l.toArray t (0,0))
theorem Row.lt {V:World} {b:Nat} {t:TypeId} {l:List Value} (h:Row V b t l):b < V.heap.size:=(Array.getElem?_eq_some_iff.1 h).1
theorem Row.cell {V:World} {b:Nat} {t:TypeId} {l:List Value} (h:Row V b t l) (o:Nat):V.cell? ⟨b,o,none⟩=l[o]?:=by simp [World.cell?,show V.heap[b]?=_ from h]
theorem Row.frozen {V:World} {b:Nat} {t:TypeId} {l:List Value} (h:Row V b t l) (o:Nat):V.frozen? ⟨b,o,none⟩=false:=by simp [World.frozen?,show V.heap[b]?=_ from h]
theorem Row.same {V V':World} {b:Nat} {t:TypeId} {l:List Value} (h:Row V b t l) (hb:V'.heap[b]?=V.heap[b]?):Row V' b t l:=hb.trans h
theorem Row.below {V V':World} {b:Nat} {t:TypeId} {l:List Value} (h:Row V b t l) (hb:Below V.heap.size V V'):Row V' b t l:=h.same (hb.block _ h.lt)
theorem Row.new (V:World) (t:TypeId) (l:List Value):Row (V.alloc (.cells l.toArray t)) V.heap.size t l:=World.alloc_heap_new V _
theorem Row.new_at (V:World) (t:TypeId) (l:List Value) {g:Nat} (hg:V.heap.size=g):Row (V.alloc (.cells l.toArray t)) g t l:=by subst hg;exact Row.new V t l
theorem Row.set {V:World} {b:Nat} {t:TypeId} {l:List Value} (h:Row V b t l) (o:Nat) (v:Value):Row (V.setCell ⟨b,o,none⟩ v) b t (l.set o v):=by
 have:=set_cells (o:=o) v h
 rw [List.setIfInBounds_toArray]at this
 exact this
theorem Row.sees {V:World} {b:Nat} {t:TypeId} {l:List Value} (h:Row V b t l):Sees V V.heap.size (some ⟨b,0,none⟩) l:=fun _=>
 ⟨_,rfl,h.lt,fun j u hu=>by rw [add_plain,Nat.zero_add,h.cell];exact hu⟩
structure Keep (F:Nat→Prop) (w w':World):Prop where
 os:w'.os=w.os
 tape:w'.tape=w.tape
 output:w'.output=w.output
 size:w.heap.size≤w'.heap.size
 block:∀k,k < w.heap.size→¬F k→w'.heap[k]?=w.heap[k]?
section
variable {F G:Nat→Prop} {w w1 w2:World} {n:Nat}
theorem Keep.cell (h:Keep F w w1) {p:Addr} (hp:p.block < w.heap.size) (hf:¬F p.block):w1.cell? p=w.cell? p:=World.cell?_of_block (h.block _ hp hf)
theorem Keep.frozen (h:Keep F w w1) {p:Addr} (hp:p.block < w.heap.size) (hf:¬F p.block):w1.frozen? p=w.frozen? p:=by
 simp only [World.frozen?,h.block _ hp hf]
theorem Keep.refl (w:World):Keep F w w:=⟨rfl,rfl,rfl,Nat.le_refl _,fun _ _ _=>rfl⟩
theorem Keep.mono (h:Keep F w w1) (hG:∀k,k < w.heap.size→F k→G k):Keep G w w1:=⟨h.os,h.tape,h.output,h.size,fun k hk hn=>h.block k hk fun hf=>hn (hG k hk hf)⟩
theorem Keep.trans (h:Keep F w w1) (h2:Keep G w1 w2) (hG:∀k,k < w.heap.size→G k→F k):Keep F w w2:=
 ⟨h2.os.trans h.os,h2.tape.trans h.tape,h2.output.trans h.output,Nat.le_trans h.size h2.size,fun k hk hn=>(h2.block k (Nat.lt_of_lt_of_le hk h.size) fun hg=>hn (hG k hk hg)).trans (h.block k hk hn)⟩
theorem Keep.row (h:Keep F w w1) {b:Nat} {t:TypeId} {l:List Value} (hr:Row w b t l) (hf:¬F b):Row w1 b t l:=hr.same (h.block _ hr.lt hf)
theorem Keep.set (h:Keep F w w1) {b o:Nat} (v:Value) (hb:F b∨w.heap.size≤b):Keep F w (w1.setCell ⟨b,o,none⟩ v):=
 ⟨h.os,h.tape,h.output,by rw [World.size_setCell];exact h.size,fun k hk hn=>(heap_set (by rintro rfl;rcases hb with hb | hb;exact hn hb;omega)).trans (h.block k hk hn)⟩
theorem Keep.alloc (h:Keep F w w1) (o:Obj):Keep F w (w1.alloc o):=
 ⟨h.os,h.tape,h.output,by rw [World.size_alloc];have:=h.size;omega,fun k hk hn=>(Below.heap_alloc _ _ _ (Nat.lt_of_lt_of_le hk h.size)).trans (h.block k hk hn)⟩
theorem Keep.of_below (h:Below w.heap.size w w1):Keep F w w1:=⟨h.os,h.tape,h.output,h.size,fun k hk _=>h.block k hk⟩
theorem Keep.below (h:Keep F w w1) (hF:∀k,F k→n≤k) (hn:n≤w.heap.size):Below n w w1:=
 ⟨h.os,h.tape,h.output,h.size,fun k hk=>h.block k (by omega) fun hf=>by have:=hF k hf;omega⟩
theorem Keep.drewN (h:Keep F w w1) (k:Nat):Keep F w (w1.drewN k):=⟨h.os,h.tape,h.output,h.size,h.block⟩
end
theorem nextO_bound {O M:Nat→Prop} {B:Nat} {W W':World} (hO:∀b,O b→B≤b∧b < W.heap.size) (hB:B≤W.heap.size) (hs:W.heap.size≤W'.heap.size) (hM:∀b,M b→B≤b∧b < W.heap.size:=by exact fun _ h=>h.elim):
  ∀b,nextO O M W W' b→B≤b∧b < W'.heap.size:=by
 rintro b (h | h | h)
 ·have:=hO b h;omega
 ·have:=hM b h;omega
 ·omega
theorem Abid.below {β:Type} {B:Nat} {J:β→(Nat→Prop)→World→Prop} (hJ:Abid B J) {s:β} {O:Nat→Prop} {W W':World} (h:J s O W) (hb:Below W.heap.size W W'):J s O W':=
 hJ _ _ _ _ none h ⟨hb.os,hb.tape,hb.output,hb.size,fun k hk _=>hb.block k hk⟩ (fun r e=>by cases e)
end Go.Proofs.YtfcfbcjiijfjgaaGreatDoor
namespace Go.Proofs.YtfcfbcjiijfjgaaGreatDoor
open Go.RowKit
theorem putObj_alloc (W:World) (l:Nat) (b o:Obj) (h:l < W.heap.size):(W.alloc o).putObj l b=(W.putObj l b).alloc o:=by
 unfold World.putObj World.alloc
 simp [Array.setIfInBounds,h,Array.set_push,Nat.lt_succ_of_lt h]
theorem wpIn_range_box {α:Type} {P:Program} {g:Operand} {ps:Array Tmp} {assign body:Code} {Q:Exit→Act→World→Prop} {a:Act} {w:World}
  {gf:Nat} {lb:Array Value} (hg:a.eval g= .func (.func gf) #[] lb) (eg:∀args w,(callFunc gf args).run P w= .ok (.enter gf args) w)
  {encs:α→Array Value} {M:α→Nat→Prop} {Pre:List α→α→World→Prop} {Priv:Nat→Prop} {S Sp:List α→Prop} (hit:It P gf lb encs M Pre Priv S Sp w)
  (hpv:∀k,Priv k→k < w.heap.size) (hps:∀x,(encs x).size=ps.size) (hPre:∀pre x V V',(∀k,M x k→V'.heap[k]?=V.heap[k]?)→Pre pre x V→Pre pre x V')
  (I:List α→(Nat→Prop)→World→Prop) (Ix:Code→List α→(Nat→Prop)→World→Prop) (hI:Abid w.heap.size I) (hIx:∀c,Abid w.heap.size (Ix c)) (h0:I [] (fun _=>False) w) (a₁:Nat→α→Act) (ob:α→Obj)
  (hassign:∀(l:Nat) (x:α) (W:World) (K:Act→World→Prop),K (a₁ W.heap.size x) (W.alloc (ob x))→
   assign.wpIn (Fence.wide.inRound l) 0 P (Exit.then K (fun _ _ _=>False)) {tmps:=(ps.zip (encs x)).foldl (fun t (p,v)=>t.setIfInBounds p v) a.tmps,defers:= []} W)
  (hbody:∀(l:Nat) (pre:List α) (x:α) (O:Nat→Prop) (W:World),w.heap.size+2≤W.heap.size→(∀k,O k→w.heap.size+2≤k∧k < W.heap.size)→I pre O W→Pre pre x W→(∀k,M x k→w.heap.size+2≤k∧k < W.heap.size∧¬O k)→
   body.wpIn (Fence.wide.inRound l) 0 P (itPost Priv w.heap.size M I Ix pre x O W) (a₁ W.heap.size x) (W.alloc (ob x)))
  (hdone:∀(xs:List α) (O:Nat→Prop) (W:World),S xs→I xs O W→W.heap[w.heap.size]?=some (.deferred (some []))→Q .normal {a with defers:={target:= .collected w.heap.size,args:= #[]} :: a.defers} W)
  (hstop:∀(c:Code) (pre:List α) (O:Nat→Prop) (W:World),Sp pre→Ix c pre O W→W.heap[w.heap.size]?=some (.deferred (some []))→c.wpIn Fence.wide 2 P Q {a with defers:={target:= .collected w.heap.size,args:= #[]} :: a.defers} W):
  (Code.rangeFunc g ps assign body).wpIn Fence.wide 2 P Q a w:=by
 refine wpIn_rangeFunc ?_
 intro fn hfn
 obtain⟨rec,hrec⟩:∃rec:LoopState→Option Code→Loop,rec=fun st pe=>{state:=st,pending:=pe,fn,tmps:=a.tmps,params:=ps,assign,body,defers:=w.heap.size}:=⟨_,rfl⟩
 obtain⟨W1,hW1⟩:∃W1,(w.alloc (.deferred (some []))).alloc (.loop (rec .ready none))=W1:=⟨_,rfl⟩
 have hsz:W1.heap.size=w.heap.size+2:=by rw [←hW1];simp
 have hL1:W1.heap[w.heap.size+1]?=some (.loop (rec .ready none)):=by
  rw [←hW1];have:=World.alloc_heap_new (w.alloc (.deferred (some []))) (.loop (rec .ready none));rwa [World.size_alloc]at this
 have hD1:W1.heap[w.heap.size]?=some (.deferred (some [])):=by
  rw [←hW1];exact(Below.heap_alloc _ _ _ (by simp)).trans (World.alloc_heap_new w _)
 have hI1:I [] (fun _=>False) W1:=by
  rw [←hW1]
  exact hI _ _ _ _ none (hI _ _ _ _ none h0 (World.grownBy_alloc w _ none) (fun r e=>by cases e)) (World.grownBy_alloc _ _ none) (fun r e=>by cases e)
 have hlow:∀k,k < w.heap.size→W1.heap[k]?=w.heap[k]?:=fun k hk=>by
  rw [←hW1];exact(Below.heap_alloc _ _ _ (by simp;omega)).trans (Below.heap_alloc _ _ _ hk)
 refine⟨w.heap.size+1,[{target:= .collected w.heap.size,args:= #[]}],W1,{target:= .fn (.func gf) lb,args:= #[.func (.yield (w.heap.size+1)) #[] #[]]},W1,gf,
  #[.func (.yield (w.heap.size+1)) #[] #[]] ++ lb,W1,?_,?_,?_,?_,(fun h=>by cases h),?_⟩
 ·rw [←hW1,hrec];exact run_enterLoop_outer _ _ _ _ _
 ·simp only [resolve,hg]
  simp [go_sem]
 ·intro f' hf';exact trivial
 ·simp [invoke,go_sem,eg]
 ·refine callsIn_wide.2 ((hit (w.heap.size+1)
   (fun pre O W=>I pre O W∧W.heap[w.heap.size+1]?=some (.loop (rec .ready none))∧W.heap[w.heap.size]?=some (.deferred (some []))∧∀k,O k→w.heap.size+2≤k)
   (fun pre O W=>∃c,Ix c pre O W∧W.heap[w.heap.size+1]?=some (.loop (rec .done (some c)))∧W.heap[w.heap.size]?=some (.deferred (some []))∧∀k,O k→w.heap.size+2≤k)
   W1 (fun k hk=>hlow k (hpv k hk)) (by omega) ?_ ?_ ?_ ⟨hI1,hL1,hD1,fun _ h=>h.elim⟩).mono ?_)
  ·intro s O A B row hs hg' hr
   have hlt:=(Array.getElem?_eq_some_iff.1 hs.2.1).1
   refine⟨hI s O A B row hs.1 hg' (fun r e=>⟨by have:=(hr r e).1;omega,(hr r e).2⟩),(hg'.block _ hlt (fun e=>by have:=(hr _ e.symm).1;omega)).trans hs.2.1,(hg'.block _ (by omega) (fun e=>by have:=(hr _ e.symm).1;omega)).trans hs.2.2.1,hs.2.2.2⟩
  ·intro s O A B row hs hg' hr
   obtain⟨c,hc,hl,hk,hOb⟩:=hs
   have hlt:=(Array.getElem?_eq_some_iff.1 hl).1
   refine⟨c,hIx c s O A B row hc hg' (fun r e=>⟨by have:=(hr r e).1;omega,(hr r e).2⟩),(hg'.block _ hlt (fun e=>by have:=(hr _ e.symm).1;omega)).trans hl,(hg'.block _ (by omega) (fun e=>by have:=(hr _ e.symm).1;omega)).trans hk,hOb⟩
  ·-- a round
   rintro pre x O W hWs hO ⟨hi,hl,hk,hOb⟩ hpre hM
   have hlt:w.heap.size+1 < W.heap.size:=(Array.getElem?_eq_some_iff.1 hl).1
   have hy:=run_yield (P:=P) (args:=encs x) hl (by rw [hrec];exact hps x)
   rw [hrec]at hy
   refine⟨fn,_,assign,body,hy,roundIn_of_wpIn hfn (hassign _ x W _ ⟨_,run_beginRound ((Below.heap_alloc _ _ _ hlt).trans hl) (by rw [hrec]),?_⟩)⟩
   rw [putObj_alloc _ _ _ _ hlt]
   obtain⟨V,hV⟩:=Nm (W.putObj (w.heap.size+1) (.loop {rec .ready none with state:= .busy}))
   rw [←hV]
   have hVs:V.heap.size=W.heap.size:=by rw [hV];simp
   rw [←hVs]
   have hl2:V.heap[w.heap.size+1]?=some (.loop {rec .ready none with state:= .busy}):=by rw [hV];exact World.putObj_heap_same hlt
   have hVo:∀k,k≠w.heap.size+1→V.heap[k]?=W.heap[k]?:=fun k hk=>by rw [hV];exact World.putObj_heap_other hk
   have hk2:V.heap[w.heap.size]?=some (.deferred (some [])):=(hVo _ (by omega)).trans hk
   have hiV:I pre O V:=by rw [hV];exact hI _ _ _ _ _ hi (putObj_grown W _ _) (fun r e=>by cases e;exact⟨by omega,fun ho=>by have:=(hO _ ho).1;omega⟩)
   have hpV:Pre pre x V:=hPre pre x W V (fun k hkm=>hVo k (by have:=(hM k hkm).1;omega)) hpre
   refine wpIn_mono (hbody _ pre x O V (by omega) (fun k ho=>by have:=hO k ho;omega) hiV hpV (fun k hm=>by have:=hM k hm;exact⟨by omega,by omega,this.2.2⟩)) ?_
   have hnO:¬O (w.heap.size+1):=fun ho=>by have:=(hO _ ho).1;omega
   have hnM:¬M x (w.heap.size+1):=fun ho=>by have:=(hM _ ho).1;omega
   have hnO':¬O w.heap.size:=fun ho=>by have:=(hO _ ho).1;omega
   have hnM':¬M x w.heap.size:=fun ho=>by have:=(hM _ ho).1;omega
   have hOn:∀W3:World,∀k,nextO O (M x) V W3 k→w.heap.size+2≤k:=by
    rintro W3 k (h | h | h)
    ·exact hOb k h
    ·have:=(hM k h).1;omega
    ·omega
   have fin:∀(jump:Option Code) (W3:World),Keeps Priv w.heap.size O (M x) V W3→
     (Instr.endRound (w.heap.size+1) jump).run P W3= .ok (.bool jump.isNone) (W3.putObj (w.heap.size+1) (.loop (rec (if jump.isNone then .ready else .done) jump)))∧
     (W3.putObj (w.heap.size+1) (.loop (rec (if jump.isNone then .ready else .done) jump))).heap[w.heap.size+1]?=some (.loop (rec (if jump.isNone then .ready else .done) jump))∧
     (W3.putObj (w.heap.size+1) (.loop (rec (if jump.isNone then .ready else .done) jump))).heap[w.heap.size]?=some (.deferred (some []))∧
     Keeps Priv W1.heap.size O (M x) W (W3.putObj (w.heap.size+1) (.loop (rec (if jump.isNone then .ready else .done) jump)))∧
     nextO O (M x) V W3=nextO O (M x) W (W3.putObj (w.heap.size+1) (.loop (rec (if jump.isNone then .ready else .done) jump)))∧
     (∀s,(∀k,nextO O (M x) V W3 k→¬k=w.heap.size+1)∧(I s (nextO O (M x) V W3) W3→I s (nextO O (M x) V W3) (W3.putObj (w.heap.size+1) (.loop (rec (if jump.isNone then .ready else .done) jump)))))∧
     (∀c s,Ix c s (nextO O (M x) V W3) W3→Ix c s (nextO O (M x) V W3) (W3.putObj (w.heap.size+1) (.loop (rec (if jump.isNone then .ready else .done) jump)))):=fun jump W3 hk3=>by
    have hl3:=(hk3.same _ (by omega) (.inr ⟨by omega,hnO,hnM⟩)).trans hl2
    have hd3:=(hk3.same _ (by omega) (.inr ⟨Nat.le_refl _,hnO',hnM'⟩)).trans hk2
    have hlt3:w.heap.size+1 < W3.heap.size:=(Array.getElem?_eq_some_iff.1 hl3).1
    have hr:=run_endRound (P:=P) jump hl3
    rw [hrec]at hr ⊢
    have hnn:∀k,nextO O (M x) V W3 k→¬k=w.heap.size+1:=by
     rintro k (h | h | h) rfl
     ·exact hnO h
     ·exact hnM h
     ·omega
    refine⟨hr,World.putObj_heap_same hlt3,(World.putObj_heap_other (by omega)).trans hd3,⟨by have:=hk3.size;simp;omega,fun k hkl hp=> ?_⟩,nextO_size hVs (by simp),fun s=>⟨hnn,fun h=>hI _ _ _ _ _ h (putObj_grown W3 _ _) (fun r e=>by cases e;exact⟨by omega,fun ho=>hnn _ ho rfl⟩)⟩,
     fun c s h=>hIx c _ _ _ _ _ h (putObj_grown W3 _ _) (fun r e=>by cases e;exact⟨by omega,fun ho=>hnn _ ho rfl⟩)⟩
    have hne:k≠w.heap.size+1:=by
     rcases hp with hp | ⟨hp,_⟩
     ·have:=hpv k hp;omega
     ·omega
    exact(World.putObj_heap_other hne).trans ((hk3.same k (by omega) (by rcases hp with hp | ⟨h1,h2⟩;exact .inl hp;exact .inr ⟨by omega,h2⟩)).trans (hVo k hne))
   rintro e a3 W3 hp
   cases e with
   | normal=>
    obtain⟨hk3,hi3⟩:=hp
    obtain⟨hr,hl4,hk4,hkk,hn,hi4,_⟩:=fin none W3 hk3
    exact⟨_,_,hr,hkk,.inl ⟨rfl,by rw [←hn];exact(hi4 _).2 hi3,hl4,hk4,by rw [←hn];exact hOn _⟩⟩
   | ret=>
    obtain⟨hk3,hi3⟩:=hp
    obtain⟨hr,hl4,hk4,hkk,hn,_,hi4⟩:=fin (some .ret) W3 hk3
    exact⟨_,_,hr,hkk,.inr ⟨rfl,.ret,by rw [←hn];exact hi4 _ _ hi3,hl4,hk4,by rw [←hn];exact hOn _⟩⟩
   | exit id=>
    obtain⟨hk3,hi3⟩:=hp
    obtain⟨hr,hl4,hk4,hkk,hn,_,hi4⟩:=fin (some (.exit id)) W3 hk3
    exact⟨_,_,hr,hkk,.inr ⟨rfl,.exit id,by rw [←hn];exact hi4 _ _ hi3,hl4,hk4,by rw [←hn];exact hOn _⟩⟩
   | goto t=>
    obtain⟨hk3,hi3⟩:=hp
    obtain⟨hr,hl4,hk4,hkk,hn,_,hi4⟩:=fin (some (.goto t)) W3 hk3
    exact⟨_,_,hr,hkk,.inr ⟨rfl,.goto t,by rw [←hn];exact hi4 _ _ hi3,hl4,hk4,by rw [←hn];exact hOn _⟩⟩
   | panic ch=>exact hp.elim
   | outgrown=>exact hp.elim
  ·-- behind the iterator
   rintro e W2 ⟨⟨v,rfl⟩,(⟨xs,O,hS,hi,hl,hk,hOb⟩ | ⟨pre,O,hSp,c,hi,hl,hk,hOb⟩)⟩
   ·have he:=run_endLoop (P:=P) hl (by rw [hrec];simp)
    rw [hrec]at he
    exact⟨none,_,he,hdone xs O _ hS (hI _ _ _ _ _ hi (putObj_grown W2 _ _) (fun r e=>by cases e;exact⟨by omega,fun ho=>by have:=hOb _ ho;omega⟩)) ((World.putObj_heap_other (by omega)).trans hk)⟩
   ·have he:=run_endLoop (P:=P) hl (by rw [hrec];simp)
    rw [hrec]at he
    exact⟨some c,_,he,hstop c pre O _ hSp (hIx c _ _ _ _ _ hi (putObj_grown W2 _ _) (fun r e=>by cases e;exact⟨by omega,fun ho=>by have:=hOb _ ho;omega⟩)) ((World.putObj_heap_other (by omega)).trans hk)⟩
end Go.Proofs.YtfcfbcjiijfjgaaGreatDoor
namespace Go.Proofs.YtfcfbcjiijfjgaaGreatDoor.Wo
open Go.RowKit
def Tab (w:World):Prop:=∃t fr,w.heap[1]?=some (.cells #[.int .i64 1,.int .i64 2,.int .i64 4,.int .i64 8] t fr)
theorem Tab.lt {w:World} (h:Tab w):1 < w.heap.size:=by
 obtain⟨t,fr,h⟩:=h
 exact(Array.getElem?_eq_some_iff.1 h).1
theorem Tab.below {w w':World} (h:Tab w) (hb:Below w.heap.size w w'):Tab w':=by
 have hl:=h.lt
 obtain⟨t,fr,h⟩:=h
 exact⟨t,fr,(hb.block _ hl).trans h⟩
theorem Tab.alloc {w:World} (h:Tab w) (o:Obj):Tab (w.alloc o):=h.below (Br.alloc Lr _)
theorem Tab.drewN {w:World} (h:Tab w) (n:Nat):Tab (w.drewN n):=h
theorem Tab.of {w:World} (h:Lib.TabIs Tryz.prog w "pinfold/word.widths" .i64 [1,2,4,8]):Tab w:=by
 unfold Lib.TabIs World.var? at h
 have hg:Tryz.prog.globalNamed "pinfold/word.widths" =some 1:=by kernel_rfl
 rw [hg]at h
 simp only [Option.bind_some]at h
 split at h
 ·rename_i cs t fr hh
  simp only [Option.some.injEq]at h
  subst h
  exact⟨t,fr,hh⟩
 ·cases h
theorem widths_size:(Tryz.prog.info? 322).map (·.size)=some (#[Value.int .i64 1,.int .i64 2,.int .i64 4,.int .i64 8]:Array Value).size:=by kernel_rfl
def wid (n:Int):Bool:=n == 1 || n == 2 || n == 4 || n == 8
def widFrom (n:Int) (k:Nat):Bool:=([1,2,4,8].drop k).any fun x=>n == x
theorem wid_start (n:Int):wid n=widFrom n 0:=by simp [wid,widFrom,Bool.or_assoc]
theorem wid_end {n:Int} (h:wid n=widFrom n 4):wid n=false:=h
theorem wid_here {n x:Int} {k:Nat} (hx: [1,2,4,8][k]?=some x) (h:(n == x)=true) (hk:wid n=widFrom n k):wid n=true:=by
 rw [hk]
 unfold widFrom
 rw [List.any_eq_true]
 refine⟨x,?_,h⟩
 rw [List.mem_iff_getElem?]
 exact⟨0,by simpa using hx⟩
theorem wid_step {n x:Int} {k:Nat} (hx: [1,2,4,8][k]?=some x) (h:(n == x)=false) (hk:wid n=widFrom n k):Hid (wid n=widFrom n (k+1)):=by
 show wid n=_
 rw [hk]
 unfold widFrom
 obtain⟨hl,rfl⟩:=List.getElem?_eq_some_iff.1 hx
 rw [List.drop_eq_getElem_cons hl,List.any_cons,h,Bool.false_or]
theorem wknown_any (n:Int) (w:World) (ht:Tab w):Calls Tryz.prog 239 #[.int .i64 n] w fun e w'=>e= .returned (.bool (wid n))∧w=w':=by
 obtain⟨t,fr,ht⟩:=ht
 have i0:∀w,(Instr.index 322 (.agg #[.int .i64 1,.int .i64 2,.int .i64 4,.int .i64 8]) (.int .i64 0)).run Tryz.prog w= .ok (.int .i64 1) w:=fun _=>by kernel_rfl
 have i1:∀w,(Instr.index 322 (.agg #[.int .i64 1,.int .i64 2,.int .i64 4,.int .i64 8]) (.int .i64 1)).run Tryz.prog w= .ok (.int .i64 2) w:=fun _=>by kernel_rfl
 have i2:∀w,(Instr.index 322 (.agg #[.int .i64 1,.int .i64 2,.int .i64 4,.int .i64 8]) (.int .i64 2)).run Tryz.prog w= .ok (.int .i64 4) w:=fun _=>by kernel_rfl
 have i3:∀w,(Instr.index 322 (.agg #[.int .i64 1,.int .i64 2,.int .i64 4,.int .i64 8]) (.int .i64 3)).run Tryz.prog w= .ok (.int .i64 8) w:=fun _=>by kernel_rfl
 go_enter Tryz.func239,Tryz.ntmps239
 go_wp2_with (refine wpList_load_row rfl 322 _ rfl 1 rfl t _ fr _ ht Tryz.underlying322 rfl widths_size ?_)
 go_loop [6] (fun i=>∃k:Nat,k≤4∧i= .int .i64 k∧Hid (wid n=widFrom n k)) (fun i=>4 - (intOf i).toNat)
 case atStart=>exact⟨0,by omega,rfl,wid_start n⟩
 case round=>
  obtain⟨k,hk,rfl,H⟩:=hrel
  rcases(show k=0∨k=1∨k=2∨k=3∨k=4 by omega) with rfl | rfl | rfl | rfl | rfl
  all_goals go_wp2
  all_goals first
   | (go_ret;exact⟨by rw [wid_end H.out];rfl,rfl⟩)
   | (go_ret;exact⟨by rw [wid_here rfl ‹_› H.out];rfl,rfl⟩)
   | (go_round
      case rel=>exact⟨_,by omega,by go_num,wid_step rfl ‹_› H.out⟩
      case measure=>simp [intOf])
end Go.Proofs.YtfcfbcjiijfjgaaGreatDoor.Wo
namespace Go.Proofs.YtfcfbcjiijfjgaaGreatDoor
open Go.ChangeShapes Go.WideShapes Go.ChangeAt Go.RowKit
theorem weights_each {H:Type} {P:Program} {ts:List TypeId} {ds:List (DataW H)} {j:Nat} {t:TypeId} {d:DataW H} (hsz:(DataW.weightsEach P ts ds).all (· ≤reachBytes)=true) (hj:ts[j]?=some t) (hd:ds[j]?=some d):∀n∈d.weights P t,n≤reachBytes:=
 fun n hn=>of_decide_eq_true (List.all_eq_true.1 hsz n (DataW.weights_mem_each hj hd n hn))
section
variable {H:Type} {enc:TypeId × Value→H} {P:Program} {w:World} {base:Nat} {spare:Nat→Bool} {held:Bool}
end
end Go.Proofs.YtfcfbcjiijfjgaaGreatDoor
