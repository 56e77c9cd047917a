import Derived.Test.YtfcfbcjiijfjgaaGreatDoorPAC
import Derived.Laws.EntriesVeiled
set_option maxHeartbeats 2000000
namespace Go.Proofs.YtfcfbcjiijfjgaaGreatDoor.Wn
open Go.RowKit Go.Shelf
attribute [local go_sem] Oper.semAt_some
def sF (k:Nat):Nat:= [222,224,226,229].getD k 0
def sG (k:Nat):Nat:= [223,225,227,230].getD k 0
def sortC:List Value:= [Value.func (.func (sF 0)) #[] #[],.func (.func (sG 0)) #[] #[],.func (.func (sF 1)) #[] #[],.func (.func (sG 1)) #[] #[],.func (.func (sF 2)) #[] #[],.func (.func (sG 2)) #[] #[],.func (.func (sF 3)) #[] #[],.func (.func (sG 3)) #[] #[]]
theorem sortC_get {k:Nat} (h:k < 4):sortC[k*2]?=some (Value.func (.func (sF k)) #[] #[])∧sortC[k*2+1]?=some (Value.func (.func (sG k)) #[] #[]):=by
 rcases(show k=0∨k=1∨k=2∨k=3 by omega) with rfl | rfl | rfl | rfl <;> exact⟨rfl,rfl⟩
theorem sorts_any (w:World):Calls Tryz.prog 154 #[] w fun e w'=>e= .returned (.slice (some ⟨w.heap.size,0,none⟩) 4 4)∧w'=w.alloc (.cells sortC.toArray 231):=by
 go_enter Tryz.func154,Tryz.ntmps154
 go_wp2
 go_ret
 exact⟨rfl,rfl⟩
theorem values_any (A:Option Addr) (n c:Nat) (w:World):Calls Tryz.prog 153 #[.slice A n c] w fun e w'=>e= .returned (.func (.func 221) #[] #[.pointer (some ⟨w.heap.size,0,none⟩)])∧w'=w.alloc (.cells #[.slice A n c] 237):=by
 go_enter Tryz.func153,Tryz.ntmps153
 go_wp2
 go_ret
 exact⟨rfl,rfl⟩
def encS (k:Nat):Array Value:= #[.agg #[Value.func (.func (sF k)) #[] #[],.func (.func (sG k)) #[] #[]]]
def preS (pre:List Nat) (x:Nat) (_:World):Prop:=x=pre.length∧x < 4∧pre=List.range x
def allS (xs:List Nat):Prop:=xs=List.range 4
def someS (xs:List Nat):Prop:=xs=List.range xs.length∧xs.length≤4
theorem range_snoc {pre:List Nat} {k:Nat} (h:pre=List.range k):Hid (pre ++ [k]=List.range (k+1)):=by
 show _=_
 rw [List.range_succ,h]
structure Stands (w:World) (bx sl:Nat):Prop where
 box:Boxed w bx 237 (.slice (some ⟨sl,0,none⟩) 4 4)
 row:Row w sl 231 sortC
theorem Stands.same {w w':World} {bx sl:Nat} (h:Stands w bx sl) (h1:w'.heap[bx]?=w.heap[bx]?) (h2:w'.heap[sl]?=w.heap[sl]?):Stands w' bx sl:=⟨h1.trans h.box,h2.trans h.row⟩
theorem Stands.below {w w':World} {bx sl:Nat} (h:Stands w bx sl) (hb:Below w.heap.size w w'):Stands w' bx sl:=h.same (hb.block _ h.box.lt) (hb.block _ h.row.lt)
theorem vals_it (bx sl:Nat) (w0:World) (ht:Stands w0 bx sl):It Tryz.prog 221 #[.pointer (some ⟨bx,0,none⟩)] encS (fun _ _=>False) preS (fun k=>k=bx∨k=sl) allS someS w0:=by
 intro l J Jx W hpW hsW hJ hJx hY h0
 have htW:Stands W bx sl:=ht.same (hpW _ (.inl rfl)) (hpW _ (.inr rfl))
 have hcb:=htW.box.cell
 refine(callsIn_wide (n:=1)).1 ?_
 refine callsIn_of_wp Tryz.func221 rfl trivial ?_ rfl
 simp only [Tryz.ntmps221,List.size_toArray,List.length_cons,List.length_nil,Nat.reduceAdd,Nat.reduceSub,Array.replicate_succ,Array.replicate_zero,List.push_toArray,List.append_toArray,List.nil_append,List.cons_append]
 gi_wp2_with fail
 gi_loopw [7] (fun t wr=>∃(k:Nat) (pre:List Nat) (O:Nat→Prop),t= .int .i64 k∧k≤4∧Hid (pre=List.range k)∧J pre O wr∧W.heap.size≤wr.heap.size∧(∀b,O b→W.heap.size≤b∧b < wr.heap.size)∧Stands wr bx sl) (fun t _=>4 - (intOf t).toNat)
 case atStart=>exact⟨0,[],fun _=>False,rfl,by omega,rfl,h0,Nat.le_refl _,fun b (h:False)=>h.elim,htW⟩
 case round=>
  obtain⟨k,pre,O,rfl,hk,Hpre,hj,hws,hO,htr⟩:=hrel
  by_cases hlt:k < 4
  ·have hl8:decide ((k:Int) < 4)=true:=Dt (by omega)
   have hl9:(k:Int) < 4:=by omega
   have hlen:pre.length=k:=by rw [Hpre.out];simp
   have Hlen:=Lh hlen
   have c0:wr.cell? ⟨sl,k*2,none⟩=some (Value.func (.func (sF k)) #[] #[]):=(htr.row.cell _).trans (sortC_get hlt).1
   have c1:wr.cell? ⟨sl,k*2+1,none⟩=some (Value.func (.func (sG k)) #[] #[]):=(htr.row.cell _).trans (sortC_get hlt).2
   clear hlen
   gi_wp2_with fail
   obtain⟨w1,hw1⟩:=Nm (wr.alloc (.cells #[Value.func (.func (sF k)) #[] #[],.func (.func (sG k)) #[] #[]] 231))
   have hb1:Below wr.heap.size wr w1:=by rw [hw1];exact below1 _ _
   rw [←hw1]
   clear hw1
   obtain⟨fn,tmps,assign,body,hy,hR⟩:=hY pre k O w1 (Nat.le_trans hws hb1.size) (fun b h=>by have:=hO b h;have:=hb1.size;omega) (hJ.below hj (hb1.mono (by omega))) ⟨Hlen.out.symm,hlt,Hpre.out⟩ (fun b (h:False)=>h.elim)
   simp only [encS]at hy
   gi_wp2
   rw [hy]
   gi_wp2
   refine hR.mono ?_
   rintro e W' ⟨hk',(⟨rfl,hj'⟩ | ⟨rfl,hjx⟩)⟩
   ·gi_wp2
    go_roundw
    case rel=>exact⟨k+1,_,_,by go_num,by omega,range_snoc Hpre.out,hj',Nat.le_trans (Nat.le_trans hws hb1.size) hk'.size,nextO_bound (M:=fun _=>False) (fun b h=>by have:=hO b h;have:=hb1.size;omega) (Nat.le_trans hws hb1.size) hk'.size,(htr.below hb1).same (hk'.same _ (htr.below hb1).box.lt (.inl (.inl rfl))) (hk'.same _ (htr.below hb1).row.lt (.inl (.inr rfl)))⟩
    case measure=>simp [intOf];omega
   ·gi_wp2
    refine bodyPost_ret (results_none rfl _ _ _) rfl ?_
    have HX:=range_snoc Hpre.out
    exact itEnd.part ⟨by rw [List.length_append,Hlen.out];exact HX.out,by rw [List.length_append,Hlen.out];simp;omega⟩ hjx
  ·obtain rfl:k=4:=by omega
   gi_wp2
   go_end0
   exact itEnd.all Hpre.out hj
section
variable (c i f:Bool) (e:Int)
def fitL (k:Nat):Bool:=if k=0 then c else if k=1 then i else if k=2 then(f && decide (256≤e)) else f
end
theorem fit_gen (F G:Nat) (r:Bool) (a b:Int) (c:Bool) (d e:Int) (f:Bool) (g h:Int) (i:Bool) (bl:Nat) (w:World) (hr:Row w bl 226 (lkC a b c d e f g h i))
  (eg:∀args w,(callFunc F args).run Tryz.prog w= .ok (.enter F args) w) (hF:∀W,Calls Tryz.prog F #[lkV a b c d e f g h i] W fun en w'=>en= .returned (.bool r)∧Below W.heap.size W w'):
  Calls Tryz.prog 155 #[.agg #[Value.func (.func F) #[] #[],.func (.func G) #[] #[]],.pointer (some ⟨bl,0,none⟩)] w fun en w'=>en= .returned (.bool r)∧Below w.heap.size w w':=by
 obtain⟨w0,hw0⟩:=Nm (w.alloc (.cells #[Value.func (.func F) #[] #[],.func (.func G) #[] #[]] 231))
 have hB:Below w.heap.size w w0:=by rw [hw0];exact below1 _ _
 have hr0:=hr.below hB
 have c0:w0.cell? ⟨bl,0,none⟩=_:=hr0.cell 0
 have c1:w0.cell? ⟨bl,1,none⟩=_:=hr0.cell 1
 have c2:w0.cell? ⟨bl,2,none⟩=_:=hr0.cell 2
 have c3:w0.cell? ⟨bl,3,none⟩=_:=hr0.cell 3
 have c4:w0.cell? ⟨bl,4,none⟩=_:=hr0.cell 4
 have c5:w0.cell? ⟨bl,5,none⟩=_:=hr0.cell 5
 have c6:w0.cell? ⟨bl,6,none⟩=_:=hr0.cell 6
 have c7:w0.cell? ⟨bl,7,none⟩=_:=hr0.cell 7
 have c8:w0.cell? ⟨bl,8,none⟩=_:=hr0.cell 8
 have hc:=Lh hF
 have HB:=Lh hB
 rw [hw0]at c0 c1 c2 c3 c4 c5 c6 c7 c8
 have HW:=Lh hw0
 clear hr hr0 hB hw0 hF
 go_enter Tryz.func155,Tryz.ntmps155
 go_wp2_with fail
 rw [←HW.out]
 refine(hc.out _).mono ?_
 rintro en w1 ⟨rfl,hb1⟩
 go_wp2
 go_ret
 exact⟨rfl,HB.out.trans (hb1.mono HB.out.size)⟩
theorem fit_any (k:Nat) (hk:k < 4) (a b:Int) (c:Bool) (d e:Int) (f:Bool) (g h:Int) (i:Bool) (bl:Nat) (w:World) (hr:Row w bl 226 (lkC a b c d e f g h i)):
  Calls Tryz.prog 155 #[.agg #[Value.func (.func (sF k)) #[] #[],.func (.func (sG k)) #[] #[]],.pointer (some ⟨bl,0,none⟩)] w fun en w'=>en= .returned (.bool (fitL c i f e k))∧Below w.heap.size w w':=by
 rcases(show k=0∨k=1∨k=2∨k=3 by omega) with rfl | rfl | rfl | rfl
 ·exact fit_gen 222 (sG 0) _ a b c d e f g h i bl w hr (enters_of Tryz.func222 (by kernel_rfl) rfl) (fun W=>fits1_any a b c d e f g h i W)
 ·exact fit_gen 224 (sG 1) _ a b c d e f g h i bl w hr (enters_of Tryz.func224 (by kernel_rfl) rfl) (fun W=>fits3_any a b c d e f g h i W)
 ·exact fit_gen 226 (sG 2) _ a b c d e f g h i bl w hr (enters_of Tryz.func226 (by kernel_rfl) rfl) (fun W=>fits5_any a b c d e f g h i W)
 ·exact fit_gen 229 (sG 3) _ a b c d e f g h i bl w hr (enters_of Tryz.func229 (by kernel_rfl) rfl) (fun W=>fits7_any a b c d e f g h i W)
def tellL (a b d e g h:Int) (k:Nat):Value:=if k=0 then siV 1 a 0 b else if k=1 then siV 2 d g h else if k=2 then siV 3 d 0 e else siV 4 d 0 e
theorem tell_any (k:Nat) (hk:k < 4) (a b:Int) (c:Bool) (d e:Int) (f:Bool) (g h:Int) (i:Bool) (w:World):
  Calls Tryz.prog (sG k) #[lkV a b c d e f g h i] w fun en w'=>en= .returned (tellL a b d e g h k)∧Below w.heap.size w w':=by
 rcases(show k=0∨k=1∨k=2∨k=3 by omega) with rfl | rfl | rfl | rfl
 ·exact site2_any a b c d e f g h i w
 ·exact site4_any a b c d e f g h i w
 ·exact site6_any a b c d e f g h i w
 ·exact site8_any a b c d e f g h i w
theorem enter_tell (k:Nat) (hk:k < 4):∀args w,(callFunc (sG k) args).run Tryz.prog w= .ok (.enter (sG k) args) w:=by
 rcases(show k=0∨k=1∨k=2∨k=3 by omega) with rfl | rfl | rfl | rfl
 ·exact enters_of Tryz.func223 (by kernel_rfl) rfl
 ·exact enters_of Tryz.func225 (by kernel_rfl) rfl
 ·exact enters_of Tryz.func227 (by kernel_rfl) rfl
 ·exact enters_of Tryz.func230 (by kernel_rfl) rfl
def srO (hold:Nat→Bool):Option Nat:=(List.range 4).find? hold
def srOV:Option Nat→Value
 | some k=> .agg #[Value.func (.func (sF k)) #[] #[],.func (.func (sG k)) #[] #[]]
 | none=> .agg #[.nilFunc,.nilFunc]
theorem srO_some {hold:Nat→Bool} {pre:List Nat} {k:Nat} (hk:pre ++ [k]=List.range (pre.length+1)) (h8:pre.length < 4) (hp:∀y∈pre,hold y=false) (h:hold k=true):srO hold=some k:=by
 have hr:List.range 4=(pre ++ [k]) ++ (List.range 4).drop (pre.length+1):=by
  rw [hk]
  have h2:(List.range 4).take (pre.length+1)=List.range (pre.length+1):=by rw [List.take_range];congr 1;omega
  rw [←h2,List.take_append_drop]
 unfold srO
 rw [hr,List.append_assoc,List.find?_append,List.find?_eq_none.2 (fun x hx=>by rw [hp x hx];decide)]
 simp [h]
theorem srO_none {hold:Nat→Bool} {xs:List Nat} (hx:xs=List.range 4) (hp:∀y∈xs,hold y=false):srO hold=none:=by
 unfold srO
 rw [←hx,List.find?_eq_none]
 intro x hx
 rw [hp x hx]
 decide
section
variable (hold:Nat→Bool) (bl:Nat) (w:World)
abbrev fitV (bl:Nat):Value:= .func (.func 155) #[] #[.pointer (some ⟨bl,0,none⟩)]
def fI (pre:List Nat) (_:Nat→Prop) (V:World):Prop:=
 (∀y∈pre,hold y=false)∧Boxed V w.heap.size 239 (fitV bl)∧Row V (w.heap.size+1) 231 [.nilFunc,.nilFunc]∧
  Row V (w.heap.size+1+1) 231 [.nilFunc,.nilFunc]∧Boxed V (w.heap.size+1+1+1) 4 (.bool false)∧Below w.heap.size w V
def fX (c:Code) (pre':List Nat) (_:Nat→Prop) (V:World):Prop:=
 c= .exit 0∧∃pre k,pre'=pre ++ [k]∧(∀y∈pre,hold y=false)∧hold k=true∧Row V (w.heap.size+1) 231 [.nilFunc,.nilFunc]∧
  Row V (w.heap.size+1+1) 231 [Value.func (.func (sF k)) #[] #[],.func (.func (sG k)) #[] #[]]∧Boxed V (w.heap.size+1+1+1) 4 (.bool true)∧Below w.heap.size w V
end
theorem fI.abid {hold:Nat→Bool} {bl B:Nat} {w:World} (hB:w.heap.size+4≤B):Abid B (fI hold bl w):=by
 rintro s O V V' row ⟨h1,h2,h6,h3,h4,h5⟩ hg hr
 have hne:∀k,k < B→some k≠row:=fun k hk e=>by have:=(hr k e.symm).1;omega
 exact⟨h1,h2.kept hg (hne _ (by omega)),h6.same (hg.block _ h6.lt (hne _ (by omega))),h3.same (hg.block _ h3.lt (hne _ (by omega))),h4.kept hg (hne _ (by omega)),h5.grown hg h5.size (fun r e=>by have:=(hr r e).1;omega)⟩
theorem fX.abid {hold:Nat→Bool} {B:Nat} {w:World} (hB:w.heap.size+4≤B) (c:Code):Abid B (fX hold w c):=by
 rintro s O V V' row ⟨h1,pre,k,e1,h2,h2',h6,h3,h4,h5⟩ hg hr
 have hne:∀k,k < B→some k≠row:=fun k hk e=>by have:=(hr k e.symm).1;omega
 exact⟨h1,pre,k,e1,h2,h2',h6.same (hg.block _ h6.lt (hne _ (by omega))),h3.same (hg.block _ h3.lt (hne _ (by omega))),h4.kept hg (hne _ (by omega)),h5.grown hg h5.size (fun r e=>by have:=(hr r e).1;omega)⟩
theorem first_close {p q:Value} {c:Bool} {w V:World} (h2:Row V (w.heap.size+1) 231 [p,q]) (hb:Below w.heap.size w V)
  (tmps:Array Value) (t4:tmps[4]?.getD undef= .pointer (some ⟨w.heap.size+1,0,none⟩)) (t5:tmps[5]?.getD undef= .bool c):
  ∃v,(results Tryz.f152 tmps).run Tryz.prog (V.putObj (w.heap.size+4) (.deferred none))= .ok v (V.putObj (w.heap.size+4) (.deferred none))∧
   (Ending.returned v= .returned (.tuple #[.agg #[p,q],.bool c])∧Below w.heap.size w (V.putObj (w.heap.size+4) (.deferred none))):=by
 have e1:Row (V.putObj (w.heap.size+4) (.deferred none)) (w.heap.size+1) 231 [p,q]:=h2.same (World.putObj_heap_other (by omega))
 have e3:Below w.heap.size w (V.putObj (w.heap.size+4) (.deferred none)):=hb.grown (putObj_grown V _ _) hb.size (fun r e=>by cases e;omega)
 obtain⟨V',hV'⟩:∃V',V'=V.putObj (w.heap.size+4) (.deferred none):=⟨_,rfl⟩
 rw [←hV']at e1 e3 ⊢
 have c0:V'.cell? ⟨w.heap.size+1,0,none⟩=_:=e1.cell 0
 have c1:V'.cell? ⟨w.heap.size+1,1,none⟩=_:=e1.cell 1
 refine⟨.tuple #[.agg #[p,q],.bool c],?_,rfl,e3⟩
 simp [results,Tryz.results152,go_sem,c0,c1,t4,t5]
theorem first_any (hold:Nat→Bool) (bl bx sl:Nat) (w:World) (ht:Stands w bx sl)
  (hfit:∀k,k < 4→∀W,Below w.heap.size w W→Calls Tryz.prog 155 #[.agg #[Value.func (.func (sF k)) #[] #[],.func (.func (sG k)) #[] #[]],.pointer (some ⟨bl,0,none⟩)] W fun e w'=>e= .returned (.bool (hold k))∧Below W.heap.size W w'):
  Calls Tryz.prog 152 #[.func (.func 221) #[] #[.pointer (some ⟨bx,0,none⟩)],fitV bl] w fun e w'=>
   e= .returned (.tuple #[srOV (srO hold),.bool (srO hold).isSome])∧Below w.heap.size w w':=by
 have HF:=Lh hfit
 clear hfit
 refine calls_marks Tryz.func152 rfl ?_
 simp only [Tryz.ntmps152,List.size_toArray,List.length_cons,List.length_nil,Nat.reduceAdd,Nat.reduceSub,Array.replicate_succ,Array.replicate_zero,List.push_toArray,List.append_toArray,List.nil_append,List.cons_append]
 go_wp2_with fail
 refine wp_scope_jump 0 fun R hR hJm=> ?_
 go_wp2_with fail
 go_step3
 go_wp2_with fail
 obtain⟨w2,hw2⟩:=Nm ((((w.alloc (.cells #[fitV bl] 239)).alloc (.cells #[.nilFunc,.nilFunc] 231)).alloc (.cells #[.nilFunc,.nilFunc] 231)).alloc (.cells #[.bool false] 4))
 have hs2:w2.heap.size=w.heap.size+4:=by rw [hw2];simp
 have hB2:Below w.heap.size w w2:=by rw [hw2];exact(below3 _ _ _ _).alloc (by simp;omega) _
 have ht2:Stands w2 bx sl:=ht.below hB2
 have hX1:Boxed w2 w.heap.size 239 (fitV bl):=by rw [hw2];exact(((Boxed.new w _ _).alloc _).alloc _).alloc _
 have hX0:Row w2 (w.heap.size+1) 231 [.nilFunc,.nilFunc]:=by
  rw [hw2]
  exact((Row.new_at _ 231 [.nilFunc,.nilFunc] (by simp)).below (below1 _ _)).below (below1 _ _)
 have hX2:Row w2 (w.heap.size+1+1) 231 [.nilFunc,.nilFunc]:=by
  rw [hw2]
  exact(Row.new_at _ 231 [.nilFunc,.nilFunc] (by simp)).below (below1 _ _)
 have hX3:Boxed w2 (w.heap.size+1+1+1) 4 (.bool false):=by
  rw [hw2]
  exact Row.new_at _ 4 [.bool false] (by simp)
 have hbx:=ht.box.lt
 have hsl:=ht.row.lt
 have hit:=vals_it bx sl w2 ht2
 rw [←hw2]
 clear hw2
 refine wpIn_wide.1 (wpIn_range_box (gf:=221) (lb:= #[.pointer (some ⟨bx,0,none⟩)]) rfl (enters_of Tryz.func221 (by kernel_rfl) rfl) hit (by rintro k (rfl | rfl);exact ht2.box.lt;exact ht2.row.lt) (fun _=>rfl) (fun _ _ _ _ _ h=>h)
  (fI hold bl w) (fX hold w) (fI.abid (by omega)) (fX.abid (by omega)) ⟨by simp,hX1,hX0,hX2,hX3,hB2⟩
  (fun g x=>{tmps:= #[.func (.func 221) #[] #[.pointer (some ⟨bx,0,none⟩)],fitV bl,undef,.pointer (some ⟨w.heap.size,0,none⟩),.pointer (some ⟨w.heap.size+1,0,none⟩),.bool false,.pointer (some ⟨w.heap.size+1+1,0,none⟩),.pointer (some ⟨w.heap.size+1+1+1,0,none⟩),.pointer (some ⟨g,0,none⟩),.func (.func 221) #[] #[.pointer (some ⟨bx,0,none⟩)],.agg #[Value.func (.func (sF x)) #[] #[],.func (.func (sG x)) #[] #[]],undef,undef,undef,undef,undef,undef],defers:= []})
  (fun x=> .cells #[Value.func (.func (sF x)) #[] #[],.func (.func (sG x)) #[] #[]] 231) ?assign ?body ?done ?stop)
 case assign=>
  intro l' x W' K hK
  simp only [encS]
  gi_wp2
  exact hK
 case body=>
  rintro l' pre x O V hVs hO ⟨hp,hx1,hx0,hx2,hx3,hbl⟩ ⟨hxl,hx8,_⟩ _
  obtain⟨V1,hV1⟩:=Nm (V.alloc (Obj.cells #[Value.func (.func (sF x)) #[] #[],.func (.func (sG x)) #[] #[]] 231))
  have hb1:Below V.heap.size V V1:=by rw [hV1];exact below1 _ _
  have hz1:V1.heap.size=V.heap.size+1:=by rw [hV1];simp
  have hy0:Row V1 V.heap.size 231 [Value.func (.func (sF x)) #[] #[],.func (.func (sG x)) #[] #[]]:=by rw [hV1];exact Row.new _ _ _
  have hy1:Boxed V1 w.heap.size 239 (fitV bl):=(hb1.block _ (by omega)).trans hx1
  have hg:=Lh (HF.out x hx8 V1 (hbl.trans (hb1.mono hbl.size)))
  have e1:=hy1.cell
  have e2:V1.cell? ⟨V.heap.size,0,none⟩=_:=hy0.cell 0
  have e3:V1.cell? ⟨V.heap.size,1,none⟩=_:=hy0.cell 1
  have Hp:=Lh hp
  have Hxl:=Lh hxl
  rw [←hV1]
  clear hV1 hp hxl hX1 hX2 hX3 hX0 hit hy1 HF
  by_cases hh:hold x=true
  ·rw [hh]at hg
   have HH:=Lh hh
   clear hh
   gi_wp2_with fail
   refine⟨trivial,rfl,CallsIn.inRound l' ((callsIn_wide.2 hg.out).mono ?_)⟩
   rintro e w1 ⟨rfl,hb2⟩
   have hB:=hb1.trans (hb2.mono hb1.size)
   have hz0:=hy0.below hb2
   have hz2:Row w1 (w.heap.size+1+1) 231 [.nilFunc,.nilFunc]:=hx2.same (hB.block _ (by omega))
   have hz4:Row w1 (w.heap.size+1) 231 [.nilFunc,.nilFunc]:=hx0.same (hB.block _ (by omega))
   have hz3:Boxed w1 (w.heap.size+1+1+1) 4 (.bool false):=(hB.block _ (by omega)).trans hx3
   have i0:w1.cell? ⟨V.heap.size,0,none⟩=_:=hz0.cell 0
   have i1:w1.cell? ⟨V.heap.size,1,none⟩=_:=hz0.cell 1
   have j0:w1.cell? ⟨w.heap.size+1+1,0,none⟩=_:=hz2.cell 0
   have j1:w1.cell? ⟨w.heap.size+1+1,1,none⟩=_:=hz2.cell 1
   have j2:=hz2.frozen 0
   have j3:=hz2.frozen 1
   have k0:=hz3.cell
   have k1:=hz3.frozen
   obtain⟨W',hW'⟩:∃W',W'=((w1.setCell ⟨w.heap.size+1+1,0,none⟩ (Value.func (.func (sF x)) #[] #[])).setCell ⟨w.heap.size+1+1,1,none⟩ (Value.func (.func (sG x)) #[] #[])).setCell ⟨w.heap.size+1+1+1,0,none⟩ (.bool true):=⟨_,rfl⟩
   have hoth:∀k,k≠w.heap.size+1+1→k≠w.heap.size+1+1+1→W'.heap[k]?=w1.heap[k]?:=fun k h1 h2=>by
    rw [hW',heap_set h2,heap_set h1,heap_set h1]
   have hfin:Hid (Keeps (fun k=>k=bx∨k=sl) w2.heap.size O (fun _=>False) V W'∧fX hold w (.exit 0) (pre ++ [x]) (nextO O (fun _=>False) V W') W'):=Lh (by
    have hws:W'.heap.size=w1.heap.size:=by rw [hW'];simp [World.setCell]
    have hbs:=hB.size
    have hbz:=hbl.size
    refine⟨⟨by omega,fun k hk hp=> ?_⟩,rfl,pre,x,rfl,Hp.out,HH.out,?_,?_,?_,?_⟩
    ·have h12:k≠w.heap.size+1+1∧k≠w.heap.size+1+1+1:=by
      rcases hp with h | ⟨h,_⟩
      ·have:k < w.heap.size:=by rcases h with h | h <;> omega
       omega
      ·omega
     exact(hoth k h12.1 h12.2).trans (hB.block k hk)
    ·exact hz4.same (hoth _ (by omega) (by omega))
    ·rw [hW']
     exact((hz2.set 0 _).set 1 _).same (heap_set (by omega))
    ·rw [hW']
     refine Boxed.set _ (t:=4) (v:= .bool false) ?_
     exact((heap_set (by omega)).trans (heap_set (by omega))).trans hz3
    ·rw [hW']
     exact(((hbl.trans (hB.mono hbz)).setCell (by simp;omega) _).setCell (by simp;omega) _).setCell (by simp;omega) _)
   rw [hW']at hfin
   clear hW' hoth
   gi_wp2
   exact hfin.out
  ·have hh2:hold x=false:=by simpa using hh
   have HH:=Lh hh2
   rw [hh2]at hg
   clear hh hh2
   gi_wp2_with fail
   refine⟨trivial,rfl,CallsIn.inRound l' ((callsIn_wide.2 hg.out).mono ?_)⟩
   rintro e w1 ⟨rfl,hb2⟩
   have hB:=hb1.trans (hb2.mono hb1.size)
   have hfin:Hid (Keeps (fun k=>k=bx∨k=sl) w2.heap.size O (fun _=>False) V w1∧fI hold bl w (pre ++ [x]) (nextO O (fun _=>False) V w1) w1):=Lh (by
    have hbz:=hbl.size
    refine⟨⟨hB.size,fun k hk _=>hB.block k hk⟩,fun y hy=> ?_,(hB.block _ (by omega)).trans hx1,hx0.same (hB.block _ (by omega)),hx2.same (hB.block _ (by omega)),(hB.block _ (by omega)).trans hx3,hbl.trans (hB.mono hbz)⟩
    rcases List.mem_append.1 hy with h | h
    ·exact Hp.out y h
    ·rw [List.mem_singleton.1 h];exact HH.out)
   gi_wp2
   exact hfin.out
 case done=>
  rintro xs O V hall ⟨hp,hx1,hx0,hx2,hx3,hbl⟩ hD
  have hcl:=Lh (srO_none hall hp)
  have j0:V.cell? ⟨w.heap.size+1+1,0,none⟩=_:=hx2.cell 0
  have j1:V.cell? ⟨w.heap.size+1+1,1,none⟩=_:=hx2.cell 1
  have k0:V.cell? ⟨w.heap.size+1+1+1,0,none⟩=_:=hx3.cell
  have r0:V.cell? ⟨w.heap.size+1,0,none⟩=_:=hx0.cell 0
  have r1:V.cell? ⟨w.heap.size+1,1,none⟩=_:=hx0.cell 1
  have r2:=hx0.frozen 0
  have r3:=hx0.frozen 1
  have HX0:=Lh hx0
  have HBL:=Lh hbl
  have HD:=Lh hD
  have HSA:=Lh (show ∀v v':Value,(((V.drew.setCell ⟨w.heap.size+1,0,none⟩ v).setCell ⟨w.heap.size+1,1,none⟩ v').cell? ⟨w.heap.size+1+1,0,none⟩=some (.nilFunc)∧((V.drew.setCell ⟨w.heap.size+1,0,none⟩ v).setCell ⟨w.heap.size+1,1,none⟩ v').cell? ⟨w.heap.size+1+1,1,none⟩=some (.nilFunc))∧((V.drew.setCell ⟨w.heap.size+1,0,none⟩ v).setCell ⟨w.heap.size+1,1,none⟩ v').cell? ⟨w.heap.size+1+1+1,0,none⟩=some (.bool false) from fun v v'=>
   ⟨⟨(World.cell?_setCell_other _ _ _ _ (fun e=>by injection e;omega)).trans ((World.cell?_setCell_other _ _ _ _ (fun e=>by injection e;omega)).trans j0),(World.cell?_setCell_other _ _ _ _ (fun e=>by injection e;omega)).trans ((World.cell?_setCell_other _ _ _ _ (fun e=>by injection e;omega)).trans j1)⟩,(World.cell?_setCell_other _ _ _ _ (fun e=>by injection e;omega)).trans ((World.cell?_setCell_other _ _ _ _ (fun e=>by injection e;omega)).trans k0)⟩)
  clear hit hX1 hX2 hX3 hX0 hp hx0 hx2 hx3 hbl hD HF
  go_wp2_with fail
  go_region_held3 (fun W=>W.cell? ⟨w.heap.size+1+1,0,none⟩=some (.nilFunc)∧W.cell? ⟨w.heap.size+1+1,1,none⟩=some (.nilFunc)∧W.cell? ⟨w.heap.size+1+1+1,0,none⟩=some (.bool false)) (first | exact⟨j0,j1,k0⟩ | exact⟨(HSA.out _ _).1.1,(HSA.out _ _).1.2,(HSA.out _ _).2⟩) (fail)
  all_goals
   obtain⟨W',hW'⟩:∃W',W'=((V.setCell ⟨w.heap.size+1,0,none⟩ (.nilFunc)).setCell ⟨w.heap.size+1,1,none⟩ (.nilFunc)).drew:=⟨_,rfl⟩
   have hR2:Row W' (w.heap.size+1) 231 [.nilFunc,.nilFunc]:=by rw [hW'];exact(HX0.out.set 0 (.nilFunc)).set 1 (.nilFunc)
   have hB2:Below w.heap.size w W':=by rw [hW'];exact((HBL.out.setCell (by simp) _).setCell (by simp) _).drew
   have hD2:W'.heap[w.heap.size+4]?=some (.deferred (some [])):=by
    have h9:=HD.out
    rw [hs2]at h9
    rw [hW']
    exact(heap_set (by omega)).trans ((heap_set (by omega)).trans h9)
   have hres:=Lh (first_close (c:=false) hR2 hB2)
   rw [←hW']
   clear hW' hR2 hB2 j0 j1 k0 r0 r1 r2 r3
   go_wp2
   refine hR.out _ _ _ _ (by simp) ?_
   refine⟨by simp,.inl ⟨_,_,rfl,run_takeDeferred hD2,?_⟩⟩
   rw [hcl.out]
   exact hres.out _ rfl rfl
 case stop=>
  rintro c' pre' O V hall ⟨rfl,pre,k,rfl,hp,hk,hx0,hx2,hx3,hbl⟩ hD
  have hcl:=Lh (show srO hold=some k from srO_some (by have:=hall.1;simpa using this) (by have:=hall.2;simp at this;omega) hp hk)
  clear hk
  refine wpIn_wide.2 ?_
  have j0:V.cell? ⟨w.heap.size+1+1,0,none⟩=_:=hx2.cell 0
  have j1:V.cell? ⟨w.heap.size+1+1,1,none⟩=_:=hx2.cell 1
  have k0:V.cell? ⟨w.heap.size+1+1+1,0,none⟩=_:=hx3.cell
  have r0:V.cell? ⟨w.heap.size+1,0,none⟩=_:=hx0.cell 0
  have r1:V.cell? ⟨w.heap.size+1,1,none⟩=_:=hx0.cell 1
  have r2:=hx0.frozen 0
  have r3:=hx0.frozen 1
  have HX0:=Lh hx0
  have HBL:=Lh hbl
  have HD:=Lh hD
  have HSA:=Lh (show ∀v v':Value,(((V.drew.setCell ⟨w.heap.size+1,0,none⟩ v).setCell ⟨w.heap.size+1,1,none⟩ v').cell? ⟨w.heap.size+1+1,0,none⟩=some (Value.func (.func (sF k)) #[] #[])∧((V.drew.setCell ⟨w.heap.size+1,0,none⟩ v).setCell ⟨w.heap.size+1,1,none⟩ v').cell? ⟨w.heap.size+1+1,1,none⟩=some (Value.func (.func (sG k)) #[] #[]))∧((V.drew.setCell ⟨w.heap.size+1,0,none⟩ v).setCell ⟨w.heap.size+1,1,none⟩ v').cell? ⟨w.heap.size+1+1+1,0,none⟩=some (.bool true) from fun v v'=>
   ⟨⟨(World.cell?_setCell_other _ _ _ _ (fun e=>by injection e;omega)).trans ((World.cell?_setCell_other _ _ _ _ (fun e=>by injection e;omega)).trans j0),(World.cell?_setCell_other _ _ _ _ (fun e=>by injection e;omega)).trans ((World.cell?_setCell_other _ _ _ _ (fun e=>by injection e;omega)).trans j1)⟩,(World.cell?_setCell_other _ _ _ _ (fun e=>by injection e;omega)).trans ((World.cell?_setCell_other _ _ _ _ (fun e=>by injection e;omega)).trans k0)⟩)
  clear hit hX1 hX2 hX3 hX0 hp hx0 hx2 hx3 hbl hD HF
  go_wp2_with fail
  go_region_held3 (fun W=>W.cell? ⟨w.heap.size+1+1,0,none⟩=some (Value.func (.func (sF k)) #[] #[])∧W.cell? ⟨w.heap.size+1+1,1,none⟩=some (Value.func (.func (sG k)) #[] #[])∧W.cell? ⟨w.heap.size+1+1+1,0,none⟩=some (.bool true)) (first | exact⟨j0,j1,k0⟩ | exact⟨(HSA.out _ _).1.1,(HSA.out _ _).1.2,(HSA.out _ _).2⟩) (fail)
  all_goals
   obtain⟨W',hW'⟩:∃W',W'=((V.setCell ⟨w.heap.size+1,0,none⟩ (Value.func (.func (sF k)) #[] #[])).setCell ⟨w.heap.size+1,1,none⟩ (Value.func (.func (sG k)) #[] #[])).drew:=⟨_,rfl⟩
   have hR2:Row W' (w.heap.size+1) 231 [Value.func (.func (sF k)) #[] #[],.func (.func (sG k)) #[] #[]]:=by rw [hW'];exact(HX0.out.set 0 (Value.func (.func (sF k)) #[] #[])).set 1 (Value.func (.func (sG k)) #[] #[])
   have hB2:Below w.heap.size w W':=by rw [hW'];exact((HBL.out.setCell (by simp) _).setCell (by simp) _).drew
   have hD2:W'.heap[w.heap.size+4]?=some (.deferred (some [])):=by
    have h9:=HD.out
    rw [hs2]at h9
    rw [hW']
    exact(heap_set (by omega)).trans ((heap_set (by omega)).trans h9)
   have hres:=Lh (first_close (c:=true) hR2 hB2)
   rw [←hW']
   clear hW' hR2 hB2 j0 j1 k0 r0 r1 r2 r3
   go_wp2
   refine hR.out _ _ _ _ (by simp) ?_
   refine⟨by simp,.inl ⟨_,_,rfl,run_takeDeferred hD2,?_⟩⟩
   rw [hcl.out]
   exact hres.out _ rfl rfl
def tellO (a b d e g h:Int):Option Nat→Value
 | some k=>tellL a b d e g h k
 | none=>siV 0 0 0 0
def holdN (n:Nat):Nat→Bool:=fitL (bookO n).isSome (regiO n).isSome (windO n).isSome (sB (windO n):Int)
def siteV (n:Nat):Value:=tellO (sA (bookO n):Int) (sB (bookO n):Int) (sA (windO n):Int) (sB (windO n):Int) (sA (regiO n):Int) (sB (regiO n):Int) (srO (holdN n))
theorem srO_lt {hold:Nat→Bool} {k:Nat} (h:srO hold=some k):k < 4:=by
 have:=List.mem_of_find?_eq_some h
 simpa using this
theorem tellL_si (a b d e g h:Int) (k:Nat):∃x y z t:Int,tellL a b d e g h k=siV x y z t:=by
 unfold tellL
 split
 ·exact⟨_,_,_,_,rfl⟩
 ·split
  ·exact⟨_,_,_,_,rfl⟩
  ·split
   ·exact⟨_,_,_,_,rfl⟩
   ·exact⟨_,_,_,_,rfl⟩
theorem siteOf_none (n:Nat) (w:World) (hn:n < 1000000) (ho:srO (holdN n)=none):Calls Tryz.prog 75 #[.int .i64 (n:Int)] w fun en w'=>en= .returned (siteV n)∧Below w.heap.size w w':=by
 have hla:=Lh (fun w=>lookAt_any n w hn)
 rw [lookV]at hla
 rw [siteV,ho,show ∀a b d e g h:Int,tellO a b d e g h none=siV 0 0 0 0 from fun _ _ _ _ _ _=>rfl]
 rw [holdN]at ho
 obtain⟨a,ha⟩:=Nm (sA (bookO n))
 obtain⟨b,hb'⟩:∃b,b=sB (bookO n):=⟨_,rfl⟩
 obtain⟨c,hc⟩:=Nm ((bookO n).isSome)
 obtain⟨d,hd⟩:∃a,a=sA (windO n):=⟨_,rfl⟩
 obtain⟨e,he⟩:∃b,b=sB (windO n):=⟨_,rfl⟩
 obtain⟨f,hf⟩:∃c,c=(windO n).isSome:=⟨_,rfl⟩
 obtain⟨g,hg⟩:∃a,a=sA (regiO n):=⟨_,rfl⟩
 obtain⟨h,hh⟩:∃b,b=sB (regiO n):=⟨_,rfl⟩
 obtain⟨i,hi⟩:∃c,c=(regiO n).isSome:=⟨_,rfl⟩
 rw [←ha,←hb',←hc,←hd,←he,←hf,←hg,←hh,←hi]at hla
 rw [←hc,←he,←hf,←hi]at ho
 skip
 clear ha hb' hc hd he hf hg hh hi hn
 have e0:srOV none= .agg #[.nilFunc,.nilFunc]:=rfl
 have e1:(none:Option Nat).isSome=false:=rfl
 go_enter Tryz.func75,Tryz.ntmps75
 go_wp2_with fail
 refine wp_scope_jump 1 fun R hR hG=> ?_
 go_wp2_with fail
 refine(hla.out _).mono ?_
 rintro en w1 ⟨rfl,hb1⟩
 clear hla
 go_wp2_with fail
 obtain⟨w2,hw2⟩:=Nm (w1.alloc (.cells #[.int .i64 (a:Int),.int .i64 (b:Int),.bool c,.int .i64 (d:Int),.int .i64 (e:Int),.bool f,.int .i64 (g:Int),.int .i64 (h:Int),.bool i] 226))
 have hs1:=hb1.size
 simp at hs1
 have R1:Row w1 w.heap.size 89 [.int .i64 0,.int .i64 0,.int .i64 0,.int .i64 0]:=(Row.new w 89 [.int .i64 0,.int .i64 0,.int .i64 0,.int .i64 0]).below hb1
 have B1:Below w.heap.size w w1:=(below1 _ _).trans (hb1.mono (by simp))
 have R2:=R1.below (show Below w1.heap.size w1 w2 by rw [hw2];exact below1 _ _)
 have B2:Below w.heap.size w w2:=by rw [hw2];exact B1.alloc B1.size _
 have L2:Row w2 w1.heap.size 226 (lkC a b c d e f g h i):=by rw [hw2];exact Row.new _ _ _
 rw [←hw2]
 clear hw2 hb1 R1 B1
 obtain⟨lb,hlb⟩:=Nm (w1.heap.size)
 rw [←hlb]at L2 ⊢
 have hlbw:w.heap.size < lb:=by omega
 clear hlb hs1
 refine(sorts_any _).mono ?_
 rintro en w3 ⟨rfl,h3⟩
 obtain⟨sl,hsl⟩:=Nm (w2.heap.size)
 have b3:Below w2.heap.size w2 w3:=by rw [h3];exact below1 _ _
 have S3:Row w3 sl 231 sortC:=by rw [h3,hsl];exact Row.new _ _ _
 rw [←hsl]
 clear h3
 go_wp2_with fail
 refine(values_any _ _ _ _).mono ?_
 rintro en w4 ⟨rfl,h4⟩
 obtain⟨bx,hbx⟩:=Nm (w3.heap.size)
 have b4:Below w3.heap.size w3 w4:=by rw [h4];exact below1 _ _
 have T4:Stands w4 bx sl:=⟨by rw [h4,hbx,hsl];exact Row.new w3 237 [.slice (some ⟨w2.heap.size,0,none⟩) 4 4],S3.below b4⟩
 rw [←hbx]
 have R4:=(R2.below b3).below b4
 have L4:=(L2.below b3).below b4
 have B4:Below w.heap.size w w4:=(B2.trans (b3.mono B2.size)).trans (b4.mono (Nat.le_trans B2.size b3.size))
 clear h4 S3 hbx hsl b3 b4 R2 L2 B2
 go_wp2_with fail
 refine(first_any (fitL c i f (e:Int)) lb bx sl w4 T4 (fun k hk W hW=>fit_any k hk a b c d e f g h i lb W (L4.below hW))).mono ?_
 rintro en w5 ⟨rfl,hb5⟩
 have R5:=R4.below hb5
 have L5:=L4.below hb5
 have B5:=B4.trans (hb5.mono B4.size)
 clear R4 L4 B4 hb5 T4
 rw [ho,e0,e1]
 clear e0 e1
 go_wp2_with fail
 refine wp_goto (hG.out _ _ _ _ _ rfl ?_)
 obtain⟨w6,hw6⟩:=Nm (w5.alloc (.cells #[.nilFunc,.nilFunc] 231))
 have R6:=R5.below (show Below w5.heap.size w5 w6 by rw [hw6];exact below1 _ _)
 have B6:Below w.heap.size w w6:=by rw [hw6];exact B5.alloc B5.size _
 rw [←hw6]
 clear hw6 R5 B5 L5
 have c0:w6.cell? ⟨w.heap.size,0,none⟩=_:=R6.cell 0
 have c1:w6.cell? ⟨w.heap.size,1,none⟩=_:=R6.cell 1
 have c2:w6.cell? ⟨w.heap.size,2,none⟩=_:=R6.cell 2
 have c3:w6.cell? ⟨w.heap.size,3,none⟩=_:=R6.cell 3
 have f0:w6.frozen? ⟨w.heap.size,0,none⟩=false:=R6.frozen 0
 have f1:w6.frozen? ⟨w.heap.size,1,none⟩=false:=R6.frozen 1
 have f2:w6.frozen? ⟨w.heap.size,2,none⟩=false:=R6.frozen 2
 have f3:w6.frozen? ⟨w.heap.size,3,none⟩=false:=R6.frozen 3
 have HR:=Lh R6
 have HB:=Lh B6
 clear R6 B6
 go_wp2
 refine hR.out _ _ _ _ (by simp) ?_
 have R7:=row_set4 (.int .i64 0) (.int .i64 0) (.int .i64 0) (.int .i64 0) HR.out
 have B7:=below_set4 (b:=w.heap.size) (.int .i64 0) (.int .i64 0) (.int .i64 0) (.int .i64 0) HB.out Lr
 clear c0 c1 c2 c3 f0 f1 f2 f3
 have d0:=R7.cell 0
 have d1:=R7.cell 1
 have d2:=R7.cell 2
 have d3:=R7.cell 3
 exact bodyPost_ret (v:=siV 0 0 0 0) (by simp [results,Tryz.results75,go_sem,d0,d1,d2,d3]) rfl ⟨rfl,B7⟩
theorem siteOf_some (n k:Nat) (w:World) (hn:n < 1000000) (ho:srO (holdN n)=some k):Calls Tryz.prog 75 #[.int .i64 (n:Int)] w fun en w'=>en= .returned (siteV n)∧Below w.heap.size w w':=by
 have hk:=srO_lt ho
 have hla:=Lh (fun w=>lookAt_any n w hn)
 rw [lookV]at hla
 rw [siteV,ho,show ∀a b d e g h:Int,tellO a b d e g h (some k)=tellL a b d e g h k from fun _ _ _ _ _ _=>rfl]
 rw [holdN]at ho
 obtain⟨a,ha⟩:=Nm (sA (bookO n))
 obtain⟨b,hb'⟩:∃b,b=sB (bookO n):=⟨_,rfl⟩
 obtain⟨c,hc⟩:=Nm ((bookO n).isSome)
 obtain⟨d,hd⟩:∃a,a=sA (windO n):=⟨_,rfl⟩
 obtain⟨e,he⟩:∃b,b=sB (windO n):=⟨_,rfl⟩
 obtain⟨f,hf⟩:∃c,c=(windO n).isSome:=⟨_,rfl⟩
 obtain⟨g,hg⟩:∃a,a=sA (regiO n):=⟨_,rfl⟩
 obtain⟨h,hh⟩:∃b,b=sB (regiO n):=⟨_,rfl⟩
 obtain⟨i,hi⟩:∃c,c=(regiO n).isSome:=⟨_,rfl⟩
 rw [←ha,←hb',←hc,←hd,←he,←hf,←hg,←hh,←hi]at hla
 rw [←hc,←he,←hf,←hi]at ho
 rw [←ha,←hb',←hd,←he,←hg,←hh]
 clear ha hb' hc hd he hf hg hh hi hn
 obtain⟨x,y,z,t,hv⟩:=tellL_si (a:Int) b d e g h k
 have htl:=Lh (fun w=>tell_any k hk (a:Int) b c d e f g h i w)
 have egk:=enter_tell k hk
 obtain⟨G,hGG⟩:=Nm (sG k)
 obtain⟨F,hFF⟩:=Nm (sF k)
 rw [hv]at htl ⊢
 rw [←hGG]at htl egk
 have e0:srOV (some k)= .agg #[Value.func (.func F) #[] #[],.func (.func G) #[] #[]]:=by rw [hGG,hFF];rfl
 have e1:(some k:Option Nat).isSome=true:=rfl
 clear hv hGG hFF hk
 go_enter Tryz.func75,Tryz.ntmps75
 go_wp2_with fail
 refine wp_scope_jump 1 fun R hR hG=> ?_
 go_wp2_with fail
 refine(hla.out _).mono ?_
 rintro en w1 ⟨rfl,hb1⟩
 clear hla
 go_wp2_with fail
 obtain⟨w2,hw2⟩:=Nm (w1.alloc (.cells #[.int .i64 (a:Int),.int .i64 (b:Int),.bool c,.int .i64 (d:Int),.int .i64 (e:Int),.bool f,.int .i64 (g:Int),.int .i64 (h:Int),.bool i] 226))
 have hs1:=hb1.size
 simp at hs1
 have R1:Row w1 w.heap.size 89 [.int .i64 0,.int .i64 0,.int .i64 0,.int .i64 0]:=(Row.new w 89 [.int .i64 0,.int .i64 0,.int .i64 0,.int .i64 0]).below hb1
 have B1:Below w.heap.size w w1:=(below1 _ _).trans (hb1.mono (by simp))
 have R2:=R1.below (show Below w1.heap.size w1 w2 by rw [hw2];exact below1 _ _)
 have B2:Below w.heap.size w w2:=by rw [hw2];exact B1.alloc B1.size _
 have L2:Row w2 w1.heap.size 226 (lkC a b c d e f g h i):=by rw [hw2];exact Row.new _ _ _
 rw [←hw2]
 clear hw2 hb1 R1 B1
 obtain⟨lb,hlb⟩:=Nm (w1.heap.size)
 rw [←hlb]at L2 ⊢
 have hlbw:w.heap.size < lb:=by omega
 clear hlb hs1
 refine(sorts_any _).mono ?_
 rintro en w3 ⟨rfl,h3⟩
 obtain⟨sl,hsl⟩:=Nm (w2.heap.size)
 have b3:Below w2.heap.size w2 w3:=by rw [h3];exact below1 _ _
 have S3:Row w3 sl 231 sortC:=by rw [h3,hsl];exact Row.new _ _ _
 rw [←hsl]
 clear h3
 go_wp2_with fail
 refine(values_any _ _ _ _).mono ?_
 rintro en w4 ⟨rfl,h4⟩
 obtain⟨bx,hbx⟩:=Nm (w3.heap.size)
 have b4:Below w3.heap.size w3 w4:=by rw [h4];exact below1 _ _
 have T4:Stands w4 bx sl:=⟨by rw [h4,hbx,hsl];exact Row.new w3 237 [.slice (some ⟨w2.heap.size,0,none⟩) 4 4],S3.below b4⟩
 rw [←hbx]
 have R4:=(R2.below b3).below b4
 have L4:=(L2.below b3).below b4
 have B4:Below w.heap.size w w4:=(B2.trans (b3.mono B2.size)).trans (b4.mono (Nat.le_trans B2.size b3.size))
 clear h4 S3 hbx hsl b3 b4 R2 L2 B2
 go_wp2_with fail
 refine(first_any (fitL c i f (e:Int)) lb bx sl w4 T4 (fun k hk W hW=>fit_any k hk a b c d e f g h i lb W (L4.below hW))).mono ?_
 rintro en w5 ⟨rfl,hb5⟩
 have R5:=R4.below hb5
 have L5:=L4.below hb5
 have B5:=B4.trans (hb5.mono B4.size)
 clear R4 L4 B4 hb5 T4
 rw [ho,e0,e1]
 clear e0 e1
 have hlt5:=L5.lt
 obtain⟨w6,hw6⟩:=Nm (w5.alloc (.cells #[Value.func (.func F) #[] #[],.func (.func G) #[] #[]] 231))
 have L6:=L5.below (show Below w5.heap.size w5 w6 by rw [hw6];exact below1 _ _)
 have R6:=R5.below (show Below w5.heap.size w5 w6 by rw [hw6];exact below1 _ _)
 have B6:Below w.heap.size w w6:=by rw [hw6];exact B5.alloc B5.size _
 have l0:w6.cell? ⟨lb,0,none⟩=_:=L6.cell 0
 have l1:w6.cell? ⟨lb,1,none⟩=_:=L6.cell 1
 have l2:w6.cell? ⟨lb,2,none⟩=_:=L6.cell 2
 have l3:w6.cell? ⟨lb,3,none⟩=_:=L6.cell 3
 have l4:w6.cell? ⟨lb,4,none⟩=_:=L6.cell 4
 have l5:w6.cell? ⟨lb,5,none⟩=_:=L6.cell 5
 have l6:w6.cell? ⟨lb,6,none⟩=_:=L6.cell 6
 have l7:w6.cell? ⟨lb,7,none⟩=_:=L6.cell 7
 have l8:w6.cell? ⟨lb,8,none⟩=_:=L6.cell 8
 rw [hw6]at l0 l1 l2 l3 l4 l5 l6 l7 l8
 clear hlt5 L5 R5 B5
 go_wp2_with fail
 refine(htl.out _).mono ?_
 rintro en w7 ⟨rfl,hb7⟩
 rw [←hw6]at hb7
 have R7:=R6.below hb7
 have B7:=B6.trans (hb7.mono B6.size)
 clear l0 l1 l2 l3 l4 l5 l6 l7 l8 hb7 R6 B6 L6 hw6
 have c0:w7.cell? ⟨w.heap.size,0,none⟩=_:=R7.cell 0
 have c1:w7.cell? ⟨w.heap.size,1,none⟩=_:=R7.cell 1
 have c2:w7.cell? ⟨w.heap.size,2,none⟩=_:=R7.cell 2
 have c3:w7.cell? ⟨w.heap.size,3,none⟩=_:=R7.cell 3
 have f0:w7.frozen? ⟨w.heap.size,0,none⟩=false:=R7.frozen 0
 have f1:w7.frozen? ⟨w.heap.size,1,none⟩=false:=R7.frozen 1
 have f2:w7.frozen? ⟨w.heap.size,2,none⟩=false:=R7.frozen 2
 have f3:w7.frozen? ⟨w.heap.size,3,none⟩=false:=R7.frozen 3
 have HR:=Lh R7
 have HB:=Lh B7
 clear R7 B7
 go_wp2
 refine hR.out _ _ _ _ (by simp) ?_
 have R8:=row_set4 (.int .i64 x) (.int .i64 y) (.int .i64 z) (.int .i64 t) HR.out
 have B8:=below_set4 (b:=w.heap.size) (.int .i64 x) (.int .i64 y) (.int .i64 z) (.int .i64 t) HB.out Lr
 clear c0 c1 c2 c3 f0 f1 f2 f3
 have d0:=R8.cell 0
 have d1:=R8.cell 1
 have d2:=R8.cell 2
 have d3:=R8.cell 3
 exact bodyPost_ret (v:=siV x y z t) (by simp [results,Tryz.results75,go_sem,d0,d1,d2,d3]) rfl ⟨rfl,B8⟩
theorem siteOf_any (n:Nat) (w:World) (hn:n < 1000000):Calls Tryz.prog 75 #[.int .i64 (n:Int)] w fun en w'=>en= .returned (siteV n)∧Below w.heap.size w w':=by
 rcases h:srO (holdN n) with _ | k
 ·exact siteOf_none n w hn h
 ·exact siteOf_some n k w hn h
def isBook (n:Nat):Prop:=1≤n∧n < 257∧(n - 1) % 64 < 48
def isWin (n:Nat):Prop:=4096≤n∧n < 20480
def isReg (n:Nat):Prop:=isWin n∧1≤n % 4096∧n % 4096≤136∧(n % 4096 - 1) % 17 < 16
instance (n:Nat):Decidable (isBook n):=by unfold isBook;infer_instance
instance (n:Nat):Decidable (isWin n):=by unfold isWin;infer_instance
instance (n:Nat):Decidable (isReg n):=by unfold isReg;infer_instance
def plc (n:Nat):Nat × Nat × Nat × Nat:=
 if isBook n then(1,(n - 1) / 64,0,(n - 1) % 64)
 else if isReg n then(2,n / 4096 - 1,(n % 4096 - 1) / 17,(n % 4096 - 1) % 17)
 else if isWin n then(if 256≤n % 4096 then(3,n / 4096 - 1,0,n % 4096) else(4,n / 4096 - 1,0,n % 4096))
 else(0,0,0,0)
theorem bookO_yes {n:Nat} (h:isBook n):bookO n=some ((n - 1) / 64,(n - 1) % 64):=by
 unfold isBook at h
 unfold bookO fnd
 rw [if_pos (by omega)]
theorem bookO_no {n:Nat} (h:¬isBook n):bookO n=none:=by
 unfold isBook at h
 unfold bookO fnd
 rw [if_neg (by omega)]
theorem windO_yes {n:Nat} (h:isWin n):windO n=some (n / 4096 - 1,n % 4096):=by
 unfold isWin at h
 unfold windO fnd
 rw [if_pos (by omega),show(n - 4096) / 4096=n / 4096 - 1 by omega,show(n - 4096) % 4096=n % 4096 by omega]
theorem windO_no {n:Nat} (h:¬isWin n):windO n=none:=by
 unfold isWin at h
 unfold windO fnd
 rw [if_neg (by omega)]
theorem regiO_yes {n:Nat} (h:isReg n):regiO n=some ((n % 4096 - 1) / 17,(n % 4096 - 1) % 17):=by
 have hw:=windO_yes h.1
 unfold isReg isWin at h
 unfold regiO
 rw [hw]
 simp only
 unfold fnd
 have e:n - (4096*(n / 4096 - 1)+4097)=n % 4096 - 1:=by omega
 rw [e,if_pos (by omega)]
theorem regiO_no {n:Nat} (h:¬isReg n):regiO n=none:=by
 by_cases hw:isWin n
 ·unfold regiO
  rw [windO_yes hw]
  simp only
  unfold fnd
  have h2:=hw
  unfold isReg at h
  unfold isWin at h2
  refine if_neg fun h9=>h ⟨hw,?_⟩
  have e:n - (4096*(n / 4096 - 1)+4097)=n % 4096 - 1:=by omega
  rw [e]at h9
  omega
 ·unfold regiO
  rw [windO_no hw]
theorem srO_cases (hold:Nat→Bool):srO hold=if hold 0 then some 0 else if hold 1 then some 1 else if hold 2 then some 2 else if hold 3 then some 3 else none:=by
 unfold srO
 simp only [show List.range 4= [0,1,2,3] from rfl,List.find?]
 cases hold 0 <;> cases hold 1 <;> cases hold 2 <;> cases hold 3 <;> rfl
theorem siteV_eq (n:Nat):siteV n=siV ((plc n).1:Int) ((plc n).2.1:Int) ((plc n).2.2.1:Int) ((plc n).2.2.2:Int):=by
 unfold siteV
 rw [srO_cases]
 have h0:holdN n 0=(bookO n).isSome:=rfl
 have h1:holdN n 1=(regiO n).isSome:=rfl
 have h2:holdN n 2=((windO n).isSome && decide (256≤(sB (windO n):Int))):=rfl
 have h3:holdN n 3=(windO n).isSome:=rfl
 unfold plc
 by_cases hb:isBook n
 ·rw [if_pos hb]
  rw [h0,bookO_yes hb]
  rfl
 ·rw [if_neg hb]
  rw [h0,bookO_no hb]
  by_cases hr:isReg n
  ·rw [if_pos hr]
   rw [h1,regiO_yes hr,windO_yes hr.1]
   rfl
  ·rw [if_neg hr]
   rw [h1,regiO_no hr]
   by_cases hw:isWin n
   ·rw [if_pos hw]
    rw [h2,h3,windO_yes hw]
    by_cases h5:256≤n % 4096
    ·rw [if_pos h5,show decide (256≤(sB (some (n / 4096 - 1,n % 4096)):Int))=true from decide_eq_true (by show(256:Int)≤((n % 4096:Nat):Int);omega)]
     rfl
    ·rw [if_neg h5,show decide (256≤(sB (some (n / 4096 - 1,n % 4096)):Int))=false from decide_eq_false (by show ¬(256:Int)≤((n % 4096:Nat):Int);omega)]
     rfl
   ·rw [if_neg hw]
    rw [h2,h3,windO_no hw]
    rfl
theorem of_yes (n:Nat) (w:World) (h:n < 65536):Calls Tryz.prog 34 #[.int .i64 (n:Int)] w fun e w'=>e= .returned (.tuple #[siV ((plc n).1:Int) ((plc n).2.1:Int) ((plc n).2.2.1:Int) ((plc n).2.2.2:Int),.int .i64 0])∧Below w.heap.size w w':=by
 have hb:=Lh (fun w=>below_any (n:Int) 65536 w)
 rw [show isB (n:Int) 65536=true from isB_yes (n:=65536) h]at hb
 have hs:=Lh (fun w=>siteOf_any n w (by omega))
 rw [siteV_eq]at hs
 obtain⟨x,hx⟩:=Nm ((plc n).1)
 obtain⟨y,hy⟩:=Nm ((plc n).2.1)
 obtain⟨z,hz⟩:=Nm ((plc n).2.2.1)
 obtain⟨t,ht⟩:=Nm ((plc n).2.2.2)
 rw [←hx,←hy,←hz,←ht]at hs ⊢
 clear hx hy hz ht h
 go_enter Tryz.func34,Tryz.ntmps34
 go_wp2_with fail
 refine wp_scope_jump 1 fun R hR hG=> ?_
 go_wp2_with fail
 refine(hb.out _).mono ?_
 rintro e w1 ⟨rfl,rfl⟩
 go_wp2_with fail
 refine(hs.out _).mono ?_
 rintro e w2 ⟨rfl,hb2⟩
 have r2:Row w2 w.heap.size 89 [.int .i64 0,.int .i64 0,.int .i64 0,.int .i64 0]:=(Row.new w 89 [.int .i64 0,.int .i64 0,.int .i64 0,.int .i64 0]).below hb2
 have B2:Below w.heap.size w w2:=(below1 _ _).trans (hb2.mono (by simp))
 have c0:w2.cell? ⟨w.heap.size,0,none⟩=_:=r2.cell 0
 have c1:w2.cell? ⟨w.heap.size,1,none⟩=_:=r2.cell 1
 have c2:w2.cell? ⟨w.heap.size,2,none⟩=_:=r2.cell 2
 have c3:w2.cell? ⟨w.heap.size,3,none⟩=_:=r2.cell 3
 have f0:=r2.frozen 0
 have f1:=r2.frozen 1
 have f2:=r2.frozen 2
 have f3:=r2.frozen 3
 have HR:=Lh r2
 have HB:=Lh B2
 clear r2 B2 hb2
 go_wp2
 refine hR.out _ _ _ _ (by simp) ?_
 have R8:=row_set4 (.int .i64 (x:Int)) (.int .i64 (y:Int)) (.int .i64 (z:Int)) (.int .i64 (t:Int)) HR.out
 have B8:=below_set4 (b:=w.heap.size) (.int .i64 (x:Int)) (.int .i64 (y:Int)) (.int .i64 (z:Int)) (.int .i64 (t:Int)) HB.out Lr
 clear c0 c1 c2 c3 f0 f1 f2 f3
 have d0:=R8.cell 0
 have d1:=R8.cell 1
 have d2:=R8.cell 2
 have d3:=R8.cell 3
 exact bodyPost_ret (v:= .tuple #[siV x y z t,.int .i64 0]) (by simp [results,Tryz.results34,go_sem,d0,d1,d2,d3]) rfl ⟨rfl,B8⟩
end Go.Proofs.YtfcfbcjiijfjgaaGreatDoor.Wn
