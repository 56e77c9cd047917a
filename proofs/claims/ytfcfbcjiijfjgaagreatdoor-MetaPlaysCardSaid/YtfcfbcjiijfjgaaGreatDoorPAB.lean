import Derived.Test.YtfcfbcjiijfjgaaGreatDoorPAA
import Derived.Deep.RegionHeld3
import Derived.BigQuiet
import Derived.OrdersIn
set_option maxHeartbeats 1000000
namespace Go.Proofs.YtfcfbcjiijfjgaaGreatDoor
open Go.RowKit
section
variable {P:Program} {md:Region.Mode} {ops:Array Oper} {Q:Exit→Act→World→Prop} {S:World→Prop} {fuel:Nat} {L:Array Bool} {a:Act} {w:World} {o:Oper}
theorem tkH {v:Value} (i:Nat) (hS:S w) (h:wpAnyH P md ops Q S fuel (L.setIfInBounds i true) (a.put o.dst v) w)
  (hi:ops[i]?=some o:=by exact rfl) (hs:Region.noSelect ops=true:=by kernel_rfl) (hf:Region.free md ops L i=true:=by kernel_rfl) (hr:(Region.ready md ops L).contains i=true:=by kernel_rfl)
  (hQ:∀c a w,Q (.panic c) (a.put o.dst v) w→Q (.panic c) a w:=by exact fun _ _ _ h=>h) (hw:Region.wanted o (yielded ops a.tmps)=true:=by kernel_rfl)
  (hy:∀w,S w→(execOp a.eval o).run P w= .ok (.value v) w:=by(intro w hSw;(try dsimp only at hSw);go_simp;try with_reducible rfl)):wpAnyH P md ops Q S (fuel+1) L a w:=
 wpAnyH_take hi hs hf hr hQ (Or.inl ⟨hw,hy⟩) hS h
theorem rdH (i:Nat)
  (h:∀K':Act→World→Prop,Shut (∀a w,S w→(S w→wpAnyH P md ops Q S fuel (L.setIfInBounds i true) a w)→K' a w)→if Region.wanted o (yielded ops a.tmps)=true then Oper.wp P o a w K' Q else K' (a.put o.dst undef) w)
  (hr:Region.ready md ops L= [i]:=by kernel_rfl) (hi:ops[i]?=some o:=by exact rfl):wpAnyH P md ops Q S (fuel+1) L a w:=
 wpAnyH_ready hr (by simp) (AllReadyH.cons hi h AllReadyH.nil)
end
end Go.Proofs.YtfcfbcjiijfjgaaGreatDoor
namespace Go.Proofs.YtfcfbcjiijfjgaaGreatDoor.Wn
open Go.RowKit
attribute [local go_sem] Oper.semAt_some
abbrev rw4 (a b c d:Int):Value:= .agg #[.int .i64 a,.int .i64 b,.int .i64 c,.int .i64 d]
abbrev tn (s:Int):Value:= .agg #[.int .i64 s]
def isB (n b:Int):Bool:=decide (0≤n) && decide (n < b)
theorem isB_yes {k n:Nat} (h:k < n):isB (k:Int) (n:Int)=true:=by simp [isB];omega
theorem below_any (n b:Int) (w:World):Calls Tryz.prog 74 #[.int .i64 n,.int .i64 b] w fun e w'=>e= .returned (.bool (isB n b))∧w=w':=by
 by_cases h0:0≤n
 ·have e0:decide (0≤n)=true:=decide_eq_true h0
  obtain⟨c,hc⟩:∃c,decide (n < b)=c:=⟨_,rfl⟩
  rw [isB,e0,hc]
  go_enter Tryz.func74,Tryz.ntmps74
  go_wp2
  go_ret
  exact⟨rfl,rfl⟩
 ·have e0:decide (0≤n)=false:=decide_eq_false h0
  rw [isB,e0]
  go_enter Tryz.func74,Tryz.ntmps74
  go_wp2
  go_ret
  exact⟨rfl,rfl⟩
theorem sum_any (a b s:Int) (g:Nat) (w:World) (h:Row w g 3 [.int .i64 a,.int .i64 b]) (ha: -9223372036854775808≤a∧a≤9223372036854775807) (hs:IntKind.i64.wrap (a+b)=s):
  Calls Tryz.prog 145 #[.slice (some ⟨g,0,none⟩) 2 2] w fun e w'=>e= .returned (.int .i64 s)∧w=w':=by
 have c0:w.cell? ⟨g,0,none⟩=some (.int .i64 a):=h.cell 0
 have c1:w.cell? ⟨g,1,none⟩=some (.int .i64 b):=h.cell 1
 have wa:IntKind.i64.wrap a=a:=wrapI a ha.1 ha.2
 clear h ha
 go_enter Tryz.func145,Tryz.ntmps145
 go_wp2_with fail
 go_loopw [3,8] (fun t i V=>((i= .int .i64 0∧t= .int .i64 0)∨(i= .int .i64 1∧t= .int .i64 a)∨(i= .int .i64 2∧t= .int .i64 s))∧V=w) (fun _ i _=>2 - (intOf i).toNat)
 case atStart=>exact⟨.inl ⟨rfl,rfl⟩,rfl⟩
 case round=>
  obtain⟨⟨rfl,rfl⟩ | ⟨rfl,rfl⟩ | ⟨rfl,rfl⟩,rfl⟩:=hrel
  ·go_wp2
   go_roundw
   case rel=>exact⟨.inr (.inl ⟨rfl,rfl⟩),by simp⟩
   case measure=>simp [intOf]
  ·go_wp2
   go_roundw
   case rel=>exact⟨.inr (.inr ⟨rfl,rfl⟩),by simp⟩
   case measure=>simp [intOf]
  ·go_wp2
   go_ret
   exact⟨rfl,rfl⟩
theorem in_any (n f s p r m x:Int) (w:World) (hf: -9223372036854775808≤f∧f≤9223372036854775807) (hm:IntKind.i64.wrap (n*s)=m) (hx:IntKind.i64.wrap (f+m)=x):
  Calls Tryz.prog 143 #[.int .i64 n,rw4 f s p r] w fun e w'=>e= .returned (.int .i64 x)∧Below w.heap.size w w':=by
 have hs:=Lh (fun g w h=>sum_any f m x g w h hf hx)
 clear hf hx
 go_enter Tryz.func143,Tryz.ntmps143
 go_wp2_with fail
 refine(hs.out _ _ (Row.new_at _ 3 [.int .i64 f,.int .i64 m] (by simp))).mono ?_
 rintro e w1 ⟨rfl,rfl⟩
 go_wp2
 go_ret
 exact⟨rfl,below2 _ _ _⟩
theorem windows_any (w:World):Calls Tryz.prog 220 #[] w fun e w'=>e= .returned (rw4 4096 4096 4096 4)∧Below w.heap.size w w':=by
 go_enter Tryz.func220,Tryz.ntmps220
 go_wp2
 exact bodyPost_ret (v:=rw4 4096 4096 4096 4) (by simp [results,Tryz.results220,go_sem]) rfl ⟨rfl,below1 _ _⟩
theorem books_any (w:World):Calls Tryz.prog 218 #[] w fun e w'=>e= .returned (rw4 1 64 48 4)∧Below w.heap.size w w':=by
 go_enter Tryz.func218,Tryz.ntmps218
 go_wp2
 exact bodyPost_ret (v:=rw4 1 64 48 4) (by simp [results,Tryz.results218,go_sem]) rfl ⟨rfl,below1 _ _⟩
theorem beside {f:FuncId} {args:Array Value} {w0 W:World} {v:Value} (h:Calls Tryz.prog f args W fun e w'=>e= .returned v∧Below W.heap.size W w') (hb:Below w0.heap.size w0 W):
  Calls Tryz.prog f args W fun e w'=>e= .returned v∧Below w0.heap.size w0 w':=h.mono fun _ _ hp=>⟨hp.1,hb.trans (hp.2.mono hb.size)⟩
theorem there_any (n:Int) (w:World):Calls Tryz.prog 214 #[tn n] w fun e w'=>e= .returned (.bool (isB n 4))∧Below w.heap.size w w':=by
 have hb:=Lh (fun w=>below_any n 4 w)
 obtain⟨c,hc⟩:∃c,isB n 4=c:=⟨_,rfl⟩
 rw [hc]at hb ⊢
 go_enter Tryz.func214,Tryz.ntmps214
 go_wp2_with fail
 refine(hb.out _).mono ?_
 rintro e w1 ⟨rfl,rfl⟩
 go_wp2
 go_ret
 exact⟨rfl,below1 _ _⟩
theorem twindow_any (k:Nat) (w:World) (hk:k < 4):Calls Tryz.prog 215 #[tn k] w fun e w'=>e= .returned (.int .i64 ((4096*k+4096:Nat):Int))∧Below w.heap.size w w':=by
 obtain⟨w0,hw0⟩:=Nm (w.alloc (.cells #[.int .i64 (k:Int)] 211))
 have q0:w0.cell? ⟨w.heap.size,0,none⟩=some (.int .i64 (k:Int)):=by rw [hw0];exact cell_alloc_new _ _ _ _
 have hB:Below w.heap.size w w0:=by rw [hw0];exact below1 _ _
 have hz:w.heap.size < w0.heap.size:=by rw [hw0];simp
 have HB:=Lh (And.intro hB hz)
 have HSA:=Lh (show ∀V:World,Below w0.heap.size w0 V→V.cell? ⟨w.heap.size,0,none⟩=some (.int .i64 (k:Int))∧Below w0.heap.size w0 V from fun V h=>⟨(h.cell (p:=⟨w.heap.size,0,none⟩) hz).trans q0,h⟩)
 have hrefl:=Lh (Below.refl w0.heap.size w0)
 have hin:=Lh (fun w hb=>beside (w0:=w0) (in_any (k:Int) 4096 4096 4096 4 ((4096*k:Nat):Int) ((4096*k+4096:Nat):Int) w (by omega) ((wrapI _ (by omega) (by omega)).trans (by omega)) ((wrapI _ (by omega) (by omega)).trans (by omega))) hb)
 have hw:=Lh (fun w hb=>beside (w0:=w0) (windows_any w) hb)
 obtain⟨x,hx⟩:=Nm (4096*k+4096)
 rw [←hx]at hin ⊢
 clear hx hk hB hz
 go_enter Tryz.func215,Tryz.ntmps215
 go_wp2_with fail
 rw [←hw0]
 clear hw0
 go_region_held3 (fun W=>W.cell? ⟨w.heap.size,0,none⟩=some (.int .i64 (k:Int))∧Below w0.heap.size w0 W)
  (first | exact HSA.out _ hrefl.out.drew | exact HSA.out _ (by assumption) | exact HSA.out _ (Below.drew (by assumption)) | (go_split_ands;exact HSA.out _ (by assumption)))
  (first | (go_at_call 220;refine(hw.out _ (by go_split_ands;assumption)).mono ?_;rintro e w2 ⟨rfl,hb2⟩) | (go_at_call 143;refine(hin.out _ (by go_split_ands;assumption)).mono ?_;rintro e w3 ⟨rfl,hb3⟩))
 all_goals
  go_wp2
  go_ret
  exact⟨rfl,HB.out.1.trans (hb3.mono HB.out.1.size)⟩
theorem tbook_any (k:Nat) (w:World) (hk:k < 4):Calls Tryz.prog 180 #[tn k] w fun e w'=>e= .returned (.int .i64 ((64*k+1:Nat):Int))∧Below w.heap.size w w':=by
 obtain⟨w0,hw0⟩:=Nm (w.alloc (.cells #[.int .i64 (k:Int)] 211))
 have q0:w0.cell? ⟨w.heap.size,0,none⟩=some (.int .i64 (k:Int)):=by rw [hw0];exact cell_alloc_new _ _ _ _
 have hB:Below w.heap.size w w0:=by rw [hw0];exact below1 _ _
 have hz:w.heap.size < w0.heap.size:=by rw [hw0];simp
 have HB:=Lh (And.intro hB hz)
 have HSA:=Lh (show ∀V:World,Below w0.heap.size w0 V→V.cell? ⟨w.heap.size,0,none⟩=some (.int .i64 (k:Int))∧Below w0.heap.size w0 V from fun V h=>⟨(h.cell (p:=⟨w.heap.size,0,none⟩) hz).trans q0,h⟩)
 have hrefl:=Lh (Below.refl w0.heap.size w0)
 have hin:=Lh (fun w hb=>beside (w0:=w0) (in_any (k:Int) 1 64 48 4 ((64*k:Nat):Int) ((64*k+1:Nat):Int) w (by omega) ((wrapI _ (by omega) (by omega)).trans (by omega)) ((wrapI _ (by omega) (by omega)).trans (by omega))) hb)
 have hw:=Lh (fun w hb=>beside (w0:=w0) (books_any w) hb)
 obtain⟨x,hx⟩:=Nm (64*k+1)
 rw [←hx]at hin ⊢
 clear hx hk hB hz
 go_enter Tryz.func180,Tryz.ntmps180
 go_wp2_with fail
 rw [←hw0]
 clear hw0
 go_region_held3 (fun W=>W.cell? ⟨w.heap.size,0,none⟩=some (.int .i64 (k:Int))∧Below w0.heap.size w0 W)
  (first | exact HSA.out _ hrefl.out.drew | exact HSA.out _ (by assumption) | exact HSA.out _ (Below.drew (by assumption)) | (go_split_ands;exact HSA.out _ (by assumption)))
  (first | (go_at_call 218;refine(hw.out _ (by go_split_ands;assumption)).mono ?_;rintro e w2 ⟨rfl,hb2⟩) | (go_at_call 143;refine(hin.out _ (by go_split_ands;assumption)).mono ?_;rintro e w3 ⟨rfl,hb3⟩))
 all_goals
  go_wp2
  go_ret
  exact⟨rfl,HB.out.1.trans (hb3.mono HB.out.1.size)⟩
theorem tregions_any (k:Nat) (w:World) (hk:k < 4):Calls Tryz.prog 144 #[tn k] w fun e w'=>e= .returned (rw4 ((4096*k+4097:Nat):Int) 17 16 8)∧Below w.heap.size w w':=by
 have ht:=Lh (fun w=>twindow_any k w hk)
 have hs:=Lh (fun g w h=>sum_any ((4096*k+4096:Nat):Int) 1 ((4096*k+4097:Nat):Int) g w h (by omega) ((wrapI _ (by omega) (by omega)).trans (by omega)))
 obtain⟨y,hy⟩:∃y:Nat,y=4096*k+4096:=⟨_,rfl⟩
 obtain⟨x,hx⟩:∃x:Nat,x=4096*k+4097:=⟨_,rfl⟩
 rw [←hy]at ht hs
 rw [←hx]at hs ⊢
 clear hx hy hk
 go_enter Tryz.func144,Tryz.ntmps144
 go_wp2_with fail
 refine(ht.out _).mono ?_
 rintro e w1 ⟨rfl,hb1⟩
 have hz1:=hb1.size
 simp at hz1
 have hR:Row w1 (w.heap.size+1) 214 [.int .i64 0,.int .i64 0,.int .i64 0,.int .i64 0]:=(Row.new_at _ _ _ (by simp)).below hb1
 go_wp2_with fail
 refine(hs.out _ _ (Row.new_at _ 3 [.int .i64 (y:Int),.int .i64 1] rfl)).mono ?_
 rintro e w2 ⟨rfl,rfl⟩
 obtain⟨w3,hw3⟩:=Nm (w1.alloc (.cells #[.int .i64 (y:Int),.int .i64 1] 3))
 have hR3:Row w3 (w.heap.size+1) 214 [.int .i64 0,.int .i64 0,.int .i64 0,.int .i64 0]:=by rw [hw3];exact hR.below (below1 _ _)
 have hB:Below w.heap.size w w3:=by rw [hw3];exact((below2 _ _ _).trans (hb1.mono (by simp;omega))).alloc (by omega) _
 have c0:w3.cell? ⟨w.heap.size+1,0,none⟩=some (.int .i64 0):=hR3.cell 0
 have c1:w3.cell? ⟨w.heap.size+1,1,none⟩=some (.int .i64 0):=hR3.cell 1
 have c2:w3.cell? ⟨w.heap.size+1,2,none⟩=some (.int .i64 0):=hR3.cell 2
 have c3:w3.cell? ⟨w.heap.size+1,3,none⟩=some (.int .i64 0):=hR3.cell 3
 have f0:w3.frozen? ⟨w.heap.size+1,0,none⟩=false:=hR3.frozen 0
 have f1:w3.frozen? ⟨w.heap.size+1,1,none⟩=false:=hR3.frozen 1
 have f2:w3.frozen? ⟨w.heap.size+1,2,none⟩=false:=hR3.frozen 2
 have f3:w3.frozen? ⟨w.heap.size+1,3,none⟩=false:=hR3.frozen 3
 have HB:=Lh hB
 clear hR hb1 hs ht hR3 hB
 rw [hw3]at c0 c1 c2 c3 f0 f1 f2 f3
 go_wp2
 rw [←hw3]at c0 c1 c2 c3 f0 f1 f2 f3
 exact bodyPost_ret (v:=rw4 x 17 16 8) (by rw [←hw3];simp [results,Tryz.results144,go_sem,c0,c1,c2,c3]) rfl ⟨rfl,by rw [←hw3];exact(((HB.out.setCell (by simp) _).setCell (by simp) _).setCell (by simp) _).setCell (by simp) _⟩
theorem told_no (n:Int) (g:Nat) (lb:Array Value) (w:World) (hk:isB n 4=false):Calls Tryz.prog 141 #[.int .i64 n,.func (.func g) #[] lb] w fun e w'=>e= .returned (.tuple #[.int .i64 0,.int .i64 2])∧Below w.heap.size w w':=by
 have hth:=Lh (fun w=>there_any n w)
 rw [hk]at hth
 clear hk
 go_enter Tryz.func141,Tryz.ntmps141
 go_wp2_with fail
 refine wp_scope_jump 1 fun R hR hG=> ?_
 go_wp2_with fail
 refine(hth.out _).mono ?_
 rintro e w1 ⟨rfl,hb1⟩
 have hz:=hb1.size
 simp at hz
 go_wp2_with fail
 refine wp_goto (hG.out _ _ _ _ _ rfl ?_)
 go_wp2
 refine hR.out _ _ _ _ (by simp) ?_
 go_ret2
 exact⟨rfl,(below1 _ _).trans (hb1.mono (by simp))⟩
theorem told_yes (k:Nat) (g:Nat) (lb:Array Value) (x:Int) (w:World) (hk:k < 4) (eg:∀args w,(callFunc g args).run Tryz.prog w= .ok (.enter g args) w)
  (hg:∀W,Below w.heap.size w W→Calls Tryz.prog g (#[tn k] ++ lb) W fun e w'=>e= .returned (.int .i64 x)∧Below W.heap.size W w'):
  Calls Tryz.prog 141 #[.int .i64 (k:Int),.func (.func g) #[] lb] w fun e w'=>e= .returned (.tuple #[.int .i64 x,.int .i64 0])∧Below w.heap.size w w':=by
 have hth:=Lh (fun w=>there_any (k:Int) w)
 rw [show((4:Int))=((4:Nat):Int) from rfl,isB_yes hk]at hth
 have hg:=Lh hg
 clear hk
 go_enter Tryz.func141,Tryz.ntmps141
 go_wp2_with fail
 refine wp_scope_jump 1 fun R hR hG=> ?_
 go_wp2_with fail
 refine(hth.out _).mono ?_
 rintro e w1 ⟨rfl,hb1⟩
 have hB1:Below w.heap.size w w1:=(below1 _ _).trans (hb1.mono (by simp))
 have c0:w1.cell? ⟨w.heap.size,0,none⟩=some (.int .i64 (k:Int)):=(hb1.cell (p:=⟨w.heap.size,0,none⟩) (by simp)).trans (cell_alloc_new _ _ _ _)
 go_wp2_with fail
 refine(hg.out _ hB1).mono ?_
 rintro e w2 ⟨rfl,hb2⟩
 go_wp2
 refine hR.out _ _ _ _ (by simp) ?_
 go_ret2
 exact⟨rfl,hB1.trans (hb2.mono hB1.size)⟩
theorem book_no (n:Int) (w:World) (hk:isB n 4=false):Calls Tryz.prog 116 #[.int .i64 n] w fun e w'=>e= .returned (.tuple #[.int .i64 0,.int .i64 2])∧Below w.heap.size w w':=by
 have hg:=Lh (fun g=>told_no n g #[] w hk)
 clear hk
 go_enter Tryz.func116,Tryz.ntmps116
 go_wp2_with fail
 refine(hg.out _).mono ?_
 rintro e w1 ⟨rfl,hb1⟩
 go_wp2
 go_ret2
 exact⟨rfl,hb1⟩
theorem book_yes (k:Nat) (w:World) (hk:k < 4):Calls Tryz.prog 116 #[.int .i64 (k:Int)] w fun e w'=>e= .returned (.tuple #[.int .i64 ((64*k+1:Nat):Int),.int .i64 0])∧Below w.heap.size w w':=by
 have hg:=Lh (told_yes k 180 #[] ((64*k+1:Nat):Int) w hk (enters_of Tryz.func180 (by kernel_rfl) rfl) (fun W _=>tbook_any k W hk))
 obtain⟨x,hx⟩:=Nm (64*k+1)
 rw [←hx]at hg ⊢
 clear hk hx
 go_enter Tryz.func116,Tryz.ntmps116
 go_wp2_with fail
 refine(hg.out).mono ?_
 rintro e w1 ⟨rfl,hb1⟩
 go_wp2
 go_ret2
 exact⟨rfl,hb1⟩
theorem region1_any (k c b:Nat) (w:World) (hk:k < 4) (hc:c < 8) (hb:w.cell? ⟨b,0,none⟩=some (.int .i64 (c:Int))):
  Calls Tryz.prog 142 #[tn k,.pointer (some ⟨b,0,none⟩)] w fun e w'=>e= .returned (.int .i64 ((4096*k+4097+17*c:Nat):Int))∧Below w.heap.size w w':=by
 have hbl:=lt_of_cell hb
 simp only at hbl
 obtain⟨w0,hw0⟩:=Nm (w.alloc (.cells #[.int .i64 (k:Int)] 211))
 have q0:w0.cell? ⟨w.heap.size,0,none⟩=some (.int .i64 (k:Int)):=by rw [hw0];exact cell_alloc_new _ _ _ _
 have hB:Below w.heap.size w w0:=by rw [hw0];exact below1 _ _
 have q1:w0.cell? ⟨b,0,none⟩=some (.int .i64 (c:Int)):=(hB.cell (p:=⟨b,0,none⟩) hbl).trans hb
 have hz:w.heap.size < w0.heap.size:=by rw [hw0];simp
 have HB:=Lh (And.intro hB hz)
 have HSA:=Lh (show ∀V:World,Below w0.heap.size w0 V→V.cell? ⟨b,0,none⟩=some (.int .i64 (c:Int))∧V.cell? ⟨w.heap.size,0,none⟩=some (.int .i64 (k:Int))∧Below w0.heap.size w0 V from fun V h=>⟨(h.cell (p:=⟨b,0,none⟩) (by show b < _;omega)).trans q1,(h.cell (p:=⟨w.heap.size,0,none⟩) hz).trans q0,h⟩)
 have hrefl:=Lh (Below.refl w0.heap.size w0)
 have hin:=Lh (fun w hb=>beside (w0:=w0) (in_any (c:Int) ((4096*k+4097:Nat):Int) 17 16 8 ((17*c:Nat):Int) ((4096*k+4097+17*c:Nat):Int) w (by omega) ((wrapI _ (by omega) (by omega)).trans (by omega)) ((wrapI _ (by omega) (by omega)).trans (by omega))) hb)
 have hr:=Lh (fun w hb=>beside (w0:=w0) (tregions_any k w hk) hb)
 obtain⟨x,hx⟩:=Nm (4096*k+4097+17*c)
 obtain⟨y,hy⟩:=Nm (4096*k+4097)
 rw [←hx]at hin ⊢
 rw [←hy]at hin hr
 clear hx hy hk hc hB hz hb hbl
 go_enter Tryz.func142,Tryz.ntmps142
 go_wp2_with fail
 rw [←hw0]
 clear hw0
 go_region_held3 (fun W=>W.cell? ⟨b,0,none⟩=some (.int .i64 (c:Int))∧W.cell? ⟨w.heap.size,0,none⟩=some (.int .i64 (k:Int))∧Below w0.heap.size w0 W)
  (first | exact HSA.out _ hrefl.out.drew | exact HSA.out _ (by assumption) | exact HSA.out _ (Below.drew (by assumption)) | (go_split_ands;exact HSA.out _ (by assumption)))
  (first | (go_at_call 144;refine(hr.out _ (by go_split_ands;assumption)).mono ?_;rintro e w2 ⟨rfl,hb2⟩) | (go_at_call 143;refine(hin.out _ (by go_split_ands;assumption)).mono ?_;rintro e w3 ⟨rfl,hb3⟩))
 all_goals
  go_wp2
  go_ret
  exact⟨rfl,HB.out.1.trans (hb3.mono HB.out.1.size)⟩
theorem region_noc (n m:Int) (w:World) (hm:isB m 8=false):Calls Tryz.prog 70 #[.int .i64 n,.int .i64 m] w fun e w'=>e= .returned (.tuple #[.int .i64 0,.int .i64 2])∧Below w.heap.size w w':=by
 have hb:=Lh (fun w=>below_any m 8 w)
 rw [hm]at hb
 clear hm
 go_enter Tryz.func70,Tryz.ntmps70
 go_wp2_with fail
 refine wp_scope_jump 1 fun R hR hG=> ?_
 go_wp2_with fail
 refine(hb.out _).mono ?_
 rintro e w1 ⟨rfl,rfl⟩
 go_wp2_with fail
 refine wp_goto (hG.out _ _ _ _ _ rfl ?_)
 go_wp2
 refine hR.out _ _ _ _ (by simp) ?_
 go_ret2
 exact⟨rfl,below1 _ _⟩
theorem region_nos (n:Int) (c:Nat) (w:World) (hc:c < 8) (hn:isB n 4=false):Calls Tryz.prog 70 #[.int .i64 n,.int .i64 (c:Int)] w fun e w'=>e= .returned (.tuple #[.int .i64 0,.int .i64 2])∧Below w.heap.size w w':=by
 have hb:=Lh (fun w=>below_any (c:Int) 8 w)
 rw [show((8:Int))=((8:Nat):Int) from rfl,isB_yes hc]at hb
 have hg:=Lh (fun g lb w=>told_no n g lb w hn)
 clear hc hn
 go_enter Tryz.func70,Tryz.ntmps70
 go_wp2_with fail
 refine wp_scope_jump 1 fun R hR hG=> ?_
 go_wp2_with fail
 refine(hb.out _).mono ?_
 rintro e w1 ⟨rfl,rfl⟩
 go_wp2_with fail
 refine(hg.out _ _ _).mono ?_
 rintro e w1 ⟨rfl,hb1⟩
 go_wp2
 refine hR.out _ _ _ _ (by simp) ?_
 go_ret2
 exact⟨rfl,(below1 _ _).trans (hb1.mono (by simp))⟩
theorem region_yes (k c:Nat) (w:World) (hk:k < 4) (hc:c < 8):Calls Tryz.prog 70 #[.int .i64 (k:Int),.int .i64 (c:Int)] w fun e w'=>e= .returned (.tuple #[.int .i64 ((4096*k+4097+17*c:Nat):Int),.int .i64 0])∧Below w.heap.size w w':=by
 have hb:=Lh (fun w=>below_any (c:Int) 8 w)
 rw [show((8:Int))=((8:Nat):Int) from rfl,isB_yes hc]at hb
 obtain⟨w0,hw0⟩:=Nm (w.alloc (.cells #[.int .i64 (c:Int)] 150))
 have q0:w0.cell? ⟨w.heap.size,0,none⟩=some (.int .i64 (c:Int)):=by rw [hw0];exact cell_alloc_new _ _ _ _
 have hz:w.heap.size < w0.heap.size:=by rw [hw0];simp
 have hB:Below w.heap.size w w0:=by rw [hw0];exact below1 _ _
 have hg:=Lh (told_yes k 142 #[.pointer (some ⟨w.heap.size,0,none⟩)] ((4096*k+4097+17*c:Nat):Int) w0 hk (enters_of Tryz.func142 (by kernel_rfl) rfl)
  (fun W hW=>region1_any k c w.heap.size W hk hc ((hW.cell (p:=⟨w.heap.size,0,none⟩) hz).trans q0)))
 have HB:=Lh hB
 obtain⟨x,hx⟩:=Nm (4096*k+4097+17*c)
 rw [←hx]at hg ⊢
 have c0:=q0
 rw [hw0]at c0
 clear hk hx hc hB hz q0
 go_enter Tryz.func70,Tryz.ntmps70
 go_wp2_with fail
 refine wp_scope_jump 1 fun R hR hG=> ?_
 go_wp2_with fail
 refine(hb.out _).mono ?_
 rintro e w1 ⟨rfl,rfl⟩
 go_wp2_with fail
 rw [←hw0]
 refine(hg.out).mono ?_
 rintro e w1 ⟨rfl,hb1⟩
 go_wp2
 refine hR.out _ _ _ _ (by simp) ?_
 go_ret2
 exact⟨rfl,HB.out.trans (hb1.mono HB.out.size)⟩
end Go.Proofs.YtfcfbcjiijfjgaaGreatDoor.Wn
namespace Go.Proofs.YtfcfbcjiijfjgaaGreatDoor
open Go.RowKit
def cutOk (ops:Array Oper) (m:Nat):Bool:=
 (decide (0 < m) && decide (m≤ops.size)) && (List.range ops.size).all fun j=>match ops[j]? with
  | none=>true
  | some o=>(o.after.all fun e=> !Region.binds .any e || decide (e.on < j)) &&
    ((decide (j < m) || o.after.any fun e=>Region.binds .any e && decide (m≤e.on+1)) &&
    ((decide (m≤j+1) || (List.range m).any fun k=>((ops[k]?).map fun ok=>ok.after.any fun e=>Region.binds .any e && e.on == j).getD false) &&
    (match o.guard with | none=>true | some g=>decide (g.1 < m) || decide (m≤j))))
section
variable {ops:Array Oper} {m:Nat}
theorem cut_size (h:cutOk ops m=true):0 < m∧m≤ops.size:=by
 unfold cutOk at h
 simp only [Bool.and_eq_true,decide_eq_true_eq]at h
 exact h.1
theorem cut_op (h:cutOk ops m=true) {j:Nat} {o:Oper} (ho:ops[j]?=some o):
  (∀e∈o.after,Region.binds .any e=true→e.on < j)∧(j < m∨∃e∈o.after,Region.binds .any e=true∧m≤e.on+1)∧
   (m≤j+1∨∃k,k < m∧∃ok,ops[k]?=some ok∧∃e∈ok.after,Region.binds .any e=true∧e.on=j)∧(∀g,o.guard=some g→g.1 < m∨m≤j):=by
 unfold cutOk at h
 simp only [Bool.and_eq_true,List.all_eq_true,List.mem_range]at h
 have h:=h.2 j (Array.getElem?_eq_some_iff.1 ho).1
 rw [ho]at h
 simp only [Bool.and_eq_true,Bool.or_eq_true,decide_eq_true_eq,Array.all_eq_true',Array.any_eq_true',List.any_eq_true,List.mem_range,Bool.not_eq_true']at h
 obtain⟨h1,h2,h3,h4⟩:=h
 refine⟨fun e he hb=> ?_,?_,?_,fun g hg=> ?_⟩
 ·rcases h1 e he with h | h
  ·rw [hb]at h;cases h
  ·exact h
 ·exact h2
 ·rcases h3 with h | ⟨k,hk,h⟩
  ·exact .inl h
  ·right
   refine⟨k,hk,?_⟩
   cases hok:ops[k]? with
   | none=>rw [hok]at h;simp at h
   | some ok=>
    rw [hok]at h
    simp only [Option.map_some,Option.getD_some,Array.any_eq_true',Bool.and_eq_true,beq_iff_eq]at h
    obtain⟨e,he,hb,hon⟩:=h
    exact⟨ok,rfl,e,he,hb,hon⟩
 ·rw [hg]at h4
  simpa using h4
end
theorem rowsIn_wide {n:Nat} {P:Program} {row:String} {args:Array Value} {w:World} {R:Value→World→Prop} (h:Rows P row args w R):RowsIn Fence.wide n P row args w R:=
 fun c cs _=>let⟨v,w',r,s⟩:=h c cs;⟨v,w',r,stepsIn_wide.2 s⟩
theorem oper_in {n:Nat} {P:Program} {o:Oper} {a:Act} {w:World} {K:Act→World→Prop} {Q Q':Exit→Act→World→Prop} (hp:∀c a w,¬Q (.panic c) a w) (ho:∀a w,¬Q .outgrown a w)
  (h:o.wp P a w K Q):o.wpIn Fence.wide n P a w K Q':=by
 refine⟨fun _ _=>trivial,?_⟩
 rw [show Fence.wide.round=none from rfl,Oper.semAt_none]
 unfold Oper.wp at h
 generalize(execOp a.eval o).run P w=r at h ⊢
 cases r with
 | ok x w'=>
  cases x <;> simp only [Oper.upon]at h <;> simp only [Oper.uponIn]
  case value u=>exact h
  case skip=>exact h
  case defer d=>exact h
  case enter f args=>
   refine⟨fun h=>(by simp [Fence.wide]at h),callsIn_wide.2 (h.mono fun e w'' he=> ?_)⟩
   cases e with
   | returned u=>exact he
   | panicked c=>exact absurd he (hp _ _ _)
   | outgrown=>obtain⟨a',w3,h3⟩:=he;exact absurd h3 (ho _ _)
  case row row args=>exact⟨fun h=>(by simp [Fence.wide]at h),rowsIn_wide h⟩
 | halt x w'=>
  cases x <;> simp only [Oper.upon]at h
  case panic u=>exact absurd h (hp _ _ _)
theorem wpAnyIn_more {F:Fence} {n:Nat} {P:Program} {md:Region.Mode} {ops:Array Oper} {Q:Exit→Act→World→Prop}:∀(fuel:Nat) (L:Array Bool) (a:Act) (w:World),wpAnyIn F n P md ops Q fuel L a w→wpAnyIn F n P md ops Q (fuel+1) L a w
 | 0,_,_,_,h=>⟨fun _=>h.2,by rw [h.1];simp⟩
 | fuel+1,_,_,_,h=>⟨h.1,fun i hi=>wpOpIn_mono (fun a w=>wpAnyIn_more fuel _ a w) (h.2 i hi)⟩
theorem wpAnyIn_far {F:Fence} {n:Nat} {P:Program} {md:Region.Mode} {ops:Array Oper} {Q:Exit→Act→World→Prop} {fuel:Nat} {L:Array Bool} {a:Act} {w:World} (h:wpAnyIn F n P md ops Q fuel L a w):∀k,wpAnyIn F n P md ops Q (k+fuel) L a w
 | 0=>by rw [Nat.zero_add];exact h
 | k+1=>by rw [Nat.add_right_comm];exact wpAnyIn_more _ _ _ _ (wpAnyIn_far h k)
def full (m N:Nat):Array Bool:=(List.replicate m true ++ List.replicate (N - m) false).toArray
def restQ (n:Nat) (P:Program) (ops:Array Oper) (Q:Exit→Act→World→Prop) (m:Nat):Exit→Act→World→Prop
 | .normal,a,w=>wpAnyIn Fence.wide n P .any ops Q (ops.size - m) (full m ops.size) a w
 | _,_,_=>False
theorem getD_rep (N j:Nat):(Array.replicate N false).getD j false=false:=by
 rw [Array.getD_eq_getD_getElem?,Array.getElem?_replicate]
 split <;> rfl
theorem getD_lt {L:Array Bool} {j:Nat} (h:j < L.size) (b c:Bool):L.getD j b=L.getD j c:=by simp [h]
theorem getD_set {L:Array Bool} {i j:Nat} (hi:i < L.size) (b:Bool):(L.setIfInBounds i true).getD j b=if i=j then true else L.getD j b:=by
 by_cases h:i=j
 ·subst h
  simp [hi]
 ·rw [if_neg h,getD_set_ne b h]
section
variable {n:Nat} {P:Program} {ops pre:Array Oper} {Q:Exit→Act→World→Prop} {m:Nat}
theorem cut_go (hc:cutOk ops m=true) (hs:pre.size=m) (hpre:∀j,j < m→pre[j]?=ops[j]?):∀(fuel:Nat) (L L':Array Bool) (a:Act) (w:World),L.size=ops.size→L'.size=m→
  (∀j,j < m→L'.getD j false=L.getD j false)→(∀j,m≤j→j < ops.size→L.getD j false=false)→
  (∀k ok,ops[k]?=some ok→L.getD k false=true→∀e∈ok.after,Region.binds .any e=true→L.getD e.on false=true)→L.getD (m - 1) false=false→
  wpAny P .any pre (restQ n P ops Q m) fuel L' a w→wpAnyIn Fence.wide n P .any ops Q (fuel+(ops.size - m)) L a w:=by
 have hm:=cut_size hc
 -- while the last of the first m is still to come,one may come up
 have some_ready:∀(L L':Array Bool),L.size=ops.size→L'.size=m→(∀j,j < m→L'.getD j false=L.getD j false)→L.getD (m - 1) false=false→∃i,i∈Region.ready .any ops L∧i∈Region.ready .any pre L':=by
  intro L L' hL hL' hLL hlast
  have key:∀j,j < m→L.getD j false=false→∃i,i < m∧L.getD i false=false∧∀k,k < i→L.getD k false=true:=by
   intro j
   induction j using Nat.strongRecOn with
   | ind j ih=>
    intro hj hu
    by_cases h:∃k,k < j∧L.getD k false=false
    ·obtain⟨k,hk,hku⟩:=h
     exact ih k hk (by omega) hku
    ·refine⟨j,hj,hu,fun k hk=> ?_⟩
     cases hb:L.getD k false
     ·exact absurd ⟨k,hk,hb⟩ h
     ·rfl
  obtain⟨i,hi,hu,hall⟩:=key (m - 1) (by omega) hlast
  obtain⟨o,ho⟩:∃o,ops[i]?=some o:=⟨ops[i]'(by omega),Array.getElem?_eq_getElem _⟩
  have h1:=(cut_op hc ho).1
  refine⟨i,mem_ready.2 ⟨by rw [getD_lt (by omega) true false];exact hu,o,ho,fun e he hb=>hall _ (h1 e he hb)⟩,
   mem_ready.2 ⟨by rw [getD_lt (by omega) true false,hLL i hi];exact hu,o,by rw [hpre i hi];exact ho,fun e he hb=> ?_⟩⟩
  have:=h1 e he hb
  rw [hLL _ (by omega)]
  exact hall _ this
 intro fuel
 induction fuel with
 | zero=>
  intro L L' a w hL hL' hLL _ _ hlast h
  obtain⟨i,_,hi⟩:=some_ready L L' hL hL' hLL hlast
  rw [h.1]at hi
  cases hi
 | succ fuel ih=>
  intro L L' a w hL hL' hLL hgt hcl hlast h
  rw [Nat.add_right_comm]
  refine⟨fun h0=> ?_,fun i hi=> ?_⟩
  ·obtain⟨i,hi,_⟩:=some_ready L L' hL hL' hLL hlast
   rw [h0]at hi
   cases hi
  ·obtain⟨hu,o,ho,hall⟩:=mem_ready.1 hi
   obtain⟨c1,c2,c3,c4⟩:=cut_op hc ho
   have hlt:i < ops.size:=(Array.getElem?_eq_some_iff.1 ho).1
   have him:i < m:=by
    rcases c2 with h | ⟨e,he,hb,hon⟩
    ·exact h
    ·have:=hall e he hb
     by_cases hel:e.on=m - 1
     ·rw [hel,hlast]at this;cases this
     ·have h2:e.on < ops.size:=by have:=c1 e he hb;omega
      rw [hgt e.on (by omega) h2]at this;cases this
   have hir:i∈Region.ready .any pre L':=mem_ready.2 ⟨by rw [getD_lt (by omega) true false,hLL i him,←getD_lt (by omega) true false];exact hu,o,by rw [hpre i him];exact ho,fun e he hb=>by
    have:=c1 e he hb
    rw [hLL _ (by omega)]
    exact hall e he hb⟩
   have hstep:=h.2 i hir
   have hnext:∀a' w',wpAny P .any pre (restQ n P ops Q m) fuel (L'.setIfInBounds i true) a' w'→wpAnyIn Fence.wide n P .any ops Q (fuel+(ops.size - m)) (L.setIfInBounds i true) a' w':=by
    intro a' w' h'
    have hLL2:∀j,j < m→(L'.setIfInBounds i true).getD j false=(L.setIfInBounds i true).getD j false:=fun j hj=>by
     rw [getD_set (by omega),getD_set (by omega),hLL j hj]
    have hgt2:∀j,m≤j→j < ops.size→(L.setIfInBounds i true).getD j false=false:=fun j hj hj2=>by
     rw [getD_set (by omega),if_neg (by omega)]
     exact hgt j hj hj2
    have hcl2:∀k ok,ops[k]?=some ok→(L.setIfInBounds i true).getD k false=true→∀e∈ok.after,Region.binds .any e=true→(L.setIfInBounds i true).getD e.on false=true:=by
     intro k ok hok hk e he hb
     by_cases hik:i=k
     ·subst hik
      rw [ho]at hok
      injection hok with hok
      subst hok
      exact getD_set_true (hall e he hb)
     ·rw [getD_set_ne false hik]at hk
      exact getD_set_true (hcl k ok hok hk e he hb)
    by_cases hil:i=m - 1
    ·-- all of the first m have come up
     have hlisted:∀d j,j+d+1=m→(L.setIfInBounds i true).getD j false=true:=by
      intro d
      induction d using Nat.strongRecOn with
      | ind d ihd=>
       intro j hj
       by_cases hjl:j=m - 1
       ·rw [getD_set (by omega),if_pos (by omega)]
       ·obtain⟨oj,hoj⟩:∃oj,ops[j]?=some oj:=⟨ops[j]'(by omega),Array.getElem?_eq_getElem _⟩
        rcases(cut_op hc hoj).2.2.1 with h | ⟨k,hk,ok,hok,e,he,hb,hon⟩
        ·omega
        ·have hkj:=(cut_op hc hok).1 e he hb
         rw [←hon]
         exact hcl2 k ok hok (ihd (m - 1 - k) (by omega) k (by omega)) e he hb
     have hnone:Region.ready .any pre (L'.setIfInBounds i true)= []:=by
      apply List.eq_nil_iff_forall_not_mem.2
      intro j hj
      obtain⟨hju,oj,hoj,_⟩:=mem_ready.1 hj
      have hjm:j < m:=by rw [←hs];exact(Array.getElem?_eq_some_iff.1 hoj).1
      rw [getD_lt (by simp;omega) true false,hLL2 j hjm,hlisted (m - 1 - j) j (by omega)]at hju
      cases hju
     have hend:restQ n P ops Q m .normal a' w':=by
      cases fuel with
      | zero=>exact h'.2
      | succ fuel=>exact h'.1 hnone
     have hfull:L.setIfInBounds i true=full m ops.size:=by
      apply Array.ext
      ·rw [Array.size_setIfInBounds,hL];simp [full];omega
      ·intro j h1 h2
       have h1':j < ops.size:=by simpa [hL] using h1
       have e1:(L.setIfInBounds i true)[j]=(L.setIfInBounds i true).getD j false:=by rw [Array.getD_eq_getD_getElem?,Array.getElem?_eq_getElem h1];rfl
       rw [e1]
       by_cases hjm:j < m
       ·rw [hlisted (m - 1 - j) j (by omega)]
        simp [full,hjm]
       ·rw [hgt2 j (by omega) h1']
        simp [full,List.getElem_append,hjm]
     rw [hfull]
     exact wpAnyIn_far hend fuel
    ·exact ih _ _ a' w' (by simpa using hL) (by simpa using hL') hLL2 hgt2 hcl2 (by rw [getD_set (by omega),if_neg hil];exact hlast) h'
   unfold wpOp at hstep
   rw [hpre i him,ho]at hstep
   unfold wpOpIn
   rw [ho]
   have hw:Region.wanted o (yielded pre a.tmps)=Region.wanted o (yielded ops a.tmps):=by
    unfold Region.wanted
    cases hg:o.guard with
    | none=>rfl
    | some g=>
     have hgm:g.1 < m:=by
      rcases c4 g hg with h | h
      ·exact h
      ·omega
     obtain⟨g1,g2⟩:=g
     simp only [yielded,hpre g1 hgm]
   simp only [hw]at hstep
   simp only
   split at hstep
   ·rename_i hww
    rw [if_pos hww]
    rcases hstep with h1 | ⟨_,a2,w2,h2⟩
    ·exact oper_in (fun _ _ _ h=>h) (fun _ _ h=>h) (Oper.wp_mono hnext h1)
    ·exact h2.elim
   ·rename_i hww
    rw [if_neg hww]
    exact⟨fun _ _=>trivial,hnext _ _ hstep⟩
end
end Go.Proofs.YtfcfbcjiijfjgaaGreatDoor
