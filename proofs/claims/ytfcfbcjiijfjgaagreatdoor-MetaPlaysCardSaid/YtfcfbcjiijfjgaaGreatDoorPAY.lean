import Derived.Test.YtfcfbcjiijfjgaaGreatDoorPAW
import Derived.Test.YtfcfbcjiijfjgaaGreatDoorPAX
namespace Go.Proofs.YtfcfbcjiijfjgaaGreatDoor.Me
open Go.RowKit Go.Shelf
attribute [local go_sem] Oper.semAt_some
def zeroParts:List Value:= [.int .i64 0,.int .i64 0,.nilFunc,.nilFunc,.int .i64 0,.int .i64 0,.nilFunc,.nilFunc,.int .i64 0,.int .i64 0,.nilFunc,.nilFunc,.int .i64 0,.int .i64 0,.nilFunc,.nilFunc]
def TxF (m G:Nat):Nat→Value→World→Prop
 | 3,v,W=>∃b,G≤b∧v= .slice (some ⟨b,0,none⟩) 0 m∧Row W b 5 (List.replicate m (.int .u8 0))
 | 4,v,_=>v= .agg (prtCells smallP).toArray
 | 5,v,W=>∃b,G≤b∧v= .pointer (some ⟨b,0,none⟩)∧Row W b 172 [.slice none 0 0]
 | 6,v,W=>∃b,G≤b∧v= .pointer (some ⟨b,0,none⟩)∧Row W b 107 zeroParts
 | 7,v,W=>∃b,G≤b∧v= .pointer (some ⟨b,0,none⟩)∧Row W b 4 [.bool false]
 | _,_,_=>True
theorem TxF.keep {m G:Nat} {W W':World} (h:Below W.heap.size W W') (k:Nat) (u:Value) (hk:TxF m G k u W):TxF m G k u W':=by
 unfold TxF at hk ⊢
 split at hk
 ·obtain⟨b,h0,h1,h2⟩:=hk;exact⟨b,h0,h1,h2.below h⟩
 ·exact hk
 ·obtain⟨b,h0,h1,h2⟩:=hk;exact⟨b,h0,h1,h2.below h⟩
 ·obtain⟨b,h0,h1,h2⟩:=hk;exact⟨b,h0,h1,h2.below h⟩
 ·obtain⟨b,h0,h1,h2⟩:=hk;exact⟨b,h0,h1,h2.below h⟩
 ·trivial
structure TxI (g m:Nat) (w W:World):Prop where
 below:Below w.heap.size w W
 cell:W.cell? ⟨g,4,none⟩=some (.int .i64 (m:Int))
theorem TxI.step {g m:Nat} {w W W':World} (h:TxI g m w W) (hg:g < w.heap.size) (hb:Below W.heap.size W W'):TxI g m w W':=
 ⟨below0 h.below hb,by rw [hb.cell (p:=⟨g,4,none⟩) (Nat.lt_of_lt_of_le hg h.below.size)];exact h.cell⟩
theorem TxI.set {g m:Nat} {w W W':World} (h:TxI g m w W) (hg:g < w.heap.size) (hb:Below w.heap.size w W'):TxI g m w W':=
 ⟨hb,by rw [hb.cell (p:=⟨g,4,none⟩) hg,←h.below.cell (p:=⟨g,4,none⟩) hg];exact h.cell⟩
theorem row_two {W:World} {b c:Nat} {t u:TypeId} {xs ys:List Value} (h:Row W b t xs) (h2:Row W c u ys) (hn:t≠u):b≠c:=by
 rintro rfl
 unfold Row at h h2
 rw [h]at h2
 injection h2 with h2
 injection h2 with _ h2
 exact hn h2
theorem make_u8 (m:Nat) (h:m≤85) (W:World):(Instr.makeSlice 172 (.int .i64 0) (.int .i64 (m:Int))).run Tryz.prog W= .ok (.slice (some ⟨W.heap.size,0,none⟩) 0 m) (W.alloc (.cells (List.replicate m (.int .u8 0)).toArray 5)):=by
 obtain⟨i0,hi,hz0,hz1,hz2⟩:=info_parts u8_info
 exact make_one (P:=Tryz.prog) Tryz.underlying172 hi hz0 hz1 rfl 0 m (Nat.zero_le _) (by rw [hz2];omega) (by omega) W
theorem set_keep {g k:Nat} (h:k≠g):∀(cs:List Value) (o:Nat) (V:World),(V.setCells g o cs).heap[k]?=V.heap[k]?
 | [],_,_=>rfl
 | v :: r,o,V=>by
  rw [World.setCells]
  exact(set_keep h r _ _).trans (heap_set h)
structure TxA (w W:World) (b3 b5 b6 b7 m:Nat):Prop where
 r3:Row W b3 5 (List.replicate m (.int .u8 0))
 r5:Row W b5 172 [.slice (some ⟨b3,0,none⟩) 0 m]
 r6:Row W b6 107 (prtCells smallP)
 r7:Row W b7 4 [.bool true]
 below:Below w.heap.size w W
theorem TxA.mk' {w2 V:World} {b3 b5 b6 b7 m:Nat} (h3:Row V b3 5 (List.replicate m (.int .u8 0))) (h5:Row V b5 172 [.slice none 0 0]) (h6:Row V b6 107 zeroParts) (h7:Row V b7 4 [.bool false])
  (g5:w2.heap.size≤b5) (g6:w2.heap.size≤b6) (g7:w2.heap.size≤b7) (hb:Below w2.heap.size w2 V):
  V.cell? ⟨b5,0,none⟩=some (.slice none 0 0)∧V.frozen? ⟨b5,0,none⟩=false∧Below w2.heap.size w2 (V.setCell ⟨b5,0,none⟩ (.slice (some ⟨b3,0,none⟩) 0 m))∧
  (V.setCell ⟨b5,0,none⟩ (.slice (some ⟨b3,0,none⟩) 0 m)).there b6 0 smallC.toArray.size∧(Tryz.prog.info? 107).map (·.size)=some smallC.toArray.size∧smallC.toArray.all (·.oneCell')=true∧
  Below w2.heap.size w2 ((V.setCell ⟨b5,0,none⟩ (.slice (some ⟨b3,0,none⟩) 0 m)).setCells b6 0 smallC.toArray.toList)∧
  ∀V3,V3=(V.setCell ⟨b5,0,none⟩ (.slice (some ⟨b3,0,none⟩) 0 m)).setCells b6 0 smallC.toArray.toList→V3.cell? ⟨b7,0,none⟩=some (.bool false)∧V3.frozen? ⟨b7,0,none⟩=false∧Below w2.heap.size w2 (V3.setCell ⟨b7,0,none⟩ (.bool true))∧TxA w2 (V3.setCell ⟨b7,0,none⟩ (.bool true)) b3 b5 b6 b7 m:=by
 have n35:=row_two h3 h5 (by decide)
 have n36:=row_two h3 h6 (by decide)
 have n37:=row_two h3 h7 (by decide)
 have n56:=row_two h5 h6 (by decide)
 have n57:=row_two h5 h7 (by decide)
 have n67:=row_two h6 h7 (by decide)
 have p5:=h5.set 0 (.slice (some ⟨b3,0,none⟩) 0 m)
 have p6:=h6.same (heap_set (b:=b5) (o:=0) (v:= .slice (some ⟨b3,0,none⟩) 0 m) (Ne.symm n56))
 have p3:=h3.same (heap_set (b:=b5) (o:=0) (v:= .slice (some ⟨b3,0,none⟩) 0 m) n35)
 have p7:=h7.same (heap_set (b:=b5) (o:=0) (v:= .slice (some ⟨b3,0,none⟩) 0 m) (Ne.symm n57))
 have pb:=hb.setCell (p:=⟨b5,0,none⟩) g5 (.slice (some ⟨b3,0,none⟩) 0 m)
 have q6:=set_from smallC [] _ p6 rfl
 have hk:∀k,k≠b6→((V.setCell ⟨b5,0,none⟩ (.slice (some ⟨b3,0,none⟩) 0 m)).setCells b6 0 smallC.toArray.toList).heap[k]?=(V.setCell ⟨b5,0,none⟩ (.slice (some ⟨b3,0,none⟩) 0 m)).heap[k]?:=fun k h=>set_keep h _ _ _
 have q5:=p5.same (hk b5 n56)
 have q3:=p3.same (hk b3 n36)
 have q7:=p7.same (hk b7 (Ne.symm n67))
 have qb:=set_below b6 w2.heap.size g6 smallC.toArray.toList 0 _ pb
 refine⟨h5.cell 0,h5.frozen 0,pb,row_there p6 rfl,small_info,by kernel_rfl,qb,?_⟩
 rintro V3 rfl
 refine⟨q7.cell 0,q7.frozen 0,qb.setCell (p:=⟨b7,0,none⟩) g7 _,q3.same (heap_set n37),q5.same (heap_set n57),q6.same (heap_set n67),q7.set 0 _,qb.setCell (p:=⟨b7,0,none⟩) g7 _⟩
end Go.Proofs.YtfcfbcjiijfjgaaGreatDoor.Me
