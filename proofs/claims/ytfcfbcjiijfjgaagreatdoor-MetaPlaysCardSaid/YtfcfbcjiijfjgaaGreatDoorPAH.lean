import Derived.Test.YtfcfbcjiijfjgaaGreatDoorPAD
import Derived.Test.YtfcfbcjiijfjgaaGreatDoorPAF
import Derived.Test.YtfcfbcjiijfjgaaGreatDoorPAG
set_option maxHeartbeats 1000000
namespace Go.Proofs.YtfcfbcjiijfjgaaGreatDoor.Me
open Go.RowKit Go.Shelf
attribute [local go_sem] Oper.semAt_some
def Tabs (w:World):Prop:=Sz.Tab w∧Wo.Tab w
theorem Tabs.below {w w':World} (h:Tabs w) (hb:Below w.heap.size w w'):Tabs w':=⟨h.1.below hb,h.2.below hb⟩
theorem pay_eq (c:Nat):Sz.pay c=pay c:=rfl
theorem isB_cases (n:Int) (b:Nat):isB n (b:Int)=false∨∃k:Nat,n=(k:Int)∧k < b∧isB n (b:Int)=true:=by
 rcases h:isB n (b:Int) with _ | _
 ·exact .inl rfl
 ·obtain⟨k,e,hk⟩:=isB_nat h
  exact .inr ⟨k,e,hk,rfl⟩
abbrev roV (f k m:Int):Value:= .agg #[.int .u32 f,.int .i64 k,.int .i64 m]
theorem has_any (f k m i:Int) (w:World):Calls Tryz.prog 31 #[roV f k m,.int .i64 i] w fun e w'=>e= .returned (.bool (isB i m))∧Below w.heap.size w w':=by
 by_cases h0:0≤i
 ·have e0:decide (0≤i)=true:=decide_eq_true h0
  obtain⟨c,hc⟩:∃c,decide (i < m)=c:=⟨_,rfl⟩
  rw [isB,e0,hc]
  go_enter Tryz.func31,Tryz.ntmps31
  go_wp2
  go_ret
  exact⟨rfl,below1 _ _⟩
 ·have e0:decide (0≤i)=false:=decide_eq_false h0
  rw [isB,e0]
  go_enter Tryz.func31,Tryz.ntmps31
  go_wp2
  go_ret
  exact⟨rfl,below1 _ _⟩
theorem at_any (f k m i x y z:Int) (w:World) (h1:IntKind.i64.wrap (i*k)=x) (h2:IntKind.u32.wrap x=y) (h3:IntKind.u32.wrap (f+y)=z):Calls Tryz.prog 32 #[roV f k m,.int .i64 i] w fun e w'=>e= .returned (.int .u32 z)∧Below w.heap.size w w':=by
 go_enter Tryz.func32,Tryz.ntmps32
 go_wp2
 go_ret
 exact⟨rfl,below1 _ _⟩
theorem row_set3 {V:World} {b:Nat} {t:TypeId} {x0 x1 x2:Value} (y0 y1 y2:Value) (h:Row V b t [x0,x1,x2]):Row (((V.setCell ⟨b,0,none⟩ y0).setCell ⟨b,1,none⟩ y1).setCell ⟨b,2,none⟩ y2) b t [y0,y1,y2]:=(((h.set 0 y0).set 1 y1).set 2 y2)
theorem below_set3 {B:Nat} {w V:World} {b:Nat} (y0 y1 y2:Value) (h:Below B w V) (hb:B≤b):Below B w (((V.setCell ⟨b,0,none⟩ y0).setCell ⟨b,1,none⟩ y1).setCell ⟨b,2,none⟩ y2):=(((h.setCell (p:=⟨b,0,none⟩) hb _).setCell (p:=⟨b,1,none⟩) hb _).setCell (p:=⟨b,2,none⟩) hb _)
theorem row_set4 {V:World} {b:Nat} {t:TypeId} {x0 x1 x2 x3:Value} (y0 y1 y2 y3:Value) (h:Row V b t [x0,x1,x2,x3]):Row ((((V.setCell ⟨b,0,none⟩ y0).setCell ⟨b,1,none⟩ y1).setCell ⟨b,2,none⟩ y2).setCell ⟨b,3,none⟩ y3) b t [y0,y1,y2,y3]:=((((h.set 0 y0).set 1 y1).set 2 y2).set 3 y3)
theorem below_set4 {B:Nat} {w V:World} {b:Nat} (y0 y1 y2 y3:Value) (h:Below B w V) (hb:B≤b):Below B w ((((V.setCell ⟨b,0,none⟩ y0).setCell ⟨b,1,none⟩ y1).setCell ⟨b,2,none⟩ y2).setCell ⟨b,3,none⟩ y3):=((((h.setCell (p:=⟨b,0,none⟩) hb _).setCell (p:=⟨b,1,none⟩) hb _).setCell (p:=⟨b,2,none⟩) hb _).setCell (p:=⟨b,3,none⟩) hb _)
theorem row_set7 {V:World} {b:Nat} {t:TypeId} {x0 x1 x2 x3 x4 x5 x6:Value} (y0 y1 y2 y3 y4 y5 y6:Value) (h:Row V b t [x0,x1,x2,x3,x4,x5,x6]):Row (((((((V.setCell ⟨b,0,none⟩ y0).setCell ⟨b,1,none⟩ y1).setCell ⟨b,2,none⟩ y2).setCell ⟨b,3,none⟩ y3).setCell ⟨b,4,none⟩ y4).setCell ⟨b,5,none⟩ y5).setCell ⟨b,6,none⟩ y6) b t [y0,y1,y2,y3,y4,y5,y6]:=(((((((h.set 0 y0).set 1 y1).set 2 y2).set 3 y3).set 4 y4).set 5 y5).set 6 y6)
theorem below_set7 {B:Nat} {w V:World} {b:Nat} (y0 y1 y2 y3 y4 y5 y6:Value) (h:Below B w V) (hb:B≤b):Below B w (((((((V.setCell ⟨b,0,none⟩ y0).setCell ⟨b,1,none⟩ y1).setCell ⟨b,2,none⟩ y2).setCell ⟨b,3,none⟩ y3).setCell ⟨b,4,none⟩ y4).setCell ⟨b,5,none⟩ y5).setCell ⟨b,6,none⟩ y6):=(((((((h.setCell (p:=⟨b,0,none⟩) hb _).setCell (p:=⟨b,1,none⟩) hb _).setCell (p:=⟨b,2,none⟩) hb _).setCell (p:=⟨b,3,none⟩) hb _).setCell (p:=⟨b,4,none⟩) hb _).setCell (p:=⟨b,5,none⟩) hb _).setCell (p:=⟨b,6,none⟩) hb _)
theorem region_any (s c:Int) (w:World) (h:isB s 4=false∨isB c 8=false):Calls Tryz.prog 70 #[.int .i64 s,.int .i64 c] w fun e w'=>e= .returned (.tuple #[.int .i64 0,.int .i64 2])∧Below w.heap.size w w':=by
 rcases isB_cases c 8 with h8 | ⟨k,rfl,hk,h8⟩
 ·exact Wn.region_noc s c w h8
 ·exact Wn.region_nos s k w hk (h.resolve_right (by rw [show isB (k:Int) 8=true from h8];decide))
theorem payloads_no (s c:Int) (w:World) (h:isB s 4=false∨isB c 8=false):Calls Tryz.prog 27 #[.int .i64 s,.int .i64 c] w fun e w'=>e= .returned (.tuple #[roV 0 0 0,.bool false])∧Below w.heap.size w w':=by
 have h1:=Lh (fun W=>region_any s c W h)
 clear h
 go_enter Tryz.func27,Tryz.ntmps27
 go_wp2_with fail
 refine(h1.out _).mono ?_
 rintro e w1 ⟨rfl,hb1⟩
 have r1:Row w1 w.heap.size 78 [.int .u32 0,.int .i64 0,.int .i64 0]:=(Row.new w 78 [.int .u32 0,.int .i64 0,.int .i64 0]).below hb1
 have HB:=Lh ((below1 w (.cells #[.int .u32 0,.int .i64 0,.int .i64 0] 78)).trans (hb1.mono (by simp)))
 have HR:=Lh r1
 have c0:=r1.cell 0
 have c1:=r1.cell 1
 have c2:=r1.cell 2
 have f0:=r1.frozen 0
 have f1:=r1.frozen 1
 have f2:=r1.frozen 2
 clear r1 hb1 h1
 go_wp2
 have R8:=row_set3 (.int .u32 0) (.int .i64 0) (.int .i64 0) HR.out
 have B8:=below_set3 (b:=w.heap.size) (.int .u32 0) (.int .i64 0) (.int .i64 0) HB.out Lr
 clear c0 c1 c2 f0 f1 f2
 have d0:=R8.cell 0
 have d1:=R8.cell 1
 have d2:=R8.cell 2
 exact bodyPost_ret (v:= .tuple #[roV 0 0 0,.bool false]) (by simp [results,Tryz.results27,go_sem,d0,d1,d2]) rfl ⟨rfl,B8⟩
theorem payloads_yes (s c:Nat) (w:World) (hT:Tabs w) (hs:s < 4) (hc:c < 8):Calls Tryz.prog 27 #[.int .i64 (s:Int),.int .i64 (c:Int)] w fun e w'=>e= .returned (.tuple #[roV ((256*(4096*s+4097+17*c)+16:Nat):Int) ((pay c+32:Nat):Int) ((cnt c:Nat):Int),.bool true])∧Below w.heap.size w w':=by
 have h1:=Lh (fun W=>Wn.region_yes s c W hs hc)
 have h2:=Lh (fun W=>Wn.address_yes (4096*s+4097+17*c) 16 W (by omega) (by omega))
 have h3:=Lh (fun W (hb:Below w.heap.size w W)=>Sz.slot_yes c W (hT.below hb).1 hc)
 have h4:=Lh (fun W (hb:Below w.heap.size w W)=>Sz.count_yes c W (hT.below hb).1 hc)
 simp only [pay_eq]at h3 h4
 obtain⟨m,hm⟩:=Nm (cnt c)
 have hm':4096 / (pay c+32)=m:=hm.symm
 rw [hm']at h4
 rw [←hm]
 obtain⟨k,hk⟩:=Nm (pay c+32)
 rw [←hk]at h3 ⊢
 obtain⟨f,hf⟩:=Nm (256*(4096*s+4097+17*c)+16)
 rw [←hf]at h2 ⊢
 obtain⟨p,hp⟩:=Nm (4096*s+4097+17*c)
 rw [←hp]at h1 h2
 rw [show((16:Nat):Int)=16 from rfl]at h2
 clear hm hm' hk hf hp hT hs hc
 go_enter Tryz.func27,Tryz.ntmps27
 go_wp2_with fail
 refine(h1.out _).mono ?_
 rintro e w1 ⟨rfl,hb1⟩
 have HB1:=Lh ((below1 w (.cells #[.int .u32 0,.int .i64 0,.int .i64 0] 78)).trans (hb1.mono (by simp)))
 have HR1:=Lh ((Row.new w 78 [.int .u32 0,.int .i64 0,.int .i64 0]).below hb1)
 clear hb1 h1
 go_wp2_with fail
 refine(h2.out _).mono ?_
 rintro e w2 ⟨rfl,hb2⟩
 have HB2:=Lh (below0 HB1.out hb2)
 have HR2:=Lh (HR1.out.below hb2)
 clear hb2 h2 HB1 HR1
 go_wp2_with fail
 refine(h3.out _ HB2.out).mono ?_
 rintro e w3 ⟨rfl,hb3⟩
 have HB3:=Lh (below0 HB2.out hb3)
 have HR3:=Lh (HR2.out.below hb3)
 clear hb3 h3 HB2 HR2
 go_wp2_with fail
 refine(h4.out _ HB3.out).mono ?_
 rintro e w4 ⟨rfl,hb4⟩
 have HB:=Lh (below0 HB3.out hb4)
 have r1:=HR3.out.below hb4
 have HR:=Lh r1
 clear hb4 h4 HB3 HR3
 have c0:=r1.cell 0
 have c1:=r1.cell 1
 have c2:=r1.cell 2
 have f0:=r1.frozen 0
 have f1:=r1.frozen 1
 have f2:=r1.frozen 2
 clear r1
 go_wp2
 have R8:=row_set3 (.int .u32 (f:Int)) (.int .i64 (k:Int)) (.int .i64 (m:Int)) HR.out
 have B8:=below_set3 (b:=w.heap.size) (.int .u32 (f:Int)) (.int .i64 (k:Int)) (.int .i64 (m:Int)) HB.out Lr
 clear c0 c1 c2 f0 f1 f2
 have d0:=R8.cell 0
 have d1:=R8.cell 1
 have d2:=R8.cell 2
 exact bodyPost_ret (v:= .tuple #[roV f k m,.bool true]) (by simp [results,Tryz.results27,go_sem,d0,d1,d2]) rfl ⟨rfl,B8⟩
theorem book_any (s:Int) (w:World):Calls Tryz.prog 116 #[.int .i64 s] w fun e w'=>e= .returned (.tuple #[.int .i64 (if isB s 4=true then 64*s+1 else 0),.int .i64 (if isB s 4=true then 0 else 2)])∧Below w.heap.size w w':=by
 rcases isB_cases s 4 with h | ⟨k,rfl,hk,h⟩
 ·rw [show isB s 4=false from h]
  exact Wn.book_no s w h
 ·rw [show isB (k:Int) 4=true from h,if_pos rfl,if_pos rfl]
  have:=Wn.book_yes k w hk
  rw [show((64*k+1:Nat):Int)=64*(k:Int)+1 by omega]at this
  exact this
theorem scount_any (c:Int) (w:World) (hT:Tabs w):Calls Tryz.prog 73 #[.int .i64 c] w fun e w'=>e= .returned (.tuple #[.int .i64 (if isB c 8=true then((cnt c.toNat:Nat):Int) else 0),.int .i64 (if isB c 8=true then 0 else 2)])∧Below w.heap.size w w':=by
 rcases isB_cases c 8 with h | ⟨k,rfl,hk,h⟩
 ·rw [show isB c 8=false from h]
  exact Sz.count_no c w h
 ·rw [show isB (k:Int) 8=true from h,if_pos rfl,if_pos rfl,Int.toNat_natCast]
  exact Sz.count_yes k w hT.1 hk
theorem records_no (s c:Int) (w:World) (hT:Tabs w) (h:isB s 4=false∨isB c 8=false):Calls Tryz.prog 88 #[.int .i64 s,.int .i64 c] w fun e w'=>e= .returned (.tuple #[roV 0 0 0,.bool false])∧Below w.heap.size w w':=by
 have h1:=Lh (fun W=>book_any s W)
 have h2:=Lh (fun W (hb:Below w.heap.size w W)=>scount_any c W (hT.below hb))
 obtain⟨a,ha⟩:=Nm ((if isB s 4=true then 64*s+1 else 0))
 obtain⟨m,hm⟩:=Nm ((if isB c 8=true then((cnt c.toNat:Nat):Int) else 0))
 obtain⟨x,hx⟩:∃x:Int,x=(if isB s 4=true then 0 else 2):=⟨_,rfl⟩
 obtain⟨y,hy⟩:∃y:Int,y=(if isB c 8=true then 0 else 2):=⟨_,rfl⟩
 rw [←ha,←hx]at h1
 rw [←hm,←hy]at h2
 have hxy:(x=2)∨(x=0∧y=2):=by
  rcases h with h | h
  ·left;rw [hx,h];rfl
  ·rcases hq:isB s 4 with _ | _
   ·left;rw [hx,hq];rfl
   ·right;exact⟨by rw [hx,hq];rfl,by rw [hy,h];rfl⟩
 clear ha hm hx hy hT h
 go_enter Tryz.func88,Tryz.ntmps88
 go_wp2_with fail
 refine(h1.out _).mono ?_
 rintro e w1 ⟨rfl,hb1⟩
 have HB1:=Lh ((below1 w (.cells #[.int .u32 0,.int .i64 0,.int .i64 0] 78)).trans (hb1.mono (by simp)))
 have HR1:=Lh ((Row.new w 78 [.int .u32 0,.int .i64 0,.int .i64 0]).below hb1)
 clear hb1 h1
 go_wp2_with fail
 refine(h2.out _ HB1.out).mono ?_
 rintro e w2 ⟨rfl,hb2⟩
 have HB:=Lh (below0 HB1.out hb2)
 have r1:=HR1.out.below hb2
 have HR:=Lh r1
 clear hb2 h2 HB1 HR1
 have c0:=r1.cell 0
 have c1:=r1.cell 1
 have c2:=r1.cell 2
 have f0:=r1.frozen 0
 have f1:=r1.frozen 1
 have f2:=r1.frozen 2
 clear r1
 rcases hxy with rfl | ⟨rfl,rfl⟩
 ·go_wp2
  have R8:=row_set3 (.int .u32 0) (.int .i64 0) (.int .i64 0) HR.out
  have B8:=below_set3 (b:=w.heap.size) (.int .u32 0) (.int .i64 0) (.int .i64 0) HB.out Lr
  clear c0 c1 c2 f0 f1 f2
  have d0:=R8.cell 0
  have d1:=R8.cell 1
  have d2:=R8.cell 2
  exact bodyPost_ret (v:= .tuple #[roV 0 0 0,.bool false]) (by simp [results,Tryz.results88,go_sem,d0,d1,d2]) rfl ⟨rfl,B8⟩
 ·go_wp2
  have R8:=row_set3 (.int .u32 0) (.int .i64 0) (.int .i64 0) HR.out
  have B8:=below_set3 (b:=w.heap.size) (.int .u32 0) (.int .i64 0) (.int .i64 0) HB.out Lr
  clear c0 c1 c2 f0 f1 f2
  have d0:=R8.cell 0
  have d1:=R8.cell 1
  have d2:=R8.cell 2
  exact bodyPost_ret (v:= .tuple #[roV 0 0 0,.bool false]) (by simp [results,Tryz.results88,go_sem,d0,d1,d2]) rfl ⟨rfl,B8⟩
theorem records_yes (s c:Nat) (w:World) (hT:Tabs w) (hs:s < 4) (hc:c < 8):Calls Tryz.prog 88 #[.int .i64 (s:Int),.int .i64 (c:Int)] w fun e w'=>e= .returned (.tuple #[roV ((256*(64*s+1)+768*c:Nat):Int) 8 ((cnt c:Nat):Int),.bool true])∧Below w.heap.size w w':=by
 have h1:=Lh (fun W=>Wn.book_yes s W hs)
 have h2:=Lh (fun W (hb:Below w.heap.size w W)=>Sz.count_yes c W (hT.below hb).1 hc)
 have h3:=Lh (fun W=>Wn.address_yes (64*s+1+3*c) 0 W (by omega) (by omega))
 simp only [pay_eq]at h2
 obtain⟨m,hm⟩:=Nm (cnt c)
 have hm':4096 / (pay c+32)=m:=hm.symm
 rw [hm']at h2
 rw [←hm]
 have e1:IntKind.i64.wrap (3*(c:Int))=3*(c:Int):=wrapI _ (by omega) (by omega)
 have e2:IntKind.i64.wrap (((64*s+1:Nat):Int)+3*(c:Int))=((64*s+1+3*c:Nat):Int):=(wrapI _ (by omega) (by omega)).trans (by omega)
 obtain⟨f,hf⟩:=Nm (256*(64*s+1)+768*c)
 rw [show 256*(64*s+1+3*c)+0=f by omega]at h3
 rw [←hf]
 obtain⟨p,hp⟩:=Nm (64*s+1+3*c)
 rw [←hp]at h3 e2
 obtain⟨q,hq⟩:=Nm (64*s+1)
 rw [←hq]at h1 e2
 rw [show((0:Nat):Int)=0 from rfl]at h3
 obtain⟨t,ht⟩:∃t,3*(c:Int)=t:=⟨_,rfl⟩
 replace e1:IntKind.i64.wrap (3*(c:Int))=t:=e1.trans ht
 rw [ht]at e2
 clear hm hm' hf hp hq ht hT hs
 go_enter Tryz.func88,Tryz.ntmps88
 go_wp2_with fail
 refine(h1.out _).mono ?_
 rintro e w1 ⟨rfl,hb1⟩
 have HB1:=Lh ((below1 w (.cells #[.int .u32 0,.int .i64 0,.int .i64 0] 78)).trans (hb1.mono (by simp)))
 have HR1:=Lh ((Row.new w 78 [.int .u32 0,.int .i64 0,.int .i64 0]).below hb1)
 clear hb1 h1
 go_wp2_with fail
 refine(h2.out _ HB1.out).mono ?_
 rintro e w2 ⟨rfl,hb2⟩
 have HB2:=Lh (below0 HB1.out hb2)
 have HR2:=Lh (HR1.out.below hb2)
 clear hb2 h2 HB1 HR1
 go_wp2_with fail
 refine(h3.out _).mono ?_
 rintro e w3 ⟨rfl,hb3⟩
 have HB:=Lh (below0 HB2.out hb3)
 have r1:=HR2.out.below hb3
 have HR:=Lh r1
 clear hb3 h3 HB2 HR2
 have c0:=r1.cell 0
 have c1:=r1.cell 1
 have c2:=r1.cell 2
 have f0:=r1.frozen 0
 have f1:=r1.frozen 1
 have f2:=r1.frozen 2
 clear r1
 go_wp2
 have R8:=row_set3 (.int .u32 (f:Int)) (.int .i64 8) (.int .i64 (m:Int)) HR.out
 have B8:=below_set3 (b:=w.heap.size) (.int .u32 (f:Int)) (.int .i64 8) (.int .i64 (m:Int)) HB.out Lr
 clear c0 c1 c2 f0 f1 f2
 have d0:=R8.cell 0
 have d1:=R8.cell 1
 have d2:=R8.cell 2
 exact bodyPost_ret (v:= .tuple #[roV f 8 m,.bool true]) (by simp [results,Tryz.results88,go_sem,d0,d1,d2]) rfl ⟨rfl,B8⟩
theorem greats_no (s:Int) (w:World) (h:isB s 4=false):Calls Tryz.prog 110 #[.int .i64 s] w fun e w'=>e= .returned (.tuple #[roV 0 0 0,.bool false])∧Below w.heap.size w w':=by
 have h1:=Lh (fun W=>Wn.book_no s W h)
 clear h
 go_enter Tryz.func110,Tryz.ntmps110
 go_wp2_with fail
 refine(h1.out _).mono ?_
 rintro e w1 ⟨rfl,hb1⟩
 have HB:=Lh ((below1 w (.cells #[.int .u32 0,.int .i64 0,.int .i64 0] 78)).trans (hb1.mono (by simp)))
 have r1:=(Row.new w 78 [.int .u32 0,.int .i64 0,.int .i64 0]).below hb1
 have HR:=Lh r1
 clear hb1 h1
 have c0:=r1.cell 0
 have c1:=r1.cell 1
 have c2:=r1.cell 2
 have f0:=r1.frozen 0
 have f1:=r1.frozen 1
 have f2:=r1.frozen 2
 clear r1
 go_wp2
 have R8:=row_set3 (.int .u32 0) (.int .i64 0) (.int .i64 0) HR.out
 have B8:=below_set3 (b:=w.heap.size) (.int .u32 0) (.int .i64 0) (.int .i64 0) HB.out Lr
 clear c0 c1 c2 f0 f1 f2
 have d0:=R8.cell 0
 have d1:=R8.cell 1
 have d2:=R8.cell 2
 exact bodyPost_ret (v:= .tuple #[roV 0 0 0,.bool false]) (by simp [results,Tryz.results110,go_sem,d0,d1,d2]) rfl ⟨rfl,B8⟩
theorem greats_yes (s:Nat) (w:World) (hs:s < 4):Calls Tryz.prog 110 #[.int .i64 (s:Int)] w fun e w'=>e= .returned (.tuple #[roV ((256*(64*s+1)+6144:Nat):Int) 16 384,.bool true])∧Below w.heap.size w w':=by
 have h1:=Lh (fun W=>Wn.book_yes s W hs)
 have h3:=Lh (fun W=>Wn.address_yes (64*s+1+24) 0 W (by omega) (by omega))
 have e2:IntKind.i64.wrap (((64*s+1:Nat):Int)+24)=((64*s+1+24:Nat):Int):=(wrapI _ (by omega) (by omega)).trans (by omega)
 obtain⟨f,hf⟩:=Nm (256*(64*s+1)+6144)
 rw [show 256*(64*s+1+24)+0=f by omega]at h3
 rw [←hf]
 obtain⟨p,hp⟩:=Nm (64*s+1+24)
 rw [←hp]at h3 e2
 obtain⟨q,hq⟩:=Nm (64*s+1)
 rw [←hq]at h1 e2
 rw [show((0:Nat):Int)=0 from rfl]at h3
 clear hf hp hq hs
 go_enter Tryz.func110,Tryz.ntmps110
 go_wp2_with fail
 refine(h1.out _).mono ?_
 rintro e w1 ⟨rfl,hb1⟩
 have HB1:=Lh ((below1 w (.cells #[.int .u32 0,.int .i64 0,.int .i64 0] 78)).trans (hb1.mono (by simp)))
 have HR1:=Lh ((Row.new w 78 [.int .u32 0,.int .i64 0,.int .i64 0]).below hb1)
 clear hb1 h1
 go_wp2_with fail
 refine(h3.out _).mono ?_
 rintro e w3 ⟨rfl,hb3⟩
 have HB:=Lh (below0 HB1.out hb3)
 have r1:=HR1.out.below hb3
 have HR:=Lh r1
 clear hb3 h3 HB1 HR1
 have c0:=r1.cell 0
 have c1:=r1.cell 1
 have c2:=r1.cell 2
 have f0:=r1.frozen 0
 have f1:=r1.frozen 1
 have f2:=r1.frozen 2
 clear r1
 go_wp2
 have R8:=row_set3 (.int .u32 (f:Int)) (.int .i64 16) (.int .i64 384) HR.out
 have B8:=below_set3 (b:=w.heap.size) (.int .u32 (f:Int)) (.int .i64 16) (.int .i64 384) HB.out Lr
 clear c0 c1 c2 f0 f1 f2
 have d0:=R8.cell 0
 have d1:=R8.cell 1
 have d2:=R8.cell 2
 exact bodyPost_ret (v:= .tuple #[roV f 16 384,.bool true]) (by simp [results,Tryz.results110,go_sem,d0,d1,d2]) rfl ⟨rfl,B8⟩
end Go.Proofs.YtfcfbcjiijfjgaaGreatDoor.Me
namespace Go.Proofs.YtfcfbcjiijfjgaaGreatDoor.Me
open Go.RowKit Go.Shelf
theorem le_one {n:Nat}:Wo.le 1 n= [UInt8.ofNat n]:=by
 simp only [Wo.le]
 rw [show UInt8.ofNat (n % 256)=UInt8.ofNat n from UInt8.toNat_inj.1 (by simp)]
theorem ofNat_mod (n:Nat):UInt8.ofNat (n % 256)=UInt8.ofNat n:=UInt8.toNat_inj.1 (by simp)
theorem le_two {n:Nat}:Wo.le 2 n=by2 n:=by
 simp only [Wo.le,by2,ofNat_mod]
theorem le_four {n:Nat}:Wo.le 4 n=by4 n:=by
 simp only [Wo.le,by4,by2,ofNat_mod,Nat.div_div_eq_div_mul,List.cons_append,List.nil_append]
theorem val_one (a:UInt8):Wo.leVal [a]=a.toNat:=by simp [Wo.leVal]
theorem val_two (f:Byts) (o:Nat):Wo.leVal [f o,f (o+1)]=le2 f o:=by simp [Wo.leVal,le2]
theorem val_four (f:Byts) (o:Nat):Wo.leVal [f o,f (o+1),f (o+2),f (o+3)]=le4 f o:=by
 simp only [Wo.leVal,le4,le2,show o+2+1=o+3 from rfl]
 omega
def cutL (f:Byts) (o k:Nat):List UInt8:=(List.range k).map fun j=>f (o+j)
theorem cutL_len (f:Byts) (o k:Nat):(cutL f o k).length=k:=by simp [cutL]
theorem cutL_cut (f:Byts) (o k a m:Nat) (h:a+m≤k):((cutL f o k).drop a).take m=cutL f (o+a) m:=by
 refine List.ext_getElem (by simp [cutL];omega) fun i h1 h2=> ?_
 simp [cutL,Nat.add_assoc]
theorem cut_one (f:Byts) (o:Nat):cutL f o 1= [f o]:=rfl
theorem cut_two (f:Byts) (o:Nat):cutL f o 2= [f o,f (o+1)]:=rfl
theorem cut_four (f:Byts) (o:Nat):cutL f o 4= [f o,f (o+1),f (o+2),f (o+3)]:=rfl
theorem le2_lt (f:Byts) (o:Nat):le2 f o≤65535:=by
 have h1:=(f o).toNat_lt
 have h2:=(f (o+1)).toNat_lt
 unfold le2
 omega
theorem le4_lt (f:Byts) (o:Nat):le4 f o≤4294967295:=by
 have h1:=le2_lt f o
 have h2:=le2_lt f (o+2)
 unfold le4
 omega
theorem byte_zero {b:UInt8}:b.toNat≤0↔b=0:=by
 constructor
 ·intro h
  exact UInt8.toNat_inj.1 (by have:b.toNat=0:=by omega
                              rw [this];rfl)
 ·rintro rfl
  exact Nat.le_refl _
end Go.Proofs.YtfcfbcjiijfjgaaGreatDoor.Me
namespace Go.Proofs.YtfcfbcjiijfjgaaGreatDoor
open Go.ChangeShapes Go.WideShapes Go.ChangeAt Go.RowKit
theorem laidOut:laidOutB Tryz.prog=true:=pgThree.1
theorem ownKnob_none:ownKnob Tryz.prog.godebug=none:=by kernel_rfl
theorem gPayType:(Tryz.prog.globals[0]?).map (·.type)=some 317:=by kernel_rfl
theorem gPay:Tryz.prog.globalNamed "pinfold/size.payloads" =some 0:=by kernel_rfl
theorem cellsPay:Tryz.prog.cellsOf 317=8:=by kernel_rfl
theorem cellsInt:Tryz.prog.cellsOf 3=1:=by kernel_rfl
theorem gWidType:(Tryz.prog.globals[1]?).map (·.type)=some 322:=by kernel_rfl
theorem gWid:Tryz.prog.globalNamed "pinfold/word.widths" =some 1:=by kernel_rfl
theorem cellsWid:Tryz.prog.cellsOf 322=4:=by kernel_rfl
theorem cellsWd:Tryz.prog.cellsOf 298=1:=by kernel_rfl
def layCells (h:Array Obj) (g:Nat) (cs:Array Value):Array Obj:=h.modify g fun
 | .cells _ t frozen=> .cells cs t frozen
 | o=>o
noncomputable def laidWorld (os:Os):World:=
 {World.holding Tryz.prog os ⟨#[],#[],[]⟩ with heap:=layCells (layCells (World.holding Tryz.prog os ⟨#[],#[],[]⟩).heap 0 Sz.payCells) 1 #[.int .i64 1,.int .i64 2,.int .i64 4,.int .i64 8]}
abbrev Tab (w:World):Prop:=Me.Tabs w
theorem tab_of {W:World} (h:laidMetH Tryz.prog [("pinfold/size.payloads",Rows.laid_pinfold_size_payloads),("pinfold/word.widths",Rows.laid_pinfold_word_widths)] W):Me.Tabs W:=by
 refine⟨Sz.Tab.of (Lib.tabIs_of_head (rest:= [("pinfold/word.widths",Rows.laid_pinfold_word_widths)]) gPay gPayType Tryz.underlying317 Tryz.underlying3 cellsInt cellsPay h),Wo.Tab.of ?_⟩
 have h:laidMet Tryz.prog [("pinfold/size.payloads",Rows.laid_pinfold_size_payloads),("pinfold/word.widths",Rows.laid_pinfold_word_widths)] W:=h
 obtain⟨ps,⟨g,t,cs,fuel,p,q,hg,ht,hv,hd,⟨g2,t2,cs2,fuel2,p2,q2,hg2,ht2,hv2,hd2,_,_⟩,_⟩,_⟩:=h
 obtain rfl:=Option.some.inj (gWid.symm.trans hg2)
 obtain rfl:=Option.some.inj (gWidType.symm.trans ht2)
 unfold Lib.TabIs
 rw [hv2,←Lib.cells_of_tab (zs:= [1,2,4,8]) Tryz.underlying322 Tryz.underlying298 cellsWd cellsWid hd2]
end Go.Proofs.YtfcfbcjiijfjgaaGreatDoor
