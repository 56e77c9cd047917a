import Derived.Test.YtfcfbcjiijfjgaaGreatDoorPAS
import Derived.Test.YtfcfbcjiijfjgaaGreatDoorPAV
set_option maxHeartbeats 4000000
set_option maxRecDepth 100000
namespace Go.Proofs.YtfcfbcjiijfjgaaGreatDoor.Me
open Go.RowKit Go.Shelf
attribute [local go_sem] Oper.semAt_some
def smallP:List Prt:= [⟨1,4,78,79⟩,⟨1,0,156,157⟩,⟨2,65535,81,82⟩,⟨4,4294967295,83,84⟩]
theorem smallP_frm:∀k,k≤4→frm smallP k≤1000:=by
 intro k hk
 rcases(show k=0∨k=1∨k=2∨k=3∨k=4 by omega) with rfl | rfl | rfl | rfl | rfl <;> decide
theorem nought_Rec (K:Int) (w:World):Calls Tryz.prog 80 #[.int .i64 K] w fun e w'=>e= .returned (paV K 0 156 157)∧Below w.heap.size w w':=by
 go_enter Tryz.func80,Tryz.ntmps80
 go_wp2
 have r0:=Row.new w 106 [.int .i64 K,.int .i64 0,.func (.func 156) #[] #[],.func (.func 157) #[] #[]]
 have d0:=r0.cell 0
 have d1:=r0.cell 1
 have d2:=r0.cell 2
 have d3:=r0.cell 3
 exact bodyPost_ret (v:=paV K 0 156 157) (by simp [results,Tryz.results80,go_sem,d0,d1,d2,d3]) rfl ⟨rfl,below1 _ _⟩
theorem tell_small1 (st sz no:Int) (w:World):Calls Tryz.prog 78 #[.agg #[.int .i64 st,.int .i64 sz,.int .u32 no]] w fun e w'=>e= .returned (.int .i64 st)∧Below w.heap.size w w':=by
 go_enter Tryz.func78,Tryz.ntmps78
 go_wp2
 go_ret
 exact⟨rfl,below1 _ _⟩
theorem say_small2 (x0 x1 x2:Value) (b:Nat) (z:Int) (w:World) (h:Row w b 41 [x0,x1,x2]):Calls Tryz.prog 79 #[.pointer (some ⟨b,0,none⟩),.int .i64 z] w fun e w'=>(∃u,e= .returned u)∧Row w' b 41 [.int .i64 z,x1,x2]∧Keep (· =b) w w':=by
 have c0:w.cell? ⟨b,0,none⟩=_:=h.cell 0
 have f0:=h.frozen 0
 have HR:=Lh h
 go_enter Tryz.func79,Tryz.ntmps79
 go_wp2
 go_end0
 exact⟨⟨_,rfl⟩,HR.out.set 0 _,(Keep.refl _).set _ (.inl rfl)⟩
theorem tell_nought_Rec_1 (st sz no:Int) (w:World):Calls Tryz.prog 156 #[.agg #[.int .i64 st,.int .i64 sz,.int .u32 no]] w fun e w'=>e= .returned (.int .i64 0)∧Below w.heap.size w w':=by
 go_enter Tryz.func156,Tryz.ntmps156
 go_wp2
 go_ret
 exact⟨rfl,below1 _ _⟩
theorem say_nought_Rec_2 (cs:List Value) (b:Nat) (z:Int) (w:World) (h:Row w b 41 cs):Calls Tryz.prog 157 #[.pointer (some ⟨b,0,none⟩),.int .i64 z] w fun e w'=>(∃u,e= .returned u)∧Row w' b 41 cs∧Keep (· =b) w w':=by
 go_enter Tryz.func157,Tryz.ntmps157
 go_wp2
 go_end0
 exact⟨⟨_,rfl⟩,h,Keep.refl _⟩
theorem tell_small3 (st sz no:Int) (w:World):Calls Tryz.prog 81 #[.agg #[.int .i64 st,.int .i64 sz,.int .u32 no]] w fun e w'=>e= .returned (.int .i64 sz)∧Below w.heap.size w w':=by
 go_enter Tryz.func81,Tryz.ntmps81
 go_wp2
 go_ret
 exact⟨rfl,below1 _ _⟩
theorem say_small4 (x0 x1 x2:Value) (b:Nat) (z:Int) (w:World) (h:Row w b 41 [x0,x1,x2]):Calls Tryz.prog 82 #[.pointer (some ⟨b,0,none⟩),.int .i64 z] w fun e w'=>(∃u,e= .returned u)∧Row w' b 41 [x0,.int .i64 z,x2]∧Keep (· =b) w w':=by
 have c0:w.cell? ⟨b,1,none⟩=_:=h.cell 1
 have f0:=h.frozen 1
 have HR:=Lh h
 go_enter Tryz.func82,Tryz.ntmps82
 go_wp2
 go_end0
 exact⟨⟨_,rfl⟩,HR.out.set 1 _,(Keep.refl _).set _ (.inl rfl)⟩
theorem tell_small5 (st sz no:Int) (w:World) (h:0≤no) (h2:no < 4294967296):Calls Tryz.prog 83 #[.agg #[.int .i64 st,.int .i64 sz,.int .u32 no]] w fun e w'=>e= .returned (.int .i64 no)∧Below w.heap.size w w':=by
 have e0:IntKind.i64.wrap no=no:=wrapI _ (by omega) (by omega)
 go_enter Tryz.func83,Tryz.ntmps83
 go_wp2
 go_ret
 exact⟨rfl,below1 _ _⟩
theorem say_small6 (x0 x1 x2:Value) (b:Nat) (z:Int) (w:World) (h:Row w b 41 [x0,x1,x2]) (h1:0≤z) (h2:z < 4294967296):Calls Tryz.prog 84 #[.pointer (some ⟨b,0,none⟩),.int .i64 z] w fun e w'=>(∃u,e= .returned u)∧Row w' b 41 [x0,x1,.int .u32 z]∧Keep (· =b) w w':=by
 have c0:w.cell? ⟨b,2,none⟩=_:=h.cell 2
 have f0:=h.frozen 2
 have e0:IntKind.u32.wrap z=z:=wrapU _ h1 h2
 have HR:=Lh h
 go_enter Tryz.func84,Tryz.ntmps84
 go_wp2
 go_end0
 exact⟨⟨_,rfl⟩,HR.out.set 2 _,(Keep.refl _).set _ (.inl rfl)⟩
def greatP:List Prt:= [⟨1,4,100,101⟩,⟨1,0,172,173⟩,⟨2,65535,103,104⟩,⟨4,262144,105,106⟩,⟨4,65535,107,108⟩,⟨4,0,172,173⟩]
theorem greatP_frm:∀k,k≤6→frm greatP k≤1000:=by
 intro k hk
 rcases(show k=0∨k=1∨k=2∨k=3∨k=4∨k=5∨k=6 by omega) with rfl | rfl | rfl | rfl | rfl | rfl | rfl <;> decide
theorem nought_Gre (K:Int) (w:World):Calls Tryz.prog 102 #[.int .i64 K] w fun e w'=>e= .returned (paV K 0 172 173)∧Below w.heap.size w w':=by
 go_enter Tryz.func102,Tryz.ntmps102
 go_wp2
 have r0:=Row.new w 121 [.int .i64 K,.int .i64 0,.func (.func 172) #[] #[],.func (.func 173) #[] #[]]
 have d0:=r0.cell 0
 have d1:=r0.cell 1
 have d2:=r0.cell 2
 have d3:=r0.cell 3
 exact bodyPost_ret (v:=paV K 0 172 173) (by simp [results,Tryz.results102,go_sem,d0,d1,d2,d3]) rfl ⟨rfl,below1 _ _⟩
theorem tell_great1 (st pg sz fi:Int) (w:World):Calls Tryz.prog 100 #[.agg #[.int .i64 st,.int .i64 pg,.int .i64 sz,.int .i64 fi]] w fun e w'=>e= .returned (.int .i64 st)∧Below w.heap.size w w':=by
 go_enter Tryz.func100,Tryz.ntmps100
 go_wp2
 go_ret
 exact⟨rfl,below1 _ _⟩
theorem say_great2 (x0 x1 x2 x3:Value) (b:Nat) (z:Int) (w:World) (h:Row w b 43 [x0,x1,x2,x3]):Calls Tryz.prog 101 #[.pointer (some ⟨b,0,none⟩),.int .i64 z] w fun e w'=>(∃u,e= .returned u)∧Row w' b 43 [.int .i64 z,x1,x2,x3]∧Keep (· =b) w w':=by
 have c0:w.cell? ⟨b,0,none⟩=_:=h.cell 0
 have f0:=h.frozen 0
 have HR:=Lh h
 go_enter Tryz.func101,Tryz.ntmps101
 go_wp2
 go_end0
 exact⟨⟨_,rfl⟩,HR.out.set 0 _,(Keep.refl _).set _ (.inl rfl)⟩
theorem tell_nought_Gre_1 (st pg sz fi:Int) (w:World):Calls Tryz.prog 172 #[.agg #[.int .i64 st,.int .i64 pg,.int .i64 sz,.int .i64 fi]] w fun e w'=>e= .returned (.int .i64 0)∧Below w.heap.size w w':=by
 go_enter Tryz.func172,Tryz.ntmps172
 go_wp2
 go_ret
 exact⟨rfl,below1 _ _⟩
theorem say_nought_Gre_2 (cs:List Value) (b:Nat) (z:Int) (w:World) (h:Row w b 43 cs):Calls Tryz.prog 173 #[.pointer (some ⟨b,0,none⟩),.int .i64 z] w fun e w'=>(∃u,e= .returned u)∧Row w' b 43 cs∧Keep (· =b) w w':=by
 go_enter Tryz.func173,Tryz.ntmps173
 go_wp2
 go_end0
 exact⟨⟨_,rfl⟩,h,Keep.refl _⟩
theorem tell_great3 (st pg sz fi:Int) (w:World):Calls Tryz.prog 103 #[.agg #[.int .i64 st,.int .i64 pg,.int .i64 sz,.int .i64 fi]] w fun e w'=>e= .returned (.int .i64 pg)∧Below w.heap.size w w':=by
 go_enter Tryz.func103,Tryz.ntmps103
 go_wp2
 go_ret
 exact⟨rfl,below1 _ _⟩
theorem say_great4 (x0 x1 x2 x3:Value) (b:Nat) (z:Int) (w:World) (h:Row w b 43 [x0,x1,x2,x3]):Calls Tryz.prog 104 #[.pointer (some ⟨b,0,none⟩),.int .i64 z] w fun e w'=>(∃u,e= .returned u)∧Row w' b 43 [x0,.int .i64 z,x2,x3]∧Keep (· =b) w w':=by
 have c0:w.cell? ⟨b,1,none⟩=_:=h.cell 1
 have f0:=h.frozen 1
 have HR:=Lh h
 go_enter Tryz.func104,Tryz.ntmps104
 go_wp2
 go_end0
 exact⟨⟨_,rfl⟩,HR.out.set 1 _,(Keep.refl _).set _ (.inl rfl)⟩
theorem tell_great5 (st pg sz fi:Int) (w:World):Calls Tryz.prog 105 #[.agg #[.int .i64 st,.int .i64 pg,.int .i64 sz,.int .i64 fi]] w fun e w'=>e= .returned (.int .i64 sz)∧Below w.heap.size w w':=by
 go_enter Tryz.func105,Tryz.ntmps105
 go_wp2
 go_ret
 exact⟨rfl,below1 _ _⟩
theorem say_great6 (x0 x1 x2 x3:Value) (b:Nat) (z:Int) (w:World) (h:Row w b 43 [x0,x1,x2,x3]):Calls Tryz.prog 106 #[.pointer (some ⟨b,0,none⟩),.int .i64 z] w fun e w'=>(∃u,e= .returned u)∧Row w' b 43 [x0,x1,.int .i64 z,x3]∧Keep (· =b) w w':=by
 have c0:w.cell? ⟨b,2,none⟩=_:=h.cell 2
 have f0:=h.frozen 2
 have HR:=Lh h
 go_enter Tryz.func106,Tryz.ntmps106
 go_wp2
 go_end0
 exact⟨⟨_,rfl⟩,HR.out.set 2 _,(Keep.refl _).set _ (.inl rfl)⟩
theorem tell_great7 (st pg sz fi:Int) (w:World):Calls Tryz.prog 107 #[.agg #[.int .i64 st,.int .i64 pg,.int .i64 sz,.int .i64 fi]] w fun e w'=>e= .returned (.int .i64 fi)∧Below w.heap.size w w':=by
 go_enter Tryz.func107,Tryz.ntmps107
 go_wp2
 go_ret
 exact⟨rfl,below1 _ _⟩
theorem say_great8 (x0 x1 x2 x3:Value) (b:Nat) (z:Int) (w:World) (h:Row w b 43 [x0,x1,x2,x3]):Calls Tryz.prog 108 #[.pointer (some ⟨b,0,none⟩),.int .i64 z] w fun e w'=>(∃u,e= .returned u)∧Row w' b 43 [x0,x1,x2,.int .i64 z]∧Keep (· =b) w w':=by
 have c0:w.cell? ⟨b,3,none⟩=_:=h.cell 3
 have f0:=h.frozen 3
 have HR:=Lh h
 go_enter Tryz.func108,Tryz.ntmps108
 go_wp2
 go_end0
 exact⟨⟨_,rfl⟩,HR.out.set 3 _,(Keep.refl _).set _ (.inl rfl)⟩
def smallC:List Value:= [.int .i64 1,.int .i64 4,.func (.func 78) #[] #[],.func (.func 79) #[] #[],.int .i64 1,.int .i64 0,.func (.func 156) #[] #[],.func (.func 157) #[] #[],.int .i64 2,.int .i64 65535,.func (.func 81) #[] #[],.func (.func 82) #[] #[],.int .i64 4,.int .i64 4294967295,.func (.func 83) #[] #[],.func (.func 84) #[] #[]]
theorem smallC_eq:prtCells smallP=smallC:=rfl
theorem small_info:(Tryz.prog.info? 107).map (·.size)=some 16:=by kernel_rfl
theorem small_any (w:World):Calls Tryz.prog 38 #[] w fun e w'=>e= .returned (.agg (prtCells smallP).toArray)∧Below w.heap.size w w':=by
 rw [smallC_eq]
 have HN:=Lh (fun K W=>nought_Rec K W)
 have HFIN:Hid (∀W,Row W w.heap.size 107 [.int .i64 0,.int .i64 0,.nilFunc,.nilFunc,.int .i64 0,.int .i64 0,.nilFunc,.nilFunc,.int .i64 0,.int .i64 0,.nilFunc,.nilFunc,.int .i64 0,.int .i64 0,.nilFunc,.nilFunc]→Below w.heap.size w W→(W.there w.heap.size 0 (smallC.toArray.size)∧(Tryz.prog.info? 107).map (·.size)=some smallC.toArray.size∧smallC.toArray.all (·.oneCell')=true∧(loadVar 107 ⟨w.heap.size,0,none⟩).run Tryz.prog (W.setCells w.heap.size 0 smallC.toArray.toList)= .ok (.agg smallC.toArray) (W.setCells w.heap.size 0 smallC.toArray.toList)∧Below w.heap.size w (W.setCells w.heap.size 0 smallC.toArray.toList))):=Lh (fun W h hb=>by
  have r3:Row (W.setCells w.heap.size 0 smallC.toArray.toList) w.heap.size 107 smallC:=set_from smallC [] _ h rfl
  exact⟨row_there h rfl,small_info,by kernel_rfl,run_loadVar_mid _ w.heap.size 0 _ smallC _ (row_range r3) Tryz.underlying107 rfl small_info,set_below w.heap.size _ Lr _ _ _ hb⟩)
 have HR0:=Lh (Row.new w 107 [.int .i64 0,.int .i64 0,.nilFunc,.nilFunc,.int .i64 0,.int .i64 0,.nilFunc,.nilFunc,.int .i64 0,.int .i64 0,.nilFunc,.nilFunc,.int .i64 0,.int .i64 0,.nilFunc,.nilFunc])
 have HB0:=Lh (below1 w (.cells #[.int .i64 0,.int .i64 0,.nilFunc,.nilFunc,.int .i64 0,.int .i64 0,.nilFunc,.nilFunc,.int .i64 0,.int .i64 0,.nilFunc,.nilFunc,.int .i64 0,.int .i64 0,.nilFunc,.nilFunc] 107))
 go_enter Tryz.func38,Tryz.ntmps38
 go_wp2_with fail
 refine(HN.out _ _).mono ?_
 rintro e w1 ⟨rfl,hb⟩
 have HR1:=Lh (HR0.out.below hb)
 have HB1:=Lh (below0 HB0.out hb)
 clear hb
 obtain⟨t1,t2,t3,t4,t5⟩:=HFIN.out _ HR1.out HB1.out
 have HT:=Lh (And.intro t1 (And.intro t2 (And.intro t3 (And.intro t4 t5))))
 clear t1 t2 t3 t4 t5 HFIN
 go_wp2_with (refine wpList_store_mid rfl 107 (.tmp 0) (.tmp 5) rfl w.heap.size 0 smallC.toArray rfl rfl HT.out.1 HT.out.2.1 HT.out.2.2.1 ?_)
 exact bodyPost_ret (res_cell1 Tryz.results38 rfl HT.out.2.2.2.1) rfl ⟨rfl,HT.out.2.2.2.2⟩
def greatC:List Value:= [.int .i64 1,.int .i64 4,.func (.func 100) #[] #[],.func (.func 101) #[] #[],.int .i64 1,.int .i64 0,.func (.func 172) #[] #[],.func (.func 173) #[] #[],.int .i64 2,.int .i64 65535,.func (.func 103) #[] #[],.func (.func 104) #[] #[],.int .i64 4,.int .i64 262144,.func (.func 105) #[] #[],.func (.func 106) #[] #[],.int .i64 4,.int .i64 65535,.func (.func 107) #[] #[],.func (.func 108) #[] #[],.int .i64 4,.int .i64 0,.func (.func 172) #[] #[],.func (.func 173) #[] #[]]
theorem greatC_eq:prtCells greatP=greatC:=rfl
theorem great_info:(Tryz.prog.info? 122).map (·.size)=some 24:=by kernel_rfl
theorem great_any (w:World):Calls Tryz.prog 44 #[] w fun e w'=>e= .returned (.agg (prtCells greatP).toArray)∧Below w.heap.size w w':=by
 rw [greatC_eq]
 have HN:=Lh (fun K W=>nought_Gre K W)
 have HFIN:Hid (∀W,Row W w.heap.size 122 [.int .i64 0,.int .i64 0,.nilFunc,.nilFunc,.int .i64 0,.int .i64 0,.nilFunc,.nilFunc,.int .i64 0,.int .i64 0,.nilFunc,.nilFunc,.int .i64 0,.int .i64 0,.nilFunc,.nilFunc,.int .i64 0,.int .i64 0,.nilFunc,.nilFunc,.int .i64 0,.int .i64 0,.nilFunc,.nilFunc]→Below w.heap.size w W→(W.there w.heap.size 0 (greatC.toArray.size)∧(Tryz.prog.info? 122).map (·.size)=some greatC.toArray.size∧greatC.toArray.all (·.oneCell')=true∧(loadVar 122 ⟨w.heap.size,0,none⟩).run Tryz.prog (W.setCells w.heap.size 0 greatC.toArray.toList)= .ok (.agg greatC.toArray) (W.setCells w.heap.size 0 greatC.toArray.toList)∧Below w.heap.size w (W.setCells w.heap.size 0 greatC.toArray.toList))):=Lh (fun W h hb=>by
  have r3:Row (W.setCells w.heap.size 0 greatC.toArray.toList) w.heap.size 122 greatC:=set_from greatC [] _ h rfl
  exact⟨row_there h rfl,great_info,by kernel_rfl,run_loadVar_mid _ w.heap.size 0 _ greatC _ (row_range r3) Tryz.underlying122 rfl great_info,set_below w.heap.size _ Lr _ _ _ hb⟩)
 have HR0:=Lh (Row.new w 122 [.int .i64 0,.int .i64 0,.nilFunc,.nilFunc,.int .i64 0,.int .i64 0,.nilFunc,.nilFunc,.int .i64 0,.int .i64 0,.nilFunc,.nilFunc,.int .i64 0,.int .i64 0,.nilFunc,.nilFunc,.int .i64 0,.int .i64 0,.nilFunc,.nilFunc,.int .i64 0,.int .i64 0,.nilFunc,.nilFunc])
 have HB0:=Lh (below1 w (.cells #[.int .i64 0,.int .i64 0,.nilFunc,.nilFunc,.int .i64 0,.int .i64 0,.nilFunc,.nilFunc,.int .i64 0,.int .i64 0,.nilFunc,.nilFunc,.int .i64 0,.int .i64 0,.nilFunc,.nilFunc,.int .i64 0,.int .i64 0,.nilFunc,.nilFunc,.int .i64 0,.int .i64 0,.nilFunc,.nilFunc] 122))
 go_enter Tryz.func44,Tryz.ntmps44
 go_wp2_with fail
 refine(HN.out _ _).mono ?_
 rintro e w1 ⟨rfl,hb⟩
 have HR1:=Lh (HR0.out.below hb)
 have HB1:=Lh (below0 HB0.out hb)
 clear hb
 go_wp2_with fail
 refine(HN.out _ _).mono ?_
 rintro e w2 ⟨rfl,hb⟩
 have HR2:=Lh (HR1.out.below hb)
 have HB2:=Lh (below0 HB1.out hb)
 clear hb
 obtain⟨t1,t2,t3,t4,t5⟩:=HFIN.out _ HR2.out HB2.out
 have HT:=Lh (And.intro t1 (And.intro t2 (And.intro t3 (And.intro t4 t5))))
 clear t1 t2 t3 t4 t5 HFIN
 go_wp2_with (refine wpList_store_mid rfl 122 (.tmp 0) (.tmp 7) rfl w.heap.size 0 greatC.toArray rfl rfl HT.out.1 HT.out.2.1 HT.out.2.2.1 ?_)
 exact bodyPost_ret (res_cell1 Tryz.results44 rfl HT.out.2.2.2.1) rfl ⟨rfl,HT.out.2.2.2.2⟩
theorem fitsL_iff (l:List Prt) (tv:Nat→Int):fitsL l tv=true↔∀k,k < l.length→0≤tv k∧tv k≤((prt l k).mo:Int):=by
 unfold fitsL
 rw [List.all_eq_true]
 constructor
 ·intro h k hk
  have:=h k (List.mem_range.2 hk)
  unfold okK at this
  rw [Bool.and_eq_true,decide_eq_true_eq,decide_eq_true_eq]at this
  exact this
 ·intro h k hk
  have:=h k (List.mem_range.1 hk)
  unfold okK
  rw [Bool.and_eq_true,decide_eq_true_eq,decide_eq_true_eq]
  exact this
def nvOf (bs:List UInt8) (l:List Prt) (k:Nat):Nat:=Wo.leVal ((bs.drop (frm l k)).take (prt l k).wd)
def tvRec (st sz no:Int):Nat→Int
 | 0=>st
 | 1=>0
 | 2=>sz
 | _=>no
theorem eg_tell_Rec:∀k,k < smallP.length→∀args w,(callFunc (prt smallP k).tf args).run Tryz.prog w= .ok (.enter (prt smallP k).tf args) w:=by
 intro k hk
 have hc:k=0∨k=1∨k=2∨k=3:=by
  have:smallP.length=4:=rfl
  omega
 rcases hc with rfl | rfl | rfl | rfl
 ·exact enters_of Tryz.func78 (by kernel_rfl) rfl
 ·exact enters_of Tryz.func156 (by kernel_rfl) rfl
 ·exact enters_of Tryz.func81 (by kernel_rfl) rfl
 ·exact enters_of Tryz.func83 (by kernel_rfl) rfl
theorem eg_say_Rec:∀k,k < smallP.length→∀args w,(callFunc (prt smallP k).sf args).run Tryz.prog w= .ok (.enter (prt smallP k).sf args) w:=by
 intro k hk
 have hc:k=0∨k=1∨k=2∨k=3:=by
  have:smallP.length=4:=rfl
  omega
 rcases hc with rfl | rfl | rfl | rfl
 ·exact enters_of Tryz.func79 (by kernel_rfl) rfl
 ·exact enters_of Tryz.func157 (by kernel_rfl) rfl
 ·exact enters_of Tryz.func82 (by kernel_rfl) rfl
 ·exact enters_of Tryz.func84 (by kernel_rfl) rfl
theorem tells_Rec (st sz no:Int) (h0:0≤no) (hh0:no < 4294967296):∀k,k < smallP.length→∀W,Calls Tryz.prog (prt smallP k).tf #[.agg #[.int .i64 st,.int .i64 sz,.int .u32 no]] W fun e W'=>e= .returned (.int .i64 (tvRec st sz no k))∧Below W.heap.size W W':=by
 intro k hk W
 have hc:k=0∨k=1∨k=2∨k=3:=by
  have:smallP.length=4:=rfl
  omega
 rcases hc with rfl | rfl | rfl | rfl
 ·exact tell_small1 st sz no W
 ·exact tell_nought_Rec_1 st sz no W
 ·exact tell_small3 st sz no W
 ·exact tell_small5 st sz no W h0 hh0
theorem fits_small_eq (st sz no:Int) (hno:0≤no) (hno2:no < 4294967296):fitsL smallP (tvRec st sz no)=decide (rightR st sz):=by
 rw [Bool.eq_iff_iff,fitsL_iff,decide_eq_true_eq]
 constructor
 ·intro h
  have g0:=h 0 (by decide)
  have g1:=h 1 (by decide)
  have g2:=h 2 (by decide)
  have g3:=h 3 (by decide)
  simp only [tvRec,prt,smallP,List.getD_cons_zero,List.getD_cons_succ]at g0 g1 g2 g3
  unfold rightR
  omega
 ·intro h k hk
  unfold rightR at h
  have hc:k=0∨k=1∨k=2∨k=3:=by
   have:smallP.length=4:=rfl
   omega
  rcases hc with rfl | rfl | rfl | rfl
  all_goals simp only [tvRec,prt,smallP,List.getD_cons_zero,List.getD_cons_succ]
  all_goals omega
theorem fits_small (st sz no:Int) (hno:0≤no) (hno2:no < 4294967296) (g c:Nat) (t:TypeId) (w:World) (hrow:Row w g t (prtCells smallP)) (hc:4≤c):Calls Tryz.prog 85 #[.agg #[.int .i64 st,.int .i64 sz,.int .u32 no],.slice (some ⟨g,0,none⟩) 4 c] w fun e w'=>e= .returned (.bool (decide (rightR st sz)))∧Below w.heap.size w w':=by
 rw [←fits_small_eq st sz no hno hno2]
 exact fits_Rec st sz no (tvRec st sz no) smallP g 4 c t w hrow rfl (by omega) hc smallP_frm eg_tell_Rec (tells_Rec st sz no hno hno2)
def stRec (nv:Nat→Nat):Nat→List Value
 | 0=> [.int .i64 0,.int .i64 0,.int .u32 0]
 | 1=> [.int .i64 (nv 0:Int),.int .i64 0,.int .u32 0]
 | 2=> [.int .i64 (nv 0:Int),.int .i64 0,.int .u32 0]
 | 3=> [.int .i64 (nv 0:Int),.int .i64 (nv 2:Int),.int .u32 0]
 | _=> [.int .i64 (nv 0:Int),.int .i64 (nv 2:Int),.int .u32 (nv 3:Int)]
theorem says_Rec (nv:Nat→Nat):∀k,k < smallP.length→okN smallP nv k→∀(b:Nat) W,Row W b 41 (stRec nv k)→Calls Tryz.prog (prt smallP k).sf #[.pointer (some ⟨b,0,none⟩),.int .i64 (nv k:Int)] W fun e W'=>(∃u,e= .returned u)∧Row W' b 41 (stRec nv (k+1))∧Keep (· =b) W W':=by
 intro k hk ho b W h
 have hc:k=0∨k=1∨k=2∨k=3:=by
  have:smallP.length=4:=rfl
  omega
 rcases hc with rfl | rfl | rfl | rfl
 ·exact say_small2 _ _ _ b _ W h
 ·exact say_nought_Rec_2 _ b _ W h
 ·exact say_small4 _ _ _ b _ W h
 ·have ho2:nv 3≤4294967295:=ho
  exact say_small6 _ _ _ b _ W h (by omega) (by omega)
theorem unp1_Rec (bo g c n f wd:Nat) (bs:List UInt8) (w:World) (hT:Tabs w) (hc:w.cell? ⟨bo,0,none⟩=some (.slice (some ⟨g,0,none⟩) n c)) (hs:Sees w w.heap.size (some ⟨g,0,none⟩) (byt bs)) (hn:bs.length=n) (hnc:n≤c) (hw:Wo.wid (wd:Int)=true) (hw4:wd≤4) (hf:f+wd≤n) (hn1:n≤100000):
  Calls Tryz.prog 170 #[.int .i64 (f:Int),.int .i64 (wd:Int),.pointer (some ⟨bo,0,none⟩)] w fun e w'=>e= .returned (.int .i64 (Wo.leVal ((bs.drop f).take wd):Int))∧Below w.heap.size w w':=by
 have hsub:Sees w w.heap.size (some ⟨g,f,none⟩) (byt ((bs.drop f).take wd)):=by
  have:=hs.sub f wd
  rw [Nat.zero_add,byt_drop,byt_take]at this
  exact this
 have hl:((bs.drop f).take wd).length=wd:=by simp;omega
 have hv:=Wo.leVal_lt ((bs.drop f).take wd)
 rw [hl]at hv
 have hv4:2 ^ (8*wd)≤2 ^ 32:=Nat.pow_le_pow_right (by omega) (by omega)
 have HG:=Lh (Wo.get_ok ((bs.drop f).take wd) wd (c - f) w.heap.size (some ⟨g,f,none⟩) w hT.2 hl hw hsub Lr)
 obtain⟨y,hy⟩:=Nm (Wo.leVal ((bs.drop f).take wd))
 rw [←hy]at HG hv ⊢
 have e0:IntKind.i64.wrap (y:Int)=(y:Int):=wrapI _ (by omega) (by omega)
 obtain⟨u,hu⟩:=Nm (f+wd)
 have e1:IntKind.i64.wrap ((f:Int)+(wd:Int))=(u:Int):=(wrapI _ (by omega) (by omega)).trans (by omega)
 have b0:(0:Int)≤(f:Int):=by omega
 have b1:(f:Int)≤(u:Int):=by omega
 have b2:(u:Int)≤(c:Int):=by omega
 have b3:f≤u:=by omega
 have b4:u≤c:=by omega
 have b5:u - f=wd:=by omega
 have hw1:1≤wd:=by
  rcases Wo.wid_cases hw with h | h | h | h <;> omega
 have b6:¬c=f:=by omega
 clear hsub hl hv hv4 hy hs hn hT hu hf hnc hn1 hw1
 go_enter Tryz.func170,Tryz.ntmps170
 go_wp2_with fail
 refine HG.out.mono ?_
 rintro e w1 ⟨rfl,hb⟩
 go_wp2
 go_ret
 exact⟨rfl,hb⟩
def tvGre (st pg sz fi:Int):Nat→Int
 | 0=>st
 | 1=>0
 | 2=>pg
 | 3=>sz
 | 4=>fi
 | _=>0
theorem eg_tell_Gre:∀k,k < greatP.length→∀args w,(callFunc (prt greatP k).tf args).run Tryz.prog w= .ok (.enter (prt greatP k).tf args) w:=by
 intro k hk
 have hc:k=0∨k=1∨k=2∨k=3∨k=4∨k=5:=by
  have:greatP.length=6:=rfl
  omega
 rcases hc with rfl | rfl | rfl | rfl | rfl | rfl
 ·exact enters_of Tryz.func100 (by kernel_rfl) rfl
 ·exact enters_of Tryz.func172 (by kernel_rfl) rfl
 ·exact enters_of Tryz.func103 (by kernel_rfl) rfl
 ·exact enters_of Tryz.func105 (by kernel_rfl) rfl
 ·exact enters_of Tryz.func107 (by kernel_rfl) rfl
 ·exact enters_of Tryz.func172 (by kernel_rfl) rfl
theorem eg_say_Gre:∀k,k < greatP.length→∀args w,(callFunc (prt greatP k).sf args).run Tryz.prog w= .ok (.enter (prt greatP k).sf args) w:=by
 intro k hk
 have hc:k=0∨k=1∨k=2∨k=3∨k=4∨k=5:=by
  have:greatP.length=6:=rfl
  omega
 rcases hc with rfl | rfl | rfl | rfl | rfl | rfl
 ·exact enters_of Tryz.func101 (by kernel_rfl) rfl
 ·exact enters_of Tryz.func173 (by kernel_rfl) rfl
 ·exact enters_of Tryz.func104 (by kernel_rfl) rfl
 ·exact enters_of Tryz.func106 (by kernel_rfl) rfl
 ·exact enters_of Tryz.func108 (by kernel_rfl) rfl
 ·exact enters_of Tryz.func173 (by kernel_rfl) rfl
theorem tells_Gre (st pg sz fi:Int):∀k,k < greatP.length→∀W,Calls Tryz.prog (prt greatP k).tf #[.agg #[.int .i64 st,.int .i64 pg,.int .i64 sz,.int .i64 fi]] W fun e W'=>e= .returned (.int .i64 (tvGre st pg sz fi k))∧Below W.heap.size W W':=by
 intro k hk W
 have hc:k=0∨k=1∨k=2∨k=3∨k=4∨k=5:=by
  have:greatP.length=6:=rfl
  omega
 rcases hc with rfl | rfl | rfl | rfl | rfl | rfl
 ·exact tell_great1 st pg sz fi W
 ·exact tell_nought_Gre_1 st pg sz fi W
 ·exact tell_great3 st pg sz fi W
 ·exact tell_great5 st pg sz fi W
 ·exact tell_great7 st pg sz fi W
 ·exact tell_nought_Gre_1 st pg sz fi W
theorem fits_great_eq (st pg sz fi:Int):fitsL greatP (tvGre st pg sz fi)=decide (rightG st pg sz fi):=by
 rw [Bool.eq_iff_iff,fitsL_iff,decide_eq_true_eq]
 constructor
 ·intro h
  have g0:=h 0 (by decide)
  have g1:=h 1 (by decide)
  have g2:=h 2 (by decide)
  have g3:=h 3 (by decide)
  have g4:=h 4 (by decide)
  have g5:=h 5 (by decide)
  simp only [tvGre,prt,greatP,List.getD_cons_zero,List.getD_cons_succ]at g0 g1 g2 g3 g4 g5
  unfold rightG
  omega
 ·intro h k hk
  unfold rightG at h
  have hc:k=0∨k=1∨k=2∨k=3∨k=4∨k=5:=by
   have:greatP.length=6:=rfl
   omega
  rcases hc with rfl | rfl | rfl | rfl | rfl | rfl
  all_goals simp only [tvGre,prt,greatP,List.getD_cons_zero,List.getD_cons_succ]
  all_goals omega
theorem fits_great (st pg sz fi:Int) (g c:Nat) (t:TypeId) (w:World) (hrow:Row w g t (prtCells greatP)) (hc:6≤c):Calls Tryz.prog 135 #[.agg #[.int .i64 st,.int .i64 pg,.int .i64 sz,.int .i64 fi],.slice (some ⟨g,0,none⟩) 6 c] w fun e w'=>e= .returned (.bool (decide (rightG st pg sz fi)))∧Below w.heap.size w w':=by
 rw [←fits_great_eq st pg sz fi]
 exact fits_Gre st pg sz fi (tvGre st pg sz fi) greatP g 6 c t w hrow rfl (by omega) hc greatP_frm eg_tell_Gre (tells_Gre st pg sz fi)
def stGre (nv:Nat→Nat):Nat→List Value
 | 0=> [.int .i64 0,.int .i64 0,.int .i64 0,.int .i64 0]
 | 1=> [.int .i64 (nv 0:Int),.int .i64 0,.int .i64 0,.int .i64 0]
 | 2=> [.int .i64 (nv 0:Int),.int .i64 0,.int .i64 0,.int .i64 0]
 | 3=> [.int .i64 (nv 0:Int),.int .i64 (nv 2:Int),.int .i64 0,.int .i64 0]
 | 4=> [.int .i64 (nv 0:Int),.int .i64 (nv 2:Int),.int .i64 (nv 3:Int),.int .i64 0]
 | 5=> [.int .i64 (nv 0:Int),.int .i64 (nv 2:Int),.int .i64 (nv 3:Int),.int .i64 (nv 4:Int)]
 | _=> [.int .i64 (nv 0:Int),.int .i64 (nv 2:Int),.int .i64 (nv 3:Int),.int .i64 (nv 4:Int)]
theorem says_Gre (nv:Nat→Nat):∀k,k < greatP.length→okN greatP nv k→∀(b:Nat) W,Row W b 43 (stGre nv k)→Calls Tryz.prog (prt greatP k).sf #[.pointer (some ⟨b,0,none⟩),.int .i64 (nv k:Int)] W fun e W'=>(∃u,e= .returned u)∧Row W' b 43 (stGre nv (k+1))∧Keep (· =b) W W':=by
 intro k hk ho b W h
 have hc:k=0∨k=1∨k=2∨k=3∨k=4∨k=5:=by
  have:greatP.length=6:=rfl
  omega
 rcases hc with rfl | rfl | rfl | rfl | rfl | rfl
 ·exact say_great2 _ _ _ _ b _ W h
 ·exact say_nought_Gre_2 _ b _ W h
 ·exact say_great4 _ _ _ _ b _ W h
 ·exact say_great6 _ _ _ _ b _ W h
 ·exact say_great8 _ _ _ _ b _ W h
 ·exact say_nought_Gre_2 _ b _ W h
theorem unp1_Gre (bo g c n f wd:Nat) (bs:List UInt8) (w:World) (hT:Tabs w) (hc:w.cell? ⟨bo,0,none⟩=some (.slice (some ⟨g,0,none⟩) n c)) (hs:Sees w w.heap.size (some ⟨g,0,none⟩) (byt bs)) (hn:bs.length=n) (hnc:n≤c) (hw:Wo.wid (wd:Int)=true) (hw4:wd≤4) (hf:f+wd≤n) (hn1:n≤100000):
  Calls Tryz.prog 175 #[.int .i64 (f:Int),.int .i64 (wd:Int),.pointer (some ⟨bo,0,none⟩)] w fun e w'=>e= .returned (.int .i64 (Wo.leVal ((bs.drop f).take wd):Int))∧Below w.heap.size w w':=by
 have hsub:Sees w w.heap.size (some ⟨g,f,none⟩) (byt ((bs.drop f).take wd)):=by
  have:=hs.sub f wd
  rw [Nat.zero_add,byt_drop,byt_take]at this
  exact this
 have hl:((bs.drop f).take wd).length=wd:=by simp;omega
 have hv:=Wo.leVal_lt ((bs.drop f).take wd)
 rw [hl]at hv
 have hv4:2 ^ (8*wd)≤2 ^ 32:=Nat.pow_le_pow_right (by omega) (by omega)
 have HG:=Lh (Wo.get_ok ((bs.drop f).take wd) wd (c - f) w.heap.size (some ⟨g,f,none⟩) w hT.2 hl hw hsub Lr)
 obtain⟨y,hy⟩:=Nm (Wo.leVal ((bs.drop f).take wd))
 rw [←hy]at HG hv ⊢
 have e0:IntKind.i64.wrap (y:Int)=(y:Int):=wrapI _ (by omega) (by omega)
 obtain⟨u,hu⟩:=Nm (f+wd)
 have e1:IntKind.i64.wrap ((f:Int)+(wd:Int))=(u:Int):=(wrapI _ (by omega) (by omega)).trans (by omega)
 have b0:(0:Int)≤(f:Int):=by omega
 have b1:(f:Int)≤(u:Int):=by omega
 have b2:(u:Int)≤(c:Int):=by omega
 have b3:f≤u:=by omega
 have b4:u≤c:=by omega
 have b5:u - f=wd:=by omega
 have hw1:1≤wd:=by
  rcases Wo.wid_cases hw with h | h | h | h <;> omega
 have b6:¬c=f:=by omega
 clear hsub hl hv hv4 hy hs hn hT hu hf hnc hn1 hw1
 go_enter Tryz.func175,Tryz.ntmps175
 go_wp2_with fail
 refine HG.out.mono ?_
 rintro e w1 ⟨rfl,hb⟩
 go_wp2
 go_ret
 exact⟨rfl,hb⟩
structure PkA (w0:World) (ga:Nat) (bl:Nat→List UInt8) (k:Nat) (V:World) (G:Nat→Prop):Prop where
 base:w0.heap.size=ga+1
 size:w0.heap.size≤V.heap.size
 own:G ga
 low:∀b,G b→b < V.heap.size∧ga≤b
 list:∃A c vs,Row V ga 248 [.slice A k c]∧V.ownsRow w0.heap.size 172 1 (.slice A k c) k vs∧vs.length=k∧(∀b,(Value.slice A k c).ownBlock=some b→G b)∧∀i,i < k→∃u,vs[i]?=some u∧Vm.Mine w0 G V u (bl i)
theorem PkA.says {w0:World} {ga:Nat} {bl:Nat→List UInt8}:Says (PkA w0 ga bl):=by
 refine⟨?_,fun h b hb=>(h.low b hb).1⟩
 rintro k V V' G h hk
 obtain⟨A,c,vs,h1,h2,h3,h4,h5⟩:=h.list
 have hlow:∀b,G b→b < V'.heap.size:=fun b hb=>by
  have h1:=(h.low b hb).1
  have h2:=hk b hb
  rw [Array.getElem?_eq_getElem h1]at h2
  exact(Array.getElem?_eq_some_iff.1 h2).1
 have hga:=hlow ga h.own
 refine⟨h.base,by have:=h.base;omega,h.own,fun b hb=>⟨hlow b hb,(h.low b hb).2⟩,A,c,vs,h1.same (hk ga h.own),own_same h2 (fun b e=>hk b (h4 b e)),h3,h4,fun i hi=> ?_⟩
 obtain⟨u,hu,hm⟩:=h5 i hi
 exact⟨u,hu,hm.keep (fun b h=>h) (fun b hb _=>hk b hb)⟩
theorem PkA.step {w0 V V2 w1:World} {ga k gp cap:Nat} {bl:Nat→List UInt8} {G:Nat→Prop} {A A':Option Addr} {c c':Nat} {vs:List Value} {n:Nat} (h:PkA w0 ga bl k V G) (h1:Row V ga 248 [.slice A k c]) (h2:V.ownsRow w0.heap.size 172 1 (.slice A k c) k vs) (h3:vs.length=k) (h4:∀b,(Value.slice A k c).ownBlock=some b→G b) (h5:∀i,i < k→∃u,vs[i]?=some u∧Vm.Mine w0 G V u (bl i))
  (hb:Below V.heap.size V V2) (hmine:V2.ownsRow V.heap.size 5 1 (.slice (some ⟨gp,0,none⟩) n cap) n (byt (bl k))) (hn:n=(bl k).length)
  (hown':w1.ownsRow w0.heap.size 172 1 (.slice A' (k+1) c') (k+1) (vs ++ [.slice (some ⟨gp,0,none⟩) n cap])) (hg1:(V2.alloc (.cells #[.slice (some ⟨gp,0,none⟩) n cap] 172)).grownBy w1 (Value.slice A k c).ownBlock)
  (hgg:(Value.slice A' (k+1) c').ownBlock=(Value.slice A k c).ownBlock∨(Value.slice A' (k+1) c').ownBlock=some (V2.alloc (.cells #[.slice (some ⟨gp,0,none⟩) n cap] 172)).heap.size):
  (∃x,w1.cell? ⟨ga,0,none⟩=some x)∧w1.frozen? ⟨ga,0,none⟩=false∧Hid (∃G',PkA w0 ga bl (k+1) (w1.setCell ⟨ga,0,none⟩ (.slice A' (k+1) c')) G'∧Keep G V (w1.setCell ⟨ga,0,none⟩ (.slice A' (k+1) c'))∧∀b,G' b→G b∨V.heap.size≤b):=by
 have hbs:=h.base
 have hvs:=h.size
 have hbA:=hb.alloc hb.size (.cells #[.slice (some ⟨gp,0,none⟩) n cap] 172)
 have hgs:=hg1.size
 have hs3:=hb.size
 rw [World.size_alloc]at hgs
 have hna:some ga≠(Value.slice A k c).ownBlock:=fun e=>by have:=h2.lt ga e.symm;omega
 have hk:∀b,b < V.heap.size→some b≠(Value.slice A k c).ownBlock→w1.heap[b]?=V.heap[b]?:=fun b h1 h2=>(hg1.block b (by rw [World.size_alloc];omega) h2).trans (hbA.block b h1)
 have hgl:=(h.low ga h.own).1
 have r1:Row w1 ga 248 [.slice A k c]:=h1.same (hk ga hgl hna)
 have hks:∀b,b≠ga→(w1.setCell ⟨ga,0,none⟩ (.slice A' (k+1) c')).heap[b]?=w1.heap[b]?:=fun b hb=>heap_set hb
 refine⟨⟨_,r1.cell 0⟩,r1.frozen 0,Lh ⟨fun b=>G b∨(V.heap.size≤b∧b < w1.heap.size),⟨hbs,by rw [World.size_setCell];omega,.inl h.own,fun b hb'=> ?_,A',c',_,r1.set 0 _,own_same hown' (fun b e=>hks b (fun e2=>by have:=hown'.lt b e;omega)),by rw [List.length_append,h3];rfl,fun b e=> ?_,fun i hi=> ?_⟩,?_,fun b hb'=> ?_⟩⟩
 ·rw [World.size_setCell]
  rcases hb' with h' | h'
  ·have:=h.low b h'
   omega
  ·omega
 ·rcases hgg with hg | hg
  ·exact .inl (h4 b (by rw [←hg];exact e))
  ·have hl:=own_lt hown' e
   have e2:some b=some (V2.heap.size+1):=by rw [←World.size_alloc V2,←hg];exact e.symm
   injection e2 with e2
   exact .inr ⟨by omega,hl⟩
 ·by_cases hil:i < k
  ·obtain⟨u,hu,hm⟩:=h5 i hil
   refine⟨u,by rw [List.getElem?_append_left (by omega)];exact hu,?_⟩
   refine hm.keep (fun b h=> .inl h) (fun b ho e=> ?_)
   obtain⟨A9,n9,c9,rfl,_,hh,_⟩:=hm
   have hl9:=hh.lt b e
   exact(hks b (by omega)).trans (hk b (own_lt hh e) (fun e2=>Vm.own_ne hh h2 (by decide) e e2.symm))
  ·obtain rfl:i=k:=by omega
   refine⟨.slice (some ⟨gp,0,none⟩) n cap,by rw [List.getElem?_append_right (by omega),h3];simp,_,_,_,rfl,hn,?_,?_⟩
   ·refine own_mono (own_same hmine fun b e=> ?_) (by omega)
    have h9:=hmine.lt b e
    have hkl:=own_lt hmine e
    exact(hks b (by omega)).trans ((hg1.block b (by rw [World.size_alloc];omega) (fun e2=>by have:=own_lt h2 e2.symm;omega)).trans (Below.heap_alloc _ _ _ hkl))
   ·intro b e
    have h9:=hmine.lt b e
    have hkl:=own_lt hmine e
    exact .inr ⟨by omega,by omega⟩
 ·exact((Keep.of_below hbA).grown hg1 (fun r e=> .inr (h4 r e))).set _ (.inl h.own)
 ·rcases hb' with h' | h'
  ·exact .inl h'
  ·exact .inr h'.1
theorem pk1_Rec {w0 V:World} {ga k:Nat} {bl:Nat→List UInt8} {G:Nat→Prop} (h:PkA w0 ga bl k V G) (hT:Tabs V) (z wd:Nat) (hk:k≤100) (hw:Wo.wid (wd:Int)=true) (hz:(z:Int)≤Wo.topOf (wd:Int)) (hz2:z < 4294967296) (hbl:bl k=Wo.le wd z):
  Calls Tryz.prog 162 #[.int .i64 (z:Int),.int .i64 (wd:Int),.pointer (some ⟨ga,0,none⟩)] V fun e V'=>(∃u,e= .returned u)∧∃G',PkA w0 ga bl (k+1) V' G'∧Keep G V V'∧∀b,G' b→G b∨V.heap.size≤b:=by
 obtain⟨i0,hi,hz0,hz1,hz2'⟩:=info_parts Vm.slice_info
 obtain⟨A,c,vs,h1,h2,h3,h4,h5⟩:=h.list
 have HP:=Lh (Wo.put_ok z wd V hT.2 hw hz)
 have e0:IntKind.u64.wrap (z:Int)=(z:Int):=Wo.wrap_u64 z (by omega)
 have hlen:wd=(bl k).length:=by rw [hbl,Wo.le_length]
 rw [←hbl]at HP
 have HST:=Lh (fun V2 w1 gp cap A' c' (hb:Below V.heap.size V V2) hm hown' hg1 hgg=>PkA.step (V2:=V2) (w1:=w1) (gp:=gp) (cap:=cap) (A':=A') (c':=c') (n:=wd) h h1 h2 h3 h4 h5 hb hm hlen hown' hg1 hgg)
 have HR1:=Lh h1
 have HO2:=Lh h2
 have HSZ:=Lh (And.intro h.base h.size)
 have H3:=Lh h3
 clear h1 h2 h3 h4 h5 hT hbl hlen h hz hw
 go_enter Tryz.func162,Tryz.ntmps162
 go_wp2_with fail
 refine HP.out.mono ?_
 rintro e V2 ⟨gp,cap,rfl,hm,hb⟩
 have c0:V2.cell? ⟨ga,0,none⟩=some (.slice A k c):=(HR1.out.below hb).cell 0
 have hownA:=(own_same HO2.out (fun b e=>hb.block b (own_lt HO2.out e)):V2.ownsRow w0.heap.size 172 1 (.slice A k c) k vs).alloc (.cells #[.slice (some ⟨gp,0,none⟩) wd cap] 172)
 have HM:=Lh hm
 have HB:=Lh hb
 have hsz3:w0.heap.size≤V2.heap.size+1:=by
  have:=hb.size
  have:=HSZ.out.2
  omega
 clear hm hb
 go_wp2_with (at_builtin;go_loud (refine wpList_append_sees rfl (.tmp 14) (.tmp 16) 248 rfl w0.heap.size 172 i0 _ 1 24 Tryz.underlying248 hi hz0 hz1 hz2' rfl (by decide) (.slice A k c) k vs rfl hownA _ (some ⟨V2.heap.size,0,none⟩) 1 1 [.slice (some ⟨gp,0,none⟩) wd cap] rfl rfl (Row.new V2 172 [.slice (some ⟨gp,0,none⟩) wd cap]).sees (by simp [Value.oneCell']) (by unfold maxLen;omega) (by omega) (by simp;omega) ?_;intro v' w1 hown' hg1 hgg;obtain⟨A',c',rfl⟩:=own_slice hown';obtain⟨⟨xx,hxx⟩,hff,HFIN⟩:=HST.out V2 w1 gp cap A' c' HB.out HM.out hown' hg1 hgg;clear hown' hg1 hgg))
 go_end0
 exact⟨⟨_,rfl⟩,HFIN.out⟩
theorem pk1_Gre {w0 V:World} {ga k:Nat} {bl:Nat→List UInt8} {G:Nat→Prop} (h:PkA w0 ga bl k V G) (hT:Tabs V) (z wd:Nat) (hk:k≤100) (hw:Wo.wid (wd:Int)=true) (hz:(z:Int)≤Wo.topOf (wd:Int)) (hz2:z < 4294967296) (hbl:bl k=Wo.le wd z):
  Calls Tryz.prog 211 #[.int .i64 (z:Int),.int .i64 (wd:Int),.pointer (some ⟨ga,0,none⟩)] V fun e V'=>(∃u,e= .returned u)∧∃G',PkA w0 ga bl (k+1) V' G'∧Keep G V V'∧∀b,G' b→G b∨V.heap.size≤b:=by
 obtain⟨i0,hi,hz0,hz1,hz2'⟩:=info_parts Vm.slice_info
 obtain⟨A,c,vs,h1,h2,h3,h4,h5⟩:=h.list
 have HP:=Lh (Wo.put_ok z wd V hT.2 hw hz)
 have e0:IntKind.u64.wrap (z:Int)=(z:Int):=Wo.wrap_u64 z (by omega)
 have hlen:wd=(bl k).length:=by rw [hbl,Wo.le_length]
 rw [←hbl]at HP
 have HST:=Lh (fun V2 w1 gp cap A' c' (hb:Below V.heap.size V V2) hm hown' hg1 hgg=>PkA.step (V2:=V2) (w1:=w1) (gp:=gp) (cap:=cap) (A':=A') (c':=c') (n:=wd) h h1 h2 h3 h4 h5 hb hm hlen hown' hg1 hgg)
 have HR1:=Lh h1
 have HO2:=Lh h2
 have HSZ:=Lh (And.intro h.base h.size)
 have H3:=Lh h3
 clear h1 h2 h3 h4 h5 hT hbl hlen h hz hw
 go_enter Tryz.func211,Tryz.ntmps211
 go_wp2_with fail
 refine HP.out.mono ?_
 rintro e V2 ⟨gp,cap,rfl,hm,hb⟩
 have c0:V2.cell? ⟨ga,0,none⟩=some (.slice A k c):=(HR1.out.below hb).cell 0
 have hownA:=(own_same HO2.out (fun b e=>hb.block b (own_lt HO2.out e)):V2.ownsRow w0.heap.size 172 1 (.slice A k c) k vs).alloc (.cells #[.slice (some ⟨gp,0,none⟩) wd cap] 172)
 have HM:=Lh hm
 have HB:=Lh hb
 have hsz3:w0.heap.size≤V2.heap.size+1:=by
  have:=hb.size
  have:=HSZ.out.2
  omega
 clear hm hb
 go_wp2_with (at_builtin;go_loud (refine wpList_append_sees rfl (.tmp 14) (.tmp 16) 248 rfl w0.heap.size 172 i0 _ 1 24 Tryz.underlying248 hi hz0 hz1 hz2' rfl (by decide) (.slice A k c) k vs rfl hownA _ (some ⟨V2.heap.size,0,none⟩) 1 1 [.slice (some ⟨gp,0,none⟩) wd cap] rfl rfl (Row.new V2 172 [.slice (some ⟨gp,0,none⟩) wd cap]).sees (by simp [Value.oneCell']) (by unfold maxLen;omega) (by omega) (by simp;omega) ?_;intro v' w1 hown' hg1 hgg;obtain⟨A',c',rfl⟩:=own_slice hown';obtain⟨⟨xx,hxx⟩,hff,HFIN⟩:=HST.out V2 w1 gp cap A' c' HB.out HM.out hown' hg1 hgg;clear hown' hg1 hgg))
 go_end0
 exact⟨⟨_,rfl⟩,HFIN.out⟩
end Go.Proofs.YtfcfbcjiijfjgaaGreatDoor.Me
