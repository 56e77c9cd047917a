import Derived.Test.YtfcfbcjiijfjgaaGreatDoorPBD
set_option maxHeartbeats 8000000
set_option maxRecDepth 100000
namespace Go.Proofs.YtfcfbcjiijfjgaaGreatDoor.Me
open Go.RowKit Go.Shelf
attribute [local go_sem] Oper.semAt_some
theorem small_lay (W:World):Hid ((W.alloc (.cells #[.int .i64 0,.int .i64 0,.nilFunc,.nilFunc,.int .i64 0,.int .i64 0,.nilFunc,.nilFunc,.int .i64 0,.int .i64 0,.nilFunc,.nilFunc,.int .i64 0,.int .i64 0,.nilFunc,.nilFunc] 107)).there W.heap.size 0 smallC.toArray.size∧(Tryz.prog.info? 107).map (·.size)=some smallC.toArray.size∧smallC.toArray.all (·.oneCell')=true∧Row ((W.alloc (.cells #[.int .i64 0,.int .i64 0,.nilFunc,.nilFunc,.int .i64 0,.int .i64 0,.nilFunc,.nilFunc,.int .i64 0,.int .i64 0,.nilFunc,.nilFunc,.int .i64 0,.int .i64 0,.nilFunc,.nilFunc] 107)).setCells W.heap.size 0 smallC.toArray.toList) W.heap.size 107 (prtCells smallP)∧Below W.heap.size W ((W.alloc (.cells #[.int .i64 0,.int .i64 0,.nilFunc,.nilFunc,.int .i64 0,.int .i64 0,.nilFunc,.nilFunc,.int .i64 0,.int .i64 0,.nilFunc,.nilFunc,.int .i64 0,.int .i64 0,.nilFunc,.nilFunc] 107)).setCells W.heap.size 0 smallC.toArray.toList)):=by
 have r0:=Row.new W 107 [.int .i64 0,.int .i64 0,.nilFunc,.nilFunc,.int .i64 0,.int .i64 0,.nilFunc,.nilFunc,.int .i64 0,.int .i64 0,.nilFunc,.nilFunc,.int .i64 0,.int .i64 0,.nilFunc,.nilFunc]
 exact Lh ⟨row_there r0 rfl,small_info,by kernel_rfl,set_from smallC [] _ r0 rfl,set_below W.heap.size _ Lr _ _ _ (below1 _ _)⟩
theorem get_small (p:Option Addr) (s c i:Int) (a0 a1 a2 E:Int) (w:World) (hT:Tabs w) (HC:∀W g,Below w.heap.size w W→Row W g 107 (prtCells smallP)→Calls Tryz.prog 43 #[liV p s (recR s c).1 (recR s c).2.1 (recR s c).2.2.1 (recR s c).2.2.2 i,.slice (some ⟨g,0,none⟩) 4 4] W fun e' w'=>e'= .returned (.tuple #[.agg #[.int .i64 a0,.int .i64 a1,.int .u32 a2],.int .i64 E])∧Below W.heap.size W w'):
  Calls Tryz.prog 14 #[.pointer p,spV s c i] w fun e' w'=>e'= .returned (.tuple #[.agg #[.int .i64 a0,.int .i64 a1,.int .u32 a2],.int .i64 E])∧Below w.heap.size w w':=by
 obtain⟨W1,hW1⟩:=Nm (((w.alloc (.cells #[.int .i64 s,.int .i64 c,.int .i64 i] 37)).alloc (.cells #[.int .i64 0,.int .i64 0,.int .u32 0] 41)))
 have hb1:Below w.heap.size w W1:=by rw [hW1];exact((Br.alloc Lr _).alloc (by simp) _)
 have hs1:W1.heap.size=w.heap.size+1+1:=by rw [hW1];simp
 have hr0:Row W1 (w.heap.size) 37 [.int .i64 s,.int .i64 c,.int .i64 i]:=by rw [hW1];exact(Row.new w _ _).below (below1 _ _)
 have hr1:Row W1 (w.heap.size+1) 41 [.int .i64 0,.int .i64 0,.int .u32 0]:=by rw [hW1];exact Row.new_at _ _ _ (by simp)
 have HSP:Hid (∀W,Below W1.heap.size W1 W→W.cell? ⟨w.heap.size,0,none⟩=some (.int .i64 s)∧W.cell? ⟨w.heap.size,1,none⟩=some (.int .i64 c)∧W.cell? ⟨w.heap.size,2,none⟩=some (.int .i64 i)):=Lh (fun W hw=>⟨(hr0.below hw).cell 0,(hr0.below hw).cell 1,(hr0.below hw).cell 2⟩)
 have HSS:Hid (∀W,Below W1.heap.size W1 W→(((W.setCell ⟨w.heap.size+1,0,none⟩ (.int .i64 a0)).setCell ⟨w.heap.size+1,1,none⟩ (.int .i64 a1)).setCell ⟨w.heap.size+1,2,none⟩ (.int .u32 a2)).cell? ⟨w.heap.size,0,none⟩=some (.int .i64 s)∧(((W.setCell ⟨w.heap.size+1,0,none⟩ (.int .i64 a0)).setCell ⟨w.heap.size+1,1,none⟩ (.int .i64 a1)).setCell ⟨w.heap.size+1,2,none⟩ (.int .u32 a2)).cell? ⟨w.heap.size,1,none⟩=some (.int .i64 c)∧(((W.setCell ⟨w.heap.size+1,0,none⟩ (.int .i64 a0)).setCell ⟨w.heap.size+1,1,none⟩ (.int .i64 a1)).setCell ⟨w.heap.size+1,2,none⟩ (.int .u32 a2)).cell? ⟨w.heap.size,2,none⟩=some (.int .i64 i)):=Lh (fun W hw=>by
  have h9:Row (((W.setCell ⟨w.heap.size+1,0,none⟩ (.int .i64 a0)).setCell ⟨w.heap.size+1,1,none⟩ (.int .i64 a1)).setCell ⟨w.heap.size+1,2,none⟩ (.int .u32 a2)) w.heap.size 37 [.int .i64 s,.int .i64 c,.int .i64 i]:=(hr0.below hw).same ((heap_set (by omega)).trans ((heap_set (by omega)).trans ((heap_set (by omega)).trans rfl)))
  exact⟨h9.cell 0,h9.cell 1,h9.cell 2⟩)
 have HB1:=Lh hb1
 have HW1:=Lh hW1
 have HRR:=Lh hr1
 have HCC:=Lh HC
 have HSM:=Lh (fun W=>small_any W)
 have HLY:=Lh (fun W=>small_lay W)
 have HLN:=Lh (fun W (hb:Below w.heap.size w W)=>smallLine_any p s c i W (hT.below hb))
 obtain⟨⟨f,k,m,kn⟩,hr⟩:∃r,r=(recR s c):=⟨_,rfl⟩
 rw [←hr]at HLN HCC
 simp only at HLN HCC
 rw [smallC_eq]at HSM
 clear hr HC hb1 hs1 hW1 hT hr0 hr1
 go_enter Tryz.func14,Tryz.ntmps14
 go_wp2_with fail
 rw [←HW1.out]
 refine(HSM.out _).mono ?_
 rintro e w2 ⟨rfl,hb2⟩
 have HLL:=HLY.out w2
 go_wp2_with (refine wpList_store_mid rfl 107 (.tmp 6) (.tmp 7) rfl w2.heap.size 0 smallC.toArray rfl rfl HLL.out.1 HLL.out.2.1 HLL.out.2.2.1 ?_)
 obtain⟨W3,hW3⟩:=Nm (((w2.alloc (.cells #[.int .i64 0,.int .i64 0,.nilFunc,.nilFunc,.int .i64 0,.int .i64 0,.nilFunc,.nilFunc,.int .i64 0,.int .i64 0,.nilFunc,.nilFunc,.int .i64 0,.int .i64 0,.nilFunc,.nilFunc] 107)).setCells w2.heap.size 0 smallC.toArray.toList))
 obtain⟨_,_,_,hrp,hb3⟩:=HLL.out
 rw [←hW3]at hrp hb3
 have hd3:Below W1.heap.size W1 W3:=below0 hb2 hb3
 obtain⟨gp,hgp⟩:=Nm (w2.heap.size)
 rw [←hgp]at hrp
 have HRP:=Lh hrp
 have HW3:=Lh hW3
 have HGP:=Lh hgp
 clear hW3 hgp hrp hb3 hb2 HLL HLY HSM HW1
 have HD3:=Lh hd3
 have hd4:Below W1.heap.size W1 W3.drew:=hd3.drew
 rw [←HW3.out,←HGP.out]
 clear HW3 HGP hd3
 refine wp_region_held_drew (S:=fun W=>W.cell? ⟨w.heap.size,0,none⟩=some (.int .i64 s)∧W.cell? ⟨w.heap.size,1,none⟩=some (.int .i64 c)∧W.cell? ⟨w.heap.size,2,none⟩=some (.int .i64 i)) (by kernel_rfl) (HSP.out _ hd4) (fun hZ=> ?_)
 refine tkH 0 hZ ?_
 simp only [Act.put]
 refine tkH 1 hZ ?_
 simp only [Act.put]
 refine tkH 3 hZ ?_
 simp only [Act.put]
 refine rdH 2 fun K hK=> ?_
 go_simp
 refine(HLN.out _ (below0 HB1.out hd4)).mono ?_
 rintro e w4 ⟨rfl,hb4⟩
 have hd5:=below0 hd4 hb4
 refine hK.out _ _ (HSP.out _ hd5) (fun hZ=> ?_)
 clear hK K
 try simp only [Act.put]
 refine rdH 4 fun K hK=> ?_
 go_simp
 refine(HCC.out w4 gp (below0 HB1.out hd5) (HRP.out.below (below0 Br.drew hb4))).mono ?_
 rintro e w5 ⟨rfl,hb5⟩
 have hd6:=below0 hd5 hb5
 refine hK.out _ _ (HSP.out _ hd6) (fun hZ=> ?_)
 clear hK K
 try simp only [Act.put]
 refine tkH 5 hZ ?_
 simp only [Act.put]
 refine tkH 6 hZ ?_
 simp only [Act.put]
 have hrr:=HRR.out.below hd6
 have HRR6:=Lh hrr
 have HB6:=Lh (below0 HB1.out hd6)
 have HS6:=Lh (HSS.out _ hd6)
 have c0:=hrr.cell 0
 have c1:=hrr.cell 1
 have c2:=hrr.cell 2
 have f0:=hrr.frozen 0
 have f1:=hrr.frozen 1
 have f2:=hrr.frozen 2
 clear hrr hd4 hd5 hd6 hb4 hb5 HCC HLN HSP HSS HRR HRP HD3 HB1
 refine rdH 7 fun K hK=> ?_
 go_simp
 refine hK.out _ _ (HS6.out) (fun hZ=> ?_)
 clear hK K
 try simp only [Act.put]
 refine rdH 8 fun K hK=> ?_
 go_simp
 refine hK.out _ _ (HS6.out) (fun hZ=> ?_)
 clear hK K
 try simp only [Act.put]
 refine wpAnyH_done (by kernel_rfl) ?_ _
 have R8:=row_set3 (.int .i64 a0) (.int .i64 a1) (.int .u32 a2) HRR6.out
 have B8:=below_set3 (b:=w.heap.size+1) (.int .i64 a0) (.int .i64 a1) (.int .u32 a2) HB6.out (by omega)
 clear c0 f0 c1 f1 c2 f2
 have d0:=R8.cell 0
 have d1:=R8.cell 1
 have d2:=R8.cell 2
 go_wp2
 exact bodyPost_ret (v:= .tuple #[.agg #[.int .i64 a0,.int .i64 a1,.int .u32 a2],.int .i64 E]) (by simp [results,Tryz.results14,go_sem,d0,d1,d2]) rfl ⟨rfl,B8⟩
theorem put_small (p:Option Addr) (s c i:Int) (a0 a1 a2 E:Int) (F:Nat→Prop) (Q:World→Prop) (w:World) (hT:Tabs w) (hFl:∀b,F b→b < w.heap.size) (HC:∀W g,Below w.heap.size w W→Row W g 107 (prtCells smallP)→Calls Tryz.prog 39 #[liV p s (recR s c).1 (recR s c).2.1 (recR s c).2.2.1 (recR s c).2.2.2 i,.agg #[.int .i64 a0,.int .i64 a1,.int .u32 a2],.slice (some ⟨g,0,none⟩) 4 4] W fun e' w'=>e'= .returned (.int .i64 E)∧Keep F W w'∧Q w'):
  Calls Tryz.prog 11 #[.pointer p,spV s c i,.agg #[.int .i64 a0,.int .i64 a1,.int .u32 a2]] w fun e' w'=>e'= .returned (.int .i64 E)∧Keep F w w'∧Q w':=by
 obtain⟨W1,hW1⟩:=Nm (((w.alloc (.cells #[.int .i64 s,.int .i64 c,.int .i64 i] 37)).alloc (.cells #[.int .i64 a0,.int .i64 a1,.int .u32 a2] 41)))
 have hb1:Below w.heap.size w W1:=by rw [hW1];exact((Br.alloc Lr _).alloc (by simp) _)
 have hs1:W1.heap.size=w.heap.size+1+1:=by rw [hW1];simp
 have hr0:Row W1 (w.heap.size) 37 [.int .i64 s,.int .i64 c,.int .i64 i]:=by rw [hW1];exact(Row.new w _ _).below (below1 _ _)
 have hr1:Row W1 (w.heap.size+1) 41 [.int .i64 a0,.int .i64 a1,.int .u32 a2]:=by rw [hW1];exact Row.new_at _ _ _ (by simp)
 have HSP:Hid (∀W,Below W1.heap.size W1 W→W.cell? ⟨w.heap.size,0,none⟩=some (.int .i64 s)∧W.cell? ⟨w.heap.size,1,none⟩=some (.int .i64 c)∧W.cell? ⟨w.heap.size,2,none⟩=some (.int .i64 i)∧W.cell? ⟨w.heap.size+1,0,none⟩=some (.int .i64 a0)∧W.cell? ⟨w.heap.size+1,1,none⟩=some (.int .i64 a1)∧W.cell? ⟨w.heap.size+1,2,none⟩=some (.int .u32 a2)):=Lh (fun W hw=>⟨(hr0.below hw).cell 0,(hr0.below hw).cell 1,(hr0.below hw).cell 2,(hr1.below hw).cell 0,(hr1.below hw).cell 1,(hr1.below hw).cell 2⟩)
 have HSK:Hid (∀W W',Below W1.heap.size W1 W→Keep F W W'→W'.cell? ⟨w.heap.size,0,none⟩=some (.int .i64 s)∧W'.cell? ⟨w.heap.size,1,none⟩=some (.int .i64 c)∧W'.cell? ⟨w.heap.size,2,none⟩=some (.int .i64 i)∧W'.cell? ⟨w.heap.size+1,0,none⟩=some (.int .i64 a0)∧W'.cell? ⟨w.heap.size+1,1,none⟩=some (.int .i64 a1)∧W'.cell? ⟨w.heap.size+1,2,none⟩=some (.int .u32 a2)):=Lh (fun W W' hw hk=>⟨(hk.row (hr0.below hw) (fun hf=>by have:=hFl _ hf;omega)).cell 0,(hk.row (hr0.below hw) (fun hf=>by have:=hFl _ hf;omega)).cell 1,(hk.row (hr0.below hw) (fun hf=>by have:=hFl _ hf;omega)).cell 2,(hk.row (hr1.below hw) (fun hf=>by have:=hFl _ hf;omega)).cell 0,(hk.row (hr1.below hw) (fun hf=>by have:=hFl _ hf;omega)).cell 1,(hk.row (hr1.below hw) (fun hf=>by have:=hFl _ hf;omega)).cell 2⟩)
 have HB1:=Lh hb1
 have HW1:=Lh hW1
 have HRR:=Lh hr1
 have HCC:=Lh HC
 have HSM:=Lh (fun W=>small_any W)
 have HLY:=Lh (fun W=>small_lay W)
 have HLN:=Lh (fun W (hb:Below w.heap.size w W)=>smallLine_any p s c i W (hT.below hb))
 obtain⟨⟨f,k,m,kn⟩,hr⟩:∃r,r=(recR s c):=⟨_,rfl⟩
 rw [←hr]at HLN HCC
 simp only at HLN HCC
 rw [smallC_eq]at HSM
 clear hr HC hb1 hs1 hW1 hT hr0 hr1
 go_enter Tryz.func11,Tryz.ntmps11
 go_wp2_with fail
 rw [←HW1.out]
 refine(HSM.out _).mono ?_
 rintro e w2 ⟨rfl,hb2⟩
 have HLL:=HLY.out w2
 go_wp2_with (refine wpList_store_mid rfl 107 (.tmp 7) (.tmp 8) rfl w2.heap.size 0 smallC.toArray rfl rfl HLL.out.1 HLL.out.2.1 HLL.out.2.2.1 ?_)
 obtain⟨W3,hW3⟩:=Nm (((w2.alloc (.cells #[.int .i64 0,.int .i64 0,.nilFunc,.nilFunc,.int .i64 0,.int .i64 0,.nilFunc,.nilFunc,.int .i64 0,.int .i64 0,.nilFunc,.nilFunc,.int .i64 0,.int .i64 0,.nilFunc,.nilFunc] 107)).setCells w2.heap.size 0 smallC.toArray.toList))
 obtain⟨_,_,_,hrp,hb3⟩:=HLL.out
 rw [←hW3]at hrp hb3
 have hd3:Below W1.heap.size W1 W3:=below0 hb2 hb3
 obtain⟨gp,hgp⟩:=Nm (w2.heap.size)
 rw [←hgp]at hrp
 have HRP:=Lh hrp
 have HW3:=Lh hW3
 have HGP:=Lh hgp
 clear hW3 hgp hrp hb3 hb2 HLL HLY HSM HW1
 have HD3:=Lh hd3
 have hd4:Below W1.heap.size W1 W3.drew:=hd3.drew
 rw [←HW3.out,←HGP.out]
 clear HW3 HGP hd3
 refine wp_region_held_drew (S:=fun W=>W.cell? ⟨w.heap.size,0,none⟩=some (.int .i64 s)∧W.cell? ⟨w.heap.size,1,none⟩=some (.int .i64 c)∧W.cell? ⟨w.heap.size,2,none⟩=some (.int .i64 i)∧W.cell? ⟨w.heap.size+1,0,none⟩=some (.int .i64 a0)∧W.cell? ⟨w.heap.size+1,1,none⟩=some (.int .i64 a1)∧W.cell? ⟨w.heap.size+1,2,none⟩=some (.int .u32 a2)) (by kernel_rfl) (HSP.out _ hd4) (fun hZ=> ?_)
 refine tkH 0 hZ ?_
 simp only [Act.put]
 refine tkH 1 hZ ?_
 simp only [Act.put]
 refine tkH 3 hZ ?_
 simp only [Act.put]
 refine tkH 4 hZ ?_
 simp only [Act.put]
 refine rdH 2 fun K hK=> ?_
 go_simp
 refine(HLN.out _ (below0 HB1.out hd4)).mono ?_
 rintro e w4 ⟨rfl,hb4⟩
 have hd5:=below0 hd4 hb4
 refine hK.out _ _ (HSP.out _ hd5) (fun hZ=> ?_)
 clear hK K
 try simp only [Act.put]
 refine rdH 5 fun K hK=> ?_
 go_simp
 refine(HCC.out w4 gp (below0 HB1.out hd5) (HRP.out.below (below0 Br.drew hb4))).mono ?_
 rintro e w5 ⟨rfl,hk5,hq5⟩
 refine hK.out _ _ (HSK.out _ _ hd5 hk5) (fun hZ=> ?_)
 clear hK K
 try simp only [Act.put]
 refine rdH 6 fun K hK=> ?_
 go_simp
 refine hK.out _ _ (HSK.out _ _ hd5 hk5) (fun hZ=> ?_)
 clear hK K
 try simp only [Act.put]
 refine wpAnyH_done (by kernel_rfl) ?_ _
 have HF9:=Lh (And.intro ((Keep.of_below (below0 HB1.out hd5)).trans hk5 (fun b _ h=>h)) hq5)
 clear hd4 hd5 hb4 hk5 hq5 HCC HLN HSP HSK HRR HRP HD3 HB1 hZ
 go_wp2
 go_ret
 exact⟨rfl,HF9.out⟩
theorem great_lay (W:World):Hid ((W.alloc (.cells #[.int .i64 0,.int .i64 0,.nilFunc,.nilFunc,.int .i64 0,.int .i64 0,.nilFunc,.nilFunc,.int .i64 0,.int .i64 0,.nilFunc,.nilFunc,.int .i64 0,.int .i64 0,.nilFunc,.nilFunc,.int .i64 0,.int .i64 0,.nilFunc,.nilFunc,.int .i64 0,.int .i64 0,.nilFunc,.nilFunc] 122)).there W.heap.size 0 greatC.toArray.size∧(Tryz.prog.info? 122).map (·.size)=some greatC.toArray.size∧greatC.toArray.all (·.oneCell')=true∧Row ((W.alloc (.cells #[.int .i64 0,.int .i64 0,.nilFunc,.nilFunc,.int .i64 0,.int .i64 0,.nilFunc,.nilFunc,.int .i64 0,.int .i64 0,.nilFunc,.nilFunc,.int .i64 0,.int .i64 0,.nilFunc,.nilFunc,.int .i64 0,.int .i64 0,.nilFunc,.nilFunc,.int .i64 0,.int .i64 0,.nilFunc,.nilFunc] 122)).setCells W.heap.size 0 greatC.toArray.toList) W.heap.size 122 (prtCells greatP)∧Below W.heap.size W ((W.alloc (.cells #[.int .i64 0,.int .i64 0,.nilFunc,.nilFunc,.int .i64 0,.int .i64 0,.nilFunc,.nilFunc,.int .i64 0,.int .i64 0,.nilFunc,.nilFunc,.int .i64 0,.int .i64 0,.nilFunc,.nilFunc,.int .i64 0,.int .i64 0,.nilFunc,.nilFunc,.int .i64 0,.int .i64 0,.nilFunc,.nilFunc] 122)).setCells W.heap.size 0 greatC.toArray.toList)):=by
 have r0:=Row.new W 122 [.int .i64 0,.int .i64 0,.nilFunc,.nilFunc,.int .i64 0,.int .i64 0,.nilFunc,.nilFunc,.int .i64 0,.int .i64 0,.nilFunc,.nilFunc,.int .i64 0,.int .i64 0,.nilFunc,.nilFunc,.int .i64 0,.int .i64 0,.nilFunc,.nilFunc,.int .i64 0,.int .i64 0,.nilFunc,.nilFunc]
 exact Lh ⟨row_there r0 rfl,great_info,by kernel_rfl,set_from greatC [] _ r0 rfl,set_below W.heap.size _ Lr _ _ _ (below1 _ _)⟩
theorem get_great (p:Option Addr) (s i:Int) (a0 a1 a2 a3 E:Int) (w:World) (HC:∀W g,Below w.heap.size w W→Row W g 122 (prtCells greatP)→Calls Tryz.prog 45 #[liV p s (greR s).1 (greR s).2.1 (greR s).2.2.1 (greR s).2.2.2 i,.slice (some ⟨g,0,none⟩) 6 6] W fun e' w'=>e'= .returned (.tuple #[.agg #[.int .i64 a0,.int .i64 a1,.int .i64 a2,.int .i64 a3],.int .i64 E])∧Below W.heap.size W w'):
  Calls Tryz.prog 15 #[.pointer p,.int .i64 s,.int .i64 i] w fun e' w'=>e'= .returned (.tuple #[.agg #[.int .i64 a0,.int .i64 a1,.int .i64 a2,.int .i64 a3],.int .i64 E])∧Below w.heap.size w w':=by
 obtain⟨W1,hW1⟩:=Nm ((w.alloc (.cells #[.int .i64 0,.int .i64 0,.int .i64 0,.int .i64 0] 43)))
 have hb1:Below w.heap.size w W1:=by rw [hW1];exact(below1 _ _)
 have hs1:W1.heap.size=w.heap.size+1:=by rw [hW1];simp
 have hr0:Row W1 (w.heap.size) 43 [.int .i64 0,.int .i64 0,.int .i64 0,.int .i64 0]:=by rw [hW1];exact Row.new _ _ _
 have HSP:Hid (∀W,Below W1.heap.size W1 W→True):=Lh (fun _ _=>trivial)
 have HSS:Hid (∀W,Below W1.heap.size W1 W→True):=Lh (fun _ _=>trivial)
 have HB1:=Lh hb1
 have HW1:=Lh hW1
 have HRR:=Lh hr0
 have HCC:=Lh HC
 have HSM:=Lh (fun W=>great_any W)
 have HLY:=Lh (fun W=>great_lay W)
 have HLN:=Lh (fun W=>greatLine_any p s i W)
 obtain⟨⟨f,k,m,kn⟩,hr⟩:∃r,r=(greR s):=⟨_,rfl⟩
 rw [←hr]at HLN HCC
 simp only at HLN HCC
 rw [greatC_eq]at HSM
 clear hr HC hb1 hs1 hW1 hr0
 go_enter Tryz.func15,Tryz.ntmps15
 go_wp2_with fail
 rw [←HW1.out]
 refine(HSM.out _).mono ?_
 rintro e w2 ⟨rfl,hb2⟩
 have HLL:=HLY.out w2
 go_wp2_with (refine wpList_store_mid rfl 122 (.tmp 8) (.tmp 9) rfl w2.heap.size 0 greatC.toArray rfl rfl HLL.out.1 HLL.out.2.1 HLL.out.2.2.1 ?_)
 obtain⟨W3,hW3⟩:=Nm (((w2.alloc (.cells #[.int .i64 0,.int .i64 0,.nilFunc,.nilFunc,.int .i64 0,.int .i64 0,.nilFunc,.nilFunc,.int .i64 0,.int .i64 0,.nilFunc,.nilFunc,.int .i64 0,.int .i64 0,.nilFunc,.nilFunc,.int .i64 0,.int .i64 0,.nilFunc,.nilFunc,.int .i64 0,.int .i64 0,.nilFunc,.nilFunc] 122)).setCells w2.heap.size 0 greatC.toArray.toList))
 obtain⟨_,_,_,hrp,hb3⟩:=HLL.out
 rw [←hW3]at hrp hb3
 have hd3:Below W1.heap.size W1 W3:=below0 hb2 hb3
 obtain⟨gp,hgp⟩:=Nm (w2.heap.size)
 rw [←hgp]at hrp
 have HRP:=Lh hrp
 have HW3:=Lh hW3
 have HGP:=Lh hgp
 clear hW3 hgp hrp hb3 hb2 HLL HLY HSM HW1
 have HD3:=Lh hd3
 have hd4:Below W1.heap.size W1 W3.drew:=hd3.drew
 rw [←HW3.out,←HGP.out]
 clear HW3 HGP hd3
 refine wp_region_held_drew (S:=fun W=>True) (by kernel_rfl) (HSP.out _ hd4) (fun hZ=> ?_)
 refine tkH 0 hZ ?_
 simp only [Act.put]
 refine tkH 1 hZ ?_
 simp only [Act.put]
 refine tkH 2 hZ ?_
 simp only [Act.put]
 refine tkH 4 hZ ?_
 simp only [Act.put]
 refine rdH 3 fun K hK=> ?_
 go_simp
 refine(HLN.out _).mono ?_
 rintro e w4 ⟨rfl,hb4⟩
 have hd5:=below0 hd4 hb4
 refine hK.out _ _ (HSP.out _ hd5) (fun hZ=> ?_)
 clear hK K
 try simp only [Act.put]
 refine rdH 5 fun K hK=> ?_
 go_simp
 refine(HCC.out w4 gp (below0 HB1.out hd5) (HRP.out.below (below0 Br.drew hb4))).mono ?_
 rintro e w5 ⟨rfl,hb5⟩
 have hd6:=below0 hd5 hb5
 refine hK.out _ _ (HSP.out _ hd6) (fun hZ=> ?_)
 clear hK K
 try simp only [Act.put]
 refine tkH 6 hZ ?_
 simp only [Act.put]
 refine tkH 7 hZ ?_
 simp only [Act.put]
 have hrr:=HRR.out.below hd6
 have HRR6:=Lh hrr
 have HB6:=Lh (below0 HB1.out hd6)
 have HS6:=Lh (HSS.out _ hd6)
 have c0:=hrr.cell 0
 have c1:=hrr.cell 1
 have c2:=hrr.cell 2
 have c3:=hrr.cell 3
 have f0:=hrr.frozen 0
 have f1:=hrr.frozen 1
 have f2:=hrr.frozen 2
 have f3:=hrr.frozen 3
 clear hrr hd4 hd5 hd6 hb4 hb5 HCC HLN HSP HSS HRR HRP HD3 HB1
 refine rdH 8 fun K hK=> ?_
 go_simp
 refine hK.out _ _ (HS6.out) (fun hZ=> ?_)
 clear hK K
 try simp only [Act.put]
 refine rdH 9 fun K hK=> ?_
 go_simp
 refine hK.out _ _ (HS6.out) (fun hZ=> ?_)
 clear hK K
 try simp only [Act.put]
 refine wpAnyH_done (by kernel_rfl) ?_ _
 have R8:=row_set4 (.int .i64 a0) (.int .i64 a1) (.int .i64 a2) (.int .i64 a3) HRR6.out
 have B8:=below_set4 (b:=w.heap.size) (.int .i64 a0) (.int .i64 a1) (.int .i64 a2) (.int .i64 a3) HB6.out (by omega)
 clear c0 f0 c1 f1 c2 f2 c3 f3
 have d0:=R8.cell 0
 have d1:=R8.cell 1
 have d2:=R8.cell 2
 have d3:=R8.cell 3
 go_wp2
 exact bodyPost_ret (v:= .tuple #[.agg #[.int .i64 a0,.int .i64 a1,.int .i64 a2,.int .i64 a3],.int .i64 E]) (by simp [results,Tryz.results15,go_sem,d0,d1,d2,d3]) rfl ⟨rfl,B8⟩
theorem put_great (p:Option Addr) (s i:Int) (a0 a1 a2 a3 E:Int) (F:Nat→Prop) (Q:World→Prop) (w:World) (hFl:∀b,F b→b < w.heap.size) (HC:∀W g,Below w.heap.size w W→Row W g 122 (prtCells greatP)→Calls Tryz.prog 61 #[liV p s (greR s).1 (greR s).2.1 (greR s).2.2.1 (greR s).2.2.2 i,.agg #[.int .i64 a0,.int .i64 a1,.int .i64 a2,.int .i64 a3],.slice (some ⟨g,0,none⟩) 6 6] W fun e' w'=>e'= .returned (.int .i64 E)∧Keep F W w'∧Q w'):
  Calls Tryz.prog 19 #[.pointer p,.int .i64 s,.int .i64 i,.agg #[.int .i64 a0,.int .i64 a1,.int .i64 a2,.int .i64 a3]] w fun e' w'=>e'= .returned (.int .i64 E)∧Keep F w w'∧Q w':=by
 obtain⟨W1,hW1⟩:=Nm ((w.alloc (.cells #[.int .i64 a0,.int .i64 a1,.int .i64 a2,.int .i64 a3] 43)))
 have hb1:Below w.heap.size w W1:=by rw [hW1];exact(below1 _ _)
 have hs1:W1.heap.size=w.heap.size+1:=by rw [hW1];simp
 have hr0:Row W1 (w.heap.size) 43 [.int .i64 a0,.int .i64 a1,.int .i64 a2,.int .i64 a3]:=by rw [hW1];exact Row.new _ _ _
 have HSP:Hid (∀W,Below W1.heap.size W1 W→W.cell? ⟨w.heap.size,0,none⟩=some (.int .i64 a0)∧W.cell? ⟨w.heap.size,1,none⟩=some (.int .i64 a1)∧W.cell? ⟨w.heap.size,2,none⟩=some (.int .i64 a2)∧W.cell? ⟨w.heap.size,3,none⟩=some (.int .i64 a3)):=Lh (fun W hw=>⟨(hr0.below hw).cell 0,(hr0.below hw).cell 1,(hr0.below hw).cell 2,(hr0.below hw).cell 3⟩)
 have HSK:Hid (∀W W',Below W1.heap.size W1 W→Keep F W W'→W'.cell? ⟨w.heap.size,0,none⟩=some (.int .i64 a0)∧W'.cell? ⟨w.heap.size,1,none⟩=some (.int .i64 a1)∧W'.cell? ⟨w.heap.size,2,none⟩=some (.int .i64 a2)∧W'.cell? ⟨w.heap.size,3,none⟩=some (.int .i64 a3)):=Lh (fun W W' hw hk=>⟨(hk.row (hr0.below hw) (fun hf=>by have:=hFl _ hf;omega)).cell 0,(hk.row (hr0.below hw) (fun hf=>by have:=hFl _ hf;omega)).cell 1,(hk.row (hr0.below hw) (fun hf=>by have:=hFl _ hf;omega)).cell 2,(hk.row (hr0.below hw) (fun hf=>by have:=hFl _ hf;omega)).cell 3⟩)
 have HB1:=Lh hb1
 have HW1:=Lh hW1
 have HRR:=Lh hr0
 have HCC:=Lh HC
 have HSM:=Lh (fun W=>great_any W)
 have HLY:=Lh (fun W=>great_lay W)
 have HLN:=Lh (fun W=>greatLine_any p s i W)
 obtain⟨⟨f,k,m,kn⟩,hr⟩:∃r,r=(greR s):=⟨_,rfl⟩
 rw [←hr]at HLN HCC
 simp only at HLN HCC
 rw [greatC_eq]at HSM
 clear hr HC hb1 hs1 hW1 hr0
 go_enter Tryz.func19,Tryz.ntmps19
 go_wp2_with fail
 rw [←HW1.out]
 refine(HSM.out _).mono ?_
 rintro e w2 ⟨rfl,hb2⟩
 have HLL:=HLY.out w2
 go_wp2_with (refine wpList_store_mid rfl 122 (.tmp 9) (.tmp 10) rfl w2.heap.size 0 greatC.toArray rfl rfl HLL.out.1 HLL.out.2.1 HLL.out.2.2.1 ?_)
 obtain⟨W3,hW3⟩:=Nm (((w2.alloc (.cells #[.int .i64 0,.int .i64 0,.nilFunc,.nilFunc,.int .i64 0,.int .i64 0,.nilFunc,.nilFunc,.int .i64 0,.int .i64 0,.nilFunc,.nilFunc,.int .i64 0,.int .i64 0,.nilFunc,.nilFunc,.int .i64 0,.int .i64 0,.nilFunc,.nilFunc,.int .i64 0,.int .i64 0,.nilFunc,.nilFunc] 122)).setCells w2.heap.size 0 greatC.toArray.toList))
 obtain⟨_,_,_,hrp,hb3⟩:=HLL.out
 rw [←hW3]at hrp hb3
 have hd3:Below W1.heap.size W1 W3:=below0 hb2 hb3
 obtain⟨gp,hgp⟩:=Nm (w2.heap.size)
 rw [←hgp]at hrp
 have HRP:=Lh hrp
 have HW3:=Lh hW3
 have HGP:=Lh hgp
 clear hW3 hgp hrp hb3 hb2 HLL HLY HSM HW1
 have HD3:=Lh hd3
 have hd4:Below W1.heap.size W1 W3.drew:=hd3.drew
 rw [←HW3.out,←HGP.out]
 clear HW3 HGP hd3
 refine wp_region_held_drew (S:=fun W=>W.cell? ⟨w.heap.size,0,none⟩=some (.int .i64 a0)∧W.cell? ⟨w.heap.size,1,none⟩=some (.int .i64 a1)∧W.cell? ⟨w.heap.size,2,none⟩=some (.int .i64 a2)∧W.cell? ⟨w.heap.size,3,none⟩=some (.int .i64 a3)) (by kernel_rfl) (HSP.out _ hd4) (fun hZ=> ?_)
 refine tkH 0 hZ ?_
 simp only [Act.put]
 refine tkH 1 hZ ?_
 simp only [Act.put]
 refine tkH 2 hZ ?_
 simp only [Act.put]
 refine tkH 4 hZ ?_
 simp only [Act.put]
 refine tkH 5 hZ ?_
 simp only [Act.put]
 refine rdH 3 fun K hK=> ?_
 go_simp
 refine(HLN.out _).mono ?_
 rintro e w4 ⟨rfl,hb4⟩
 have hd5:=below0 hd4 hb4
 refine hK.out _ _ (HSP.out _ hd5) (fun hZ=> ?_)
 clear hK K
 try simp only [Act.put]
 refine rdH 6 fun K hK=> ?_
 go_simp
 refine(HCC.out w4 gp (below0 HB1.out hd5) (HRP.out.below (below0 Br.drew hb4))).mono ?_
 rintro e w5 ⟨rfl,hk5,hq5⟩
 refine hK.out _ _ (HSK.out _ _ hd5 hk5) (fun hZ=> ?_)
 clear hK K
 try simp only [Act.put]
 refine rdH 7 fun K hK=> ?_
 go_simp
 refine hK.out _ _ (HSK.out _ _ hd5 hk5) (fun hZ=> ?_)
 clear hK K
 try simp only [Act.put]
 refine wpAnyH_done (by kernel_rfl) ?_ _
 have HF9:=Lh (And.intro ((Keep.of_below (below0 HB1.out hd5)).trans hk5 (fun b _ h=>h)) hq5)
 clear hd4 hd5 hb4 hk5 hq5 HCC HLN HSP HSK HRR HRP HD3 HB1 hZ
 go_wp2
 go_ret
 exact⟨rfl,HF9.out⟩
end Go.Proofs.YtfcfbcjiijfjgaaGreatDoor.Me
namespace Go.Proofs.YtfcfbcjiijfjgaaGreatDoor.Me
open Go.RowKit Go.Shelf
variable {X:Vm.Ctx}
attribute [local go_sem] Oper.semAt_some
theorem recR_yes {s c:Nat} (hs:s < 4) (hc:c < 8):recR (s:Int) (c:Int)=(((256*(64*s+1)+768*c:Nat):Int),8,((cnt c:Nat):Int),true):=by
 unfold recR
 rw [if_pos ⟨isB_yes (n:=4) hs,isB_yes (n:=8) hc⟩,Int.toNat_natCast,Int.toNat_natCast]
theorem greR_yes {s:Nat} (hs:s < 4):greR (s:Int)=(((256*(64*s+1)+6144:Nat):Int),16,384,true):=by
 unfold greR
 rw [if_pos (show isB (s:Int) 4=true from isB_yes (n:=4) hs),Int.toNat_natCast]
theorem recR_known {s c:Int} (h:(recR s c).2.2.2=true):isB s 4=true:=by
 unfold recR at h
 by_cases hb:isB s 4=true∧isB c 8=true
 ·exact hb.1
 ·rw [if_neg hb]at h
  cases h
theorem greR_known {s:Int} (h:(greR s).2.2.2=true):isB s 4=true:=by
 unfold greR at h
 by_cases hb:isB s 4=true
 ·exact hb
 ·rw [if_neg hb]at h
  cases h
theorem isB_range (i m:Int):isB i m=true↔¬(i < 0∨m≤i):=by
 unfold isB
 rw [Bool.and_eq_true,decide_eq_true_eq,decide_eq_true_eq]
 omega
theorem refE_get (B:Bks) (s c i:Int):refE B s (recR s c).2.2.2 true i (recR s c).2.2.1=getE B s c i:=by
 unfold refE getE asksS recR
 by_cases h:isB s 4=true∧isB c 8=true
 ·rw [if_pos h,if_pos h,if_pos ⟨rfl,rfl⟩]
  by_cases hr:i < 0∨((cnt c.toNat:Nat):Int)≤i
  ·rw [if_neg (fun hb=>(isB_range _ _).1 hb hr),if_pos hr,if_pos (by decide)]
  ·rw [if_pos ((isB_range _ _).2 hr),if_neg hr,if_neg (by decide)]
 ·rw [if_neg h,if_neg h,if_neg (fun hb=>by cases hb.1),if_pos (by decide)]
theorem refE_put (B:Bks) (s c i st sz:Int):refE B s (recR s c).2.2.2 (decide (rightR st sz)) i (recR s c).2.2.1=putE B s c i st sz:=by
 unfold putE
 by_cases hr:rightR st sz
 ·rw [decide_eq_true hr,refE_get]
  by_cases h:asksS s c i=2
  ·rw [if_pos (.inl h)]
   unfold getE
   rw [h]
   rfl
  ·rw [if_neg (fun e=>by rcases e with e | e;exact h e;exact e hr)]
 ·rw [decide_eq_false hr,if_pos (.inr hr)]
  unfold refE
  rw [if_neg (fun h=>by cases h.2)]
theorem refE_gget (B:Bks) (s i:Int):refE B s (greR s).2.2.2 true i (greR s).2.2.1=ggetE B s i:=by
 unfold refE ggetE gasks greR
 by_cases h:isB s 4=true
 ·rw [if_pos h,if_pos h,if_pos ⟨rfl,rfl⟩]
  by_cases hr:i < 0∨384≤i
  ·rw [if_neg (fun hb=>(isB_range _ _).1 hb hr),if_pos hr,if_pos (by decide)]
  ·rw [if_pos ((isB_range _ _).2 hr),if_neg hr,if_neg (by decide)]
 ·rw [if_neg h,if_neg h,if_neg (fun hb=>by cases hb.1),if_pos (by decide)]
theorem refE_gput (B:Bks) (s i st pg sz fi:Int):refE B s (greR s).2.2.2 (decide (rightG st pg sz fi)) i (greR s).2.2.1=gputE B s i st pg sz fi:=by
 unfold gputE
 by_cases hr:rightG st pg sz fi
 ·rw [decide_eq_true hr,refE_gget]
  by_cases h:gasks s i=2
  ·rw [if_pos (.inl h)]
   unfold ggetE
   rw [h]
   rfl
  ·rw [if_neg (fun e=>by rcases e with e | e;exact h e;exact e hr)]
 ·rw [decide_eq_false hr,if_pos (.inr hr)]
  unfold refE
  rw [if_neg (fun h=>by cases h.2)]
section
variable {w:World} {v:Value} {B:Bks} {n:Nat} {F:Nat→Prop} {f:Byts}
theorem has_ptr (h:HasM X w v B n F):∃p:Option Addr,v= .pointer p:=by
 obtain⟨b,rfl⟩:=HasV.bx h
 exact⟨_,rfl⟩
theorem HasM.low {w':World} (h:HasM X w v B n F) (hb:Below w.heap.size w w'):HasM X w' v B n F:=HasV.below h hb
theorem keep_low {w':World} (h:Keep (fun _=>False) w w'):Below w.heap.size w w':=h.below (fun _ h=>h.elim) Lr
theorem rec_at (s c i:Nat) (hok:okS s c i):(∀W,Calls Tryz.prog 32 #[roV ((256*(64*s+1)+768*c:Nat):Int) 8 ((cnt c:Nat):Int),.int .i64 (i:Int)] W fun e w'=>e= .returned (.int .u32 ((256*(64*s+1)+recO c i:Nat):Int))∧Below W.heap.size W w')∧recO c i+8≤12288:=by
 obtain⟨hs,hc,hi⟩:=hok
 have hcl:=cnt_le hc
 refine⟨fun W=>at_any _ _ _ _ ((8*i:Nat):Int) ((8*i:Nat):Int) _ W ?_ ?_ ?_,by unfold recO;omega⟩
 ·rw [wrapI _ (by omega) (by omega)];omega
 ·exact wrapU _ (by omega) (by omega)
 ·rw [←Int.natCast_add,wrapU _ (by omega) (by omega)]
  unfold recO
  congr 1
  omega
theorem gre_at (s i:Nat) (hs:s < 4) (hi:i < 384):(∀W,Calls Tryz.prog 32 #[roV ((256*(64*s+1)+6144:Nat):Int) 16 384,.int .i64 (i:Int)] W fun e w'=>e= .returned (.int .u32 ((256*(64*s+1)+greatO i:Nat):Int))∧Below W.heap.size W w')∧greatO i+16≤12288:=by
 refine⟨fun W=>at_any _ _ _ _ ((16*i:Nat):Int) ((16*i:Nat):Int) _ W ?_ ?_ ?_,by unfold greatO;omega⟩
 ·rw [wrapI _ (by omega) (by omega)];omega
 ·exact wrapU _ (by omega) (by omega)
 ·rw [←Int.natCast_add,wrapU _ (by omega) (by omega)]
  unfold greatO
  congr 1
  omega
theorem refusal_zero (p:Option Addr) (h:HasM X w (.pointer p) B n F) {s:Nat} (hs:s < 4) (hf:B s=some f) (fr k m:Int) (i:Int) (hi:isB i m=true):Calls Tryz.prog 47 #[liV p (s:Int) fr k m true i,.bool true] w fun e w'=>e= .returned (.int .i64 0)∧Below w.heap.size w w':=by
 have:=refusal_has p h (s:Int) fr k m i true true (fun _=>isB_yes (n:=4) hs)
 rw [show refE B (s:Int) true true i m=0 by unfold refE;rw [if_pos ⟨rfl,rfl⟩,if_pos hi];exact openE_some hf]at this
 exact this
end
section
variable {w:World} {v:Value} {B:Bks} {n:Nat} {F:Nat→Prop} {f:Byts}
theorem rec_parts {o st sz no:Nat} (h:recAt f o=some (st,sz,no)):(f o).toNat=st∧le2 f (o+2)=sz∧le4 f (o+4)=no:=by
 unfold recAt at h
 split at h
 ·injection h with h
  injection h with h1 h
  injection h with h2 h3
  exact⟨h1,h2,h3⟩
 ·cases h
theorem gre_parts {o st pg sz fi:Nat} (h:greatAt f o=some (st,pg,sz,fi)):(f o).toNat=st∧le2 f (o+2)=pg∧le4 f (o+4)=sz∧le4 f (o+8)=fi:=by
 unfold greatAt at h
 split at h
 ·injection h with h
  injection h with h1 h
  injection h with h2 h
  injection h with h3 h4
  exact⟨h1,h2,h3,h4⟩
 ·cases h
theorem m_getYes {st sz no:Nat} (s c i:Nat) (hT:Tabs w) (h:HasM X w v B n F) (hok:okS s c i) (hf:B s=some f) (hr:recAt f (recO c i)=some (st,sz,no)):Calls Tryz.prog 14 #[v,spV (s:Int) (c:Int) (i:Int)] w fun e w'=>e= .returned (.tuple #[rcV (st:Int) (sz:Int) no,.int .i64 0])∧Nx (HasM X) w v B n F w':=by
 obtain⟨p,rfl⟩:=has_ptr h
 obtain⟨hs,hc,hi⟩:=hok
 obtain⟨HAT,ho⟩:=rec_at s c i ⟨hs,hc,hi⟩
 have hrd:readL smallP (nvOf (cutL f (recO c i) 8) smallP):=(read_small_iff f _).2 (by rw [hr];rfl)
 obtain⟨e1,e2,e3⟩:=rec_parts hr
 refine(get_small p (s:Int) (c:Int) (i:Int) (st:Int) (sz:Int) (no:Int) 0 w hT fun W g hb hrow=> ?_).mono fun e w' ⟨e1,e2⟩=>⟨e1,nx_low h e2⟩
 rw [recR_yes hs hc]
 have:=told_small_yes p (s:Int) ((256*(64*s+1)+768*c:Nat):Int) 8 ((cnt c:Nat):Int) (i:Int) true g 4 ((256*(64*s+1)+recO c i:Nat):Int) _ (cutL f (recO c i) 8) W (hT.below hb) hrow Lr (cutL_len _ _ _) hrd (fun W' hb'=>refusal_zero p ((h.low hb).low hb') hs hf _ _ _ _ (isB_yes hi)) HAT (fun W' hb'=>m_peek s (recO c i) 8 ((h.low hb).low hb') hs hf ho (by omega))
 rw [st_small_eq,e1,e2,e3]at this
 exact this
theorem m_getNo (s c i:Int) (hT:Tabs w) (h:HasM X w v B n F) (hE:getE B s c i≠0):Calls Tryz.prog 14 #[v,spV s c i] w fun e w'=>e= .returned (.tuple #[rcV 0 0 0,.int .i64 (getE B s c i)])∧Nx (HasM X) w v B n F w':=by
 obtain⟨p,rfl⟩:=has_ptr h
 refine(get_small p s c i 0 0 0 (getE B s c i) w hT fun W g hb _=> ?_).mono fun e w' ⟨e1,e2⟩=>⟨e1,nx_low h e2⟩
 refine told_small_no p s _ _ _ i _ g 4 _ hE W (fun W' hb'=> ?_)
 have:=refusal_has p ((h.low hb).low hb') s (recR s c).1 (recR s c).2.1 (recR s c).2.2.1 i (recR s c).2.2.2 true recR_known
 rw [refE_get]at this
 exact this
theorem m_nget (s c i:Int) (hT:Tabs w):Calls Tryz.prog 14 #[.pointer none,spV s c i] w fun e w'=>e= .returned (.tuple #[rcV 0 0 0,.int .i64 1])∧Below w.heap.size w w':=by
 refine get_small none s c i 0 0 0 1 w hT fun W g hb _=> ?_
 exact told_small_no none s _ _ _ i _ g 4 1 (by decide) W (fun W' _=>refusal_nil _ _ _ _ _ _ _ _)
theorem m_putYes (s c i st sz no:Nat) (hT:Tabs w) (h:HasM X w v B n F) (hok:okS s c i) (h4:st≤4) (h6:sz≤65535) (h7:no < 4294967296) (hf:B s=some f):Calls Tryz.prog 11 #[v,spV (s:Int) (c:Int) (i:Int),rcV (st:Int) (sz:Int) no] w fun e w'=>e= .returned (.int .i64 0)∧Nx (HasM X) w v (upd B s (some (putB f (recO c i) (recB st sz no)))) n F w':=by
 obtain⟨p,rfl⟩:=has_ptr h
 obtain⟨hs,hc,hi⟩:=hok
 obtain⟨HAT,ho⟩:=rec_at s c i ⟨hs,hc,hi⟩
 have hFl:=HasV.lt h
 have hright:rightR (st:Int) (sz:Int):=⟨by omega,by omega,by omega,by omega⟩
 refine(put_small p (s:Int) (c:Int) (i:Int) (st:Int) (sz:Int) (no:Int) 0 F (fun w'=>∃F',HasM X w' (.pointer p) (upd B s (some (putB f (recO c i) (recB st sz no)))) n F'∧∀k,F' k→F k∨w.heap.size≤k) w hT hFl fun W g hb hrow=> ?_).mono fun e w' ⟨e1,e2,F',e3,e4⟩=>⟨e1,F',e3,e2,e4⟩
 rw [recR_yes hs hc]
 refine laid_small_yes p (s:Int) ((256*(64*s+1)+768*c:Nat):Int) 8 ((cnt c:Nat):Int) (i:Int) true (st:Int) (sz:Int) (no:Int) g 4 ((256*(64*s+1)+recO c i:Nat):Int) (recB st sz no) true F _ W (fun b hb'=>Nat.lt_of_lt_of_le (hFl b hb') hb.size) (fun W' hb'=> ?_) (fun W' hb'=>refusal_zero p ((h.low hb).low hb') hs hf _ _ _ _ (isB_yes hi)) HAT (fun W' hb'=>packed_small st sz no g 4 _ W' ((hT.below hb).below hb') (hrow.below hb') Lr h4 h6 h7) (fun W' A cp hb' hcp hsee hA=> ?_)
 ·have:=fits_small (st:Int) (sz:Int) (no:Int) (by omega) (by omega) g 4 _ W' (hrow.below hb') Lr
  rw [show decide (rightR (st:Int) (sz:Int))=true from decide_eq_true hright]at this
  exact this
 ·refine(m_poke s (recO c i) (recB st sz no) A cp ((h.low hb).low hb') hs hf (by rw [len_Rec];exact ho) (by rw [len_Rec];omega) (by rw [len_Rec];exact hcp) hsee (fun ad hA' hF'=>by have:=hA ad hA';have:=hFl _ hF';have:=hb.size;omega)).mono ?_
  rintro e w' ⟨e1,F',e2,e3,e4⟩
  refine⟨e1,e3,F',e2,fun k hk=> ?_⟩
  rcases e4 k hk with h' | h'
  ·exact .inl h'
  ·exact .inr (Nat.le_trans (Nat.le_trans hb.size hb'.size) h')
theorem m_putNo (s c i st sz:Int) (no:Nat) (hT:Tabs w) (h:HasM X w v B n F) (hno:no < 4294967296) (hE:putE B s c i st sz≠0):Calls Tryz.prog 11 #[v,spV s c i,rcV st sz no] w fun e w'=>e= .returned (.int .i64 (putE B s c i st sz))∧Nx (HasM X) w v B n F w':=by
 obtain⟨p,rfl⟩:=has_ptr h
 refine(put_small p s c i st sz (no:Int) (putE B s c i st sz) (fun _=>False) (fun _=>True) w hT (fun _ h=>h.elim) fun W g hb hrow=> ?_).mono fun e w' ⟨e1,e2,_⟩=>⟨e1,nx_low h (keep_low e2)⟩
 refine(laid_small_no p s _ _ _ i _ st sz (no:Int) g 4 _ hE (decide (rightR st sz)) W (fun W' hb'=>fits_small st sz (no:Int) (by omega) (by omega) g 4 _ W' (hrow.below hb') Lr) (fun W' hb'=> ?_)).mono fun e w' ⟨e1,e2⟩=>⟨e1,Keep.of_below e2,trivial⟩
 have:=refusal_has p ((h.low hb).low hb') s (recR s c).1 (recR s c).2.1 (recR s c).2.2.1 i (recR s c).2.2.2 (decide (rightR st sz)) recR_known
 rw [refE_put]at this
 exact this
theorem m_nput (s c i st sz:Int) (no:Nat) (hno:no < 4294967296) (hT:Tabs w):Calls Tryz.prog 11 #[.pointer none,spV s c i,rcV st sz no] w fun e w'=>e= .returned (.int .i64 1)∧Below w.heap.size w w':=by
 refine(put_small none s c i st sz (no:Int) 1 (fun _=>False) (fun _=>True) w hT (fun _ h=>h.elim) fun W g hb hrow=> ?_).mono fun e w' ⟨e1,e2,_⟩=>⟨e1,keep_low e2⟩
 exact(laid_small_no none s _ _ _ i _ st sz (no:Int) g 4 1 (by decide) (decide (rightR st sz)) W (fun W' hb'=>fits_small st sz (no:Int) (by omega) (by omega) g 4 _ W' (hrow.below hb') Lr) (fun W' _=>refusal_nil _ _ _ _ _ _ _ _)).mono fun e w' ⟨e1,e2⟩=>⟨e1,Keep.of_below e2,trivial⟩
theorem m_ggetYes {st pg sz fi:Nat} (s i:Nat) (hT:Tabs w) (h:HasM X w v B n F) (hs:s < 4) (hi:i < 384) (hf:B s=some f) (hr:greatAt f (greatO i)=some (st,pg,sz,fi)):Calls Tryz.prog 15 #[v,.int .i64 (s:Int),.int .i64 (i:Int)] w fun e w'=>e= .returned (.tuple #[gtV (st:Int) (pg:Int) (sz:Int) (fi:Int),.int .i64 0])∧Nx (HasM X) w v B n F w':=by
 obtain⟨p,rfl⟩:=has_ptr h
 obtain⟨HAT,ho⟩:=gre_at s i hs hi
 have hrd:readL greatP (nvOf (cutL f (greatO i) 16) greatP):=(read_great_iff f _).2 (by rw [hr];rfl)
 obtain⟨e1,e2,e3,e4⟩:=gre_parts hr
 refine(get_great p (s:Int) (i:Int) (st:Int) (pg:Int) (sz:Int) (fi:Int) 0 w fun W g hb hrow=> ?_).mono fun e w' ⟨e1,e2⟩=>⟨e1,nx_low h e2⟩
 rw [greR_yes hs]
 have:=told_great_yes p (s:Int) ((256*(64*s+1)+6144:Nat):Int) 16 384 (i:Int) true g 6 ((256*(64*s+1)+greatO i:Nat):Int) _ (cutL f (greatO i) 16) W (hT.below hb) hrow Lr (cutL_len _ _ _) hrd (fun W' hb'=>refusal_zero p ((h.low hb).low hb') hs hf _ _ _ _ (isB_yes (n:=384) hi)) HAT (fun W' hb'=>m_peek s (greatO i) 16 ((h.low hb).low hb') hs hf ho (by omega))
 rw [st_great_eq,e1,e2,e3,e4]at this
 exact this
theorem m_ggetNo (s i:Int) (h:HasM X w v B n F) (hE:ggetE B s i≠0):Calls Tryz.prog 15 #[v,.int .i64 s,.int .i64 i] w fun e w'=>e= .returned (.tuple #[gtV 0 0 0 0,.int .i64 (ggetE B s i)])∧Nx (HasM X) w v B n F w':=by
 obtain⟨p,rfl⟩:=has_ptr h
 refine(get_great p s i 0 0 0 0 (ggetE B s i) w fun W g hb _=> ?_).mono fun e w' ⟨e1,e2⟩=>⟨e1,nx_low h e2⟩
 refine told_great_no p s _ _ _ i _ g 6 _ hE W (fun W' hb'=> ?_)
 have:=refusal_has p ((h.low hb).low hb') s (greR s).1 (greR s).2.1 (greR s).2.2.1 i (greR s).2.2.2 true greR_known
 rw [refE_gget]at this
 exact this
theorem m_nGget (s i:Int):Calls Tryz.prog 15 #[.pointer none,.int .i64 s,.int .i64 i] w fun e w'=>e= .returned (.tuple #[gtV 0 0 0 0,.int .i64 1])∧Below w.heap.size w w':=by
 refine get_great none s i 0 0 0 0 1 w fun W g hb _=> ?_
 exact told_great_no none s _ _ _ i _ g 6 1 (by decide) W (fun W' _=>refusal_nil _ _ _ _ _ _ _ _)
theorem m_gputYes (s i st pg sz fi:Nat) (hT:Tabs w) (h:HasM X w v B n F) (hs:s < 4) (hi:i < 384) (hg:rightG (st:Int) (pg:Int) (sz:Int) (fi:Int)) (hf:B s=some f):Calls Tryz.prog 19 #[v,.int .i64 (s:Int),.int .i64 (i:Int),gtV (st:Int) (pg:Int) (sz:Int) (fi:Int)] w fun e w'=>e= .returned (.int .i64 0)∧Nx (HasM X) w v (upd B s (some (putB f (greatO i) (greatB st pg sz fi)))) n F w':=by
 obtain⟨p,rfl⟩:=has_ptr h
 obtain⟨HAT,ho⟩:=gre_at s i hs hi
 have hFl:=HasV.lt h
 have hright:=hg
 unfold rightG at hg
 refine(put_great p (s:Int) (i:Int) (st:Int) (pg:Int) (sz:Int) (fi:Int) 0 F (fun w'=>∃F',HasM X w' (.pointer p) (upd B s (some (putB f (greatO i) (greatB st pg sz fi)))) n F'∧∀k,F' k→F k∨w.heap.size≤k) w hFl fun W g hb hrow=> ?_).mono fun e w' ⟨e1,e2,F',e3,e4⟩=>⟨e1,F',e3,e2,e4⟩
 rw [greR_yes hs]
 refine laid_great_yes p (s:Int) ((256*(64*s+1)+6144:Nat):Int) 16 384 (i:Int) true (st:Int) (pg:Int) (sz:Int) (fi:Int) g 6 ((256*(64*s+1)+greatO i:Nat):Int) (greatB st pg sz fi) true F _ W (fun b hb'=>Nat.lt_of_lt_of_le (hFl b hb') hb.size) (fun W' hb'=> ?_) (fun W' hb'=>refusal_zero p ((h.low hb).low hb') hs hf _ _ _ _ (isB_yes (n:=384) hi)) HAT (fun W' hb'=>packed_great st pg sz fi g 6 _ W' ((hT.below hb).below hb') (hrow.below hb') Lr (by omega) (by omega) (by omega) (by omega)) (fun W' A cp hb' hcp hsee hA=> ?_)
 ·have:=fits_great (st:Int) (pg:Int) (sz:Int) (fi:Int) g 6 _ W' (hrow.below hb') Lr
  rw [show decide (rightG (st:Int) (pg:Int) (sz:Int) (fi:Int))=true from decide_eq_true hright]at this
  exact this
 ·refine(m_poke s (greatO i) (greatB st pg sz fi) A cp ((h.low hb).low hb') hs hf (by rw [len_Gre];exact ho) (by rw [len_Gre];omega) (by rw [len_Gre];exact hcp) hsee (fun ad hA' hF'=>by have:=hA ad hA';have:=hFl _ hF';have:=hb.size;omega)).mono ?_
  rintro e w' ⟨e1,F',e2,e3,e4⟩
  refine⟨e1,e3,F',e2,fun k hk=> ?_⟩
  rcases e4 k hk with h' | h'
  ·exact .inl h'
  ·exact .inr (Nat.le_trans (Nat.le_trans hb.size hb'.size) h')
theorem m_gputNo (s i st pg sz fi:Int) (h:HasM X w v B n F) (hE:gputE B s i st pg sz fi≠0):Calls Tryz.prog 19 #[v,.int .i64 s,.int .i64 i,gtV st pg sz fi] w fun e w'=>e= .returned (.int .i64 (gputE B s i st pg sz fi))∧Nx (HasM X) w v B n F w':=by
 obtain⟨p,rfl⟩:=has_ptr h
 refine(put_great p s i st pg sz fi (gputE B s i st pg sz fi) (fun _=>False) (fun _=>True) w (fun _ h=>h.elim) fun W g hb hrow=> ?_).mono fun e w' ⟨e1,e2,_⟩=>⟨e1,nx_low h (keep_low e2)⟩
 refine(laid_great_no p s _ _ _ i _ st pg sz fi g 6 _ hE (decide (rightG st pg sz fi)) W (fun W' hb'=>fits_great st pg sz fi g 6 _ W' (hrow.below hb') Lr) (fun W' hb'=> ?_)).mono fun e w' ⟨e1,e2⟩=>⟨e1,Keep.of_below e2,trivial⟩
 have:=refusal_has p ((h.low hb).low hb') s (greR s).1 (greR s).2.1 (greR s).2.2.1 i (greR s).2.2.2 (decide (rightG st pg sz fi)) greR_known
 rw [refE_gput]at this
 exact this
theorem m_nGput (s i st pg sz fi:Int):Calls Tryz.prog 19 #[.pointer none,.int .i64 s,.int .i64 i,gtV st pg sz fi] w fun e w'=>e= .returned (.int .i64 1)∧Below w.heap.size w w':=by
 refine(put_great none s i st pg sz fi 1 (fun _=>False) (fun _=>True) w (fun _ h=>h.elim) fun W g hb hrow=> ?_).mono fun e w' ⟨e1,e2,_⟩=>⟨e1,keep_low e2⟩
 exact(laid_great_no none s _ _ _ i _ st pg sz fi g 6 1 (by decide) (decide (rightG st pg sz fi)) W (fun W' hb'=>fits_great st pg sz fi g 6 _ W' (hrow.below hb') Lr) (fun W' _=>refusal_nil _ _ _ _ _ _ _ _)).mono fun e w' ⟨e1,e2⟩=>⟨e1,Keep.of_below e2,trivial⟩
end
end Go.Proofs.YtfcfbcjiijfjgaaGreatDoor.Me
