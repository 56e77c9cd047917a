import Derived.Test.YtfcfbcjiijfjgaaGreatDoorPBC
set_option maxHeartbeats 8000000
set_option maxRecDepth 100000
namespace Go.Proofs.YtfcfbcjiijfjgaaGreatDoor.Me
open Go.RowKit Go.Shelf
attribute [local go_sem] Oper.semAt_some
theorem told_small_no (p:Option Addr) (t f k m i:Int) (kn:Bool) (g c:Nat) (E:Int) (hE:E≠0) (w:World) (HR:∀W,Below w.heap.size w W→Calls Tryz.prog 47 #[liV p t f k m kn i,.bool true] W fun e w'=>e= .returned (.int .i64 E)∧Below W.heap.size W w'):
  Calls Tryz.prog 43 #[liV p t f k m kn i,.slice (some ⟨g,0,none⟩) 4 c] w fun e w'=>e= .returned (.tuple #[.agg #[.int .i64 0,.int .i64 0,.int .u32 0],.int .i64 E])∧Below w.heap.size w w':=by
 obtain⟨W1,hW1⟩:=Nm (((w.alloc (.cells #[.pointer p,.int .i64 t,.int .u32 f,.int .i64 k,.int .i64 m,.bool kn,.int .i64 i] 113)).alloc (.cells #[.int .i64 0,.int .i64 0,.int .u32 0] 41)).alloc (.cells #[.int .i64 0,.int .i64 0,.int .u32 0] 41))
 have hb1:Below w.heap.size w W1:=by rw [hW1];exact((Br.alloc Lr _).alloc (by simp) _).alloc (by simp;omega) _
 have hrl:Row W1 w.heap.size 113 (liC p t f k m kn i):=by rw [hW1];exact((Row.new w _ _).below (below1 _ _)).below (below1 _ _)
 have hrr:Row W1 (w.heap.size+1) 41 [.int .i64 0,.int .i64 0,.int .u32 0]:=by rw [hW1];exact(Row.new_at _ _ _ (by simp)).below (below1 _ _)
 have hrx:Row W1 (w.heap.size+1+1) 41 [.int .i64 0,.int .i64 0,.int .u32 0]:=by rw [hW1];exact Row.new_at _ _ _ (by simp)
 have l0:=hrl.cell 0
 have l1:=hrl.cell 1
 have l2:=hrl.cell 2
 have l3:=hrl.cell 3
 have l4:=hrl.cell 4
 have l5:=hrl.cell 5
 have l6:=hrl.cell 6
 have HB1:=Lh hb1
 have HRL:=Lh hrl
 have HRR:=Lh hrr
 have HRX:=Lh hrx
 have HW1:=Lh hW1
 have HREF:=Lh (HR W1 hb1)
 have e0:(E == 0)=false:=by rw [beq_eq_false_iff_ne];exact hE
 clear HR hb1 hrl hrr hrx hW1
 go_enter Tryz.func43,Tryz.ntmps43
 go_wp2_with fail
 refine wp_scope_jump 1 fun R hR hJm=> ?_
 go_wp2_with fail
 rw [←HW1.out]
 refine HREF.out.mono ?_
 rintro e w2 ⟨rfl,hb2⟩
 have rr:=HRR.out.below hb2
 have rx:=HRX.out.below hb2
 have bb:=below0 HB1.out hb2
 clear hb2 HREF HB1 HRL HRR HRX HW1 l0 l1 l2 l3 l4 l5 l6
 have x0:=rx.cell 0
 have x1:=rx.cell 1
 have x2:=rx.cell 2
 have y0:=rr.cell 0
 have y1:=rr.cell 1
 have y2:=rr.cell 2
 have g0:=rr.frozen 0
 have g1:=rr.frozen 1
 have g2:=rr.frozen 2
 have HRR9:=Lh rr
 have HB9:=Lh bb
 clear rr rx bb
 go_wp2_with fail
 refine wp_goto (hJm.out _ _ _ _ _ rfl ?_)
 go_wp2
 refine hR.out _ _ _ _ (by simp) ?_
 have R8:=row_set3 (.int .i64 0) (.int .i64 0) (.int .u32 0) HRR9.out
 have B8:=below_set3 (b:=w.heap.size+1) (.int .i64 0) (.int .i64 0) (.int .u32 0) HB9.out (by omega)
 clear x0 y0 g0 x1 y1 g1 x2 y2 g2
 have d0:=R8.cell 0
 have d1:=R8.cell 1
 have d2:=R8.cell 2
 exact bodyPost_ret (v:= .tuple #[.agg #[.int .i64 0,.int .i64 0,.int .u32 0],.int .i64 E]) (by simp [results,Tryz.results43,go_sem,d0,d1,d2]) rfl ⟨rfl,B8⟩
theorem told_small_yes (p:Option Addr) (t f k m i:Int) (kn:Bool) (g c:Nat) (a:Int) (tt:TypeId) (bs:List UInt8) (w:World) (hT:Tabs w) (hrow:Row w g tt (prtCells smallP)) (hc:4≤c) (hbs:bs.length=8) (hrd:readL smallP (nvOf bs smallP)) (HR:∀W,Below w.heap.size w W→Calls Tryz.prog 47 #[liV p t f k m kn i,.bool true] W fun e w'=>e= .returned (.int .i64 0)∧Below W.heap.size W w')
  (HAT:∀W,Calls Tryz.prog 32 #[roV f k m,.int .i64 i] W fun e w'=>e= .returned (.int .u32 a)∧Below W.heap.size W w') (HPK:∀W,Below w.heap.size w W→Calls Tryz.prog 98 #[.pointer p,.int .u32 a,.int .i64 k] W (Vm.RdA W 0 bs)):
  Calls Tryz.prog 43 #[liV p t f k m kn i,.slice (some ⟨g,0,none⟩) 4 c] w fun e w'=>e= .returned (.tuple #[.agg (stRec (nvOf bs smallP) 4).toArray,.int .i64 0])∧Below w.heap.size w w':=by
 obtain⟨W1,hW1⟩:=Nm (((w.alloc (.cells #[.pointer p,.int .i64 t,.int .u32 f,.int .i64 k,.int .i64 m,.bool kn,.int .i64 i] 113)).alloc (.cells #[.int .i64 0,.int .i64 0,.int .u32 0] 41)).alloc (.cells #[.int .i64 0,.int .i64 0,.int .u32 0] 41))
 have hb1:Below w.heap.size w W1:=by rw [hW1];exact((Br.alloc Lr _).alloc (by simp) _).alloc (by simp;omega) _
 have hrl:Row W1 w.heap.size 113 (liC p t f k m kn i):=by rw [hW1];exact((Row.new w _ _).below (below1 _ _)).below (below1 _ _)
 have hrr:Row W1 (w.heap.size+1) 41 [.int .i64 0,.int .i64 0,.int .u32 0]:=by rw [hW1];exact(Row.new_at _ _ _ (by simp)).below (below1 _ _)
 have hrx:Row W1 (w.heap.size+1+1) 41 [.int .i64 0,.int .i64 0,.int .u32 0]:=by rw [hW1];exact Row.new_at _ _ _ (by simp)
 have l0:=hrl.cell 0
 have l1:=hrl.cell 1
 have l2:=hrl.cell 2
 have l3:=hrl.cell 3
 have l4:=hrl.cell 4
 have l5:=hrl.cell 5
 have l6:=hrl.cell 6
 have HB1:=Lh hb1
 have HRL:=Lh hrl
 have HRR:=Lh hrr
 have HRX:=Lh hrx
 have HW1:=Lh hW1
 have HREF:=Lh (HR W1 hb1)
 have HATT:=Lh HAT
 have HPKK:=Lh HPK
 have HUN:=Lh (fun(W:World) (gb cb:Nat) (hW:Below w.heap.size w W) (hs:Sees W W.heap.size (some ⟨gb,0,none⟩) (byt bs)) (hcb:8≤cb)=>(unpacked_small bs gb cb g c tt W (hT.below hW) hs hbs hcb (hrow.below hW) hc).mono fun e w' ⟨e1,e2⟩=>(show e=Ending.returned (.tuple #[.agg (stRec (nvOf bs smallP) 4).toArray,.bool true])∧Below W.heap.size W w' from⟨by
  rcases e1 with⟨h,h2⟩ | ⟨h,h2⟩
  ·exact absurd hrd h2
  ·exact h,e2⟩))
 have hcs:∃v0 v1 v2:Int,stRec (nvOf bs smallP) 4= [.int .i64 v0,.int .i64 v1,.int .u32 v2]:=⟨_,_,_,rfl⟩
 obtain⟨v0,v1,v2,hcs⟩:=hcs
 rw [hcs]at HUN ⊢
 have HSP:=Lh (fun W (hw:Below W1.heap.size W1 W)=>(show W.cell? ⟨w.heap.size,0,none⟩=some (.pointer p)∧W.cell? ⟨w.heap.size,1,none⟩=some (.int .i64 t)∧W.cell? ⟨w.heap.size,2,none⟩=some (.int .u32 f)∧W.cell? ⟨w.heap.size,3,none⟩=some (.int .i64 k)∧W.cell? ⟨w.heap.size,4,none⟩=some (.int .i64 m)∧W.cell? ⟨w.heap.size,5,none⟩=some (.bool kn)∧W.cell? ⟨w.heap.size,6,none⟩=some (.int .i64 i) from⟨(hrl.below hw).cell 0,(hrl.below hw).cell 1,(hrl.below hw).cell 2,(hrl.below hw).cell 3,(hrl.below hw).cell 4,(hrl.below hw).cell 5,(hrl.below hw).cell 6⟩))
 have HBS:=Lh hbs
 clear HR HAT HPK hb1 hrl hrr hrx hW1 hT hrow hc hbs hrd hcs
 go_enter Tryz.func43,Tryz.ntmps43
 go_wp2_with fail
 refine wp_scope_jump 1 fun R hR hJm=> ?_
 go_wp2_with fail
 rw [←HW1.out]
 refine HREF.out.mono ?_
 rintro e w2 ⟨rfl,hb2⟩
 have HB2:=Lh hb2
 have hd2:Below W1.heap.size W1 w2.drew:=hb2.drew
 clear hb2 HREF HRL HW1 l0 l1 l2 l3 l4 l5 l6
 go_wp2_with fail
 refine wp_region_noPanic ?_
 refine wp_region_held_drew (S:=fun W=>W.cell? ⟨w.heap.size,0,none⟩=some (.pointer p)∧W.cell? ⟨w.heap.size,1,none⟩=some (.int .i64 t)∧W.cell? ⟨w.heap.size,2,none⟩=some (.int .u32 f)∧W.cell? ⟨w.heap.size,3,none⟩=some (.int .i64 k)∧W.cell? ⟨w.heap.size,4,none⟩=some (.int .i64 m)∧W.cell? ⟨w.heap.size,5,none⟩=some (.bool kn)∧W.cell? ⟨w.heap.size,6,none⟩=some (.int .i64 i)) (by kernel_rfl) (HSP.out _ hd2) (fun hZ=> ?_)
 refine tkH 0 hZ ?_
 simp only [Act.put]
 refine tkH 1 hZ ?_
 simp only [Act.put]
 refine tkH 2 hZ ?_
 simp only [Act.put]
 refine tkH 3 hZ ?_
 simp only [Act.put]
 refine tkH 4 hZ ?_
 simp only [Act.put]
 refine tkH 5 hZ ?_
 simp only [Act.put]
 refine tkH 6 hZ ?_
 simp only [Act.put]
 refine tkH 8 hZ ?_
 simp only [Act.put]
 refine tkH 9 hZ ?_
 simp only [Act.put]
 refine tkH 10 hZ ?_
 simp only [Act.put]
 refine rdH 7 fun K hK=> ?_
 go_simp
 refine(HATT.out _).mono ?_
 rintro e w3 ⟨rfl,hb3⟩
 have hd3:=below0 hd2 hb3
 refine hK.out _ _ (HSP.out _ hd3) (fun hZ=> ?_)
 clear hK K
 try simp only [Act.put]
 refine rdH 11 fun K hK=> ?_
 go_simp
 refine(HPKK.out _ (below0 HB1.out hd3)).mono ?_
 rintro e w4 ⟨A,mm,cc,rfl,hmm,hown,hb4⟩
 have hd4:=below0 hd3 hb4
 have h8:0 < mm:=by rw [hmm,HBS.out];omega
 obtain⟨gb,cb,hAA,_,_⟩:=hown.form h8
 injection hAA with hA1 hA2 hA3
 subst hA1 hA3
 have hcb:=(own_cap hown).1
 rw [hmm,HBS.out]at hcb hown
 rw [HBS.out]at hmm
 subst hmm
 refine hK.out _ _ (HSP.out _ hd4) (fun hZ=> ?_)
 clear hK K
 try simp only [Act.put]
 refine tkH 12 hZ ?_
 simp only [Act.put]
 refine tkH 13 hZ ?_
 simp only [Act.put]
 refine tkH 14 hZ ?_
 simp only [Act.put]
 refine rdH 15 fun K hK=> ?_
 go_simp
 refine hK.out _ _ (HSP.out _ hd4) (fun hZ=> ?_)
 clear hK K
 try simp only [Act.put]
 refine wpAnyH_done (by kernel_rfl) ?_ _
 have hBw4:=below0 HB1.out hd4
 have HU:=Lh (HUN.out w4 gb _ hBw4 ((Vm.sees_own hown)) hcb)
 refine NoPanic.normal ?_
 have HRR4:=Lh (HRR.out.below hd4)
 have HRX4:=Lh (HRX.out.below hd4)
 have HB4:=Lh hBw4
 clear hown hd2 hd3 hd4 hb3 hb4 hBw4 HATT HPKK HUN HSP HRR HRX HB1 HB2 hZ
 go_wp2_with fail
 refine HU.out.mono ?_
 rintro e w5 ⟨rfl,hb5⟩
 have HRR5:=Lh (HRR4.out.below hb5)
 have hrx5:=HRX4.out.below hb5
 have HRX5:=Lh hrx5
 have HB5:=Lh (below0 HB4.out hb5)
 have x0:=hrx5.cell 0
 have x1:=hrx5.cell 1
 have x2:=hrx5.cell 2
 have g0:=hrx5.frozen 0
 have g1:=hrx5.frozen 1
 have g2:=hrx5.frozen 2
 have rx6:=row_set3 (.int .i64 v0) (.int .i64 v1) (.int .u32 v2) hrx5
 have rr6:Row (((w5.setCell ⟨w.heap.size+1+1,0,none⟩ (.int .i64 v0)).setCell ⟨w.heap.size+1+1,1,none⟩ (.int .i64 v1)).setCell ⟨w.heap.size+1+1,2,none⟩ (.int .u32 v2)) (w.heap.size+1) 41 [.int .i64 0,.int .i64 0,.int .u32 0]:=HRR5.out.same ((heap_set (by omega)).trans ((heap_set (by omega)).trans ((heap_set (by omega)).trans rfl)))
 have hb6:=below_set3 (b:=w.heap.size+1+1) (.int .i64 v0) (.int .i64 v1) (.int .u32 v2) HB5.out (by omega)
 have HX6:=Lh rx6
 have HRR6:=Lh rr6
 have HB6:=Lh hb6
 have a0:=rx6.cell 0
 have a1:=rx6.cell 1
 have a2:=rx6.cell 2
 have y0:=rr6.cell 0
 have y1:=rr6.cell 1
 have y2:=rr6.cell 2
 have h0:=rr6.frozen 0
 have h1:=rr6.frozen 1
 have h2:=rr6.frozen 2
 clear rx6 rr6 hb6 hrx5 hb5 HU HRR4 HRX4 HB4 HRR5 HRX5 HB5
 go_wp2
 refine hR.out _ _ _ _ (by simp) ?_
 have R8:=row_set3 (.int .i64 v0) (.int .i64 v1) (.int .u32 v2) HRR6.out
 have B8:=below_set3 (b:=w.heap.size+1) (.int .i64 v0) (.int .i64 v1) (.int .u32 v2) HB6.out (by omega)
 clear x0 y0 g0 h0 a0 x1 y1 g1 h1 a1 x2 y2 g2 h2 a2
 have d0:=R8.cell 0
 have d1:=R8.cell 1
 have d2:=R8.cell 2
 exact bodyPost_ret (v:= .tuple #[.agg #[.int .i64 v0,.int .i64 v1,.int .u32 v2],.int .i64 0]) (by simp [results,Tryz.results43,go_sem,d0,d1,d2]) rfl ⟨rfl,B8⟩
theorem told_great_no (p:Option Addr) (t f k m i:Int) (kn:Bool) (g c:Nat) (E:Int) (hE:E≠0) (w:World) (HR:∀W,Below w.heap.size w W→Calls Tryz.prog 47 #[liV p t f k m kn i,.bool true] W fun e w'=>e= .returned (.int .i64 E)∧Below W.heap.size W w'):
  Calls Tryz.prog 45 #[liV p t f k m kn i,.slice (some ⟨g,0,none⟩) 6 c] w fun e w'=>e= .returned (.tuple #[.agg #[.int .i64 0,.int .i64 0,.int .i64 0,.int .i64 0],.int .i64 E])∧Below w.heap.size w w':=by
 obtain⟨W1,hW1⟩:=Nm (((w.alloc (.cells #[.pointer p,.int .i64 t,.int .u32 f,.int .i64 k,.int .i64 m,.bool kn,.int .i64 i] 113)).alloc (.cells #[.int .i64 0,.int .i64 0,.int .i64 0,.int .i64 0] 43)).alloc (.cells #[.int .i64 0,.int .i64 0,.int .i64 0,.int .i64 0] 43))
 have hb1:Below w.heap.size w W1:=by rw [hW1];exact((Br.alloc Lr _).alloc (by simp) _).alloc (by simp;omega) _
 have hrl:Row W1 w.heap.size 113 (liC p t f k m kn i):=by rw [hW1];exact((Row.new w _ _).below (below1 _ _)).below (below1 _ _)
 have hrr:Row W1 (w.heap.size+1) 43 [.int .i64 0,.int .i64 0,.int .i64 0,.int .i64 0]:=by rw [hW1];exact(Row.new_at _ _ _ (by simp)).below (below1 _ _)
 have hrx:Row W1 (w.heap.size+1+1) 43 [.int .i64 0,.int .i64 0,.int .i64 0,.int .i64 0]:=by rw [hW1];exact Row.new_at _ _ _ (by simp)
 have l0:=hrl.cell 0
 have l1:=hrl.cell 1
 have l2:=hrl.cell 2
 have l3:=hrl.cell 3
 have l4:=hrl.cell 4
 have l5:=hrl.cell 5
 have l6:=hrl.cell 6
 have HB1:=Lh hb1
 have HRL:=Lh hrl
 have HRR:=Lh hrr
 have HRX:=Lh hrx
 have HW1:=Lh hW1
 have HREF:=Lh (HR W1 hb1)
 have e0:(E == 0)=false:=by rw [beq_eq_false_iff_ne];exact hE
 clear HR hb1 hrl hrr hrx hW1
 go_enter Tryz.func45,Tryz.ntmps45
 go_wp2_with fail
 refine wp_scope_jump 1 fun R hR hJm=> ?_
 go_wp2_with fail
 rw [←HW1.out]
 refine HREF.out.mono ?_
 rintro e w2 ⟨rfl,hb2⟩
 have rr:=HRR.out.below hb2
 have rx:=HRX.out.below hb2
 have bb:=below0 HB1.out hb2
 clear hb2 HREF HB1 HRL HRR HRX HW1 l0 l1 l2 l3 l4 l5 l6
 have x0:=rx.cell 0
 have x1:=rx.cell 1
 have x2:=rx.cell 2
 have x3:=rx.cell 3
 have y0:=rr.cell 0
 have y1:=rr.cell 1
 have y2:=rr.cell 2
 have y3:=rr.cell 3
 have g0:=rr.frozen 0
 have g1:=rr.frozen 1
 have g2:=rr.frozen 2
 have g3:=rr.frozen 3
 have HRR9:=Lh rr
 have HB9:=Lh bb
 clear rr rx bb
 go_wp2_with fail
 refine wp_goto (hJm.out _ _ _ _ _ rfl ?_)
 go_wp2
 refine hR.out _ _ _ _ (by simp) ?_
 have R8:=row_set4 (.int .i64 0) (.int .i64 0) (.int .i64 0) (.int .i64 0) HRR9.out
 have B8:=below_set4 (b:=w.heap.size+1) (.int .i64 0) (.int .i64 0) (.int .i64 0) (.int .i64 0) HB9.out (by omega)
 clear x0 y0 g0 x1 y1 g1 x2 y2 g2 x3 y3 g3
 have d0:=R8.cell 0
 have d1:=R8.cell 1
 have d2:=R8.cell 2
 have d3:=R8.cell 3
 exact bodyPost_ret (v:= .tuple #[.agg #[.int .i64 0,.int .i64 0,.int .i64 0,.int .i64 0],.int .i64 E]) (by simp [results,Tryz.results45,go_sem,d0,d1,d2,d3]) rfl ⟨rfl,B8⟩
theorem told_great_yes (p:Option Addr) (t f k m i:Int) (kn:Bool) (g c:Nat) (a:Int) (tt:TypeId) (bs:List UInt8) (w:World) (hT:Tabs w) (hrow:Row w g tt (prtCells greatP)) (hc:6≤c) (hbs:bs.length=16) (hrd:readL greatP (nvOf bs greatP)) (HR:∀W,Below w.heap.size w W→Calls Tryz.prog 47 #[liV p t f k m kn i,.bool true] W fun e w'=>e= .returned (.int .i64 0)∧Below W.heap.size W w')
  (HAT:∀W,Calls Tryz.prog 32 #[roV f k m,.int .i64 i] W fun e w'=>e= .returned (.int .u32 a)∧Below W.heap.size W w') (HPK:∀W,Below w.heap.size w W→Calls Tryz.prog 98 #[.pointer p,.int .u32 a,.int .i64 k] W (Vm.RdA W 0 bs)):
  Calls Tryz.prog 45 #[liV p t f k m kn i,.slice (some ⟨g,0,none⟩) 6 c] w fun e w'=>e= .returned (.tuple #[.agg (stGre (nvOf bs greatP) 6).toArray,.int .i64 0])∧Below w.heap.size w w':=by
 obtain⟨W1,hW1⟩:=Nm (((w.alloc (.cells #[.pointer p,.int .i64 t,.int .u32 f,.int .i64 k,.int .i64 m,.bool kn,.int .i64 i] 113)).alloc (.cells #[.int .i64 0,.int .i64 0,.int .i64 0,.int .i64 0] 43)).alloc (.cells #[.int .i64 0,.int .i64 0,.int .i64 0,.int .i64 0] 43))
 have hb1:Below w.heap.size w W1:=by rw [hW1];exact((Br.alloc Lr _).alloc (by simp) _).alloc (by simp;omega) _
 have hrl:Row W1 w.heap.size 113 (liC p t f k m kn i):=by rw [hW1];exact((Row.new w _ _).below (below1 _ _)).below (below1 _ _)
 have hrr:Row W1 (w.heap.size+1) 43 [.int .i64 0,.int .i64 0,.int .i64 0,.int .i64 0]:=by rw [hW1];exact(Row.new_at _ _ _ (by simp)).below (below1 _ _)
 have hrx:Row W1 (w.heap.size+1+1) 43 [.int .i64 0,.int .i64 0,.int .i64 0,.int .i64 0]:=by rw [hW1];exact Row.new_at _ _ _ (by simp)
 have l0:=hrl.cell 0
 have l1:=hrl.cell 1
 have l2:=hrl.cell 2
 have l3:=hrl.cell 3
 have l4:=hrl.cell 4
 have l5:=hrl.cell 5
 have l6:=hrl.cell 6
 have HB1:=Lh hb1
 have HRL:=Lh hrl
 have HRR:=Lh hrr
 have HRX:=Lh hrx
 have HW1:=Lh hW1
 have HREF:=Lh (HR W1 hb1)
 have HATT:=Lh HAT
 have HPKK:=Lh HPK
 have HUN:=Lh (fun(W:World) (gb cb:Nat) (hW:Below w.heap.size w W) (hs:Sees W W.heap.size (some ⟨gb,0,none⟩) (byt bs)) (hcb:16≤cb)=>(unpacked_great bs gb cb g c tt W (hT.below hW) hs hbs hcb (hrow.below hW) hc).mono fun e w' ⟨e1,e2⟩=>(show e=Ending.returned (.tuple #[.agg (stGre (nvOf bs greatP) 6).toArray,.bool true])∧Below W.heap.size W w' from⟨by
  rcases e1 with⟨h,h2⟩ | ⟨h,h2⟩
  ·exact absurd hrd h2
  ·exact h,e2⟩))
 have hcs:∃v0 v1 v2 v3:Int,stGre (nvOf bs greatP) 6= [.int .i64 v0,.int .i64 v1,.int .i64 v2,.int .i64 v3]:=⟨_,_,_,_,rfl⟩
 obtain⟨v0,v1,v2,v3,hcs⟩:=hcs
 rw [hcs]at HUN ⊢
 have HSP:=Lh (fun W (hw:Below W1.heap.size W1 W)=>(show W.cell? ⟨w.heap.size,0,none⟩=some (.pointer p)∧W.cell? ⟨w.heap.size,1,none⟩=some (.int .i64 t)∧W.cell? ⟨w.heap.size,2,none⟩=some (.int .u32 f)∧W.cell? ⟨w.heap.size,3,none⟩=some (.int .i64 k)∧W.cell? ⟨w.heap.size,4,none⟩=some (.int .i64 m)∧W.cell? ⟨w.heap.size,5,none⟩=some (.bool kn)∧W.cell? ⟨w.heap.size,6,none⟩=some (.int .i64 i) from⟨(hrl.below hw).cell 0,(hrl.below hw).cell 1,(hrl.below hw).cell 2,(hrl.below hw).cell 3,(hrl.below hw).cell 4,(hrl.below hw).cell 5,(hrl.below hw).cell 6⟩))
 have HBS:=Lh hbs
 clear HR HAT HPK hb1 hrl hrr hrx hW1 hT hrow hc hbs hrd hcs
 go_enter Tryz.func45,Tryz.ntmps45
 go_wp2_with fail
 refine wp_scope_jump 1 fun R hR hJm=> ?_
 go_wp2_with fail
 rw [←HW1.out]
 refine HREF.out.mono ?_
 rintro e w2 ⟨rfl,hb2⟩
 have HB2:=Lh hb2
 have hd2:Below W1.heap.size W1 w2.drew:=hb2.drew
 clear hb2 HREF HRL HW1 l0 l1 l2 l3 l4 l5 l6
 go_wp2_with fail
 refine wp_region_noPanic ?_
 refine wp_region_held_drew (S:=fun W=>W.cell? ⟨w.heap.size,0,none⟩=some (.pointer p)∧W.cell? ⟨w.heap.size,1,none⟩=some (.int .i64 t)∧W.cell? ⟨w.heap.size,2,none⟩=some (.int .u32 f)∧W.cell? ⟨w.heap.size,3,none⟩=some (.int .i64 k)∧W.cell? ⟨w.heap.size,4,none⟩=some (.int .i64 m)∧W.cell? ⟨w.heap.size,5,none⟩=some (.bool kn)∧W.cell? ⟨w.heap.size,6,none⟩=some (.int .i64 i)) (by kernel_rfl) (HSP.out _ hd2) (fun hZ=> ?_)
 refine tkH 0 hZ ?_
 simp only [Act.put]
 refine tkH 1 hZ ?_
 simp only [Act.put]
 refine tkH 2 hZ ?_
 simp only [Act.put]
 refine tkH 3 hZ ?_
 simp only [Act.put]
 refine tkH 4 hZ ?_
 simp only [Act.put]
 refine tkH 5 hZ ?_
 simp only [Act.put]
 refine tkH 6 hZ ?_
 simp only [Act.put]
 refine tkH 8 hZ ?_
 simp only [Act.put]
 refine tkH 9 hZ ?_
 simp only [Act.put]
 refine tkH 10 hZ ?_
 simp only [Act.put]
 refine rdH 7 fun K hK=> ?_
 go_simp
 refine(HATT.out _).mono ?_
 rintro e w3 ⟨rfl,hb3⟩
 have hd3:=below0 hd2 hb3
 refine hK.out _ _ (HSP.out _ hd3) (fun hZ=> ?_)
 clear hK K
 try simp only [Act.put]
 refine rdH 11 fun K hK=> ?_
 go_simp
 refine(HPKK.out _ (below0 HB1.out hd3)).mono ?_
 rintro e w4 ⟨A,mm,cc,rfl,hmm,hown,hb4⟩
 have hd4:=below0 hd3 hb4
 have h8:0 < mm:=by rw [hmm,HBS.out];omega
 obtain⟨gb,cb,hAA,_,_⟩:=hown.form h8
 injection hAA with hA1 hA2 hA3
 subst hA1 hA3
 have hcb:=(own_cap hown).1
 rw [hmm,HBS.out]at hcb hown
 rw [HBS.out]at hmm
 subst hmm
 refine hK.out _ _ (HSP.out _ hd4) (fun hZ=> ?_)
 clear hK K
 try simp only [Act.put]
 refine tkH 12 hZ ?_
 simp only [Act.put]
 refine tkH 13 hZ ?_
 simp only [Act.put]
 refine tkH 14 hZ ?_
 simp only [Act.put]
 refine rdH 15 fun K hK=> ?_
 go_simp
 refine hK.out _ _ (HSP.out _ hd4) (fun hZ=> ?_)
 clear hK K
 try simp only [Act.put]
 refine wpAnyH_done (by kernel_rfl) ?_ _
 have hBw4:=below0 HB1.out hd4
 have HU:=Lh (HUN.out w4 gb _ hBw4 ((Vm.sees_own hown)) hcb)
 refine NoPanic.normal ?_
 have HRR4:=Lh (HRR.out.below hd4)
 have HRX4:=Lh (HRX.out.below hd4)
 have HB4:=Lh hBw4
 clear hown hd2 hd3 hd4 hb3 hb4 hBw4 HATT HPKK HUN HSP HRR HRX HB1 HB2 hZ
 go_wp2_with fail
 refine HU.out.mono ?_
 rintro e w5 ⟨rfl,hb5⟩
 have HRR5:=Lh (HRR4.out.below hb5)
 have hrx5:=HRX4.out.below hb5
 have HRX5:=Lh hrx5
 have HB5:=Lh (below0 HB4.out hb5)
 have x0:=hrx5.cell 0
 have x1:=hrx5.cell 1
 have x2:=hrx5.cell 2
 have x3:=hrx5.cell 3
 have g0:=hrx5.frozen 0
 have g1:=hrx5.frozen 1
 have g2:=hrx5.frozen 2
 have g3:=hrx5.frozen 3
 have rx6:=row_set4 (.int .i64 v0) (.int .i64 v1) (.int .i64 v2) (.int .i64 v3) hrx5
 have rr6:Row ((((w5.setCell ⟨w.heap.size+1+1,0,none⟩ (.int .i64 v0)).setCell ⟨w.heap.size+1+1,1,none⟩ (.int .i64 v1)).setCell ⟨w.heap.size+1+1,2,none⟩ (.int .i64 v2)).setCell ⟨w.heap.size+1+1,3,none⟩ (.int .i64 v3)) (w.heap.size+1) 43 [.int .i64 0,.int .i64 0,.int .i64 0,.int .i64 0]:=HRR5.out.same ((heap_set (by omega)).trans ((heap_set (by omega)).trans ((heap_set (by omega)).trans ((heap_set (by omega)).trans rfl))))
 have hb6:=below_set4 (b:=w.heap.size+1+1) (.int .i64 v0) (.int .i64 v1) (.int .i64 v2) (.int .i64 v3) HB5.out (by omega)
 have HX6:=Lh rx6
 have HRR6:=Lh rr6
 have HB6:=Lh hb6
 have a0:=rx6.cell 0
 have a1:=rx6.cell 1
 have a2:=rx6.cell 2
 have a3:=rx6.cell 3
 have y0:=rr6.cell 0
 have y1:=rr6.cell 1
 have y2:=rr6.cell 2
 have y3:=rr6.cell 3
 have h0:=rr6.frozen 0
 have h1:=rr6.frozen 1
 have h2:=rr6.frozen 2
 have h3:=rr6.frozen 3
 clear rx6 rr6 hb6 hrx5 hb5 HU HRR4 HRX4 HB4 HRR5 HRX5 HB5
 go_wp2
 refine hR.out _ _ _ _ (by simp) ?_
 have R8:=row_set4 (.int .i64 v0) (.int .i64 v1) (.int .i64 v2) (.int .i64 v3) HRR6.out
 have B8:=below_set4 (b:=w.heap.size+1) (.int .i64 v0) (.int .i64 v1) (.int .i64 v2) (.int .i64 v3) HB6.out (by omega)
 clear x0 y0 g0 h0 a0 x1 y1 g1 h1 a1 x2 y2 g2 h2 a2 x3 y3 g3 h3 a3
 have d0:=R8.cell 0
 have d1:=R8.cell 1
 have d2:=R8.cell 2
 have d3:=R8.cell 3
 exact bodyPost_ret (v:= .tuple #[.agg #[.int .i64 v0,.int .i64 v1,.int .i64 v2,.int .i64 v3],.int .i64 0]) (by simp [results,Tryz.results45,go_sem,d0,d1,d2,d3]) rfl ⟨rfl,B8⟩
theorem laid_small_no (p:Option Addr) (t f k m i:Int) (kn:Bool) (st sz no:Int) (g c:Nat) (E:Int) (hE:E≠0) (ok:Bool) (w:World) (HF:∀W,Below w.heap.size w W→Calls Tryz.prog 85 #[.agg #[.int .i64 st,.int .i64 sz,.int .u32 no],.slice (some ⟨g,0,none⟩) 4 c] W fun e w'=>e= .returned (.bool ok)∧Below W.heap.size W w') (HR:∀W,Below w.heap.size w W→Calls Tryz.prog 47 #[liV p t f k m kn i,.bool ok] W fun e w'=>e= .returned (.int .i64 E)∧Below W.heap.size W w'):
  Calls Tryz.prog 39 #[liV p t f k m kn i,.agg #[.int .i64 st,.int .i64 sz,.int .u32 no],.slice (some ⟨g,0,none⟩) 4 c] w fun e w'=>e= .returned (.int .i64 E)∧Below w.heap.size w w':=by
 obtain⟨W1,hW1⟩:=Nm ((w.alloc (.cells #[.pointer p,.int .i64 t,.int .u32 f,.int .i64 k,.int .i64 m,.bool kn,.int .i64 i] 113)).alloc (.cells #[.int .i64 st,.int .i64 sz,.int .u32 no] 41))
 have hb1:Below w.heap.size w W1:=by rw [hW1];exact(Br.alloc Lr _).alloc (by simp) _
 have hrl:Row W1 w.heap.size 113 (liC p t f k m kn i):=by rw [hW1];exact(Row.new w _ _).below (below1 _ _)
 have hrr:Row W1 (w.heap.size+1) 41 [.int .i64 st,.int .i64 sz,.int .u32 no]:=by rw [hW1];exact Row.new_at _ _ _ (by simp)
 have HSP:=Lh (fun W (hw:Below W1.heap.size W1 W)=>(show W.cell? ⟨w.heap.size,0,none⟩=some (.pointer p)∧W.cell? ⟨w.heap.size,1,none⟩=some (.int .i64 t)∧W.cell? ⟨w.heap.size,2,none⟩=some (.int .u32 f)∧W.cell? ⟨w.heap.size,3,none⟩=some (.int .i64 k)∧W.cell? ⟨w.heap.size,4,none⟩=some (.int .i64 m)∧W.cell? ⟨w.heap.size,5,none⟩=some (.bool kn)∧W.cell? ⟨w.heap.size,6,none⟩=some (.int .i64 i)∧W.cell? ⟨w.heap.size+1,0,none⟩=some (.int .i64 st)∧W.cell? ⟨w.heap.size+1,1,none⟩=some (.int .i64 sz)∧W.cell? ⟨w.heap.size+1,2,none⟩=some (.int .u32 no) from⟨(hrl.below hw).cell 0,(hrl.below hw).cell 1,(hrl.below hw).cell 2,(hrl.below hw).cell 3,(hrl.below hw).cell 4,(hrl.below hw).cell 5,(hrl.below hw).cell 6,(hrr.below hw).cell 0,(hrr.below hw).cell 1,(hrr.below hw).cell 2⟩))
 have HB1:=Lh hb1
 have HW1:=Lh hW1
 have HFF:=Lh HF
 have HRR:=Lh HR
 have e0:(E == 0)=false:=by rw [beq_eq_false_iff_ne];exact hE
 clear HF HR hb1 hrl hrr hW1
 have hd1:Below W1.heap.size W1 W1.drew:=Br.drew
 go_enter Tryz.func39,Tryz.ntmps39
 go_wp2_with fail
 refine wp_scope_jump 1 fun R hR hJm=> ?_
 go_wp2_with fail
 rw [←HW1.out]
 refine wp_region_noPanic ?_
 refine wp_region_held_drew (S:=fun W=>W.cell? ⟨w.heap.size,0,none⟩=some (.pointer p)∧W.cell? ⟨w.heap.size,1,none⟩=some (.int .i64 t)∧W.cell? ⟨w.heap.size,2,none⟩=some (.int .u32 f)∧W.cell? ⟨w.heap.size,3,none⟩=some (.int .i64 k)∧W.cell? ⟨w.heap.size,4,none⟩=some (.int .i64 m)∧W.cell? ⟨w.heap.size,5,none⟩=some (.bool kn)∧W.cell? ⟨w.heap.size,6,none⟩=some (.int .i64 i)∧W.cell? ⟨w.heap.size+1,0,none⟩=some (.int .i64 st)∧W.cell? ⟨w.heap.size+1,1,none⟩=some (.int .i64 sz)∧W.cell? ⟨w.heap.size+1,2,none⟩=some (.int .u32 no)) (by kernel_rfl) (HSP.out _ hd1) (fun hZ=> ?_)
 refine tkH 0 hZ ?_
 simp only [Act.put]
 refine tkH 1 hZ ?_
 simp only [Act.put]
 refine tkH 2 hZ ?_
 simp only [Act.put]
 refine rdH 3 fun K hK=> ?_
 go_simp
 refine(HFF.out _ (below0 HB1.out hd1)).mono ?_
 rintro e w2 ⟨rfl,hb2⟩
 have hd2:=below0 hd1 hb2
 refine hK.out _ _ (HSP.out _ hd2) (fun hZ=> ?_)
 clear hK K
 try simp only [Act.put]
 refine rdH 4 fun K hK=> ?_
 go_simp
 refine(HRR.out _ (below0 HB1.out hd2)).mono ?_
 rintro e w3 ⟨rfl,hb3⟩
 have hd3:=below0 hd2 hb3
 refine hK.out _ _ (HSP.out _ hd3) (fun hZ=> ?_)
 clear hK K
 try simp only [Act.put]
 refine rdH 5 fun K hK=> ?_
 go_simp
 refine hK.out _ _ (HSP.out _ hd3) (fun hZ=> ?_)
 clear hK K
 try simp only [Act.put]
 refine wpAnyH_done (by kernel_rfl) ?_ _
 refine NoPanic.normal ?_
 have HB9:=Lh (below0 HB1.out hd3)
 clear hd1 hd2 hd3 hb2 hb3 HFF HRR HSP HB1 HW1 hZ
 go_wp2_with fail
 refine wp_goto (hJm.out _ _ _ _ _ rfl ?_)
 go_wp2
 refine hR.out _ _ _ _ (by simp) ?_
 go_ret
 exact⟨rfl,HB9.out⟩
theorem laid_small_yes (p:Option Addr) (t f k m i:Int) (kn:Bool) (st sz no:Int) (g c:Nat) (a:Int) (bs:List UInt8) (ok:Bool) (F:Nat→Prop) (Q:World→Prop) (w:World) (hFl:∀b,F b→b < w.heap.size) (HF:∀W,Below w.heap.size w W→Calls Tryz.prog 85 #[.agg #[.int .i64 st,.int .i64 sz,.int .u32 no],.slice (some ⟨g,0,none⟩) 4 c] W fun e w'=>e= .returned (.bool ok)∧Below W.heap.size W w') (HR:∀W,Below w.heap.size w W→Calls Tryz.prog 47 #[liV p t f k m kn i,.bool ok] W fun e w'=>e= .returned (.int .i64 0)∧Below W.heap.size W w')
  (HAT:∀W,Calls Tryz.prog 32 #[roV f k m,.int .i64 i] W fun e w'=>e= .returned (.int .u32 a)∧Below W.heap.size W w')
  (HPA:∀W,Below w.heap.size w W→Calls Tryz.prog 87 #[.agg #[.int .i64 st,.int .i64 sz,.int .u32 no],.slice (some ⟨g,0,none⟩) 4 c] W fun e w'=>∃A cp,e= .returned (.slice A 8 cp)∧w'.ownsRow W.heap.size 5 1 (.slice A 8 cp) 8 (byt bs)∧Below W.heap.size W w')
  (HPO:∀W A cp,Below w.heap.size w W→8≤cp→Sees W W.heap.size A (byt bs)→(∀ad,A=some ad→w.heap.size≤ad.block)→Calls Tryz.prog 86 #[.pointer p,.int .u32 a,.slice A 8 cp] W fun e w'=>e= .returned (.int .i64 0)∧Keep F W w'∧Q w'):
  Calls Tryz.prog 39 #[liV p t f k m kn i,.agg #[.int .i64 st,.int .i64 sz,.int .u32 no],.slice (some ⟨g,0,none⟩) 4 c] w fun e w'=>e= .returned (.int .i64 0)∧Keep F w w'∧Q w':=by
 obtain⟨W1,hW1⟩:=Nm ((w.alloc (.cells #[.pointer p,.int .i64 t,.int .u32 f,.int .i64 k,.int .i64 m,.bool kn,.int .i64 i] 113)).alloc (.cells #[.int .i64 st,.int .i64 sz,.int .u32 no] 41))
 have hb1:Below w.heap.size w W1:=by rw [hW1];exact(Br.alloc Lr _).alloc (by simp) _
 have hrl:Row W1 w.heap.size 113 (liC p t f k m kn i):=by rw [hW1];exact(Row.new w _ _).below (below1 _ _)
 have hrr:Row W1 (w.heap.size+1) 41 [.int .i64 st,.int .i64 sz,.int .u32 no]:=by rw [hW1];exact Row.new_at _ _ _ (by simp)
 have HSP:=Lh (fun W (hw:Below W1.heap.size W1 W)=>(show W.cell? ⟨w.heap.size,0,none⟩=some (.pointer p)∧W.cell? ⟨w.heap.size,1,none⟩=some (.int .i64 t)∧W.cell? ⟨w.heap.size,2,none⟩=some (.int .u32 f)∧W.cell? ⟨w.heap.size,3,none⟩=some (.int .i64 k)∧W.cell? ⟨w.heap.size,4,none⟩=some (.int .i64 m)∧W.cell? ⟨w.heap.size,5,none⟩=some (.bool kn)∧W.cell? ⟨w.heap.size,6,none⟩=some (.int .i64 i)∧W.cell? ⟨w.heap.size+1,0,none⟩=some (.int .i64 st)∧W.cell? ⟨w.heap.size+1,1,none⟩=some (.int .i64 sz)∧W.cell? ⟨w.heap.size+1,2,none⟩=some (.int .u32 no) from⟨(hrl.below hw).cell 0,(hrl.below hw).cell 1,(hrl.below hw).cell 2,(hrl.below hw).cell 3,(hrl.below hw).cell 4,(hrl.below hw).cell 5,(hrl.below hw).cell 6,(hrr.below hw).cell 0,(hrr.below hw).cell 1,(hrr.below hw).cell 2⟩))
 have HSK:=Lh (fun W W' (hw:Below W1.heap.size W1 W) (hk:Keep F W W')=>(show W'.cell? ⟨w.heap.size,0,none⟩=some (.pointer p)∧W'.cell? ⟨w.heap.size,1,none⟩=some (.int .i64 t)∧W'.cell? ⟨w.heap.size,2,none⟩=some (.int .u32 f)∧W'.cell? ⟨w.heap.size,3,none⟩=some (.int .i64 k)∧W'.cell? ⟨w.heap.size,4,none⟩=some (.int .i64 m)∧W'.cell? ⟨w.heap.size,5,none⟩=some (.bool kn)∧W'.cell? ⟨w.heap.size,6,none⟩=some (.int .i64 i)∧W'.cell? ⟨w.heap.size+1,0,none⟩=some (.int .i64 st)∧W'.cell? ⟨w.heap.size+1,1,none⟩=some (.int .i64 sz)∧W'.cell? ⟨w.heap.size+1,2,none⟩=some (.int .u32 no) from⟨(hk.row (hrl.below hw) (fun hf=>by have:=hFl _ hf;omega)).cell 0,(hk.row (hrl.below hw) (fun hf=>by have:=hFl _ hf;omega)).cell 1,(hk.row (hrl.below hw) (fun hf=>by have:=hFl _ hf;omega)).cell 2,(hk.row (hrl.below hw) (fun hf=>by have:=hFl _ hf;omega)).cell 3,(hk.row (hrl.below hw) (fun hf=>by have:=hFl _ hf;omega)).cell 4,(hk.row (hrl.below hw) (fun hf=>by have:=hFl _ hf;omega)).cell 5,(hk.row (hrl.below hw) (fun hf=>by have:=hFl _ hf;omega)).cell 6,(hk.row (hrr.below hw) (fun hf=>by have:=hFl _ hf;omega)).cell 0,(hk.row (hrr.below hw) (fun hf=>by have:=hFl _ hf;omega)).cell 1,(hk.row (hrr.below hw) (fun hf=>by have:=hFl _ hf;omega)).cell 2⟩))
 have HB1:=Lh hb1
 have HW1:=Lh hW1
 have HFF:=Lh HF
 have HRR:=Lh HR
 have HATT:=Lh HAT
 have HPAA:=Lh HPA
 have HPOO:=Lh HPO
 clear HF HR HAT HPA HPO hb1 hrl hrr hW1
 have hd1:Below W1.heap.size W1 W1.drew:=Br.drew
 go_enter Tryz.func39,Tryz.ntmps39
 go_wp2_with fail
 refine wp_scope_jump 1 fun R hR hJm=> ?_
 go_wp2_with fail
 rw [←HW1.out]
 refine wp_region_noPanic ?_
 refine wp_region_held_drew (S:=fun W=>W.cell? ⟨w.heap.size,0,none⟩=some (.pointer p)∧W.cell? ⟨w.heap.size,1,none⟩=some (.int .i64 t)∧W.cell? ⟨w.heap.size,2,none⟩=some (.int .u32 f)∧W.cell? ⟨w.heap.size,3,none⟩=some (.int .i64 k)∧W.cell? ⟨w.heap.size,4,none⟩=some (.int .i64 m)∧W.cell? ⟨w.heap.size,5,none⟩=some (.bool kn)∧W.cell? ⟨w.heap.size,6,none⟩=some (.int .i64 i)∧W.cell? ⟨w.heap.size+1,0,none⟩=some (.int .i64 st)∧W.cell? ⟨w.heap.size+1,1,none⟩=some (.int .i64 sz)∧W.cell? ⟨w.heap.size+1,2,none⟩=some (.int .u32 no)) (by kernel_rfl) (HSP.out _ hd1) (fun hZ=> ?_)
 refine tkH 0 hZ ?_
 simp only [Act.put]
 refine tkH 1 hZ ?_
 simp only [Act.put]
 refine tkH 2 hZ ?_
 simp only [Act.put]
 refine rdH 3 fun K hK=> ?_
 go_simp
 refine(HFF.out _ (below0 HB1.out hd1)).mono ?_
 rintro e w2 ⟨rfl,hb2⟩
 have hd2:=below0 hd1 hb2
 refine hK.out _ _ (HSP.out _ hd2) (fun hZ=> ?_)
 clear hK K
 try simp only [Act.put]
 refine rdH 4 fun K hK=> ?_
 go_simp
 refine(HRR.out _ (below0 HB1.out hd2)).mono ?_
 rintro e w3 ⟨rfl,hb3⟩
 have hd3:=below0 hd2 hb3
 refine hK.out _ _ (HSP.out _ hd3) (fun hZ=> ?_)
 clear hK K
 try simp only [Act.put]
 refine rdH 5 fun K hK=> ?_
 go_simp
 refine hK.out _ _ (HSP.out _ hd3) (fun hZ=> ?_)
 clear hK K
 try simp only [Act.put]
 refine wpAnyH_done (by kernel_rfl) ?_ _
 refine NoPanic.normal ?_
 have HD3:=Lh hd3
 have hd4:Below W1.heap.size W1 w3.drew:=hd3.drew
 clear hd1 hd2 hd3 hb2 hb3 HFF HRR HW1 hZ
 go_wp2_with fail
 refine wp_region_noPanic ?_
 refine wp_region_held_drew (S:=fun W=>W.cell? ⟨w.heap.size,0,none⟩=some (.pointer p)∧W.cell? ⟨w.heap.size,1,none⟩=some (.int .i64 t)∧W.cell? ⟨w.heap.size,2,none⟩=some (.int .u32 f)∧W.cell? ⟨w.heap.size,3,none⟩=some (.int .i64 k)∧W.cell? ⟨w.heap.size,4,none⟩=some (.int .i64 m)∧W.cell? ⟨w.heap.size,5,none⟩=some (.bool kn)∧W.cell? ⟨w.heap.size,6,none⟩=some (.int .i64 i)∧W.cell? ⟨w.heap.size+1,0,none⟩=some (.int .i64 st)∧W.cell? ⟨w.heap.size+1,1,none⟩=some (.int .i64 sz)∧W.cell? ⟨w.heap.size+1,2,none⟩=some (.int .u32 no)) (by kernel_rfl) (HSP.out _ hd4) (fun hZ=> ?_)
 refine tkH 0 hZ ?_
 simp only [Act.put]
 refine tkH 1 hZ ?_
 simp only [Act.put]
 refine tkH 2 hZ ?_
 simp only [Act.put]
 refine tkH 3 hZ ?_
 simp only [Act.put]
 refine tkH 4 hZ ?_
 simp only [Act.put]
 refine tkH 5 hZ ?_
 simp only [Act.put]
 refine tkH 6 hZ ?_
 simp only [Act.put]
 refine tkH 8 hZ ?_
 simp only [Act.put]
 refine tkH 9 hZ ?_
 simp only [Act.put]
 refine rdH 7 fun K hK=> ?_
 go_simp
 refine(HATT.out _).mono ?_
 rintro e w4 ⟨rfl,hb4⟩
 have hd5:=below0 hd4 hb4
 refine hK.out _ _ (HSP.out _ hd5) (fun hZ=> ?_)
 clear hK K
 try simp only [Act.put]
 refine rdH 10 fun K hK=> ?_
 go_simp
 refine(HPAA.out _ (below0 HB1.out hd5)).mono ?_
 rintro e w5 ⟨A,cp,rfl,hown,hb5⟩
 have hd6:=below0 hd5 hb5
 refine hK.out _ _ (HSP.out _ hd6) (fun hZ=> ?_)
 clear hK K
 try simp only [Act.put]
 refine rdH 11 fun K hK=> ?_
 go_simp
 have hcp:=(own_cap hown).1
 refine(HPOO.out _ A cp (below0 HB1.out hd6) (by omega) (Vm.sees_own hown) (fun ad hA=> ?_)).mono ?_
 ·subst hA
  obtain⟨gb,cb,hAA,hgb,_⟩:=hown.form (by omega)
  injection hAA with hA1 hA2 hA3
  injection hA1 with hA1
  subst hA1
  have:=(below0 HB1.out hd5).size
  exact Nat.le_trans this hgb
 rintro e w6 ⟨rfl,hk6,hq6⟩
 refine hK.out _ _ (HSK.out _ _ hd6 hk6) (fun hZ=> ?_)
 clear hK K
 try simp only [Act.put]
 refine rdH 12 fun K hK=> ?_
 go_simp
 refine hK.out _ _ (HSK.out _ _ hd6 hk6) (fun hZ=> ?_)
 clear hK K
 try simp only [Act.put]
 refine wpAnyH_done (by kernel_rfl) ?_ _
 refine NoPanic.normal ?_
 have HF9:=Lh (And.intro ((Keep.of_below (below0 HB1.out hd6)).trans hk6 (fun b _ h=>h)) hq6)
 clear hd4 hd5 hd6 hb4 hb5 hown hcp hk6 hq6 HATT HPAA HPOO HSP HSK HB1 HD3 hZ
 go_wp2
 refine hR.out _ _ _ _ (by simp) ?_
 go_ret
 exact⟨rfl,HF9.out⟩
theorem laid_great_no (p:Option Addr) (t f k m i:Int) (kn:Bool) (st pg sz fi:Int) (g c:Nat) (E:Int) (hE:E≠0) (ok:Bool) (w:World) (HF:∀W,Below w.heap.size w W→Calls Tryz.prog 135 #[.agg #[.int .i64 st,.int .i64 pg,.int .i64 sz,.int .i64 fi],.slice (some ⟨g,0,none⟩) 6 c] W fun e w'=>e= .returned (.bool ok)∧Below W.heap.size W w') (HR:∀W,Below w.heap.size w W→Calls Tryz.prog 47 #[liV p t f k m kn i,.bool ok] W fun e w'=>e= .returned (.int .i64 E)∧Below W.heap.size W w'):
  Calls Tryz.prog 61 #[liV p t f k m kn i,.agg #[.int .i64 st,.int .i64 pg,.int .i64 sz,.int .i64 fi],.slice (some ⟨g,0,none⟩) 6 c] w fun e w'=>e= .returned (.int .i64 E)∧Below w.heap.size w w':=by
 obtain⟨W1,hW1⟩:=Nm ((w.alloc (.cells #[.pointer p,.int .i64 t,.int .u32 f,.int .i64 k,.int .i64 m,.bool kn,.int .i64 i] 113)).alloc (.cells #[.int .i64 st,.int .i64 pg,.int .i64 sz,.int .i64 fi] 43))
 have hb1:Below w.heap.size w W1:=by rw [hW1];exact(Br.alloc Lr _).alloc (by simp) _
 have hrl:Row W1 w.heap.size 113 (liC p t f k m kn i):=by rw [hW1];exact(Row.new w _ _).below (below1 _ _)
 have hrr:Row W1 (w.heap.size+1) 43 [.int .i64 st,.int .i64 pg,.int .i64 sz,.int .i64 fi]:=by rw [hW1];exact Row.new_at _ _ _ (by simp)
 have HSP:=Lh (fun W (hw:Below W1.heap.size W1 W)=>(show W.cell? ⟨w.heap.size,0,none⟩=some (.pointer p)∧W.cell? ⟨w.heap.size,1,none⟩=some (.int .i64 t)∧W.cell? ⟨w.heap.size,2,none⟩=some (.int .u32 f)∧W.cell? ⟨w.heap.size,3,none⟩=some (.int .i64 k)∧W.cell? ⟨w.heap.size,4,none⟩=some (.int .i64 m)∧W.cell? ⟨w.heap.size,5,none⟩=some (.bool kn)∧W.cell? ⟨w.heap.size,6,none⟩=some (.int .i64 i)∧W.cell? ⟨w.heap.size+1,0,none⟩=some (.int .i64 st)∧W.cell? ⟨w.heap.size+1,1,none⟩=some (.int .i64 pg)∧W.cell? ⟨w.heap.size+1,2,none⟩=some (.int .i64 sz)∧W.cell? ⟨w.heap.size+1,3,none⟩=some (.int .i64 fi) from⟨(hrl.below hw).cell 0,(hrl.below hw).cell 1,(hrl.below hw).cell 2,(hrl.below hw).cell 3,(hrl.below hw).cell 4,(hrl.below hw).cell 5,(hrl.below hw).cell 6,(hrr.below hw).cell 0,(hrr.below hw).cell 1,(hrr.below hw).cell 2,(hrr.below hw).cell 3⟩))
 have HB1:=Lh hb1
 have HW1:=Lh hW1
 have HFF:=Lh HF
 have HRR:=Lh HR
 have e0:(E == 0)=false:=by rw [beq_eq_false_iff_ne];exact hE
 clear HF HR hb1 hrl hrr hW1
 have hd1:Below W1.heap.size W1 W1.drew:=Br.drew
 go_enter Tryz.func61,Tryz.ntmps61
 go_wp2_with fail
 refine wp_scope_jump 1 fun R hR hJm=> ?_
 go_wp2_with fail
 rw [←HW1.out]
 refine wp_region_noPanic ?_
 refine wp_region_held_drew (S:=fun W=>W.cell? ⟨w.heap.size,0,none⟩=some (.pointer p)∧W.cell? ⟨w.heap.size,1,none⟩=some (.int .i64 t)∧W.cell? ⟨w.heap.size,2,none⟩=some (.int .u32 f)∧W.cell? ⟨w.heap.size,3,none⟩=some (.int .i64 k)∧W.cell? ⟨w.heap.size,4,none⟩=some (.int .i64 m)∧W.cell? ⟨w.heap.size,5,none⟩=some (.bool kn)∧W.cell? ⟨w.heap.size,6,none⟩=some (.int .i64 i)∧W.cell? ⟨w.heap.size+1,0,none⟩=some (.int .i64 st)∧W.cell? ⟨w.heap.size+1,1,none⟩=some (.int .i64 pg)∧W.cell? ⟨w.heap.size+1,2,none⟩=some (.int .i64 sz)∧W.cell? ⟨w.heap.size+1,3,none⟩=some (.int .i64 fi)) (by kernel_rfl) (HSP.out _ hd1) (fun hZ=> ?_)
 refine tkH 0 hZ ?_
 simp only [Act.put]
 refine tkH 1 hZ ?_
 simp only [Act.put]
 refine tkH 2 hZ ?_
 simp only [Act.put]
 refine rdH 3 fun K hK=> ?_
 go_simp
 refine(HFF.out _ (below0 HB1.out hd1)).mono ?_
 rintro e w2 ⟨rfl,hb2⟩
 have hd2:=below0 hd1 hb2
 refine hK.out _ _ (HSP.out _ hd2) (fun hZ=> ?_)
 clear hK K
 try simp only [Act.put]
 refine rdH 4 fun K hK=> ?_
 go_simp
 refine(HRR.out _ (below0 HB1.out hd2)).mono ?_
 rintro e w3 ⟨rfl,hb3⟩
 have hd3:=below0 hd2 hb3
 refine hK.out _ _ (HSP.out _ hd3) (fun hZ=> ?_)
 clear hK K
 try simp only [Act.put]
 refine rdH 5 fun K hK=> ?_
 go_simp
 refine hK.out _ _ (HSP.out _ hd3) (fun hZ=> ?_)
 clear hK K
 try simp only [Act.put]
 refine wpAnyH_done (by kernel_rfl) ?_ _
 refine NoPanic.normal ?_
 have HB9:=Lh (below0 HB1.out hd3)
 clear hd1 hd2 hd3 hb2 hb3 HFF HRR HSP HB1 HW1 hZ
 go_wp2_with fail
 refine wp_goto (hJm.out _ _ _ _ _ rfl ?_)
 go_wp2
 refine hR.out _ _ _ _ (by simp) ?_
 go_ret
 exact⟨rfl,HB9.out⟩
theorem laid_great_yes (p:Option Addr) (t f k m i:Int) (kn:Bool) (st pg sz fi:Int) (g c:Nat) (a:Int) (bs:List UInt8) (ok:Bool) (F:Nat→Prop) (Q:World→Prop) (w:World) (hFl:∀b,F b→b < w.heap.size) (HF:∀W,Below w.heap.size w W→Calls Tryz.prog 135 #[.agg #[.int .i64 st,.int .i64 pg,.int .i64 sz,.int .i64 fi],.slice (some ⟨g,0,none⟩) 6 c] W fun e w'=>e= .returned (.bool ok)∧Below W.heap.size W w') (HR:∀W,Below w.heap.size w W→Calls Tryz.prog 47 #[liV p t f k m kn i,.bool ok] W fun e w'=>e= .returned (.int .i64 0)∧Below W.heap.size W w')
  (HAT:∀W,Calls Tryz.prog 32 #[roV f k m,.int .i64 i] W fun e w'=>e= .returned (.int .u32 a)∧Below W.heap.size W w')
  (HPA:∀W,Below w.heap.size w W→Calls Tryz.prog 136 #[.agg #[.int .i64 st,.int .i64 pg,.int .i64 sz,.int .i64 fi],.slice (some ⟨g,0,none⟩) 6 c] W fun e w'=>∃A cp,e= .returned (.slice A 16 cp)∧w'.ownsRow W.heap.size 5 1 (.slice A 16 cp) 16 (byt bs)∧Below W.heap.size W w')
  (HPO:∀W A cp,Below w.heap.size w W→16≤cp→Sees W W.heap.size A (byt bs)→(∀ad,A=some ad→w.heap.size≤ad.block)→Calls Tryz.prog 86 #[.pointer p,.int .u32 a,.slice A 16 cp] W fun e w'=>e= .returned (.int .i64 0)∧Keep F W w'∧Q w'):
  Calls Tryz.prog 61 #[liV p t f k m kn i,.agg #[.int .i64 st,.int .i64 pg,.int .i64 sz,.int .i64 fi],.slice (some ⟨g,0,none⟩) 6 c] w fun e w'=>e= .returned (.int .i64 0)∧Keep F w w'∧Q w':=by
 obtain⟨W1,hW1⟩:=Nm ((w.alloc (.cells #[.pointer p,.int .i64 t,.int .u32 f,.int .i64 k,.int .i64 m,.bool kn,.int .i64 i] 113)).alloc (.cells #[.int .i64 st,.int .i64 pg,.int .i64 sz,.int .i64 fi] 43))
 have hb1:Below w.heap.size w W1:=by rw [hW1];exact(Br.alloc Lr _).alloc (by simp) _
 have hrl:Row W1 w.heap.size 113 (liC p t f k m kn i):=by rw [hW1];exact(Row.new w _ _).below (below1 _ _)
 have hrr:Row W1 (w.heap.size+1) 43 [.int .i64 st,.int .i64 pg,.int .i64 sz,.int .i64 fi]:=by rw [hW1];exact Row.new_at _ _ _ (by simp)
 have HSP:=Lh (fun W (hw:Below W1.heap.size W1 W)=>(show W.cell? ⟨w.heap.size,0,none⟩=some (.pointer p)∧W.cell? ⟨w.heap.size,1,none⟩=some (.int .i64 t)∧W.cell? ⟨w.heap.size,2,none⟩=some (.int .u32 f)∧W.cell? ⟨w.heap.size,3,none⟩=some (.int .i64 k)∧W.cell? ⟨w.heap.size,4,none⟩=some (.int .i64 m)∧W.cell? ⟨w.heap.size,5,none⟩=some (.bool kn)∧W.cell? ⟨w.heap.size,6,none⟩=some (.int .i64 i)∧W.cell? ⟨w.heap.size+1,0,none⟩=some (.int .i64 st)∧W.cell? ⟨w.heap.size+1,1,none⟩=some (.int .i64 pg)∧W.cell? ⟨w.heap.size+1,2,none⟩=some (.int .i64 sz)∧W.cell? ⟨w.heap.size+1,3,none⟩=some (.int .i64 fi) from⟨(hrl.below hw).cell 0,(hrl.below hw).cell 1,(hrl.below hw).cell 2,(hrl.below hw).cell 3,(hrl.below hw).cell 4,(hrl.below hw).cell 5,(hrl.below hw).cell 6,(hrr.below hw).cell 0,(hrr.below hw).cell 1,(hrr.below hw).cell 2,(hrr.below hw).cell 3⟩))
 have HSK:=Lh (fun W W' (hw:Below W1.heap.size W1 W) (hk:Keep F W W')=>(show W'.cell? ⟨w.heap.size,0,none⟩=some (.pointer p)∧W'.cell? ⟨w.heap.size,1,none⟩=some (.int .i64 t)∧W'.cell? ⟨w.heap.size,2,none⟩=some (.int .u32 f)∧W'.cell? ⟨w.heap.size,3,none⟩=some (.int .i64 k)∧W'.cell? ⟨w.heap.size,4,none⟩=some (.int .i64 m)∧W'.cell? ⟨w.heap.size,5,none⟩=some (.bool kn)∧W'.cell? ⟨w.heap.size,6,none⟩=some (.int .i64 i)∧W'.cell? ⟨w.heap.size+1,0,none⟩=some (.int .i64 st)∧W'.cell? ⟨w.heap.size+1,1,none⟩=some (.int .i64 pg)∧W'.cell? ⟨w.heap.size+1,2,none⟩=some (.int .i64 sz)∧W'.cell? ⟨w.heap.size+1,3,none⟩=some (.int .i64 fi) from⟨(hk.row (hrl.below hw) (fun hf=>by have:=hFl _ hf;omega)).cell 0,(hk.row (hrl.below hw) (fun hf=>by have:=hFl _ hf;omega)).cell 1,(hk.row (hrl.below hw) (fun hf=>by have:=hFl _ hf;omega)).cell 2,(hk.row (hrl.below hw) (fun hf=>by have:=hFl _ hf;omega)).cell 3,(hk.row (hrl.below hw) (fun hf=>by have:=hFl _ hf;omega)).cell 4,(hk.row (hrl.below hw) (fun hf=>by have:=hFl _ hf;omega)).cell 5,(hk.row (hrl.below hw) (fun hf=>by have:=hFl _ hf;omega)).cell 6,(hk.row (hrr.below hw) (fun hf=>by have:=hFl _ hf;omega)).cell 0,(hk.row (hrr.below hw) (fun hf=>by have:=hFl _ hf;omega)).cell 1,(hk.row (hrr.below hw) (fun hf=>by have:=hFl _ hf;omega)).cell 2,(hk.row (hrr.below hw) (fun hf=>by have:=hFl _ hf;omega)).cell 3⟩))
 have HB1:=Lh hb1
 have HW1:=Lh hW1
 have HFF:=Lh HF
 have HRR:=Lh HR
 have HATT:=Lh HAT
 have HPAA:=Lh HPA
 have HPOO:=Lh HPO
 clear HF HR HAT HPA HPO hb1 hrl hrr hW1
 have hd1:Below W1.heap.size W1 W1.drew:=Br.drew
 go_enter Tryz.func61,Tryz.ntmps61
 go_wp2_with fail
 refine wp_scope_jump 1 fun R hR hJm=> ?_
 go_wp2_with fail
 rw [←HW1.out]
 refine wp_region_noPanic ?_
 refine wp_region_held_drew (S:=fun W=>W.cell? ⟨w.heap.size,0,none⟩=some (.pointer p)∧W.cell? ⟨w.heap.size,1,none⟩=some (.int .i64 t)∧W.cell? ⟨w.heap.size,2,none⟩=some (.int .u32 f)∧W.cell? ⟨w.heap.size,3,none⟩=some (.int .i64 k)∧W.cell? ⟨w.heap.size,4,none⟩=some (.int .i64 m)∧W.cell? ⟨w.heap.size,5,none⟩=some (.bool kn)∧W.cell? ⟨w.heap.size,6,none⟩=some (.int .i64 i)∧W.cell? ⟨w.heap.size+1,0,none⟩=some (.int .i64 st)∧W.cell? ⟨w.heap.size+1,1,none⟩=some (.int .i64 pg)∧W.cell? ⟨w.heap.size+1,2,none⟩=some (.int .i64 sz)∧W.cell? ⟨w.heap.size+1,3,none⟩=some (.int .i64 fi)) (by kernel_rfl) (HSP.out _ hd1) (fun hZ=> ?_)
 refine tkH 0 hZ ?_
 simp only [Act.put]
 refine tkH 1 hZ ?_
 simp only [Act.put]
 refine tkH 2 hZ ?_
 simp only [Act.put]
 refine rdH 3 fun K hK=> ?_
 go_simp
 refine(HFF.out _ (below0 HB1.out hd1)).mono ?_
 rintro e w2 ⟨rfl,hb2⟩
 have hd2:=below0 hd1 hb2
 refine hK.out _ _ (HSP.out _ hd2) (fun hZ=> ?_)
 clear hK K
 try simp only [Act.put]
 refine rdH 4 fun K hK=> ?_
 go_simp
 refine(HRR.out _ (below0 HB1.out hd2)).mono ?_
 rintro e w3 ⟨rfl,hb3⟩
 have hd3:=below0 hd2 hb3
 refine hK.out _ _ (HSP.out _ hd3) (fun hZ=> ?_)
 clear hK K
 try simp only [Act.put]
 refine rdH 5 fun K hK=> ?_
 go_simp
 refine hK.out _ _ (HSP.out _ hd3) (fun hZ=> ?_)
 clear hK K
 try simp only [Act.put]
 refine wpAnyH_done (by kernel_rfl) ?_ _
 refine NoPanic.normal ?_
 have HD3:=Lh hd3
 have hd4:Below W1.heap.size W1 w3.drew:=hd3.drew
 clear hd1 hd2 hd3 hb2 hb3 HFF HRR HW1 hZ
 go_wp2_with fail
 refine wp_region_noPanic ?_
 refine wp_region_held_drew (S:=fun W=>W.cell? ⟨w.heap.size,0,none⟩=some (.pointer p)∧W.cell? ⟨w.heap.size,1,none⟩=some (.int .i64 t)∧W.cell? ⟨w.heap.size,2,none⟩=some (.int .u32 f)∧W.cell? ⟨w.heap.size,3,none⟩=some (.int .i64 k)∧W.cell? ⟨w.heap.size,4,none⟩=some (.int .i64 m)∧W.cell? ⟨w.heap.size,5,none⟩=some (.bool kn)∧W.cell? ⟨w.heap.size,6,none⟩=some (.int .i64 i)∧W.cell? ⟨w.heap.size+1,0,none⟩=some (.int .i64 st)∧W.cell? ⟨w.heap.size+1,1,none⟩=some (.int .i64 pg)∧W.cell? ⟨w.heap.size+1,2,none⟩=some (.int .i64 sz)∧W.cell? ⟨w.heap.size+1,3,none⟩=some (.int .i64 fi)) (by kernel_rfl) (HSP.out _ hd4) (fun hZ=> ?_)
 refine tkH 0 hZ ?_
 simp only [Act.put]
 refine tkH 1 hZ ?_
 simp only [Act.put]
 refine tkH 2 hZ ?_
 simp only [Act.put]
 refine tkH 3 hZ ?_
 simp only [Act.put]
 refine tkH 4 hZ ?_
 simp only [Act.put]
 refine tkH 5 hZ ?_
 simp only [Act.put]
 refine tkH 6 hZ ?_
 simp only [Act.put]
 refine tkH 8 hZ ?_
 simp only [Act.put]
 refine tkH 9 hZ ?_
 simp only [Act.put]
 refine rdH 7 fun K hK=> ?_
 go_simp
 refine(HATT.out _).mono ?_
 rintro e w4 ⟨rfl,hb4⟩
 have hd5:=below0 hd4 hb4
 refine hK.out _ _ (HSP.out _ hd5) (fun hZ=> ?_)
 clear hK K
 try simp only [Act.put]
 refine rdH 10 fun K hK=> ?_
 go_simp
 refine(HPAA.out _ (below0 HB1.out hd5)).mono ?_
 rintro e w5 ⟨A,cp,rfl,hown,hb5⟩
 have hd6:=below0 hd5 hb5
 refine hK.out _ _ (HSP.out _ hd6) (fun hZ=> ?_)
 clear hK K
 try simp only [Act.put]
 refine rdH 11 fun K hK=> ?_
 go_simp
 have hcp:=(own_cap hown).1
 refine(HPOO.out _ A cp (below0 HB1.out hd6) (by omega) (Vm.sees_own hown) (fun ad hA=> ?_)).mono ?_
 ·subst hA
  obtain⟨gb,cb,hAA,hgb,_⟩:=hown.form (by omega)
  injection hAA with hA1 hA2 hA3
  injection hA1 with hA1
  subst hA1
  have:=(below0 HB1.out hd5).size
  exact Nat.le_trans this hgb
 rintro e w6 ⟨rfl,hk6,hq6⟩
 refine hK.out _ _ (HSK.out _ _ hd6 hk6) (fun hZ=> ?_)
 clear hK K
 try simp only [Act.put]
 refine rdH 12 fun K hK=> ?_
 go_simp
 refine hK.out _ _ (HSK.out _ _ hd6 hk6) (fun hZ=> ?_)
 clear hK K
 try simp only [Act.put]
 refine wpAnyH_done (by kernel_rfl) ?_ _
 refine NoPanic.normal ?_
 have HF9:=Lh (And.intro ((Keep.of_below (below0 HB1.out hd6)).trans hk6 (fun b _ h=>h)) hq6)
 clear hd4 hd5 hd6 hb4 hb5 hown hcp hk6 hq6 HATT HPAA HPOO HSP HSK HB1 HD3 hZ
 go_wp2
 refine hR.out _ _ _ _ (by simp) ?_
 go_ret
 exact⟨rfl,HF9.out⟩
end Go.Proofs.YtfcfbcjiijfjgaaGreatDoor.Me
