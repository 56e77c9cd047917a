import Derived.Test.YtfcfbcjiijfjgaaGreatDoorPBB
import Derived.Test.YtfcfbcjiijfjgaaGreatDoorPAW
set_option maxHeartbeats 4000000
set_option maxRecDepth 100000
namespace Go.Proofs.YtfcfbcjiijfjgaaGreatDoor.Me
open Go.RowKit Go.Shelf
variable {X:Vm.Ctx}
open Vm (Ask askCells askE Asks)
attribute [local go_sem] Oper.semAt_some
abbrev liC (p:Option Addr) (t f k m:Int) (kn:Bool) (i:Int):List Value:= [.pointer p,.int .i64 t,.int .u32 f,.int .i64 k,.int .i64 m,.bool kn,.int .i64 i]
abbrev liV (p:Option Addr) (t f k m:Int) (kn:Bool) (i:Int):Value:= .agg #[.pointer p,.int .i64 t,.int .u32 f,.int .i64 k,.int .i64 m,.bool kn,.int .i64 i]
def recR (s c:Int):Int × Int × Int × Bool:=if isB s 4=true∧isB c 8=true then((256*(64*s.toNat+1)+768*c.toNat:Nat),8,(cnt c.toNat:Nat),true) else(0,0,0,false)
def greR (s:Int):Int × Int × Int × Bool:=if isB s 4=true then((256*(64*s.toNat+1)+6144:Nat),16,384,true) else(0,0,0,false)
theorem records_any (s c:Int) (w:World) (hT:Tabs w):Calls Tryz.prog 88 #[.int .i64 s,.int .i64 c] w fun e w'=>e= .returned (.tuple #[roV (recR s c).1 (recR s c).2.1 (recR s c).2.2.1,.bool (recR s c).2.2.2])∧Below w.heap.size w w':=by
 unfold recR
 by_cases h:isB s 4=true∧isB c 8=true
 ·rw [if_pos h]
  obtain⟨s,rfl,hs⟩:=isB_nat h.1
  obtain⟨c,rfl,hc⟩:=isB_nat h.2
  simp only [Int.toNat_natCast]
  exact records_yes s c w hT hs hc
 ·rw [if_neg h]
  refine records_no s c w hT ?_
  rcases h1:isB s 4 with _ | _
  ·exact .inl rfl
  ·rcases h2:isB c 8 with _ | _
   ·exact .inr rfl
   ·exact absurd ⟨h1,h2⟩ h
theorem greats_any (s:Int) (w:World):Calls Tryz.prog 110 #[.int .i64 s] w fun e w'=>e= .returned (.tuple #[roV (greR s).1 (greR s).2.1 (greR s).2.2.1,.bool (greR s).2.2.2])∧Below w.heap.size w w':=by
 unfold greR
 by_cases h:isB s 4=true
 ·rw [if_pos h]
  obtain⟨s,rfl,hs⟩:=isB_nat h
  simp only [Int.toNat_natCast]
  exact greats_yes s w hs
 ·rw [if_neg h]
  exact greats_no s w (by cases hq:isB s 4;rfl;exact absurd hq h)
theorem smallLine_any (p:Option Addr) (s c i:Int) (w:World) (hT:Tabs w):Calls Tryz.prog 40 #[.pointer p,spV s c i] w fun e w'=>e= .returned (liV p s (recR s c).1 (recR s c).2.1 (recR s c).2.2.1 (recR s c).2.2.2 i)∧Below w.heap.size w w':=by
 obtain⟨W1,hW1⟩:=Nm ((w.alloc (.cells #[.int .i64 s,.int .i64 c,.int .i64 i] 37)).alloc (.cells #[.pointer none,.int .i64 0,.int .u32 0,.int .i64 0,.int .i64 0,.bool false,.int .i64 0] 113))
 have hb1:Below w.heap.size w W1:=by rw [hW1];exact(Br.alloc Lr _).alloc (by simp) _
 have hrs:Row W1 w.heap.size 37 [.int .i64 s,.int .i64 c,.int .i64 i]:=by rw [hW1];exact(Row.new w _ _).below (below1 _ _)
 have hrl:Row W1 (w.heap.size+1) 113 [.pointer none,.int .i64 0,.int .u32 0,.int .i64 0,.int .i64 0,.bool false,.int .i64 0]:=by rw [hW1];exact Row.new_at _ _ _ (by simp)
 have HRC:=Lh (records_any s c W1 (hT.below hb1))
 obtain⟨⟨f,k,m,kn⟩,hr⟩:∃r,r=(recR s c):=⟨_,rfl⟩
 rw [←hr]at HRC ⊢
 simp only at HRC ⊢
 have HB1:=Lh hb1
 have HRL:=Lh hrl
 have HW1:=Lh hW1
 have HRS:=Lh hrs
 have a0:=hrs.cell 0
 have a1:=hrs.cell 1
 have a2:=hrs.cell 2
 clear hr hb1 hrl hW1 hrs hT
 go_enter Tryz.func40,Tryz.ntmps40
 go_wp2_with fail
 rw [←HW1.out]
 refine HRC.out.mono ?_
 rintro e w2 ⟨rfl,hb2⟩
 have HB2:=Lh (below0 HB1.out hb2)
 have r2:=(HRL.out.below hb2).below (below1 w2 (.cells #[.int .u32 f,.int .i64 k,.int .i64 m] 78))
 have HR2:=Lh r2
 have HB3:=Lh (HB2.out.alloc HB2.out.size (.cells #[.int .u32 f,.int .i64 k,.int .i64 m] 78))
 have hlt:=r2.lt
 have c0:World.cell? (w2.alloc (.cells #[.int .u32 f,.int .i64 k,.int .i64 m] 78)) ⟨w.heap.size+1,0,none⟩=_:=r2.cell 0
 have c1:World.cell? (w2.alloc (.cells #[.int .u32 f,.int .i64 k,.int .i64 m] 78)) ⟨w.heap.size+1,1,none⟩=_:=r2.cell 1
 have c2:World.cell? (w2.alloc (.cells #[.int .u32 f,.int .i64 k,.int .i64 m] 78)) ⟨w.heap.size+1,2,none⟩=_:=r2.cell 2
 have c3:World.cell? (w2.alloc (.cells #[.int .u32 f,.int .i64 k,.int .i64 m] 78)) ⟨w.heap.size+1,3,none⟩=_:=r2.cell 3
 have c4:World.cell? (w2.alloc (.cells #[.int .u32 f,.int .i64 k,.int .i64 m] 78)) ⟨w.heap.size+1,4,none⟩=_:=r2.cell 4
 have c5:World.cell? (w2.alloc (.cells #[.int .u32 f,.int .i64 k,.int .i64 m] 78)) ⟨w.heap.size+1,5,none⟩=_:=r2.cell 5
 have c6:World.cell? (w2.alloc (.cells #[.int .u32 f,.int .i64 k,.int .i64 m] 78)) ⟨w.heap.size+1,6,none⟩=_:=r2.cell 6
 have f0:=r2.frozen 0
 have f1:=r2.frozen 1
 have f2:=r2.frozen 2
 have f3:=r2.frozen 3
 have f4:=r2.frozen 4
 have f5:=r2.frozen 5
 have f6:=r2.frozen 6
 have s2:=(HRS.out.below hb2).below (below1 w2 (.cells #[.int .u32 f,.int .i64 k,.int .i64 m] 78))
 have b0:World.cell? (w2.alloc (.cells #[.int .u32 f,.int .i64 k,.int .i64 m] 78)) ⟨w.heap.size,0,none⟩=_:=s2.cell 0
 have b1:World.cell? (w2.alloc (.cells #[.int .u32 f,.int .i64 k,.int .i64 m] 78)) ⟨w.heap.size,1,none⟩=_:=s2.cell 1
 have b2:World.cell? (w2.alloc (.cells #[.int .u32 f,.int .i64 k,.int .i64 m] 78)) ⟨w.heap.size,2,none⟩=_:=s2.cell 2
 clear r2 hb2 HRC HB1 HRL HW1 HRS s2 a0 a1 a2
 go_wp2
 have R8:=row_set7 (.pointer p) (.int .i64 s) (.int .u32 f) (.int .i64 k) (.int .i64 m) (.bool kn) (.int .i64 i) HR2.out
 have B8:=below_set7 (b:=w.heap.size+1) (.pointer p) (.int .i64 s) (.int .u32 f) (.int .i64 k) (.int .i64 m) (.bool kn) (.int .i64 i) HB3.out (by omega)
 clear c0 f0 c1 f1 c2 f2 c3 f3 c4 f4 c5 f5 c6 f6
 have d0:=R8.cell 0
 have d1:=R8.cell 1
 have d2:=R8.cell 2
 have d3:=R8.cell 3
 have d4:=R8.cell 4
 have d5:=R8.cell 5
 have d6:=R8.cell 6
 exact bodyPost_ret (v:=liV p s f k m kn i) (by simp [results,Tryz.results40,go_sem,d0,d1,d2,d3,d4,d5,d6]) rfl ⟨rfl,B8⟩
theorem greatLine_any (p:Option Addr) (s i:Int) (w:World):Calls Tryz.prog 46 #[.pointer p,.int .i64 s,.int .i64 i] w fun e w'=>e= .returned (liV p s (greR s).1 (greR s).2.1 (greR s).2.2.1 (greR s).2.2.2 i)∧Below w.heap.size w w':=by
 obtain⟨W1,hW1⟩:=Nm (w.alloc (.cells #[.pointer none,.int .i64 0,.int .u32 0,.int .i64 0,.int .i64 0,.bool false,.int .i64 0] 113))
 have hb1:Below w.heap.size w W1:=by rw [hW1];exact below1 _ _
 have hrl:Row W1 w.heap.size 113 [.pointer none,.int .i64 0,.int .u32 0,.int .i64 0,.int .i64 0,.bool false,.int .i64 0]:=by rw [hW1];exact Row.new _ _ _
 have HRC:=Lh (greats_any s W1)
 obtain⟨⟨f,k,m,kn⟩,hr⟩:∃r,r=(greR s):=⟨_,rfl⟩
 rw [←hr]at HRC ⊢
 simp only at HRC ⊢
 have HB1:=Lh hb1
 have HRL:=Lh hrl
 have HW1:=Lh hW1
 clear hr hb1 hrl hW1
 go_enter Tryz.func46,Tryz.ntmps46
 go_wp2_with fail
 rw [←HW1.out]
 refine HRC.out.mono ?_
 rintro e w2 ⟨rfl,hb2⟩
 have HB2:=Lh (below0 HB1.out hb2)
 have r2:=(HRL.out.below hb2).below (below1 w2 (.cells #[.int .u32 f,.int .i64 k,.int .i64 m] 78))
 have HR2:=Lh r2
 have HB3:=Lh (HB2.out.alloc HB2.out.size (.cells #[.int .u32 f,.int .i64 k,.int .i64 m] 78))
 have hlt:=r2.lt
 have c0:World.cell? (w2.alloc (.cells #[.int .u32 f,.int .i64 k,.int .i64 m] 78)) ⟨w.heap.size,0,none⟩=_:=r2.cell 0
 have c1:World.cell? (w2.alloc (.cells #[.int .u32 f,.int .i64 k,.int .i64 m] 78)) ⟨w.heap.size,1,none⟩=_:=r2.cell 1
 have c2:World.cell? (w2.alloc (.cells #[.int .u32 f,.int .i64 k,.int .i64 m] 78)) ⟨w.heap.size,2,none⟩=_:=r2.cell 2
 have c3:World.cell? (w2.alloc (.cells #[.int .u32 f,.int .i64 k,.int .i64 m] 78)) ⟨w.heap.size,3,none⟩=_:=r2.cell 3
 have c4:World.cell? (w2.alloc (.cells #[.int .u32 f,.int .i64 k,.int .i64 m] 78)) ⟨w.heap.size,4,none⟩=_:=r2.cell 4
 have c5:World.cell? (w2.alloc (.cells #[.int .u32 f,.int .i64 k,.int .i64 m] 78)) ⟨w.heap.size,5,none⟩=_:=r2.cell 5
 have c6:World.cell? (w2.alloc (.cells #[.int .u32 f,.int .i64 k,.int .i64 m] 78)) ⟨w.heap.size,6,none⟩=_:=r2.cell 6
 have f0:=r2.frozen 0
 have f1:=r2.frozen 1
 have f2:=r2.frozen 2
 have f3:=r2.frozen 3
 have f4:=r2.frozen 4
 have f5:=r2.frozen 5
 have f6:=r2.frozen 6
 clear r2 hb2 HRC HB1 HRL HW1
 go_wp2
 have R8:=row_set7 (.pointer p) (.int .i64 s) (.int .u32 f) (.int .i64 k) (.int .i64 m) (.bool kn) (.int .i64 i) HR2.out
 have B8:=below_set7 (b:=w.heap.size) (.pointer p) (.int .i64 s) (.int .u32 f) (.int .i64 k) (.int .i64 m) (.bool kn) (.int .i64 i) HB3.out (by omega)
 clear c0 f0 c1 f1 c2 f2 c3 f3 c4 f4 c5 f5 c6 f6
 have d0:=R8.cell 0
 have d1:=R8.cell 1
 have d2:=R8.cell 2
 have d3:=R8.cell 3
 have d4:=R8.cell 4
 have d5:=R8.cell 5
 have d6:=R8.cell 6
 exact bodyPost_ret (v:=liV p s f k m kn i) (by simp [results,Tryz.results46,go_sem,d0,d1,d2,d3,d4,d5,d6]) rfl ⟨rfl,B8⟩
def refE (B:Bks) (t:Int) (kn may:Bool) (i m:Int):Int:=if kn=true∧may=true then(if isB i m=true then openE B t else 4) else 2
theorem ref1_any (g b:Nat) (p:Option Addr) (t f k m i:Int) (kn may:Bool) (w:World) (h:Row w g 113 (liC p t f k m kn i)) (hb:w.cell? ⟨b,0,none⟩=some (.bool may)):Calls Tryz.prog 111 #[.pointer (some ⟨g,0,none⟩),.pointer (some ⟨b,0,none⟩)] w fun e w'=>e= .returned (.bool (kn && may))∧Below w.heap.size w w':=by
 have c5:w.cell? ⟨g,5,none⟩=_:=h.cell 5
 clear h
 cases kn
 all_goals
  go_enter Tryz.func111,Tryz.ntmps111
  go_wp2
  go_ret
  exact⟨rfl,Br⟩
theorem ref2_any (g:Nat) (p:Option Addr) (t f k m i:Int) (kn:Bool) (w:World) (h:Row w g 113 (liC p t f k m kn i)):Calls Tryz.prog 112 #[.pointer (some ⟨g,0,none⟩)] w fun e w'=>e= .returned (.bool (isB i m))∧Below w.heap.size w w':=by
 have c2:w.cell? ⟨g,2,none⟩=_:=h.cell 2
 have c3:w.cell? ⟨g,3,none⟩=_:=h.cell 3
 have c4:w.cell? ⟨g,4,none⟩=_:=h.cell 4
 have c6:w.cell? ⟨g,6,none⟩=_:=h.cell 6
 have h1:=Lh (has_any f k m i w)
 obtain⟨q,hq⟩:=Nm (isB i m)
 rw [←hq]at h1 ⊢
 clear h hq
 go_enter Tryz.func112,Tryz.ntmps112
 go_wp2_with fail
 refine h1.out.mono ?_
 rintro e w1 ⟨rfl,hb1⟩
 go_wp2
 go_ret
 exact⟨rfl,hb1⟩
def reL (v:Value) (t:Int) (g b:Nat) (a1 a2 a3 a4:Bool):List Ask:= [⟨50,#[boV v t],#[],1,a1⟩,⟨111,#[],#[.pointer (some ⟨g,0,none⟩),.pointer (some ⟨b,0,none⟩)],2,a2⟩,⟨112,#[],#[.pointer (some ⟨g,0,none⟩)],4,a3⟩,⟨59,#[boV v t],#[],5,a4⟩]
theorem reL_E (v:Value) (B:Bks) (t:Int) (g b:Nat) (kn may:Bool) (i m:Int):askE (reL v t g b true (kn && may) (isB i m) (B t.toNat).isSome)=refE B t kn may i m:=by
 unfold refE openE
 cases kn <;> cases may <;> cases isB i m <;> cases B t.toNat <;> rfl
theorem reL_asks {w:World} {v:Value} {B:Bks} {n:Nat} {F:Nat→Prop} (h:HasV X w v (bookV X B) n F) {p:Option Addr} {t f k m i:Int} {kn may:Bool} {g b:Nat} (hr:Row w g 113 (liC p t f k m kn i)) (hb:w.cell? ⟨b,0,none⟩=some (.bool may)) (hk:kn=true→isB t 4=true):Asks w (reL v t g b true (kn && may) (isB i m) (B t.toNat).isSome):=by
 intro q hq hall
 rcases q with _ | _ | _ | _ | q
 ·exact⟨enters_of Tryz.func50 (by kernel_rfl) rfl,fun V hV=>there_has (h.below hV) t⟩
 ·exact⟨enters_of Tryz.func111 (by kernel_rfl) rfl,fun V hV=>ref1_any g b p t f k m i kn may V (hr.below hV) ((hV.cell (p:=⟨b,0,none⟩) (lt_of_cell hb)).trans hb)⟩
 ·exact⟨enters_of Tryz.func112 (by kernel_rfl) rfl,fun V hV=>ref2_any g p t f k m i kn V (hr.below hV)⟩
 ·have t2:(kn && may)=true:=hall 1 (by simp [reL]) (by omega)
  rw [Bool.and_eq_true]at t2
  obtain⟨j,rfl,hj⟩:=isB_nat (b:=4) (hk t2.1)
  exact⟨enters_of Tryz.func59 (by kernel_rfl) rfl,fun V hV=>open_has (h.below hV) j _ hj (book_some B hj)⟩
 ·simp [reL]at hq
  omega
theorem refusal_has {w:World} {B:Bks} {n:Nat} {F:Nat→Prop} (p:Option Addr) (h:HasV X w (.pointer p) (bookV X B) n F) (t f k m i:Int) (kn may:Bool) (hk:kn=true→isB t 4=true):Calls Tryz.prog 47 #[liV p t f k m kn i,.bool may] w fun e w'=>e= .returned (.int .i64 (refE B t kn may i m))∧Below w.heap.size w w':=by
 obtain⟨W1,hW1⟩:=Nm ((w.alloc (.cells #[.pointer p,.int .i64 t,.int .u32 f,.int .i64 k,.int .i64 m,.bool kn,.int .i64 i] 113)).alloc (.cells #[.bool may] 4))
 have hr1:Row W1 w.heap.size 113 (liC p t f k m kn i):=by rw [hW1];exact(Row.new w _ _).below (below1 _ _)
 have hrb:Row W1 (w.heap.size+1) 4 [.bool may]:=by rw [hW1];exact Row.new_at _ _ _ (by simp)
 have hb1:Below w.heap.size w W1:=by rw [hW1];exact(Br.alloc Lr _).alloc (by simp) _
 have hs1:W1.heap.size=w.heap.size+1+1:=by rw [hW1];simp
 have HA:=Lh (asked_at (reL (.pointer p) t w.heap.size (w.heap.size+1) true (kn && may) (isB i m) (B t.toNat).isSome) 4 (w.heap.size+1+1) W1 rfl (by omega) hs1 (reL_asks (HasV.below h hb1) hr1 (hrb.cell 0) hk))
 rw [reL_E (.pointer p) B t w.heap.size (w.heap.size+1) kn may i m]at HA
 simp only [reL,askCells,Ask.val,List.flatMap_cons,List.flatMap_nil,List.append_nil,List.cons_append,List.nil_append]at HA
 obtain⟨E,hE⟩:=Nm (refE B t kn may i m)
 rw [←hE]at HA ⊢
 clear hE h hk
 have HB1:=Lh hb1
 have HW1:=Lh hW1
 have c0:W1.cell? ⟨w.heap.size,0,none⟩=_:=hr1.cell 0
 have c1:W1.cell? ⟨w.heap.size,1,none⟩=_:=hr1.cell 1
 clear hW1 hr1 hrb hb1 hs1
 go_enter Tryz.func47,Tryz.ntmps47
 go_wp2_with fail
 rw [←HW1.out]
 refine HA.out.mono ?_
 rintro e w2 ⟨rfl,hb2⟩
 have HF:=Lh (below0 HB1.out hb2)
 clear hb2 HA HB1 HW1 c0 c1
 go_wp2
 go_ret
 exact⟨rfl,HF.out⟩
theorem refusal_nil (t f k m i:Int) (kn may:Bool) (w:World):Calls Tryz.prog 47 #[liV none t f k m kn i,.bool may] w fun e w'=>e= .returned (.int .i64 1)∧Below w.heap.size w w':=by
 obtain⟨p,hp⟩:∃p:Option Addr,p=none:=⟨_,rfl⟩
 rw [show liV none t f k m kn i=liV p t f k m kn i by rw [hp]]
 obtain⟨W1,hW1⟩:=Nm ((w.alloc (.cells #[.pointer p,.int .i64 t,.int .u32 f,.int .i64 k,.int .i64 m,.bool kn,.int .i64 i] 113)).alloc (.cells #[.bool may] 4))
 have hr1:Row W1 w.heap.size 113 (liC p t f k m kn i):=by rw [hW1];exact(Row.new w _ _).below (below1 _ _)
 have hrb:Row W1 (w.heap.size+1) 4 [.bool may]:=by rw [hW1];exact Row.new_at _ _ _ (by simp)
 have hb1:Below w.heap.size w W1:=by rw [hW1];exact(Br.alloc Lr _).alloc (by simp) _
 have hs1:W1.heap.size=w.heap.size+1+1:=by rw [hW1];simp
 have HA:=Lh (asked_at (⟨50,#[boV (.pointer p) t],#[],1,false⟩ :: (reL (.pointer p) t w.heap.size (w.heap.size+1) true true true true).tail) 4 (w.heap.size+1+1) W1 rfl (by omega) hs1 (by rw [hp];exact nil_asks _ _ _))
 rw [show askE (⟨50,#[boV (.pointer p) t],#[],1,false⟩ :: (reL (.pointer p) t w.heap.size (w.heap.size+1) true true true true).tail)=1 from rfl]at HA
 simp only [reL,List.tail_cons,askCells,Ask.val,List.flatMap_cons,List.flatMap_nil,List.append_nil,List.cons_append,List.nil_append]at HA
 clear hp
 have HB1:=Lh hb1
 have HW1:=Lh hW1
 have c0:W1.cell? ⟨w.heap.size,0,none⟩=_:=hr1.cell 0
 have c1:W1.cell? ⟨w.heap.size,1,none⟩=_:=hr1.cell 1
 clear hW1 hr1 hrb hb1 hs1
 go_enter Tryz.func47,Tryz.ntmps47
 go_wp2_with fail
 rw [←HW1.out]
 refine HA.out.mono ?_
 rintro e w2 ⟨rfl,hb2⟩
 have HF:=Lh (below0 HB1.out hb2)
 clear hb2 HA HB1 HW1 c0 c1
 go_wp2
 go_ret
 exact⟨rfl,HF.out⟩
end Go.Proofs.YtfcfbcjiijfjgaaGreatDoor.Me
namespace Go.Proofs.YtfcfbcjiijfjgaaGreatDoor.Me
open Go.RowKit Go.Shelf
attribute [local go_sem] Oper.semAt_some
theorem Tabs.keep {F:Nat→Prop} {w w':World} (h:Tabs w) (hk:Keep F w w') (hF:∀k,F k→w.heap.size≤k∨(k≠0∧k≠1)):Tabs w':=by
 obtain⟨h1,h2⟩:=h
 have l1:=h1.lt
 have l2:=h2.lt
 refine⟨h1.same (hk.block _ l1 (fun hf=> ?_)),?_⟩
 ·rcases hF _ hf with h | h
  ·omega
  ·exact h.1 rfl
 ·obtain⟨t,fr,h2⟩:=h2
  refine⟨t,fr,(hk.block _ l2 (fun hf=> ?_)).trans h2⟩
  rcases hF _ hf with h | h
  ·omega
  ·exact h.2 rfl
def blRec (st sz no:Nat):Nat→List UInt8
 | 0=>Wo.le 1 st
 | 1=>Wo.le 1 0
 | 2=>Wo.le 2 sz
 | _=>Wo.le 4 no
theorem flat_Rec (st sz no:Nat):flat [blRec st sz no 0,blRec st sz no 1,blRec st sz no 2,blRec st sz no 3]=recB st sz no:=by
 simp only [blRec,flat,le_one,le_two,le_four,recB,List.append_nil,List.append_assoc]
 rfl
theorem len_Rec (st sz no:Nat):(recB st sz no).length=8:=rfl
theorem packed_small (st sz no g c:Nat) (t:TypeId) (w:World) (hT:Tabs w) (hrow:Row w g t (prtCells smallP)) (hc:4≤c) (h1:st≤4) (h2:sz≤65535) (h3:no < 4294967296):
  Calls Tryz.prog 87 #[.agg #[.int .i64 (st:Int),.int .i64 (sz:Int),.int .u32 (no:Int)],.slice (some ⟨g,0,none⟩) 4 c] w fun e w'=>∃A cp,e= .returned (.slice A 8 cp)∧w'.ownsRow w.heap.size 5 1 (.slice A 8 cp) 8 (byt (recB st sz no))∧Below w.heap.size w w':=by
 obtain⟨W4,hW4⟩:=Nm (((w.alloc (.cells #[.int .i64 (st:Int),.int .i64 (sz:Int),.int .u32 (no:Int)] 41)).alloc (.cells #[.slice none 0 0] 248)))
 have hs4:W4.heap.size=w.heap.size+1+1:=by rw [hW4];simp
 have hB4:Below w.heap.size w W4:=by rw [hW4];exact(Br.alloc Lr _).alloc (by simp) _
 have hX1:Row W4 w.heap.size 41 [.int .i64 (st:Int),.int .i64 (sz:Int),.int .u32 (no:Int)]:=by rw [hW4];exact(Row.new w _ _).below (below1 _ _)
 have hX2:Row W4 (w.heap.size+1) 248 [.slice none 0 0]:=by rw [hW4];exact Row.new_at _ _ _ (by simp)
 have hA0:PkA W4 (w.heap.size+1) (blRec st sz no) 0 W4 (· =w.heap.size+1):=⟨by omega,Nat.le_refl _,rfl,fun b hb=>by omega,none,0,[],hX2,World.ownsRow_nil _ _ _ _,rfl,fun b e=>(by cases e),fun i hi=>absurd hi (Nat.not_lt_zero _)⟩
 have hT4:=hT.below hB4
 have l1:=hT.1.lt
 have l2:=hT.2.lt
 have hgl:=hrow.lt
 have HWR:=Lh (write_Rec (st:Int) (sz:Int) (no:Int) (PkA W4 (w.heap.size+1) (blRec st sz no)) PkA.says (· =w.heap.size+1) (tvRec (st:Int) (sz:Int) (no:Int)) 162 #[.pointer (some ⟨w.heap.size+1,0,none⟩)] smallP g 4 c t W4 (hrow.below hB4) rfl (by omega) hc smallP_frm hA0 (fun e=>by omega)
  (enters_of Tryz.func162 (by kernel_rfl) rfl) (fun k hk W G hkp ha=>by
  have hTW:=hT4.keep hkp (fun b hb=> .inr ⟨by omega,by omega⟩)
  have hcs:k=0∨k=1∨k=2∨k=3:=by
   have:smallP.length=4:=rfl
   omega
  rcases hcs with rfl | rfl | rfl | rfl
  ·exact pk1_Rec ha hTW (st) 1 (by omega) (by decide) (by show((st:Nat):Int)≤255;omega) (by omega) rfl
  ·exact pk1_Rec ha hTW (0) 1 (by omega) (by decide) (by show((0:Nat):Int)≤255;omega) (by omega) rfl
  ·exact pk1_Rec ha hTW (sz) 2 (by omega) (by decide) (by show((sz:Nat):Int)≤65535;omega) (by omega) rfl
  ·exact pk1_Rec ha hTW (no) 4 (by omega) (by decide) (by show((no:Nat):Int)≤4294967295;omega) (by omega) rfl
  ) eg_tell_Rec (tells_Rec (st:Int) (sz:Int) (no:Int) (by omega) (by omega)))
 have HJ:Hid (∀w1 G,PkA W4 (w.heap.size+1) (blRec st sz no) 4 w1 G→∃A cc,w1.cell? ⟨w.heap.size+1,0,none⟩=some (.slice A 4 cc)∧Calls Tryz.prog 164 #[.slice A 4 cc] w1 fun e w'=>∃v,e= .returned v∧w'.ownsRow w1.heap.size 5 1 v (recB st sz no).length (byt (recB st sz no))∧Below w1.heap.size w1 w'):=Lh (fun w1 G hp=>by
  obtain⟨A,cc,vs,p1,p2,p3,p4,p5⟩:=hp.list
  refine⟨A,cc,p1.cell 0,?_⟩
  have hfl:=flat_Rec st sz no
  have:=joined_any [blRec st sz no 0,blRec st sz no 1,blRec st sz no 2,blRec st sz no 3] 4 cc w1.heap.size A w1 rfl (by omega) (by rw [hfl,len_Rec];omega) ⟨vs,by rw [p3];rfl,Vm.sees_own p2,fun i hi=>by
   have hi2:i < 4:=hi
   obtain⟨u,hu,A9,m9,c9,rfl,g1,g2,g3⟩:=p5 i hi2
   have hbi: [blRec st sz no 0,blRec st sz no 1,blRec st sz no 2,blRec st sz no 3][i]=blRec st sz no i:=by
    rcases(show i=0∨i=1∨i=2∨i=3 by omega) with rfl | rfl | rfl | rfl <;> rfl
   have hbl8:(blRec st sz no i).length≤8:=by
    rcases(show i=0∨i=1∨i=2∨i=3 by omega) with rfl | rfl | rfl | rfl <;> (simp only [blRec,Wo.le_length];omega)
   exact⟨A9,m9,c9,hu,by rw [hbi,g1],by omega,by rw [hbi];exact Vm.sees_own g2⟩⟩ Lr
  rw [hfl]at this
  exact this)
 have c0:∀q,q < 3→W4.cell? ⟨w.heap.size,q,none⟩= [.int .i64 (st:Int),.int .i64 (sz:Int),.int .u32 (no:Int)][q]?:=fun q _=>hX1.cell q
 have d0:W4.cell? ⟨w.heap.size,0,none⟩=_:=hX1.cell 0
 have d1:W4.cell? ⟨w.heap.size,1,none⟩=_:=hX1.cell 1
 have d2:W4.cell? ⟨w.heap.size,2,none⟩=_:=hX1.cell 2
 have HB4:=Lh hB4
 have HS4:=Lh hs4
 have HW4:=Lh hW4
 clear c0 hW4 hs4 hB4 hX1 hX2 hA0 hT4 l1 l2 hgl hrow hT h1 h2 h3
 go_enter Tryz.func87,Tryz.ntmps87
 go_wp2_with fail
 rw [←HW4.out]
 refine HWR.out.mono ?_
 rintro e w1 ⟨⟨u,rfl⟩,G,p1,p2,p3⟩
 obtain⟨A,cc,c1,hj⟩:=HJ.out w1 G p1
 have HJ2:=Lh hj
 have HB1:=Lh (show Below w.heap.size w w1 from HB4.out.trans (p2.below (fun b hb=>by omega) (by have:=HS4.out;omega)))
 clear p1 p2 p3 hj HWR HJ HB4 HS4 HW4 d0 d1 d2
 go_wp2_with fail
 refine HJ2.out.mono ?_
 rintro e w2 ⟨v,rfl,hown,hb2⟩
 obtain⟨A2,c2,rfl⟩:=own_slice hown
 have HF:=Lh (And.intro (own_mono hown HB1.out.size) (below0 HB1.out hb2))
 clear hown hb2 HJ2
 go_wp2_with fail
 go_ret
 exact⟨A2,c2,rfl,HF.out.1,HF.out.2⟩
def blGre (st pg sz fi:Nat):Nat→List UInt8
 | 0=>Wo.le 1 st
 | 1=>Wo.le 1 0
 | 2=>Wo.le 2 pg
 | 3=>Wo.le 4 sz
 | 4=>Wo.le 4 fi
 | _=>Wo.le 4 0
theorem flat_Gre (st pg sz fi:Nat):flat [blGre st pg sz fi 0,blGre st pg sz fi 1,blGre st pg sz fi 2,blGre st pg sz fi 3,blGre st pg sz fi 4,blGre st pg sz fi 5]=greatB st pg sz fi:=by
 simp only [blGre,flat,le_one,le_two,le_four,greatB,List.append_nil,List.append_assoc]
 rfl
theorem len_Gre (st pg sz fi:Nat):(greatB st pg sz fi).length=16:=rfl
theorem packed_great (st pg sz fi g c:Nat) (t:TypeId) (w:World) (hT:Tabs w) (hrow:Row w g t (prtCells greatP)) (hc:6≤c) (h1:st≤4) (h2:pg≤65535) (h3:sz≤262144) (h4:fi≤65535):
  Calls Tryz.prog 136 #[.agg #[.int .i64 (st:Int),.int .i64 (pg:Int),.int .i64 (sz:Int),.int .i64 (fi:Int)],.slice (some ⟨g,0,none⟩) 6 c] w fun e w'=>∃A cp,e= .returned (.slice A 16 cp)∧w'.ownsRow w.heap.size 5 1 (.slice A 16 cp) 16 (byt (greatB st pg sz fi))∧Below w.heap.size w w':=by
 obtain⟨W4,hW4⟩:=Nm (((w.alloc (.cells #[.int .i64 (st:Int),.int .i64 (pg:Int),.int .i64 (sz:Int),.int .i64 (fi:Int)] 43)).alloc (.cells #[.slice none 0 0] 248)))
 have hs4:W4.heap.size=w.heap.size+1+1:=by rw [hW4];simp
 have hB4:Below w.heap.size w W4:=by rw [hW4];exact(Br.alloc Lr _).alloc (by simp) _
 have hX1:Row W4 w.heap.size 43 [.int .i64 (st:Int),.int .i64 (pg:Int),.int .i64 (sz:Int),.int .i64 (fi:Int)]:=by rw [hW4];exact(Row.new w _ _).below (below1 _ _)
 have hX2:Row W4 (w.heap.size+1) 248 [.slice none 0 0]:=by rw [hW4];exact Row.new_at _ _ _ (by simp)
 have hA0:PkA W4 (w.heap.size+1) (blGre st pg sz fi) 0 W4 (· =w.heap.size+1):=⟨by omega,Nat.le_refl _,rfl,fun b hb=>by omega,none,0,[],hX2,World.ownsRow_nil _ _ _ _,rfl,fun b e=>(by cases e),fun i hi=>absurd hi (Nat.not_lt_zero _)⟩
 have hT4:=hT.below hB4
 have l1:=hT.1.lt
 have l2:=hT.2.lt
 have hgl:=hrow.lt
 have HWR:=Lh (write_Gre (st:Int) (pg:Int) (sz:Int) (fi:Int) (PkA W4 (w.heap.size+1) (blGre st pg sz fi)) PkA.says (· =w.heap.size+1) (tvGre (st:Int) (pg:Int) (sz:Int) (fi:Int)) 211 #[.pointer (some ⟨w.heap.size+1,0,none⟩)] greatP g 6 c t W4 (hrow.below hB4) rfl (by omega) hc greatP_frm hA0 (fun e=>by omega)
  (enters_of Tryz.func211 (by kernel_rfl) rfl) (fun k hk W G hkp ha=>by
  have hTW:=hT4.keep hkp (fun b hb=> .inr ⟨by omega,by omega⟩)
  have hcs:k=0∨k=1∨k=2∨k=3∨k=4∨k=5:=by
   have:greatP.length=6:=rfl
   omega
  rcases hcs with rfl | rfl | rfl | rfl | rfl | rfl
  ·exact pk1_Gre ha hTW (st) 1 (by omega) (by decide) (by show((st:Nat):Int)≤255;omega) (by omega) rfl
  ·exact pk1_Gre ha hTW (0) 1 (by omega) (by decide) (by show((0:Nat):Int)≤255;omega) (by omega) rfl
  ·exact pk1_Gre ha hTW (pg) 2 (by omega) (by decide) (by show((pg:Nat):Int)≤65535;omega) (by omega) rfl
  ·exact pk1_Gre ha hTW (sz) 4 (by omega) (by decide) (by show((sz:Nat):Int)≤4294967295;omega) (by omega) rfl
  ·exact pk1_Gre ha hTW (fi) 4 (by omega) (by decide) (by show((fi:Nat):Int)≤4294967295;omega) (by omega) rfl
  ·exact pk1_Gre ha hTW (0) 4 (by omega) (by decide) (by show((0:Nat):Int)≤4294967295;omega) (by omega) rfl
  ) eg_tell_Gre (tells_Gre (st:Int) (pg:Int) (sz:Int) (fi:Int)))
 have HJ:Hid (∀w1 G,PkA W4 (w.heap.size+1) (blGre st pg sz fi) 6 w1 G→∃A cc,w1.cell? ⟨w.heap.size+1,0,none⟩=some (.slice A 6 cc)∧Calls Tryz.prog 164 #[.slice A 6 cc] w1 fun e w'=>∃v,e= .returned v∧w'.ownsRow w1.heap.size 5 1 v (greatB st pg sz fi).length (byt (greatB st pg sz fi))∧Below w1.heap.size w1 w'):=Lh (fun w1 G hp=>by
  obtain⟨A,cc,vs,p1,p2,p3,p4,p5⟩:=hp.list
  refine⟨A,cc,p1.cell 0,?_⟩
  have hfl:=flat_Gre st pg sz fi
  have:=joined_any [blGre st pg sz fi 0,blGre st pg sz fi 1,blGre st pg sz fi 2,blGre st pg sz fi 3,blGre st pg sz fi 4,blGre st pg sz fi 5] 6 cc w1.heap.size A w1 rfl (by omega) (by rw [hfl,len_Gre];omega) ⟨vs,by rw [p3];rfl,Vm.sees_own p2,fun i hi=>by
   have hi2:i < 6:=hi
   obtain⟨u,hu,A9,m9,c9,rfl,g1,g2,g3⟩:=p5 i hi2
   have hbi: [blGre st pg sz fi 0,blGre st pg sz fi 1,blGre st pg sz fi 2,blGre st pg sz fi 3,blGre st pg sz fi 4,blGre st pg sz fi 5][i]=blGre st pg sz fi i:=by
    rcases(show i=0∨i=1∨i=2∨i=3∨i=4∨i=5 by omega) with rfl | rfl | rfl | rfl | rfl | rfl <;> rfl
   have hbl8:(blGre st pg sz fi i).length≤8:=by
    rcases(show i=0∨i=1∨i=2∨i=3∨i=4∨i=5 by omega) with rfl | rfl | rfl | rfl | rfl | rfl <;> (simp only [blGre,Wo.le_length];omega)
   exact⟨A9,m9,c9,hu,by rw [hbi,g1],by omega,by rw [hbi];exact Vm.sees_own g2⟩⟩ Lr
  rw [hfl]at this
  exact this)
 have c0:∀q,q < 4→W4.cell? ⟨w.heap.size,q,none⟩= [.int .i64 (st:Int),.int .i64 (pg:Int),.int .i64 (sz:Int),.int .i64 (fi:Int)][q]?:=fun q _=>hX1.cell q
 have d0:W4.cell? ⟨w.heap.size,0,none⟩=_:=hX1.cell 0
 have d1:W4.cell? ⟨w.heap.size,1,none⟩=_:=hX1.cell 1
 have d2:W4.cell? ⟨w.heap.size,2,none⟩=_:=hX1.cell 2
 have d3:W4.cell? ⟨w.heap.size,3,none⟩=_:=hX1.cell 3
 have HB4:=Lh hB4
 have HS4:=Lh hs4
 have HW4:=Lh hW4
 clear c0 hW4 hs4 hB4 hX1 hX2 hA0 hT4 l1 l2 hgl hrow hT h1 h2 h3 h4
 go_enter Tryz.func136,Tryz.ntmps136
 go_wp2_with fail
 rw [←HW4.out]
 refine HWR.out.mono ?_
 rintro e w1 ⟨⟨u,rfl⟩,G,p1,p2,p3⟩
 obtain⟨A,cc,c1,hj⟩:=HJ.out w1 G p1
 have HJ2:=Lh hj
 have HB1:=Lh (show Below w.heap.size w w1 from HB4.out.trans (p2.below (fun b hb=>by omega) (by have:=HS4.out;omega)))
 clear p1 p2 p3 hj HWR HJ HB4 HS4 HW4 d0 d1 d2 d3
 go_wp2_with fail
 refine HJ2.out.mono ?_
 rintro e w2 ⟨v,rfl,hown,hb2⟩
 obtain⟨A2,c2,rfl⟩:=own_slice hown
 have HF:=Lh (And.intro (own_mono hown HB1.out.size) (below0 HB1.out hb2))
 clear hown hb2 HJ2
 go_wp2_with fail
 go_ret
 exact⟨A2,c2,rfl,HF.out.1,HF.out.2⟩
theorem nv_Rec_a (f:Byts) (o:Nat):nvOf (cutL f o 8) smallP 0=(f (o)).toNat:=by
 unfold nvOf
 rw [show frm smallP 0=0 from rfl,show(prt smallP 0).wd=1 from rfl,cutL_cut f o 8 0 1 (by omega),cut_one,val_one,Nat.add_zero]
theorem nv_Rec_b (f:Byts) (o:Nat):nvOf (cutL f o 8) smallP 1=(f (o+1)).toNat:=by
 unfold nvOf
 rw [show frm smallP 1=1 from rfl,show(prt smallP 1).wd=1 from rfl,cutL_cut f o 8 1 1 (by omega),cut_one,val_one]
theorem nv_Rec_c (f:Byts) (o:Nat):nvOf (cutL f o 8) smallP 2=le2 f (o+2):=by
 unfold nvOf
 rw [show frm smallP 2=2 from rfl,show(prt smallP 2).wd=2 from rfl,cutL_cut f o 8 2 2 (by omega),cut_two,val_two]
theorem nv_Rec_d (f:Byts) (o:Nat):nvOf (cutL f o 8) smallP 3=le4 f (o+4):=by
 unfold nvOf
 rw [show frm smallP 3=4 from rfl,show(prt smallP 3).wd=4 from rfl,cutL_cut f o 8 4 4 (by omega),cut_four,val_four]
theorem read_small_iff (f:Byts) (o:Nat):readL smallP (nvOf (cutL f o 8) smallP)↔(recAt f o).isSome=true:=by
 unfold recAt
 have key:readL smallP (nvOf (cutL f o 8) smallP)↔(f o).toNat≤4∧f (o+1)=0:=by
  constructor
  ·intro h
   have g0:nvOf (cutL f o 8) smallP 0≤4:=h 0 (by decide)
   rw [nv_Rec_a]at g0
   have g1:nvOf (cutL f o 8) smallP 1≤0:=h 1 (by decide)
   rw [nv_Rec_b]at g1
   have g2:nvOf (cutL f o 8) smallP 2≤65535:=h 2 (by decide)
   rw [nv_Rec_c]at g2
   have g3:nvOf (cutL f o 8) smallP 3≤4294967295:=h 3 (by decide)
   rw [nv_Rec_d]at g3
   exact⟨g0,byte_zero.1 g1⟩
  ·rintro⟨g0,g1⟩ k hk
   have hc:k=0∨k=1∨k=2∨k=3:=by
    have:smallP.length=4:=rfl
    omega
   rcases hc with rfl | rfl | rfl | rfl
   ·show nvOf (cutL f o 8) smallP 0≤4
    rw [nv_Rec_a]
    exact g0
   ·show nvOf (cutL f o 8) smallP 1≤0
    rw [nv_Rec_b]
    exact byte_zero.2 g1
   ·show nvOf (cutL f o 8) smallP 2≤65535
    rw [nv_Rec_c]
    exact le2_lt _ _
   ·show nvOf (cutL f o 8) smallP 3≤4294967295
    rw [nv_Rec_d]
    exact le4_lt _ _
 rw [key]
 by_cases hcd:(f o).toNat≤4∧f (o+1)=0
 ·rw [if_pos hcd]
  exact⟨fun _=>rfl,fun _=>hcd⟩
 ·rw [if_neg hcd]
  exact⟨fun h=>absurd h hcd,fun h=>absurd h (by decide)⟩
theorem st_small_eq (f:Byts) (o:Nat):stRec (nvOf (cutL f o 8) smallP) 4= [.int .i64 (((f (o)).toNat:Nat):Int),.int .i64 ((le2 f (o+2):Nat):Int),.int .u32 ((le4 f (o+4):Nat):Int)]:=by
 simp only [stRec,nv_Rec_a,nv_Rec_c,nv_Rec_d]
theorem unpacked_small (bs:List UInt8) (gb cb g c:Nat) (t:TypeId) (w:World) (hT:Tabs w) (hs:Sees w w.heap.size (some ⟨gb,0,none⟩) (byt bs)) (hbs:bs.length=8) (hcb:8≤cb) (hrow:Row w g t (prtCells smallP)) (hc:4≤c):
  Calls Tryz.prog 99 #[.slice (some ⟨gb,0,none⟩) 8 cb,.slice (some ⟨g,0,none⟩) 4 c] w fun e w'=>((e= .returned (.tuple #[.agg #[.int .i64 0,.int .i64 0,.int .u32 0],.bool false])∧¬readL smallP (nvOf bs smallP))∨(e= .returned (.tuple #[.agg (stRec (nvOf bs smallP) 4).toArray,.bool true])∧readL smallP (nvOf bs smallP)))∧Below w.heap.size w w':=by
 obtain⟨W1,hW1⟩:=Nm ((w.alloc (.cells #[.slice (some ⟨gb,0,none⟩) 8 cb] 172)).alloc (.cells #[.int .i64 0,.int .i64 0,.int .u32 0] 41))
 have hb1:Below w.heap.size w W1:=by rw [hW1];exact(Br.alloc Lr _).alloc (by simp) _
 have hr0:Row W1 w.heap.size 172 [.slice (some ⟨gb,0,none⟩) 8 cb]:=by rw [hW1];exact(Row.new w _ _).below (below1 _ _)
 have hr1:Row W1 (w.heap.size+1) 41 [.int .i64 0,.int .i64 0,.int .u32 0]:=by rw [hW1];exact Row.new_at _ _ _ (by simp)
 have hc1:W1.cell? ⟨w.heap.size,0,none⟩=some (.slice (some ⟨gb,0,none⟩) 8 cb):=hr0.cell 0
 have hs1:Sees W1 W1.heap.size (some ⟨gb,0,none⟩) (byt bs):=(hs.keep fun p hp=>hb1.cell hp).more hb1.size
 have hT1:=hT.below hb1
 have HRD:=Lh (read_Rec ((nvOf bs smallP 0:Nat):Int) ((nvOf bs smallP 2:Nat):Int) ((nvOf bs smallP 3:Nat):Int) 170 #[.pointer (some ⟨w.heap.size,0,none⟩)] (nvOf bs smallP) (stRec (nvOf bs smallP)) smallP g 4 c t W1 (hrow.below hb1) rfl (by omega) hc smallP_frm rfl rfl
  (enters_of Tryz.func170 (by kernel_rfl) rfl) (fun k hk W hW=>by
   have hcs:k=0∨k=1∨k=2∨k=3:=by
    have:smallP.length=4:=rfl
    omega
   rcases hcs with rfl | rfl | rfl | rfl
   ·exact unp1_Rec w.heap.size gb cb 8 0 1 bs W (hT1.below hW) ((hW.cell (p:=⟨w.heap.size,0,none⟩) (lt_of_cell hc1)).trans hc1) ((hs1.keep fun p hp=>hW.cell hp).more hW.size) hbs hcb (by decide) (by omega) (by omega) (by omega)
   ·exact unp1_Rec w.heap.size gb cb 8 1 1 bs W (hT1.below hW) ((hW.cell (p:=⟨w.heap.size,0,none⟩) (lt_of_cell hc1)).trans hc1) ((hs1.keep fun p hp=>hW.cell hp).more hW.size) hbs hcb (by decide) (by omega) (by omega) (by omega)
   ·exact unp1_Rec w.heap.size gb cb 8 2 2 bs W (hT1.below hW) ((hW.cell (p:=⟨w.heap.size,0,none⟩) (lt_of_cell hc1)).trans hc1) ((hs1.keep fun p hp=>hW.cell hp).more hW.size) hbs hcb (by decide) (by omega) (by omega) (by omega)
   ·exact unp1_Rec w.heap.size gb cb 8 4 4 bs W (hT1.below hW) ((hW.cell (p:=⟨w.heap.size,0,none⟩) (lt_of_cell hc1)).trans hc1) ((hs1.keep fun p hp=>hW.cell hp).more hW.size) hbs hcb (by decide) (by omega) (by omega) (by omega)
   ) eg_say_Rec (says_Rec (nvOf bs smallP)))
 rw [show(stRec (nvOf bs smallP) 0).toArray= #[.int .i64 0,.int .i64 0,.int .u32 0] from rfl]at HRD
 have HB1:=Lh hb1
 have HR1:=Lh hr1
 have HW1:=Lh hW1
 obtain⟨P,hP⟩:=Nm (readL smallP (nvOf bs smallP))
 rw [←hP]at HRD ⊢
 have hcs:∃v0 v1 v2:Int,stRec (nvOf bs smallP) 4= [.int .i64 v0,.int .i64 v1,.int .u32 v2]:=⟨_,_,_,rfl⟩
 obtain⟨v0,v1,v2,hcs⟩:=hcs
 rw [hcs]at HRD ⊢
 replace HRD:=Lh (HRD.out.mono fun e w' ⟨r,e1,e2,e3⟩=>(show((e=Ending.returned (.tuple #[.agg #[.int .i64 0,.int .i64 0,.int .u32 0],.bool false])∧¬P)∨(e=Ending.returned (.tuple #[.agg #[.int .i64 v0,.int .i64 v1,.int .u32 v2],.bool true])∧P))∧Below W1.heap.size W1 w' from by
  cases r
  ·exact⟨.inl ⟨e1,fun h=>by have:=e2.2 h;cases this⟩,e3⟩
  ·exact⟨.inr ⟨e1,e2.1 rfl⟩,e3⟩))
 clear hP hcs hb1 hr0 hr1 hc1 hs1 hT1 hT hs hbs hcb hrow hW1
 go_enter Tryz.func99,Tryz.ntmps99
 go_wp2_with fail
 rw [←HW1.out]
 refine HRD.out.mono ?_
 rintro e w2 ⟨hor,hb2⟩
 have r2:=HR1.out.below hb2
 have HR2:=Lh r2
 have HB2:=Lh (below0 HB1.out hb2)
 have c0:w2.cell? ⟨w.heap.size+1,0,none⟩=_:=r2.cell 0
 have f0:=r2.frozen 0
 have c1:w2.cell? ⟨w.heap.size+1,1,none⟩=_:=r2.cell 1
 have f1:=r2.frozen 1
 have c2:w2.cell? ⟨w.heap.size+1,2,none⟩=_:=r2.cell 2
 have f2:=r2.frozen 2
 clear r2 hb2 HRD HB1 HR1 HW1
 rcases hor with⟨rfl,hnp⟩ | ⟨rfl,hnp⟩
 ·have HNP:=Lh hnp
  clear hnp
  go_wp2
  have R8:=row_set3 (.int .i64 0) (.int .i64 0) (.int .u32 0) HR2.out
  have B8:=below_set3 (b:=w.heap.size+1) (.int .i64 0) (.int .i64 0) (.int .u32 0) HB2.out (by omega)
  clear c0 f0 c1 f1 c2 f2
  have d0:=R8.cell 0
  have d1:=R8.cell 1
  have d2:=R8.cell 2
  exact bodyPost_ret (v:= .tuple #[.agg #[.int .i64 0,.int .i64 0,.int .u32 0],.bool false]) (by simp [results,Tryz.results99,go_sem,d0,d1,d2]) rfl ⟨.inl ⟨rfl,HNP.out⟩,B8⟩
 ·have HNP:=Lh hnp
  clear hnp
  go_wp2
  have R8:=row_set3 (.int .i64 v0) (.int .i64 v1) (.int .u32 v2) HR2.out
  have B8:=below_set3 (b:=w.heap.size+1) (.int .i64 v0) (.int .i64 v1) (.int .u32 v2) HB2.out (by omega)
  clear c0 f0 c1 f1 c2 f2
  have d0:=R8.cell 0
  have d1:=R8.cell 1
  have d2:=R8.cell 2
  exact bodyPost_ret (v:= .tuple #[.agg #[.int .i64 v0,.int .i64 v1,.int .u32 v2],.bool true]) (by simp [results,Tryz.results99,go_sem,d0,d1,d2]) rfl ⟨.inr ⟨rfl,HNP.out⟩,B8⟩
theorem nv_Gre_a (f:Byts) (o:Nat):nvOf (cutL f o 16) greatP 0=(f (o)).toNat:=by
 unfold nvOf
 rw [show frm greatP 0=0 from rfl,show(prt greatP 0).wd=1 from rfl,cutL_cut f o 16 0 1 (by omega),cut_one,val_one,Nat.add_zero]
theorem nv_Gre_b (f:Byts) (o:Nat):nvOf (cutL f o 16) greatP 1=(f (o+1)).toNat:=by
 unfold nvOf
 rw [show frm greatP 1=1 from rfl,show(prt greatP 1).wd=1 from rfl,cutL_cut f o 16 1 1 (by omega),cut_one,val_one]
theorem nv_Gre_c (f:Byts) (o:Nat):nvOf (cutL f o 16) greatP 2=le2 f (o+2):=by
 unfold nvOf
 rw [show frm greatP 2=2 from rfl,show(prt greatP 2).wd=2 from rfl,cutL_cut f o 16 2 2 (by omega),cut_two,val_two]
theorem nv_Gre_d (f:Byts) (o:Nat):nvOf (cutL f o 16) greatP 3=le4 f (o+4):=by
 unfold nvOf
 rw [show frm greatP 3=4 from rfl,show(prt greatP 3).wd=4 from rfl,cutL_cut f o 16 4 4 (by omega),cut_four,val_four]
theorem nv_Gre_e (f:Byts) (o:Nat):nvOf (cutL f o 16) greatP 4=le4 f (o+8):=by
 unfold nvOf
 rw [show frm greatP 4=8 from rfl,show(prt greatP 4).wd=4 from rfl,cutL_cut f o 16 8 4 (by omega),cut_four,val_four]
theorem nv_Gre_f (f:Byts) (o:Nat):nvOf (cutL f o 16) greatP 5=le4 f (o+12):=by
 unfold nvOf
 rw [show frm greatP 5=12 from rfl,show(prt greatP 5).wd=4 from rfl,cutL_cut f o 16 12 4 (by omega),cut_four,val_four]
theorem read_great_iff (f:Byts) (o:Nat):readL greatP (nvOf (cutL f o 16) greatP)↔(greatAt f o).isSome=true:=by
 unfold greatAt
 have key:readL greatP (nvOf (cutL f o 16) greatP)↔(f o).toNat≤4∧f (o+1)=0∧le4 f (o+4)≤262144∧le4 f (o+8)≤65535∧le4 f (o+12)=0:=by
  constructor
  ·intro h
   have g0:nvOf (cutL f o 16) greatP 0≤4:=h 0 (by decide)
   rw [nv_Gre_a]at g0
   have g1:nvOf (cutL f o 16) greatP 1≤0:=h 1 (by decide)
   rw [nv_Gre_b]at g1
   have g2:nvOf (cutL f o 16) greatP 2≤65535:=h 2 (by decide)
   rw [nv_Gre_c]at g2
   have g3:nvOf (cutL f o 16) greatP 3≤262144:=h 3 (by decide)
   rw [nv_Gre_d]at g3
   have g4:nvOf (cutL f o 16) greatP 4≤65535:=h 4 (by decide)
   rw [nv_Gre_e]at g4
   have g5:nvOf (cutL f o 16) greatP 5≤0:=h 5 (by decide)
   rw [nv_Gre_f]at g5
   exact⟨g0,byte_zero.1 g1,g3,g4,by omega⟩
  ·rintro⟨g0,g1,g3,g4,g5⟩ k hk
   have hc:k=0∨k=1∨k=2∨k=3∨k=4∨k=5:=by
    have:greatP.length=6:=rfl
    omega
   rcases hc with rfl | rfl | rfl | rfl | rfl | rfl
   ·show nvOf (cutL f o 16) greatP 0≤4
    rw [nv_Gre_a]
    exact g0
   ·show nvOf (cutL f o 16) greatP 1≤0
    rw [nv_Gre_b]
    exact byte_zero.2 g1
   ·show nvOf (cutL f o 16) greatP 2≤65535
    rw [nv_Gre_c]
    exact le2_lt _ _
   ·show nvOf (cutL f o 16) greatP 3≤262144
    rw [nv_Gre_d]
    exact g3
   ·show nvOf (cutL f o 16) greatP 4≤65535
    rw [nv_Gre_e]
    exact g4
   ·show nvOf (cutL f o 16) greatP 5≤0
    rw [nv_Gre_f]
    omega
 rw [key]
 by_cases hcd:(f o).toNat≤4∧f (o+1)=0∧le4 f (o+4)≤262144∧le4 f (o+8)≤65535∧le4 f (o+12)=0
 ·rw [if_pos hcd]
  exact⟨fun _=>rfl,fun _=>hcd⟩
 ·rw [if_neg hcd]
  exact⟨fun h=>absurd h hcd,fun h=>absurd h (by decide)⟩
theorem st_great_eq (f:Byts) (o:Nat):stGre (nvOf (cutL f o 16) greatP) 6= [.int .i64 (((f (o)).toNat:Nat):Int),.int .i64 ((le2 f (o+2):Nat):Int),.int .i64 ((le4 f (o+4):Nat):Int),.int .i64 ((le4 f (o+8):Nat):Int)]:=by
 simp only [stGre,nv_Gre_a,nv_Gre_c,nv_Gre_d,nv_Gre_e]
theorem unpacked_great (bs:List UInt8) (gb cb g c:Nat) (t:TypeId) (w:World) (hT:Tabs w) (hs:Sees w w.heap.size (some ⟨gb,0,none⟩) (byt bs)) (hbs:bs.length=16) (hcb:16≤cb) (hrow:Row w g t (prtCells greatP)) (hc:6≤c):
  Calls Tryz.prog 109 #[.slice (some ⟨gb,0,none⟩) 16 cb,.slice (some ⟨g,0,none⟩) 6 c] w fun e w'=>((e= .returned (.tuple #[.agg #[.int .i64 0,.int .i64 0,.int .i64 0,.int .i64 0],.bool false])∧¬readL greatP (nvOf bs greatP))∨(e= .returned (.tuple #[.agg (stGre (nvOf bs greatP) 6).toArray,.bool true])∧readL greatP (nvOf bs greatP)))∧Below w.heap.size w w':=by
 obtain⟨W1,hW1⟩:=Nm ((w.alloc (.cells #[.slice (some ⟨gb,0,none⟩) 16 cb] 172)).alloc (.cells #[.int .i64 0,.int .i64 0,.int .i64 0,.int .i64 0] 43))
 have hb1:Below w.heap.size w W1:=by rw [hW1];exact(Br.alloc Lr _).alloc (by simp) _
 have hr0:Row W1 w.heap.size 172 [.slice (some ⟨gb,0,none⟩) 16 cb]:=by rw [hW1];exact(Row.new w _ _).below (below1 _ _)
 have hr1:Row W1 (w.heap.size+1) 43 [.int .i64 0,.int .i64 0,.int .i64 0,.int .i64 0]:=by rw [hW1];exact Row.new_at _ _ _ (by simp)
 have hc1:W1.cell? ⟨w.heap.size,0,none⟩=some (.slice (some ⟨gb,0,none⟩) 16 cb):=hr0.cell 0
 have hs1:Sees W1 W1.heap.size (some ⟨gb,0,none⟩) (byt bs):=(hs.keep fun p hp=>hb1.cell hp).more hb1.size
 have hT1:=hT.below hb1
 have HRD:=Lh (read_Gre ((nvOf bs greatP 0:Nat):Int) ((nvOf bs greatP 2:Nat):Int) ((nvOf bs greatP 3:Nat):Int) ((nvOf bs greatP 4:Nat):Int) 175 #[.pointer (some ⟨w.heap.size,0,none⟩)] (nvOf bs greatP) (stGre (nvOf bs greatP)) greatP g 6 c t W1 (hrow.below hb1) rfl (by omega) hc greatP_frm rfl rfl
  (enters_of Tryz.func175 (by kernel_rfl) rfl) (fun k hk W hW=>by
   have hcs:k=0∨k=1∨k=2∨k=3∨k=4∨k=5:=by
    have:greatP.length=6:=rfl
    omega
   rcases hcs with rfl | rfl | rfl | rfl | rfl | rfl
   ·exact unp1_Gre w.heap.size gb cb 16 0 1 bs W (hT1.below hW) ((hW.cell (p:=⟨w.heap.size,0,none⟩) (lt_of_cell hc1)).trans hc1) ((hs1.keep fun p hp=>hW.cell hp).more hW.size) hbs hcb (by decide) (by omega) (by omega) (by omega)
   ·exact unp1_Gre w.heap.size gb cb 16 1 1 bs W (hT1.below hW) ((hW.cell (p:=⟨w.heap.size,0,none⟩) (lt_of_cell hc1)).trans hc1) ((hs1.keep fun p hp=>hW.cell hp).more hW.size) hbs hcb (by decide) (by omega) (by omega) (by omega)
   ·exact unp1_Gre w.heap.size gb cb 16 2 2 bs W (hT1.below hW) ((hW.cell (p:=⟨w.heap.size,0,none⟩) (lt_of_cell hc1)).trans hc1) ((hs1.keep fun p hp=>hW.cell hp).more hW.size) hbs hcb (by decide) (by omega) (by omega) (by omega)
   ·exact unp1_Gre w.heap.size gb cb 16 4 4 bs W (hT1.below hW) ((hW.cell (p:=⟨w.heap.size,0,none⟩) (lt_of_cell hc1)).trans hc1) ((hs1.keep fun p hp=>hW.cell hp).more hW.size) hbs hcb (by decide) (by omega) (by omega) (by omega)
   ·exact unp1_Gre w.heap.size gb cb 16 8 4 bs W (hT1.below hW) ((hW.cell (p:=⟨w.heap.size,0,none⟩) (lt_of_cell hc1)).trans hc1) ((hs1.keep fun p hp=>hW.cell hp).more hW.size) hbs hcb (by decide) (by omega) (by omega) (by omega)
   ·exact unp1_Gre w.heap.size gb cb 16 12 4 bs W (hT1.below hW) ((hW.cell (p:=⟨w.heap.size,0,none⟩) (lt_of_cell hc1)).trans hc1) ((hs1.keep fun p hp=>hW.cell hp).more hW.size) hbs hcb (by decide) (by omega) (by omega) (by omega)
   ) eg_say_Gre (says_Gre (nvOf bs greatP)))
 rw [show(stGre (nvOf bs greatP) 0).toArray= #[.int .i64 0,.int .i64 0,.int .i64 0,.int .i64 0] from rfl]at HRD
 have HB1:=Lh hb1
 have HR1:=Lh hr1
 have HW1:=Lh hW1
 obtain⟨P,hP⟩:=Nm (readL greatP (nvOf bs greatP))
 rw [←hP]at HRD ⊢
 have hcs:∃v0 v1 v2 v3:Int,stGre (nvOf bs greatP) 6= [.int .i64 v0,.int .i64 v1,.int .i64 v2,.int .i64 v3]:=⟨_,_,_,_,rfl⟩
 obtain⟨v0,v1,v2,v3,hcs⟩:=hcs
 rw [hcs]at HRD ⊢
 replace HRD:=Lh (HRD.out.mono fun e w' ⟨r,e1,e2,e3⟩=>(show((e=Ending.returned (.tuple #[.agg #[.int .i64 0,.int .i64 0,.int .i64 0,.int .i64 0],.bool false])∧¬P)∨(e=Ending.returned (.tuple #[.agg #[.int .i64 v0,.int .i64 v1,.int .i64 v2,.int .i64 v3],.bool true])∧P))∧Below W1.heap.size W1 w' from by
  cases r
  ·exact⟨.inl ⟨e1,fun h=>by have:=e2.2 h;cases this⟩,e3⟩
  ·exact⟨.inr ⟨e1,e2.1 rfl⟩,e3⟩))
 clear hP hcs hb1 hr0 hr1 hc1 hs1 hT1 hT hs hbs hcb hrow hW1
 go_enter Tryz.func109,Tryz.ntmps109
 go_wp2_with fail
 rw [←HW1.out]
 refine HRD.out.mono ?_
 rintro e w2 ⟨hor,hb2⟩
 have r2:=HR1.out.below hb2
 have HR2:=Lh r2
 have HB2:=Lh (below0 HB1.out hb2)
 have c0:w2.cell? ⟨w.heap.size+1,0,none⟩=_:=r2.cell 0
 have f0:=r2.frozen 0
 have c1:w2.cell? ⟨w.heap.size+1,1,none⟩=_:=r2.cell 1
 have f1:=r2.frozen 1
 have c2:w2.cell? ⟨w.heap.size+1,2,none⟩=_:=r2.cell 2
 have f2:=r2.frozen 2
 have c3:w2.cell? ⟨w.heap.size+1,3,none⟩=_:=r2.cell 3
 have f3:=r2.frozen 3
 clear r2 hb2 HRD HB1 HR1 HW1
 rcases hor with⟨rfl,hnp⟩ | ⟨rfl,hnp⟩
 ·have HNP:=Lh hnp
  clear hnp
  go_wp2
  have R8:=row_set4 (.int .i64 0) (.int .i64 0) (.int .i64 0) (.int .i64 0) HR2.out
  have B8:=below_set4 (b:=w.heap.size+1) (.int .i64 0) (.int .i64 0) (.int .i64 0) (.int .i64 0) HB2.out (by omega)
  clear c0 f0 c1 f1 c2 f2 c3 f3
  have d0:=R8.cell 0
  have d1:=R8.cell 1
  have d2:=R8.cell 2
  have d3:=R8.cell 3
  exact bodyPost_ret (v:= .tuple #[.agg #[.int .i64 0,.int .i64 0,.int .i64 0,.int .i64 0],.bool false]) (by simp [results,Tryz.results109,go_sem,d0,d1,d2,d3]) rfl ⟨.inl ⟨rfl,HNP.out⟩,B8⟩
 ·have HNP:=Lh hnp
  clear hnp
  go_wp2
  have R8:=row_set4 (.int .i64 v0) (.int .i64 v1) (.int .i64 v2) (.int .i64 v3) HR2.out
  have B8:=below_set4 (b:=w.heap.size+1) (.int .i64 v0) (.int .i64 v1) (.int .i64 v2) (.int .i64 v3) HB2.out (by omega)
  clear c0 f0 c1 f1 c2 f2 c3 f3
  have d0:=R8.cell 0
  have d1:=R8.cell 1
  have d2:=R8.cell 2
  have d3:=R8.cell 3
  exact bodyPost_ret (v:= .tuple #[.agg #[.int .i64 v0,.int .i64 v1,.int .i64 v2,.int .i64 v3],.bool true]) (by simp [results,Tryz.results109,go_sem,d0,d1,d2,d3]) rfl ⟨.inr ⟨rfl,HNP.out⟩,B8⟩
end Go.Proofs.YtfcfbcjiijfjgaaGreatDoor.Me
