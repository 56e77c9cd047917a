import Derived.Test.YtfcfbcjiijfjgaaGreatDoorPBK
import Derived.Test.YtfcfbcjiijfjgaaGreatDoorPBM
set_option maxHeartbeats 4000000
set_option maxRecDepth 100000
namespace Go.Proofs.YtfcfbcjiijfjgaaGreatDoor.Me
open Go.RowKit Go.Shelf
variable {X:Vm.Ctx}
attribute [local go_sem] Oper.semAt_some
theorem states_walk_no (p:Option Addr) (s c E f k m:Int) (kn:Bool) (w:World) (hE:E≠0)
  (HS:∀W,Below w.heap.size w W→Calls Tryz.prog 40 #[.pointer p,spV s c 0] W fun e w'=>e= .returned (liV p s f k m kn 0)∧Below W.heap.size W w')
  (HR:∀W,Below w.heap.size w W→Calls Tryz.prog 47 #[liV p s f k m kn 0,.bool true] W fun e w'=>e= .returned (.int .i64 E)∧Below W.heap.size W w'):
  Calls Tryz.prog 16 #[.pointer p,.int .i64 s,.int .i64 c] w fun e w'=>e= .returned (.tuple #[.pointer none,.int .i64 E])∧Below w.heap.size w w':=by
 have HSL:=Lh (HS w Br)
 have HRR:=Lh HR
 have e0:(E == 0)=false:=by rw [beq_eq_false_iff_ne];exact hE
 clear HR HS
 go_enter Tryz.func16,Tryz.ntmps16
 go_wp2_with fail
 refine wp_scope_jump 1 fun R hR hJm=> ?_
 go_wp2_with fail
 refine HSL.out.mono ?_
 rintro e w1 ⟨rfl,hb1⟩
 obtain⟨W2,hW2⟩:=Nm (w1.alloc (.cells #[.pointer p,.int .i64 s,.int .u32 f,.int .i64 k,.int .i64 m,.bool kn,.int .i64 0] 113))
 have hr2:Row W2 w1.heap.size 113 (liC p s f k m kn 0):=by rw [hW2];exact Row.new w1 _ _
 have hb2:Below w.heap.size w W2:=by rw [hW2];exact below0 hb1 (below1 _ _)
 have HRF:=Lh (HRR.out W2 hb2)
 have HB2:=Lh hb2
 have HW2:=Lh hW2
 have l0:W2.cell? ⟨w1.heap.size,0,none⟩=_:=hr2.cell 0
 have l1:W2.cell? ⟨w1.heap.size,1,none⟩=_:=hr2.cell 1
 have l2:W2.cell? ⟨w1.heap.size,2,none⟩=_:=hr2.cell 2
 have l3:W2.cell? ⟨w1.heap.size,3,none⟩=_:=hr2.cell 3
 have l4:W2.cell? ⟨w1.heap.size,4,none⟩=_:=hr2.cell 4
 have l5:W2.cell? ⟨w1.heap.size,5,none⟩=_:=hr2.cell 5
 have l6:W2.cell? ⟨w1.heap.size,6,none⟩=_:=hr2.cell 6
 clear hr2 hb2 hW2 hb1 HRR
 go_wp2_with fail
 rw [←HW2.out]
 go_wp2_with fail
 refine HRF.out.mono ?_
 rintro e w3 ⟨rfl,hb3⟩
 have HF:=Lh (below0 HB2.out hb3)
 clear hb3 l0 l1 l2 l3 l4 l5 l6 HW2
 go_wp2_with fail
 refine wp_goto (hJm.out _ _ _ _ _ rfl ?_)
 go_wp2_with fail
 refine hR.out _ _ _ _ (by simp) ?_
 go_ret2
 exact⟨rfl,HF.out⟩
theorem states_walk_yes (p:Option Addr) (s c f k m:Int) (kn:Bool) (S:ByteArray) (Q:World→Value→World→Prop) (w:World)
  (HS:∀W,Below w.heap.size w W→Calls Tryz.prog 40 #[.pointer p,spV s c 0] W fun e w'=>e= .returned (liV p s f k m kn 0)∧Below W.heap.size W w')
  (HR:∀W,Below w.heap.size w W→Calls Tryz.prog 47 #[liV p s f k m kn 0,.bool true] W fun e w'=>e= .returned (.int .i64 0)∧Below W.heap.size W w')
  (HT:∀W,Below w.heap.size w W→Calls Tryz.prog 48 #[liV p s f k m kn 0] W fun e w'=>e= .returned (.tuple #[.string S,.bool true])∧Below W.heap.size W w')
  (HP:∀W,Below w.heap.size w W→Calls Tryz.prog 49 #[.string S] W fun e w'=>∃v,e= .returned (.tuple #[v,.int .i64 0])∧Q W v w'):
  Calls Tryz.prog 16 #[.pointer p,.int .i64 s,.int .i64 c] w fun e w'=>∃v W,e= .returned (.tuple #[v,.int .i64 0])∧Below w.heap.size w W∧Q W v w':=by
 have HSL:=Lh (HS w Br)
 have HRR:=Lh HR
 have HTT:=Lh HT
 have HPP:=Lh HP
 clear HR HS HT HP
 go_enter Tryz.func16,Tryz.ntmps16
 go_wp2_with fail
 refine wp_scope_jump 1 fun R hR hJm=> ?_
 go_wp2_with fail
 refine HSL.out.mono ?_
 rintro e w1 ⟨rfl,hb1⟩
 obtain⟨W2,hW2⟩:=Nm (w1.alloc (.cells #[.pointer p,.int .i64 s,.int .u32 f,.int .i64 k,.int .i64 m,.bool kn,.int .i64 0] 113))
 have hr2:Row W2 w1.heap.size 113 (liC p s f k m kn 0):=by rw [hW2];exact Row.new w1 _ _
 have hb2:Below w.heap.size w W2:=by rw [hW2];exact below0 hb1 (below1 _ _)
 have HRF:=Lh (HRR.out W2 hb2)
 have HB2:=Lh hb2
 have HR2:=Lh hr2
 have HW2:=Lh hW2
 have l0:W2.cell? ⟨w1.heap.size,0,none⟩=_:=hr2.cell 0
 have l1:W2.cell? ⟨w1.heap.size,1,none⟩=_:=hr2.cell 1
 have l2:W2.cell? ⟨w1.heap.size,2,none⟩=_:=hr2.cell 2
 have l3:W2.cell? ⟨w1.heap.size,3,none⟩=_:=hr2.cell 3
 have l4:W2.cell? ⟨w1.heap.size,4,none⟩=_:=hr2.cell 4
 have l5:W2.cell? ⟨w1.heap.size,5,none⟩=_:=hr2.cell 5
 have l6:W2.cell? ⟨w1.heap.size,6,none⟩=_:=hr2.cell 6
 clear hr2 hb2 hW2 hb1 HRR
 go_wp2_with fail
 rw [←HW2.out]
 go_wp2_with fail
 refine HRF.out.mono ?_
 rintro e w3 ⟨rfl,hb3⟩
 have hr3:=HR2.out.below hb3
 have HB3:=Lh (below0 HB2.out hb3)
 have HTX:=Lh (HTT.out w3 (below0 HB2.out hb3))
 have k0:w3.cell? ⟨w1.heap.size,0,none⟩=_:=hr3.cell 0
 have k1:w3.cell? ⟨w1.heap.size,1,none⟩=_:=hr3.cell 1
 have k2:w3.cell? ⟨w1.heap.size,2,none⟩=_:=hr3.cell 2
 have k3:w3.cell? ⟨w1.heap.size,3,none⟩=_:=hr3.cell 3
 have k4:w3.cell? ⟨w1.heap.size,4,none⟩=_:=hr3.cell 4
 have k5:w3.cell? ⟨w1.heap.size,5,none⟩=_:=hr3.cell 5
 have k6:w3.cell? ⟨w1.heap.size,6,none⟩=_:=hr3.cell 6
 clear hb3 l0 l1 l2 l3 l4 l5 l6 HW2 hr3 HTT HR2 HB2
 go_wp2_with fail
 refine HTX.out.mono ?_
 rintro e w4 ⟨rfl,hb4⟩
 have HPS:=Lh (HPP.out w4 (below0 HB3.out hb4))
 have HB4:=Lh (below0 HB3.out hb4)
 clear hb4 HPP HB3 HTX k0 k1 k2 k3 k4 k5 k6
 go_wp2_with fail
 refine HPS.out.mono ?_
 rintro e w5 ⟨v,rfl,hq⟩
 have HQ:=Lh hq
 clear hq HPS
 go_wp2_with fail
 refine hR.out _ _ _ _ (by simp) ?_
 go_ret2
 exact⟨v,w4,rfl,HB4.out,HQ.out⟩
theorem refE_states (B:Bks) (s c:Int):refE B s (recR s c).2.2.2 true 0 (recR s c).2.2.1=statesE B s c:=by
 unfold refE statesE recR
 by_cases h:isB s 4=true∧isB c 8=true
 ·obtain⟨c',rfl,hc⟩:=isB_nat h.2
  rw [if_pos h,if_pos h,if_pos ⟨rfl,rfl⟩,if_pos]
  have:=(cnt_le hc).1
  rw [Int.toNat_natCast]
  exact isB_yes (k:=0) (n:=cnt c') (by omega)
 ·rw [if_neg h,if_neg h]
  rfl
theorem txt_eq (f:Byts) (c:Nat):(List.range (cnt c)).map (ltr f (recO c 0))=txtC f c:=by
 unfold txtC ltr recO
 simp only [Nat.mul_zero,Nat.add_zero]
section
variable {w:World} {v:Value} {B:Bks} {n:Nat} {F:Nat→Prop} {f:Byts}
theorem states_any (s c:Nat) (hT:Tabs w) (h:HasM X w v B n F) (hs:s < 4) (hc:c < 8) (hf:B s=some f) (hg:∀i,i < cnt c→(recAt f (recO c i)).isSome=true):
  Calls Tryz.prog 16 #[v,.int .i64 (s:Int),.int .i64 (c:Int)] w fun e w'=>∃u F2,e= .returned (.tuple #[u,.int .i64 0])∧Sh.HasS w' u ((stsL f c).map fun n:Nat=>(n:Int)) F2∧(∀k,F2 k→w.heap.size≤k)∧Below w.heap.size w w':=by
 obtain⟨p,rfl⟩:=has_ptr h
 have hcl:=cnt_le hc
 have hsl:=recR_yes hs hc
 have hg2:∀j,j < cnt c→(recAt f (recO c 0+8*j)).isSome=true:=fun j hj=>by
  have:=hg j hj
  unfold recO at this ⊢
  rw [show 768*c+8*0+8*j=768*c+8*j by omega]
  exact this
 have hun:Sh.untext (txtC f c)=some ((stsL f c).map fun n:Nat=>(n:Int)):=by
  rw [←text_txt f c hg]
  refine Sh.untext_text (fun z hz=> ?_)
  obtain⟨n,hn,rfl⟩:=List.mem_map.1 hz
  unfold stsL at hn
  obtain⟨i,hi,rfl⟩:=List.mem_map.1 hn
  have:=(stAt_byte (hg i (List.mem_range.1 hi))).1
  omega
 have hlen:(txtC f c).length=cnt c:=by unfold txtC;simp
 refine(states_walk_yes p (s:Int) (c:Int) ((256*(64*s+1)+768*c:Nat):Int) 8 ((cnt c:Nat):Int) true (str (txtC f c))
  (fun W u w'=>∃F2,Sh.HasS w' u ((stsL f c).map fun n:Nat=>(n:Int)) F2∧(∀k,F2 k→W.heap.size≤k)∧Below W.heap.size W w') w (fun W hb=> ?_) (fun W hb=> ?_) (fun W hb=> ?_) (fun W hb=> ?_)).mono ?_
 ·have:=smallLine_any p (s:Int) (c:Int) 0 W (hT.below hb)
  rw [hsl]at this
  exact this
 ·exact refusal_zero p (h.low hb) hs hf _ _ _ _ (isB_yes (k:=0) (n:=cnt c) (by omega))
 ·refine(text_any p (s:Int) ((256*(64*s+1)+768*c:Nat):Int) 0 true (cnt c) f (recO c 0) (by omega) (by omega) W (hT.below hb) (fun W' hb'=> ?_)).mono ?_
  ·have hp:=m_peek (X:=X) s (recO c 0) (cnt c*8) ((h.low hb).low hb') hs hf (by unfold recO;omega) (by omega)
   rw [show 256*(64*s+1)+recO c 0=256*(64*s+1)+768*c by unfold recO;omega]at hp
   exact hp
  ·rintro e w' ⟨S,b,rfl,hb2,⟨rfl,_,rfl⟩ | ⟨rfl,j,hj,hn⟩⟩
   ·rw [txt_eq]
    exact⟨rfl,hb2⟩
   ·exact absurd (hg2 j hj) hn
 ·refine(Sh.sparse (str (txtC f c)) _ W (by show(txtC f c).toArray.size≤256;rw [List.size_toArray,hlen];omega) (by show Sh.untext (txtC f c).toArray.toList=_;exact hun)).mono ?_
  rintro e w' ⟨u,F2,rfl,h1,h2,h3⟩
  exact⟨u,rfl,F2,h1,h2,h3⟩
 ·rintro e w' ⟨u,W,rfl,hb,F2,h1,h2,h3⟩
  exact⟨u,F2,rfl,h1,fun k hk=>Nat.le_trans hb.size (h2 k hk),below0 hb h3⟩
theorem statesM_yes (s c:Nat) (hT:Tabs w) (h:HasM X w v B n F) (hs:s < 4) (hc:c < 8) (hf:B s=some f) (hg:∀i,i < cnt c→(recAt f (recO c i)).isSome=true):
  Calls Tryz.prog 16 #[v,.int .i64 (s:Int),.int .i64 (c:Int)] w fun e w'=>∃ad,e= .returned (.tuple #[.pointer (some ad),.int .i64 0])∧Nx (HasM X) w v B n F w'∧
   ∀W,Keep F w' W→(∀k,w.heap.size≤k→k < w'.heap.size→W.heap[k]?=w'.heap[k]?)→Calls Tryz.prog 67 #[.pointer (some ad)] W fun e W'=>e= .returned (.string ⟨(txtC f c).toArray⟩)∧Below W.heap.size W W':=by
 refine(states_any s c hT h hs hc hf hg).mono ?_
 rintro e w' ⟨u,F2,rfl,h1,h2,h3⟩
 obtain⟨b,g,cc,rest,rfl,hr,rfl⟩:=h1
 refine⟨_,rfl,nx_low h h3,fun W _ hW=> ?_⟩
 have hr2:Sh.HasS W (Sh.pb b) ((stsL f c).map fun n:Nat=>(n:Int)) (fun k=>k=b∨k=g):=⟨b,g,cc,rest,rfl,⟨hr.obj.same (hW b (h2 b (.inl rfl)) hr.obj.lt),hr.row.same (hW g (h2 g (.inr rfl)) hr.row.lt),hr.le,hr.most,hr.sts⟩,rfl⟩
 have:=Sh.stext hr2
 rw [text_txt f c hg]at this
 exact this
theorem statesM_no (s c:Int) (hT:Tabs w) (h:HasM X w v B n F) (hE:statesE B s c≠0):Calls Tryz.prog 16 #[v,.int .i64 s,.int .i64 c] w fun e w'=>e= .returned (.tuple #[.pointer none,.int .i64 (statesE B s c)])∧Nx (HasM X) w v B n F w':=by
 obtain⟨p,rfl⟩:=has_ptr h
 refine(states_walk_no p s c (statesE B s c) _ _ _ _ w hE (fun W hb=>smallLine_any p s c 0 W (hT.below hb)) (fun W hb=> ?_)).mono fun e w' ⟨e1,e2⟩=>⟨e1,nx_low h e2⟩
 have:=refusal_has p (h.low hb) s (recR s c).1 (recR s c).2.1 (recR s c).2.2.1 0 (recR s c).2.2.2 true recR_known
 rw [refE_states]at this
 exact this
theorem statesM_nil (w:World) (hT:Tabs w):Calls Tryz.prog 16 #[.pointer none,.int .i64 0,.int .i64 0] w fun e w'=>e= .returned (.tuple #[.pointer none,.int .i64 1])∧Below w.heap.size w w':=
 states_walk_no none 0 0 1 _ _ _ _ w (by decide) (fun W hb=>smallLine_any none 0 0 0 W (hT.below hb)) (fun W hb=>refusal_nil _ _ _ _ _ _ _ W)
end
end Go.Proofs.YtfcfbcjiijfjgaaGreatDoor.Me
