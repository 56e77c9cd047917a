import Derived.Test.YtfcfbcjiijfjgaaGreatDoorPAO
set_option maxHeartbeats 4000000
set_option maxRecDepth 100000
namespace Go.Proofs.YtfcfbcjiijfjgaaGreatDoor.Me
open Go.RowKit Go.Shelf
attribute [local go_sem] Oper.semAt_some
def ahd (f a:Nat):Nat:=(a+(4294967296 - f)) % 4294967296
def indB (f k m a:Nat):Bool:=decide (ahd f a % k=0) && isB ((ahd f a / k:Nat):Int) (m:Int)
theorem isB_nat_iff (x m:Nat):isB (x:Int) (m:Int)=decide (x < m):=by
 unfold isB
 rw [decide_eq_true (show(0:Int)≤(x:Int) by omega),Bool.true_and]
 exact decide_eq_decide.2 (by omega)
theorem page_of {s c i a:Nat} (h:okS s c i) (e:atS s c i=a):a < 16777216∧∃q,q < 16∧a / 256=4096*s+4097+17*c+q:=by
 obtain⟨hs,hc,hi⟩:=h
 have hl:=off_lt hc hi
 unfold atS at e
 obtain⟨z,hz⟩:=Nm (i*(pay c+32))
 rw [←hz]at hl e
 exact⟨by omega,(z+16) / 256,by omega,by omega⟩
theorem reg_form {n:Nat} (h:Wn.isReg n):∃s c q,s < 4∧c < 8∧q < 16∧n=4096*s+4097+17*c+q:=by
 obtain⟨⟨h1,h2⟩,h3,h4,h5⟩:=h
 exact⟨n / 4096 - 1,(n % 4096 - 1) / 17,(n % 4096 - 1) % 17,by omega,by omega,by omega,by omega⟩
theorem reg_div {s c q:Nat} (hc:c < 8) (hq:q < 16):(4096*s+4097+17*c+q) / 4096=s+1∧(4096*s+4097+17*c+q) % 4096=1+17*c+q∧(17*c+q) / 17=c∧(17*c+q) % 17=q:=by
 have hd:(4096*s+4097+17*c+q) / 4096=s+1:=Nat.div_eq_of_lt_le (by omega) (by omega)
 have hm:=Nat.div_add_mod (4096*s+4097+17*c+q) 4096
 rw [hd]at hm
 have hd2:(17*c+q) / 17=c:=Nat.div_eq_of_lt_le (by omega) (by omega)
 have hm2:=Nat.div_add_mod (17*c+q) 17
 rw [hd2]at hm2
 exact⟨hd,by omega,hd2,by omega⟩
theorem reg_is {s c q:Nat} (hs:s < 4) (hc:c < 8) (hq:q < 16):Wn.isReg (4096*s+4097+17*c+q):=by
 obtain⟨h1,h2,h3,h4⟩:=reg_div (s:=s) hc hq
 unfold Wn.isReg
 rw [h2,show 1+17*c+q - 1=17*c+q by omega,h4]
 exact⟨⟨by omega,by omega⟩,by omega,by omega,by omega⟩
theorem plc_reg {s c q:Nat} (hs:s < 4) (hc:c < 8) (hq:q < 16):Wn.plc (4096*s+4097+17*c+q)=(2,s,c,q):=by
 obtain⟨h1,h2,h3,h4⟩:=reg_div (s:=s) hc hq
 unfold Wn.plc
 rw [if_neg (by unfold Wn.isBook;omega),if_pos (reg_is hs hc hq),h1,h2,show 1+17*c+q - 1=17*c+q by omega,h3,h4,Nat.add_sub_cancel]
theorem plc_kind {n:Nat} (h:¬Wn.isReg n):(Wn.plc n).1≠2:=by
 unfold Wn.plc
 by_cases hb:Wn.isBook n
 ·rw [if_pos hb]
  exact(by decide:(1:Nat)≠2)
 ·rw [if_neg hb,if_neg h]
  by_cases hw:Wn.isWin n
  ·rw [if_pos hw]
   by_cases h2:256≤n % 4096
   ·rw [if_pos h2]
    exact(by decide:(3:Nat)≠2)
   ·rw [if_neg h2]
    exact(by decide:(4:Nat)≠2)
  ·rw [if_neg hw]
   exact(by decide:(0:Nat)≠2)
theorem plc_lt (n:Nat) (h:n < 65536):(Wn.plc n).2.1 < 4∧(Wn.plc n).2.2.1 < 8:=by
 by_cases hr:Wn.isReg n
 ·obtain⟨s,c,q,hs,hc,hq,rfl⟩:=reg_form hr
  rw [plc_reg hs hc hq]
  exact⟨hs,hc⟩
 ·unfold Wn.plc
  by_cases hb:Wn.isBook n
  ·rw [if_pos hb]
   unfold Wn.isBook at hb
   exact⟨by show(n - 1) / 64 < 4;omega,(by decide:(0:Nat) < 8)⟩
  ·rw [if_neg hb,if_neg hr]
   by_cases hw:Wn.isWin n
   ·rw [if_pos hw]
    unfold Wn.isWin at hw
    by_cases h2:256≤n % 4096
    ·rw [if_pos h2]
     exact⟨by show n / 4096 - 1 < 4;omega,(by decide:(0:Nat) < 8)⟩
    ·rw [if_neg h2]
     exact⟨by show n / 4096 - 1 < 4;omega,(by decide:(0:Nat) < 8)⟩
   ·rw [if_neg hw]
    exact⟨(by decide:(0:Nat) < 4),(by decide:(0:Nat) < 8)⟩
def pgN (a:Nat):Nat:=if a < 16777216 then a / 256 else 0
theorem pgN_lt (a:Nat):pgN a < 65536:=by unfold pgN;split <;> omega
theorem findS_eq (a:Nat) (ha:a < 4294967296) (s c:Nat) (h1:(Wn.plc (pgN a)).2.1=s) (h2:(Wn.plc (pgN a)).2.2.1=c):
  findS a=if(Wn.plc (pgN a)).1=2∧indB (256*(4096*s+4097+17*c)+16) (pay c+32) (cnt c) a=true then some (s,c,ahd (256*(4096*s+4097+17*c)+16) a / (pay c+32)) else none:=by
 by_cases hr:Wn.isReg (pgN a)
 ·obtain⟨s',c',q,hs,hc,hq,hn⟩:=reg_form hr
  have hp:=plc_reg hs hc hq
  rw [←hn]at hp
  rw [hp]at h1 h2
  simp only at h1 h2
  subst h1 h2
  rw [hp]
  have hpb:=pay_bound hc
  have hcl:=cnt_le hc
  obtain⟨k,hk⟩:=Nm (pay c'+32)
  obtain⟨f,hf⟩:=Nm (256*(4096*s'+4097+17*c')+16)
  rw [←hk,←hf]
  have ha2:a < 16777216∧a / 256=4096*s'+4097+17*c'+q:=by
   unfold pgN at hn
   split at hn
   ·exact⟨by assumption,hn⟩
   ·omega
  by_cases hi:indB f k (cnt c') a=true
  ·rw [if_pos ⟨rfl,hi⟩]
   unfold indB at hi
   rw [isB_nat_iff,Bool.and_eq_true,decide_eq_true_eq,decide_eq_true_eq]at hi
   obtain⟨i1,i2⟩:=hi
   refine findS_some ⟨hs,hc,i2⟩ ?_
   have hdm:=Nat.div_add_mod (ahd f a) k
   have hkk:ahd f a / k*k < 85*288:=Nat.lt_of_lt_of_le (Nat.mul_lt_mul_of_pos_right (Nat.lt_of_lt_of_le i2 hcl.2.1) (by omega)) (Nat.mul_le_mul_left 85 (by omega))
   rw [Nat.mul_comm,i1]at hdm
   unfold atS
   rw [←hk]
   obtain⟨x,hx⟩:=Nm (ahd f a / k*k)
   rw [←hx]at hdm hkk ⊢
   unfold ahd at hdm
   omega
  ·rw [if_neg (fun h=>hi h.2)]
   refine findS_none fun s2 c2 i2 h e=>hi ?_
   obtain⟨_,q2,hq2,hp2⟩:=page_of h e
   obtain⟨h1,h2,h3⟩:=h
   have e0:4096*s'+4097+17*c'+q=4096*s2+4097+17*c2+q2:=ha2.2.symm.trans hp2
   have es:s2=s':=by
    have d1:=(reg_div (s:=s') hc hq).1
    rw [e0,(reg_div (s:=s2) h2 hq2).1]at d1
    omega
   subst es
   have ec:c2=c':=by
    have d1:=(reg_div (s:=s2) hc hq).2.2.1
    rw [show 17*c'+q=17*c2+q2 by omega,(reg_div (s:=s2) h2 hq2).2.2.1]at d1
    exact d1
   subst ec
   have hl:=off_lt h2 h3
   have ed:ahd f a=i2*k:=by
    unfold atS at e
    rw [←hk]at e hl
    obtain⟨x,hx⟩:=Nm (i2*k)
    rw [←hx]at e hl ⊢
    unfold ahd
    omega
   unfold indB
   rw [ed,isB_nat_iff,Nat.mul_mod_left,Nat.mul_div_cancel _ (by omega)]
   simp [h3]
 ·rw [if_neg (fun h=>plc_kind hr h.1)]
  refine findS_none fun s2 c2 i2 h e=>hr ?_
  obtain⟨h0,q2,hq2,hp2⟩:=page_of h e
  unfold pgN
  rw [if_pos h0,hp2]
  exact reg_is h.1 h.2.1 hq2
theorem index_any (f k m a:Nat) (w:World) (hf:f < 4294967296) (hk:1≤k) (hk2:k < 1000):Calls Tryz.prog 35 #[roV (f:Int) (k:Int) (m:Int),.int .u32 (a:Int)] w fun e w'=>e= .returned (.tuple #[.int .i64 ((ahd f a / k:Nat):Int),.bool (indB f k m a)])∧Below w.heap.size w w':=by
 have h1:=Lh (fun W=>has_any (f:Int) (k:Int) (m:Int) ((ahd f a / k:Nat):Int) W)
 have hd:ahd f a < 4294967296:=Nat.mod_lt _ (by omega)
 have e0:IntKind.u32.wrap ((a:Int) - (f:Int))=((ahd f a:Nat):Int):=by rw [IntKind.wrap_u32];unfold ahd;omega
 unfold indB
 obtain⟨d,hdd⟩:=Nm (ahd f a)
 rw [←hdd]at h1 hd e0 ⊢
 clear hdd
 have e1:IntKind.i64.wrap (d:Int)=(d:Int):=wrapI _ (by omega) (by omega)
 have q1:((d:Int) / (k:Int))=((d / k:Nat):Int):=(Int.natCast_ediv _ _).symm
 have q2:((d:Int) % (k:Int))=((d % k:Nat):Int):=(Int.natCast_emod _ _).symm
 have q3:((d:Int).tmod (k:Int))=((d % k:Nat):Int):=by
  rw [Int.tmod_eq_emod_of_nonneg (by omega)]
  exact q2
 have b0:(0:Int)≤(d:Int):=by omega
 have b1:(d:Int)≤9223372036854775807:=by omega
 have b2:(1:Int)≤(k:Int):=by omega
 have n0:¬((k:Int)=0):=by omega
 have n1:(((k:Int)) == 0)=false:=beq_eq_false_iff_ne.2 n0
 have n2:¬k=0:=by omega
 have hdk:d / k≤d:=Nat.div_le_self _ _
 have hmk:d % k≤d:=Nat.mod_le d k
 obtain⟨x,hx⟩:=Nm (d / k)
 rw [←hx]at h1 q1 hdk ⊢
 obtain⟨y,hy⟩:=Nm (d % k)
 rw [←hy]at q2 q3 hmk ⊢
 have e2:IntKind.i64.wrap (x:Int)=(x:Int):=wrapI _ (by omega) (by omega)
 have e3:IntKind.i64.wrap (y:Int)=(y:Int):=wrapI _ (by omega) (by omega)
 have hz:∃z,((y:Int) == 0)=z∧(y == 0)=z∧decide (y=0)=z:=by
  by_cases h:y=0
  ·exact⟨true,by rw [h];rfl,by rw [h];rfl,decide_eq_true h⟩
  ·exact⟨false,by rw [beq_eq_false_iff_ne];omega,by rw [beq_eq_false_iff_ne];exact h,decide_eq_false h⟩
 obtain⟨z,hz1,hz3,hz2⟩:=hz
 rw [hz2]
 obtain⟨b,hb⟩:=Nm (isB (x:Int) (m:Int))
 rw [←hb]at h1 ⊢
 have q5:d / k=x:=hx.symm
 have q6:d % k=y:=hy.symm
 clear hx hy hb hz2 hdk hmk hf hk hk2 hd
 have HSS:=Lh (fun W (hb:Below (w.heap.size+1) (w.alloc (.cells #[.int .u32 (f:Int),.int .i64 (k:Int),.int .i64 (m:Int)] 78)) W)=>(show Row W w.heap.size 78 [.int .u32 (f:Int),.int .i64 (k:Int),.int .i64 (m:Int)] from(Row.new w _ _).below (by rw [World.size_alloc];exact hb)))
 have HSC:=Lh (fun W (hb:Below (w.heap.size+1) (w.alloc (.cells #[.int .u32 (f:Int),.int .i64 (k:Int),.int .i64 (m:Int)] 78)) W)=>(show W.cell? ⟨w.heap.size,0,none⟩=some (.int .u32 (f:Int))∧W.cell? ⟨w.heap.size,1,none⟩=some (.int .i64 (k:Int))∧W.cell? ⟨w.heap.size,2,none⟩=some (.int .i64 (m:Int)) from⟨(HSS.out W hb).cell 0,(HSS.out W hb).cell 1,(HSS.out W hb).cell 2⟩))
 have HX:=Lh (fun W (hb:Below (w.heap.size+1) (w.alloc (.cells #[.int .u32 (f:Int),.int .i64 (k:Int),.int .i64 (m:Int)] 78)) W)=>(show Below w.heap.size w W from(below1 w _).trans (hb.mono (by omega))))
 have hdr:Below (w.heap.size+1) (w.alloc (.cells #[.int .u32 (f:Int),.int .i64 (k:Int),.int .i64 (m:Int)] 78)) (w.alloc (.cells #[.int .u32 (f:Int),.int .i64 (k:Int),.int .i64 (m:Int)] 78)).drew:=Br.drew
 cases z
 ·rw [show(false && b)=false from by cases b <;> rfl]
  go_enter Tryz.func35,Tryz.ntmps35
  go_wp2_with fail
  refine wp_region_held_drew (S:=fun W=>W.cell? ⟨w.heap.size,0,none⟩=some (.int .u32 (f:Int))∧W.cell? ⟨w.heap.size,1,none⟩=some (.int .i64 (k:Int))∧W.cell? ⟨w.heap.size,2,none⟩=some (.int .i64 (m:Int))) (by kernel_rfl) (HSC.out _ hdr) (fun hZ=> ?_)
  refine tkH 0 hZ ?_
  simp only [Act.put]
  refine tkH 1 hZ ?_
  simp only [Act.put]
  refine tkH 2 hZ ?_
  simp only [Act.put]
  refine tkH 3 hZ ?_
  simp only [Act.put]
  refine tkH 4 hZ ?_
  simp only [Act.put]
  refine tkH 5 hZ ?_
  simp only [Act.put]
  refine tkH 6 hZ ?_
  simp only [Act.put]
  refine tkH 7 hZ ?_
  simp only [Act.put]
  refine tkH 8 hZ ?_
  simp only [Act.put]
  refine tkH 9 hZ ?_
  simp only [Act.put]
  refine wpAnyH_take (i:=10) (v:=undef) rfl (by kernel_rfl) (by kernel_rfl) (by kernel_rfl) (fun _ _ _ h=>h) (Or.inr ⟨by kernel_rfl,rfl⟩) hZ ?_
  simp only [Act.put]
  refine wpAnyH_take (i:=11) (v:=undef) rfl (by kernel_rfl) (by kernel_rfl) (by kernel_rfl) (fun _ _ _ h=>h) (Or.inr ⟨by kernel_rfl,rfl⟩) hZ ?_
  simp only [Act.put]
  refine wpAnyH_take (i:=12) (v:=undef) rfl (by kernel_rfl) (by kernel_rfl) (by kernel_rfl) (fun _ _ _ h=>h) (Or.inr ⟨by kernel_rfl,rfl⟩) hZ ?_
  simp only [Act.put]
  refine wpAnyH_take (i:=13) (v:=undef) rfl (by kernel_rfl) (by kernel_rfl) (by kernel_rfl) (fun _ _ _ h=>h) (Or.inr ⟨by kernel_rfl,rfl⟩) hZ ?_
  simp only [Act.put]
  refine wpAnyH_take (i:=14) (v:=undef) rfl (by kernel_rfl) (by kernel_rfl) (by kernel_rfl) (fun _ _ _ h=>h) (Or.inr ⟨by kernel_rfl,rfl⟩) hZ ?_
  simp only [Act.put]
  refine wpAnyH_take (i:=15) (v:=undef) rfl (by kernel_rfl) (by kernel_rfl) (by kernel_rfl) (fun _ _ _ h=>h) (Or.inr ⟨by kernel_rfl,rfl⟩) hZ ?_
  simp only [Act.put]
  refine tkH 16 hZ ?_
  simp only [Act.put]
  refine rdH 17 fun K hK=> ?_
  go_simp
  refine hK.out _ _ (HSC.out _ hdr) (fun hZ=> ?_)
  clear hK K
  try simp only [Act.put]
  refine rdH 18 fun K hK=> ?_
  go_simp
  refine hK.out _ _ (HSC.out _ hdr) (fun hZ=> ?_)
  clear hK K
  try simp only [Act.put]
  refine wpAnyH_done (by kernel_rfl) ?_ _
  go_wp2
  exact bodyPost_ret (v:= .tuple #[.int .i64 (x:Int),.bool false]) (by simp [results,Tryz.results35,go_sem]) rfl ⟨rfl,HX.out _ hdr⟩
 ·rw [show(true && b)=b from by cases b <;> rfl]
  go_enter Tryz.func35,Tryz.ntmps35
  go_wp2_with fail
  refine wp_region_held_drew (S:=fun W=>W.cell? ⟨w.heap.size,0,none⟩=some (.int .u32 (f:Int))∧W.cell? ⟨w.heap.size,1,none⟩=some (.int .i64 (k:Int))∧W.cell? ⟨w.heap.size,2,none⟩=some (.int .i64 (m:Int))) (by kernel_rfl) (HSC.out _ hdr) (fun hZ=> ?_)
  refine tkH 0 hZ ?_
  simp only [Act.put]
  refine tkH 1 hZ ?_
  simp only [Act.put]
  refine tkH 2 hZ ?_
  simp only [Act.put]
  refine tkH 3 hZ ?_
  simp only [Act.put]
  refine tkH 4 hZ ?_
  simp only [Act.put]
  refine tkH 5 hZ ?_
  simp only [Act.put]
  refine tkH 6 hZ ?_
  simp only [Act.put]
  refine tkH 7 hZ ?_
  simp only [Act.put]
  refine tkH 8 hZ ?_
  simp only [Act.put]
  refine tkH 9 hZ ?_
  simp only [Act.put]
  refine tkH 10 hZ ?_
  simp only [Act.put]
  refine tkH 11 hZ ?_
  simp only [Act.put]
  refine tkH 12 hZ ?_
  simp only [Act.put]
  refine tkH 13 hZ ?_
  simp only [Act.put]
  refine tkH 14 hZ ?_
  simp only [Act.put]
  refine rdH 15 fun K hK=> ?_
  go_simp
  refine(h1.out _).mono ?_
  rintro e w2 ⟨rfl,hb2⟩
  replace hdr:=hdr.trans (hb2.mono (by simp))
  refine hK.out _ _ (HSC.out _ hdr) (fun hZ=> ?_)
  clear hK K
  try simp only [Act.put]
  refine tkH 16 hZ ?_
  simp only [Act.put]
  refine rdH 17 fun K hK=> ?_
  go_simp
  refine hK.out _ _ (HSC.out _ hdr) (fun hZ=> ?_)
  clear hK K
  try simp only [Act.put]
  refine rdH 18 fun K hK=> ?_
  go_simp
  refine hK.out _ _ (HSC.out _ hdr) (fun hZ=> ?_)
  clear hK K
  try simp only [Act.put]
  refine wpAnyH_done (by kernel_rfl) ?_ _
  go_wp2
  exact bodyPost_ret (v:= .tuple #[.int .i64 (x:Int),.bool b]) (by simp [results,Tryz.results35,go_sem]) rfl ⟨rfl,HX.out _ hdr⟩
theorem split_any (a:Nat) (w:World) (_h:a < 4294967296):Calls Tryz.prog 33 #[.int .u32 (a:Int)] w fun e w'=>∃x y:Int,e= .returned (.tuple #[.int .i64 ((pgN a:Nat):Int),.int .i64 x,.int .i64 y])∧Below w.heap.size w w':=by
 by_cases h:a < 16777216
 ·rw [show pgN a=a / 256 from if_pos h]
  exact(Wn.split_yes a w h).mono fun e w' ⟨e1,e2⟩=>⟨_,_,e1,e2⟩
 ·rw [show pgN a=0 from if_neg h]
  exact(Wn.split_no a w (by omega)).mono fun e w' ⟨e1,e2⟩=>⟨0,4,e1,e2⟩
theorem find_walk (a kd s c q i:Nat) (f k m:Int) (b:Bool) (w:World) (hT:Tabs w)
  (h1:∀W,Calls Tryz.prog 33 #[.int .u32 (a:Int)] W fun e w'=>∃x y:Int,e= .returned (.tuple #[.int .i64 ((pgN a:Nat):Int),.int .i64 x,.int .i64 y])∧Below W.heap.size W w')
  (h2:∀W,Calls Tryz.prog 34 #[.int .i64 ((pgN a:Nat):Int)] W fun e w'=>e= .returned (.tuple #[Wn.siV (kd:Int) (s:Int) (c:Int) (q:Int),.int .i64 0])∧Below W.heap.size W w')
  (h3:∀W,Tabs W→Calls Tryz.prog 27 #[.int .i64 (s:Int),.int .i64 (c:Int)] W fun e w'=>e= .returned (.tuple #[roV f k m,.bool true])∧Below W.heap.size W w')
  (h4:∀W,Calls Tryz.prog 35 #[roV f k m,.int .u32 (a:Int)] W fun e w'=>e= .returned (.tuple #[.int .i64 (i:Int),.bool b])∧Below W.heap.size W w'):
  Calls Tryz.prog 9 #[.int .u32 (a:Int)] w fun e w'=>e= .returned (fndV (if kd=2∧b=true then some (s,c,i) else none))∧Below w.heap.size w w':=by
 obtain⟨ok,hok⟩:=Nm (decide (kd=2∧b=true))
 have hres:(if kd=2∧b=true then some (s,c,i) else none)=if ok=true then some (s,c,i) else none:=by
  rw [hok]
  by_cases h:kd=2∧b=true
  ·rw [if_pos h,if_pos (decide_eq_true h)]
  ·rw [if_neg h,if_neg (by rw [decide_eq_false h];decide)]
 rw [hres]
 clear hres
 obtain⟨p,hp⟩:=Nm (pgN a)
 rw [←hp]at h1 h2
 have H1:=Lh h1
 have H2:=Lh h2
 have H3:=Lh h3
 have H4:=Lh h4
 have HT:=Lh hT
 have hkd:∃x,((kd:Int) == 2)=x∧(kd == 2)=x∧ok=(x && b):=by
  by_cases h:kd=2
  ·exact⟨true,by rw [h];rfl,by rw [h];rfl,by rw [hok];cases b <;> simp [h]⟩
  ·exact⟨false,by rw [beq_eq_false_iff_ne];omega,by rw [beq_eq_false_iff_ne];exact h,by rw [hok];simp [h]⟩
 obtain⟨x,hx1,hx2,hx3⟩:=hkd
 have HX3:=Lh hx3
 have hx4:((kd:Int) != 2)= !x:=by rw [bne,hx1]
 have hx5:(kd != 2)= !x:=by rw [bne,hx2]
 clear hp hok h1 h2 h3 h4 hT hx3
 go_enter Tryz.func9,Tryz.ntmps9
 go_wp2_with fail
 refine wp_scope_jump 1 fun R hR hJm=> ?_
 go_wp2_with fail
 refine(H1.out _).mono ?_
 rintro e w1 ⟨x1,y1,rfl,hb1⟩
 have HB1:=Lh ((below1 w (.cells #[.int .i64 0,.int .i64 0,.int .i64 0] 37)).trans (hb1.mono (by simp)))
 have HR1:=Lh ((Row.new w 37 [.int .i64 0,.int .i64 0,.int .i64 0]).below hb1)
 clear hb1 H1
 go_wp2_with fail
 refine(H2.out _).mono ?_
 rintro e w2 ⟨rfl,hb2⟩
 have HB2:=Lh (below0 HB1.out hb2)
 have HR2:=Lh (HR1.out.below hb2)
 clear hb2 H2 HB1 HR1
 simp only [Wn.siV]
 obtain⟨W2,hW2⟩:=Nm (w2.alloc (.cells #[.int .i64 (kd:Int),.int .i64 (s:Int),.int .i64 (c:Int),.int .i64 (q:Int)] 89))
 have hl2:=HR2.out.lt
 have hs2:Row W2 w2.heap.size 89 [.int .i64 (kd:Int),.int .i64 (s:Int),.int .i64 (c:Int),.int .i64 (q:Int)]:=by rw [hW2];exact Row.new _ _ _
 have HB3:=Lh (show Below w.heap.size w W2 by rw [hW2];exact HB2.out.alloc HB2.out.size _)
 have HR3:=Lh (show Row W2 w.heap.size 37 [.int .i64 0,.int .i64 0,.int .i64 0] by rw [hW2];exact HR2.out.below (below1 _ _))
 have HWE:=Lh hW2
 have HSE:=Lh (show w2.heap.size < W2.heap.size by rw [hW2];simp)
 have HLT:=Lh hl2
 obtain⟨g,hg⟩:=Nm (w2.heap.size)
 have HG:=Lh hg
 rw [←hg]at hs2
 have HS2:=Lh hs2
 clear hW2 hs2 hl2 hg HB2 HR2
 go_wp2_with fail
 rw [←HWE.out,←HG.out]
 refine(H3.out _ (HT.out.below HB3.out)).mono ?_
 rintro e w3 ⟨rfl,hb3⟩
 have HB4:=Lh (below0 HB3.out hb3)
 have HR4:=Lh (HR3.out.below hb3)
 have HS4:=Lh (HS2.out.below hb3)
 clear hb3 H3 HB3 HR3 HS2 HWE HG HSE HLT
 go_wp2_with fail
 refine(H4.out _).mono ?_
 rintro e w4 ⟨rfl,hb4⟩
 have hba:Below w3.heap.size w3 w4:=(below1 _ _).trans (hb4.mono (by simp))
 have HB:=Lh (below0 HB4.out hba)
 have r1:=HR4.out.below hba
 have st1:=HS4.out.below hba
 have HR:=Lh r1
 have s0:=st1.cell 0
 have s1:=st1.cell 1
 have s2:=st1.cell 2
 have s3:=st1.cell 3
 have c0:=r1.cell 0
 have c1:=r1.cell 1
 have c2:=r1.cell 2
 have f0:=r1.frozen 0
 have f1:=r1.frozen 1
 have f2:=r1.frozen 2
 clear r1 st1 hb4 hba H4 HB4 HR4 HS4
 cases x
 ·go_wp2_with fail
  refine wp_goto (hJm.out _ _ _ _ _ rfl ?_)
  go_wp2
  refine hR.out _ _ _ _ (by simp) ?_
  have hok:=HX3.out
  subst hok
  have R8:=row_set3 (.int .i64 0) (.int .i64 0) (.int .i64 0) HR.out
  have B8:=below_set3 (b:=w.heap.size) (.int .i64 0) (.int .i64 0) (.int .i64 0) HB.out Lr
  clear s0 s1 s2 s3 c0 c1 c2 f0 f1 f2
  have d0:=R8.cell 0
  have d1:=R8.cell 1
  have d2:=R8.cell 2
  exact bodyPost_ret (v:= .tuple #[.agg #[.int .i64 0,.int .i64 0,.int .i64 0],.int .i64 250]) (by simp [results,Tryz.results9,go_sem,d0,d1,d2]) rfl ⟨rfl,B8⟩
 ·cases b
  ·go_wp2_with fail
   refine wp_goto (hJm.out _ _ _ _ _ rfl ?_)
   go_wp2
   refine hR.out _ _ _ _ (by simp) ?_
   have hok:=HX3.out
   subst hok
   have R8:=row_set3 (.int .i64 0) (.int .i64 0) (.int .i64 0) HR.out
   have B8:=below_set3 (b:=w.heap.size) (.int .i64 0) (.int .i64 0) (.int .i64 0) HB.out Lr
   clear s0 s1 s2 s3 c0 c1 c2 f0 f1 f2
   have d0:=R8.cell 0
   have d1:=R8.cell 1
   have d2:=R8.cell 2
   exact bodyPost_ret (v:= .tuple #[.agg #[.int .i64 0,.int .i64 0,.int .i64 0],.int .i64 250]) (by simp [results,Tryz.results9,go_sem,d0,d1,d2]) rfl ⟨rfl,B8⟩
  ·go_wp2
   refine hR.out _ _ _ _ (by simp) ?_
   have hok:=HX3.out
   subst hok
   have R8:=row_set3 (.int .i64 (s:Int)) (.int .i64 (c:Int)) (.int .i64 (i:Int)) HR.out
   have B8:=below_set3 (b:=w.heap.size) (.int .i64 (s:Int)) (.int .i64 (c:Int)) (.int .i64 (i:Int)) HB.out Lr
   clear s0 s1 s2 s3 c0 c1 c2 f0 f1 f2
   have d0:=R8.cell 0
   have d1:=R8.cell 1
   have d2:=R8.cell 2
   exact bodyPost_ret (v:= .tuple #[.agg #[.int .i64 (s:Int),.int .i64 (c:Int),.int .i64 (i:Int)],.int .i64 0]) (by simp [results,Tryz.results9,go_sem,d0,d1,d2]) rfl ⟨rfl,B8⟩
theorem find_any (a:Nat) (w:World) (hT:Tabs w) (ha:a < 4294967296):Calls Tryz.prog 9 #[.int .u32 (a:Int)] w fun e w'=>e= .returned (fndV (findS a))∧Below w.heap.size w w':=by
 obtain⟨hs,hc⟩:=plc_lt (pgN a) (pgN_lt a)
 have hE:=findS_eq a ha _ _ rfl rfl
 rw [hE]
 have hpb:=pay_bound hc
 refine find_walk a _ _ _ (Wn.plc (pgN a)).2.2.2 _ _ _ _ _ w hT (fun W=>split_any a W ha) (fun W=>Wn.of_yes (pgN a) W (pgN_lt a)) (fun W hW=>payloads_yes _ _ W hW hs hc) (fun W=>index_any _ _ _ a W (by omega) (by omega) (by omega))
end Go.Proofs.YtfcfbcjiijfjgaaGreatDoor.Me
